import Derived.Test.YtodionedjokdmaaRb
import Derived.Test.YtodionedjokdmaaNa
import Derived.Test.YtodionedjokdmaaRd
import Derived.RangeFuncNested
import Derived.RangeFuncBound
import Derived.RangeFuncCalls
import Derived.RangeFuncLeaves
import Derived.Shelf.Abstract
import Derived.Shelf.RegionOpen
import Derived.OwnWalkIn
import Derived.TacticsInMore
import Derived.LoopNIn
import Derived.LoopIn
namespace Go.Proofs.Ytodionedjokdmaa
open Go.RowKit
set_option linter.unusedVariables false
set_option linter.unusedSimpArgs false

theorem first_q (a1 : Option Addr) (c1 b o n cap : Nat) (q : Nat) (w : World) (h : w.cell? ⟨b, o, none⟩ = some (.int .u32 q)) :
    Calls Try.prog 55 #[.slice a1 0 c1, .slice (some ⟨b, o, none⟩) (n + 1) cap] w fun e w' => e = .returned (.int .u32 q) ∧ ∃ m, w' = w.drewN m := by
  go_enter Try.func55, Try.ntmps55
  go_wp2
  go_ret
  exact ⟨rfl, 0, rfl⟩
theorem first_p (a1 : Option Addr) (c1 b o n cap : Nat) (p : Nat) (w : World) (h : w.cell? ⟨b, o, none⟩ = some (.int .u32 p)) :
    Calls Try.prog 55 #[.slice (some ⟨b, o, none⟩) (n + 1) cap, .slice a1 0 c1] w fun e w' => e = .returned (.int .u32 p) ∧ ∃ m, w' = w.drewN m := by
  have h0 : (((n + 1 : Nat) : Int) == 0) = false := by rw [beq_eq_false_iff_ne]; omega
  go_enter Try.func55, Try.ntmps55
  go_wp2
  go_ret
  exact ⟨rfl, 0, rfl⟩
theorem first_pq (b1 o1 n1 c1 b2 o2 n2 c2 : Nat) (p q m : Nat) (hm : min p q = m) (w : World) (h1 : w.cell? ⟨b1, o1, none⟩ = some (.int .u32 p)) (h2 : w.cell? ⟨b2, o2, none⟩ = some (.int .u32 q)) :
    Calls Try.prog 55 #[.slice (some ⟨b1, o1, none⟩) (n1 + 1) c1, .slice (some ⟨b2, o2, none⟩) (n2 + 1) c2] w fun e w' => e = .returned (.int .u32 m) ∧ ∃ m, w' = w.drewN m := by
  have k1 : (((n1 + 1 : Nat) : Int) == 0) = false := by rw [beq_eq_false_iff_ne]; omega
  have k2 : (((n2 + 1 : Nat) : Int) == 0) = false := by rw [beq_eq_false_iff_ne]; omega
  go_enter Try.func55, Try.ntmps55
  go_wp2
  go_quiet (fail)
  go_wp2_with fail
  · go_ret
    exact ⟨by rw [← hm, show min p q = q from by omega]; rfl, _, rfl⟩
  · go_ret
    exact ⟨by rw [← hm, show min p q = p from by omega]; rfl, _, rfl⟩
theorem isNaN_any (x : Nat) (w : World) : Calls Try.prog 49 #[.int .u32 x] w fun e w' => e = .returned (.bool false) ∧ w = w' := by
  go_enter Try.func49, Try.ntmps49
  go_wp2
  go_ret
  exact ⟨by simp, rfl⟩
/-- What a comparison of two categories says. -/
def cmp3 (x y : Nat) : Int := if x < y then -1 else if y < x then 1 else 0
theorem compare_any (x y : Nat) (w : World) : Calls Try.prog 42 #[.int .u32 x, .int .u32 y] w fun e w' => e = .returned (.int .i64 (cmp3 x y)) ∧ w = w' := by
  obtain ⟨r, er⟩ : ∃ r, cmp3 x y = r := ⟨_, rfl⟩
  rw [er]
  have ER := Lib.hid er
  have C1 := Lib.hid (fun (x : Nat) => isNaN_any x w)
  clear er
  rcases Nat.lt_trichotomy x y with h | h | h
  · have h1 : (x : Int) < y := by omega
    go_enter Try.func42, Try.ntmps42
    go_wp2_with fail
    refine (C1.out _).mono ?_
    rintro e w1 ⟨rfl, rfl⟩
    go_wp2_with fail
    refine (C1.out _).mono ?_
    rintro e w1 ⟨rfl, rfl⟩
    go_wp2_with fail
    go_ret
    exact ⟨by rw [← ER.out, cmp3, if_pos h]; rfl, rfl⟩
  · have h1 : ¬ (x : Int) < y := by omega
    have h2 : ¬ (y : Int) < x := by omega
    go_enter Try.func42, Try.ntmps42
    go_wp2_with fail
    refine (C1.out _).mono ?_
    rintro e w1 ⟨rfl, rfl⟩
    go_wp2_with fail
    refine (C1.out _).mono ?_
    rintro e w1 ⟨rfl, rfl⟩
    go_wp2_with fail
    go_ret
    exact ⟨by rw [← ER.out, cmp3, if_neg (by omega), if_neg (by omega)]; rfl, rfl⟩
  · have h1 : ¬ (x : Int) < y := by omega
    have h2 : (y : Int) < x := by omega
    go_enter Try.func42, Try.ntmps42
    go_wp2_with fail
    refine (C1.out _).mono ?_
    rintro e w1 ⟨rfl, rfl⟩
    go_wp2_with fail
    refine (C1.out _).mono ?_
    rintro e w1 ⟨rfl, rfl⟩
    go_wp2_with fail
    go_ret
    exact ⟨by rw [← ER.out, cmp3, if_neg (by omega), if_pos h]; rfl, rfl⟩
theorem cmpf_any (x : Nat) (l : Int) (y : Nat) (w : World) : Calls Try.prog 41 #[.agg #[.int .u32 x, .int .i64 l], .int .u32 y] w fun e w' => e = .returned (.int .i64 (cmp3 x y)) ∧ Below w.heap.size w w' := by
  have C1 := Lib.hid (fun (w : World) => compare_any x y w)
  go_enter Try.func41, Try.ntmps41
  go_wp2_with fail
  refine (C1.out _).mono ?_
  rintro e w1 ⟨rfl, rfl⟩
  go_wp2_with fail
  go_ret
  exact ⟨rfl, (Below.refl _ _).alloc (Nat.le_refl _) _⟩
end Go.Proofs.Ytodionedjokdmaa
-- with Sb
namespace Lab
/-- Where a category stands among rising ones, or would stand. -/
def IsPos (ps : List (Nat × Int)) (c i : Nat) : Prop := i ≤ ps.length ∧ (∀ t p, t < i → ps[t]? = some p → p.1 < c) ∧ (∀ t p, i ≤ t → ps[t]? = some p → c ≤ p.1)
theorem rise_get {ps : List (Nat × Int)} (h : Rise ps) {s t : Nat} {p q : Nat × Int} (hst : s < t) (hp : ps[s]? = some p) (hq : ps[t]? = some q) : p.1 < q.1 := by
  obtain ⟨h1, rfl⟩ := List.getElem?_eq_some_iff.1 hp
  obtain ⟨h2, rfl⟩ := List.getElem?_eq_some_iff.1 hq
  exact (List.pairwise_iff_getElem.1 h) s t h1 h2 hst
end Lab
namespace Go.Proofs.Ytodionedjokdmaa
open Go.RowKit
set_option linter.unusedVariables false
set_option linter.unusedSimpArgs false

theorem cmp3_lt {x y : Nat} (h : x < y) : cmp3 x y = -1 := by rw [cmp3, if_pos h]
theorem cmp3_eq {x y : Nat} (h : x = y) : cmp3 x y = 0 := by rw [cmp3, if_neg (by omega), if_neg (by omega)]
theorem cmp3_gt {x y : Nat} (h : y < x) : cmp3 x y = 1 := by rw [cmp3, if_neg (by omega), if_pos h]
set_option maxRecDepth 100000 in
set_option maxHeartbeats 4000000 in
theorem search_some (b off cap n : Nat) (ps : List (Nat × Int)) (c : Nat) (w : World) (hl : ps.length = n) (hn : n ≤ 140737488351232) (hb : b < w.heap.size) (hr : Lab.Rise ps)
   (hc : ∀ i p, ps[i]? = some p → w.cell? ⟨b, off + i * 2, none⟩ = some (.int .u32 p.1) ∧ w.cell? ⟨b, off + i * 2 + 1, none⟩ = some (.int .i64 p.2)) :
    Calls Try.prog 40 #[.slice (some ⟨b, off, none⟩) n cap, .int .u32 c, .func (.func 41) #[] #[]] w fun e w' =>
      ∃ (i : Nat) (fnd : Bool), e = .returned (.tuple #[.int .i64 i, .bool fnd]) ∧ Lab.IsPos ps c i ∧ (fnd = true ↔ ∃ p, ps[i]? = some p ∧ p.1 = c) ∧ Below w.heap.size w w' := by
  have HC := Lib.hid (fun (wx : World) (h : Below w.heap.size w wx) (i : Nat) (p : Nat × Int) (hp : ps[i]? = some p) =>
    (⟨by rw [h.cell (p := ⟨b, off + i * 2, none⟩) hb]; exact (hc i p hp).1, by rw [h.cell (p := ⟨b, off + i * 2 + 1, none⟩) hb]; exact (hc i p hp).2⟩ :
      wx.cell? ⟨b, off + i * 2, none⟩ = some (.int .u32 p.1) ∧ wx.cell? ⟨b, off + i * 2 + 1, none⟩ = some (.int .i64 p.2)))
  have HL := Lib.hid hl
  have HR := Lib.hid hr
  have C1 := Lib.hid (fun (x : Nat) (l : Int) (w : World) => cmpf_any x l c w)
  clear hc hl hr
  go_enter Try.func40, Try.ntmps40
  go_wp2_with fail
  go_loopg [9, 10] n (fun kx s9 s10 wr => ∃ lo hi : Nat, s9 = .int .i64 lo ∧ s10 = .int .i64 hi ∧ lo ≤ hi ∧ hi ≤ n ∧ hi - lo ≤ kx ∧ Hid (Below w.heap.size w wr) ∧
    Hid ((∀ t p, t < lo → ps[t]? = some p → p.1 < c) ∧ (∀ t p, hi ≤ t → ps[t]? = some p → c ≤ p.1)))
  case atStart => exact ⟨0, n, rfl, rfl, Nat.zero_le _, Nat.le_refl _, by omega, Lib.hid (Below.refl _ _), Lib.hid ⟨fun t p ht => absurd ht (Nat.not_lt_zero _), fun t p h1 h2 => absurd (List.getElem?_eq_some_iff.1 h2).1 (by rw [HL.out]; omega)⟩⟩
  case round =>
    obtain ⟨lo, hi, rfl, rfl, hlh, hin, hg, hB, I⟩ := hrel
    by_cases hlt : lo < hi
    · obtain ⟨p, hp⟩ : ∃ p, ps[(lo + hi) / 2]? = some p := ⟨_, List.getElem?_eq_getElem (by rw [HL.out]; omega)⟩
      obtain ⟨x1, x2⟩ := HC.out wr hB.out _ _ hp
      have HP := Lib.hid hp
      clear hp
      obtain ⟨p1, p2⟩ := p
      by_cases hyx : p1 < c
      · have hcall := Lib.hid (fun (w : World) => cmp3_lt hyx ▸ C1.out p1 p2 w)
        go_wp2_with fail
        refine (hcall.out _).mono ?_
        rintro e w' ⟨rfl, hb'⟩
        have hB' := Lib.hid (hB.out.trans (hb'.mono hB.out.size))
        clear hb'
        go_wp2_with fail
        go_roundg (hi - ((lo + hi) / 2 + 1))
        case measure => omega
        case rel =>
          have I2 : Hid ((∀ t p, t < (lo + hi) / 2 + 1 → ps[t]? = some p → p.1 < c) ∧ (∀ t p, hi ≤ t → ps[t]? = some p → c ≤ p.1)) := Lib.hid ⟨fun t p ht hp => by
            by_cases e : t = (lo + hi) / 2
            · subst e; rw [HP.out] at hp; cases hp; exact hyx
            · have := Lab.rise_get HR.out (s := t) (by omega) hp HP.out; simp only at this; omega, I.out.2⟩
          exact ⟨(lo + hi) / 2 + 1, hi, by rw [show ((lo : Int) + (hi : Int)) / 2 + 1 = (((lo + hi) / 2 + 1 : Nat) : Int) by omega], rfl, by omega, hin, Nat.le_refl _, hB', I2⟩
      · obtain ⟨r, hr0, hr1⟩ : ∃ r, cmp3 p1 c = r ∧ ¬ r < 0 := ⟨_, rfl, by
          rcases Nat.lt_trichotomy p1 c with h | h | h
          · omega
          · rw [cmp3_eq h]; omega
          · rw [cmp3_gt h]; omega⟩
        have hcall := Lib.hid (fun (w : World) => hr0 ▸ C1.out p1 p2 w)
        clear hr0
        go_wp2_with fail
        refine (hcall.out _).mono ?_
        rintro e w' ⟨rfl, hb'⟩
        have hB' := Lib.hid (hB.out.trans (hb'.mono hB.out.size))
        clear hb'
        go_wp2_with fail
        go_roundg ((lo + hi) / 2 - lo)
        case measure => omega
        case rel =>
          have I2 : Hid ((∀ t p, t < lo → ps[t]? = some p → p.1 < c) ∧ (∀ t p, (lo + hi) / 2 ≤ t → ps[t]? = some p → c ≤ p.1)) := Lib.hid ⟨I.out.1, fun t p ht hp => by
            by_cases e : t = (lo + hi) / 2
            · subst e; rw [HP.out] at hp; cases hp; simp only; omega
            · have := Lab.rise_get HR.out (t := t) (by omega) HP.out hp; simp only at this; omega⟩
          exact ⟨lo, (lo + hi) / 2, rfl, by rw [show ((lo : Int) + (hi : Int)) / 2 = (((lo + hi) / 2 : Nat) : Int) by omega], by omega, by omega, Nat.le_refl _, hB', I2⟩
    · obtain rfl : hi = lo := by omega
      have hpos : Hid (Lab.IsPos ps c hi) := Lib.hid ⟨by rw [HL.out]; exact hin, I.out.1, I.out.2⟩
      clear I
      by_cases hnn : hi < n
      · obtain ⟨p, hp⟩ : ∃ p, ps[hi]? = some p := ⟨_, List.getElem?_eq_getElem (by rw [HL.out]; omega)⟩
        obtain ⟨x1, x2⟩ := HC.out wr hB.out _ _ hp
        have HP := Lib.hid hp
        clear hp
        obtain ⟨p1, p2⟩ := p
        by_cases hyx : p1 = c
        · have hcall := Lib.hid (fun (w : World) => cmp3_eq hyx ▸ C1.out p1 p2 w)
          have hfnd : Hid (true = true ↔ ∃ p, ps[hi]? = some p ∧ p.1 = c) := Lib.hid ⟨fun _ => ⟨_, HP.out, hyx⟩, fun _ => rfl⟩
          clear hyx
          go_wp2_with fail
          refine (hcall.out _).mono ?_
          rintro e w' ⟨rfl, hb'⟩
          have hB' := Lib.hid (hB.out.trans (hb'.mono hB.out.size))
          clear hb'
          go_wp2_with fail
          go_ret2
          exact ⟨hi, true, rfl, hpos.out, by simpa using hfnd.out, hB'.out⟩
        · obtain ⟨r, hr0, hr1⟩ : ∃ r, cmp3 p1 c = r ∧ (r == 0) = false := ⟨_, rfl, by
            rcases Nat.lt_trichotomy p1 c with h | h | h
            · rw [cmp3_lt h]; rfl
            · omega
            · rw [cmp3_gt h]; rfl⟩
          have hcall := Lib.hid (fun (w : World) => hr0 ▸ C1.out p1 p2 w)
          have hfnd : Hid (false = true ↔ ∃ p, ps[hi]? = some p ∧ p.1 = c) := Lib.hid ⟨fun h => (by cases h), fun ⟨q, hq, e⟩ => by rw [HP.out] at hq; cases hq; exact absurd e hyx⟩
          clear hyx hr0
          go_wp2_with fail
          refine (hcall.out _).mono ?_
          rintro e w' ⟨rfl, hb'⟩
          have hB' := Lib.hid (hB.out.trans (hb'.mono hB.out.size))
          clear hb'
          go_wp2_with fail
          go_ret2
          exact ⟨hi, false, by first | rfl | simp [hr1], hpos.out, hfnd.out, hB'.out⟩
      · have hfnd : Hid (false = true ↔ ∃ p, ps[hi]? = some p ∧ p.1 = c) := Lib.hid ⟨fun h => (by cases h), fun ⟨q, hq, e⟩ => absurd (List.getElem?_eq_some_iff.1 hq).1 (by rw [HL.out]; omega)⟩
        go_wp2_with fail
        go_ret2
        exact ⟨hi, false, rfl, hpos.out, hfnd.out, hB.out⟩
end Go.Proofs.Ytodionedjokdmaa
-- with Sc
namespace Lab
end Lab
namespace Go.Proofs.Ytodionedjokdmaa
open Go.RowKit
set_option linter.unusedVariables false
set_option linter.unusedSimpArgs false

theorem search_none (c : Nat) (w : World) :
    Calls Try.prog 40 #[.slice none 0 0, .int .u32 c, .func (.func 41) #[] #[]] w fun e w' => e = .returned (.tuple #[.int .i64 0, .bool false]) ∧ w' = w := by
  go_enter Try.func40, Try.ntmps40
  go_wp2
  go_loopg [9, 10] 0 (fun kx s9 s10 wr => s9 = .int .i64 0 ∧ s10 = .int .i64 0 ∧ wr = w)
  case atStart => exact ⟨rfl, rfl, rfl⟩
  case round =>
    obtain ⟨rfl, rfl, rfl⟩ := hrel
    go_wp2
    go_ret2
    exact ⟨rfl, rfl⟩
theorem search_any (v : Value) (ps : List (Nat × Int)) (c : Nat) (w : World) (hr : Lab.Rise ps) (h : Reads w v ps) :
    Calls Try.prog 40 #[v, .int .u32 c, .func (.func 41) #[] #[]] w fun e w' =>
      ∃ (i : Nat) (fnd : Bool), e = .returned (.tuple #[.int .i64 i, .bool fnd]) ∧ Lab.IsPos ps c i ∧ (fnd = true ↔ ∃ p, ps[i]? = some p ∧ p.1 = c) ∧ Below w.heap.size w w' := by
  rcases h with ⟨rfl, rfl⟩ | ⟨b, off, cap, rfl, h2, h3, h4⟩
  · refine (search_none c w).mono ?_
    rintro e w' ⟨rfl, rfl⟩
    exact ⟨0, false, rfl, ⟨by simp, fun t p ht => by omega, fun t p ht hp => by simp at hp⟩, by simp, Below.refl _ _⟩
  · exact search_some b off cap _ ps c w rfl h3 h2 hr h4
theorem find_any (v : Value) (ps : List (Nat × Int)) (D : Int) (c : Nat) (w : World) (hr : Lab.Rise ps) (h : Reads w v ps) :
    Calls Try.prog 29 #[.agg #[.int .i64 D, v], .int .u32 c] w fun e w' =>
      ∃ (i : Nat) (fnd : Bool), e = .returned (.tuple #[.int .i64 i, .bool fnd]) ∧ Lab.IsPos ps c i ∧ (fnd = true ↔ ∃ p, ps[i]? = some p ∧ p.1 = c) ∧ Below w.heap.size w w' := by
  have hB : Below w.heap.size w (w.alloc (Obj.cells #[.int .i64 D, v] 44)) := (Below.refl _ _).alloc (Nat.le_refl _) _
  have C1 := Lib.hid (search_any v ps c _ hr (h.below hB))
  have HB := Lib.hid hB
  clear hB hr h
  go_enter Try.func29, Try.ntmps29
  go_wp2_with fail
  refine C1.out.mono ?_
  rintro e w1 ⟨i, fnd, rfl, h1, h2, h3⟩
  have H := Lib.hid (And.intro h1 (And.intro h2 (HB.out.trans (h3.mono (by simp)))))
  clear h1 h2 h3
  go_wp2_with fail
  go_ret2
  exact ⟨i, fnd, rfl, H.out⟩
end Go.Proofs.Ytodionedjokdmaa
-- with Sd
namespace Go.Proofs.Ytodionedjokdmaa
open Go.RowKit
set_option linter.unusedVariables false
set_option linter.unusedSimpArgs false

/-- A slice of pairs, in a block below n₀, with room for them, reads as a list of them. -/
def RC (n₀ : Nat) (w : World) (v : Value) (ps : List (Nat × Int)) : Prop :=
  (v = .slice none 0 0 ∧ ps = []) ∨ ∃ b off cap, v = .slice (some ⟨b, off, none⟩) ps.length cap ∧ b < n₀ ∧ ps.length ≤ cap ∧ ps.length ≤ 140737488351232 ∧
    ∀ i p, ps[i]? = some p → w.cell? ⟨b, off + i * 2, none⟩ = some (.int .u32 p.1) ∧ w.cell? ⟨b, off + i * 2 + 1, none⟩ = some (.int .i64 p.2)
theorem RC.below {n₀ : Nat} {w w' : World} {v : Value} {ps : List (Nat × Int)} (h : RC n₀ w v ps) (hb : Below n₀ w w') : RC n₀ w' v ps := by
  rcases h with h | ⟨b, off, cap, h1, h2, h3, h4, h5⟩
  · exact .inl h
  · refine .inr ⟨b, off, cap, h1, h2, h3, h4, fun i p hp => ?_⟩
    rw [hb.cell (p := ⟨b, _, none⟩) h2, hb.cell (p := ⟨b, _, none⟩) h2]
    exact h5 i p hp
theorem RC.mono {n₀ n₁ : Nat} {w : World} {v : Value} {ps : List (Nat × Int)} (h : RC n₀ w v ps) (hn : n₀ ≤ n₁) : RC n₁ w v ps := by
  rcases h with h | ⟨b, off, cap, h1, h2, h3⟩
  · exact .inl h
  · exact .inr ⟨b, off, cap, h1, by omega, h3⟩
theorem RC.reads {n₀ : Nat} {w : World} {v : Value} {ps : List (Nat × Int)} (h : RC n₀ w v ps) (hn : n₀ ≤ w.heap.size) : Reads w v ps := by
  rcases h with h | ⟨b, off, cap, h1, h2, h3, h4, h5⟩
  · exact .inl h
  · exact .inr ⟨b, off, cap, h1, by omega, h4, h5⟩
theorem RC.nil {n₀ : Nat} {w : World} {v : Value} (h : RC n₀ w v []) : ∃ a c, v = .slice a 0 c := by
  rcases h with ⟨rfl, _⟩ | ⟨b, off, cap, rfl, _⟩
  · exact ⟨_, _, rfl⟩
  · exact ⟨_, _, rfl⟩
/-- The head of it, and what slicing it off leaves. -/
theorem RC.cons {n₀ : Nat} {w : World} {v : Value} {p : Nat × Int} {ps : List (Nat × Int)} (h : RC n₀ w v (p :: ps)) :
    ∃ b off cap off', v = .slice (some ⟨b, off, none⟩) (ps.length + 1) cap ∧ b < n₀ ∧ 1 ≤ cap ∧
      w.cell? ⟨b, off, none⟩ = some (.int .u32 p.1) ∧ w.cell? ⟨b, off + 1, none⟩ = some (.int .i64 p.2) ∧
      (∀ wx, (Instr.slice 42 (.slice (some ⟨b, off, none⟩) (ps.length + 1) cap) (some (.int .i64 1)) none none).run Try.prog wx = .ok (.slice (some ⟨b, off', none⟩) ps.length (cap - 1)) wx) ∧
      ∀ w', Below n₀ w w' → RC n₀ w' (.slice (some ⟨b, off', none⟩) ps.length (cap - 1)) ps := by
  rcases h with ⟨_, h⟩ | ⟨b, off, cap, rfl, h2, h3, h4, h5⟩
  · cases h
  · simp only [List.length_cons] at h3 h4 ⊢
    obtain ⟨c1, c2⟩ := h5 0 p rfl
    simp only [Nat.zero_mul, Nat.add_zero] at c1 c2
    refine ⟨b, off, cap, if cap = 1 then off else off + 2, rfl, h2, by omega, c1, c2, fun wx => ?_, fun w' hb => ?_⟩
    · have u22 := Try.underlying42
      have z47 := Try.sizeOf47
      by_cases e : cap = 1
      · subst e
        have e0 : ps.length = 0 := by omega
        go_simp
      · rw [if_neg e]
        go_simp
        intro h
        omega
    · refine .inr ⟨b, _, cap - 1, rfl, h2, by omega, by omega, fun i q hq => ?_⟩
      have hi := (List.getElem?_eq_some_iff.1 hq).1
      rw [if_neg (by omega), hb.cell (p := ⟨b, _, none⟩) h2, hb.cell (p := ⟨b, _, none⟩) h2]
      have := h5 (i + 1) q (by simpa using hq)
      rw [show off + 2 + i * 2 = off + (i + 1) * 2 from by omega]
      exact this
end Go.Proofs.Ytodionedjokdmaa
