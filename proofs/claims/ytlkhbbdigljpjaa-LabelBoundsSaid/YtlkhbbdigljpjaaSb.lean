import Derived.Test.YtlkhbbdigljpjaaSa
namespace Lab
/-- Where a category stands among rising ones, or would stand. -/
def IsPos (ps : List (Nat × Int)) (c i : Nat) : Prop := i ≤ ps.length ∧ (∀ t p, t < i → ps[t]? = some p → p.1 < c) ∧ (∀ t p, i ≤ t → ps[t]? = some p → c ≤ p.1)
theorem rise_get {ps : List (Nat × Int)} (h : Rise ps) {s t : Nat} {p q : Nat × Int} (hst : s < t) (hp : ps[s]? = some p) (hq : ps[t]? = some q) : p.1 < q.1 := by
  obtain ⟨h1, rfl⟩ := List.getElem?_eq_some_iff.1 hp
  obtain ⟨h2, rfl⟩ := List.getElem?_eq_some_iff.1 hq
  exact (List.pairwise_iff_getElem.1 h) s t h1 h2 hst
end Lab
namespace Go.Proofs.Ytlkhbbdigljpjaa
open Go.RowKit
set_option linter.unusedVariables false
set_option linter.unusedSimpArgs false

theorem cmp3_lt {x y : Nat} (h : x < y) : cmp3 x y = -1 := by rw [cmp3, if_pos h]
theorem cmp3_eq {x y : Nat} (h : x = y) : cmp3 x y = 0 := by rw [cmp3, if_neg (by omega), if_neg (by omega)]
theorem cmp3_gt {x y : Nat} (h : y < x) : cmp3 x y = 1 := by rw [cmp3, if_neg (by omega), if_pos h]

set_option maxRecDepth 100000 in
set_option maxHeartbeats 4000000 in
theorem search_some (b off cap n : Nat) (ps : List (Nat × Int)) (c : Nat) (w : World) (hl : ps.length = n) (hn : n ≤ 140737488351232) (hb : b < w.heap.size) (hr : Lab.Rise ps)
   (hc : ∀ i p, ps[i]? = some p → w.cell? ⟨b, off + i * 2, none⟩ = some (.int .u32 p.1) ∧ w.cell? ⟨b, off + i * 2 + 1, none⟩ = some (.int .i64 p.2)) :
    Calls Try.prog 47 #[.slice (some ⟨b, off, none⟩) n cap, .int .u32 c, .func (.func 48) #[] #[]] w fun e w' =>
      ∃ (i : Nat) (fnd : Bool), e = .returned (.tuple #[.int .i64 i, .bool fnd]) ∧ Lab.IsPos ps c i ∧ (fnd = true ↔ ∃ p, ps[i]? = some p ∧ p.1 = c) ∧ Below w.heap.size w w' := by
  have HC := Lib.hid (fun (wx : World) (h : Below w.heap.size w wx) (i : Nat) (p : Nat × Int) (hp : ps[i]? = some p) =>
    (⟨by rw [h.cell (p := ⟨b, off + i * 2, none⟩) hb]; exact (hc i p hp).1, by rw [h.cell (p := ⟨b, off + i * 2 + 1, none⟩) hb]; exact (hc i p hp).2⟩ :
      wx.cell? ⟨b, off + i * 2, none⟩ = some (.int .u32 p.1) ∧ wx.cell? ⟨b, off + i * 2 + 1, none⟩ = some (.int .i64 p.2)))
  have HL := Lib.hid hl
  have HR := Lib.hid hr
  have C1 := Lib.hid (fun (x : Nat) (l : Int) (w : World) => cmpf_any x l c w)
  clear hc hl hr
  go_enter Try.func47, Try.ntmps47
  go_wp2_with fail
  go_loopg [9, 10] n (fun kx s9 s10 wr => ∃ lo hi : Nat, s9 = .int .i64 lo ∧ s10 = .int .i64 hi ∧ lo ≤ hi ∧ hi ≤ n ∧ hi - lo ≤ kx ∧ Hid (Below w.heap.size w wr) ∧
    Hid ((∀ t p, t < lo → ps[t]? = some p → p.1 < c) ∧ (∀ t p, hi ≤ t → ps[t]? = some p → c ≤ p.1)))
  case atStart => exact ⟨0, n, rfl, rfl, Nat.zero_le _, Nat.le_refl _, by omega, Lib.hid (Below.refl _ _), Lib.hid ⟨fun t p ht => absurd ht (Nat.not_lt_zero _), fun t p h1 h2 => absurd (List.getElem?_eq_some_iff.1 h2).1 (by rw [HL.out]; omega)⟩⟩
  case round =>
    obtain ⟨lo, hi, rfl, rfl, hlh, hin, hg, hB, I⟩ := hrel
    by_cases hlt : lo < hi
    · obtain ⟨p, hp⟩ : ∃ p, ps[(lo + hi) / 2]? = some p := ⟨_, List.getElem?_eq_getElem (by rw [HL.out]; omega)⟩
      obtain ⟨x1, x2⟩ := HC.out wr hB.out _ _ hp
      have HP := Lib.hid hp
      clear hp
      obtain ⟨p1, p2⟩ := p
      by_cases hyx : p1 < c
      · have hcall := Lib.hid (fun (w : World) => cmp3_lt hyx ▸ C1.out p1 p2 w)
        go_wp2_with fail
        refine (hcall.out _).mono ?_
        rintro e w' ⟨rfl, hb'⟩
        have hB' := Lib.hid (hB.out.trans (hb'.mono hB.out.size))
        clear hb'
        go_wp2_with fail
        go_roundg (hi - ((lo + hi) / 2 + 1))
        case measure => omega
        case rel =>
          have I2 : Hid ((∀ t p, t < (lo + hi) / 2 + 1 → ps[t]? = some p → p.1 < c) ∧ (∀ t p, hi ≤ t → ps[t]? = some p → c ≤ p.1)) := Lib.hid ⟨fun t p ht hp => by
            by_cases e : t = (lo + hi) / 2
            · subst e; rw [HP.out] at hp; cases hp; exact hyx
            · have := Lab.rise_get HR.out (s := t) (by omega) hp HP.out; simp only at this; omega, I.out.2⟩
          exact ⟨(lo + hi) / 2 + 1, hi, by rw [show ((lo : Int) + (hi : Int)) / 2 + 1 = (((lo + hi) / 2 + 1 : Nat) : Int) by omega], rfl, by omega, hin, Nat.le_refl _, hB', I2⟩
      · obtain ⟨r, hr0, hr1⟩ : ∃ r, cmp3 p1 c = r ∧ ¬ r < 0 := ⟨_, rfl, by
          rcases Nat.lt_trichotomy p1 c with h | h | h
          · omega
          · rw [cmp3_eq h]; omega
          · rw [cmp3_gt h]; omega⟩
        have hcall := Lib.hid (fun (w : World) => hr0 ▸ C1.out p1 p2 w)
        clear hr0
        go_wp2_with fail
        refine (hcall.out _).mono ?_
        rintro e w' ⟨rfl, hb'⟩
        have hB' := Lib.hid (hB.out.trans (hb'.mono hB.out.size))
        clear hb'
        go_wp2_with fail
        go_roundg ((lo + hi) / 2 - lo)
        case measure => omega
        case rel =>
          have I2 : Hid ((∀ t p, t < lo → ps[t]? = some p → p.1 < c) ∧ (∀ t p, (lo + hi) / 2 ≤ t → ps[t]? = some p → c ≤ p.1)) := Lib.hid ⟨I.out.1, fun t p ht hp => by
            by_cases e : t = (lo + hi) / 2
            · subst e; rw [HP.out] at hp; cases hp; simp only; omega
            · have := Lab.rise_get HR.out (t := t) (by omega) HP.out hp; simp only at this; omega⟩
          exact ⟨lo, (lo + hi) / 2, rfl, by rw [show ((lo : Int) + (hi : Int)) / 2 = (((lo + hi) / 2 : Nat) : Int) by omega], by omega, by omega, Nat.le_refl _, hB', I2⟩
    · obtain rfl : hi = lo := by omega
      have hpos : Hid (Lab.IsPos ps c hi) := Lib.hid ⟨by rw [HL.out]; exact hin, I.out.1, I.out.2⟩
      clear I
      by_cases hnn : hi < n
      · obtain ⟨p, hp⟩ : ∃ p, ps[hi]? = some p := ⟨_, List.getElem?_eq_getElem (by rw [HL.out]; omega)⟩
        obtain ⟨x1, x2⟩ := HC.out wr hB.out _ _ hp
        have HP := Lib.hid hp
        clear hp
        obtain ⟨p1, p2⟩ := p
        by_cases hyx : p1 = c
        · have hcall := Lib.hid (fun (w : World) => cmp3_eq hyx ▸ C1.out p1 p2 w)
          have hfnd : Hid (true = true ↔ ∃ p, ps[hi]? = some p ∧ p.1 = c) := Lib.hid ⟨fun _ => ⟨_, HP.out, hyx⟩, fun _ => rfl⟩
          clear hyx
          go_wp2_with fail
          refine (hcall.out _).mono ?_
          rintro e w' ⟨rfl, hb'⟩
          have hB' := Lib.hid (hB.out.trans (hb'.mono hB.out.size))
          clear hb'
          go_wp2_with fail
          go_ret2
          exact ⟨hi, true, rfl, hpos.out, by simpa using hfnd.out, hB'.out⟩
        · obtain ⟨r, hr0, hr1⟩ : ∃ r, cmp3 p1 c = r ∧ (r == 0) = false := ⟨_, rfl, by
            rcases Nat.lt_trichotomy p1 c with h | h | h
            · rw [cmp3_lt h]; rfl
            · omega
            · rw [cmp3_gt h]; rfl⟩
          have hcall := Lib.hid (fun (w : World) => hr0 ▸ C1.out p1 p2 w)
          have hfnd : Hid (false = true ↔ ∃ p, ps[hi]? = some p ∧ p.1 = c) := Lib.hid ⟨fun h => (by cases h), fun ⟨q, hq, e⟩ => by rw [HP.out] at hq; cases hq; exact absurd e hyx⟩
          clear hyx hr0
          go_wp2_with fail
          refine (hcall.out _).mono ?_
          rintro e w' ⟨rfl, hb'⟩
          have hB' := Lib.hid (hB.out.trans (hb'.mono hB.out.size))
          clear hb'
          go_wp2_with fail
          go_ret2
          exact ⟨hi, false, by first | rfl | simp [hr1], hpos.out, hfnd.out, hB'.out⟩
      · have hfnd : Hid (false = true ↔ ∃ p, ps[hi]? = some p ∧ p.1 = c) := Lib.hid ⟨fun h => (by cases h), fun ⟨q, hq, e⟩ => absurd (List.getElem?_eq_some_iff.1 hq).1 (by rw [HL.out]; omega)⟩
        go_wp2_with fail
        go_ret2
        exact ⟨hi, false, rfl, hpos.out, hfnd.out, hB.out⟩
end Go.Proofs.Ytlkhbbdigljpjaa
