/- slices.IndexFunc, Grow, Concat of maps. -/
import Derived.Test.YtbjegfkjibfadaaMb
set_option linter.unusedVariables false
set_option linter.unusedSimpArgs false
namespace Go.Proofs.Ytbjegfkjibfadaa
open Go.RowKit
set_option linter.unusedVariables false
set_option linter.unusedSimpArgs false
theorem isat_any (a s f n : Int) (b : Bool) {w : World} {P : Nat} {x : Int} (hP : w.cell? ⟨P, 0, none⟩ = some (.int .i64 x)) :
    Calls Try.prog 17 #[.agg #[.int .i64 a, .int .u64 s, .int .i64 f, .int .i64 n, .bool b], .pointer (some ⟨P, 0, none⟩)] w fun e w' => e = .returned (.bool (a == x)) ∧ Below w.heap.size w w' := by
  have hb := Lib.hid (below_alloc1 w (Obj.cells #[.int .i64 a, .int .u64 s, .int .i64 f, .int .i64 n, .bool b] 26))
  have hlt := World.block_lt_of_cell? w _ hP
  have hP1 : (w.alloc (Obj.cells #[.int .i64 a, .int .u64 s, .int .i64 f, .int .i64 n, .bool b] 26)).cell? ⟨P, 0, none⟩ = some (.int .i64 x) := by rw [hb.out.cell (p := ⟨P, 0, none⟩) hlt]; exact hP
  go_enter Try.func17, Try.ntmps17
  go_wp2_with fail
  go_ret
  exact ⟨rfl, hb.out⟩
/-- Where one that begins at x is, or -1. -/
def IsAt (us : List Mp) (x r : Int) : Prop := (r = -1 ∧ ∀ m ∈ us, m.a ≠ x) ∨ ∃ (k : Nat) (m : Mp), r = k ∧ us[k]? = some m ∧ m.a = x
set_option maxHeartbeats 1000000 in
theorem index_any {w : World} {A : Option Addr} {l c P : Nat} {us : List Mp} {x : Int} (hl : us.length = l) (hm : l ≤ 1000) (hr : LV 5 encM w A us) (hP : w.cell? ⟨P, 0, none⟩ = some (.int .i64 x)) :
    Calls Try.prog 16 #[.slice A l c, .func (.func 17) #[] #[.pointer (some ⟨P, 0, none⟩)]] w fun e w' => ∃ r, e = .returned (.int .i64 r) ∧ IsAt us x r ∧ Below w.heap.size w w' := by
  have HR := Lib.hid hr
  have HL := Lib.hid hl
  have HP := Lib.hid (And.intro hP (World.block_lt_of_cell? w _ hP))
  have CI := Lib.hid @isat_any
  clear hr hl hP
  go_enter Try.func16, Try.ntmps16
  go_wp2_with fail
  go_loopg [8] l (fun gh i wr => ∃ k : Nat, k ≤ l ∧ gh = l - k ∧ i = .int .i64 k ∧ Hid (∀ j m, j < k → us[j]? = some m → m.a ≠ x) ∧ Hid (Below w.heap.size w wr))
  case atStart => exact ⟨0, by omega, by omega, rfl, Lib.hid fun j m hj => by omega, Lib.hid (Below.refl _ _)⟩
  case round =>
    obtain ⟨k, hk, hg, rfl, hx, hI⟩ := hrel
    by_cases hlt : k < l
    · obtain ⟨m, hy⟩ : ∃ m, us[k]? = some m := ⟨_, List.getElem?_eq_getElem (by rw [HL.out]; exact hlt)⟩
      obtain ⟨B, off, rfl, hb, c0, c1, c2, c3, c4⟩ := (HR.out.below hI.out).five hy
      have HY := Lib.hid hy
      have hP1 : wr.cell? ⟨P, 0, none⟩ = some (.int .i64 x) := by rw [hI.out.cell (p := ⟨P, 0, none⟩) HP.out.2]; exact HP.out.1
      have C := Lib.hid (CI.out m.a m.s m.f m.n m.w hP1)
      obtain ⟨a, s, f, n, wt⟩ := m
      simp only [] at c0 c1 c2 c3 c4 C
      have l1 : (k : Int) < l := by omega
      have i1 : IntKind.i64.wrap ((k : Int) + 1) = (k : Int) + 1 := by rw [IntKind.wrap_i64]; omega
      clear hy hP1
      by_cases hax : a = x
      · have q0 : (a == x) = true := by simp [hax]
        rw [q0] at C
        have HA := Lib.hid hax
        clear q0 hax
        go_wp2_with fail
        refine C.out.mono ?_; rintro e w1 ⟨rfl, hb1⟩
        have HB := Lib.hid (below_up hI.out hb1)
        clear hb1 c0 c1 c2 c3 c4
        go_wp2_with fail
        go_ret
        exact ⟨_, rfl, .inr ⟨k, _, rfl, HY.out, HA.out⟩, HB.out⟩
      · have q0 : (a == x) = false := by simp [hax]
        rw [q0] at C
        have HX : Hid (∀ j m, j < k + 1 → us[j]? = some m → m.a ≠ x) := Lib.hid fun j m hj hm => by
          rcases Nat.lt_succ_iff_lt_or_eq.1 hj with h | rfl
          · exact hx.out j m h hm
          · rw [HY.out] at hm; injection hm with hm; rw [← hm]; exact hax
        clear q0 hax
        go_wp2_with fail
        refine C.out.mono ?_; rintro e w1 ⟨rfl, hb1⟩
        have HB := Lib.hid (below_up hI.out hb1)
        clear hb1 c0 c1 c2 c3 c4
        go_wp2_with fail
        go_roundg (l - (k + 1))
        case rel => exact ⟨k + 1, by omega, rfl, by simp, HX, HB⟩
        case measure => first | omega | (simp; omega)
    · obtain rfl : k = l := by omega
      have HN : Hid (IsAt us x (-1)) := Lib.hid (.inl ⟨rfl, fun m hm => by
        obtain ⟨j, hj⟩ := List.mem_iff_getElem?.1 hm
        exact hx.out j m (by rw [← HL.out]; exact (List.getElem?_eq_some_iff.1 hj).1) hj⟩)
      clear hlt
      go_wp2_with fail
      go_ret
      exact ⟨_, rfl, HN.out, hI.out⟩
theorem infoM : (Try.prog.info? 26).map (fun i => (i.zero, i.size, i.bytes)) = some (some (.agg #[.int .i64 0, .int .u64 0, .int .i64 0, .int .i64 0, .bool false]), 5, 40) := by kernel_rfl
/-- Some maps are appended. -/
theorem append_m {w : World} {own : Nat → Prop} {v : Value} {xs ys : List Mp} (ty : TypeId) (h : RV own 26 5 encM w v xs) (hl : xs.length + ys.length ≤ 100000) (A2 : Option Addr) (n2 c2 : Nat) (hn : ys.length = n2) (hc2 : ys.length ≤ c2) (hr : LV 5 encM w A2 ys) :
    ∃ v' w', (Builtin.append_ #[22, 22] ty #[v, .slice A2 n2 c2]).run Try.prog w = .ok v' w' ∧ RV (fun b => own b ∨ w.heap.size ≤ b) 26 5 encM w' v' (xs ++ ys) ∧ (∃ S, Turn S w w' ∧ ∀ b ∈ S, own b ∧ ∃ cur, w.heap[b]? = some (Obj.cells cur 26)) ∧ RV own 26 5 encM w' v xs := by
  obtain ⟨i, hi, hie⟩ := Option.map_eq_some_iff.1 infoM
  injection hie with hz h2
  injection h2 with hsz hby
  subst hn
  exact append_rv2 22 ty i _ 40 Try.underlying22 hi hz hsz hby (by omega) rfl encM_len encM_one (by omega) h hl A2 c2 hc2 hr
set_option maxHeartbeats 1000000 in
theorem grow_any (w : World) (n : Nat) (hn : n ≤ 100000) : Calls Try.prog 23 #[.slice none 0 0, .int .i64 (n : Int)] w fun e w' => ∃ v, e = .returned v ∧ RV (fun b => w.heap.size ≤ b) 26 5 encM w' v [] ∧ Below w.heap.size w w' := by
  by_cases h0 : n = 0
  · subst h0
    go_enter Try.func23, Try.ntmps23
    go_wp2_with fail
    go_ret
    exact ⟨_, rfl, RV.nil _ _, Below.refl _ _⟩
  · obtain ⟨i0, hi, hie⟩ := Option.map_eq_some_iff.1 infoM
    injection hie with hz0 h2
    injection h2 with hz1 hz2
    have hrun := Lib.run_append_grow_zeros (P := Try.prog) w 22 3 22 26 i0 _ .i64 .i64 Try.underlying22 Try.underlying3 hi hz0 none 0 0 [] (by rfl) n (by omega) (by omega) (by omega) (by omega) (by rw [hz2]; omega) (growslice_fits (by omega) (by rw [hz2]; omega))
    have hge := grownCap_ge w n 0 26
    have hmx := grownCap_le_maxLen w n 0 26 (by unfold maxLen; omega)
    rw [Nat.zero_add] at hrun
    obtain ⟨C, eC⟩ : ∃ C, grownCap w n 0 26 = C := ⟨_, rfl⟩
    rw [eC] at hrun hge hmx
    obtain ⟨W2, eW2⟩ : ∃ W2, w.drew.alloc (.cells (([] : List Value).toArray ++ Builtin.zeroCells (Value.agg #[.int .i64 0, .int .u64 0, .int .i64 0, .int .i64 0, .bool false]).cells n ++ Builtin.zeroCells (Value.agg #[.int .i64 0, .int .u64 0, .int .i64 0, .int .i64 0, .bool false]).cells (C - n)) 26) = W2 := ⟨_, rfl⟩
    have HE : Hid (RV (fun b => w.heap.size ≤ b) 26 5 encM W2 (.slice (some ⟨w.heap.size, 0, none⟩) 0 C) [] ∧ Below w.heap.size w W2) := Lib.hid ⟨.inr ⟨w.heap.size, 0, C, _, rfl, Nat.le_refl _, by rw [← eW2]; exact heap_alloc_new w.drew _, by
        have h5 : (Value.agg #[.int .i64 0, .int .u64 0, .int .i64 0, .int .i64 0, .bool false]).cells.size = 5 := rfl
        simp only [Array.size_append, List.size_toArray, size_zeroCells, h5, List.length_nil]; omega, by simp, hmx, by simp⟩, by rw [← eW2]; exact ((Below.refl w.heap.size w).drew).alloc (Nat.le_refl _) _⟩
    rw [eW2] at hrun
    have HR := Lib.hid hrun
    have e1 : IntKind.i64.wrap (n : Int) = n := by rw [IntKind.wrap_i64]; omega
    have e2 : ¬ (n : Int) < 0 := by omega
    have e3 : (n : Int) > 0 := by omega
    have e4 : (0 : Int) < n := by omega
    have e5 : (0 : Int) ≤ C := by omega
    clear hrun eW2 eC
    go_enter Try.func23, Try.ntmps23
    go_wp2_with (at_builtin; refine wpList_append_by rfl (.tmp 20) (.tmp 21) _ _ rfl _ _ _ rfl rfl W2 HR.out ?_)
    go_wp2_with fail
    go_ret
    exact ⟨_, rfl, HE.out⟩
/-- The first k of some lists, one behind the other. -/
def cat (us : Nat → List Mp) : Nat → List Mp
  | 0 => []
  | k + 1 => cat us k ++ us k
theorem cat_le (us : Nat → List Mp) {k : Nat} : ∀ {n : Nat}, k ≤ n → (cat us k).length ≤ (cat us n).length
  | 0, h => by obtain rfl : k = 0 := by omega
               exact Nat.le_refl _
  | n + 1, h => by
    by_cases e : k = n + 1
    · subst e; exact Nat.le_refl _
    · have := cat_le us (k := k) (n := n) (by omega)
      show _ ≤ (cat us n ++ us n).length
      rw [List.length_append]; omega
set_option maxHeartbeats 2000000 in
theorem concat_any (B N : Nat) (As : Nat → Option Addr) (ls cs : Nat → Nat) (us : Nat → List Mp) (w : World) (hN : N ≤ 10)
    (hB : ∀ j, j < N → w.cell? ⟨B, j, none⟩ = some (.slice (As j) (ls j) (cs j)) ∧ (us j).length = ls j ∧ ls j ≤ cs j ∧ LV 5 encM w (As j) (us j)) (hm : (cat us N).length ≤ 1000) :
    Calls Try.prog 18 #[.slice (some ⟨B, 0, none⟩) N N] w fun e w' => ∃ v, e = .returned v ∧ RV (fun b => w.heap.size ≤ b) 26 5 encM w' v (cat us N) ∧ Below w.heap.size w w' := by
  have G := Lib.hid (grow_any w (cat us N).length (by omega))
  have HB := Lib.hid hB
  have HM := Lib.hid hm
  clear hB hm
  go_enter Try.func18, Try.ntmps18
  go_wp2_with fail
  go_loopg [3, 11] N (fun gh s i wr => ∃ k : Nat, k ≤ N ∧ gh = N - k ∧ i = .int .i64 k ∧ (∃ z : Nat, s = .int .i64 z ∧ Hid (z = (cat us k).length)) ∧ w = wr)
  case atStart => exact ⟨0, by omega, by omega, rfl, ⟨0, rfl, Lib.hid rfl⟩, rfl⟩
  case round =>
    obtain ⟨k, hk, hg, rfl, ⟨z, rfl, hz⟩, rfl⟩ := hrel
    by_cases hlt : k < N
    · obtain ⟨b0, h1, h2, h3⟩ := HB.out k hlt
      have hle := cat_le us (k := k + 1) (n := N) hlt
      have hsum : (cat us (k + 1)).length = (cat us k).length + (us k).length := by show (cat us k ++ us k).length = _; rw [List.length_append]
      have hz' := hz.out
      have hm' := HM.out
      obtain ⟨z', ez'⟩ : ∃ z', z + ls k = z' := ⟨_, rfl⟩
      have HZ : Hid (z' = (cat us (k + 1)).length) := Lib.hid (by omega)
      have i1 : IntKind.i64.wrap ((z : Int) + (ls k : Int)) = (z' : Int) := by rw [IntKind.wrap_i64]; omega
      have i2 : ¬ (z' : Int) < 0 := by omega
      have l1 : (k : Int) < N := by omega
      have i3 : IntKind.i64.wrap ((k : Int) + 1) = (k : Int) + 1 := by rw [IntKind.wrap_i64]; omega
      clear h1 h2 h3 hle hsum hz' hm' ez'
      go_wp2_with fail
      go_roundg (N - (k + 1))
      case rel => exact ⟨k + 1, by omega, rfl, by simp, ⟨z', rfl, HZ⟩, rfl⟩
      case measure => first | omega | (simp; omega)
    · obtain rfl : k = N := by omega
      obtain rfl : z = (cat us k).length := hz.out
      clear hz hg hlt
      obtain ⟨z, ez⟩ : ∃ z, (cat us k).length = z := ⟨_, rfl⟩
      rw [ez] at G ⊢
      clear ez
      go_wp2_with fail
      refine G.out.mono ?_; rintro e w1 ⟨v, rfl, hv, hb⟩
      have HV := Lib.hid (And.intro hv hb)
      clear hv hb G
      go_wp2_with fail
      go_loopg [6, 27] k (fun gh v i wr => ∃ j : Nat, j ≤ k ∧ gh = k - j ∧ i = .int .i64 j ∧ Hid (RV (fun b => w.heap.size ≤ b) 26 5 encM wr v (cat us j) ∧ Below w.heap.size w wr))
      case atStart => exact ⟨0, by omega, by omega, rfl, HV⟩
      case round =>
        clear HV
        obtain ⟨j, hj, hg, rfl, hI⟩ := hrel
        by_cases hlt : j < k
        · obtain ⟨b0, h1, h2, h3⟩ := HB.out j hlt
          have hbl := hI.out.2
          have hb0 : wr.cell? ⟨B, j, none⟩ = some (.slice (As j) (ls j) (cs j)) := by rw [hbl.cell (p := ⟨B, j, none⟩) (World.block_lt_of_cell? w _ b0)]; exact b0
          have hle := cat_le us (k := j + 1) (n := k) hlt
          have hsum : (cat us (j + 1)).length = (cat us j).length + (us j).length := by show (cat us j ++ us j).length = _; rw [List.length_append]
          have hm' := HM.out
          obtain ⟨v', W2, hrun, hu, ⟨S, ht, hS⟩, _⟩ := append_m 22 hI.out.1 (ys := us j) (by omega) (As j) (ls j) (cs j) h1 (by omega) (h3.below hbl)
          have HE : Hid (RV (fun b => w.heap.size ≤ b) 26 5 encM W2 v' (cat us (j + 1)) ∧ Below w.heap.size w W2) := Lib.hid ⟨hu.keep fun b cur hb _ => ⟨by rcases hb with h | h; exact h; have := hbl.size; omega, rfl⟩, hbl.trans (ht.below hbl.size fun b hb => (hS b hb).1)⟩
          have HR := Lib.hid hrun
          have l1 : (j : Int) < k := by omega
          have i3 : IntKind.i64.wrap ((j : Int) + 1) = (j : Int) + 1 := by rw [IntKind.wrap_i64]; omega
          clear hrun hu ht hS hbl hI b0 h1 h2 h3 hle hsum hm'
          go_wp2_with (at_builtin; refine wpList_append_by rfl (.tmp 31) (.tmp 32) _ _ rfl _ _ _ rfl rfl W2 HR.out ?_)
          go_wp2_with fail
          go_roundg (k - (j + 1))
          case rel => exact ⟨j + 1, by omega, rfl, by simp, HE⟩
          case measure => first | omega | (simp; omega)
        · obtain rfl : j = k := by omega
          clear hlt
          go_wp2_with fail
          go_ret
          exact ⟨_, rfl, hI.out⟩
end Go.Proofs.Ytbjegfkjibfadaa
