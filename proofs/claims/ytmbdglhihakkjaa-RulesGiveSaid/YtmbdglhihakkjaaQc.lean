/- Plain; rising. -/
import Derived.Test.YtmbdglhihakkjaaQb
set_option linter.unusedVariables false
set_option linter.unusedSimpArgs false
namespace Go.Proofs.Ytmbdglhihakkjaa
open Go.RowKit
set_option linter.unusedVariables false
set_option linter.unusedSimpArgs false
set_option maxHeartbeats 2000000 in
set_option maxRecDepth 100000 in
theorem plain_m {w : World} {D0 : Int} {a0 : Option Addr} {n0 c0 : Nat} {P0 : LP} (h0 : LA 100 w D0 a0 n0 c0 P0)  : Calls Try.prog 17 #[.agg #[.int .i64 D0, .slice a0 n0 c0]] w (BB w (pl P0)) := by
  obtain ⟨W0, e0⟩ : ∃ W0, W0 = (w.alloc (Obj.cells #[.int .i64 D0, .slice a0 n0 c0] 29)) := ⟨_, rfl⟩
  have hB : Below w.heap.size w W0 := by rw [e0]; exact ((Below.refl w.heap.size w).alloc (by omega) _)
  have hk0 : W0.heap[w.heap.size]? = some (Obj.cells #[.int .i64 D0, .slice a0 n0 c0] 29) := by
    rw [e0]
    have := heap_alloc_new w (Obj.cells #[.int .i64 D0, .slice a0 n0 c0] 29); simpa using this
  have HS := Lib.hid (fun (wx : World) (hx : Below W0.heap.size W0 wx) => (by
      have hw : Below w.heap.size w wx := hB.trans (hx.mono hB.size)
      have r0 := (hx.block _ (Array.getElem?_eq_some_iff.1 hk0).1).trans hk0
      exact ⟨hw, by rw [cell_of_row _ _ 0 _ 29 (0, 0) r0]; rfl, by rw [cell_of_row _ _ 1 _ 29 (0, 0) r0]; rfl, h0.below hw⟩ : Below w.heap.size w wx ∧ wx.cell? ⟨w.heap.size, 0, none⟩ = some (.int .i64 D0) ∧ wx.cell? ⟨w.heap.size, 1, none⟩ = some (.slice a0 n0 c0) ∧ LA 100 wx D0 a0 n0 c0 P0))
  clear h0 hB hk0
  go_enter Try.func17, Try.ntmps17
  go_upto_region 1 with fail
  rw [← e0]
  clear e0
  have hHeld := Below.refl W0.heap.size W0
  obtain ⟨hbw, _, _, g0⟩ := HS.out _ hHeld
  have CC := Lib.hid (owns_m g0 (by omega))
  obtain ⟨lo, elo⟩ : ∃ lo, (Lab.owns P0).length = lo := ⟨_, rfl⟩
  obtain ⟨_, f0, f1, _⟩ := HS.out _ hHeld
  clear hHeld hbw g0
  go_wp2_with fail
  refine CC.out.mono ?_
  clear CC
  rintro e w1 ⟨ao, co, rfl, hor, hb⟩
  have HE := Lib.hid (HS.out _ hb).1
  rw [elo]
  have t1 : (((lo : Nat) : Int) == 0) = decide (lo = 0) := by by_cases h : lo = 0 <;> simp [h]
  go_wp2_with fail
  go_ret
  exact ⟨by simp [pl, elo], HE.out⟩
set_option maxHeartbeats 2000000 in
set_option maxRecDepth 100000 in
theorem rplain_m {w : World} {D0 : Int} {a0 : Option Addr} {n0 c0 : Nat} {P0 : LP} (h0 : LA 100 w D0 a0 n0 c0 P0)  : Calls Try.prog 18 #[.agg #[.int .i64 D0, .slice a0 n0 c0]] w (BB w (pl P0)) := by
  obtain ⟨W0, e0⟩ : ∃ W0, W0 = (w.alloc (Obj.cells #[.int .i64 D0, .slice a0 n0 c0] 29)) := ⟨_, rfl⟩
  have hB : Below w.heap.size w W0 := by rw [e0]; exact ((Below.refl w.heap.size w).alloc (by omega) _)
  have hk0 : W0.heap[w.heap.size]? = some (Obj.cells #[.int .i64 D0, .slice a0 n0 c0] 29) := by
    rw [e0]
    have := heap_alloc_new w (Obj.cells #[.int .i64 D0, .slice a0 n0 c0] 29); simpa using this
  have HS := Lib.hid (fun (wx : World) (hx : Below W0.heap.size W0 wx) => (by
      have hw : Below w.heap.size w wx := hB.trans (hx.mono hB.size)
      have r0 := (hx.block _ (Array.getElem?_eq_some_iff.1 hk0).1).trans hk0
      exact ⟨hw, by rw [cell_of_row _ _ 0 _ 29 (0, 0) r0]; rfl, by rw [cell_of_row _ _ 1 _ 29 (0, 0) r0]; rfl, h0.below hw⟩ : Below w.heap.size w wx ∧ wx.cell? ⟨w.heap.size, 0, none⟩ = some (.int .i64 D0) ∧ wx.cell? ⟨w.heap.size, 1, none⟩ = some (.slice a0 n0 c0) ∧ LA 100 wx D0 a0 n0 c0 P0))
  clear h0 hB hk0
  go_enter Try.func18, Try.ntmps18
  go_upto_region 1 with fail
  rw [← e0]
  clear e0
  have hHeld := Below.refl W0.heap.size W0
  obtain ⟨hbw, _, _, g0⟩ := HS.out _ hHeld
  have CC := Lib.hid (rowns_m g0 (by omega))
  obtain ⟨lo, elo⟩ : ∃ lo, (Lab.owns P0).length = lo := ⟨_, rfl⟩
  obtain ⟨_, f0, f1, _⟩ := HS.out _ hHeld
  clear hHeld hbw g0
  go_wp2_with fail
  refine CC.out.mono ?_
  clear CC
  rintro e w1 ⟨ao, co, rfl, hor, hb⟩
  have HE := Lib.hid (HS.out _ hb).1
  rw [elo]
  have t1 : (((lo : Nat) : Int) == 0) = decide (lo = 0) := by by_cases h : lo = 0 <;> simp [h]
  go_wp2_with fail
  go_ret
  exact ⟨by simp [pl, elo], HE.out⟩
/-- Labels in a row: default, where its pairs lie, which they are. -/
abbrev LR := Int × (Option Addr × Nat × Nat) × LP
/-- Each is at or below the next one. -/
def chain : List LR → Bool
  | [] => true
  | [_] => true
  | l :: m :: r => lq l.1 l.2.2 m.1 m.2.2 && chain (m :: r)
/-- The first i steps. -/
def Steps (ls : List LR) (i : Nat) : Prop := ∀ j l m, j < i → ls[j]? = some l → ls[j + 1]? = some m → lq l.1 l.2.2 m.1 m.2.2 = true
theorem chain_iff : ∀ ls : List LR, chain ls = true ↔ Steps ls ls.length
  | [] => ⟨fun _ j l m _ h => by simp at h, fun _ => rfl⟩
  | [a] => ⟨fun _ j l m _ _ h => by simp at h, fun _ => rfl⟩
  | a :: b :: r => by
    unfold chain
    rw [Bool.and_eq_true, chain_iff (b :: r)]
    constructor
    · rintro ⟨h1, h2⟩ j l m hj hl hm
      cases j with
      | zero =>
        simp at hl hm
        subst hl hm; exact h1
      | succ j => exact h2 j l m (by simp at hj ⊢; omega) (by simpa using hl) (by simpa using hm)
    · intro h
      exact ⟨h 0 a b (by simp) rfl rfl, fun j l m hj hl hm => h (j + 1) l m (by simp at hj ⊢; omega) (by simpa using hl) (by simpa using hm)⟩
/-- A row of labels in memory. -/
def Row (w : World) (A : Nat) (ls : List LR) : Prop := A < w.heap.size ∧ ∀ i l, ls[i]? = some l → w.cell? ⟨A, i * 2, none⟩ = some (.int .i64 l.1) ∧ w.cell? ⟨A, i * 2 + 1, none⟩ = some (.slice l.2.1.1 l.2.1.2.1 l.2.1.2.2) ∧ LA 1000 w l.1 l.2.1.1 l.2.1.2.1 l.2.1.2.2 l.2.2
theorem Row.below {w w' : World} {A : Nat} {ls : List LR} (h : Row w A ls) (hb : Below w.heap.size w w') : Row w' A ls :=
  ⟨Nat.lt_of_lt_of_le h.1 hb.size, fun i l hi => by
    obtain ⟨h1, h2, h3⟩ := h.2 i l hi
    exact ⟨by rw [hb.cell (p := ⟨A, i * 2, none⟩) h.1]; exact h1, by rw [hb.cell (p := ⟨A, i * 2 + 1, none⟩) h.1]; exact h2, h3.below hb⟩⟩
set_option maxHeartbeats 2000000 in
set_option maxRecDepth 100000 in
theorem rising_m {w : World} {A n cap : Nat} {ls : List LR} (hl : ls.length = n) (hn1 : 1 ≤ n) (hn2 : n ≤ 100) (hc : n ≤ cap) (h : Row w A ls) : Calls Try.prog 51 #[.slice (some ⟨A, 0, none⟩) n cap] w (BB w (chain ls)) := by
  have HL := Lib.hid hl
  have HR := Lib.hid h
  have HN1 := Lib.hid hn1
  have HN2 := Lib.hid hn2
  clear hl h hn1
  obtain ⟨q, eq⟩ : ∃ q, (n : Int) - 1 = q := ⟨_, rfl⟩
  have hq : RowKit.wrap64 ((n : Int) - 1) = q := by unfold RowKit.wrap64; omega
  go_enter Try.func51, Try.ntmps51
  go_wp2_with fail
  go_loopg [3, 7] n (fun gh s3 s7 wr => ∃ k : Nat, k + 1 ≤ n ∧ gh = n - k ∧ s7 = .int .i64 k ∧ Hid (Steps ls k) ∧ Hid (Below w.heap.size w wr))
  case atStart => exact ⟨0, by have := HN1.out; omega, by omega, rfl, Lib.hid (fun j l m h => by omega), Lib.hid (Below.refl _ _)⟩
  case round =>
    obtain ⟨k, hk, hg, rfl, hS, hI⟩ := hrel
    by_cases hlt : k + 1 < n
    · obtain ⟨l, hy⟩ : ∃ l, ls[k]? = some l := ⟨_, List.getElem?_eq_getElem (by rw [HL.out]; omega)⟩
      obtain ⟨m, hz⟩ : ∃ m, ls[k + 1]? = some m := ⟨_, List.getElem?_eq_getElem (by rw [HL.out]; omega)⟩
      obtain ⟨D0, ⟨a0, n0, c0⟩, P0⟩ := l
      obtain ⟨D1, ⟨a1, n1, c1⟩, P1⟩ := m
      have HY := Lib.hid hy
      have HZ := Lib.hid hz
      have HRR := Lib.hid (fun (wx : World) (hx : Below w.heap.size w wx) => And.intro ((HR.out.below hx).2 k _ HY.out) ((HR.out.below hx).2 (k + 1) _ HZ.out))
      simp only [] at HRR
      have l4 : k < n := by omega
      have l5 : k + 1 < n := hlt
      have l6 : 0 ≤ (k : Int) + 1 := by omega
      have l7 : (k : Int) + 1 < n := by omega
      have HW := Lib.hid (HR.out.below hI.out)
      have l1 : (k : Int) < q := by omega
      have l2 : RowKit.wrap64 ((k : Int) + 1) = ((k + 1 : Nat) : Int) := by unfold RowKit.wrap64; omega
      have l3 : IntKind.i64.wrap ((k : Int) + 1) = ((k + 1 : Nat) : Int) := by rw [IntKind.wrap_i64]; omega
      clear hy hz
      go_upto_region 4 with fail
      refine region_AU (Z := fun j => false) (S := fun w' => Below wr.heap.size wr w') (by kernel_rfl) ((Below.refl _ _).drew) (fun hHeld => ?_)
      refine AUS_take (by kernel_rfl) rfl (i := 0) (oi := _) (v := ?vw1) rfl (by kernel_rfl) (by kernel_rfl) (by kernel_rfl) (fun _ _ _ h => h) (Or.inl ⟨by rfl, ?hz1⟩) hHeld ?rst1
      case hz1 => (intro wS hSw; have hSv := hI.out.trans (hSw.mono hI.out.size); have hb0 := Nat.lt_of_lt_of_le HW.out.1 hSw.size; obtain ⟨⟨f0, f1, _⟩, f2, f3, _⟩ := HRR.out wS hSv; clear hSv; clear hSw; go_simp; try with_reducible rfl)
      simp only [Act.put, List.getElem_toArray, List.getElem_cons_zero, List.getElem_cons_succ, List.setIfInBounds_toArray, List.set_cons_zero, List.set_cons_succ]
      refine AUS_take (by kernel_rfl) rfl (i := 1) (oi := _) (v := ?vw2) rfl (by kernel_rfl) (by kernel_rfl) (by kernel_rfl) (fun _ _ _ h => h) (Or.inl ⟨by rfl, ?hz2⟩) hHeld ?rst2
      case hz2 => (intro wS hSw; have hSv := hI.out.trans (hSw.mono hI.out.size); have hb0 := Nat.lt_of_lt_of_le HW.out.1 hSw.size; obtain ⟨⟨f0, f1, _⟩, f2, f3, _⟩ := HRR.out wS hSv; clear hSv; clear hSw; go_simp; try with_reducible rfl)
      simp only [Act.put, List.getElem_toArray, List.getElem_cons_zero, List.getElem_cons_succ, List.setIfInBounds_toArray, List.set_cons_zero, List.set_cons_succ]
      refine AUS_take (by kernel_rfl) rfl (i := 2) (oi := _) (v := ?vw3) rfl (by kernel_rfl) (by kernel_rfl) (by kernel_rfl) (fun _ _ _ h => h) (Or.inl ⟨by rfl, ?hz3⟩) hHeld ?rst3
      case hz3 => (intro wS hSw; have hSv := hI.out.trans (hSw.mono hI.out.size); have hb0 := Nat.lt_of_lt_of_le HW.out.1 hSw.size; obtain ⟨⟨f0, f1, _⟩, f2, f3, _⟩ := HRR.out wS hSv; clear hSv; clear hSw; go_simp; try with_reducible rfl)
      simp only [Act.put, List.getElem_toArray, List.getElem_cons_zero, List.getElem_cons_succ, List.setIfInBounds_toArray, List.set_cons_zero, List.set_cons_succ]
      refine AUS_take (by kernel_rfl) rfl (i := 3) (oi := _) (v := ?vw4) rfl (by kernel_rfl) (by kernel_rfl) (by kernel_rfl) (fun _ _ _ h => h) (Or.inl ⟨by rfl, ?hz4⟩) hHeld ?rst4
      case hz4 => (intro wS hSw; have hSv := hI.out.trans (hSw.mono hI.out.size); have hb0 := Nat.lt_of_lt_of_le HW.out.1 hSw.size; obtain ⟨⟨f0, f1, _⟩, f2, f3, _⟩ := HRR.out wS hSv; clear hSv; clear hSw; go_simp; try with_reducible rfl)
      simp only [Act.put, List.getElem_toArray, List.getElem_cons_zero, List.getElem_cons_succ, List.setIfInBounds_toArray, List.set_cons_zero, List.set_cons_succ]
      refine AUS_take (by kernel_rfl) rfl (i := 4) (oi := _) (v := ?vw5) rfl (by kernel_rfl) (by kernel_rfl) (by kernel_rfl) (fun _ _ _ h => h) (Or.inl ⟨by rfl, ?hz5⟩) hHeld ?rst5
      case hz5 => (intro wS hSw; have hSv := hI.out.trans (hSw.mono hI.out.size); have hb0 := Nat.lt_of_lt_of_le HW.out.1 hSw.size; obtain ⟨⟨f0, f1, _⟩, f2, f3, _⟩ := HRR.out wS hSv; clear hSv; clear hSw; go_simp; try with_reducible rfl)
      simp only [Act.put, List.getElem_toArray, List.getElem_cons_zero, List.getElem_cons_succ, List.setIfInBounds_toArray, List.set_cons_zero, List.set_cons_succ]
      refine AUS_take (by kernel_rfl) rfl (i := 5) (oi := _) (v := ?vw6) rfl (by kernel_rfl) (by kernel_rfl) (by kernel_rfl) (fun _ _ _ h => h) (Or.inl ⟨by rfl, ?hz6⟩) hHeld ?rst6
      case hz6 => (intro wS hSw; have hSv := hI.out.trans (hSw.mono hI.out.size); have hb0 := Nat.lt_of_lt_of_le HW.out.1 hSw.size; obtain ⟨⟨f0, f1, _⟩, f2, f3, _⟩ := HRR.out wS hSv; clear hSv; clear hSw; go_simp; try with_reducible rfl)
      simp only [Act.put, List.getElem_toArray, List.getElem_cons_zero, List.getElem_cons_succ, List.setIfInBounds_toArray, List.set_cons_zero, List.set_cons_succ]
      refine AUS_take (by kernel_rfl) rfl (i := 6) (oi := _) (v := ?vw7) rfl (by kernel_rfl) (by kernel_rfl) (by kernel_rfl) (fun _ _ _ h => h) (Or.inl ⟨by rfl, ?hz7⟩) hHeld ?rst7
      case hz7 => (intro wS hSw; have hSv := hI.out.trans (hSw.mono hI.out.size); have hb0 := Nat.lt_of_lt_of_le HW.out.1 hSw.size; obtain ⟨⟨f0, f1, _⟩, f2, f3, _⟩ := HRR.out wS hSv; clear hSv; clear hSw; go_simp; try with_reducible rfl)
      simp only [Act.put, List.getElem_toArray, List.getElem_cons_zero, List.getElem_cons_succ, List.setIfInBounds_toArray, List.set_cons_zero, List.set_cons_succ]
      refine AUS_take (by kernel_rfl) rfl (i := 7) (oi := _) (v := ?vw8) rfl (by kernel_rfl) (by kernel_rfl) (by kernel_rfl) (fun _ _ _ h => h) (Or.inl ⟨by rfl, ?hz8⟩) hHeld ?rst8
      case hz8 => (intro wS hSw; have hSv := hI.out.trans (hSw.mono hI.out.size); have hb0 := Nat.lt_of_lt_of_le HW.out.1 hSw.size; obtain ⟨⟨f0, f1, _⟩, f2, f3, _⟩ := HRR.out wS hSv; clear hSv; clear hSw; go_simp; try with_reducible rfl)
      simp only [Act.put, List.getElem_toArray, List.getElem_cons_zero, List.getElem_cons_succ, List.setIfInBounds_toArray, List.set_cons_zero, List.set_cons_succ]
      refine AUS_take (by kernel_rfl) rfl (i := 8) (oi := _) (v := ?vw9) rfl (by kernel_rfl) (by kernel_rfl) (by kernel_rfl) (fun _ _ _ h => h) (Or.inl ⟨by rfl, ?hz9⟩) hHeld ?rst9
      case hz9 => (intro wS hSw; have hSv := hI.out.trans (hSw.mono hI.out.size); have hb0 := Nat.lt_of_lt_of_le HW.out.1 hSw.size; obtain ⟨⟨f0, f1, _⟩, f2, f3, _⟩ := HRR.out wS hSv; clear hSv; clear hSw; go_simp; try with_reducible rfl)
      simp only [Act.put, List.getElem_toArray, List.getElem_cons_zero, List.getElem_cons_succ, List.setIfInBounds_toArray, List.set_cons_zero, List.set_cons_succ]
      have HH := Lib.hid hHeld
      obtain ⟨⟨_, _, g0⟩, _, _, g1⟩ := HRR.out _ (hI.out.trans (hHeld.mono hI.out.size))
      refine AU_one (i := 9) (o := _) (by kernel_rfl) rfl (fun K hK => ?_)
      obtain ⟨b, eb⟩ : ∃ b, lq D0 P0 D1 P1 = b := ⟨_, rfl⟩
      have CC := leq_m g0 g1 (by omega) (by omega)
      rw [eb] at CC
      have CC := Lib.hid CC
      have EB := Lib.hid eb
      clear hHeld g0 g1 eb
      go_simp
      refine CC.out.mono ?_
      clear CC
      rintro e wz ⟨rfl, hb⟩
      have hHeld := HH.out.trans (hb.mono HH.out.size)
      clear HH hb
      refine hK.out _ _ (fun _ => hHeld) ?_
      clear hK K
      try simp only [Act.put, List.getElem_toArray, List.getElem_cons_zero, List.getElem_cons_succ, List.setIfInBounds_toArray, List.set_cons_zero, List.set_cons_succ]
      cases b
      · skip
        refine AUS_take (by kernel_rfl) rfl (i := 10) (oi := _) (v := ?vw10) rfl (by kernel_rfl) (by kernel_rfl) (by kernel_rfl) (fun _ _ _ h => h) (Or.inl ⟨by rfl, ?hz10⟩) hHeld ?rst10
        case hz10 => (intro wS hSw; skip; clear hSw; go_simp; try with_reducible rfl)
        simp only [Act.put, List.getElem_toArray, List.getElem_cons_zero, List.getElem_cons_succ, List.setIfInBounds_toArray, List.set_cons_zero, List.set_cons_succ]
        have HE := Lib.hid (hI.out.trans (hHeld.mono hI.out.size))
        clear hHeld
        refine AU_done (by kernel_rfl) ?_ _
        simp only [OnlyN]
        have hfin : chain ls = false := by
          cases h : chain ls with
          | false => rfl
          | true => exact absurd ((chain_iff ls).1 h k _ _ (by rw [HL.out]; omega) HY.out HZ.out) (by simp [EB.out])
        go_wp2_with fail
        go_ret
        first | exact ⟨rfl, HE.out⟩ | exact ⟨by rw [hfin]; rfl, HE.out⟩
      · skip
        refine AUS_take (by kernel_rfl) rfl (i := 10) (oi := _) (v := ?vw11) rfl (by kernel_rfl) (by kernel_rfl) (by kernel_rfl) (fun _ _ _ h => h) (Or.inl ⟨by rfl, ?hz11⟩) hHeld ?rst11
        case hz11 => (intro wS hSw; skip; clear hSw; go_simp; try with_reducible rfl)
        simp only [Act.put, List.getElem_toArray, List.getElem_cons_zero, List.getElem_cons_succ, List.setIfInBounds_toArray, List.set_cons_zero, List.set_cons_succ]
        have HE := Lib.hid (hI.out.trans (hHeld.mono hI.out.size))
        clear hHeld
        refine AU_done (by kernel_rfl) ?_ _
        simp only [OnlyN]
        have hS2 := Lib.hid (show Steps ls (k + 1) from fun j l m hj hl hm => by
          by_cases h : j = k
          · subst h; rw [HY.out] at hl; rw [HZ.out] at hm; cases hl; cases hm; exact EB.out
          · exact hS.out j l m (by omega) hl hm)
        go_wp2_with fail
        go_roundg (n - (k + 1))
        case rel => exact ⟨k + 1, by omega, rfl, by simp, hS2, HE⟩
        case measure => first | omega | (simp; omega)
    · have l1 : ¬ (k : Int) < q := by omega
      have HE := Lib.hid hI.out
      have hfin : chain ls = true := (chain_iff ls).2 (fun j l m hj hl hm => hS.out j l m (by have := (List.getElem?_eq_some_iff.1 hm).1; rw [HL.out] at this; omega) hl hm)
      go_wp2_with fail
      go_ret
      exact ⟨rfl, HE.out⟩
end Go.Proofs.Ytmbdglhihakkjaa
