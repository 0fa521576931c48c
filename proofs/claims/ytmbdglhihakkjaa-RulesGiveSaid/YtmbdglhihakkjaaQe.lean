/- Self, Create, Give, Enter, Clear. -/
import Derived.Test.YtmbdglhihakkjaaQd
set_option linter.unusedVariables false
set_option linter.unusedSimpArgs false
namespace Go.Proofs.Ytmbdglhihakkjaa
open Go.RowKit
set_option linter.unusedVariables false
set_option linter.unusedSimpArgs false
theorem rise3 {w : World} {D0 : Int} {a0 : Option Addr} {n0 c0 k0 : Nat} {P0 : LP} {D1 : Int} {a1 : Option Addr} {n1 c1 k1 : Nat} {P1 : LP} {D2 : Int} {a2 : Option Addr} {n2 c2 k2 : Nat} {P2 : LP} (h0 : LA k0 w D0 a0 n0 c0 P0) (h1 : LA k1 w D1 a1 n1 c1 P1) (h2 : LA k2 w D2 a2 n2 c2 P2) (hk0 : k0 ≤ 1000) (hk1 : k1 ≤ 1000) (hk2 : k2 ≤ 1000) : Calls Try.prog 51 #[.slice (some ⟨w.heap.size, 0, none⟩) 3 3] (w.alloc (Obj.cells #[.int .i64 D0, .slice a0 n0 c0, .int .i64 D1, .slice a1 n1 c1, .int .i64 D2, .slice a2 n2 c2] 29)) (BB w (lq D0 P0 D1 P1 && lq D1 P1 D2 P2)) := by
  have hn := heap_alloc_new w (Obj.cells #[.int .i64 D0, .slice a0 n0 c0, .int .i64 D1, .slice a1 n1 c1, .int .i64 D2, .slice a2 n2 c2] 29)
  have hb := below_alloc1 w (Obj.cells #[.int .i64 D0, .slice a0 n0 c0, .int .i64 D1, .slice a1 n1 c1, .int .i64 D2, .slice a2 n2 c2] 29)
  have hr : Row (w.alloc (Obj.cells #[.int .i64 D0, .slice a0 n0 c0, .int .i64 D1, .slice a1 n1 c1, .int .i64 D2, .slice a2 n2 c2] 29)) w.heap.size [(D0, (a0, n0, c0), P0), (D1, (a1, n1, c1), P1), (D2, (a2, n2, c2), P2)] := by
    refine ⟨by simp, fun i l hi => ?_⟩
    have hi2 : i < 3 := by have := (List.getElem?_eq_some_iff.1 hi).1; simpa using this
    obtain rfl | rfl | rfl : i = 0 ∨ i = 1 ∨ i = 2 := by omega
    · simp at hi; subst hi; exact ⟨by rw [cell_of_row _ _ 0 _ 29 (0, 0) hn]; rfl, by rw [cell_of_row _ _ 1 _ 29 (0, 0) hn]; rfl, (h0.below hb).mono hk0⟩
    · simp at hi; subst hi; exact ⟨by rw [cell_of_row _ _ 2 _ 29 (0, 0) hn]; rfl, by rw [cell_of_row _ _ 3 _ 29 (0, 0) hn]; rfl, (h1.below hb).mono hk1⟩
    · simp at hi; subst hi; exact ⟨by rw [cell_of_row _ _ 4 _ 29 (0, 0) hn]; rfl, by rw [cell_of_row _ _ 5 _ 29 (0, 0) hn]; rfl, (h2.below hb).mono hk2⟩
  refine (rising_m (n := 3) (ls := [(D0, (a0, n0, c0), P0), (D1, (a1, n1, c1), P1), (D2, (a2, n2, c2), P2)]) rfl (by decide) (by decide) (by decide) hr).mono fun e w' h => ⟨?_, hb.trans (h.2.mono hb.size)⟩
  rw [h.1]
  simp [chain, Bool.and_assoc]
theorem rise4 {w : World} {D0 : Int} {a0 : Option Addr} {n0 c0 k0 : Nat} {P0 : LP} {D1 : Int} {a1 : Option Addr} {n1 c1 k1 : Nat} {P1 : LP} {D2 : Int} {a2 : Option Addr} {n2 c2 k2 : Nat} {P2 : LP} {D3 : Int} {a3 : Option Addr} {n3 c3 k3 : Nat} {P3 : LP} (h0 : LA k0 w D0 a0 n0 c0 P0) (h1 : LA k1 w D1 a1 n1 c1 P1) (h2 : LA k2 w D2 a2 n2 c2 P2) (h3 : LA k3 w D3 a3 n3 c3 P3) (hk0 : k0 ≤ 1000) (hk1 : k1 ≤ 1000) (hk2 : k2 ≤ 1000) (hk3 : k3 ≤ 1000) : Calls Try.prog 51 #[.slice (some ⟨w.heap.size, 0, none⟩) 4 4] (w.alloc (Obj.cells #[.int .i64 D0, .slice a0 n0 c0, .int .i64 D1, .slice a1 n1 c1, .int .i64 D2, .slice a2 n2 c2, .int .i64 D3, .slice a3 n3 c3] 29)) (BB w (lq D0 P0 D1 P1 && lq D1 P1 D2 P2 && lq D2 P2 D3 P3)) := by
  have hn := heap_alloc_new w (Obj.cells #[.int .i64 D0, .slice a0 n0 c0, .int .i64 D1, .slice a1 n1 c1, .int .i64 D2, .slice a2 n2 c2, .int .i64 D3, .slice a3 n3 c3] 29)
  have hb := below_alloc1 w (Obj.cells #[.int .i64 D0, .slice a0 n0 c0, .int .i64 D1, .slice a1 n1 c1, .int .i64 D2, .slice a2 n2 c2, .int .i64 D3, .slice a3 n3 c3] 29)
  have hr : Row (w.alloc (Obj.cells #[.int .i64 D0, .slice a0 n0 c0, .int .i64 D1, .slice a1 n1 c1, .int .i64 D2, .slice a2 n2 c2, .int .i64 D3, .slice a3 n3 c3] 29)) w.heap.size [(D0, (a0, n0, c0), P0), (D1, (a1, n1, c1), P1), (D2, (a2, n2, c2), P2), (D3, (a3, n3, c3), P3)] := by
    refine ⟨by simp, fun i l hi => ?_⟩
    have hi2 : i < 4 := by have := (List.getElem?_eq_some_iff.1 hi).1; simpa using this
    obtain rfl | rfl | rfl | rfl : i = 0 ∨ i = 1 ∨ i = 2 ∨ i = 3 := by omega
    · simp at hi; subst hi; exact ⟨by rw [cell_of_row _ _ 0 _ 29 (0, 0) hn]; rfl, by rw [cell_of_row _ _ 1 _ 29 (0, 0) hn]; rfl, (h0.below hb).mono hk0⟩
    · simp at hi; subst hi; exact ⟨by rw [cell_of_row _ _ 2 _ 29 (0, 0) hn]; rfl, by rw [cell_of_row _ _ 3 _ 29 (0, 0) hn]; rfl, (h1.below hb).mono hk1⟩
    · simp at hi; subst hi; exact ⟨by rw [cell_of_row _ _ 4 _ 29 (0, 0) hn]; rfl, by rw [cell_of_row _ _ 5 _ 29 (0, 0) hn]; rfl, (h2.below hb).mono hk2⟩
    · simp at hi; subst hi; exact ⟨by rw [cell_of_row _ _ 6 _ 29 (0, 0) hn]; rfl, by rw [cell_of_row _ _ 7 _ 29 (0, 0) hn]; rfl, (h3.below hb).mono hk3⟩
  refine (rising_m (n := 4) (ls := [(D0, (a0, n0, c0), P0), (D1, (a1, n1, c1), P1), (D2, (a2, n2, c2), P2), (D3, (a3, n3, c3), P3)]) rfl (by decide) (by decide) (by decide) hr).mono fun e w' h => ⟨?_, hb.trans (h.2.mono hb.size)⟩
  rw [h.1]
  simp [chain, Bool.and_assoc]
set_option maxHeartbeats 2000000 in
set_option maxRecDepth 100000 in
theorem self_m {w : World} {D0 : Int} {a0 : Option Addr} {n0 c0 : Nat} {P0 : LP} {D1 : Int} {a1 : Option Addr} {n1 c1 : Nat} {P1 : LP} {D2 : Int} {a2 : Option Addr} {n2 c2 : Nat} {P2 : LP} (h0 : LA 100 w D0 a0 n0 c0 P0) (h1 : LA 100 w D1 a1 n1 c1 P1) (h2 : LA 100 w D2 a2 n2 c2 P2)  : Calls Try.prog 21 #[.agg #[.int .i64 D0, .slice a0 n0 c0, .int .i64 D1, .slice a1 n1 c1], .agg #[.int .i64 D2, .slice a2 n2 c2]] w (BB w (sf D0 P0 D1 P1 D2 P2)) := by
  obtain ⟨W0, e0⟩ : ∃ W0, W0 = ((w.alloc (Obj.cells #[.int .i64 D0, .slice a0 n0 c0, .int .i64 D1, .slice a1 n1 c1] 32)).alloc (Obj.cells #[.int .i64 D2, .slice a2 n2 c2] 29)) := ⟨_, rfl⟩
  have hB : Below w.heap.size w W0 := by rw [e0]; exact (((Below.refl w.heap.size w).alloc (by omega) _).alloc (by simp <;> omega) _)
  have hk0 : W0.heap[w.heap.size]? = some (Obj.cells #[.int .i64 D0, .slice a0 n0 c0, .int .i64 D1, .slice a1 n1 c1] 32) := by
    rw [e0]
    rw [Below.heap_alloc _ _ _ (by simp <;> omega)]
    have := heap_alloc_new w (Obj.cells #[.int .i64 D0, .slice a0 n0 c0, .int .i64 D1, .slice a1 n1 c1] 32); simpa using this
  have hk1 : W0.heap[w.heap.size + 1]? = some (Obj.cells #[.int .i64 D2, .slice a2 n2 c2] 29) := by
    rw [e0]
    have := heap_alloc_new (w.alloc (Obj.cells #[.int .i64 D0, .slice a0 n0 c0, .int .i64 D1, .slice a1 n1 c1] 32)) (Obj.cells #[.int .i64 D2, .slice a2 n2 c2] 29); simpa using this
  have HS := Lib.hid (fun (wx : World) (hx : Below W0.heap.size W0 wx) => (by
      have hw : Below w.heap.size w wx := hB.trans (hx.mono hB.size)
      have r0 := (hx.block _ (Array.getElem?_eq_some_iff.1 hk0).1).trans hk0
      have r1 := (hx.block _ (Array.getElem?_eq_some_iff.1 hk1).1).trans hk1
      exact ⟨hw, by rw [cell_of_row _ _ 0 _ 32 (0, 0) r0]; rfl, by rw [cell_of_row _ _ 1 _ 32 (0, 0) r0]; rfl, by rw [cell_of_row _ _ 2 _ 32 (0, 0) r0]; rfl, by rw [cell_of_row _ _ 3 _ 32 (0, 0) r0]; rfl, by rw [cell_of_row _ _ 0 _ 29 (0, 0) r1]; rfl, by rw [cell_of_row _ _ 1 _ 29 (0, 0) r1]; rfl, h0.below hw, h1.below hw, h2.below hw⟩ : Below w.heap.size w wx ∧ wx.cell? ⟨w.heap.size, 0, none⟩ = some (.int .i64 D0) ∧ wx.cell? ⟨w.heap.size, 1, none⟩ = some (.slice a0 n0 c0) ∧ wx.cell? ⟨w.heap.size, 2, none⟩ = some (.int .i64 D1) ∧ wx.cell? ⟨w.heap.size, 3, none⟩ = some (.slice a1 n1 c1) ∧ wx.cell? ⟨w.heap.size + 1, 0, none⟩ = some (.int .i64 D2) ∧ wx.cell? ⟨w.heap.size + 1, 1, none⟩ = some (.slice a2 n2 c2) ∧ LA 100 wx D0 a0 n0 c0 P0 ∧ LA 100 wx D1 a1 n1 c1 P1 ∧ LA 100 wx D2 a2 n2 c2 P2))
  clear h0 h1 h2 hB hk0 hk1
  go_enter Try.func21, Try.ntmps21
  go_upto_region 1 with fail
  rw [← e0]
  clear e0
  have hHeld := Below.refl W0.heap.size W0
  have HH := Lib.hid hHeld
  obtain ⟨hbw, _, _, _, _, _, _, g0, g1, g2⟩ := HS.out _ hHeld
  obtain ⟨b1, E1⟩ : ∃ b, Hid ((lq D0 P0 D2 P2 && lq D2 P2 D1 P1) = b) := ⟨_, Lib.hid rfl⟩
  have CC := rise3 g0 g2 g1 (by omega) (by omega) (by omega)
  rw [E1.out] at CC
  have CC := Lib.hid CC
  clear hHeld hbw g0 g1 g2
  obtain ⟨_, f0, f1, f2, f3, f4, f5, _, _, _⟩ := HS.out _ HH.out
  go_wp2_with fail
  refine CC.out.mono ?_
  clear CC f0 f1 f2 f3 f4 f5
  rintro e wz1 ⟨rfl, hb⟩
  have hHeld := HH.out.trans (hb.mono HH.out.size)
  clear HH hb
  have HE := Lib.hid (HS.out _ hHeld).1
  clear hHeld
  go_wp2_with fail
  go_ret
  exact ⟨by simp [sf, E1.out], HE.out⟩
set_option maxHeartbeats 2000000 in
set_option maxRecDepth 100000 in
theorem rcreate_m {w : World} {D0 : Int} {a0 : Option Addr} {n0 c0 : Nat} {P0 : LP} {D1 : Int} {a1 : Option Addr} {n1 c1 : Nat} {P1 : LP} {D2 : Int} {a2 : Option Addr} {n2 c2 : Nat} {P2 : LP} {D3 : Int} {a3 : Option Addr} {n3 c3 : Nat} {P3 : LP} (h0 : LA 100 w D0 a0 n0 c0 P0) (h1 : LA 100 w D1 a1 n1 c1 P1) (h2 : LA 100 w D2 a2 n2 c2 P2) (h3 : LA 100 w D3 a3 n3 c3 P3)  : Calls Try.prog 20 #[.agg #[.int .i64 D0, .slice a0 n0 c0, .int .i64 D1, .slice a1 n1 c1], .agg #[.int .i64 D2, .slice a2 n2 c2], .agg #[.int .i64 D3, .slice a3 n3 c3]] w (BB w (cr D0 P0 D1 P1 D2 P2 D3 P3)) := by
  obtain ⟨W0, e0⟩ : ∃ W0, W0 = (((w.alloc (Obj.cells #[.int .i64 D0, .slice a0 n0 c0, .int .i64 D1, .slice a1 n1 c1] 33)).alloc (Obj.cells #[.int .i64 D2, .slice a2 n2 c2] 29)).alloc (Obj.cells #[.int .i64 D3, .slice a3 n3 c3] 29)) := ⟨_, rfl⟩
  have hB : Below w.heap.size w W0 := by rw [e0]; exact ((((Below.refl w.heap.size w).alloc (by omega) _).alloc (by simp <;> omega) _).alloc (by simp <;> omega) _)
  have hk0 : W0.heap[w.heap.size]? = some (Obj.cells #[.int .i64 D0, .slice a0 n0 c0, .int .i64 D1, .slice a1 n1 c1] 33) := by
    rw [e0]
    rw [Below.heap_alloc _ _ _ (by simp <;> omega)]
    rw [Below.heap_alloc _ _ _ (by simp <;> omega)]
    have := heap_alloc_new w (Obj.cells #[.int .i64 D0, .slice a0 n0 c0, .int .i64 D1, .slice a1 n1 c1] 33); simpa using this
  have hk1 : W0.heap[w.heap.size + 1]? = some (Obj.cells #[.int .i64 D2, .slice a2 n2 c2] 29) := by
    rw [e0]
    rw [Below.heap_alloc _ _ _ (by simp <;> omega)]
    have := heap_alloc_new (w.alloc (Obj.cells #[.int .i64 D0, .slice a0 n0 c0, .int .i64 D1, .slice a1 n1 c1] 33)) (Obj.cells #[.int .i64 D2, .slice a2 n2 c2] 29); simpa using this
  have hk2 : W0.heap[w.heap.size + 2]? = some (Obj.cells #[.int .i64 D3, .slice a3 n3 c3] 29) := by
    rw [e0]
    have := heap_alloc_new ((w.alloc (Obj.cells #[.int .i64 D0, .slice a0 n0 c0, .int .i64 D1, .slice a1 n1 c1] 33)).alloc (Obj.cells #[.int .i64 D2, .slice a2 n2 c2] 29)) (Obj.cells #[.int .i64 D3, .slice a3 n3 c3] 29); simpa using this
  have HS := Lib.hid (fun (wx : World) (hx : Below W0.heap.size W0 wx) => (by
      have hw : Below w.heap.size w wx := hB.trans (hx.mono hB.size)
      have r0 := (hx.block _ (Array.getElem?_eq_some_iff.1 hk0).1).trans hk0
      have r1 := (hx.block _ (Array.getElem?_eq_some_iff.1 hk1).1).trans hk1
      have r2 := (hx.block _ (Array.getElem?_eq_some_iff.1 hk2).1).trans hk2
      exact ⟨hw, by rw [cell_of_row _ _ 0 _ 33 (0, 0) r0]; rfl, by rw [cell_of_row _ _ 1 _ 33 (0, 0) r0]; rfl, by rw [cell_of_row _ _ 2 _ 33 (0, 0) r0]; rfl, by rw [cell_of_row _ _ 3 _ 33 (0, 0) r0]; rfl, by rw [cell_of_row _ _ 0 _ 29 (0, 0) r1]; rfl, by rw [cell_of_row _ _ 1 _ 29 (0, 0) r1]; rfl, by rw [cell_of_row _ _ 0 _ 29 (0, 0) r2]; rfl, by rw [cell_of_row _ _ 1 _ 29 (0, 0) r2]; rfl, h0.below hw, h1.below hw, h2.below hw, h3.below hw⟩ : Below w.heap.size w wx ∧ wx.cell? ⟨w.heap.size, 0, none⟩ = some (.int .i64 D0) ∧ wx.cell? ⟨w.heap.size, 1, none⟩ = some (.slice a0 n0 c0) ∧ wx.cell? ⟨w.heap.size, 2, none⟩ = some (.int .i64 D1) ∧ wx.cell? ⟨w.heap.size, 3, none⟩ = some (.slice a1 n1 c1) ∧ wx.cell? ⟨w.heap.size + 1, 0, none⟩ = some (.int .i64 D2) ∧ wx.cell? ⟨w.heap.size + 1, 1, none⟩ = some (.slice a2 n2 c2) ∧ wx.cell? ⟨w.heap.size + 2, 0, none⟩ = some (.int .i64 D3) ∧ wx.cell? ⟨w.heap.size + 2, 1, none⟩ = some (.slice a3 n3 c3) ∧ LA 100 wx D0 a0 n0 c0 P0 ∧ LA 100 wx D1 a1 n1 c1 P1 ∧ LA 100 wx D2 a2 n2 c2 P2 ∧ LA 100 wx D3 a3 n3 c3 P3))
  clear h0 h1 h2 h3 hB hk0 hk1 hk2
  go_enter Try.func20, Try.ntmps20
  go_upto_region 1 with fail
  rw [← e0]
  clear e0
  have hHeld := Below.refl W0.heap.size W0
  have HH := Lib.hid hHeld
  obtain ⟨hbw, _, _, _, _, _, _, _, _, g0, g1, g2, g3⟩ := HS.out _ hHeld
  obtain ⟨b1, E1⟩ : ∃ b, Hid (ch D0 P0 D2 P2 = b) := ⟨_, Lib.hid rfl⟩
  have CC := rchange_m (g0.mono (by omega)) (g2.mono (by omega))
  rw [E1.out] at CC
  have CC := Lib.hid CC
  clear hHeld hbw g0 g1 g2 g3
  obtain ⟨_, f0, f1, f2, f3, f4, f5, f6, f7, _, _, _, _⟩ := HS.out _ HH.out
  go_wp2_with fail
  refine CC.out.mono ?_
  clear CC f0 f1 f2 f3 f4 f5 f6 f7
  rintro e wz1 ⟨rfl, hb⟩
  have hHeld := HH.out.trans (hb.mono HH.out.size)
  clear HH hb
  cases b1
  · skip
    have HE := Lib.hid (HS.out _ hHeld).1
    clear hHeld
    go_wp2_with fail
    go_ret
    exact ⟨by simp [cr, sf, E1.out], HE.out⟩
  · skip
    have HH := Lib.hid hHeld
    obtain ⟨hbw, _, _, _, _, _, _, _, _, g0, g1, g2, g3⟩ := HS.out _ hHeld
    obtain ⟨b2, E2⟩ : ∃ b, Hid (pl P3 = b) := ⟨_, Lib.hid rfl⟩
    have CC := rplain_m (g3.mono (by omega))
    rw [E2.out] at CC
    have CC := Lib.hid CC
    clear hHeld hbw g0 g1 g2 g3
    obtain ⟨_, f0, f1, f2, f3, f4, f5, f6, f7, _, _, _, _⟩ := HS.out _ HH.out
    go_wp2_with fail
    refine CC.out.mono ?_
    clear CC f0 f1 f2 f3 f4 f5 f6 f7
    rintro e wz2 ⟨rfl, hb⟩
    have hHeld := HH.out.trans (hb.mono HH.out.size)
    clear HH hb
    cases b2
    · skip
      have HE := Lib.hid (HS.out _ hHeld).1
      clear hHeld
      go_wp2_with fail
      go_ret
      exact ⟨by simp [cr, sf, E1.out, E2.out], HE.out⟩
    · skip
      have HH := Lib.hid hHeld
      obtain ⟨hbw, _, _, _, _, _, _, _, _, g0, g1, g2, g3⟩ := HS.out _ hHeld
      obtain ⟨b3, E3⟩ : ∃ b, Hid (lq D0 P0 D3 P3 = b) := ⟨_, Lib.hid rfl⟩
      have CC := rleq_m g0 g3 (by omega) (by omega)
      rw [E3.out] at CC
      have CC := Lib.hid CC
      clear hHeld hbw g0 g1 g2 g3
      obtain ⟨_, f0, f1, f2, f3, f4, f5, f6, f7, _, _, _, _⟩ := HS.out _ HH.out
      go_wp2_with fail
      refine CC.out.mono ?_
      clear CC f0 f1 f2 f3 f4 f5 f6 f7
      rintro e wz3 ⟨rfl, hb⟩
      have hHeld := HH.out.trans (hb.mono HH.out.size)
      clear HH hb
      cases b3
      · skip
        have HE := Lib.hid (HS.out _ hHeld).1
        clear hHeld
        go_wp2_with fail
        go_ret
        exact ⟨by simp [cr, sf, E1.out, E2.out, E3.out], HE.out⟩
      · skip
        have HH := Lib.hid hHeld
        obtain ⟨hbw, _, _, _, _, _, _, _, _, g0, g1, g2, g3⟩ := HS.out _ hHeld
        obtain ⟨b4, E4⟩ : ∃ b, Hid (lq D3 P3 D1 P1 = b) := ⟨_, Lib.hid rfl⟩
        have CC := rleq_m g3 g1 (by omega) (by omega)
        rw [E4.out] at CC
        have CC := Lib.hid CC
        clear hHeld hbw g0 g1 g2 g3
        obtain ⟨_, f0, f1, f2, f3, f4, f5, f6, f7, _, _, _, _⟩ := HS.out _ HH.out
        go_wp2_with fail
        refine CC.out.mono ?_
        clear CC f0 f1 f2 f3 f4 f5 f6 f7
        rintro e wz4 ⟨rfl, hb⟩
        have hHeld := HH.out.trans (hb.mono HH.out.size)
        clear HH hb
        cases b4
        · skip
          have HE := Lib.hid (HS.out _ hHeld).1
          clear hHeld
          go_wp2_with fail
          go_ret
          exact ⟨by simp [cr, sf, E1.out, E2.out, E3.out, E4.out], HE.out⟩
        · skip
          have HH := Lib.hid hHeld
          obtain ⟨hbw, _, _, _, _, _, _, _, _, g0, g1, g2, g3⟩ := HS.out _ hHeld
          obtain ⟨b5, E5⟩ : ∃ b, Hid (lq D2 P2 D3 P3 = b) := ⟨_, Lib.hid rfl⟩
          have CC := rleq_m g2 g3 (by omega) (by omega)
          rw [E5.out] at CC
          have CC := Lib.hid CC
          clear hHeld hbw g0 g1 g2 g3
          obtain ⟨_, f0, f1, f2, f3, f4, f5, f6, f7, _, _, _, _⟩ := HS.out _ HH.out
          go_wp2_with fail
          refine CC.out.mono ?_
          clear CC f0 f1 f2 f3 f4 f5 f6 f7
          rintro e wz5 ⟨rfl, hb⟩
          have hHeld := HH.out.trans (hb.mono HH.out.size)
          clear HH hb
          have HE := Lib.hid (HS.out _ hHeld).1
          clear hHeld
          go_wp2_with fail
          go_ret
          exact ⟨by simp [cr, sf, E1.out, E2.out, E3.out, E4.out, E5.out], HE.out⟩
set_option maxHeartbeats 2000000 in
set_option maxRecDepth 100000 in
theorem create_m {w : World} {D0 : Int} {a0 : Option Addr} {n0 c0 : Nat} {P0 : LP} {D1 : Int} {a1 : Option Addr} {n1 c1 : Nat} {P1 : LP} {D2 : Int} {a2 : Option Addr} {n2 c2 : Nat} {P2 : LP} {D3 : Int} {a3 : Option Addr} {n3 c3 : Nat} {P3 : LP} (h0 : LA 100 w D0 a0 n0 c0 P0) (h1 : LA 100 w D1 a1 n1 c1 P1) (h2 : LA 100 w D2 a2 n2 c2 P2) (h3 : LA 100 w D3 a3 n3 c3 P3)  : Calls Try.prog 19 #[.agg #[.int .i64 D0, .slice a0 n0 c0, .int .i64 D1, .slice a1 n1 c1], .agg #[.int .i64 D2, .slice a2 n2 c2], .agg #[.int .i64 D3, .slice a3 n3 c3]] w (BB w (cr D0 P0 D1 P1 D2 P2 D3 P3)) := by
  obtain ⟨W0, e0⟩ : ∃ W0, W0 = (((w.alloc (Obj.cells #[.int .i64 D0, .slice a0 n0 c0, .int .i64 D1, .slice a1 n1 c1] 32)).alloc (Obj.cells #[.int .i64 D2, .slice a2 n2 c2] 29)).alloc (Obj.cells #[.int .i64 D3, .slice a3 n3 c3] 29)) := ⟨_, rfl⟩
  have hB : Below w.heap.size w W0 := by rw [e0]; exact ((((Below.refl w.heap.size w).alloc (by omega) _).alloc (by simp <;> omega) _).alloc (by simp <;> omega) _)
  have hk0 : W0.heap[w.heap.size]? = some (Obj.cells #[.int .i64 D0, .slice a0 n0 c0, .int .i64 D1, .slice a1 n1 c1] 32) := by
    rw [e0]
    rw [Below.heap_alloc _ _ _ (by simp <;> omega)]
    rw [Below.heap_alloc _ _ _ (by simp <;> omega)]
    have := heap_alloc_new w (Obj.cells #[.int .i64 D0, .slice a0 n0 c0, .int .i64 D1, .slice a1 n1 c1] 32); simpa using this
  have hk1 : W0.heap[w.heap.size + 1]? = some (Obj.cells #[.int .i64 D2, .slice a2 n2 c2] 29) := by
    rw [e0]
    rw [Below.heap_alloc _ _ _ (by simp <;> omega)]
    have := heap_alloc_new (w.alloc (Obj.cells #[.int .i64 D0, .slice a0 n0 c0, .int .i64 D1, .slice a1 n1 c1] 32)) (Obj.cells #[.int .i64 D2, .slice a2 n2 c2] 29); simpa using this
  have hk2 : W0.heap[w.heap.size + 2]? = some (Obj.cells #[.int .i64 D3, .slice a3 n3 c3] 29) := by
    rw [e0]
    have := heap_alloc_new ((w.alloc (Obj.cells #[.int .i64 D0, .slice a0 n0 c0, .int .i64 D1, .slice a1 n1 c1] 32)).alloc (Obj.cells #[.int .i64 D2, .slice a2 n2 c2] 29)) (Obj.cells #[.int .i64 D3, .slice a3 n3 c3] 29); simpa using this
  have HS := Lib.hid (fun (wx : World) (hx : Below W0.heap.size W0 wx) => (by
      have hw : Below w.heap.size w wx := hB.trans (hx.mono hB.size)
      have r0 := (hx.block _ (Array.getElem?_eq_some_iff.1 hk0).1).trans hk0
      have r1 := (hx.block _ (Array.getElem?_eq_some_iff.1 hk1).1).trans hk1
      have r2 := (hx.block _ (Array.getElem?_eq_some_iff.1 hk2).1).trans hk2
      exact ⟨hw, by rw [cell_of_row _ _ 0 _ 32 (0, 0) r0]; rfl, by rw [cell_of_row _ _ 1 _ 32 (0, 0) r0]; rfl, by rw [cell_of_row _ _ 2 _ 32 (0, 0) r0]; rfl, by rw [cell_of_row _ _ 3 _ 32 (0, 0) r0]; rfl, by rw [cell_of_row _ _ 0 _ 29 (0, 0) r1]; rfl, by rw [cell_of_row _ _ 1 _ 29 (0, 0) r1]; rfl, by rw [cell_of_row _ _ 0 _ 29 (0, 0) r2]; rfl, by rw [cell_of_row _ _ 1 _ 29 (0, 0) r2]; rfl, h0.below hw, h1.below hw, h2.below hw, h3.below hw⟩ : Below w.heap.size w wx ∧ wx.cell? ⟨w.heap.size, 0, none⟩ = some (.int .i64 D0) ∧ wx.cell? ⟨w.heap.size, 1, none⟩ = some (.slice a0 n0 c0) ∧ wx.cell? ⟨w.heap.size, 2, none⟩ = some (.int .i64 D1) ∧ wx.cell? ⟨w.heap.size, 3, none⟩ = some (.slice a1 n1 c1) ∧ wx.cell? ⟨w.heap.size + 1, 0, none⟩ = some (.int .i64 D2) ∧ wx.cell? ⟨w.heap.size + 1, 1, none⟩ = some (.slice a2 n2 c2) ∧ wx.cell? ⟨w.heap.size + 2, 0, none⟩ = some (.int .i64 D3) ∧ wx.cell? ⟨w.heap.size + 2, 1, none⟩ = some (.slice a3 n3 c3) ∧ LA 100 wx D0 a0 n0 c0 P0 ∧ LA 100 wx D1 a1 n1 c1 P1 ∧ LA 100 wx D2 a2 n2 c2 P2 ∧ LA 100 wx D3 a3 n3 c3 P3))
  clear h0 h1 h2 h3 hB hk0 hk1 hk2
  go_enter Try.func19, Try.ntmps19
  go_upto_region 1 with fail
  rw [← e0]
  clear e0
  have hHeld := Below.refl W0.heap.size W0
  have HH := Lib.hid hHeld
  obtain ⟨hbw, _, _, _, _, _, _, _, _, g0, g1, g2, g3⟩ := HS.out _ hHeld
  obtain ⟨b1, E1⟩ : ∃ b, Hid (ch D0 P0 D2 P2 = b) := ⟨_, Lib.hid rfl⟩
  have CC := change_m (g0.mono (by omega)) (g2.mono (by omega))
  rw [E1.out] at CC
  have CC := Lib.hid CC
  clear hHeld hbw g0 g1 g2 g3
  obtain ⟨_, f0, f1, f2, f3, f4, f5, f6, f7, _, _, _, _⟩ := HS.out _ HH.out
  go_wp2_with fail
  refine CC.out.mono ?_
  clear CC f0 f1 f2 f3 f4 f5 f6 f7
  rintro e wz1 ⟨rfl, hb⟩
  have hHeld := HH.out.trans (hb.mono HH.out.size)
  clear HH hb
  cases b1
  · skip
    have HE := Lib.hid (HS.out _ hHeld).1
    clear hHeld
    go_wp2_with fail
    go_ret
    exact ⟨by simp [cr, E1.out], HE.out⟩
  · skip
    have HH := Lib.hid hHeld
    obtain ⟨hbw, _, _, _, _, _, _, _, _, g0, g1, g2, g3⟩ := HS.out _ hHeld
    obtain ⟨b2, E2⟩ : ∃ b, Hid (pl P3 = b) := ⟨_, Lib.hid rfl⟩
    have CC := plain_m (g3.mono (by omega))
    rw [E2.out] at CC
    have CC := Lib.hid CC
    clear hHeld hbw g0 g1 g2 g3
    obtain ⟨_, f0, f1, f2, f3, f4, f5, f6, f7, _, _, _, _⟩ := HS.out _ HH.out
    go_wp2_with fail
    refine CC.out.mono ?_
    clear CC f0 f1 f2 f3 f4 f5 f6 f7
    rintro e wz2 ⟨rfl, hb⟩
    have hHeld := HH.out.trans (hb.mono HH.out.size)
    clear HH hb
    cases b2
    · skip
      have HE := Lib.hid (HS.out _ hHeld).1
      clear hHeld
      go_wp2_with fail
      go_ret
      exact ⟨by simp [cr, E1.out, E2.out], HE.out⟩
    · skip
      have HH := Lib.hid hHeld
      obtain ⟨hbw, _, _, _, _, _, _, _, _, g0, g1, g2, g3⟩ := HS.out _ hHeld
      obtain ⟨b3, E3⟩ : ∃ b, Hid (sf D0 P0 D1 P1 D3 P3 = b) := ⟨_, Lib.hid rfl⟩
      have CC := self_m (g0.mono (by omega)) (g1.mono (by omega)) (g3.mono (by omega))
      rw [E3.out] at CC
      have CC := Lib.hid CC
      clear hHeld hbw g0 g1 g2 g3
      obtain ⟨_, f0, f1, f2, f3, f4, f5, f6, f7, _, _, _, _⟩ := HS.out _ HH.out
      go_wp2_with fail
      refine CC.out.mono ?_
      clear CC f0 f1 f2 f3 f4 f5 f6 f7
      rintro e wz3 ⟨rfl, hb⟩
      have hHeld := HH.out.trans (hb.mono HH.out.size)
      clear HH hb
      cases b3
      · skip
        have HE := Lib.hid (HS.out _ hHeld).1
        clear hHeld
        go_wp2_with fail
        go_ret
        exact ⟨by simp [cr, E1.out, E2.out, E3.out], HE.out⟩
      · skip
        have HH := Lib.hid hHeld
        obtain ⟨hbw, _, _, _, _, _, _, _, _, g0, g1, g2, g3⟩ := HS.out _ hHeld
        obtain ⟨b4, E4⟩ : ∃ b, Hid (lq D2 P2 D3 P3 = b) := ⟨_, Lib.hid rfl⟩
        have CC := leq_m g2 g3 (by omega) (by omega)
        rw [E4.out] at CC
        have CC := Lib.hid CC
        clear hHeld hbw g0 g1 g2 g3
        obtain ⟨_, f0, f1, f2, f3, f4, f5, f6, f7, _, _, _, _⟩ := HS.out _ HH.out
        go_wp2_with fail
        refine CC.out.mono ?_
        clear CC f0 f1 f2 f3 f4 f5 f6 f7
        rintro e wz4 ⟨rfl, hb⟩
        have hHeld := HH.out.trans (hb.mono HH.out.size)
        clear HH hb
        have HE := Lib.hid (HS.out _ hHeld).1
        clear hHeld
        go_wp2_with fail
        go_ret
        exact ⟨by simp [cr, E1.out, E2.out, E3.out, E4.out], HE.out⟩
set_option maxHeartbeats 2000000 in
set_option maxRecDepth 100000 in
theorem give_m {w : World} {D0 : Int} {a0 : Option Addr} {n0 c0 : Nat} {P0 : LP} {D1 : Int} {a1 : Option Addr} {n1 c1 : Nat} {P1 : LP} {D2 : Int} {a2 : Option Addr} {n2 c2 : Nat} {P2 : LP} {D3 : Int} {a3 : Option Addr} {n3 c3 : Nat} {P3 : LP} {D4 : Int} {a4 : Option Addr} {n4 c4 : Nat} {P4 : LP} (h0 : LA 100 w D0 a0 n0 c0 P0) (h1 : LA 100 w D1 a1 n1 c1 P1) (h2 : LA 100 w D2 a2 n2 c2 P2) (h3 : LA 100 w D3 a3 n3 c3 P3) (h4 : LA 100 w D4 a4 n4 c4 P4)  : Calls Try.prog 31 #[.agg #[.int .i64 D0, .slice a0 n0 c0, .int .i64 D1, .slice a1 n1 c1], .agg #[.int .i64 D2, .slice a2 n2 c2], .agg #[.int .i64 D3, .slice a3 n3 c3, .int .i64 D4, .slice a4 n4 c4]] w (BB w (gv D0 P0 D1 P1 D2 P2 D3 P3 D4 P4)) := by
  obtain ⟨W0, e0⟩ : ∃ W0, W0 = (((w.alloc (Obj.cells #[.int .i64 D0, .slice a0 n0 c0, .int .i64 D1, .slice a1 n1 c1] 32)).alloc (Obj.cells #[.int .i64 D2, .slice a2 n2 c2] 29)).alloc (Obj.cells #[.int .i64 D3, .slice a3 n3 c3, .int .i64 D4, .slice a4 n4 c4] 32)) := ⟨_, rfl⟩
  have hB : Below w.heap.size w W0 := by rw [e0]; exact ((((Below.refl w.heap.size w).alloc (by omega) _).alloc (by simp <;> omega) _).alloc (by simp <;> omega) _)
  have hk0 : W0.heap[w.heap.size]? = some (Obj.cells #[.int .i64 D0, .slice a0 n0 c0, .int .i64 D1, .slice a1 n1 c1] 32) := by
    rw [e0]
    rw [Below.heap_alloc _ _ _ (by simp <;> omega)]
    rw [Below.heap_alloc _ _ _ (by simp <;> omega)]
    have := heap_alloc_new w (Obj.cells #[.int .i64 D0, .slice a0 n0 c0, .int .i64 D1, .slice a1 n1 c1] 32); simpa using this
  have hk1 : W0.heap[w.heap.size + 1]? = some (Obj.cells #[.int .i64 D2, .slice a2 n2 c2] 29) := by
    rw [e0]
    rw [Below.heap_alloc _ _ _ (by simp <;> omega)]
    have := heap_alloc_new (w.alloc (Obj.cells #[.int .i64 D0, .slice a0 n0 c0, .int .i64 D1, .slice a1 n1 c1] 32)) (Obj.cells #[.int .i64 D2, .slice a2 n2 c2] 29); simpa using this
  have hk2 : W0.heap[w.heap.size + 2]? = some (Obj.cells #[.int .i64 D3, .slice a3 n3 c3, .int .i64 D4, .slice a4 n4 c4] 32) := by
    rw [e0]
    have := heap_alloc_new ((w.alloc (Obj.cells #[.int .i64 D0, .slice a0 n0 c0, .int .i64 D1, .slice a1 n1 c1] 32)).alloc (Obj.cells #[.int .i64 D2, .slice a2 n2 c2] 29)) (Obj.cells #[.int .i64 D3, .slice a3 n3 c3, .int .i64 D4, .slice a4 n4 c4] 32); simpa using this
  have HS := Lib.hid (fun (wx : World) (hx : Below W0.heap.size W0 wx) => (by
      have hw : Below w.heap.size w wx := hB.trans (hx.mono hB.size)
      have r0 := (hx.block _ (Array.getElem?_eq_some_iff.1 hk0).1).trans hk0
      have r1 := (hx.block _ (Array.getElem?_eq_some_iff.1 hk1).1).trans hk1
      have r2 := (hx.block _ (Array.getElem?_eq_some_iff.1 hk2).1).trans hk2
      exact ⟨hw, by rw [cell_of_row _ _ 0 _ 32 (0, 0) r0]; rfl, by rw [cell_of_row _ _ 1 _ 32 (0, 0) r0]; rfl, by rw [cell_of_row _ _ 2 _ 32 (0, 0) r0]; rfl, by rw [cell_of_row _ _ 3 _ 32 (0, 0) r0]; rfl, by rw [cell_of_row _ _ 0 _ 29 (0, 0) r1]; rfl, by rw [cell_of_row _ _ 1 _ 29 (0, 0) r1]; rfl, by rw [cell_of_row _ _ 0 _ 32 (0, 0) r2]; rfl, by rw [cell_of_row _ _ 1 _ 32 (0, 0) r2]; rfl, by rw [cell_of_row _ _ 2 _ 32 (0, 0) r2]; rfl, by rw [cell_of_row _ _ 3 _ 32 (0, 0) r2]; rfl, h0.below hw, h1.below hw, h2.below hw, h3.below hw, h4.below hw⟩ : Below w.heap.size w wx ∧ wx.cell? ⟨w.heap.size, 0, none⟩ = some (.int .i64 D0) ∧ wx.cell? ⟨w.heap.size, 1, none⟩ = some (.slice a0 n0 c0) ∧ wx.cell? ⟨w.heap.size, 2, none⟩ = some (.int .i64 D1) ∧ wx.cell? ⟨w.heap.size, 3, none⟩ = some (.slice a1 n1 c1) ∧ wx.cell? ⟨w.heap.size + 1, 0, none⟩ = some (.int .i64 D2) ∧ wx.cell? ⟨w.heap.size + 1, 1, none⟩ = some (.slice a2 n2 c2) ∧ wx.cell? ⟨w.heap.size + 2, 0, none⟩ = some (.int .i64 D3) ∧ wx.cell? ⟨w.heap.size + 2, 1, none⟩ = some (.slice a3 n3 c3) ∧ wx.cell? ⟨w.heap.size + 2, 2, none⟩ = some (.int .i64 D4) ∧ wx.cell? ⟨w.heap.size + 2, 3, none⟩ = some (.slice a4 n4 c4) ∧ LA 100 wx D0 a0 n0 c0 P0 ∧ LA 100 wx D1 a1 n1 c1 P1 ∧ LA 100 wx D2 a2 n2 c2 P2 ∧ LA 100 wx D3 a3 n3 c3 P3 ∧ LA 100 wx D4 a4 n4 c4 P4))
  clear h0 h1 h2 h3 h4 hB hk0 hk1 hk2
  go_enter Try.func31, Try.ntmps31
  go_upto_region 1 with fail
  rw [← e0]
  clear e0
  have hHeld := Below.refl W0.heap.size W0
  refine region_AU (Z := fun j => false) (S := fun w' => Below W0.heap.size W0 w') (by kernel_rfl) (hHeld.drew) (fun hHeld => ?_)
  refine AUS_take (by kernel_rfl) rfl (i := 0) (oi := _) (v := ?vw1) rfl (by kernel_rfl) (by kernel_rfl) (by kernel_rfl) (fun _ _ _ h => h) (Or.inl ⟨by rfl, ?hz1⟩) hHeld ?rst1
  case hz1 => (intro wS hSw; obtain ⟨_, f0, f1, f2, f3, f4, f5, f6, f7, f8, f9, _, _, _, _, _⟩ := HS.out wS hSw; clear hSw; go_simp; try with_reducible rfl)
  simp only [Act.put, List.getElem_toArray, List.getElem_cons_zero, List.getElem_cons_succ, List.setIfInBounds_toArray, List.set_cons_zero, List.set_cons_succ]
  refine AUS_take (by kernel_rfl) rfl (i := 1) (oi := _) (v := ?vw2) rfl (by kernel_rfl) (by kernel_rfl) (by kernel_rfl) (fun _ _ _ h => h) (Or.inl ⟨by rfl, ?hz2⟩) hHeld ?rst2
  case hz2 => (intro wS hSw; obtain ⟨_, f0, f1, f2, f3, f4, f5, f6, f7, f8, f9, _, _, _, _, _⟩ := HS.out wS hSw; clear hSw; go_simp; try with_reducible rfl)
  simp only [Act.put, List.getElem_toArray, List.getElem_cons_zero, List.getElem_cons_succ, List.setIfInBounds_toArray, List.set_cons_zero, List.set_cons_succ]
  refine AUS_take (by kernel_rfl) rfl (i := 2) (oi := _) (v := ?vw3) rfl (by kernel_rfl) (by kernel_rfl) (by kernel_rfl) (fun _ _ _ h => h) (Or.inl ⟨by rfl, ?hz3⟩) hHeld ?rst3
  case hz3 => (intro wS hSw; obtain ⟨_, f0, f1, f2, f3, f4, f5, f6, f7, f8, f9, _, _, _, _, _⟩ := HS.out wS hSw; clear hSw; go_simp; try with_reducible rfl)
  simp only [Act.put, List.getElem_toArray, List.getElem_cons_zero, List.getElem_cons_succ, List.setIfInBounds_toArray, List.set_cons_zero, List.set_cons_succ]
  have HH := Lib.hid hHeld
  obtain ⟨hbw, _, _, _, _, _, _, _, _, _, _, g0, g1, g2, g3, g4⟩ := HS.out _ hHeld
  refine AU_one (i := 3) (o := _) (by kernel_rfl) rfl (fun K hK => ?_)
  obtain ⟨b1, E1⟩ : ∃ b, Hid (ch D0 P0 D2 P2 = b) := ⟨_, Lib.hid rfl⟩
  have CC := change_m (g0.mono (by omega)) (g2.mono (by omega))
  rw [E1.out] at CC
  have CC := Lib.hid CC
  clear hHeld hbw g0 g1 g2 g3 g4
  go_simp
  refine CC.out.mono ?_
  clear CC
  rintro e wz1 ⟨rfl, hb⟩
  have hHeld := HH.out.trans (hb.mono HH.out.size)
  clear HH hb
  refine hK.out _ _ (fun _ => hHeld) ?_
  clear hK K
  try simp only [Act.put, List.getElem_toArray, List.getElem_cons_zero, List.getElem_cons_succ, List.setIfInBounds_toArray, List.set_cons_zero, List.set_cons_succ]
  cases b1
  · skip
    refine AUS_take (by kernel_rfl) rfl (i := 4) (oi := _) (v := ?vw4) rfl (by kernel_rfl) (by kernel_rfl) (by kernel_rfl) (fun _ _ _ h => h) (Or.inl ⟨by rfl, ?hz4⟩) hHeld ?rst4
    case hz4 => (intro wS hSw; obtain ⟨_, f0, f1, f2, f3, f4, f5, f6, f7, f8, f9, _, _, _, _, _⟩ := HS.out wS hSw; clear hSw; go_simp; try with_reducible rfl)
    simp only [Act.put, List.getElem_toArray, List.getElem_cons_zero, List.getElem_cons_succ, List.setIfInBounds_toArray, List.set_cons_zero, List.set_cons_succ]
    refine AUS_take (by kernel_rfl) rfl (i := 5) (oi := _) (v := undef) rfl (by kernel_rfl) (by kernel_rfl) (by kernel_rfl) (fun _ _ _ h => h) (Or.inr ⟨by rfl, rfl⟩) hHeld ?rst5
    try simp only [Act.put, List.getElem_toArray, List.getElem_cons_zero, List.getElem_cons_succ, List.setIfInBounds_toArray, List.set_cons_zero, List.set_cons_succ]
    refine AUS_take (by kernel_rfl) rfl (i := 6) (oi := _) (v := undef) rfl (by kernel_rfl) (by kernel_rfl) (by kernel_rfl) (fun _ _ _ h => h) (Or.inr ⟨by rfl, rfl⟩) hHeld ?rst6
    try simp only [Act.put, List.getElem_toArray, List.getElem_cons_zero, List.getElem_cons_succ, List.setIfInBounds_toArray, List.set_cons_zero, List.set_cons_succ]
    refine AUS_take (by kernel_rfl) rfl (i := 7) (oi := _) (v := undef) rfl (by kernel_rfl) (by kernel_rfl) (by kernel_rfl) (fun _ _ _ h => h) (Or.inr ⟨by rfl, rfl⟩) hHeld ?rst7
    try simp only [Act.put, List.getElem_toArray, List.getElem_cons_zero, List.getElem_cons_succ, List.setIfInBounds_toArray, List.set_cons_zero, List.set_cons_succ]
    refine AUS_take (by kernel_rfl) rfl (i := 8) (oi := _) (v := undef) rfl (by kernel_rfl) (by kernel_rfl) (by kernel_rfl) (fun _ _ _ h => h) (Or.inr ⟨by rfl, rfl⟩) hHeld ?rst8
    try simp only [Act.put, List.getElem_toArray, List.getElem_cons_zero, List.getElem_cons_succ, List.setIfInBounds_toArray, List.set_cons_zero, List.set_cons_succ]
    refine AUS_take (by kernel_rfl) rfl (i := 9) (oi := _) (v := undef) rfl (by kernel_rfl) (by kernel_rfl) (by kernel_rfl) (fun _ _ _ h => h) (Or.inr ⟨by rfl, rfl⟩) hHeld ?rst9
    try simp only [Act.put, List.getElem_toArray, List.getElem_cons_zero, List.getElem_cons_succ, List.setIfInBounds_toArray, List.set_cons_zero, List.set_cons_succ]
    refine AUS_take (by kernel_rfl) rfl (i := 10) (oi := _) (v := undef) rfl (by kernel_rfl) (by kernel_rfl) (by kernel_rfl) (fun _ _ _ h => h) (Or.inr ⟨by rfl, rfl⟩) hHeld ?rst10
    try simp only [Act.put, List.getElem_toArray, List.getElem_cons_zero, List.getElem_cons_succ, List.setIfInBounds_toArray, List.set_cons_zero, List.set_cons_succ]
    refine AUS_take (by kernel_rfl) rfl (i := 11) (oi := _) (v := undef) rfl (by kernel_rfl) (by kernel_rfl) (by kernel_rfl) (fun _ _ _ h => h) (Or.inr ⟨by rfl, rfl⟩) hHeld ?rst11
    try simp only [Act.put, List.getElem_toArray, List.getElem_cons_zero, List.getElem_cons_succ, List.setIfInBounds_toArray, List.set_cons_zero, List.set_cons_succ]
    refine AUS_take (by kernel_rfl) rfl (i := 12) (oi := _) (v := undef) rfl (by kernel_rfl) (by kernel_rfl) (by kernel_rfl) (fun _ _ _ h => h) (Or.inr ⟨by rfl, rfl⟩) hHeld ?rst12
    try simp only [Act.put, List.getElem_toArray, List.getElem_cons_zero, List.getElem_cons_succ, List.setIfInBounds_toArray, List.set_cons_zero, List.set_cons_succ]
    refine AUS_take (by kernel_rfl) rfl (i := 13) (oi := _) (v := undef) rfl (by kernel_rfl) (by kernel_rfl) (by kernel_rfl) (fun _ _ _ h => h) (Or.inr ⟨by rfl, rfl⟩) hHeld ?rst13
    try simp only [Act.put, List.getElem_toArray, List.getElem_cons_zero, List.getElem_cons_succ, List.setIfInBounds_toArray, List.set_cons_zero, List.set_cons_succ]
    refine AUS_take (by kernel_rfl) rfl (i := 14) (oi := _) (v := undef) rfl (by kernel_rfl) (by kernel_rfl) (by kernel_rfl) (fun _ _ _ h => h) (Or.inr ⟨by rfl, rfl⟩) hHeld ?rst14
    try simp only [Act.put, List.getElem_toArray, List.getElem_cons_zero, List.getElem_cons_succ, List.setIfInBounds_toArray, List.set_cons_zero, List.set_cons_succ]
    refine AUS_take (by kernel_rfl) rfl (i := 15) (oi := _) (v := ?vw15) rfl (by kernel_rfl) (by kernel_rfl) (by kernel_rfl) (fun _ _ _ h => h) (Or.inl ⟨by rfl, ?hz15⟩) hHeld ?rst15
    case hz15 => (intro wS hSw; obtain ⟨_, f0, f1, f2, f3, f4, f5, f6, f7, f8, f9, _, _, _, _, _⟩ := HS.out wS hSw; clear hSw; go_simp; try with_reducible rfl)
    simp only [Act.put, List.getElem_toArray, List.getElem_cons_zero, List.getElem_cons_succ, List.setIfInBounds_toArray, List.set_cons_zero, List.set_cons_succ]
    refine AUS_take (by kernel_rfl) rfl (i := 16) (oi := _) (v := ?vw16) rfl (by kernel_rfl) (by kernel_rfl) (by kernel_rfl) (fun _ _ _ h => h) (Or.inl ⟨by rfl, ?hz16⟩) hHeld ?rst16
    case hz16 => (intro wS hSw; obtain ⟨_, f0, f1, f2, f3, f4, f5, f6, f7, f8, f9, _, _, _, _, _⟩ := HS.out wS hSw; clear hSw; go_simp; try with_reducible rfl)
    simp only [Act.put, List.getElem_toArray, List.getElem_cons_zero, List.getElem_cons_succ, List.setIfInBounds_toArray, List.set_cons_zero, List.set_cons_succ]
    refine AUS_take (by kernel_rfl) rfl (i := 17) (oi := _) (v := undef) rfl (by kernel_rfl) (by kernel_rfl) (by kernel_rfl) (fun _ _ _ h => h) (Or.inr ⟨by rfl, rfl⟩) hHeld ?rst17
    try simp only [Act.put, List.getElem_toArray, List.getElem_cons_zero, List.getElem_cons_succ, List.setIfInBounds_toArray, List.set_cons_zero, List.set_cons_succ]
    refine AUS_take (by kernel_rfl) rfl (i := 18) (oi := _) (v := undef) rfl (by kernel_rfl) (by kernel_rfl) (by kernel_rfl) (fun _ _ _ h => h) (Or.inr ⟨by rfl, rfl⟩) hHeld ?rst18
    try simp only [Act.put, List.getElem_toArray, List.getElem_cons_zero, List.getElem_cons_succ, List.setIfInBounds_toArray, List.set_cons_zero, List.set_cons_succ]
    refine AUS_take (by kernel_rfl) rfl (i := 19) (oi := _) (v := undef) rfl (by kernel_rfl) (by kernel_rfl) (by kernel_rfl) (fun _ _ _ h => h) (Or.inr ⟨by rfl, rfl⟩) hHeld ?rst19
    try simp only [Act.put, List.getElem_toArray, List.getElem_cons_zero, List.getElem_cons_succ, List.setIfInBounds_toArray, List.set_cons_zero, List.set_cons_succ]
    refine AUS_take (by kernel_rfl) rfl (i := 20) (oi := _) (v := undef) rfl (by kernel_rfl) (by kernel_rfl) (by kernel_rfl) (fun _ _ _ h => h) (Or.inr ⟨by rfl, rfl⟩) hHeld ?rst20
    try simp only [Act.put, List.getElem_toArray, List.getElem_cons_zero, List.getElem_cons_succ, List.setIfInBounds_toArray, List.set_cons_zero, List.set_cons_succ]
    refine AUS_take (by kernel_rfl) rfl (i := 21) (oi := _) (v := undef) rfl (by kernel_rfl) (by kernel_rfl) (by kernel_rfl) (fun _ _ _ h => h) (Or.inr ⟨by rfl, rfl⟩) hHeld ?rst21
    try simp only [Act.put, List.getElem_toArray, List.getElem_cons_zero, List.getElem_cons_succ, List.setIfInBounds_toArray, List.set_cons_zero, List.set_cons_succ]
    refine AUS_take (by kernel_rfl) rfl (i := 22) (oi := _) (v := ?vw22) rfl (by kernel_rfl) (by kernel_rfl) (by kernel_rfl) (fun _ _ _ h => h) (Or.inl ⟨by rfl, ?hz22⟩) hHeld ?rst22
    case hz22 => (intro wS hSw; obtain ⟨_, f0, f1, f2, f3, f4, f5, f6, f7, f8, f9, _, _, _, _, _⟩ := HS.out wS hSw; clear hSw; go_simp; try with_reducible rfl)
    simp only [Act.put, List.getElem_toArray, List.getElem_cons_zero, List.getElem_cons_succ, List.setIfInBounds_toArray, List.set_cons_zero, List.set_cons_succ]
    refine AUS_take (by kernel_rfl) rfl (i := 23) (oi := _) (v := ?vw23) rfl (by kernel_rfl) (by kernel_rfl) (by kernel_rfl) (fun _ _ _ h => h) (Or.inl ⟨by rfl, ?hz23⟩) hHeld ?rst23
    case hz23 => (intro wS hSw; obtain ⟨_, f0, f1, f2, f3, f4, f5, f6, f7, f8, f9, _, _, _, _, _⟩ := HS.out wS hSw; clear hSw; go_simp; try with_reducible rfl)
    simp only [Act.put, List.getElem_toArray, List.getElem_cons_zero, List.getElem_cons_succ, List.setIfInBounds_toArray, List.set_cons_zero, List.set_cons_succ]
    have HE := Lib.hid hHeld
    clear hHeld
    refine AU_done (by kernel_rfl) ?_ _
    simp only [OnlyN]
    have hHeld := HE.out
    clear HE
    have HE := Lib.hid (HS.out _ hHeld).1
    clear hHeld
    go_wp2_with fail
    go_ret
    exact ⟨by simp [gv, E1.out], HE.out⟩
  · skip
    refine AUS_take (by kernel_rfl) rfl (i := 4) (oi := _) (v := ?vw24) rfl (by kernel_rfl) (by kernel_rfl) (by kernel_rfl) (fun _ _ _ h => h) (Or.inl ⟨by rfl, ?hz24⟩) hHeld ?rst24
    case hz24 => (intro wS hSw; obtain ⟨_, f0, f1, f2, f3, f4, f5, f6, f7, f8, f9, _, _, _, _, _⟩ := HS.out wS hSw; clear hSw; go_simp; try with_reducible rfl)
    simp only [Act.put, List.getElem_toArray, List.getElem_cons_zero, List.getElem_cons_succ, List.setIfInBounds_toArray, List.set_cons_zero, List.set_cons_succ]
    refine AUS_take (by kernel_rfl) rfl (i := 5) (oi := _) (v := ?vw25) rfl (by kernel_rfl) (by kernel_rfl) (by kernel_rfl) (fun _ _ _ h => h) (Or.inl ⟨by rfl, ?hz25⟩) hHeld ?rst25
    case hz25 => (intro wS hSw; obtain ⟨_, f0, f1, f2, f3, f4, f5, f6, f7, f8, f9, _, _, _, _, _⟩ := HS.out wS hSw; clear hSw; go_simp; try with_reducible rfl)
    simp only [Act.put, List.getElem_toArray, List.getElem_cons_zero, List.getElem_cons_succ, List.setIfInBounds_toArray, List.set_cons_zero, List.set_cons_succ]
    refine AUS_take (by kernel_rfl) rfl (i := 6) (oi := _) (v := ?vw26) rfl (by kernel_rfl) (by kernel_rfl) (by kernel_rfl) (fun _ _ _ h => h) (Or.inl ⟨by rfl, ?hz26⟩) hHeld ?rst26
    case hz26 => (intro wS hSw; obtain ⟨_, f0, f1, f2, f3, f4, f5, f6, f7, f8, f9, _, _, _, _, _⟩ := HS.out wS hSw; clear hSw; go_simp; try with_reducible rfl)
    simp only [Act.put, List.getElem_toArray, List.getElem_cons_zero, List.getElem_cons_succ, List.setIfInBounds_toArray, List.set_cons_zero, List.set_cons_succ]
    refine AUS_take (by kernel_rfl) rfl (i := 7) (oi := _) (v := ?vw27) rfl (by kernel_rfl) (by kernel_rfl) (by kernel_rfl) (fun _ _ _ h => h) (Or.inl ⟨by rfl, ?hz27⟩) hHeld ?rst27
    case hz27 => (intro wS hSw; obtain ⟨_, f0, f1, f2, f3, f4, f5, f6, f7, f8, f9, _, _, _, _, _⟩ := HS.out wS hSw; clear hSw; go_simp; try with_reducible rfl)
    simp only [Act.put, List.getElem_toArray, List.getElem_cons_zero, List.getElem_cons_succ, List.setIfInBounds_toArray, List.set_cons_zero, List.set_cons_succ]
    refine AUS_take (by kernel_rfl) rfl (i := 8) (oi := _) (v := ?vw28) rfl (by kernel_rfl) (by kernel_rfl) (by kernel_rfl) (fun _ _ _ h => h) (Or.inl ⟨by rfl, ?hz28⟩) hHeld ?rst28
    case hz28 => (intro wS hSw; obtain ⟨_, f0, f1, f2, f3, f4, f5, f6, f7, f8, f9, _, _, _, _, _⟩ := HS.out wS hSw; clear hSw; go_simp; try with_reducible rfl)
    simp only [Act.put, List.getElem_toArray, List.getElem_cons_zero, List.getElem_cons_succ, List.setIfInBounds_toArray, List.set_cons_zero, List.set_cons_succ]
    refine AUS_take (by kernel_rfl) rfl (i := 9) (oi := _) (v := ?vw29) rfl (by kernel_rfl) (by kernel_rfl) (by kernel_rfl) (fun _ _ _ h => h) (Or.inl ⟨by rfl, ?hz29⟩) hHeld ?rst29
    case hz29 => (intro wS hSw; obtain ⟨_, f0, f1, f2, f3, f4, f5, f6, f7, f8, f9, _, _, _, _, _⟩ := HS.out wS hSw; clear hSw; go_simp; try with_reducible rfl)
    simp only [Act.put, List.getElem_toArray, List.getElem_cons_zero, List.getElem_cons_succ, List.setIfInBounds_toArray, List.set_cons_zero, List.set_cons_succ]
    refine AUS_take (by kernel_rfl) rfl (i := 10) (oi := _) (v := ?vw30) rfl (by kernel_rfl) (by kernel_rfl) (by kernel_rfl) (fun _ _ _ h => h) (Or.inl ⟨by rfl, ?hz30⟩) hHeld ?rst30
    case hz30 => (intro wS hSw; obtain ⟨_, f0, f1, f2, f3, f4, f5, f6, f7, f8, f9, _, _, _, _, _⟩ := HS.out wS hSw; clear hSw; go_simp; try with_reducible rfl)
    simp only [Act.put, List.getElem_toArray, List.getElem_cons_zero, List.getElem_cons_succ, List.setIfInBounds_toArray, List.set_cons_zero, List.set_cons_succ]
    refine AUS_take (by kernel_rfl) rfl (i := 11) (oi := _) (v := ?vw31) rfl (by kernel_rfl) (by kernel_rfl) (by kernel_rfl) (fun _ _ _ h => h) (Or.inl ⟨by rfl, ?hz31⟩) hHeld ?rst31
    case hz31 => (intro wS hSw; obtain ⟨_, f0, f1, f2, f3, f4, f5, f6, f7, f8, f9, _, _, _, _, _⟩ := HS.out wS hSw; clear hSw; go_simp; try with_reducible rfl)
    simp only [Act.put, List.getElem_toArray, List.getElem_cons_zero, List.getElem_cons_succ, List.setIfInBounds_toArray, List.set_cons_zero, List.set_cons_succ]
    refine AUS_take (by kernel_rfl) rfl (i := 12) (oi := _) (v := ?vw32) rfl (by kernel_rfl) (by kernel_rfl) (by kernel_rfl) (fun _ _ _ h => h) (Or.inl ⟨by rfl, ?hz32⟩) hHeld ?rst32
    case hz32 => (intro wS hSw; obtain ⟨_, f0, f1, f2, f3, f4, f5, f6, f7, f8, f9, _, _, _, _, _⟩ := HS.out wS hSw; clear hSw; go_simp; try with_reducible rfl)
    simp only [Act.put, List.getElem_toArray, List.getElem_cons_zero, List.getElem_cons_succ, List.setIfInBounds_toArray, List.set_cons_zero, List.set_cons_succ]
    have HH := Lib.hid hHeld
    obtain ⟨hbw, _, _, _, _, _, _, _, _, _, _, g0, g1, g2, g3, g4⟩ := HS.out _ hHeld
    obtain ⟨b2, E2⟩ : ∃ b, Hid ((lq D0 P0 D3 P3 && lq D3 P3 D4 P4 && lq D4 P4 D1 P1) = b) := ⟨_, Lib.hid rfl⟩
    have CC := rise4 g0 g3 g4 g1 (by omega) (by omega) (by omega) (by omega)
    rw [E2.out] at CC
    have CC := Lib.hid CC
    clear hHeld hbw g0 g1 g2 g3 g4
    refine AU_one (i := 13) (o := _) (by kernel_rfl) rfl (fun K hK => ?_)
    go_simp
    refine hK.out _ _ (fun _ => HH.out.alloc HH.out.size _) ?_
    clear hK K
    try simp only [Act.put, List.getElem_toArray, List.getElem_cons_zero, List.getElem_cons_succ, List.setIfInBounds_toArray, List.set_cons_zero, List.set_cons_succ]
    refine AU_one (i := 14) (o := _) (by kernel_rfl) rfl (fun K hK => ?_)
    go_simp
    refine CC.out.mono ?_
    clear CC
    rintro e wz2 ⟨rfl, hb⟩
    have hHeld := HH.out.trans (hb.mono HH.out.size)
    clear HH hb
    refine hK.out _ _ (fun _ => hHeld) ?_
    clear hK K
    try simp only [Act.put, List.getElem_toArray, List.getElem_cons_zero, List.getElem_cons_succ, List.setIfInBounds_toArray, List.set_cons_zero, List.set_cons_succ]
    cases b2
    · skip
      refine AUS_take (by kernel_rfl) rfl (i := 15) (oi := _) (v := ?vw33) rfl (by kernel_rfl) (by kernel_rfl) (by kernel_rfl) (fun _ _ _ h => h) (Or.inl ⟨by rfl, ?hz33⟩) hHeld ?rst33
      case hz33 => (intro wS hSw; obtain ⟨_, f0, f1, f2, f3, f4, f5, f6, f7, f8, f9, _, _, _, _, _⟩ := HS.out wS hSw; clear hSw; go_simp; try with_reducible rfl)
      simp only [Act.put, List.getElem_toArray, List.getElem_cons_zero, List.getElem_cons_succ, List.setIfInBounds_toArray, List.set_cons_zero, List.set_cons_succ]
      refine AUS_take (by kernel_rfl) rfl (i := 16) (oi := _) (v := ?vw34) rfl (by kernel_rfl) (by kernel_rfl) (by kernel_rfl) (fun _ _ _ h => h) (Or.inl ⟨by rfl, ?hz34⟩) hHeld ?rst34
      case hz34 => (intro wS hSw; obtain ⟨_, f0, f1, f2, f3, f4, f5, f6, f7, f8, f9, _, _, _, _, _⟩ := HS.out wS hSw; clear hSw; go_simp; try with_reducible rfl)
      simp only [Act.put, List.getElem_toArray, List.getElem_cons_zero, List.getElem_cons_succ, List.setIfInBounds_toArray, List.set_cons_zero, List.set_cons_succ]
      refine AUS_take (by kernel_rfl) rfl (i := 17) (oi := _) (v := undef) rfl (by kernel_rfl) (by kernel_rfl) (by kernel_rfl) (fun _ _ _ h => h) (Or.inr ⟨by rfl, rfl⟩) hHeld ?rst35
      try simp only [Act.put, List.getElem_toArray, List.getElem_cons_zero, List.getElem_cons_succ, List.setIfInBounds_toArray, List.set_cons_zero, List.set_cons_succ]
      refine AUS_take (by kernel_rfl) rfl (i := 18) (oi := _) (v := undef) rfl (by kernel_rfl) (by kernel_rfl) (by kernel_rfl) (fun _ _ _ h => h) (Or.inr ⟨by rfl, rfl⟩) hHeld ?rst36
      try simp only [Act.put, List.getElem_toArray, List.getElem_cons_zero, List.getElem_cons_succ, List.setIfInBounds_toArray, List.set_cons_zero, List.set_cons_succ]
      refine AUS_take (by kernel_rfl) rfl (i := 19) (oi := _) (v := undef) rfl (by kernel_rfl) (by kernel_rfl) (by kernel_rfl) (fun _ _ _ h => h) (Or.inr ⟨by rfl, rfl⟩) hHeld ?rst37
      try simp only [Act.put, List.getElem_toArray, List.getElem_cons_zero, List.getElem_cons_succ, List.setIfInBounds_toArray, List.set_cons_zero, List.set_cons_succ]
      refine AUS_take (by kernel_rfl) rfl (i := 20) (oi := _) (v := undef) rfl (by kernel_rfl) (by kernel_rfl) (by kernel_rfl) (fun _ _ _ h => h) (Or.inr ⟨by rfl, rfl⟩) hHeld ?rst38
      try simp only [Act.put, List.getElem_toArray, List.getElem_cons_zero, List.getElem_cons_succ, List.setIfInBounds_toArray, List.set_cons_zero, List.set_cons_succ]
      refine AUS_take (by kernel_rfl) rfl (i := 21) (oi := _) (v := undef) rfl (by kernel_rfl) (by kernel_rfl) (by kernel_rfl) (fun _ _ _ h => h) (Or.inr ⟨by rfl, rfl⟩) hHeld ?rst39
      try simp only [Act.put, List.getElem_toArray, List.getElem_cons_zero, List.getElem_cons_succ, List.setIfInBounds_toArray, List.set_cons_zero, List.set_cons_succ]
      refine AUS_take (by kernel_rfl) rfl (i := 22) (oi := _) (v := ?vw40) rfl (by kernel_rfl) (by kernel_rfl) (by kernel_rfl) (fun _ _ _ h => h) (Or.inl ⟨by rfl, ?hz40⟩) hHeld ?rst40
      case hz40 => (intro wS hSw; obtain ⟨_, f0, f1, f2, f3, f4, f5, f6, f7, f8, f9, _, _, _, _, _⟩ := HS.out wS hSw; clear hSw; go_simp; try with_reducible rfl)
      simp only [Act.put, List.getElem_toArray, List.getElem_cons_zero, List.getElem_cons_succ, List.setIfInBounds_toArray, List.set_cons_zero, List.set_cons_succ]
      refine AUS_take (by kernel_rfl) rfl (i := 23) (oi := _) (v := ?vw41) rfl (by kernel_rfl) (by kernel_rfl) (by kernel_rfl) (fun _ _ _ h => h) (Or.inl ⟨by rfl, ?hz41⟩) hHeld ?rst41
      case hz41 => (intro wS hSw; obtain ⟨_, f0, f1, f2, f3, f4, f5, f6, f7, f8, f9, _, _, _, _, _⟩ := HS.out wS hSw; clear hSw; go_simp; try with_reducible rfl)
      simp only [Act.put, List.getElem_toArray, List.getElem_cons_zero, List.getElem_cons_succ, List.setIfInBounds_toArray, List.set_cons_zero, List.set_cons_succ]
      have HE := Lib.hid hHeld
      clear hHeld
      refine AU_done (by kernel_rfl) ?_ _
      simp only [OnlyN]
      have hHeld := HE.out
      clear HE
      have HE := Lib.hid (HS.out _ hHeld).1
      clear hHeld
      go_wp2_with fail
      go_ret
      exact ⟨by simp [gv, E1.out, E2.out], HE.out⟩
    · skip
      refine AUS_take (by kernel_rfl) rfl (i := 15) (oi := _) (v := ?vw42) rfl (by kernel_rfl) (by kernel_rfl) (by kernel_rfl) (fun _ _ _ h => h) (Or.inl ⟨by rfl, ?hz42⟩) hHeld ?rst42
      case hz42 => (intro wS hSw; obtain ⟨_, f0, f1, f2, f3, f4, f5, f6, f7, f8, f9, _, _, _, _, _⟩ := HS.out wS hSw; clear hSw; go_simp; try with_reducible rfl)
      simp only [Act.put, List.getElem_toArray, List.getElem_cons_zero, List.getElem_cons_succ, List.setIfInBounds_toArray, List.set_cons_zero, List.set_cons_succ]
      refine AUS_take (by kernel_rfl) rfl (i := 16) (oi := _) (v := ?vw43) rfl (by kernel_rfl) (by kernel_rfl) (by kernel_rfl) (fun _ _ _ h => h) (Or.inl ⟨by rfl, ?hz43⟩) hHeld ?rst43
      case hz43 => (intro wS hSw; obtain ⟨_, f0, f1, f2, f3, f4, f5, f6, f7, f8, f9, _, _, _, _, _⟩ := HS.out wS hSw; clear hSw; go_simp; try with_reducible rfl)
      simp only [Act.put, List.getElem_toArray, List.getElem_cons_zero, List.getElem_cons_succ, List.setIfInBounds_toArray, List.set_cons_zero, List.set_cons_succ]
      refine AUS_take (by kernel_rfl) rfl (i := 17) (oi := _) (v := ?vw44) rfl (by kernel_rfl) (by kernel_rfl) (by kernel_rfl) (fun _ _ _ h => h) (Or.inl ⟨by rfl, ?hz44⟩) hHeld ?rst44
      case hz44 => (intro wS hSw; obtain ⟨_, f0, f1, f2, f3, f4, f5, f6, f7, f8, f9, _, _, _, _, _⟩ := HS.out wS hSw; clear hSw; go_simp; try with_reducible rfl)
      simp only [Act.put, List.getElem_toArray, List.getElem_cons_zero, List.getElem_cons_succ, List.setIfInBounds_toArray, List.set_cons_zero, List.set_cons_succ]
      refine AUS_take (by kernel_rfl) rfl (i := 18) (oi := _) (v := ?vw45) rfl (by kernel_rfl) (by kernel_rfl) (by kernel_rfl) (fun _ _ _ h => h) (Or.inl ⟨by rfl, ?hz45⟩) hHeld ?rst45
      case hz45 => (intro wS hSw; obtain ⟨_, f0, f1, f2, f3, f4, f5, f6, f7, f8, f9, _, _, _, _, _⟩ := HS.out wS hSw; clear hSw; go_simp; try with_reducible rfl)
      simp only [Act.put, List.getElem_toArray, List.getElem_cons_zero, List.getElem_cons_succ, List.setIfInBounds_toArray, List.set_cons_zero, List.set_cons_succ]
      refine AUS_take (by kernel_rfl) rfl (i := 19) (oi := _) (v := ?vw46) rfl (by kernel_rfl) (by kernel_rfl) (by kernel_rfl) (fun _ _ _ h => h) (Or.inl ⟨by rfl, ?hz46⟩) hHeld ?rst46
      case hz46 => (intro wS hSw; obtain ⟨_, f0, f1, f2, f3, f4, f5, f6, f7, f8, f9, _, _, _, _, _⟩ := HS.out wS hSw; clear hSw; go_simp; try with_reducible rfl)
      simp only [Act.put, List.getElem_toArray, List.getElem_cons_zero, List.getElem_cons_succ, List.setIfInBounds_toArray, List.set_cons_zero, List.set_cons_succ]
      have HH := Lib.hid hHeld
      obtain ⟨hbw, _, _, _, _, _, _, _, _, _, _, g0, g1, g2, g3, g4⟩ := HS.out _ hHeld
      refine AU_one (i := 20) (o := _) (by kernel_rfl) rfl (fun K hK => ?_)
      have CC := Lib.hid (rest_m g3 (by omega))
      clear hHeld hbw g0 g1 g2 g3 g4
      go_simp
      refine CC.out.mono ?_
      clear CC
      rintro e wz3 ⟨a5, n5, c5, rfl, l5, hb⟩
      have hHeld := HH.out.trans (hb.mono HH.out.size)
      clear HH hb
      refine hK.out _ _ (fun _ => hHeld) ?_
      clear hK K
      try simp only [Act.put, List.getElem_toArray, List.getElem_cons_zero, List.getElem_cons_succ, List.setIfInBounds_toArray, List.set_cons_zero, List.set_cons_succ]
      have HH := Lib.hid hHeld
      obtain ⟨hbw, _, _, _, _, _, _, _, _, _, _, g0, g1, g2, g3, g4⟩ := HS.out _ hHeld
      refine AU_one (i := 21) (o := _) (by kernel_rfl) rfl (fun K hK => ?_)
      obtain ⟨b4, E4⟩ : ∃ b, Hid (lq D2 P2 (Lab.turn 0 2 D3) (Lab.tn 0 2 D3 P3) = b) := ⟨_, Lib.hid rfl⟩
      have CC := leq_m g2 l5.la (by omega) (by omega)
      rw [E4.out] at CC
      have CC := Lib.hid CC
      clear hHeld hbw g0 g1 g2 g3 g4
      go_simp
      refine CC.out.mono ?_
      clear CC
      rintro e wz4 ⟨rfl, hb⟩
      have hHeld := HH.out.trans (hb.mono HH.out.size)
      replace l5 := l5.below hb
      clear HH hb
      refine hK.out _ _ (fun _ => hHeld) ?_
      clear hK K
      try simp only [Act.put, List.getElem_toArray, List.getElem_cons_zero, List.getElem_cons_succ, List.setIfInBounds_toArray, List.set_cons_zero, List.set_cons_succ]
      refine AUS_take (by kernel_rfl) rfl (i := 22) (oi := _) (v := ?vw47) rfl (by kernel_rfl) (by kernel_rfl) (by kernel_rfl) (fun _ _ _ h => h) (Or.inl ⟨by rfl, ?hz47⟩) hHeld ?rst47
      case hz47 => (intro wS hSw; obtain ⟨_, f0, f1, f2, f3, f4, f5, f6, f7, f8, f9, _, _, _, _, _⟩ := HS.out wS hSw; clear hSw; go_simp; try with_reducible rfl)
      simp only [Act.put, List.getElem_toArray, List.getElem_cons_zero, List.getElem_cons_succ, List.setIfInBounds_toArray, List.set_cons_zero, List.set_cons_succ]
      refine AUS_take (by kernel_rfl) rfl (i := 23) (oi := _) (v := ?vw48) rfl (by kernel_rfl) (by kernel_rfl) (by kernel_rfl) (fun _ _ _ h => h) (Or.inl ⟨by rfl, ?hz48⟩) hHeld ?rst48
      case hz48 => (intro wS hSw; obtain ⟨_, f0, f1, f2, f3, f4, f5, f6, f7, f8, f9, _, _, _, _, _⟩ := HS.out wS hSw; clear hSw; go_simp; try with_reducible rfl)
      simp only [Act.put, List.getElem_toArray, List.getElem_cons_zero, List.getElem_cons_succ, List.setIfInBounds_toArray, List.set_cons_zero, List.set_cons_succ]
      have HE := Lib.hid hHeld
      clear hHeld
      refine AU_done (by kernel_rfl) ?_ _
      simp only [OnlyN]
      have hHeld := HE.out
      clear HE
      have HE := Lib.hid (HS.out _ hHeld).1
      clear hHeld
      go_wp2_with fail
      go_ret
      exact ⟨by simp [gv, E1.out, E2.out, E4.out], HE.out⟩
set_option maxHeartbeats 2000000 in
set_option maxRecDepth 100000 in
theorem rgive_m {w : World} {D0 : Int} {a0 : Option Addr} {n0 c0 : Nat} {P0 : LP} {D1 : Int} {a1 : Option Addr} {n1 c1 : Nat} {P1 : LP} {D2 : Int} {a2 : Option Addr} {n2 c2 : Nat} {P2 : LP} {D3 : Int} {a3 : Option Addr} {n3 c3 : Nat} {P3 : LP} {D4 : Int} {a4 : Option Addr} {n4 c4 : Nat} {P4 : LP} (h0 : LA 100 w D0 a0 n0 c0 P0) (h1 : LA 100 w D1 a1 n1 c1 P1) (h2 : LA 100 w D2 a2 n2 c2 P2) (h3 : LA 100 w D3 a3 n3 c3 P3) (h4 : LA 100 w D4 a4 n4 c4 P4)  : Calls Try.prog 32 #[.agg #[.int .i64 D0, .slice a0 n0 c0, .int .i64 D1, .slice a1 n1 c1], .agg #[.int .i64 D2, .slice a2 n2 c2], .agg #[.int .i64 D3, .slice a3 n3 c3, .int .i64 D4, .slice a4 n4 c4]] w (BB w (gv D0 P0 D1 P1 D2 P2 D3 P3 D4 P4)) := by
  obtain ⟨W0, e0⟩ : ∃ W0, W0 = (((w.alloc (Obj.cells #[.int .i64 D0, .slice a0 n0 c0, .int .i64 D1, .slice a1 n1 c1] 33)).alloc (Obj.cells #[.int .i64 D2, .slice a2 n2 c2] 29)).alloc (Obj.cells #[.int .i64 D3, .slice a3 n3 c3, .int .i64 D4, .slice a4 n4 c4] 33)) := ⟨_, rfl⟩
  have hB : Below w.heap.size w W0 := by rw [e0]; exact ((((Below.refl w.heap.size w).alloc (by omega) _).alloc (by simp <;> omega) _).alloc (by simp <;> omega) _)
  have hk0 : W0.heap[w.heap.size]? = some (Obj.cells #[.int .i64 D0, .slice a0 n0 c0, .int .i64 D1, .slice a1 n1 c1] 33) := by
    rw [e0]
    rw [Below.heap_alloc _ _ _ (by simp <;> omega)]
    rw [Below.heap_alloc _ _ _ (by simp <;> omega)]
    have := heap_alloc_new w (Obj.cells #[.int .i64 D0, .slice a0 n0 c0, .int .i64 D1, .slice a1 n1 c1] 33); simpa using this
  have hk1 : W0.heap[w.heap.size + 1]? = some (Obj.cells #[.int .i64 D2, .slice a2 n2 c2] 29) := by
    rw [e0]
    rw [Below.heap_alloc _ _ _ (by simp <;> omega)]
    have := heap_alloc_new (w.alloc (Obj.cells #[.int .i64 D0, .slice a0 n0 c0, .int .i64 D1, .slice a1 n1 c1] 33)) (Obj.cells #[.int .i64 D2, .slice a2 n2 c2] 29); simpa using this
  have hk2 : W0.heap[w.heap.size + 2]? = some (Obj.cells #[.int .i64 D3, .slice a3 n3 c3, .int .i64 D4, .slice a4 n4 c4] 33) := by
    rw [e0]
    have := heap_alloc_new ((w.alloc (Obj.cells #[.int .i64 D0, .slice a0 n0 c0, .int .i64 D1, .slice a1 n1 c1] 33)).alloc (Obj.cells #[.int .i64 D2, .slice a2 n2 c2] 29)) (Obj.cells #[.int .i64 D3, .slice a3 n3 c3, .int .i64 D4, .slice a4 n4 c4] 33); simpa using this
  have HS := Lib.hid (fun (wx : World) (hx : Below W0.heap.size W0 wx) => (by
      have hw : Below w.heap.size w wx := hB.trans (hx.mono hB.size)
      have r0 := (hx.block _ (Array.getElem?_eq_some_iff.1 hk0).1).trans hk0
      have r1 := (hx.block _ (Array.getElem?_eq_some_iff.1 hk1).1).trans hk1
      have r2 := (hx.block _ (Array.getElem?_eq_some_iff.1 hk2).1).trans hk2
      exact ⟨hw, by rw [cell_of_row _ _ 0 _ 33 (0, 0) r0]; rfl, by rw [cell_of_row _ _ 1 _ 33 (0, 0) r0]; rfl, by rw [cell_of_row _ _ 2 _ 33 (0, 0) r0]; rfl, by rw [cell_of_row _ _ 3 _ 33 (0, 0) r0]; rfl, by rw [cell_of_row _ _ 0 _ 29 (0, 0) r1]; rfl, by rw [cell_of_row _ _ 1 _ 29 (0, 0) r1]; rfl, by rw [cell_of_row _ _ 0 _ 33 (0, 0) r2]; rfl, by rw [cell_of_row _ _ 1 _ 33 (0, 0) r2]; rfl, by rw [cell_of_row _ _ 2 _ 33 (0, 0) r2]; rfl, by rw [cell_of_row _ _ 3 _ 33 (0, 0) r2]; rfl, h0.below hw, h1.below hw, h2.below hw, h3.below hw, h4.below hw⟩ : Below w.heap.size w wx ∧ wx.cell? ⟨w.heap.size, 0, none⟩ = some (.int .i64 D0) ∧ wx.cell? ⟨w.heap.size, 1, none⟩ = some (.slice a0 n0 c0) ∧ wx.cell? ⟨w.heap.size, 2, none⟩ = some (.int .i64 D1) ∧ wx.cell? ⟨w.heap.size, 3, none⟩ = some (.slice a1 n1 c1) ∧ wx.cell? ⟨w.heap.size + 1, 0, none⟩ = some (.int .i64 D2) ∧ wx.cell? ⟨w.heap.size + 1, 1, none⟩ = some (.slice a2 n2 c2) ∧ wx.cell? ⟨w.heap.size + 2, 0, none⟩ = some (.int .i64 D3) ∧ wx.cell? ⟨w.heap.size + 2, 1, none⟩ = some (.slice a3 n3 c3) ∧ wx.cell? ⟨w.heap.size + 2, 2, none⟩ = some (.int .i64 D4) ∧ wx.cell? ⟨w.heap.size + 2, 3, none⟩ = some (.slice a4 n4 c4) ∧ LA 100 wx D0 a0 n0 c0 P0 ∧ LA 100 wx D1 a1 n1 c1 P1 ∧ LA 100 wx D2 a2 n2 c2 P2 ∧ LA 100 wx D3 a3 n3 c3 P3 ∧ LA 100 wx D4 a4 n4 c4 P4))
  clear h0 h1 h2 h3 h4 hB hk0 hk1 hk2
  go_enter Try.func32, Try.ntmps32
  go_upto_region 1 with fail
  rw [← e0]
  clear e0
  have hHeld := Below.refl W0.heap.size W0
  refine region_AU (Z := fun j => false) (S := fun w' => Below W0.heap.size W0 w') (by kernel_rfl) (hHeld.drew) (fun hHeld => ?_)
  refine AUS_take (by kernel_rfl) rfl (i := 0) (oi := _) (v := ?vw1) rfl (by kernel_rfl) (by kernel_rfl) (by kernel_rfl) (fun _ _ _ h => h) (Or.inl ⟨by rfl, ?hz1⟩) hHeld ?rst1
  case hz1 => (intro wS hSw; obtain ⟨_, f0, f1, f2, f3, f4, f5, f6, f7, f8, f9, _, _, _, _, _⟩ := HS.out wS hSw; clear hSw; go_simp; try with_reducible rfl)
  simp only [Act.put, List.getElem_toArray, List.getElem_cons_zero, List.getElem_cons_succ, List.setIfInBounds_toArray, List.set_cons_zero, List.set_cons_succ]
  refine AUS_take (by kernel_rfl) rfl (i := 1) (oi := _) (v := ?vw2) rfl (by kernel_rfl) (by kernel_rfl) (by kernel_rfl) (fun _ _ _ h => h) (Or.inl ⟨by rfl, ?hz2⟩) hHeld ?rst2
  case hz2 => (intro wS hSw; obtain ⟨_, f0, f1, f2, f3, f4, f5, f6, f7, f8, f9, _, _, _, _, _⟩ := HS.out wS hSw; clear hSw; go_simp; try with_reducible rfl)
  simp only [Act.put, List.getElem_toArray, List.getElem_cons_zero, List.getElem_cons_succ, List.setIfInBounds_toArray, List.set_cons_zero, List.set_cons_succ]
  refine AUS_take (by kernel_rfl) rfl (i := 2) (oi := _) (v := ?vw3) rfl (by kernel_rfl) (by kernel_rfl) (by kernel_rfl) (fun _ _ _ h => h) (Or.inl ⟨by rfl, ?hz3⟩) hHeld ?rst3
  case hz3 => (intro wS hSw; obtain ⟨_, f0, f1, f2, f3, f4, f5, f6, f7, f8, f9, _, _, _, _, _⟩ := HS.out wS hSw; clear hSw; go_simp; try with_reducible rfl)
  simp only [Act.put, List.getElem_toArray, List.getElem_cons_zero, List.getElem_cons_succ, List.setIfInBounds_toArray, List.set_cons_zero, List.set_cons_succ]
  have HH := Lib.hid hHeld
  obtain ⟨hbw, _, _, _, _, _, _, _, _, _, _, g0, g1, g2, g3, g4⟩ := HS.out _ hHeld
  refine AU_one (i := 3) (o := _) (by kernel_rfl) rfl (fun K hK => ?_)
  obtain ⟨b1, E1⟩ : ∃ b, Hid (ch D0 P0 D2 P2 = b) := ⟨_, Lib.hid rfl⟩
  have CC := rchange_m (g0.mono (by omega)) (g2.mono (by omega))
  rw [E1.out] at CC
  have CC := Lib.hid CC
  clear hHeld hbw g0 g1 g2 g3 g4
  go_simp
  refine CC.out.mono ?_
  clear CC
  rintro e wz1 ⟨rfl, hb⟩
  have hHeld := HH.out.trans (hb.mono HH.out.size)
  clear HH hb
  refine hK.out _ _ (fun _ => hHeld) ?_
  clear hK K
  try simp only [Act.put, List.getElem_toArray, List.getElem_cons_zero, List.getElem_cons_succ, List.setIfInBounds_toArray, List.set_cons_zero, List.set_cons_succ]
  cases b1
  · skip
    refine AUS_take (by kernel_rfl) rfl (i := 4) (oi := _) (v := ?vw4) rfl (by kernel_rfl) (by kernel_rfl) (by kernel_rfl) (fun _ _ _ h => h) (Or.inl ⟨by rfl, ?hz4⟩) hHeld ?rst4
    case hz4 => (intro wS hSw; obtain ⟨_, f0, f1, f2, f3, f4, f5, f6, f7, f8, f9, _, _, _, _, _⟩ := HS.out wS hSw; clear hSw; go_simp; try with_reducible rfl)
    simp only [Act.put, List.getElem_toArray, List.getElem_cons_zero, List.getElem_cons_succ, List.setIfInBounds_toArray, List.set_cons_zero, List.set_cons_succ]
    refine AUS_take (by kernel_rfl) rfl (i := 5) (oi := _) (v := undef) rfl (by kernel_rfl) (by kernel_rfl) (by kernel_rfl) (fun _ _ _ h => h) (Or.inr ⟨by rfl, rfl⟩) hHeld ?rst5
    try simp only [Act.put, List.getElem_toArray, List.getElem_cons_zero, List.getElem_cons_succ, List.setIfInBounds_toArray, List.set_cons_zero, List.set_cons_succ]
    refine AUS_take (by kernel_rfl) rfl (i := 6) (oi := _) (v := undef) rfl (by kernel_rfl) (by kernel_rfl) (by kernel_rfl) (fun _ _ _ h => h) (Or.inr ⟨by rfl, rfl⟩) hHeld ?rst6
    try simp only [Act.put, List.getElem_toArray, List.getElem_cons_zero, List.getElem_cons_succ, List.setIfInBounds_toArray, List.set_cons_zero, List.set_cons_succ]
    refine AUS_take (by kernel_rfl) rfl (i := 7) (oi := _) (v := undef) rfl (by kernel_rfl) (by kernel_rfl) (by kernel_rfl) (fun _ _ _ h => h) (Or.inr ⟨by rfl, rfl⟩) hHeld ?rst7
    try simp only [Act.put, List.getElem_toArray, List.getElem_cons_zero, List.getElem_cons_succ, List.setIfInBounds_toArray, List.set_cons_zero, List.set_cons_succ]
    refine AUS_take (by kernel_rfl) rfl (i := 8) (oi := _) (v := undef) rfl (by kernel_rfl) (by kernel_rfl) (by kernel_rfl) (fun _ _ _ h => h) (Or.inr ⟨by rfl, rfl⟩) hHeld ?rst8
    try simp only [Act.put, List.getElem_toArray, List.getElem_cons_zero, List.getElem_cons_succ, List.setIfInBounds_toArray, List.set_cons_zero, List.set_cons_succ]
    refine AUS_take (by kernel_rfl) rfl (i := 9) (oi := _) (v := undef) rfl (by kernel_rfl) (by kernel_rfl) (by kernel_rfl) (fun _ _ _ h => h) (Or.inr ⟨by rfl, rfl⟩) hHeld ?rst9
    try simp only [Act.put, List.getElem_toArray, List.getElem_cons_zero, List.getElem_cons_succ, List.setIfInBounds_toArray, List.set_cons_zero, List.set_cons_succ]
    refine AUS_take (by kernel_rfl) rfl (i := 10) (oi := _) (v := ?vw10) rfl (by kernel_rfl) (by kernel_rfl) (by kernel_rfl) (fun _ _ _ h => h) (Or.inl ⟨by rfl, ?hz10⟩) hHeld ?rst10
    case hz10 => (intro wS hSw; obtain ⟨_, f0, f1, f2, f3, f4, f5, f6, f7, f8, f9, _, _, _, _, _⟩ := HS.out wS hSw; clear hSw; go_simp; try with_reducible rfl)
    simp only [Act.put, List.getElem_toArray, List.getElem_cons_zero, List.getElem_cons_succ, List.setIfInBounds_toArray, List.set_cons_zero, List.set_cons_succ]
    refine AUS_take (by kernel_rfl) rfl (i := 11) (oi := _) (v := ?vw11) rfl (by kernel_rfl) (by kernel_rfl) (by kernel_rfl) (fun _ _ _ h => h) (Or.inl ⟨by rfl, ?hz11⟩) hHeld ?rst11
    case hz11 => (intro wS hSw; obtain ⟨_, f0, f1, f2, f3, f4, f5, f6, f7, f8, f9, _, _, _, _, _⟩ := HS.out wS hSw; clear hSw; go_simp; try with_reducible rfl)
    simp only [Act.put, List.getElem_toArray, List.getElem_cons_zero, List.getElem_cons_succ, List.setIfInBounds_toArray, List.set_cons_zero, List.set_cons_succ]
    refine AUS_take (by kernel_rfl) rfl (i := 12) (oi := _) (v := undef) rfl (by kernel_rfl) (by kernel_rfl) (by kernel_rfl) (fun _ _ _ h => h) (Or.inr ⟨by rfl, rfl⟩) hHeld ?rst12
    try simp only [Act.put, List.getElem_toArray, List.getElem_cons_zero, List.getElem_cons_succ, List.setIfInBounds_toArray, List.set_cons_zero, List.set_cons_succ]
    refine AUS_take (by kernel_rfl) rfl (i := 13) (oi := _) (v := undef) rfl (by kernel_rfl) (by kernel_rfl) (by kernel_rfl) (fun _ _ _ h => h) (Or.inr ⟨by rfl, rfl⟩) hHeld ?rst13
    try simp only [Act.put, List.getElem_toArray, List.getElem_cons_zero, List.getElem_cons_succ, List.setIfInBounds_toArray, List.set_cons_zero, List.set_cons_succ]
    refine AUS_take (by kernel_rfl) rfl (i := 14) (oi := _) (v := undef) rfl (by kernel_rfl) (by kernel_rfl) (by kernel_rfl) (fun _ _ _ h => h) (Or.inr ⟨by rfl, rfl⟩) hHeld ?rst14
    try simp only [Act.put, List.getElem_toArray, List.getElem_cons_zero, List.getElem_cons_succ, List.setIfInBounds_toArray, List.set_cons_zero, List.set_cons_succ]
    refine AUS_take (by kernel_rfl) rfl (i := 15) (oi := _) (v := undef) rfl (by kernel_rfl) (by kernel_rfl) (by kernel_rfl) (fun _ _ _ h => h) (Or.inr ⟨by rfl, rfl⟩) hHeld ?rst15
    try simp only [Act.put, List.getElem_toArray, List.getElem_cons_zero, List.getElem_cons_succ, List.setIfInBounds_toArray, List.set_cons_zero, List.set_cons_succ]
    refine AUS_take (by kernel_rfl) rfl (i := 16) (oi := _) (v := undef) rfl (by kernel_rfl) (by kernel_rfl) (by kernel_rfl) (fun _ _ _ h => h) (Or.inr ⟨by rfl, rfl⟩) hHeld ?rst16
    try simp only [Act.put, List.getElem_toArray, List.getElem_cons_zero, List.getElem_cons_succ, List.setIfInBounds_toArray, List.set_cons_zero, List.set_cons_succ]
    refine AUS_take (by kernel_rfl) rfl (i := 17) (oi := _) (v := ?vw17) rfl (by kernel_rfl) (by kernel_rfl) (by kernel_rfl) (fun _ _ _ h => h) (Or.inl ⟨by rfl, ?hz17⟩) hHeld ?rst17
    case hz17 => (intro wS hSw; obtain ⟨_, f0, f1, f2, f3, f4, f5, f6, f7, f8, f9, _, _, _, _, _⟩ := HS.out wS hSw; clear hSw; go_simp; try with_reducible rfl)
    simp only [Act.put, List.getElem_toArray, List.getElem_cons_zero, List.getElem_cons_succ, List.setIfInBounds_toArray, List.set_cons_zero, List.set_cons_succ]
    refine AUS_take (by kernel_rfl) rfl (i := 18) (oi := _) (v := ?vw18) rfl (by kernel_rfl) (by kernel_rfl) (by kernel_rfl) (fun _ _ _ h => h) (Or.inl ⟨by rfl, ?hz18⟩) hHeld ?rst18
    case hz18 => (intro wS hSw; obtain ⟨_, f0, f1, f2, f3, f4, f5, f6, f7, f8, f9, _, _, _, _, _⟩ := HS.out wS hSw; clear hSw; go_simp; try with_reducible rfl)
    simp only [Act.put, List.getElem_toArray, List.getElem_cons_zero, List.getElem_cons_succ, List.setIfInBounds_toArray, List.set_cons_zero, List.set_cons_succ]
    refine AUS_take (by kernel_rfl) rfl (i := 19) (oi := _) (v := undef) rfl (by kernel_rfl) (by kernel_rfl) (by kernel_rfl) (fun _ _ _ h => h) (Or.inr ⟨by rfl, rfl⟩) hHeld ?rst19
    try simp only [Act.put, List.getElem_toArray, List.getElem_cons_zero, List.getElem_cons_succ, List.setIfInBounds_toArray, List.set_cons_zero, List.set_cons_succ]
    refine AUS_take (by kernel_rfl) rfl (i := 20) (oi := _) (v := undef) rfl (by kernel_rfl) (by kernel_rfl) (by kernel_rfl) (fun _ _ _ h => h) (Or.inr ⟨by rfl, rfl⟩) hHeld ?rst20
    try simp only [Act.put, List.getElem_toArray, List.getElem_cons_zero, List.getElem_cons_succ, List.setIfInBounds_toArray, List.set_cons_zero, List.set_cons_succ]
    refine AUS_take (by kernel_rfl) rfl (i := 21) (oi := _) (v := undef) rfl (by kernel_rfl) (by kernel_rfl) (by kernel_rfl) (fun _ _ _ h => h) (Or.inr ⟨by rfl, rfl⟩) hHeld ?rst21
    try simp only [Act.put, List.getElem_toArray, List.getElem_cons_zero, List.getElem_cons_succ, List.setIfInBounds_toArray, List.set_cons_zero, List.set_cons_succ]
    refine AUS_take (by kernel_rfl) rfl (i := 22) (oi := _) (v := undef) rfl (by kernel_rfl) (by kernel_rfl) (by kernel_rfl) (fun _ _ _ h => h) (Or.inr ⟨by rfl, rfl⟩) hHeld ?rst22
    try simp only [Act.put, List.getElem_toArray, List.getElem_cons_zero, List.getElem_cons_succ, List.setIfInBounds_toArray, List.set_cons_zero, List.set_cons_succ]
    refine AUS_take (by kernel_rfl) rfl (i := 23) (oi := _) (v := undef) rfl (by kernel_rfl) (by kernel_rfl) (by kernel_rfl) (fun _ _ _ h => h) (Or.inr ⟨by rfl, rfl⟩) hHeld ?rst23
    try simp only [Act.put, List.getElem_toArray, List.getElem_cons_zero, List.getElem_cons_succ, List.setIfInBounds_toArray, List.set_cons_zero, List.set_cons_succ]
    refine AUS_take (by kernel_rfl) rfl (i := 24) (oi := _) (v := ?vw24) rfl (by kernel_rfl) (by kernel_rfl) (by kernel_rfl) (fun _ _ _ h => h) (Or.inl ⟨by rfl, ?hz24⟩) hHeld ?rst24
    case hz24 => (intro wS hSw; obtain ⟨_, f0, f1, f2, f3, f4, f5, f6, f7, f8, f9, _, _, _, _, _⟩ := HS.out wS hSw; clear hSw; go_simp; try with_reducible rfl)
    simp only [Act.put, List.getElem_toArray, List.getElem_cons_zero, List.getElem_cons_succ, List.setIfInBounds_toArray, List.set_cons_zero, List.set_cons_succ]
    refine AUS_take (by kernel_rfl) rfl (i := 25) (oi := _) (v := ?vw25) rfl (by kernel_rfl) (by kernel_rfl) (by kernel_rfl) (fun _ _ _ h => h) (Or.inl ⟨by rfl, ?hz25⟩) hHeld ?rst25
    case hz25 => (intro wS hSw; obtain ⟨_, f0, f1, f2, f3, f4, f5, f6, f7, f8, f9, _, _, _, _, _⟩ := HS.out wS hSw; clear hSw; go_simp; try with_reducible rfl)
    simp only [Act.put, List.getElem_toArray, List.getElem_cons_zero, List.getElem_cons_succ, List.setIfInBounds_toArray, List.set_cons_zero, List.set_cons_succ]
    refine AUS_take (by kernel_rfl) rfl (i := 26) (oi := _) (v := undef) rfl (by kernel_rfl) (by kernel_rfl) (by kernel_rfl) (fun _ _ _ h => h) (Or.inr ⟨by rfl, rfl⟩) hHeld ?rst26
    try simp only [Act.put, List.getElem_toArray, List.getElem_cons_zero, List.getElem_cons_succ, List.setIfInBounds_toArray, List.set_cons_zero, List.set_cons_succ]
    refine AUS_take (by kernel_rfl) rfl (i := 27) (oi := _) (v := undef) rfl (by kernel_rfl) (by kernel_rfl) (by kernel_rfl) (fun _ _ _ h => h) (Or.inr ⟨by rfl, rfl⟩) hHeld ?rst27
    try simp only [Act.put, List.getElem_toArray, List.getElem_cons_zero, List.getElem_cons_succ, List.setIfInBounds_toArray, List.set_cons_zero, List.set_cons_succ]
    refine AUS_take (by kernel_rfl) rfl (i := 28) (oi := _) (v := undef) rfl (by kernel_rfl) (by kernel_rfl) (by kernel_rfl) (fun _ _ _ h => h) (Or.inr ⟨by rfl, rfl⟩) hHeld ?rst28
    try simp only [Act.put, List.getElem_toArray, List.getElem_cons_zero, List.getElem_cons_succ, List.setIfInBounds_toArray, List.set_cons_zero, List.set_cons_succ]
    refine AUS_take (by kernel_rfl) rfl (i := 29) (oi := _) (v := undef) rfl (by kernel_rfl) (by kernel_rfl) (by kernel_rfl) (fun _ _ _ h => h) (Or.inr ⟨by rfl, rfl⟩) hHeld ?rst29
    try simp only [Act.put, List.getElem_toArray, List.getElem_cons_zero, List.getElem_cons_succ, List.setIfInBounds_toArray, List.set_cons_zero, List.set_cons_succ]
    refine AUS_take (by kernel_rfl) rfl (i := 30) (oi := _) (v := undef) rfl (by kernel_rfl) (by kernel_rfl) (by kernel_rfl) (fun _ _ _ h => h) (Or.inr ⟨by rfl, rfl⟩) hHeld ?rst30
    try simp only [Act.put, List.getElem_toArray, List.getElem_cons_zero, List.getElem_cons_succ, List.setIfInBounds_toArray, List.set_cons_zero, List.set_cons_succ]
    refine AUS_take (by kernel_rfl) rfl (i := 31) (oi := _) (v := ?vw31) rfl (by kernel_rfl) (by kernel_rfl) (by kernel_rfl) (fun _ _ _ h => h) (Or.inl ⟨by rfl, ?hz31⟩) hHeld ?rst31
    case hz31 => (intro wS hSw; obtain ⟨_, f0, f1, f2, f3, f4, f5, f6, f7, f8, f9, _, _, _, _, _⟩ := HS.out wS hSw; clear hSw; go_simp; try with_reducible rfl)
    simp only [Act.put, List.getElem_toArray, List.getElem_cons_zero, List.getElem_cons_succ, List.setIfInBounds_toArray, List.set_cons_zero, List.set_cons_succ]
    refine AUS_take (by kernel_rfl) rfl (i := 32) (oi := _) (v := ?vw32) rfl (by kernel_rfl) (by kernel_rfl) (by kernel_rfl) (fun _ _ _ h => h) (Or.inl ⟨by rfl, ?hz32⟩) hHeld ?rst32
    case hz32 => (intro wS hSw; obtain ⟨_, f0, f1, f2, f3, f4, f5, f6, f7, f8, f9, _, _, _, _, _⟩ := HS.out wS hSw; clear hSw; go_simp; try with_reducible rfl)
    simp only [Act.put, List.getElem_toArray, List.getElem_cons_zero, List.getElem_cons_succ, List.setIfInBounds_toArray, List.set_cons_zero, List.set_cons_succ]
    have HE := Lib.hid hHeld
    clear hHeld
    refine AU_done (by kernel_rfl) ?_ _
    simp only [OnlyN]
    have hHeld := HE.out
    clear HE
    have HE := Lib.hid (HS.out _ hHeld).1
    clear hHeld
    go_wp2_with fail
    go_ret
    exact ⟨by simp [gv, E1.out], HE.out⟩
  · skip
    refine AUS_take (by kernel_rfl) rfl (i := 4) (oi := _) (v := ?vw33) rfl (by kernel_rfl) (by kernel_rfl) (by kernel_rfl) (fun _ _ _ h => h) (Or.inl ⟨by rfl, ?hz33⟩) hHeld ?rst33
    case hz33 => (intro wS hSw; obtain ⟨_, f0, f1, f2, f3, f4, f5, f6, f7, f8, f9, _, _, _, _, _⟩ := HS.out wS hSw; clear hSw; go_simp; try with_reducible rfl)
    simp only [Act.put, List.getElem_toArray, List.getElem_cons_zero, List.getElem_cons_succ, List.setIfInBounds_toArray, List.set_cons_zero, List.set_cons_succ]
    refine AUS_take (by kernel_rfl) rfl (i := 5) (oi := _) (v := ?vw34) rfl (by kernel_rfl) (by kernel_rfl) (by kernel_rfl) (fun _ _ _ h => h) (Or.inl ⟨by rfl, ?hz34⟩) hHeld ?rst34
    case hz34 => (intro wS hSw; obtain ⟨_, f0, f1, f2, f3, f4, f5, f6, f7, f8, f9, _, _, _, _, _⟩ := HS.out wS hSw; clear hSw; go_simp; try with_reducible rfl)
    simp only [Act.put, List.getElem_toArray, List.getElem_cons_zero, List.getElem_cons_succ, List.setIfInBounds_toArray, List.set_cons_zero, List.set_cons_succ]
    refine AUS_take (by kernel_rfl) rfl (i := 6) (oi := _) (v := ?vw35) rfl (by kernel_rfl) (by kernel_rfl) (by kernel_rfl) (fun _ _ _ h => h) (Or.inl ⟨by rfl, ?hz35⟩) hHeld ?rst35
    case hz35 => (intro wS hSw; obtain ⟨_, f0, f1, f2, f3, f4, f5, f6, f7, f8, f9, _, _, _, _, _⟩ := HS.out wS hSw; clear hSw; go_simp; try with_reducible rfl)
    simp only [Act.put, List.getElem_toArray, List.getElem_cons_zero, List.getElem_cons_succ, List.setIfInBounds_toArray, List.set_cons_zero, List.set_cons_succ]
    refine AUS_take (by kernel_rfl) rfl (i := 7) (oi := _) (v := ?vw36) rfl (by kernel_rfl) (by kernel_rfl) (by kernel_rfl) (fun _ _ _ h => h) (Or.inl ⟨by rfl, ?hz36⟩) hHeld ?rst36
    case hz36 => (intro wS hSw; obtain ⟨_, f0, f1, f2, f3, f4, f5, f6, f7, f8, f9, _, _, _, _, _⟩ := HS.out wS hSw; clear hSw; go_simp; try with_reducible rfl)
    simp only [Act.put, List.getElem_toArray, List.getElem_cons_zero, List.getElem_cons_succ, List.setIfInBounds_toArray, List.set_cons_zero, List.set_cons_succ]
    refine AUS_take (by kernel_rfl) rfl (i := 8) (oi := _) (v := ?vw37) rfl (by kernel_rfl) (by kernel_rfl) (by kernel_rfl) (fun _ _ _ h => h) (Or.inl ⟨by rfl, ?hz37⟩) hHeld ?rst37
    case hz37 => (intro wS hSw; obtain ⟨_, f0, f1, f2, f3, f4, f5, f6, f7, f8, f9, _, _, _, _, _⟩ := HS.out wS hSw; clear hSw; go_simp; try with_reducible rfl)
    simp only [Act.put, List.getElem_toArray, List.getElem_cons_zero, List.getElem_cons_succ, List.setIfInBounds_toArray, List.set_cons_zero, List.set_cons_succ]
    have HH := Lib.hid hHeld
    obtain ⟨hbw, _, _, _, _, _, _, _, _, _, _, g0, g1, g2, g3, g4⟩ := HS.out _ hHeld
    refine AU_one (i := 9) (o := _) (by kernel_rfl) rfl (fun K hK => ?_)
    obtain ⟨b2, E2⟩ : ∃ b, Hid (lq D0 P0 D3 P3 = b) := ⟨_, Lib.hid rfl⟩
    have CC := rleq_m g0 g3 (by omega) (by omega)
    rw [E2.out] at CC
    have CC := Lib.hid CC
    clear hHeld hbw g0 g1 g2 g3 g4
    go_simp
    refine CC.out.mono ?_
    clear CC
    rintro e wz2 ⟨rfl, hb⟩
    have hHeld := HH.out.trans (hb.mono HH.out.size)
    clear HH hb
    refine hK.out _ _ (fun _ => hHeld) ?_
    clear hK K
    try simp only [Act.put, List.getElem_toArray, List.getElem_cons_zero, List.getElem_cons_succ, List.setIfInBounds_toArray, List.set_cons_zero, List.set_cons_succ]
    cases b2
    · skip
      refine AUS_take (by kernel_rfl) rfl (i := 10) (oi := _) (v := ?vw38) rfl (by kernel_rfl) (by kernel_rfl) (by kernel_rfl) (fun _ _ _ h => h) (Or.inl ⟨by rfl, ?hz38⟩) hHeld ?rst38
      case hz38 => (intro wS hSw; obtain ⟨_, f0, f1, f2, f3, f4, f5, f6, f7, f8, f9, _, _, _, _, _⟩ := HS.out wS hSw; clear hSw; go_simp; try with_reducible rfl)
      simp only [Act.put, List.getElem_toArray, List.getElem_cons_zero, List.getElem_cons_succ, List.setIfInBounds_toArray, List.set_cons_zero, List.set_cons_succ]
      refine AUS_take (by kernel_rfl) rfl (i := 11) (oi := _) (v := ?vw39) rfl (by kernel_rfl) (by kernel_rfl) (by kernel_rfl) (fun _ _ _ h => h) (Or.inl ⟨by rfl, ?hz39⟩) hHeld ?rst39
      case hz39 => (intro wS hSw; obtain ⟨_, f0, f1, f2, f3, f4, f5, f6, f7, f8, f9, _, _, _, _, _⟩ := HS.out wS hSw; clear hSw; go_simp; try with_reducible rfl)
      simp only [Act.put, List.getElem_toArray, List.getElem_cons_zero, List.getElem_cons_succ, List.setIfInBounds_toArray, List.set_cons_zero, List.set_cons_succ]
      refine AUS_take (by kernel_rfl) rfl (i := 12) (oi := _) (v := undef) rfl (by kernel_rfl) (by kernel_rfl) (by kernel_rfl) (fun _ _ _ h => h) (Or.inr ⟨by rfl, rfl⟩) hHeld ?rst40
      try simp only [Act.put, List.getElem_toArray, List.getElem_cons_zero, List.getElem_cons_succ, List.setIfInBounds_toArray, List.set_cons_zero, List.set_cons_succ]
      refine AUS_take (by kernel_rfl) rfl (i := 13) (oi := _) (v := undef) rfl (by kernel_rfl) (by kernel_rfl) (by kernel_rfl) (fun _ _ _ h => h) (Or.inr ⟨by rfl, rfl⟩) hHeld ?rst41
      try simp only [Act.put, List.getElem_toArray, List.getElem_cons_zero, List.getElem_cons_succ, List.setIfInBounds_toArray, List.set_cons_zero, List.set_cons_succ]
      refine AUS_take (by kernel_rfl) rfl (i := 14) (oi := _) (v := undef) rfl (by kernel_rfl) (by kernel_rfl) (by kernel_rfl) (fun _ _ _ h => h) (Or.inr ⟨by rfl, rfl⟩) hHeld ?rst42
      try simp only [Act.put, List.getElem_toArray, List.getElem_cons_zero, List.getElem_cons_succ, List.setIfInBounds_toArray, List.set_cons_zero, List.set_cons_succ]
      refine AUS_take (by kernel_rfl) rfl (i := 15) (oi := _) (v := undef) rfl (by kernel_rfl) (by kernel_rfl) (by kernel_rfl) (fun _ _ _ h => h) (Or.inr ⟨by rfl, rfl⟩) hHeld ?rst43
      try simp only [Act.put, List.getElem_toArray, List.getElem_cons_zero, List.getElem_cons_succ, List.setIfInBounds_toArray, List.set_cons_zero, List.set_cons_succ]
      refine AUS_take (by kernel_rfl) rfl (i := 16) (oi := _) (v := undef) rfl (by kernel_rfl) (by kernel_rfl) (by kernel_rfl) (fun _ _ _ h => h) (Or.inr ⟨by rfl, rfl⟩) hHeld ?rst44
      try simp only [Act.put, List.getElem_toArray, List.getElem_cons_zero, List.getElem_cons_succ, List.setIfInBounds_toArray, List.set_cons_zero, List.set_cons_succ]
      refine AUS_take (by kernel_rfl) rfl (i := 17) (oi := _) (v := ?vw45) rfl (by kernel_rfl) (by kernel_rfl) (by kernel_rfl) (fun _ _ _ h => h) (Or.inl ⟨by rfl, ?hz45⟩) hHeld ?rst45
      case hz45 => (intro wS hSw; obtain ⟨_, f0, f1, f2, f3, f4, f5, f6, f7, f8, f9, _, _, _, _, _⟩ := HS.out wS hSw; clear hSw; go_simp; try with_reducible rfl)
      simp only [Act.put, List.getElem_toArray, List.getElem_cons_zero, List.getElem_cons_succ, List.setIfInBounds_toArray, List.set_cons_zero, List.set_cons_succ]
      refine AUS_take (by kernel_rfl) rfl (i := 18) (oi := _) (v := ?vw46) rfl (by kernel_rfl) (by kernel_rfl) (by kernel_rfl) (fun _ _ _ h => h) (Or.inl ⟨by rfl, ?hz46⟩) hHeld ?rst46
      case hz46 => (intro wS hSw; obtain ⟨_, f0, f1, f2, f3, f4, f5, f6, f7, f8, f9, _, _, _, _, _⟩ := HS.out wS hSw; clear hSw; go_simp; try with_reducible rfl)
      simp only [Act.put, List.getElem_toArray, List.getElem_cons_zero, List.getElem_cons_succ, List.setIfInBounds_toArray, List.set_cons_zero, List.set_cons_succ]
      refine AUS_take (by kernel_rfl) rfl (i := 19) (oi := _) (v := undef) rfl (by kernel_rfl) (by kernel_rfl) (by kernel_rfl) (fun _ _ _ h => h) (Or.inr ⟨by rfl, rfl⟩) hHeld ?rst47
      try simp only [Act.put, List.getElem_toArray, List.getElem_cons_zero, List.getElem_cons_succ, List.setIfInBounds_toArray, List.set_cons_zero, List.set_cons_succ]
      refine AUS_take (by kernel_rfl) rfl (i := 20) (oi := _) (v := undef) rfl (by kernel_rfl) (by kernel_rfl) (by kernel_rfl) (fun _ _ _ h => h) (Or.inr ⟨by rfl, rfl⟩) hHeld ?rst48
      try simp only [Act.put, List.getElem_toArray, List.getElem_cons_zero, List.getElem_cons_succ, List.setIfInBounds_toArray, List.set_cons_zero, List.set_cons_succ]
      refine AUS_take (by kernel_rfl) rfl (i := 21) (oi := _) (v := undef) rfl (by kernel_rfl) (by kernel_rfl) (by kernel_rfl) (fun _ _ _ h => h) (Or.inr ⟨by rfl, rfl⟩) hHeld ?rst49
      try simp only [Act.put, List.getElem_toArray, List.getElem_cons_zero, List.getElem_cons_succ, List.setIfInBounds_toArray, List.set_cons_zero, List.set_cons_succ]
      refine AUS_take (by kernel_rfl) rfl (i := 22) (oi := _) (v := undef) rfl (by kernel_rfl) (by kernel_rfl) (by kernel_rfl) (fun _ _ _ h => h) (Or.inr ⟨by rfl, rfl⟩) hHeld ?rst50
      try simp only [Act.put, List.getElem_toArray, List.getElem_cons_zero, List.getElem_cons_succ, List.setIfInBounds_toArray, List.set_cons_zero, List.set_cons_succ]
      refine AUS_take (by kernel_rfl) rfl (i := 23) (oi := _) (v := undef) rfl (by kernel_rfl) (by kernel_rfl) (by kernel_rfl) (fun _ _ _ h => h) (Or.inr ⟨by rfl, rfl⟩) hHeld ?rst51
      try simp only [Act.put, List.getElem_toArray, List.getElem_cons_zero, List.getElem_cons_succ, List.setIfInBounds_toArray, List.set_cons_zero, List.set_cons_succ]
      refine AUS_take (by kernel_rfl) rfl (i := 24) (oi := _) (v := ?vw52) rfl (by kernel_rfl) (by kernel_rfl) (by kernel_rfl) (fun _ _ _ h => h) (Or.inl ⟨by rfl, ?hz52⟩) hHeld ?rst52
      case hz52 => (intro wS hSw; obtain ⟨_, f0, f1, f2, f3, f4, f5, f6, f7, f8, f9, _, _, _, _, _⟩ := HS.out wS hSw; clear hSw; go_simp; try with_reducible rfl)
      simp only [Act.put, List.getElem_toArray, List.getElem_cons_zero, List.getElem_cons_succ, List.setIfInBounds_toArray, List.set_cons_zero, List.set_cons_succ]
      refine AUS_take (by kernel_rfl) rfl (i := 25) (oi := _) (v := ?vw53) rfl (by kernel_rfl) (by kernel_rfl) (by kernel_rfl) (fun _ _ _ h => h) (Or.inl ⟨by rfl, ?hz53⟩) hHeld ?rst53
      case hz53 => (intro wS hSw; obtain ⟨_, f0, f1, f2, f3, f4, f5, f6, f7, f8, f9, _, _, _, _, _⟩ := HS.out wS hSw; clear hSw; go_simp; try with_reducible rfl)
      simp only [Act.put, List.getElem_toArray, List.getElem_cons_zero, List.getElem_cons_succ, List.setIfInBounds_toArray, List.set_cons_zero, List.set_cons_succ]
      refine AUS_take (by kernel_rfl) rfl (i := 26) (oi := _) (v := undef) rfl (by kernel_rfl) (by kernel_rfl) (by kernel_rfl) (fun _ _ _ h => h) (Or.inr ⟨by rfl, rfl⟩) hHeld ?rst54
      try simp only [Act.put, List.getElem_toArray, List.getElem_cons_zero, List.getElem_cons_succ, List.setIfInBounds_toArray, List.set_cons_zero, List.set_cons_succ]
      refine AUS_take (by kernel_rfl) rfl (i := 27) (oi := _) (v := undef) rfl (by kernel_rfl) (by kernel_rfl) (by kernel_rfl) (fun _ _ _ h => h) (Or.inr ⟨by rfl, rfl⟩) hHeld ?rst55
      try simp only [Act.put, List.getElem_toArray, List.getElem_cons_zero, List.getElem_cons_succ, List.setIfInBounds_toArray, List.set_cons_zero, List.set_cons_succ]
      refine AUS_take (by kernel_rfl) rfl (i := 28) (oi := _) (v := undef) rfl (by kernel_rfl) (by kernel_rfl) (by kernel_rfl) (fun _ _ _ h => h) (Or.inr ⟨by rfl, rfl⟩) hHeld ?rst56
      try simp only [Act.put, List.getElem_toArray, List.getElem_cons_zero, List.getElem_cons_succ, List.setIfInBounds_toArray, List.set_cons_zero, List.set_cons_succ]
      refine AUS_take (by kernel_rfl) rfl (i := 29) (oi := _) (v := undef) rfl (by kernel_rfl) (by kernel_rfl) (by kernel_rfl) (fun _ _ _ h => h) (Or.inr ⟨by rfl, rfl⟩) hHeld ?rst57
      try simp only [Act.put, List.getElem_toArray, List.getElem_cons_zero, List.getElem_cons_succ, List.setIfInBounds_toArray, List.set_cons_zero, List.set_cons_succ]
      refine AUS_take (by kernel_rfl) rfl (i := 30) (oi := _) (v := undef) rfl (by kernel_rfl) (by kernel_rfl) (by kernel_rfl) (fun _ _ _ h => h) (Or.inr ⟨by rfl, rfl⟩) hHeld ?rst58
      try simp only [Act.put, List.getElem_toArray, List.getElem_cons_zero, List.getElem_cons_succ, List.setIfInBounds_toArray, List.set_cons_zero, List.set_cons_succ]
      refine AUS_take (by kernel_rfl) rfl (i := 31) (oi := _) (v := ?vw59) rfl (by kernel_rfl) (by kernel_rfl) (by kernel_rfl) (fun _ _ _ h => h) (Or.inl ⟨by rfl, ?hz59⟩) hHeld ?rst59
      case hz59 => (intro wS hSw; obtain ⟨_, f0, f1, f2, f3, f4, f5, f6, f7, f8, f9, _, _, _, _, _⟩ := HS.out wS hSw; clear hSw; go_simp; try with_reducible rfl)
      simp only [Act.put, List.getElem_toArray, List.getElem_cons_zero, List.getElem_cons_succ, List.setIfInBounds_toArray, List.set_cons_zero, List.set_cons_succ]
      refine AUS_take (by kernel_rfl) rfl (i := 32) (oi := _) (v := ?vw60) rfl (by kernel_rfl) (by kernel_rfl) (by kernel_rfl) (fun _ _ _ h => h) (Or.inl ⟨by rfl, ?hz60⟩) hHeld ?rst60
      case hz60 => (intro wS hSw; obtain ⟨_, f0, f1, f2, f3, f4, f5, f6, f7, f8, f9, _, _, _, _, _⟩ := HS.out wS hSw; clear hSw; go_simp; try with_reducible rfl)
      simp only [Act.put, List.getElem_toArray, List.getElem_cons_zero, List.getElem_cons_succ, List.setIfInBounds_toArray, List.set_cons_zero, List.set_cons_succ]
      have HE := Lib.hid hHeld
      clear hHeld
      refine AU_done (by kernel_rfl) ?_ _
      simp only [OnlyN]
      have hHeld := HE.out
      clear HE
      have HE := Lib.hid (HS.out _ hHeld).1
      clear hHeld
      go_wp2_with fail
      go_ret
      exact ⟨by simp [gv, E1.out, E2.out], HE.out⟩
    · skip
      refine AUS_take (by kernel_rfl) rfl (i := 10) (oi := _) (v := ?vw61) rfl (by kernel_rfl) (by kernel_rfl) (by kernel_rfl) (fun _ _ _ h => h) (Or.inl ⟨by rfl, ?hz61⟩) hHeld ?rst61
      case hz61 => (intro wS hSw; obtain ⟨_, f0, f1, f2, f3, f4, f5, f6, f7, f8, f9, _, _, _, _, _⟩ := HS.out wS hSw; clear hSw; go_simp; try with_reducible rfl)
      simp only [Act.put, List.getElem_toArray, List.getElem_cons_zero, List.getElem_cons_succ, List.setIfInBounds_toArray, List.set_cons_zero, List.set_cons_succ]
      refine AUS_take (by kernel_rfl) rfl (i := 11) (oi := _) (v := ?vw62) rfl (by kernel_rfl) (by kernel_rfl) (by kernel_rfl) (fun _ _ _ h => h) (Or.inl ⟨by rfl, ?hz62⟩) hHeld ?rst62
      case hz62 => (intro wS hSw; obtain ⟨_, f0, f1, f2, f3, f4, f5, f6, f7, f8, f9, _, _, _, _, _⟩ := HS.out wS hSw; clear hSw; go_simp; try with_reducible rfl)
      simp only [Act.put, List.getElem_toArray, List.getElem_cons_zero, List.getElem_cons_succ, List.setIfInBounds_toArray, List.set_cons_zero, List.set_cons_succ]
      refine AUS_take (by kernel_rfl) rfl (i := 12) (oi := _) (v := ?vw63) rfl (by kernel_rfl) (by kernel_rfl) (by kernel_rfl) (fun _ _ _ h => h) (Or.inl ⟨by rfl, ?hz63⟩) hHeld ?rst63
      case hz63 => (intro wS hSw; obtain ⟨_, f0, f1, f2, f3, f4, f5, f6, f7, f8, f9, _, _, _, _, _⟩ := HS.out wS hSw; clear hSw; go_simp; try with_reducible rfl)
      simp only [Act.put, List.getElem_toArray, List.getElem_cons_zero, List.getElem_cons_succ, List.setIfInBounds_toArray, List.set_cons_zero, List.set_cons_succ]
      refine AUS_take (by kernel_rfl) rfl (i := 13) (oi := _) (v := ?vw64) rfl (by kernel_rfl) (by kernel_rfl) (by kernel_rfl) (fun _ _ _ h => h) (Or.inl ⟨by rfl, ?hz64⟩) hHeld ?rst64
      case hz64 => (intro wS hSw; obtain ⟨_, f0, f1, f2, f3, f4, f5, f6, f7, f8, f9, _, _, _, _, _⟩ := HS.out wS hSw; clear hSw; go_simp; try with_reducible rfl)
      simp only [Act.put, List.getElem_toArray, List.getElem_cons_zero, List.getElem_cons_succ, List.setIfInBounds_toArray, List.set_cons_zero, List.set_cons_succ]
      refine AUS_take (by kernel_rfl) rfl (i := 14) (oi := _) (v := ?vw65) rfl (by kernel_rfl) (by kernel_rfl) (by kernel_rfl) (fun _ _ _ h => h) (Or.inl ⟨by rfl, ?hz65⟩) hHeld ?rst65
      case hz65 => (intro wS hSw; obtain ⟨_, f0, f1, f2, f3, f4, f5, f6, f7, f8, f9, _, _, _, _, _⟩ := HS.out wS hSw; clear hSw; go_simp; try with_reducible rfl)
      simp only [Act.put, List.getElem_toArray, List.getElem_cons_zero, List.getElem_cons_succ, List.setIfInBounds_toArray, List.set_cons_zero, List.set_cons_succ]
      refine AUS_take (by kernel_rfl) rfl (i := 15) (oi := _) (v := ?vw66) rfl (by kernel_rfl) (by kernel_rfl) (by kernel_rfl) (fun _ _ _ h => h) (Or.inl ⟨by rfl, ?hz66⟩) hHeld ?rst66
      case hz66 => (intro wS hSw; obtain ⟨_, f0, f1, f2, f3, f4, f5, f6, f7, f8, f9, _, _, _, _, _⟩ := HS.out wS hSw; clear hSw; go_simp; try with_reducible rfl)
      simp only [Act.put, List.getElem_toArray, List.getElem_cons_zero, List.getElem_cons_succ, List.setIfInBounds_toArray, List.set_cons_zero, List.set_cons_succ]
      have HH := Lib.hid hHeld
      obtain ⟨hbw, _, _, _, _, _, _, _, _, _, _, g0, g1, g2, g3, g4⟩ := HS.out _ hHeld
      refine AU_one (i := 16) (o := _) (by kernel_rfl) rfl (fun K hK => ?_)
      obtain ⟨b3, E3⟩ : ∃ b, Hid (lq D3 P3 D4 P4 = b) := ⟨_, Lib.hid rfl⟩
      have CC := rleq_m g3 g4 (by omega) (by omega)
      rw [E3.out] at CC
      have CC := Lib.hid CC
      clear hHeld hbw g0 g1 g2 g3 g4
      go_simp
      refine CC.out.mono ?_
      clear CC
      rintro e wz3 ⟨rfl, hb⟩
      have hHeld := HH.out.trans (hb.mono HH.out.size)
      clear HH hb
      refine hK.out _ _ (fun _ => hHeld) ?_
      clear hK K
      try simp only [Act.put, List.getElem_toArray, List.getElem_cons_zero, List.getElem_cons_succ, List.setIfInBounds_toArray, List.set_cons_zero, List.set_cons_succ]
      cases b3
      · skip
        refine AUS_take (by kernel_rfl) rfl (i := 17) (oi := _) (v := ?vw67) rfl (by kernel_rfl) (by kernel_rfl) (by kernel_rfl) (fun _ _ _ h => h) (Or.inl ⟨by rfl, ?hz67⟩) hHeld ?rst67
        case hz67 => (intro wS hSw; obtain ⟨_, f0, f1, f2, f3, f4, f5, f6, f7, f8, f9, _, _, _, _, _⟩ := HS.out wS hSw; clear hSw; go_simp; try with_reducible rfl)
        simp only [Act.put, List.getElem_toArray, List.getElem_cons_zero, List.getElem_cons_succ, List.setIfInBounds_toArray, List.set_cons_zero, List.set_cons_succ]
        refine AUS_take (by kernel_rfl) rfl (i := 18) (oi := _) (v := ?vw68) rfl (by kernel_rfl) (by kernel_rfl) (by kernel_rfl) (fun _ _ _ h => h) (Or.inl ⟨by rfl, ?hz68⟩) hHeld ?rst68
        case hz68 => (intro wS hSw; obtain ⟨_, f0, f1, f2, f3, f4, f5, f6, f7, f8, f9, _, _, _, _, _⟩ := HS.out wS hSw; clear hSw; go_simp; try with_reducible rfl)
        simp only [Act.put, List.getElem_toArray, List.getElem_cons_zero, List.getElem_cons_succ, List.setIfInBounds_toArray, List.set_cons_zero, List.set_cons_succ]
        refine AUS_take (by kernel_rfl) rfl (i := 19) (oi := _) (v := undef) rfl (by kernel_rfl) (by kernel_rfl) (by kernel_rfl) (fun _ _ _ h => h) (Or.inr ⟨by rfl, rfl⟩) hHeld ?rst69
        try simp only [Act.put, List.getElem_toArray, List.getElem_cons_zero, List.getElem_cons_succ, List.setIfInBounds_toArray, List.set_cons_zero, List.set_cons_succ]
        refine AUS_take (by kernel_rfl) rfl (i := 20) (oi := _) (v := undef) rfl (by kernel_rfl) (by kernel_rfl) (by kernel_rfl) (fun _ _ _ h => h) (Or.inr ⟨by rfl, rfl⟩) hHeld ?rst70
        try simp only [Act.put, List.getElem_toArray, List.getElem_cons_zero, List.getElem_cons_succ, List.setIfInBounds_toArray, List.set_cons_zero, List.set_cons_succ]
        refine AUS_take (by kernel_rfl) rfl (i := 21) (oi := _) (v := undef) rfl (by kernel_rfl) (by kernel_rfl) (by kernel_rfl) (fun _ _ _ h => h) (Or.inr ⟨by rfl, rfl⟩) hHeld ?rst71
        try simp only [Act.put, List.getElem_toArray, List.getElem_cons_zero, List.getElem_cons_succ, List.setIfInBounds_toArray, List.set_cons_zero, List.set_cons_succ]
        refine AUS_take (by kernel_rfl) rfl (i := 22) (oi := _) (v := undef) rfl (by kernel_rfl) (by kernel_rfl) (by kernel_rfl) (fun _ _ _ h => h) (Or.inr ⟨by rfl, rfl⟩) hHeld ?rst72
        try simp only [Act.put, List.getElem_toArray, List.getElem_cons_zero, List.getElem_cons_succ, List.setIfInBounds_toArray, List.set_cons_zero, List.set_cons_succ]
        refine AUS_take (by kernel_rfl) rfl (i := 23) (oi := _) (v := undef) rfl (by kernel_rfl) (by kernel_rfl) (by kernel_rfl) (fun _ _ _ h => h) (Or.inr ⟨by rfl, rfl⟩) hHeld ?rst73
        try simp only [Act.put, List.getElem_toArray, List.getElem_cons_zero, List.getElem_cons_succ, List.setIfInBounds_toArray, List.set_cons_zero, List.set_cons_succ]
        refine AUS_take (by kernel_rfl) rfl (i := 24) (oi := _) (v := ?vw74) rfl (by kernel_rfl) (by kernel_rfl) (by kernel_rfl) (fun _ _ _ h => h) (Or.inl ⟨by rfl, ?hz74⟩) hHeld ?rst74
        case hz74 => (intro wS hSw; obtain ⟨_, f0, f1, f2, f3, f4, f5, f6, f7, f8, f9, _, _, _, _, _⟩ := HS.out wS hSw; clear hSw; go_simp; try with_reducible rfl)
        simp only [Act.put, List.getElem_toArray, List.getElem_cons_zero, List.getElem_cons_succ, List.setIfInBounds_toArray, List.set_cons_zero, List.set_cons_succ]
        refine AUS_take (by kernel_rfl) rfl (i := 25) (oi := _) (v := ?vw75) rfl (by kernel_rfl) (by kernel_rfl) (by kernel_rfl) (fun _ _ _ h => h) (Or.inl ⟨by rfl, ?hz75⟩) hHeld ?rst75
        case hz75 => (intro wS hSw; obtain ⟨_, f0, f1, f2, f3, f4, f5, f6, f7, f8, f9, _, _, _, _, _⟩ := HS.out wS hSw; clear hSw; go_simp; try with_reducible rfl)
        simp only [Act.put, List.getElem_toArray, List.getElem_cons_zero, List.getElem_cons_succ, List.setIfInBounds_toArray, List.set_cons_zero, List.set_cons_succ]
        refine AUS_take (by kernel_rfl) rfl (i := 26) (oi := _) (v := undef) rfl (by kernel_rfl) (by kernel_rfl) (by kernel_rfl) (fun _ _ _ h => h) (Or.inr ⟨by rfl, rfl⟩) hHeld ?rst76
        try simp only [Act.put, List.getElem_toArray, List.getElem_cons_zero, List.getElem_cons_succ, List.setIfInBounds_toArray, List.set_cons_zero, List.set_cons_succ]
        refine AUS_take (by kernel_rfl) rfl (i := 27) (oi := _) (v := undef) rfl (by kernel_rfl) (by kernel_rfl) (by kernel_rfl) (fun _ _ _ h => h) (Or.inr ⟨by rfl, rfl⟩) hHeld ?rst77
        try simp only [Act.put, List.getElem_toArray, List.getElem_cons_zero, List.getElem_cons_succ, List.setIfInBounds_toArray, List.set_cons_zero, List.set_cons_succ]
        refine AUS_take (by kernel_rfl) rfl (i := 28) (oi := _) (v := undef) rfl (by kernel_rfl) (by kernel_rfl) (by kernel_rfl) (fun _ _ _ h => h) (Or.inr ⟨by rfl, rfl⟩) hHeld ?rst78
        try simp only [Act.put, List.getElem_toArray, List.getElem_cons_zero, List.getElem_cons_succ, List.setIfInBounds_toArray, List.set_cons_zero, List.set_cons_succ]
        refine AUS_take (by kernel_rfl) rfl (i := 29) (oi := _) (v := undef) rfl (by kernel_rfl) (by kernel_rfl) (by kernel_rfl) (fun _ _ _ h => h) (Or.inr ⟨by rfl, rfl⟩) hHeld ?rst79
        try simp only [Act.put, List.getElem_toArray, List.getElem_cons_zero, List.getElem_cons_succ, List.setIfInBounds_toArray, List.set_cons_zero, List.set_cons_succ]
        refine AUS_take (by kernel_rfl) rfl (i := 30) (oi := _) (v := undef) rfl (by kernel_rfl) (by kernel_rfl) (by kernel_rfl) (fun _ _ _ h => h) (Or.inr ⟨by rfl, rfl⟩) hHeld ?rst80
        try simp only [Act.put, List.getElem_toArray, List.getElem_cons_zero, List.getElem_cons_succ, List.setIfInBounds_toArray, List.set_cons_zero, List.set_cons_succ]
        refine AUS_take (by kernel_rfl) rfl (i := 31) (oi := _) (v := ?vw81) rfl (by kernel_rfl) (by kernel_rfl) (by kernel_rfl) (fun _ _ _ h => h) (Or.inl ⟨by rfl, ?hz81⟩) hHeld ?rst81
        case hz81 => (intro wS hSw; obtain ⟨_, f0, f1, f2, f3, f4, f5, f6, f7, f8, f9, _, _, _, _, _⟩ := HS.out wS hSw; clear hSw; go_simp; try with_reducible rfl)
        simp only [Act.put, List.getElem_toArray, List.getElem_cons_zero, List.getElem_cons_succ, List.setIfInBounds_toArray, List.set_cons_zero, List.set_cons_succ]
        refine AUS_take (by kernel_rfl) rfl (i := 32) (oi := _) (v := ?vw82) rfl (by kernel_rfl) (by kernel_rfl) (by kernel_rfl) (fun _ _ _ h => h) (Or.inl ⟨by rfl, ?hz82⟩) hHeld ?rst82
        case hz82 => (intro wS hSw; obtain ⟨_, f0, f1, f2, f3, f4, f5, f6, f7, f8, f9, _, _, _, _, _⟩ := HS.out wS hSw; clear hSw; go_simp; try with_reducible rfl)
        simp only [Act.put, List.getElem_toArray, List.getElem_cons_zero, List.getElem_cons_succ, List.setIfInBounds_toArray, List.set_cons_zero, List.set_cons_succ]
        have HE := Lib.hid hHeld
        clear hHeld
        refine AU_done (by kernel_rfl) ?_ _
        simp only [OnlyN]
        have hHeld := HE.out
        clear HE
        have HE := Lib.hid (HS.out _ hHeld).1
        clear hHeld
        go_wp2_with fail
        go_ret
        exact ⟨by simp [gv, E1.out, E2.out, E3.out], HE.out⟩
      · skip
        refine AUS_take (by kernel_rfl) rfl (i := 17) (oi := _) (v := ?vw83) rfl (by kernel_rfl) (by kernel_rfl) (by kernel_rfl) (fun _ _ _ h => h) (Or.inl ⟨by rfl, ?hz83⟩) hHeld ?rst83
        case hz83 => (intro wS hSw; obtain ⟨_, f0, f1, f2, f3, f4, f5, f6, f7, f8, f9, _, _, _, _, _⟩ := HS.out wS hSw; clear hSw; go_simp; try with_reducible rfl)
        simp only [Act.put, List.getElem_toArray, List.getElem_cons_zero, List.getElem_cons_succ, List.setIfInBounds_toArray, List.set_cons_zero, List.set_cons_succ]
        refine AUS_take (by kernel_rfl) rfl (i := 18) (oi := _) (v := ?vw84) rfl (by kernel_rfl) (by kernel_rfl) (by kernel_rfl) (fun _ _ _ h => h) (Or.inl ⟨by rfl, ?hz84⟩) hHeld ?rst84
        case hz84 => (intro wS hSw; obtain ⟨_, f0, f1, f2, f3, f4, f5, f6, f7, f8, f9, _, _, _, _, _⟩ := HS.out wS hSw; clear hSw; go_simp; try with_reducible rfl)
        simp only [Act.put, List.getElem_toArray, List.getElem_cons_zero, List.getElem_cons_succ, List.setIfInBounds_toArray, List.set_cons_zero, List.set_cons_succ]
        refine AUS_take (by kernel_rfl) rfl (i := 19) (oi := _) (v := ?vw85) rfl (by kernel_rfl) (by kernel_rfl) (by kernel_rfl) (fun _ _ _ h => h) (Or.inl ⟨by rfl, ?hz85⟩) hHeld ?rst85
        case hz85 => (intro wS hSw; obtain ⟨_, f0, f1, f2, f3, f4, f5, f6, f7, f8, f9, _, _, _, _, _⟩ := HS.out wS hSw; clear hSw; go_simp; try with_reducible rfl)
        simp only [Act.put, List.getElem_toArray, List.getElem_cons_zero, List.getElem_cons_succ, List.setIfInBounds_toArray, List.set_cons_zero, List.set_cons_succ]
        refine AUS_take (by kernel_rfl) rfl (i := 20) (oi := _) (v := ?vw86) rfl (by kernel_rfl) (by kernel_rfl) (by kernel_rfl) (fun _ _ _ h => h) (Or.inl ⟨by rfl, ?hz86⟩) hHeld ?rst86
        case hz86 => (intro wS hSw; obtain ⟨_, f0, f1, f2, f3, f4, f5, f6, f7, f8, f9, _, _, _, _, _⟩ := HS.out wS hSw; clear hSw; go_simp; try with_reducible rfl)
        simp only [Act.put, List.getElem_toArray, List.getElem_cons_zero, List.getElem_cons_succ, List.setIfInBounds_toArray, List.set_cons_zero, List.set_cons_succ]
        refine AUS_take (by kernel_rfl) rfl (i := 21) (oi := _) (v := ?vw87) rfl (by kernel_rfl) (by kernel_rfl) (by kernel_rfl) (fun _ _ _ h => h) (Or.inl ⟨by rfl, ?hz87⟩) hHeld ?rst87
        case hz87 => (intro wS hSw; obtain ⟨_, f0, f1, f2, f3, f4, f5, f6, f7, f8, f9, _, _, _, _, _⟩ := HS.out wS hSw; clear hSw; go_simp; try with_reducible rfl)
        simp only [Act.put, List.getElem_toArray, List.getElem_cons_zero, List.getElem_cons_succ, List.setIfInBounds_toArray, List.set_cons_zero, List.set_cons_succ]
        refine AUS_take (by kernel_rfl) rfl (i := 22) (oi := _) (v := ?vw88) rfl (by kernel_rfl) (by kernel_rfl) (by kernel_rfl) (fun _ _ _ h => h) (Or.inl ⟨by rfl, ?hz88⟩) hHeld ?rst88
        case hz88 => (intro wS hSw; obtain ⟨_, f0, f1, f2, f3, f4, f5, f6, f7, f8, f9, _, _, _, _, _⟩ := HS.out wS hSw; clear hSw; go_simp; try with_reducible rfl)
        simp only [Act.put, List.getElem_toArray, List.getElem_cons_zero, List.getElem_cons_succ, List.setIfInBounds_toArray, List.set_cons_zero, List.set_cons_succ]
        have HH := Lib.hid hHeld
        obtain ⟨hbw, _, _, _, _, _, _, _, _, _, _, g0, g1, g2, g3, g4⟩ := HS.out _ hHeld
        refine AU_one (i := 23) (o := _) (by kernel_rfl) rfl (fun K hK => ?_)
        obtain ⟨b4, E4⟩ : ∃ b, Hid (lq D4 P4 D1 P1 = b) := ⟨_, Lib.hid rfl⟩
        have CC := rleq_m g4 g1 (by omega) (by omega)
        rw [E4.out] at CC
        have CC := Lib.hid CC
        clear hHeld hbw g0 g1 g2 g3 g4
        go_simp
        refine CC.out.mono ?_
        clear CC
        rintro e wz4 ⟨rfl, hb⟩
        have hHeld := HH.out.trans (hb.mono HH.out.size)
        clear HH hb
        refine hK.out _ _ (fun _ => hHeld) ?_
        clear hK K
        try simp only [Act.put, List.getElem_toArray, List.getElem_cons_zero, List.getElem_cons_succ, List.setIfInBounds_toArray, List.set_cons_zero, List.set_cons_succ]
        cases b4
        · skip
          refine AUS_take (by kernel_rfl) rfl (i := 24) (oi := _) (v := ?vw89) rfl (by kernel_rfl) (by kernel_rfl) (by kernel_rfl) (fun _ _ _ h => h) (Or.inl ⟨by rfl, ?hz89⟩) hHeld ?rst89
          case hz89 => (intro wS hSw; obtain ⟨_, f0, f1, f2, f3, f4, f5, f6, f7, f8, f9, _, _, _, _, _⟩ := HS.out wS hSw; clear hSw; go_simp; try with_reducible rfl)
          simp only [Act.put, List.getElem_toArray, List.getElem_cons_zero, List.getElem_cons_succ, List.setIfInBounds_toArray, List.set_cons_zero, List.set_cons_succ]
          refine AUS_take (by kernel_rfl) rfl (i := 25) (oi := _) (v := ?vw90) rfl (by kernel_rfl) (by kernel_rfl) (by kernel_rfl) (fun _ _ _ h => h) (Or.inl ⟨by rfl, ?hz90⟩) hHeld ?rst90
          case hz90 => (intro wS hSw; obtain ⟨_, f0, f1, f2, f3, f4, f5, f6, f7, f8, f9, _, _, _, _, _⟩ := HS.out wS hSw; clear hSw; go_simp; try with_reducible rfl)
          simp only [Act.put, List.getElem_toArray, List.getElem_cons_zero, List.getElem_cons_succ, List.setIfInBounds_toArray, List.set_cons_zero, List.set_cons_succ]
          refine AUS_take (by kernel_rfl) rfl (i := 26) (oi := _) (v := undef) rfl (by kernel_rfl) (by kernel_rfl) (by kernel_rfl) (fun _ _ _ h => h) (Or.inr ⟨by rfl, rfl⟩) hHeld ?rst91
          try simp only [Act.put, List.getElem_toArray, List.getElem_cons_zero, List.getElem_cons_succ, List.setIfInBounds_toArray, List.set_cons_zero, List.set_cons_succ]
          refine AUS_take (by kernel_rfl) rfl (i := 27) (oi := _) (v := undef) rfl (by kernel_rfl) (by kernel_rfl) (by kernel_rfl) (fun _ _ _ h => h) (Or.inr ⟨by rfl, rfl⟩) hHeld ?rst92
          try simp only [Act.put, List.getElem_toArray, List.getElem_cons_zero, List.getElem_cons_succ, List.setIfInBounds_toArray, List.set_cons_zero, List.set_cons_succ]
          refine AUS_take (by kernel_rfl) rfl (i := 28) (oi := _) (v := undef) rfl (by kernel_rfl) (by kernel_rfl) (by kernel_rfl) (fun _ _ _ h => h) (Or.inr ⟨by rfl, rfl⟩) hHeld ?rst93
          try simp only [Act.put, List.getElem_toArray, List.getElem_cons_zero, List.getElem_cons_succ, List.setIfInBounds_toArray, List.set_cons_zero, List.set_cons_succ]
          refine AUS_take (by kernel_rfl) rfl (i := 29) (oi := _) (v := undef) rfl (by kernel_rfl) (by kernel_rfl) (by kernel_rfl) (fun _ _ _ h => h) (Or.inr ⟨by rfl, rfl⟩) hHeld ?rst94
          try simp only [Act.put, List.getElem_toArray, List.getElem_cons_zero, List.getElem_cons_succ, List.setIfInBounds_toArray, List.set_cons_zero, List.set_cons_succ]
          refine AUS_take (by kernel_rfl) rfl (i := 30) (oi := _) (v := undef) rfl (by kernel_rfl) (by kernel_rfl) (by kernel_rfl) (fun _ _ _ h => h) (Or.inr ⟨by rfl, rfl⟩) hHeld ?rst95
          try simp only [Act.put, List.getElem_toArray, List.getElem_cons_zero, List.getElem_cons_succ, List.setIfInBounds_toArray, List.set_cons_zero, List.set_cons_succ]
          refine AUS_take (by kernel_rfl) rfl (i := 31) (oi := _) (v := ?vw96) rfl (by kernel_rfl) (by kernel_rfl) (by kernel_rfl) (fun _ _ _ h => h) (Or.inl ⟨by rfl, ?hz96⟩) hHeld ?rst96
          case hz96 => (intro wS hSw; obtain ⟨_, f0, f1, f2, f3, f4, f5, f6, f7, f8, f9, _, _, _, _, _⟩ := HS.out wS hSw; clear hSw; go_simp; try with_reducible rfl)
          simp only [Act.put, List.getElem_toArray, List.getElem_cons_zero, List.getElem_cons_succ, List.setIfInBounds_toArray, List.set_cons_zero, List.set_cons_succ]
          refine AUS_take (by kernel_rfl) rfl (i := 32) (oi := _) (v := ?vw97) rfl (by kernel_rfl) (by kernel_rfl) (by kernel_rfl) (fun _ _ _ h => h) (Or.inl ⟨by rfl, ?hz97⟩) hHeld ?rst97
          case hz97 => (intro wS hSw; obtain ⟨_, f0, f1, f2, f3, f4, f5, f6, f7, f8, f9, _, _, _, _, _⟩ := HS.out wS hSw; clear hSw; go_simp; try with_reducible rfl)
          simp only [Act.put, List.getElem_toArray, List.getElem_cons_zero, List.getElem_cons_succ, List.setIfInBounds_toArray, List.set_cons_zero, List.set_cons_succ]
          have HE := Lib.hid hHeld
          clear hHeld
          refine AU_done (by kernel_rfl) ?_ _
          simp only [OnlyN]
          have hHeld := HE.out
          clear HE
          have HE := Lib.hid (HS.out _ hHeld).1
          clear hHeld
          go_wp2_with fail
          go_ret
          exact ⟨by simp [gv, E1.out, E2.out, E3.out, E4.out], HE.out⟩
        · skip
          refine AUS_take (by kernel_rfl) rfl (i := 24) (oi := _) (v := ?vw98) rfl (by kernel_rfl) (by kernel_rfl) (by kernel_rfl) (fun _ _ _ h => h) (Or.inl ⟨by rfl, ?hz98⟩) hHeld ?rst98
          case hz98 => (intro wS hSw; obtain ⟨_, f0, f1, f2, f3, f4, f5, f6, f7, f8, f9, _, _, _, _, _⟩ := HS.out wS hSw; clear hSw; go_simp; try with_reducible rfl)
          simp only [Act.put, List.getElem_toArray, List.getElem_cons_zero, List.getElem_cons_succ, List.setIfInBounds_toArray, List.set_cons_zero, List.set_cons_succ]
          refine AUS_take (by kernel_rfl) rfl (i := 25) (oi := _) (v := ?vw99) rfl (by kernel_rfl) (by kernel_rfl) (by kernel_rfl) (fun _ _ _ h => h) (Or.inl ⟨by rfl, ?hz99⟩) hHeld ?rst99
          case hz99 => (intro wS hSw; obtain ⟨_, f0, f1, f2, f3, f4, f5, f6, f7, f8, f9, _, _, _, _, _⟩ := HS.out wS hSw; clear hSw; go_simp; try with_reducible rfl)
          simp only [Act.put, List.getElem_toArray, List.getElem_cons_zero, List.getElem_cons_succ, List.setIfInBounds_toArray, List.set_cons_zero, List.set_cons_succ]
          refine AUS_take (by kernel_rfl) rfl (i := 26) (oi := _) (v := ?vw100) rfl (by kernel_rfl) (by kernel_rfl) (by kernel_rfl) (fun _ _ _ h => h) (Or.inl ⟨by rfl, ?hz100⟩) hHeld ?rst100
          case hz100 => (intro wS hSw; obtain ⟨_, f0, f1, f2, f3, f4, f5, f6, f7, f8, f9, _, _, _, _, _⟩ := HS.out wS hSw; clear hSw; go_simp; try with_reducible rfl)
          simp only [Act.put, List.getElem_toArray, List.getElem_cons_zero, List.getElem_cons_succ, List.setIfInBounds_toArray, List.set_cons_zero, List.set_cons_succ]
          refine AUS_take (by kernel_rfl) rfl (i := 27) (oi := _) (v := ?vw101) rfl (by kernel_rfl) (by kernel_rfl) (by kernel_rfl) (fun _ _ _ h => h) (Or.inl ⟨by rfl, ?hz101⟩) hHeld ?rst101
          case hz101 => (intro wS hSw; obtain ⟨_, f0, f1, f2, f3, f4, f5, f6, f7, f8, f9, _, _, _, _, _⟩ := HS.out wS hSw; clear hSw; go_simp; try with_reducible rfl)
          simp only [Act.put, List.getElem_toArray, List.getElem_cons_zero, List.getElem_cons_succ, List.setIfInBounds_toArray, List.set_cons_zero, List.set_cons_succ]
          refine AUS_take (by kernel_rfl) rfl (i := 28) (oi := _) (v := ?vw102) rfl (by kernel_rfl) (by kernel_rfl) (by kernel_rfl) (fun _ _ _ h => h) (Or.inl ⟨by rfl, ?hz102⟩) hHeld ?rst102
          case hz102 => (intro wS hSw; obtain ⟨_, f0, f1, f2, f3, f4, f5, f6, f7, f8, f9, _, _, _, _, _⟩ := HS.out wS hSw; clear hSw; go_simp; try with_reducible rfl)
          simp only [Act.put, List.getElem_toArray, List.getElem_cons_zero, List.getElem_cons_succ, List.setIfInBounds_toArray, List.set_cons_zero, List.set_cons_succ]
          have HH := Lib.hid hHeld
          obtain ⟨hbw, _, _, _, _, _, _, _, _, _, _, g0, g1, g2, g3, g4⟩ := HS.out _ hHeld
          refine AU_one (i := 29) (o := _) (by kernel_rfl) rfl (fun K hK => ?_)
          have CC := Lib.hid (rrest_m g3 (by omega))
          clear hHeld hbw g0 g1 g2 g3 g4
          go_simp
          refine CC.out.mono ?_
          clear CC
          rintro e wz5 ⟨a5, n5, c5, rfl, l5, hb⟩
          have hHeld := HH.out.trans (hb.mono HH.out.size)
          clear HH hb
          refine hK.out _ _ (fun _ => hHeld) ?_
          clear hK K
          try simp only [Act.put, List.getElem_toArray, List.getElem_cons_zero, List.getElem_cons_succ, List.setIfInBounds_toArray, List.set_cons_zero, List.set_cons_succ]
          have HH := Lib.hid hHeld
          obtain ⟨hbw, _, _, _, _, _, _, _, _, _, _, g0, g1, g2, g3, g4⟩ := HS.out _ hHeld
          refine AU_one (i := 30) (o := _) (by kernel_rfl) rfl (fun K hK => ?_)
          obtain ⟨b6, E6⟩ : ∃ b, Hid (lq D2 P2 (Lab.turn 0 2 D3) (Lab.tn 0 2 D3 P3) = b) := ⟨_, Lib.hid rfl⟩
          have CC := rleq_m g2 l5.la (by omega) (by omega)
          rw [E6.out] at CC
          have CC := Lib.hid CC
          clear hHeld hbw g0 g1 g2 g3 g4
          go_simp
          refine CC.out.mono ?_
          clear CC
          rintro e wz6 ⟨rfl, hb⟩
          have hHeld := HH.out.trans (hb.mono HH.out.size)
          replace l5 := l5.below hb
          clear HH hb
          refine hK.out _ _ (fun _ => hHeld) ?_
          clear hK K
          try simp only [Act.put, List.getElem_toArray, List.getElem_cons_zero, List.getElem_cons_succ, List.setIfInBounds_toArray, List.set_cons_zero, List.set_cons_succ]
          refine AUS_take (by kernel_rfl) rfl (i := 31) (oi := _) (v := ?vw103) rfl (by kernel_rfl) (by kernel_rfl) (by kernel_rfl) (fun _ _ _ h => h) (Or.inl ⟨by rfl, ?hz103⟩) hHeld ?rst103
          case hz103 => (intro wS hSw; obtain ⟨_, f0, f1, f2, f3, f4, f5, f6, f7, f8, f9, _, _, _, _, _⟩ := HS.out wS hSw; clear hSw; go_simp; try with_reducible rfl)
          simp only [Act.put, List.getElem_toArray, List.getElem_cons_zero, List.getElem_cons_succ, List.setIfInBounds_toArray, List.set_cons_zero, List.set_cons_succ]
          refine AUS_take (by kernel_rfl) rfl (i := 32) (oi := _) (v := ?vw104) rfl (by kernel_rfl) (by kernel_rfl) (by kernel_rfl) (fun _ _ _ h => h) (Or.inl ⟨by rfl, ?hz104⟩) hHeld ?rst104
          case hz104 => (intro wS hSw; obtain ⟨_, f0, f1, f2, f3, f4, f5, f6, f7, f8, f9, _, _, _, _, _⟩ := HS.out wS hSw; clear hSw; go_simp; try with_reducible rfl)
          simp only [Act.put, List.getElem_toArray, List.getElem_cons_zero, List.getElem_cons_succ, List.setIfInBounds_toArray, List.set_cons_zero, List.set_cons_succ]
          have HE := Lib.hid hHeld
          clear hHeld
          refine AU_done (by kernel_rfl) ?_ _
          simp only [OnlyN]
          have hHeld := HE.out
          clear HE
          have HE := Lib.hid (HS.out _ hHeld).1
          clear hHeld
          go_wp2_with fail
          go_ret
          exact ⟨by simp [gv, E1.out, E2.out, E3.out, E4.out, E6.out], HE.out⟩
end Go.Proofs.Ytmbdglhihakkjaa
