/- config's writer: an object. -/
import Derived.Test.YtmadldgajjgbmaaFa
set_option linter.unusedVariables false
set_option linter.unusedSimpArgs false
namespace Go.Proofs.Ytmadldgajjgbmaa
open Go.RowKit
set_option linter.unusedVariables false
set_option linter.unusedSimpArgs false
/-- What stands while something is written: wb the world behind the boxes, W0 that in which all lies that is read. -/
structure WS (W0 : World) (B WB : Nat) (wb : World) (al : List Nat) (w : World) : Prop where
  wr : Wr B WB al w
  k : KW B wb w
  hB : B ≤ WB
  hb : B ≤ wb.heap.size
  b0 : Below B W0 wb
  h0 : W0.heap.size ≤ B
section
variable {W0 wb w : World} {B WB : Nat} {al : List Nat}
theorem WS.size (h : WS W0 B WB wb al w) : B ≤ w.heap.size := Nat.le_trans h.hb h.k.b.size
theorem WS.base (h : WS W0 B WB wb al w) : Below W0.heap.size W0 w := (h.b0.trans h.k.b).mono h.h0
theorem WS.cell (h : WS W0 B WB wb al w) {X : Nat} {cs : Array Value} {u : TypeId} (hX : wb.heap[X]? = some (Obj.cells cs u)) (h1 : u ≠ 5) (h2 : u ≠ 70) (j : Nat) (v : Value) (hv : cs[j]? = some v) : w.cell? ⟨X, j, none⟩ = some v := by
  rw [cell_of_row _ _ _ _ _ (0, 0) (h.k.k X cs u h1 h2 hX)]; exact hv
theorem WS.nums {ns : List Int} {n L : Nat} (h : WS W0 B WB wb al w) (hL : ns.length = L) (hns : ∀ x ∈ ns, 0 ≤ x ∧ x ≤ 9223372036854775807) (hn : 1 ≤ n ∧ n ≤ 8) (hb : al.length + n * L ≤ 100000) :
    Calls Try.prog 26 #[.pointer (some ⟨WB, 0, none⟩), .int .i64 (n : Int), .slice (some ⟨w.heap.size, 0, none⟩) L L] (w.alloc (Obj.cells (ns.map fun x => .int .i64 x).toArray 3)) fun e w' => e = .returned (.tuple #[]) ∧ WS W0 B WB wb (al ++ ns.flatMap fun x => Pk.enc n x.toNat) w' := by
  have hba := below_alloc1 w (Obj.cells (ns.map fun x => .int .i64 x).toArray 3)
  have hs := h.size
  refine (nums_any (h.wr.below hba) h.hB (Nat.le_trans hs hba.size) (heap_alloc_new w _) hL hns hn hb).mono ?_
  rintro e w' ⟨he, hw, hk⟩
  exact ⟨he, hw, h.k.trans ((KW.of_below hs hba).trans hk), h.hB, h.hb, h.b0, h.h0⟩
theorem WS.one {n : Nat} {x : Int} (h : WS W0 B WB wb al w) (hx : 0 ≤ x ∧ x ≤ 9223372036854775807) (hn : 1 ≤ n ∧ n ≤ 8) (hb : al.length + n ≤ 100000) :
    Calls Try.prog 26 #[.pointer (some ⟨WB, 0, none⟩), .int .i64 (n : Int), .slice (some ⟨w.heap.size, 0, none⟩) 1 1] (w.alloc (Obj.cells #[.int .i64 x] 3)) fun e w' => e = .returned (.tuple #[]) ∧ WS W0 B WB wb (al ++ Pk.enc n x.toNat) w' := by
  have := h.nums (ns := [x]) (n := n) (L := 1) rfl (by simpa using hx) hn (by omega)
  simpa using this
theorem WS.two {n : Nat} {x y : Int} (h : WS W0 B WB wb al w) (hx : 0 ≤ x ∧ x ≤ 9223372036854775807) (hy : 0 ≤ y ∧ y ≤ 9223372036854775807) (hn : 1 ≤ n ∧ n ≤ 8) (hb : al.length + 2 * n ≤ 100000) :
    Calls Try.prog 26 #[.pointer (some ⟨WB, 0, none⟩), .int .i64 (n : Int), .slice (some ⟨w.heap.size, 0, none⟩) 2 2] (w.alloc (Obj.cells #[.int .i64 x, .int .i64 y] 3)) fun e w' => e = .returned (.tuple #[]) ∧ WS W0 B WB wb (al ++ (Pk.enc n x.toNat ++ Pk.enc n y.toNat)) w' := by
  have := h.nums (ns := [x, y]) (n := n) (L := 2) rfl (by simp; exact ⟨hx, hy⟩) hn (by omega)
  simpa using this
theorem WS.five {n : Nat} {x y z p q : Int} (h : WS W0 B WB wb al w) (hx : ∀ i ∈ [x, y, z, p, q], 0 ≤ i ∧ i ≤ 9223372036854775807) (hn : 1 ≤ n ∧ n ≤ 8) (hb : al.length + 5 * n ≤ 100000) :
    Calls Try.prog 26 #[.pointer (some ⟨WB, 0, none⟩), .int .i64 (n : Int), .slice (some ⟨w.heap.size, 0, none⟩) 5 5] (w.alloc (Obj.cells #[.int .i64 x, .int .i64 y, .int .i64 z, .int .i64 p, .int .i64 q] 3)) fun e w' => e = .returned (.tuple #[]) ∧ WS W0 B WB wb (al ++ (Pk.enc n x.toNat ++ (Pk.enc n y.toNat ++ (Pk.enc n z.toNat ++ (Pk.enc n p.toNat ++ Pk.enc n q.toNat))))) w' := by
  have := h.nums (ns := [x, y, z, p, q]) (n := n) (L := 5) rfl hx hn (by omega)
  simpa using this
theorem WS.label {n c : Nat} {D : Int} {a : Option Addr} {P : LP} (h : WS W0 B WB wb al w) (hl : LA 300 W0 D a n c P) (hr : Lab.right D P = true) (hb : al.length + (Pk.lab D P).length ≤ 100000) :
    Calls Try.prog 42 #[.pointer (some ⟨WB, 0, none⟩), .agg #[.int .i64 D, .slice a n c]] w fun e w' => e = .returned (.tuple #[]) ∧ WS W0 B WB wb (al ++ Pk.lab D P) w' := by
  refine (wlabel_any h.wr h.hB h.size (hl.below h.base) hr hb).mono ?_
  rintro e w' ⟨he, hw, hk⟩
  exact ⟨he, hw, h.k.trans hk, h.hB, h.hb, h.b0, h.h0⟩
theorem WS.below (h : WS W0 B WB wb al w) {w' : World} (hb : Below w.heap.size w w') : WS W0 B WB wb al w' := ⟨h.wr.below hb, h.k.trans (KW.of_below h.size hb), h.hB, h.hb, h.b0, h.h0⟩
/-- An object in a box of the writer's. -/
theorem WS.box (h : WS W0 B WB wb al w) {cs : Array Value} {u : TypeId} : WS W0 B WB (w.alloc (Obj.cells cs u)) al (w.alloc (Obj.cells cs u)) :=
  ⟨h.wr.below (below_alloc1 _ _), KW.refl _ _, h.hB, Nat.le_trans h.size (below_alloc1 _ _).size, (h.b0.trans h.k.b).trans ((below_alloc1 w _).mono h.size), h.h0⟩
theorem WS.unbox (h : WS W0 B WB wb al w) {cs : Array Value} {u : TypeId} {al' : List Nat} {w' : World} (h' : WS W0 B WB (w.alloc (Obj.cells cs u)) al' w') : WS W0 B WB wb al' w' :=
  ⟨h'.wr, h.k.trans ((KW.of_below h.size (below_alloc1 w _)).trans h'.k), h.hB, h.hb, h.b0, h.h0⟩
end
theorem bit_any (b : Bool) (w : World) : Calls Try.prog 43 #[.bool b] w (fun e w' => e = .returned (.int .i64 (if b then 1 else 0)) ∧ Below w.heap.size w w') := by
  cases b
  · go_enter Try.func43, Try.ntmps43
    go_wp2_with fail
    go_ret
    exact ⟨rfl, Below.refl _ _⟩
  · go_enter Try.func43, Try.ntmps43
    go_wp2_with fail
    go_ret
    exact ⟨rfl, Below.refl _ _⟩
theorem encOm_len (o : Om) : (encOm o).length = 2 + ((Pk.lab o.lD o.lP).length + (encK o).length) := by unfold encOm; simp [Pk.enc_len]; omega
set_option maxHeartbeats 4000000 in
set_option maxRecDepth 100000 in
theorem wobj_1 {W0 wb w : World} {B WB : Nat} {al : List Nat} {pa lD cD pg nm sp pc : Int} {la ca da ma : Option Addr} {ln lc cn cc dn dc mn mc : Nat} {lP cP : LP} {dl : List Nat} {mp : List Mp} (h : WS W0 B WB wb al w)
    (ho : Ov.Rd W0 ⟨⟨1, pa, lD, lP, cD, cP, pg, nm, dl, mp, sp, pc⟩, ⟨la, ln, lc⟩, ⟨ca, cn, cc⟩, ⟨da, dn, dc⟩, ⟨ma, mn, mc⟩⟩) (hr : OmR ⟨1, pa, lD, lP, cD, cP, pg, nm, dl, mp, sp, pc⟩) (hb : al.length + (encOm ⟨1, pa, lD, lP, cD, cP, pg, nm, dl, mp, sp, pc⟩).length ≤ 100000) :
    Calls Try.prog 27 #[.pointer (some ⟨WB, 0, none⟩), .agg #[.int .i64 1, .int .i64 pa, .int .i64 lD, .slice la ln lc, .int .i64 cD, .slice ca cn cc, .int .i64 pg, .int .i64 nm, .slice da dn dc, .slice ma mn mc, .int .i64 sp, .int .i64 pc]] w fun e w' => e = .returned (.tuple #[]) ∧ WS W0 B WB wb (al ++ encOm ⟨1, pa, lD, lP, cD, cP, pg, nm, dl, mp, sp, pc⟩) w' := by
  obtain ⟨w0, e0⟩ : ∃ w0, w.alloc (Obj.cells #[.int .i64 1, .int .i64 pa, .int .i64 lD, .slice la ln lc, .int .i64 cD, .slice ca cn cc, .int .i64 pg, .int .i64 nm, .slice da dn dc, .slice ma mn mc, .int .i64 sp, .int .i64 pc] 44) = w0 := ⟨_, rfl⟩
  obtain ⟨X, eX⟩ : ∃ X, w.heap.size = X := ⟨_, rfl⟩
  have hX : w0.heap[X]? = some (Obj.cells #[.int .i64 1, .int .i64 pa, .int .i64 lD, .slice la ln lc, .int .i64 cD, .slice ca cn cc, .int .i64 pg, .int .i64 nm, .slice da dn dc, .slice ma mn mc, .int .i64 sp, .int .i64 pc] 44) := by rw [← e0, ← eX]; exact heap_alloc_new w _
  have h1 := h.box (cs := #[.int .i64 1, .int .i64 pa, .int .i64 lD, .slice la ln lc, .int .i64 cD, .slice ca cn cc, .int .i64 pg, .int .i64 nm, .slice da dn dc, .slice ma mn mc, .int .i64 sp, .int .i64 pc]) (u := 44)
  have h2 := fun (al' : List Nat) (w' : World) => h.unbox (cs := #[.int .i64 1, .int .i64 pa, .int .i64 lD, .slice la ln lc, .int .i64 cD, .slice ca cn cc, .int .i64 pg, .int .i64 nm, .slice da dn dc, .slice ma mn mc, .int .i64 sp, .int .i64 pc]) (u := 44) (al' := al') (w' := w')
  rw [e0] at h1 h2
  have HU := Lib.hid h2
  have HX := Lib.hid hX
  have HO := Lib.hid (And.intro ho (And.intro hr hb))
  have HS := Lib.hid h1
  have hbl := hb
  rw [encOm_len] at hbl
  have HL := Lib.hid hbl
  have hc := fun (al' : List Nat) (w' : World) (hw : WS W0 B WB w0 al' w') => hw.cell hX (by decide) (by decide)
  have HC := Lib.hid hc
  clear h ho hr hb hX h1 h2 hbl hc
  go_enter Try.func27, Try.ntmps27
  go_upto_region 1 with fail
  try rw [e0]
  try rw [eX]
  clear e0 eX
  have x0 := HC.out _ _ HS.out 0 (.int .i64 1) rfl
  have x1 := HC.out _ _ HS.out 1 (.int .i64 pa) rfl
  have C := Lib.hid (HS.out.two (n := 1) (x := 1) (y := pa) (by have := HO.out.2.1.k; simp only at this; omega) (by have := HO.out.2.1.p; simp only at this; omega) (by omega) (by have := HL.out; omega))
  go_wp2_with fail
  refine C.out.mono ?_; rintro e w1 ⟨rfl, hs⟩
  have HS1 := Lib.hid hs
  clear hs C HS x0 x1
  have x2 := HC.out _ _ HS1.out 2 (.int .i64 lD) rfl
  have x3 := HC.out _ _ HS1.out 3 (.slice la ln lc) rfl
  have C := Lib.hid (HS1.out.label HO.out.1.l HO.out.2.1.l (by have := HL.out; simp only [List.length_append, Pk.enc_len]; omega))
  go_wp2_with fail
  refine C.out.mono ?_; rintro e w2 ⟨rfl, hs⟩
  have HS2 := Lib.hid hs
  clear hs C HS1 x2 x3
  have x0 := HC.out _ _ HS2.out 0 (.int .i64 1) rfl
  have x6 := HC.out _ _ HS2.out 6 (.int .i64 pg) rfl
  have C := Lib.hid (HS2.out.one (n := 2) (x := pg) (by have := (HO.out.2.1.k1 rfl).1; simp only at this; omega) (by omega) (by have := HL.out; simp [encK, Pk.enc_len] at this; simp only [List.length_append, Pk.enc_len]; omega))
  go_wp2_with fail
  refine C.out.mono ?_; rintro e w3 ⟨rfl, hs⟩
  have HS3 := Lib.hid hs
  clear hs C HS2 x6 x0
  have x7 := HC.out _ _ HS3.out 7 (.int .i64 nm) rfl
  have C := Lib.hid (HS3.out.one (n := 4) (x := nm) (by have := (HO.out.2.1.k1 rfl).2; simp only at this; omega) (by omega) (by have := HL.out; simp [encK, Pk.enc_len] at this; simp only [List.length_append, Pk.enc_len]; omega))
  go_wp2_with fail
  refine C.out.mono ?_; rintro e w4 ⟨rfl, hs⟩
  have HS4 := Lib.hid hs
  clear hs C HS3 x7
  go_wp2_with fail
  go_end0
  exact ⟨rfl, HU.out _ _ (by have := HS4.out; simpa [encOm, encK, List.append_assoc] using this)⟩
set_option maxHeartbeats 4000000 in
set_option maxRecDepth 100000 in
theorem wobj_6 {W0 wb w : World} {B WB : Nat} {al : List Nat} {pa lD cD pg nm sp pc : Int} {la ca da ma : Option Addr} {ln lc cn cc dn dc mn mc : Nat} {lP cP : LP} {dl : List Nat} {mp : List Mp} (h : WS W0 B WB wb al w)
    (ho : Ov.Rd W0 ⟨⟨6, pa, lD, lP, cD, cP, pg, nm, dl, mp, sp, pc⟩, ⟨la, ln, lc⟩, ⟨ca, cn, cc⟩, ⟨da, dn, dc⟩, ⟨ma, mn, mc⟩⟩) (hr : OmR ⟨6, pa, lD, lP, cD, cP, pg, nm, dl, mp, sp, pc⟩) (hb : al.length + (encOm ⟨6, pa, lD, lP, cD, cP, pg, nm, dl, mp, sp, pc⟩).length ≤ 100000) :
    Calls Try.prog 27 #[.pointer (some ⟨WB, 0, none⟩), .agg #[.int .i64 6, .int .i64 pa, .int .i64 lD, .slice la ln lc, .int .i64 cD, .slice ca cn cc, .int .i64 pg, .int .i64 nm, .slice da dn dc, .slice ma mn mc, .int .i64 sp, .int .i64 pc]] w fun e w' => e = .returned (.tuple #[]) ∧ WS W0 B WB wb (al ++ encOm ⟨6, pa, lD, lP, cD, cP, pg, nm, dl, mp, sp, pc⟩) w' := by
  obtain ⟨w0, e0⟩ : ∃ w0, w.alloc (Obj.cells #[.int .i64 6, .int .i64 pa, .int .i64 lD, .slice la ln lc, .int .i64 cD, .slice ca cn cc, .int .i64 pg, .int .i64 nm, .slice da dn dc, .slice ma mn mc, .int .i64 sp, .int .i64 pc] 44) = w0 := ⟨_, rfl⟩
  obtain ⟨X, eX⟩ : ∃ X, w.heap.size = X := ⟨_, rfl⟩
  have hX : w0.heap[X]? = some (Obj.cells #[.int .i64 6, .int .i64 pa, .int .i64 lD, .slice la ln lc, .int .i64 cD, .slice ca cn cc, .int .i64 pg, .int .i64 nm, .slice da dn dc, .slice ma mn mc, .int .i64 sp, .int .i64 pc] 44) := by rw [← e0, ← eX]; exact heap_alloc_new w _
  have h1 := h.box (cs := #[.int .i64 6, .int .i64 pa, .int .i64 lD, .slice la ln lc, .int .i64 cD, .slice ca cn cc, .int .i64 pg, .int .i64 nm, .slice da dn dc, .slice ma mn mc, .int .i64 sp, .int .i64 pc]) (u := 44)
  have h2 := fun (al' : List Nat) (w' : World) => h.unbox (cs := #[.int .i64 6, .int .i64 pa, .int .i64 lD, .slice la ln lc, .int .i64 cD, .slice ca cn cc, .int .i64 pg, .int .i64 nm, .slice da dn dc, .slice ma mn mc, .int .i64 sp, .int .i64 pc]) (u := 44) (al' := al') (w' := w')
  rw [e0] at h1 h2
  have HU := Lib.hid h2
  have HX := Lib.hid hX
  have HO := Lib.hid (And.intro ho (And.intro hr hb))
  have HS := Lib.hid h1
  have hbl := hb
  rw [encOm_len] at hbl
  have HL := Lib.hid hbl
  have hc := fun (al' : List Nat) (w' : World) (hw : WS W0 B WB w0 al' w') => hw.cell hX (by decide) (by decide)
  have HC := Lib.hid hc
  clear h ho hr hb hX h1 h2 hbl hc
  go_enter Try.func27, Try.ntmps27
  go_upto_region 1 with fail
  try rw [e0]
  try rw [eX]
  clear e0 eX
  have x0 := HC.out _ _ HS.out 0 (.int .i64 6) rfl
  have x1 := HC.out _ _ HS.out 1 (.int .i64 pa) rfl
  have C := Lib.hid (HS.out.two (n := 1) (x := 6) (y := pa) (by have := HO.out.2.1.k; simp only at this; omega) (by have := HO.out.2.1.p; simp only at this; omega) (by omega) (by have := HL.out; omega))
  go_wp2_with fail
  refine C.out.mono ?_; rintro e w1 ⟨rfl, hs⟩
  have HS1 := Lib.hid hs
  clear hs C HS x0 x1
  have x2 := HC.out _ _ HS1.out 2 (.int .i64 lD) rfl
  have x3 := HC.out _ _ HS1.out 3 (.slice la ln lc) rfl
  have C := Lib.hid (HS1.out.label HO.out.1.l HO.out.2.1.l (by have := HL.out; simp only [List.length_append, Pk.enc_len]; omega))
  go_wp2_with fail
  refine C.out.mono ?_; rintro e w2 ⟨rfl, hs⟩
  have HS2 := Lib.hid hs
  clear hs C HS1 x2 x3
  have x0 := HC.out _ _ HS2.out 0 (.int .i64 6) rfl
  go_wp2_with fail
  go_end0
  exact ⟨rfl, HU.out _ _ (by have := HS2.out; simpa [encOm, encK, List.append_assoc] using this)⟩
set_option maxHeartbeats 4000000 in
set_option maxRecDepth 100000 in
theorem wobj_3 {W0 wb w : World} {B WB : Nat} {al : List Nat} {pa lD cD pg nm sp pc : Int} {la ca da ma : Option Addr} {ln lc cn cc dn dc mn mc : Nat} {lP cP : LP} {dl : List Nat} {mp : List Mp} (h : WS W0 B WB wb al w)
    (ho : Ov.Rd W0 ⟨⟨3, pa, lD, lP, cD, cP, pg, nm, dl, mp, sp, pc⟩, ⟨la, ln, lc⟩, ⟨ca, cn, cc⟩, ⟨da, dn, dc⟩, ⟨ma, mn, mc⟩⟩) (hr : OmR ⟨3, pa, lD, lP, cD, cP, pg, nm, dl, mp, sp, pc⟩) (hb : al.length + (encOm ⟨3, pa, lD, lP, cD, cP, pg, nm, dl, mp, sp, pc⟩).length ≤ 100000) :
    Calls Try.prog 27 #[.pointer (some ⟨WB, 0, none⟩), .agg #[.int .i64 3, .int .i64 pa, .int .i64 lD, .slice la ln lc, .int .i64 cD, .slice ca cn cc, .int .i64 pg, .int .i64 nm, .slice da dn dc, .slice ma mn mc, .int .i64 sp, .int .i64 pc]] w fun e w' => e = .returned (.tuple #[]) ∧ WS W0 B WB wb (al ++ encOm ⟨3, pa, lD, lP, cD, cP, pg, nm, dl, mp, sp, pc⟩) w' := by
  obtain ⟨w0, e0⟩ : ∃ w0, w.alloc (Obj.cells #[.int .i64 3, .int .i64 pa, .int .i64 lD, .slice la ln lc, .int .i64 cD, .slice ca cn cc, .int .i64 pg, .int .i64 nm, .slice da dn dc, .slice ma mn mc, .int .i64 sp, .int .i64 pc] 44) = w0 := ⟨_, rfl⟩
  obtain ⟨X, eX⟩ : ∃ X, w.heap.size = X := ⟨_, rfl⟩
  have hX : w0.heap[X]? = some (Obj.cells #[.int .i64 3, .int .i64 pa, .int .i64 lD, .slice la ln lc, .int .i64 cD, .slice ca cn cc, .int .i64 pg, .int .i64 nm, .slice da dn dc, .slice ma mn mc, .int .i64 sp, .int .i64 pc] 44) := by rw [← e0, ← eX]; exact heap_alloc_new w _
  have h1 := h.box (cs := #[.int .i64 3, .int .i64 pa, .int .i64 lD, .slice la ln lc, .int .i64 cD, .slice ca cn cc, .int .i64 pg, .int .i64 nm, .slice da dn dc, .slice ma mn mc, .int .i64 sp, .int .i64 pc]) (u := 44)
  have h2 := fun (al' : List Nat) (w' : World) => h.unbox (cs := #[.int .i64 3, .int .i64 pa, .int .i64 lD, .slice la ln lc, .int .i64 cD, .slice ca cn cc, .int .i64 pg, .int .i64 nm, .slice da dn dc, .slice ma mn mc, .int .i64 sp, .int .i64 pc]) (u := 44) (al' := al') (w' := w')
  rw [e0] at h1 h2
  have HU := Lib.hid h2
  have HX := Lib.hid hX
  have HO := Lib.hid (And.intro ho (And.intro hr hb))
  have HS := Lib.hid h1
  have hbl := hb
  rw [encOm_len] at hbl
  have HL := Lib.hid hbl
  have hc := fun (al' : List Nat) (w' : World) (hw : WS W0 B WB w0 al' w') => hw.cell hX (by decide) (by decide)
  have HC := Lib.hid hc
  clear h ho hr hb hX h1 h2 hbl hc
  go_enter Try.func27, Try.ntmps27
  go_upto_region 1 with fail
  try rw [e0]
  try rw [eX]
  clear e0 eX
  have x0 := HC.out _ _ HS.out 0 (.int .i64 3) rfl
  have x1 := HC.out _ _ HS.out 1 (.int .i64 pa) rfl
  have C := Lib.hid (HS.out.two (n := 1) (x := 3) (y := pa) (by have := HO.out.2.1.k; simp only at this; omega) (by have := HO.out.2.1.p; simp only at this; omega) (by omega) (by have := HL.out; omega))
  go_wp2_with fail
  refine C.out.mono ?_; rintro e w1 ⟨rfl, hs⟩
  have HS1 := Lib.hid hs
  clear hs C HS x0 x1
  have x2 := HC.out _ _ HS1.out 2 (.int .i64 lD) rfl
  have x3 := HC.out _ _ HS1.out 3 (.slice la ln lc) rfl
  have C := Lib.hid (HS1.out.label HO.out.1.l HO.out.2.1.l (by have := HL.out; simp only [List.length_append, Pk.enc_len]; omega))
  go_wp2_with fail
  refine C.out.mono ?_; rintro e w2 ⟨rfl, hs⟩
  have HS2 := Lib.hid hs
  clear hs C HS1 x2 x3
  have x0 := HC.out _ _ HS2.out 0 (.int .i64 3) rfl
  have x4 := HC.out _ _ HS2.out 4 (.int .i64 cD) rfl
  have x5 := HC.out _ _ HS2.out 5 (.slice ca cn cc) rfl
  have C := Lib.hid (HS2.out.label HO.out.1.c (HO.out.2.1.k3 (.inl rfl)).1 (by have := HL.out; simp [encK, Pk.enc_len] at this; simp only [List.length_append, Pk.enc_len]; omega))
  go_wp2_with fail
  refine C.out.mono ?_; rintro e w3 ⟨rfl, hs⟩
  have HS3 := Lib.hid hs
  clear hs C HS2 x4 x5 x0
  have x10 := HC.out _ _ HS3.out 10 (.int .i64 sp) rfl
  have C := Lib.hid (HS3.out.one (n := 1) (x := sp) (by have := (HO.out.2.1.k3 (.inl rfl)).2.1; simp only at this; omega) (by omega) (by have := HL.out; simp [encK, Pk.enc_len] at this; simp only [List.length_append, Pk.enc_len]; omega))
  go_wp2_with fail
  refine C.out.mono ?_; rintro e w4 ⟨rfl, hs⟩
  have HS4 := Lib.hid hs
  clear hs C HS3 x10
  have x11 := HC.out _ _ HS4.out 11 (.int .i64 pc) rfl
  have C := Lib.hid (HS4.out.one (n := 4) (x := pc) (by have := (HO.out.2.1.k3 (.inl rfl)).2.2; simp only at this; omega) (by omega) (by have := HL.out; simp [encK, Pk.enc_len] at this; simp only [List.length_append, Pk.enc_len]; omega))
  go_wp2_with fail
  refine C.out.mono ?_; rintro e w5 ⟨rfl, hs⟩
  have HS5 := Lib.hid hs
  clear hs C HS4 x11
  go_wp2_with fail
  go_end0
  exact ⟨rfl, HU.out _ _ (by have := HS5.out; simpa [encOm, encK, List.append_assoc] using this)⟩
set_option maxHeartbeats 4000000 in
set_option maxRecDepth 100000 in
theorem wobj_5 {W0 wb w : World} {B WB : Nat} {al : List Nat} {pa lD cD pg nm sp pc : Int} {la ca da ma : Option Addr} {ln lc cn cc dn dc mn mc : Nat} {lP cP : LP} {dl : List Nat} {mp : List Mp} (h : WS W0 B WB wb al w)
    (ho : Ov.Rd W0 ⟨⟨5, pa, lD, lP, cD, cP, pg, nm, dl, mp, sp, pc⟩, ⟨la, ln, lc⟩, ⟨ca, cn, cc⟩, ⟨da, dn, dc⟩, ⟨ma, mn, mc⟩⟩) (hr : OmR ⟨5, pa, lD, lP, cD, cP, pg, nm, dl, mp, sp, pc⟩) (hb : al.length + (encOm ⟨5, pa, lD, lP, cD, cP, pg, nm, dl, mp, sp, pc⟩).length ≤ 100000) :
    Calls Try.prog 27 #[.pointer (some ⟨WB, 0, none⟩), .agg #[.int .i64 5, .int .i64 pa, .int .i64 lD, .slice la ln lc, .int .i64 cD, .slice ca cn cc, .int .i64 pg, .int .i64 nm, .slice da dn dc, .slice ma mn mc, .int .i64 sp, .int .i64 pc]] w fun e w' => e = .returned (.tuple #[]) ∧ WS W0 B WB wb (al ++ encOm ⟨5, pa, lD, lP, cD, cP, pg, nm, dl, mp, sp, pc⟩) w' := by
  obtain ⟨w0, e0⟩ : ∃ w0, w.alloc (Obj.cells #[.int .i64 5, .int .i64 pa, .int .i64 lD, .slice la ln lc, .int .i64 cD, .slice ca cn cc, .int .i64 pg, .int .i64 nm, .slice da dn dc, .slice ma mn mc, .int .i64 sp, .int .i64 pc] 44) = w0 := ⟨_, rfl⟩
  obtain ⟨X, eX⟩ : ∃ X, w.heap.size = X := ⟨_, rfl⟩
  have hX : w0.heap[X]? = some (Obj.cells #[.int .i64 5, .int .i64 pa, .int .i64 lD, .slice la ln lc, .int .i64 cD, .slice ca cn cc, .int .i64 pg, .int .i64 nm, .slice da dn dc, .slice ma mn mc, .int .i64 sp, .int .i64 pc] 44) := by rw [← e0, ← eX]; exact heap_alloc_new w _
  have h1 := h.box (cs := #[.int .i64 5, .int .i64 pa, .int .i64 lD, .slice la ln lc, .int .i64 cD, .slice ca cn cc, .int .i64 pg, .int .i64 nm, .slice da dn dc, .slice ma mn mc, .int .i64 sp, .int .i64 pc]) (u := 44)
  have h2 := fun (al' : List Nat) (w' : World) => h.unbox (cs := #[.int .i64 5, .int .i64 pa, .int .i64 lD, .slice la ln lc, .int .i64 cD, .slice ca cn cc, .int .i64 pg, .int .i64 nm, .slice da dn dc, .slice ma mn mc, .int .i64 sp, .int .i64 pc]) (u := 44) (al' := al') (w' := w')
  rw [e0] at h1 h2
  have HU := Lib.hid h2
  have HX := Lib.hid hX
  have HO := Lib.hid (And.intro ho (And.intro hr hb))
  have HS := Lib.hid h1
  have hbl := hb
  rw [encOm_len] at hbl
  have HL := Lib.hid hbl
  have hc := fun (al' : List Nat) (w' : World) (hw : WS W0 B WB w0 al' w') => hw.cell hX (by decide) (by decide)
  have HC := Lib.hid hc
  clear h ho hr hb hX h1 h2 hbl hc
  go_enter Try.func27, Try.ntmps27
  go_upto_region 1 with fail
  try rw [e0]
  try rw [eX]
  clear e0 eX
  have x0 := HC.out _ _ HS.out 0 (.int .i64 5) rfl
  have x1 := HC.out _ _ HS.out 1 (.int .i64 pa) rfl
  have C := Lib.hid (HS.out.two (n := 1) (x := 5) (y := pa) (by have := HO.out.2.1.k; simp only at this; omega) (by have := HO.out.2.1.p; simp only at this; omega) (by omega) (by have := HL.out; omega))
  go_wp2_with fail
  refine C.out.mono ?_; rintro e w1 ⟨rfl, hs⟩
  have HS1 := Lib.hid hs
  clear hs C HS x0 x1
  have x2 := HC.out _ _ HS1.out 2 (.int .i64 lD) rfl
  have x3 := HC.out _ _ HS1.out 3 (.slice la ln lc) rfl
  have C := Lib.hid (HS1.out.label HO.out.1.l HO.out.2.1.l (by have := HL.out; simp only [List.length_append, Pk.enc_len]; omega))
  go_wp2_with fail
  refine C.out.mono ?_; rintro e w2 ⟨rfl, hs⟩
  have HS2 := Lib.hid hs
  clear hs C HS1 x2 x3
  have x0 := HC.out _ _ HS2.out 0 (.int .i64 5) rfl
  have x4 := HC.out _ _ HS2.out 4 (.int .i64 cD) rfl
  have x5 := HC.out _ _ HS2.out 5 (.slice ca cn cc) rfl
  have C := Lib.hid (HS2.out.label HO.out.1.c (HO.out.2.1.k3 (.inr rfl)).1 (by have := HL.out; simp [encK, Pk.enc_len] at this; simp only [List.length_append, Pk.enc_len]; omega))
  go_wp2_with fail
  refine C.out.mono ?_; rintro e w3 ⟨rfl, hs⟩
  have HS3 := Lib.hid hs
  clear hs C HS2 x4 x5 x0
  have x10 := HC.out _ _ HS3.out 10 (.int .i64 sp) rfl
  have C := Lib.hid (HS3.out.one (n := 1) (x := sp) (by have := (HO.out.2.1.k3 (.inr rfl)).2.1; simp only at this; omega) (by omega) (by have := HL.out; simp [encK, Pk.enc_len] at this; simp only [List.length_append, Pk.enc_len]; omega))
  go_wp2_with fail
  refine C.out.mono ?_; rintro e w4 ⟨rfl, hs⟩
  have HS4 := Lib.hid hs
  clear hs C HS3 x10
  have x11 := HC.out _ _ HS4.out 11 (.int .i64 pc) rfl
  have C := Lib.hid (HS4.out.one (n := 4) (x := pc) (by have := (HO.out.2.1.k3 (.inr rfl)).2.2; simp only at this; omega) (by omega) (by have := HL.out; simp [encK, Pk.enc_len] at this; simp only [List.length_append, Pk.enc_len]; omega))
  go_wp2_with fail
  refine C.out.mono ?_; rintro e w5 ⟨rfl, hs⟩
  have HS5 := Lib.hid hs
  clear hs C HS4 x11
  go_wp2_with fail
  go_end0
  exact ⟨rfl, HU.out _ _ (by have := HS5.out; simpa [encOm, encK, List.append_assoc] using this)⟩
end Go.Proofs.Ytmadldgajjgbmaa
