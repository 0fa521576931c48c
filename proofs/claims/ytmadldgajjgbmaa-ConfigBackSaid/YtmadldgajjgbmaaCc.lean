/- A plan's configuration. -/
import Derived.Test.YtmadldgajjgbmaaCd
set_option linter.unusedVariables false
set_option linter.unusedSimpArgs false
namespace Go.Proofs.Ytmadldgajjgbmaa
open Go.RowKit
set_option linter.unusedVariables false
set_option linter.unusedSimpArgs false
theorem step_store_row {P : Program} {ops : Array Oper} {o : Oper} {a : Act} {w : World} {K : Act → World → Prop} {Q : Exit → Act → World → Prop} {E : Prop} (hgd : o.guard = none) (ty : TypeId) (x y : Operand) (ho : o.op = .store ty x y)
    (g : Nat) (cells : Array Value) (hx : a.eval x = .pointer (some ⟨g, 0, none⟩)) (hy : a.eval y = .agg cells) (t : TypeId) (old : Array Value) (hg : w.heap[g]? = some (.cells old t (0, 0))) (hi : (P.info? ty).map (·.size) = some cells.size)
    (hold : old.size = cells.size) (h1 : cells.all (·.oneCell') = true) (h : K (a.put o.dst undef) (w.setRow g cells)) : if Region.wanted o (yielded ops a.tmps) = true then Oper.wp P o a w K Q else E := by
  have hw : Region.wanted o (yielded ops a.tmps) = true := by simp [Region.wanted, hgd]
  rw [if_pos hw]
  exact wp_store_row ty x y ho g cells hx hy t old hg hi hold h1 h
theorem sizeC : (Try.prog.info? 29).map (·.size) = some 5 := by kernel_rfl
theorem sizeO : (Try.prog.info? 44).map (·.size) = some 12 := by kernel_rfl
def arS (s : Sd) : Array Value := #[.int .i64 s.kd, .int .i64 s.pa, .int .i64 s.lS, s.lv, .int .i64 s.cS, s.cv, .int .i64 s.pg, .int .i64 s.nm, s.dv, s.mv, .int .i64 s.sp, .int .i64 s.pc]
theorem IntsL.form {w : World} {v : Value} {ls : List Int} (h : IntsL w v ls) : ∃ a n c, v = .slice a n c := by
  rcases h with ⟨⟨a, c, rfl⟩, _⟩ | ⟨b, off, cap, n, rfl, _⟩
  · exact ⟨_, _, _, rfl⟩
  · exact ⟨_, _, _, rfl⟩
/-- What a seed makes, whatever its kind. -/
def om0 (s : Sd) : Om := ⟨s.kd, s.pa, Lab.seedD s.lS, Lab.seedP s.lS s.ls, 0, [], 0, 0, [], [], 0, 0⟩
/-- A seed in box SB, its object in box O, both new since wr. -/
structure RS (W wr : World) (SB O : Nat) (s : Sd) (o : Ov) (w : World) : Prop where
  b : Below wr.heap.size wr w
  sx : w.heap[SB]? = some (Obj.cells (arS s) 59)
  ox : w.heap[O]? = some (Obj.cells (arO o) 44)
  own : o.Own W.heap.size w
  n : wr.heap.size ≤ SB ∧ wr.heap.size ≤ O ∧ SB ≠ O
theorem RS.cells {W wr : World} {SB O : Nat} {s : Sd} {o : Ov} {w : World} (h : RS W wr SB O s o w) : w.cell? ⟨SB, 0, none⟩ = some (.int .i64 s.kd) ∧ w.cell? ⟨SB, 4, none⟩ = some (.int .i64 s.cS) ∧ w.cell? ⟨SB, 5, none⟩ = some s.cv ∧ w.cell? ⟨SB, 6, none⟩ = some (.int .i64 s.pg) ∧ w.cell? ⟨SB, 7, none⟩ = some (.int .i64 s.nm) ∧ w.cell? ⟨SB, 8, none⟩ = some s.dv ∧ w.cell? ⟨SB, 9, none⟩ = some s.mv ∧ w.cell? ⟨SB, 10, none⟩ = some (.int .i64 s.sp) ∧ w.cell? ⟨SB, 11, none⟩ = some (.int .i64 s.pc) := by
  refine ⟨?_, ?_, ?_, ?_, ?_, ?_, ?_, ?_, ?_⟩ <;> (rw [cell_of_row _ _ _ _ _ (0, 0) h.sx]; rfl)
theorem RS.below {W wr : World} {SB O : Nat} {s : Sd} {o : Ov} {w w' : World} (h : RS W wr SB O s o w) (hb : Below w.heap.size w w') : RS W wr SB O s o w' :=
  ⟨h.b.trans (hb.mono h.b.size), (hb.block _ (Array.getElem?_eq_some_iff.1 h.sx).1).trans h.sx, (hb.block _ (Array.getElem?_eq_some_iff.1 h.ox).1).trans h.ox, h.own.below hb, h.n⟩
theorem zeroOwn (B : Nat) (w : World) (m : Om) (hc : m.cD = 0 ∧ m.cP = []) (hd : m.da = []) (hm : m.mp = []) {a : Option Addr} {n c : Nat} (hl : LOv B w m.lD (.slice a n c) m.lP) : (⟨m, ⟨a, n, c⟩, ⟨none, 0, 0⟩, ⟨none, 0, 0⟩, ⟨none, 0, 0⟩⟩ : Ov).Own B w :=
  ⟨hl, by show LOv B w m.cD (.slice none 0 0) m.cP; rw [hc.2]; exact LOv.nil _ _ _, by show RW _ _ _ w (.slice none 0 0) m.da ∧ ∀ x ∈ m.da, x < 256; rw [hd]; exact ⟨RW.nil _ _, by simp⟩, by show RV _ _ _ _ w (.slice none 0 0) m.mp ∧ ∀ x ∈ m.mp, x.Ok; rw [hm]; exact ⟨RV.nil _ _, by simp⟩⟩
theorem RS.start {W wr wx : World} {SB O : Nat} {s : Sd} {a : Option Addr} {n c : Nat} (hb : Below wr.heap.size wr wx) (hsb : wx.heap[SB]? = some (Obj.cells (arS s) 59)) (ho : wx.heap[O]? = some (Obj.cells #[.int .i64 0, .int .i64 0, .int .i64 0, .slice none 0 0, .int .i64 0, .slice none 0 0, .int .i64 0, .int .i64 0, .slice none 0 0, .slice none 0 0, .int .i64 0, .int .i64 0] 44)) (hl : LOv W.heap.size wx (Lab.seedD s.lS) (.slice a n c) (Lab.seedP s.lS s.ls)) (hn : wr.heap.size ≤ SB ∧ wr.heap.size ≤ O ∧ SB ≠ O) :
    RS W wr SB O s ⟨om0 s, ⟨a, n, c⟩, ⟨none, 0, 0⟩, ⟨none, 0, 0⟩, ⟨none, 0, 0⟩⟩ (wx.setRow O (arO ⟨om0 s, ⟨a, n, c⟩, ⟨none, 0, 0⟩, ⟨none, 0, 0⟩, ⟨none, 0, 0⟩⟩)) := by
  have hot : ∀ b, b ≠ O → (wx.setRow O (arO ⟨om0 s, ⟨a, n, c⟩, ⟨none, 0, 0⟩, ⟨none, 0, 0⟩, ⟨none, 0, 0⟩⟩)).heap[b]? = wx.heap[b]? := fun b hb => setRow_other wx O b _ hb
  exact ⟨hb.trans ((Turn.row wx O _).below hb.size fun b hb => by rw [List.mem_singleton.1 hb]; exact hn.2.1), (hot SB hn.2.2).trans hsb, setRow_heap wx O _ _ _ _ ho, (zeroOwn W.heap.size wx (om0 s) ⟨rfl, rfl⟩ rfl rfl hl).other ho hot, hn⟩
/-- A configuration that was made of a plan. -/
def CfgE (W : World) (co fr nm : Int) (xs : List Sl) (ss : List Sd) (e : Ending) (w' : World) : Prop := ∃ vs vo ovs, e = .returned (.agg #[.int .i64 co, .int .i64 fr, .int .i64 nm, vs, vo]) ∧ RV (fun b => W.heap.size ≤ b) 49 2 encSl w' vs xs ∧ RV (fun b => W.heap.size ≤ b) 44 12 encO w' vo ovs ∧ ovs.map Ov.m = ss.map cfgO ∧ (∀ o ∈ ovs, o.Own W.heap.size w') ∧ Below W.heap.size W w'
theorem Turn.nx {S : List Nat} {w1 w2 w3 : World} (h : Turn S w1 w2) (h' : Turn S w2 w3) : Turn S w1 w3 := h.trans h' fun _ hx => .inl hx
theorem Turn.dw {S : List Nat} {w1 w2 : World} (h : Turn S w1 w2) : Turn S w1 w2.drew := ⟨h.os, h.tape, h.output, h.size, h.block⟩
/-- The seed's box, at any time. -/
def SBx (SB : Nat) (s : Sd) (w : World) : Prop := w.heap[SB]? = some (Obj.cells (arS s) 59)
theorem SBx.cells {SB : Nat} {s : Sd} {w : World} (h : SBx SB s w) : w.cell? ⟨SB, 0, none⟩ = some (.int .i64 s.kd) ∧ w.cell? ⟨SB, 4, none⟩ = some (.int .i64 s.cS) ∧ w.cell? ⟨SB, 5, none⟩ = some s.cv ∧ w.cell? ⟨SB, 6, none⟩ = some (.int .i64 s.pg) ∧ w.cell? ⟨SB, 7, none⟩ = some (.int .i64 s.nm) ∧ w.cell? ⟨SB, 8, none⟩ = some s.dv ∧ w.cell? ⟨SB, 9, none⟩ = some s.mv ∧ w.cell? ⟨SB, 10, none⟩ = some (.int .i64 s.sp) ∧ w.cell? ⟨SB, 11, none⟩ = some (.int .i64 s.pc) := by
  refine ⟨?_, ?_, ?_, ?_, ?_, ?_, ?_, ?_, ?_⟩ <;> (rw [cell_of_row _ _ _ _ _ (0, 0) h]; rfl)
theorem RS.step {W wr w w' : World} {SB O : Nat} {s : Sd} {o o' : Ov} (h : RS W wr SB O s o w) (ht : Turn [O] w w') (hO : w'.heap[O]? = some (Obj.cells (arO o') 44)) (hown : o'.Own W.heap.size w) : RS W wr SB O s o' w' := by
  have hw : ∀ b, b < w.heap.size → b ≠ O → w'.heap[b]? = w.heap[b]? := fun b hl hb => ht.block b hl (by simpa using hb)
  refine ⟨h.b.trans (ht.below h.b.size fun b hb => by rw [List.mem_singleton.1 hb]; exact h.n.2.1), (hw SB (Array.getElem?_eq_some_iff.1 h.sx).1 h.n.2.2).trans h.sx, hO, hown.keep fun b cur u _ hu hb => hw b (Array.getElem?_eq_some_iff.1 hb).1 fun e => ?_, h.n⟩
  rw [e] at hb
  exact hu (cells_ty hb h.ox)
theorem RS.ocells {W wr : World} {SB O : Nat} {s : Sd} {o : Ov} {w : World} (h : RS W wr SB O s o w) : ∀ (j : Nat) (v : Value), (arO o)[j]? = some v → w.cell? ⟨O, j, none⟩ = some v := fun j v hv => by rw [cell_of_row _ _ _ _ _ (0, 0) h.ox]; exact hv
theorem RS.ofrozen {W wr : World} {SB O : Nat} {s : Sd} {o : Ov} {w : World} (h : RS W wr SB O s o w) (j : Nat) : w.frozen? ⟨O, j, none⟩ = false := frozen_of_row _ _ _ _ _ h.ox
set_option maxHeartbeats 8000000 in
set_option maxRecDepth 100000 in
theorem config_any {W : World} {co fr nm : Int} {A1 A2 : Option Addr} {l1 l2 : Nat} {xs : List Sl} {ss : List Sd} (h : PlR W co fr nm A1 A2 l1 l2 xs ss) (c1 c2 : Nat) (hc1 : l1 ≤ c1) (hL : Light l1 l2 ss) :
    Calls Try.prog 9 #[.agg #[.int .i64 co, .int .i64 fr, .int .i64 nm, .slice A1 l1 c1, .slice A2 l2 c2]] W (CfgE W co fr nm xs ss) := by
  have HP := Lib.hid h
  have HL := Lib.hid hL
  have HB := Lib.hid (plan_new W co fr nm A1 l1 c1 A2 l2 c2)
  obtain ⟨w0, e0⟩ : ∃ w0, W.alloc (Obj.cells #[.int .i64 co, .int .i64 fr, .int .i64 nm, .slice A1 l1 c1, .slice A2 l2 c2] 25) = w0 := ⟨_, rfl⟩
  have hs0 : w0.heap.size = W.heap.size + 1 := by rw [← e0]; simp
  rw [e0] at HB
  have hR := heap_alloc_new w0 (Obj.cells #[.int .i64 0, .int .i64 0, .int .i64 0, .slice none 0 0, .slice none 0 0] 29)
  have hB1 := HB.out.below (below_alloc1 w0 (Obj.cells #[.int .i64 0, .int .i64 0, .int .i64 0, .slice none 0 0, .slice none 0 0] 29))
  rw [hs0] at hR
  obtain ⟨w1, e1⟩ : ∃ w1, w0.alloc (Obj.cells #[.int .i64 0, .int .i64 0, .int .i64 0, .slice none 0 0, .slice none 0 0] 29) = w1 := ⟨_, rfl⟩
  have hs1 : w1.heap.size = W.heap.size + 2 := by rw [← e1]; simp; omega
  rw [e1] at hR hB1
  have HZ := Lib.hid (And.intro hB1 (And.intro hR hs1))
  have HE := Lib.hid (And.intro e0 e1)
  clear h hL hs0 hR hB1 hs1 HB e0 e1
  go_enter Try.func9, Try.ntmps9
  go_upto_region 1 with fail
  obtain ⟨e0, e1⟩ := HE.out
  rw [e0, e1]
  obtain ⟨P, eP⟩ : ∃ P, W.heap.size = P := ⟨_, rfl⟩
  obtain ⟨R, eR⟩ : ∃ R, P + 1 = R := ⟨_, rfl⟩
  have HN := Lib.hid (And.intro eP eR)
  rw [eP]
  rw [eR]
  rw [eP, eR] at HZ
  clear eP eR e0 e1 HE
  have HF := Lib.hid (fun (wS : World) (hS : Below w1.heap.size w1 wS) => (HZ.out.1.below hS).cell)
  go_cut [3] from 7 to 16 (fun v3 wx => ∃ C : Nat, v3 = .pointer (some ⟨C, 0, none⟩) ∧ Hid (CS W co fr nm A1 l1 c1 A2 l2 c2 P R C xs ss 0 wx))
  case first =>
    refine region_AU (Z := fun j => false) (S := fun w' => Below w1.heap.size w1 w') (by kernel_rfl) ((Below.refl _ _).drew) (fun hHeld => ?_)
    refine AUS_take (by kernel_rfl) rfl (i := 0) (oi := _) (v := ?vw1) rfl (by kernel_rfl) (by kernel_rfl) (by kernel_rfl) (fun _ _ _ h => h) (Or.inl ⟨by rfl, ?hz1⟩) hHeld ?rst1
    case hz1 => (intro wS hSw; clear hSw; go_simp; try with_reducible rfl)
    simp only [Act.put, List.getElem_toArray, List.getElem_cons_zero, List.getElem_cons_succ, List.setIfInBounds_toArray, List.set_cons_zero, List.set_cons_succ]
    refine AUS_take (by kernel_rfl) rfl (i := 1) (oi := _) (v := ?vw2) rfl (by kernel_rfl) (by kernel_rfl) (by kernel_rfl) (fun _ _ _ h => h) (Or.inl ⟨by rfl, ?hz2⟩) hHeld ?rst2
    case hz2 => (intro wS hSw; obtain ⟨d0, d1, d2, d3, d4⟩ := HF.out wS hSw; clear hSw; go_simp; try with_reducible rfl)
    simp only [Act.put, List.getElem_toArray, List.getElem_cons_zero, List.getElem_cons_succ, List.setIfInBounds_toArray, List.set_cons_zero, List.set_cons_succ]
    refine AUS_take (by kernel_rfl) rfl (i := 2) (oi := _) (v := ?vw3) rfl (by kernel_rfl) (by kernel_rfl) (by kernel_rfl) (fun _ _ _ h => h) (Or.inl ⟨by rfl, ?hz3⟩) hHeld ?rst3
    case hz3 => (intro wS hSw; clear hSw; go_simp; try with_reducible rfl)
    simp only [Act.put, List.getElem_toArray, List.getElem_cons_zero, List.getElem_cons_succ, List.setIfInBounds_toArray, List.set_cons_zero, List.set_cons_succ]
    refine AUS_take (by kernel_rfl) rfl (i := 3) (oi := _) (v := ?vw4) rfl (by kernel_rfl) (by kernel_rfl) (by kernel_rfl) (fun _ _ _ h => h) (Or.inl ⟨by rfl, ?hz4⟩) hHeld ?rst4
    case hz4 => (intro wS hSw; obtain ⟨d0, d1, d2, d3, d4⟩ := HF.out wS hSw; clear hSw; go_simp; try with_reducible rfl)
    simp only [Act.put, List.getElem_toArray, List.getElem_cons_zero, List.getElem_cons_succ, List.setIfInBounds_toArray, List.set_cons_zero, List.set_cons_succ]
    refine AUS_take (by kernel_rfl) rfl (i := 4) (oi := _) (v := ?vw5) rfl (by kernel_rfl) (by kernel_rfl) (by kernel_rfl) (fun _ _ _ h => h) (Or.inl ⟨by rfl, ?hz5⟩) hHeld ?rst5
    case hz5 => (intro wS hSw; clear hSw; go_simp; try with_reducible rfl)
    simp only [Act.put, List.getElem_toArray, List.getElem_cons_zero, List.getElem_cons_succ, List.setIfInBounds_toArray, List.set_cons_zero, List.set_cons_succ]
    refine AUS_take (by kernel_rfl) rfl (i := 5) (oi := _) (v := ?vw6) rfl (by kernel_rfl) (by kernel_rfl) (by kernel_rfl) (fun _ _ _ h => h) (Or.inl ⟨by rfl, ?hz6⟩) hHeld ?rst6
    case hz6 => (intro wS hSw; obtain ⟨d0, d1, d2, d3, d4⟩ := HF.out wS hSw; clear hSw; go_simp; try with_reducible rfl)
    simp only [Act.put, List.getElem_toArray, List.getElem_cons_zero, List.getElem_cons_succ, List.setIfInBounds_toArray, List.set_cons_zero, List.set_cons_succ]
    refine AUS_take (by kernel_rfl) rfl (i := 6) (oi := _) (v := ?vw7) rfl (by kernel_rfl) (by kernel_rfl) (by kernel_rfl) (fun _ _ _ h => h) (Or.inl ⟨by rfl, ?hz7⟩) hHeld ?rst7
    case hz7 => (intro wS hSw; clear hSw; go_simp; try with_reducible rfl)
    simp only [Act.put, List.getElem_toArray, List.getElem_cons_zero, List.getElem_cons_succ, List.setIfInBounds_toArray, List.set_cons_zero, List.set_cons_succ]
    refine AUS_take (by kernel_rfl) rfl (i := 7) (oi := _) (v := ?vw8) rfl (by kernel_rfl) (by kernel_rfl) (by kernel_rfl) (fun _ _ _ h => h) (Or.inl ⟨by rfl, ?hz8⟩) hHeld ?rst8
    case hz8 => (intro wS hSw; obtain ⟨d0, d1, d2, d3, d4⟩ := HF.out wS hSw; clear hSw; go_simp; try with_reducible rfl)
    simp only [Act.put, List.getElem_toArray, List.getElem_cons_zero, List.getElem_cons_succ, List.setIfInBounds_toArray, List.set_cons_zero, List.set_cons_succ]
    refine AU_two (i := 8) (j := 10) (oi := _) (oj := _) (by kernel_rfl) rfl rfl (fun K hK => ?_) (fun K hK => ?_)
    · have HH := Lib.hid hHeld
      obtain ⟨vs, w2, hrun, hrv, hb2⟩ := app_sl (A := A1) (c := c1) 22 HP.out.n1.1 (by have := HL.out.1; omega) hc1 (HP.out.r1.below (HZ.out.1.below hHeld).1)
      obtain ⟨A3, c3, evs, _⟩ := hrv.form
      subst evs
      clear hHeld
      refine step_append rfl (.const (.slice none 0 0)) (.tmp 14) 22 22 rfl _ _ _ rfl rfl w2 hrun ?_
      have hHeld := HH.out.trans (hb2.mono HH.out.size)
      have HH0 := Lib.hid (show w1.heap.size ≤ _ from HH.out.size)
      refine hK.out _ _ (fun _ => hHeld) ?_
      clear hK K hrun HH
      try simp only [Act.put, List.getElem_toArray, List.getElem_cons_zero, List.getElem_cons_succ, List.setIfInBounds_toArray, List.set_cons_zero, List.set_cons_succ]
      refine AUS_take (by kernel_rfl) rfl (i := 9) (oi := _) (v := ?vw9) rfl (by kernel_rfl) (by kernel_rfl) (by kernel_rfl) (fun _ _ _ h => h) (Or.inl ⟨by rfl, ?hz9⟩) hHeld ?rst9
      case hz9 => (intro wS hSw; clear hSw; go_simp; try with_reducible rfl)
      simp only [Act.put, List.getElem_toArray, List.getElem_cons_zero, List.getElem_cons_succ, List.setIfInBounds_toArray, List.set_cons_zero, List.set_cons_succ]
      have hb3 := below_alloc1 w2 (Obj.cells #[.int .i64 0, .int .i64 0, .int .i64 0, .slice none 0 0, .slice none 0 0] 29)
      have hC := heap_alloc_new w2 (Obj.cells #[.int .i64 0, .int .i64 0, .int .i64 0, .slice none 0 0, .slice none 0 0] 29)
      have HC := Lib.hid (And.intro hC (And.intro hb3 (And.intro (hrv.keep (own' := fun b => w1.heap.size ≤ b) fun b cur h1 h2 => ⟨Nat.le_trans HH0.out h1, hb3.block b (Array.getElem?_eq_some_iff.1 h2).1⟩) (And.intro (hHeld.trans (hb3.mono hHeld.size)) hHeld.size))))
      refine AU_one (i := 10) (o := _) (by kernel_rfl) rfl (fun K hK => ?_)
      clear hC hb3 hrv hHeld
      go_simp
      refine hK.out _ _ (fun _ => HC.out.2.2.2.1) ?_
      clear hK K
      try simp only [Act.put, List.getElem_toArray, List.getElem_cons_zero, List.getElem_cons_succ, List.setIfInBounds_toArray, List.set_cons_zero, List.set_cons_succ]
      refine AU_one (i := 11) (o := _) (by kernel_rfl) rfl (fun K hK => ?_)
      refine step_store_row rfl 29 (.tmp 3) (.tmp 16) rfl w2.heap.size #[.int .i64 co, .int .i64 fr, .int .i64 nm, .slice A3 xs.length c3, .slice none 0 0] rfl rfl 29 _ HC.out.1 sizeC rfl (by simp [Value.oneCell']) ?_
      have hw1 := HZ.out.2.2
      have hNN := HN.out
      have hge := HC.out.2.2.2.2
      have hb4 : Below w1.heap.size w1 _ := HC.out.2.2.2.1
      have hfin := CS.start (ss := ss) (HZ.out.1.below hb4) ((hb4.block R (by omega)).trans HZ.out.2.1) (HC.out.2.2.1.keep fun b cur h1 h2 => ⟨by omega, rfl⟩) HC.out.1 (show W.heap.size ≤ P ∧ W.heap.size ≤ R ∧ W.heap.size ≤ w2.heap.size ∧ P ≠ w2.heap.size ∧ R ≠ w2.heap.size from by omega)
      have HFin := Lib.hid hfin
      have HSf := Lib.hid (hb4.trans (((Turn.row _ w2.heap.size #[.int .i64 co, .int .i64 fr, .int .i64 nm, .slice A3 xs.length c3, .slice none 0 0]).below (X := w1.heap.size) hb4.size (fun b hb => by rw [List.mem_singleton.1 hb]; omega))))
      clear hfin hb4 hge hw1 hNN
      refine hK.out _ _ (fun _ => HSf.out) ?_
      clear hK K HSf
      try simp only [Act.put, List.getElem_toArray, List.getElem_cons_zero, List.getElem_cons_succ, List.setIfInBounds_toArray, List.set_cons_zero, List.set_cons_succ]
      refine AU_done (by kernel_rfl) ?_ _
      simp only [OnlyN]
      go_wp2_with fail
      go_meet
      exact ⟨_, rfl, HFin⟩
    · clear hHeld
      go_simp
      obtain ⟨w3, e3⟩ : ∃ w3, (w1.alloc (Obj.cells #[.int .i64 0, .int .i64 0, .int .i64 0, .slice none 0 0, .slice none 0 0] 29)).drew = w3 := ⟨_, rfl⟩
      obtain ⟨C, eC⟩ : ∃ C, w1.heap.size = C := ⟨_, rfl⟩
      have hHeld : Below w1.heap.size w1 w3 := by rw [← e3]; exact (below_alloc1 w1 _).drew
      have HC0 := Lib.hid (show w3.heap[C]? = some (Obj.cells #[.int .i64 0, .int .i64 0, .int .i64 0, .slice none 0 0, .slice none 0 0] 29) from by rw [← e3, ← eC]; exact heap_alloc_new w1 _)
      try rw [e3]
      try rw [eC]
      refine hK.out _ _ (fun _ => hHeld) ?_
      clear hK K
      try simp only [Act.put, List.getElem_toArray, List.getElem_cons_zero, List.getElem_cons_succ, List.setIfInBounds_toArray, List.set_cons_zero, List.set_cons_succ]
      have hCw : w1.heap.size ≤ C := by omega
      have HH := Lib.hid hHeld
      obtain ⟨vs, w2, hrun, hrv, hb2⟩ := app_sl (A := A1) (c := c1) 22 HP.out.n1.1 (by have := HL.out.1; omega) hc1 (HP.out.r1.below (HZ.out.1.below hHeld).1)
      obtain ⟨A3, c3, evs, _⟩ := hrv.form
      subst evs
      have hcl := (Array.getElem?_eq_some_iff.1 HC0.out).1
      have HC := Lib.hid (And.intro ((hb2.block C hcl).trans HC0.out) (And.intro hb2 (And.intro (hrv.keep (own' := fun b => w1.heap.size ≤ b) fun b cur h1 h2 => ⟨Nat.le_trans hHeld.size h1, rfl⟩) (And.intro (hHeld.trans (hb2.mono hHeld.size)) hCw))))
      clear hHeld hrv hb2 hcl hCw e3 eC
      refine AU_one (i := 8) (o := _) (by kernel_rfl) rfl (fun K hK => ?_)
      refine step_append rfl (.const (.slice none 0 0)) (.tmp 14) 22 22 rfl _ _ _ rfl rfl w2 hrun ?_
      have hHeld := HC.out.2.2.2.1
      refine hK.out _ _ (fun _ => hHeld) ?_
      clear hK K hrun HH
      try simp only [Act.put, List.getElem_toArray, List.getElem_cons_zero, List.getElem_cons_succ, List.setIfInBounds_toArray, List.set_cons_zero, List.set_cons_succ]
      refine AUS_take (by kernel_rfl) rfl (i := 9) (oi := _) (v := ?vw10) rfl (by kernel_rfl) (by kernel_rfl) (by kernel_rfl) (fun _ _ _ h => h) (Or.inl ⟨by rfl, ?hz10⟩) hHeld ?rst10
      case hz10 => (intro wS hSw; clear hSw; go_simp; try with_reducible rfl)
      simp only [Act.put, List.getElem_toArray, List.getElem_cons_zero, List.getElem_cons_succ, List.setIfInBounds_toArray, List.set_cons_zero, List.set_cons_succ]
      clear hHeld
      refine AU_one (i := 11) (o := _) (by kernel_rfl) rfl (fun K hK => ?_)
      refine step_store_row rfl 29 (.tmp 3) (.tmp 16) rfl C #[.int .i64 co, .int .i64 fr, .int .i64 nm, .slice A3 xs.length c3, .slice none 0 0] rfl rfl 29 _ HC.out.1 sizeC rfl (by simp [Value.oneCell']) ?_
      have hw1 := HZ.out.2.2
      have hNN := HN.out
      have hge := HC.out.2.2.2.2
      have hb4 : Below w1.heap.size w1 _ := HC.out.2.2.2.1
      have hfin := CS.start (ss := ss) (HZ.out.1.below hb4) ((hb4.block R (by omega)).trans HZ.out.2.1) (HC.out.2.2.1.keep fun b cur h1 h2 => ⟨by omega, rfl⟩) HC.out.1 (show W.heap.size ≤ P ∧ W.heap.size ≤ R ∧ W.heap.size ≤ C ∧ P ≠ C ∧ R ≠ C from by omega)
      have HFin := Lib.hid hfin
      have HSf := Lib.hid (hb4.trans (((Turn.row _ C #[.int .i64 co, .int .i64 fr, .int .i64 nm, .slice A3 xs.length c3, .slice none 0 0]).below (X := w1.heap.size) hb4.size (fun b hb => by rw [List.mem_singleton.1 hb]; omega))))
      clear hfin hb4 hge hw1 hNN
      refine hK.out _ _ (fun _ => HSf.out) ?_
      clear hK K HSf
      try simp only [Act.put, List.getElem_toArray, List.getElem_cons_zero, List.getElem_cons_succ, List.setIfInBounds_toArray, List.set_cons_zero, List.set_cons_succ]
      refine AU_done (by kernel_rfl) ?_ _
      simp only [OnlyN]
      go_wp2_with fail
      go_meet
      exact ⟨_, rfl, HFin⟩
  case rest =>
    clear HF
    obtain ⟨C, rfl, hI⟩ := hcut
    obtain ⟨d0, d1, d2, d3, d4⟩ := hI.out.p.cell
    go_wp2_with fail
    clear d0 d1 d2 d3 d4
    go_loopg [20] (l2 + 1) (fun gh v20 wr => ∃ k : Nat, l2 + 1 - k ≤ gh ∧ v20 = .int .i64 k ∧ k ≤ l2 ∧ Hid (CS W co fr nm A1 l1 c1 A2 l2 c2 P R C xs ss k wr))
    case atStart => exact ⟨0, by omega, rfl, Nat.zero_le _, hI⟩
    case round =>
      clear hI
      obtain ⟨k, hg, rfl, hk, hI⟩ := hrel
      by_cases hlt : k < l2
      · have q1 : (k : Int) < l2 := by omega
        obtain ⟨s, hs⟩ : ∃ s, ss[k]? = some s := ⟨_, List.getElem?_eq_getElem (by rw [HP.out.n2.1]; exact hlt)⟩
        have hok := (HP.out.o2 s (List.mem_of_getElem? hs)).below hI.out.p.1
        have hr2 := HP.out.r2.below hI.out.p.1
        obtain ⟨b, off, rfl⟩ := hr2.some_ (by have := HP.out.n2.1; omega)
        have k0 := hr2.at_ (j := 0) hs (u := .int .i64 s.kd) rfl
        rw [Nat.add_zero] at k0
        have k1 := hr2.at_ (j := 1) hs (u := .int .i64 s.pa) rfl
        have k2 := hr2.at_ (j := 2) hs (u := .int .i64 s.lS) rfl
        have k3 := hr2.at_ (j := 3) hs (u := s.lv) rfl
        have k4 := hr2.at_ (j := 4) hs (u := .int .i64 s.cS) rfl
        have k5 := hr2.at_ (j := 5) hs (u := s.cv) rfl
        have k6 := hr2.at_ (j := 6) hs (u := .int .i64 s.pg) rfl
        have k7 := hr2.at_ (j := 7) hs (u := .int .i64 s.nm) rfl
        have k8 := hr2.at_ (j := 8) hs (u := s.dv) rfl
        have k9 := hr2.at_ (j := 9) hs (u := s.mv) rfl
        have k10 := hr2.at_ (j := 10) hs (u := .int .i64 s.sp) rfl
        have k11 := hr2.at_ (j := 11) hs (u := .int .i64 s.pc) rfl
        obtain ⟨aL, nL, cL, eL⟩ := hok.l.form
        obtain ⟨aC, nC, cC, eC⟩ := hok.c.form
        obtain ⟨aD, nD, cD, eD, _⟩ := hok.d
        obtain ⟨aM, nM, cM, eM, _⟩ := hok.m
        rw [eL] at k3
        rw [eC] at k5
        rw [eD] at k8
        rw [eM] at k9
        have HV := Lib.hid (And.intro eL (And.intro eC (And.intro eD eM)))
        obtain ⟨SB, eSB⟩ : ∃ SB, wr.heap.size = SB := ⟨_, rfl⟩
        obtain ⟨ws, ews⟩ : ∃ ws, wr.alloc (Obj.cells (arS s) 59) = ws := ⟨_, rfl⟩
        have hsb : ws.heap[SB]? = some (Obj.cells (arS s) 59) := by rw [← ews, ← eSB]; exact heap_alloc_new wr _
        have hbs : Below wr.heap.size wr ws := by rw [← ews]; exact below_alloc1 wr _
        have HW := Lib.hid (And.intro eSB (And.intro hsb (And.intro hbs (hok.below hbs))))
        have HE := Lib.hid ews
        have HWs := Lib.hid (show wr.heap.size + 1 = ws.heap.size from by rw [← ews]; simp)
        have HG := Lib.hid (And.intro hg (And.intro hlt hs))
        clear hg hlt hs hr2 hok eSB ews hsb hbs hk eL eC eD eM
        go_upto_region 5 with fail
        have ews := HE.out
        unfold arS at ews
        rw [HV.out.1, HV.out.2.1, HV.out.2.2.1, HV.out.2.2.2] at ews
        rw [ews, HW.out.1]
        clear ews HE k0 k1 k2 k3 k4 k5 k6 k7 k8 k9 k10 k11
        have HF := Lib.hid (fun (wS : World) (hS : Below ws.heap.size ws wS) => (show wS.cell? ⟨SB, 0, none⟩ = some (.int .i64 s.kd) ∧ wS.cell? ⟨SB, 1, none⟩ = some (.int .i64 s.pa) ∧ wS.cell? ⟨SB, 2, none⟩ = some (.int .i64 s.lS) ∧ wS.cell? ⟨SB, 3, none⟩ = some s.lv from by
          have h1 := (hS.block _ (Array.getElem?_eq_some_iff.1 HW.out.2.1).1).trans HW.out.2.1
          refine ⟨?_, ?_, ?_, ?_⟩ <;> (rw [cell_of_row _ _ _ _ _ (0, 0) h1]; rfl)))
        go_cut [6] from 21 to 76 (fun v6 wx => ∃ O o, v6 = .pointer (some ⟨O, 0, none⟩) ∧ o.m = om0 s ∧ Hid (RS W wr SB O s o wx))
        case first =>
          refine region_AU (Z := fun j => false) (S := fun w' => Below ws.heap.size ws w') (by kernel_rfl) ((Below.refl _ _).drew) (fun hHeld => ?_)
          refine AUS_take (by kernel_rfl) rfl (i := 0) (oi := _) (v := ?vw11) rfl (by kernel_rfl) (by kernel_rfl) (by kernel_rfl) (fun _ _ _ h => h) (Or.inl ⟨by rfl, ?hz11⟩) hHeld ?rst11
          case hz11 => (intro wS hSw; clear hSw; go_simp; try with_reducible rfl)
          simp only [Act.put, List.getElem_toArray, List.getElem_cons_zero, List.getElem_cons_succ, List.setIfInBounds_toArray, List.set_cons_zero, List.set_cons_succ]
          refine AUS_take (by kernel_rfl) rfl (i := 1) (oi := _) (v := ?vw12) rfl (by kernel_rfl) (by kernel_rfl) (by kernel_rfl) (fun _ _ _ h => h) (Or.inl ⟨by rfl, ?hz12⟩) hHeld ?rst12
          case hz12 => (intro wS hSw; obtain ⟨d0, d1, d2, d3⟩ := HF.out wS hSw; clear hSw; go_simp; try with_reducible rfl)
          simp only [Act.put, List.getElem_toArray, List.getElem_cons_zero, List.getElem_cons_succ, List.setIfInBounds_toArray, List.set_cons_zero, List.set_cons_succ]
          refine AUS_take (by kernel_rfl) rfl (i := 2) (oi := _) (v := ?vw13) rfl (by kernel_rfl) (by kernel_rfl) (by kernel_rfl) (fun _ _ _ h => h) (Or.inl ⟨by rfl, ?hz13⟩) hHeld ?rst13
          case hz13 => (intro wS hSw; clear hSw; go_simp; try with_reducible rfl)
          simp only [Act.put, List.getElem_toArray, List.getElem_cons_zero, List.getElem_cons_succ, List.setIfInBounds_toArray, List.set_cons_zero, List.set_cons_succ]
          refine AUS_take (by kernel_rfl) rfl (i := 3) (oi := _) (v := ?vw14) rfl (by kernel_rfl) (by kernel_rfl) (by kernel_rfl) (fun _ _ _ h => h) (Or.inl ⟨by rfl, ?hz14⟩) hHeld ?rst14
          case hz14 => (intro wS hSw; obtain ⟨d0, d1, d2, d3⟩ := HF.out wS hSw; clear hSw; go_simp; try with_reducible rfl)
          simp only [Act.put, List.getElem_toArray, List.getElem_cons_zero, List.getElem_cons_succ, List.setIfInBounds_toArray, List.set_cons_zero, List.set_cons_succ]
          refine AUS_take (by kernel_rfl) rfl (i := 4) (oi := _) (v := ?vw15) rfl (by kernel_rfl) (by kernel_rfl) (by kernel_rfl) (fun _ _ _ h => h) (Or.inl ⟨by rfl, ?hz15⟩) hHeld ?rst15
          case hz15 => (intro wS hSw; clear hSw; go_simp; try with_reducible rfl)
          simp only [Act.put, List.getElem_toArray, List.getElem_cons_zero, List.getElem_cons_succ, List.setIfInBounds_toArray, List.set_cons_zero, List.set_cons_succ]
          refine AUS_take (by kernel_rfl) rfl (i := 5) (oi := _) (v := ?vw16) rfl (by kernel_rfl) (by kernel_rfl) (by kernel_rfl) (fun _ _ _ h => h) (Or.inl ⟨by rfl, ?hz16⟩) hHeld ?rst16
          case hz16 => (intro wS hSw; obtain ⟨d0, d1, d2, d3⟩ := HF.out wS hSw; clear hSw; go_simp; try with_reducible rfl)
          simp only [Act.put, List.getElem_toArray, List.getElem_cons_zero, List.getElem_cons_succ, List.setIfInBounds_toArray, List.set_cons_zero, List.set_cons_succ]
          refine AU_two (i := 6) (j := 8) (oi := _) (oj := _) (by kernel_rfl) rfl rfl (fun K hK => ?_) (fun K hK => ?_)
          · have HH := Lib.hid hHeld
            have CC := Lib.hid ((seed_is s.lS s.lv s.ls ws.drew (HW.out.2.2.2.l.below hHeld)).mono fun e w' h => lov_of (B := W.heap.size) h (by have h1 := HWs.out; have h2 := hI.out.p.1.size; show W.heap.size ≤ ws.heap.size; omega))
            clear hHeld
            go_simp
            refine CC.out.mono ?_
            clear CC
            rintro e wz ⟨aZ, nZ, cZ, rfl, hlz, hbz⟩
            have hHeld := HH.out.trans (hbz.mono HH.out.size)
            clear HH hbz
            refine hK.out _ _ (fun _ => hHeld) ?_
            clear hK K
            try simp only [Act.put, List.getElem_toArray, List.getElem_cons_zero, List.getElem_cons_succ, List.setIfInBounds_toArray, List.set_cons_zero, List.set_cons_succ]
            refine AUS_take (by kernel_rfl) rfl (i := 7) (oi := _) (v := ?vw17) rfl (by kernel_rfl) (by kernel_rfl) (by kernel_rfl) (fun _ _ _ h => h) (Or.inl ⟨by rfl, ?hz17⟩) hHeld ?rst17
            case hz17 => (intro wS hSw; clear hSw; go_simp; try with_reducible rfl)
            simp only [Act.put, List.getElem_toArray, List.getElem_cons_zero, List.getElem_cons_succ, List.setIfInBounds_toArray, List.set_cons_zero, List.set_cons_succ]
            have b4 := below_alloc1 wz (Obj.cells #[.int .i64 0, .int .i64 0, .int .i64 0, .slice none 0 0, .int .i64 0, .slice none 0 0, .int .i64 0, .int .i64 0, .slice none 0 0, .slice none 0 0, .int .i64 0, .int .i64 0] 44)
            have HO := Lib.hid (And.intro (heap_alloc_new wz (Obj.cells #[.int .i64 0, .int .i64 0, .int .i64 0, .slice none 0 0, .int .i64 0, .slice none 0 0, .int .i64 0, .int .i64 0, .slice none 0 0, .slice none 0 0, .int .i64 0, .int .i64 0] 44)) (And.intro (hlz.below b4) (And.intro (hHeld.trans (b4.mono hHeld.size)) hHeld.size)))
            refine AU_one (i := 8) (o := _) (by kernel_rfl) rfl (fun K hK => ?_)
            clear hHeld hlz b4
            go_simp
            refine hK.out _ _ (fun _ => HO.out.2.2.1) ?_
            clear hK K
            try simp only [Act.put, List.getElem_toArray, List.getElem_cons_zero, List.getElem_cons_succ, List.setIfInBounds_toArray, List.set_cons_zero, List.set_cons_succ]
            refine AU_one (i := 9) (o := _) (by kernel_rfl) rfl (fun K hK => ?_)
            refine step_store_row rfl 44 (.tmp 6) (.tmp 31) rfl wz.heap.size #[.int .i64 s.kd, .int .i64 s.pa, .int .i64 (Lab.seedD s.lS), .slice aZ nZ cZ, .int .i64 0, .slice none 0 0, .int .i64 0, .int .i64 0, .slice none 0 0, .slice none 0 0, .int .i64 0, .int .i64 0] rfl rfl 44 _ HO.out.1 sizeO rfl (by simp [Value.oneCell']) ?_
            have hge : ws.heap.size ≤ wz.heap.size := HO.out.2.2.2
            have hwr : wr.heap.size + 1 = ws.heap.size := HWs.out
            have hSB := HW.out.1
            have hb5 : Below ws.heap.size ws _ := HO.out.2.2.1
            have HFin := Lib.hid (RS.start (W := W) (wr := wr) (SB := SB) (s := s) (HW.out.2.2.1.trans (hb5.mono (by omega))) ((hb5.block SB (by omega)).trans HW.out.2.1) HO.out.1 HO.out.2.1 ⟨by omega, by omega, by omega⟩)
            have HSf := Lib.hid (hb5.trans (((Turn.row _ wz.heap.size #[.int .i64 s.kd, .int .i64 s.pa, .int .i64 (Lab.seedD s.lS), .slice aZ nZ cZ, .int .i64 0, .slice none 0 0, .int .i64 0, .int .i64 0, .slice none 0 0, .slice none 0 0, .int .i64 0, .int .i64 0]).below (X := ws.heap.size) hb5.size (fun b hb => by rw [List.mem_singleton.1 hb]; omega))))
            clear hge hwr hSB hb5
            refine hK.out _ _ (fun _ => HSf.out) ?_
            clear hK K HSf
            try simp only [Act.put, List.getElem_toArray, List.getElem_cons_zero, List.getElem_cons_succ, List.setIfInBounds_toArray, List.set_cons_zero, List.set_cons_succ]
            refine AU_done (by kernel_rfl) ?_ _
            simp only [OnlyN]
            go_wp2_with fail
            go_meet
            exact ⟨_, _, rfl, rfl, HFin⟩
          · clear hHeld
            go_simp
            obtain ⟨w3, e3⟩ : ∃ w3, (ws.alloc (Obj.cells #[.int .i64 0, .int .i64 0, .int .i64 0, .slice none 0 0, .int .i64 0, .slice none 0 0, .int .i64 0, .int .i64 0, .slice none 0 0, .slice none 0 0, .int .i64 0, .int .i64 0] 44)).drew = w3 := ⟨_, rfl⟩
            obtain ⟨O, eO⟩ : ∃ O, ws.heap.size = O := ⟨_, rfl⟩
            have hHeld : Below ws.heap.size ws w3 := by rw [← e3]; exact (below_alloc1 ws _).drew
            have HO0 := Lib.hid (show w3.heap[O]? = some (Obj.cells #[.int .i64 0, .int .i64 0, .int .i64 0, .slice none 0 0, .int .i64 0, .slice none 0 0, .int .i64 0, .int .i64 0, .slice none 0 0, .slice none 0 0, .int .i64 0, .int .i64 0] 44) ∧ ws.heap.size ≤ O from ⟨by rw [← e3, ← eO]; exact heap_alloc_new ws _, by omega⟩)
            try rw [e3]
            try rw [eO]
            refine hK.out _ _ (fun _ => hHeld) ?_
            clear hK K e3 eO
            try simp only [Act.put, List.getElem_toArray, List.getElem_cons_zero, List.getElem_cons_succ, List.setIfInBounds_toArray, List.set_cons_zero, List.set_cons_succ]
            have HH := Lib.hid hHeld
            have CC := Lib.hid ((seed_is s.lS s.lv s.ls w3 (HW.out.2.2.2.l.below hHeld)).mono fun e w' h => lov_of (B := W.heap.size) h (by have h1 := HWs.out; have h2 := hI.out.p.1.size; have h3 := hHeld.size; omega))
            refine AU_one (i := 6) (o := _) (by kernel_rfl) rfl (fun K hK => ?_)
            clear hHeld
            go_simp
            refine CC.out.mono ?_
            clear CC
            rintro e wz ⟨aZ, nZ, cZ, rfl, hlz, hbz⟩
            have hHeld := HH.out.trans (hbz.mono HH.out.size)
            have HO := Lib.hid (And.intro ((hbz.block O (Array.getElem?_eq_some_iff.1 HO0.out.1).1).trans HO0.out.1) (And.intro hlz (And.intro hHeld HO0.out.2)))
            clear HH hbz hlz HO0
            refine hK.out _ _ (fun _ => hHeld) ?_
            clear hK K
            try simp only [Act.put, List.getElem_toArray, List.getElem_cons_zero, List.getElem_cons_succ, List.setIfInBounds_toArray, List.set_cons_zero, List.set_cons_succ]
            refine AUS_take (by kernel_rfl) rfl (i := 7) (oi := _) (v := ?vw18) rfl (by kernel_rfl) (by kernel_rfl) (by kernel_rfl) (fun _ _ _ h => h) (Or.inl ⟨by rfl, ?hz18⟩) hHeld ?rst18
            case hz18 => (intro wS hSw; clear hSw; go_simp; try with_reducible rfl)
            simp only [Act.put, List.getElem_toArray, List.getElem_cons_zero, List.getElem_cons_succ, List.setIfInBounds_toArray, List.set_cons_zero, List.set_cons_succ]
            clear hHeld
            refine AU_one (i := 9) (o := _) (by kernel_rfl) rfl (fun K hK => ?_)
            refine step_store_row rfl 44 (.tmp 6) (.tmp 31) rfl O #[.int .i64 s.kd, .int .i64 s.pa, .int .i64 (Lab.seedD s.lS), .slice aZ nZ cZ, .int .i64 0, .slice none 0 0, .int .i64 0, .int .i64 0, .slice none 0 0, .slice none 0 0, .int .i64 0, .int .i64 0] rfl rfl 44 _ HO.out.1 sizeO rfl (by simp [Value.oneCell']) ?_
            have hge : ws.heap.size ≤ O := HO.out.2.2.2
            have hwr : wr.heap.size + 1 = ws.heap.size := HWs.out
            have hSB := HW.out.1
            have hb5 : Below ws.heap.size ws _ := HO.out.2.2.1
            have HFin := Lib.hid (RS.start (W := W) (wr := wr) (SB := SB) (s := s) (HW.out.2.2.1.trans (hb5.mono (by omega))) ((hb5.block SB (by omega)).trans HW.out.2.1) HO.out.1 HO.out.2.1 ⟨by omega, by omega, by omega⟩)
            have HSf := Lib.hid (hb5.trans (((Turn.row _ O #[.int .i64 s.kd, .int .i64 s.pa, .int .i64 (Lab.seedD s.lS), .slice aZ nZ cZ, .int .i64 0, .slice none 0 0, .int .i64 0, .int .i64 0, .slice none 0 0, .slice none 0 0, .int .i64 0, .int .i64 0]).below (X := ws.heap.size) hb5.size (fun b hb => by rw [List.mem_singleton.1 hb]; omega))))
            clear hge hwr hSB hb5
            refine hK.out _ _ (fun _ => HSf.out) ?_
            clear hK K HSf
            try simp only [Act.put, List.getElem_toArray, List.getElem_cons_zero, List.getElem_cons_succ, List.setIfInBounds_toArray, List.set_cons_zero, List.set_cons_succ]
            refine AU_done (by kernel_rfl) ?_ _
            simp only [OnlyN]
            go_wp2_with fail
            go_meet
            exact ⟨_, _, rfl, rfl, HFin⟩
        case rest =>
          clear HF
          obtain ⟨O, o, rfl, hom, hR⟩ := hcut
          obtain ⟨om, lv, cv, dv, mv⟩ := o
          simp only at hom
          subst hom
          obtain ⟨x0, x4, x5, x6, x7, x8, x9, x10, x11⟩ := hR.out.cells
          go_upto_block 2 with fail
          clear x4 x5 x6 x7 x8 x9 x10 x11 x0
          go_cut [] from 21 to 76 (fun wx => ∃ o : Ov, o.m = cfgO s ∧ Hid (RS W wr SB O s o wx))
          case first =>
            by_cases h1 : s.kd = 1
            · have e1 : (s.kd == 1) = true := by rw [h1]; rfl
              obtain ⟨x0, x4, x5, x6, x7, x8, x9, x10, x11⟩ := hR.out.cells
              have y6 := hR.out.ocells 6 (.int .i64 0) rfl
              have y7 := hR.out.ocells 7 (.int .i64 0) rfl
              have z6 := hR.out.ofrozen 6
              have z7 := hR.out.ofrozen 7
              clear x0 x4 x5 x8 x9 x10 x11
              go_upto_region 8 with fail
              go_region
              have hset := heap_setCell_same _ O 7 _ 44 (.int .i64 s.nm) (heap_setCell_same _ O 6 _ 44 (.int .i64 s.pg) hR.out.ox)
              have HFin := Lib.hid (hR.out.step (w' := ((World.setCell _ ⟨O, 6, none⟩ (.int .i64 s.pg)).setCell ⟨O, 7, none⟩ (.int .i64 s.nm)).drew) (o' := ⟨cfgO s, lv, cv, dv, mv⟩) (((Turn.set _ O 6 (.int .i64 s.pg)).nx (Turn.set _ O 7 (.int .i64 s.nm))).dw) (by rw [show arO ⟨cfgO s, lv, cv, dv, mv⟩ = ((arO ⟨om0 s, lv, cv, dv, mv⟩).setIfInBounds 6 (.int .i64 s.pg)).setIfInBounds 7 (.int .i64 s.nm) from by unfold cfgO; rw [if_pos h1]; rfl]; exact hset) (by
                have hw := hR.out.own
                have : (cfgO s).lD = (om0 s).lD ∧ (cfgO s).lP = (om0 s).lP ∧ (cfgO s).cD = (om0 s).cD ∧ (cfgO s).cP = (om0 s).cP ∧ (cfgO s).da = (om0 s).da ∧ (cfgO s).mp = (om0 s).mp := by unfold cfgO; rw [if_pos h1]; exact ⟨rfl, rfl, rfl, rfl, rfl, rfl⟩
                obtain ⟨a1, a2, a3, a4, a5, a6⟩ := this
                exact ⟨by show LOv _ _ (cfgO s).lD _ (cfgO s).lP; rw [a1, a2]; exact hw.l, by show LOv _ _ (cfgO s).cD _ (cfgO s).cP; rw [a3, a4]; exact hw.c, by show RW _ _ _ _ _ (cfgO s).da ∧ ∀ x ∈ (cfgO s).da, x < 256; rw [a5]; exact hw.d, by show RV _ _ _ _ _ _ (cfgO s).mp ∧ ∀ x ∈ (cfgO s).mp, x.Ok; rw [a6]; exact hw.p⟩))
              clear hset x6 x7 y6 y7 z6 z7
              go_wp2_with fail
              go_meet
              exact ⟨_, rfl, HFin⟩
            by_cases h2 : s.kd = 2
            · have e1 : (s.kd == 1) = false := by rw [beq_eq_false_iff_ne]; exact h1
              have e2 : (s.kd == 2) = true := by rw [h2]; rfl
              have HF2 := Lib.hid (fun (wS : World) (hS : SBx SB s wS) => hS.cells)
              clear h1
              go_upto_region 10 with fail
              refine region_AU (Z := fun j => false) (S := SBx SB s) (by kernel_rfl) (show SBx SB s _ from hR.out.sx) (fun hHeld => ?_)
              refine AUS_take (by kernel_rfl) rfl (i := 0) (oi := _) (v := ?vw101) rfl (by kernel_rfl) (by kernel_rfl) (by kernel_rfl) (fun _ _ _ h => h) (Or.inl ⟨by rfl, ?hz101⟩) hHeld ?rst101
              case hz101 => (intro wS hSw; clear hSw; go_simp; try with_reducible rfl)
              simp only [Act.put, List.getElem_toArray, List.getElem_cons_zero, List.getElem_cons_succ, List.setIfInBounds_toArray, List.set_cons_zero, List.set_cons_succ]
              refine AUS_take (by kernel_rfl) rfl (i := 1) (oi := _) (v := ?vw102) rfl (by kernel_rfl) (by kernel_rfl) (by kernel_rfl) (fun _ _ _ h => h) (Or.inl ⟨by rfl, ?hz102⟩) hHeld ?rst102
              case hz102 => (intro wS hSw; obtain ⟨x0, x4, x5, x6, x7, x8, x9, x10, x11⟩ := HF2.out wS hSw; clear hSw; go_simp; try with_reducible rfl)
              simp only [Act.put, List.getElem_toArray, List.getElem_cons_zero, List.getElem_cons_succ, List.setIfInBounds_toArray, List.set_cons_zero, List.set_cons_succ]
              refine AUS_take (by kernel_rfl) rfl (i := 2) (oi := _) (v := ?vw103) rfl (by kernel_rfl) (by kernel_rfl) (by kernel_rfl) (fun _ _ _ h => h) (Or.inl ⟨by rfl, ?hz103⟩) hHeld ?rst103
              case hz103 => (intro wS hSw; clear hSw; go_simp; try with_reducible rfl)
              simp only [Act.put, List.getElem_toArray, List.getElem_cons_zero, List.getElem_cons_succ, List.setIfInBounds_toArray, List.set_cons_zero, List.set_cons_succ]
              refine AUS_take (by kernel_rfl) rfl (i := 3) (oi := _) (v := ?vw104) rfl (by kernel_rfl) (by kernel_rfl) (by kernel_rfl) (fun _ _ _ h => h) (Or.inl ⟨by rfl, ?hz104⟩) hHeld ?rst104
              case hz104 => (intro wS hSw; obtain ⟨x0, x4, x5, x6, x7, x8, x9, x10, x11⟩ := HF2.out wS hSw; clear hSw; go_simp; try with_reducible rfl)
              simp only [Act.put, List.getElem_toArray, List.getElem_cons_zero, List.getElem_cons_succ, List.setIfInBounds_toArray, List.set_cons_zero, List.set_cons_succ]
              refine AUS_take (by kernel_rfl) rfl (i := 5) (oi := _) (v := ?vw105) rfl (by kernel_rfl) (by kernel_rfl) (by kernel_rfl) (fun _ _ _ h => h) (Or.inl ⟨by rfl, ?hz105⟩) hHeld ?rst105
              case hz105 => (intro wS hSw; clear hSw; go_simp; try with_reducible rfl)
              simp only [Act.put, List.getElem_toArray, List.getElem_cons_zero, List.getElem_cons_succ, List.setIfInBounds_toArray, List.set_cons_zero, List.set_cons_succ]
              clear hHeld
              have hok := (HP.out.o2 s (List.mem_of_getElem? HG.out.2.2)).below (hI.out.p.1.trans (hR.out.b.mono hI.out.p.1.size))
              obtain ⟨A', n', c', ev', hnc, _, hdl, _, hLR, h256⟩ := hok.d
              rw [HV.out.2.2.1] at ev'
              injection ev' with ev1 ev2 ev3
              subst ev1 ev2 ev3
              obtain ⟨vd, w2, hrun, hrv, hb2⟩ := app_by (w := wc.drew) (A := aD) (c := cD) 33 hdl (by have := (HL.out.2.2 s (List.mem_of_getElem? HG.out.2.2)).1; omega) hnc hLR
              obtain ⟨a3, c3, evd, _⟩ := hrv.form
              rw [hdl] at evd
              subst evd
              have hR2 := hR.out.below ((Below.refl _ wc).drew.trans hb2)
              have hown2 : (⟨cfgO s, lv, cv, ⟨a3, nD, c3⟩, mv⟩ : Ov).Own W.heap.size w2 := by
                have hw := hR2.own
                have : (cfgO s).lD = (om0 s).lD ∧ (cfgO s).lP = (om0 s).lP ∧ (cfgO s).cD = (om0 s).cD ∧ (cfgO s).cP = (om0 s).cP ∧ (cfgO s).da = s.da ∧ (cfgO s).mp = (om0 s).mp := by unfold cfgO; rw [if_neg (by omega), if_pos h2]; exact ⟨rfl, rfl, rfl, rfl, rfl, rfl⟩
                obtain ⟨a1, a2, a3', a4, a5, a6⟩ := this
                have hWs : W.heap.size ≤ wc.heap.size := Nat.le_trans hI.out.p.1.size hR.out.b.size
                exact ⟨by show LOv _ _ (cfgO s).lD _ (cfgO s).lP; rw [a1, a2]; exact hw.l, by show LOv _ _ (cfgO s).cD _ (cfgO s).cP; rw [a3', a4]; exact hw.c, by show RW _ _ _ _ _ (cfgO s).da ∧ ∀ x ∈ (cfgO s).da, x < 256; rw [a5]; exact ⟨hrv.keep fun b cur hb _ => ⟨Nat.le_trans hWs hb, rfl⟩, h256⟩, by show RV _ _ _ _ _ _ (cfgO s).mp ∧ ∀ x ∈ (cfgO s).mp, x.Ok; rw [a6]; exact hw.p⟩
              have HR2 := Lib.hid (And.intro hR2 hown2)
              clear hok hdl hLR h256 hrv hb2 hR2 hown2 hnc
              refine AU_one (i := 4) (o := _) (by kernel_rfl) rfl (fun K hK => ?_)
              refine step_append rfl (.const (.slice none 0 0)) (.tmp 47) 33 33 rfl _ _ _ rfl (show s.dv = _ from HV.out.2.2.1) w2 hrun ?_
              refine hK.out _ _ (fun _ => (show SBx SB s w2 from HR2.out.1.sx)) ?_
              clear hK K hrun
              try simp only [Act.put, List.getElem_toArray, List.getElem_cons_zero, List.getElem_cons_succ, List.setIfInBounds_toArray, List.set_cons_zero, List.set_cons_succ]
              have y6 := HR2.out.1.ocells 6 (.int .i64 0) rfl
              have z6 := HR2.out.1.ofrozen 6
              refine AU_one (i := 6) (o := _) (by kernel_rfl) rfl (fun K hK => ?_)
              go_simp
              have hs6 := heap_setCell_same w2 O 6 _ 44 (.int .i64 s.pg) HR2.out.1.ox
              have hne : SB ≠ O := HR2.out.1.n.2.2
              have HS6 := Lib.hid (show SBx SB s (w2.setCell ⟨O, 6, none⟩ (.int .i64 s.pg)) ∧ (w2.setCell ⟨O, 6, none⟩ (.int .i64 s.pg)).heap[O]? = _ from ⟨(heap_setCell_other _ _ _ _ hne).trans HR2.out.1.sx, hs6⟩)
              clear y6 z6 hs6 hne
              refine hK.out _ _ (fun _ => HS6.out.1) ?_
              clear hK K
              try simp only [Act.put, List.getElem_toArray, List.getElem_cons_zero, List.getElem_cons_succ, List.setIfInBounds_toArray, List.set_cons_zero, List.set_cons_succ]
              have hHeld : SBx SB s (w2.setCell ⟨O, 6, none⟩ (.int .i64 s.pg)) := HS6.out.1
              refine AUS_take (by kernel_rfl) rfl (i := 7) (oi := _) (v := ?vw106) rfl (by kernel_rfl) (by kernel_rfl) (by kernel_rfl) (fun _ _ _ h => h) (Or.inl ⟨by rfl, ?hz106⟩) hHeld ?rst106
              case hz106 => (intro wS hSw; clear hSw; go_simp; try with_reducible rfl)
              simp only [Act.put, List.getElem_toArray, List.getElem_cons_zero, List.getElem_cons_succ, List.setIfInBounds_toArray, List.set_cons_zero, List.set_cons_succ]
              clear hHeld
              have y8 : (w2.setCell ⟨O, 6, none⟩ (.int .i64 s.pg)).cell? ⟨O, 8, none⟩ = (arO ⟨om0 s, lv, cv, dv, mv⟩)[8]? := by rw [cell_of_row _ _ _ _ _ (0, 0) HS6.out.2]; rfl
              have y8 : (w2.setCell ⟨O, 6, none⟩ (.int .i64 s.pg)).cell? ⟨O, 8, none⟩ = some dv.v := y8
              have z8 : (w2.setCell ⟨O, 6, none⟩ (.int .i64 s.pg)).frozen? ⟨O, 8, none⟩ = false := frozen_of_row _ _ _ _ _ HS6.out.2
              refine AU_one (i := 8) (o := _) (by kernel_rfl) rfl (fun K hK => ?_)
              go_simp
              have hs8 := heap_setCell_same _ O 8 _ 44 (.slice a3 nD c3) HS6.out.2
              have HFin := Lib.hid (HR2.out.1.step (w' := (w2.setCell ⟨O, 6, none⟩ (.int .i64 s.pg)).setCell ⟨O, 8, none⟩ (.slice a3 nD c3)) (o' := ⟨cfgO s, lv, cv, ⟨a3, nD, c3⟩, mv⟩) ((Turn.set _ O 6 (.int .i64 s.pg)).nx (Turn.set _ O 8 (.slice a3 nD c3))) (by rw [show arO ⟨cfgO s, lv, cv, ⟨a3, nD, c3⟩, mv⟩ = ((arO ⟨om0 s, lv, cv, dv, mv⟩).setIfInBounds 6 (.int .i64 s.pg)).setIfInBounds 8 (.slice a3 nD c3) from by unfold cfgO; rw [if_neg (by omega), if_pos h2]; rfl]; exact hs8) HR2.out.2)
              clear y8 z8 hs8
              refine hK.out _ _ (fun _ => HFin.out.sx) ?_
              clear hK K
              try simp only [Act.put, List.getElem_toArray, List.getElem_cons_zero, List.getElem_cons_succ, List.setIfInBounds_toArray, List.set_cons_zero, List.set_cons_succ]
              refine AU_done (by kernel_rfl) ?_ _
              simp only [OnlyN]
              go_wp2_with fail
              go_meet
              exact ⟨_, rfl, HFin⟩
            by_cases h4 : s.kd = 4
            · have e1 : (s.kd == 1) = false := by rw [beq_eq_false_iff_ne]; exact h1
              have e2 : (s.kd == 2) = false := by rw [beq_eq_false_iff_ne]; exact h2
              have e4 : (s.kd == 4) = true := by rw [h4]; rfl
              obtain ⟨-, -, -, -, -, -, x9, -, -⟩ := hR.out.cells
              have hok := (HP.out.o2 s (List.mem_of_getElem? HG.out.2.2)).below (hI.out.p.1.trans (hR.out.b.mono hI.out.p.1.size))
              obtain ⟨A', n', c', ev', hnc, _, hdl, _, hLV, hmo⟩ := hok.m
              rw [HV.out.2.2.2] at ev' x9
              injection ev' with ev1 ev2 ev3
              subst ev1 ev2 ev3
              obtain ⟨vd, w2, hrun, hrv, hb2⟩ := app_mp (w := wc) (A := aM) (c := cM) 42 hdl (by have := (HL.out.2.2 s (List.mem_of_getElem? HG.out.2.2)).2; omega) hnc hLV
              obtain ⟨a3, c3, evd, _⟩ := hrv.form
              rw [hdl] at evd
              subst evd
              have hR2 := hR.out.below hb2
              have hown2 : (⟨cfgO s, lv, cv, dv, ⟨a3, nM, c3⟩⟩ : Ov).Own W.heap.size w2 := by
                have hw := hR2.own
                have : (cfgO s).lD = (om0 s).lD ∧ (cfgO s).lP = (om0 s).lP ∧ (cfgO s).cD = (om0 s).cD ∧ (cfgO s).cP = (om0 s).cP ∧ (cfgO s).da = (om0 s).da ∧ (cfgO s).mp = s.mp := by unfold cfgO; rw [if_neg (by omega), if_neg (by omega), if_pos h4]; exact ⟨rfl, rfl, rfl, rfl, rfl, rfl⟩
                obtain ⟨a1, a2, a3', a4, a5, a6⟩ := this
                have hWs : W.heap.size ≤ wc.heap.size := Nat.le_trans hI.out.p.1.size hR.out.b.size
                exact ⟨by show LOv _ _ (cfgO s).lD _ (cfgO s).lP; rw [a1, a2]; exact hw.l, by show LOv _ _ (cfgO s).cD _ (cfgO s).cP; rw [a3', a4]; exact hw.c, by show RW _ _ _ _ _ (cfgO s).da ∧ ∀ x ∈ (cfgO s).da, x < 256; rw [a5]; exact hw.d, by show RV _ _ _ _ _ _ (cfgO s).mp ∧ ∀ x ∈ (cfgO s).mp, x.Ok; rw [a6]; exact ⟨hrv.keep fun b cur hb _ => ⟨Nat.le_trans hWs hb, rfl⟩, hmo⟩⟩
              have y9 := hR2.ocells 9 mv.v rfl
              have z9 := hR2.ofrozen 9
              have hs9 := heap_setCell_same _ O 9 _ 44 (.slice a3 nM c3) hR2.ox
              have HFin := Lib.hid (hR2.step (w' := w2.setCell ⟨O, 9, none⟩ (.slice a3 nM c3)) (o' := ⟨cfgO s, lv, cv, dv, ⟨a3, nM, c3⟩⟩) (Turn.set _ O 9 (.slice a3 nM c3)) (by rw [show arO ⟨cfgO s, lv, cv, dv, ⟨a3, nM, c3⟩⟩ = (arO ⟨om0 s, lv, cv, dv, mv⟩).setIfInBounds 9 (.slice a3 nM c3) from by unfold cfgO; rw [if_neg (by omega), if_neg (by omega), if_pos h4]; rfl]; exact hs9) hown2)
              have HR := Lib.hid hrun
              clear hok hdl hLV hmo hrv hb2 hR2 hown2 hnc hrun hs9 h1 h2 h4
              go_upto_region 12 with fail
              go_wp2_with (at_builtin; refine wpList_append_by rfl (.const (.slice none 0 0)) (.tmp 54) _ _ rfl _ _ _ rfl rfl w2 HR.out ?_)
              clear HR x9
              go_wp2_with fail
              go_meet
              exact ⟨_, rfl, HFin⟩
            by_cases h35 : s.kd = 3 ∨ s.kd = 5
            · have e1 : (s.kd == 1) = false := by rw [beq_eq_false_iff_ne]; exact h1
              have e2 : (s.kd == 2) = false := by rw [beq_eq_false_iff_ne]; exact h2
              have e4 : (s.kd == 4) = false := by rw [beq_eq_false_iff_ne]; exact h4
              have HF2 := Lib.hid (fun (wS : World) (hS : SBx SB s wS) => hS.cells)
              have H35 := Lib.hid (And.intro h1 (And.intro h2 (And.intro h4 h35)))
              have hok := (HP.out.o2 s (List.mem_of_getElem? HG.out.2.2)).below (hI.out.p.1.trans (hR.out.b.mono hI.out.p.1.size))
              have HOK := Lib.hid hok
              clear h1 h2 h4 hok
              by_cases h3 : s.kd = 3
              · have e3 : (s.kd == 3) = true := by rw [h3]; rfl
                clear h3 h35
                go_upto_region 15 with fail
                refine region_AU (Z := fun j => false) (S := SBx SB s) (by kernel_rfl) (show SBx SB s _ from hR.out.sx) (fun hHeld => ?_)
                refine AUS_take (by kernel_rfl) rfl (i := 0) (oi := _) (v := ?vw107) rfl (by kernel_rfl) (by kernel_rfl) (by kernel_rfl) (fun _ _ _ h => h) (Or.inl ⟨by rfl, ?hz107⟩) hHeld ?rst107
                case hz107 => (intro wS hSw; clear hSw; go_simp; try with_reducible rfl)
                simp only [Act.put, List.getElem_toArray, List.getElem_cons_zero, List.getElem_cons_succ, List.setIfInBounds_toArray, List.set_cons_zero, List.set_cons_succ]
                refine AUS_take (by kernel_rfl) rfl (i := 1) (oi := _) (v := ?vw108) rfl (by kernel_rfl) (by kernel_rfl) (by kernel_rfl) (fun _ _ _ h => h) (Or.inl ⟨by rfl, ?hz108⟩) hHeld ?rst108
                case hz108 => (intro wS hSw; obtain ⟨x0, x4, x5, x6, x7, x8, x9, x10, x11⟩ := HF2.out wS hSw; clear hSw; go_simp; try with_reducible rfl)
                simp only [Act.put, List.getElem_toArray, List.getElem_cons_zero, List.getElem_cons_succ, List.setIfInBounds_toArray, List.set_cons_zero, List.set_cons_succ]
                refine AUS_take (by kernel_rfl) rfl (i := 3) (oi := _) (v := ?vw109) rfl (by kernel_rfl) (by kernel_rfl) (by kernel_rfl) (fun _ _ _ h => h) (Or.inl ⟨by rfl, ?hz109⟩) hHeld ?rst109
                case hz109 => (intro wS hSw; clear hSw; go_simp; try with_reducible rfl)
                simp only [Act.put, List.getElem_toArray, List.getElem_cons_zero, List.getElem_cons_succ, List.setIfInBounds_toArray, List.set_cons_zero, List.set_cons_succ]
                refine AUS_take (by kernel_rfl) rfl (i := 4) (oi := _) (v := ?vw110) rfl (by kernel_rfl) (by kernel_rfl) (by kernel_rfl) (fun _ _ _ h => h) (Or.inl ⟨by rfl, ?hz110⟩) hHeld ?rst110
                case hz110 => (intro wS hSw; obtain ⟨x0, x4, x5, x6, x7, x8, x9, x10, x11⟩ := HF2.out wS hSw; clear hSw; go_simp; try with_reducible rfl)
                simp only [Act.put, List.getElem_toArray, List.getElem_cons_zero, List.getElem_cons_succ, List.setIfInBounds_toArray, List.set_cons_zero, List.set_cons_succ]
                refine AUS_take (by kernel_rfl) rfl (i := 5) (oi := _) (v := ?vw111) rfl (by kernel_rfl) (by kernel_rfl) (by kernel_rfl) (fun _ _ _ h => h) (Or.inl ⟨by rfl, ?hz111⟩) hHeld ?rst111
                case hz111 => (intro wS hSw; clear hSw; go_simp; try with_reducible rfl)
                simp only [Act.put, List.getElem_toArray, List.getElem_cons_zero, List.getElem_cons_succ, List.setIfInBounds_toArray, List.set_cons_zero, List.set_cons_succ]
                refine AUS_take (by kernel_rfl) rfl (i := 6) (oi := _) (v := ?vw112) rfl (by kernel_rfl) (by kernel_rfl) (by kernel_rfl) (fun _ _ _ h => h) (Or.inl ⟨by rfl, ?hz112⟩) hHeld ?rst112
                case hz112 => (intro wS hSw; obtain ⟨x0, x4, x5, x6, x7, x8, x9, x10, x11⟩ := HF2.out wS hSw; clear hSw; go_simp; try with_reducible rfl)
                simp only [Act.put, List.getElem_toArray, List.getElem_cons_zero, List.getElem_cons_succ, List.setIfInBounds_toArray, List.set_cons_zero, List.set_cons_succ]
                clear hHeld
                have CC := Lib.hid ((seed_is s.cS s.cv s.cs wc.drew (HOK.out.c.below (Below.refl _ wc).drew)).mono fun e w' h => lov_of (B := W.heap.size) h (Nat.le_trans hI.out.p.1.size hR.out.b.size))
                refine AU_one (i := 2) (o := _) (by kernel_rfl) rfl (fun K hK => ?_)
                go_simp
                refine CC.out.mono ?_
                clear CC
                rintro e w2 ⟨aZ, nZ, cZ, rfl, hlz, hbz⟩
                have hR2 := hR.out.below ((Below.refl _ wc).drew.trans hbz)
                have hown2 : (⟨cfgO s, lv, ⟨aZ, nZ, cZ⟩, dv, mv⟩ : Ov).Own W.heap.size w2 := by
                  have hw := hR2.own
                  have : (cfgO s).lD = (om0 s).lD ∧ (cfgO s).lP = (om0 s).lP ∧ (cfgO s).cD = Lab.seedD s.cS ∧ (cfgO s).cP = Lab.seedP s.cS s.cs ∧ (cfgO s).da = (om0 s).da ∧ (cfgO s).mp = (om0 s).mp := by unfold cfgO; rw [if_neg H35.out.1, if_neg H35.out.2.1, if_neg H35.out.2.2.1, if_pos H35.out.2.2.2]; exact ⟨rfl, rfl, rfl, rfl, rfl, rfl⟩
                  obtain ⟨a1, a2, a3', a4, a5, a6⟩ := this
                  exact ⟨by show LOv _ _ (cfgO s).lD _ (cfgO s).lP; rw [a1, a2]; exact hw.l, by show LOv _ _ (cfgO s).cD _ (cfgO s).cP; rw [a3', a4]; exact hlz, by show RW _ _ _ _ _ (cfgO s).da ∧ ∀ x ∈ (cfgO s).da, x < 256; rw [a5]; exact hw.d, by show RV _ _ _ _ _ _ (cfgO s).mp ∧ ∀ x ∈ (cfgO s).mp, x.Ok; rw [a6]; exact hw.p⟩
                have HR2 := Lib.hid (And.intro hR2 hown2)
                clear hlz hbz hR2 hown2
                refine hK.out _ _ (fun _ => (show SBx SB s w2 from HR2.out.1.sx)) ?_
                clear hK K
                try simp only [Act.put, List.getElem_toArray, List.getElem_cons_zero, List.getElem_cons_succ, List.setIfInBounds_toArray, List.set_cons_zero, List.set_cons_succ]
                have hHeld : SBx SB s w2 := HR2.out.1.sx
                refine AUS_take (by kernel_rfl) rfl (i := 7) (oi := _) (v := ?vw113) rfl (by kernel_rfl) (by kernel_rfl) (by kernel_rfl) (fun _ _ _ h => h) (Or.inl ⟨by rfl, ?hz113⟩) hHeld ?rst113
                case hz113 => (intro wS hSw; clear hSw; go_simp; try with_reducible rfl)
                simp only [Act.put, List.getElem_toArray, List.getElem_cons_zero, List.getElem_cons_succ, List.setIfInBounds_toArray, List.set_cons_zero, List.set_cons_succ]
                clear hHeld
                have y4 := HR2.out.1.ocells 4 (.int .i64 0) rfl
                have y5 := HR2.out.1.ocells 5 cv.v rfl
                have z4 := HR2.out.1.ofrozen 4
                have z5 := HR2.out.1.ofrozen 5
                have hne : SB ≠ O := HR2.out.1.n.2.2
                refine AU_one (i := 8) (o := _) (by kernel_rfl) rfl (fun K hK => ?_)
                go_simp
                have hs4 := heap_setCell_same w2 O 4 _ 44 (.int .i64 (Lab.seedD s.cS)) HR2.out.1.ox
                have hs5 := heap_setCell_same _ O 5 _ 44 (.slice aZ nZ cZ) hs4
                have hx5 := (heap_setCell_other (w2.setCell ⟨O, 4, none⟩ (.int .i64 (Lab.seedD s.cS))) ⟨O, 5, none⟩ SB (.slice aZ nZ cZ) hne).trans ((heap_setCell_other w2 ⟨O, 4, none⟩ SB (.int .i64 (Lab.seedD s.cS)) hne).trans HR2.out.1.sx)
                obtain ⟨w8, e8⟩ : ∃ w8, (w2.setCell ⟨O, 4, none⟩ (.int .i64 (Lab.seedD s.cS))).setCell ⟨O, 5, none⟩ (.slice aZ nZ cZ) = w8 := ⟨_, rfl⟩
                rw [e8] at hs5 hx5 ⊢
                have ht8 : Turn [O] w2 w8 := by rw [← e8]; exact (Turn.set _ O 4 _).nx (Turn.set _ O 5 _)
                have H8 := Lib.hid (And.intro hs5 (And.intro hx5 ht8))
                clear y4 y5 z4 z5 hs4 hs5 hx5 e8 ht8
                refine hK.out _ _ (fun _ => H8.out.2.1) ?_
                clear hK K
                try simp only [Act.put, List.getElem_toArray, List.getElem_cons_zero, List.getElem_cons_succ, List.setIfInBounds_toArray, List.set_cons_zero, List.set_cons_succ]
                have hHeld : SBx SB s w8 := H8.out.2.1
                refine AUS_take (by kernel_rfl) rfl (i := 9) (oi := _) (v := ?vw114) rfl (by kernel_rfl) (by kernel_rfl) (by kernel_rfl) (fun _ _ _ h => h) (Or.inl ⟨by rfl, ?hz114⟩) hHeld ?rst114
                case hz114 => (intro wS hSw; clear hSw; go_simp; try with_reducible rfl)
                simp only [Act.put, List.getElem_toArray, List.getElem_cons_zero, List.getElem_cons_succ, List.setIfInBounds_toArray, List.set_cons_zero, List.set_cons_succ]
                clear hHeld
                have y10 : w8.cell? ⟨O, 10, none⟩ = some (.int .i64 0) := by rw [cell_of_row _ _ _ _ _ (0, 0) H8.out.1]; rfl
                have z10 : w8.frozen? ⟨O, 10, none⟩ = false := frozen_of_row _ _ _ _ _ H8.out.1
                refine AU_one (i := 10) (o := _) (by kernel_rfl) rfl (fun K hK => ?_)
                go_simp
                have hs10 := heap_setCell_same w8 O 10 _ 44 (.int .i64 s.sp) H8.out.1
                have hx10 := (heap_setCell_other w8 ⟨O, 10, none⟩ SB (.int .i64 s.sp) hne).trans H8.out.2.1
                have H10 := Lib.hid (And.intro hs10 hx10)
                clear y10 z10 hs10 hx10
                refine hK.out _ _ (fun _ => H10.out.2) ?_
                clear hK K
                try simp only [Act.put, List.getElem_toArray, List.getElem_cons_zero, List.getElem_cons_succ, List.setIfInBounds_toArray, List.set_cons_zero, List.set_cons_succ]
                have hHeld : SBx SB s (w8.setCell ⟨O, 10, none⟩ (.int .i64 s.sp)) := H10.out.2
                refine AUS_take (by kernel_rfl) rfl (i := 11) (oi := _) (v := ?vw115) rfl (by kernel_rfl) (by kernel_rfl) (by kernel_rfl) (fun _ _ _ h => h) (Or.inl ⟨by rfl, ?hz115⟩) hHeld ?rst115
                case hz115 => (intro wS hSw; clear hSw; go_simp; try with_reducible rfl)
                simp only [Act.put, List.getElem_toArray, List.getElem_cons_zero, List.getElem_cons_succ, List.setIfInBounds_toArray, List.set_cons_zero, List.set_cons_succ]
                clear hHeld
                have y11 : (w8.setCell ⟨O, 10, none⟩ (.int .i64 s.sp)).cell? ⟨O, 11, none⟩ = some (.int .i64 0) := by rw [cell_of_row _ _ _ _ _ (0, 0) H10.out.1]; rfl
                have z11 : (w8.setCell ⟨O, 10, none⟩ (.int .i64 s.sp)).frozen? ⟨O, 11, none⟩ = false := frozen_of_row _ _ _ _ _ H10.out.1
                refine AU_one (i := 12) (o := _) (by kernel_rfl) rfl (fun K hK => ?_)
                go_simp
                have hs11 := heap_setCell_same _ O 11 _ 44 (.int .i64 s.pc) H10.out.1
                have HFin := Lib.hid (HR2.out.1.step (w' := (w8.setCell ⟨O, 10, none⟩ (.int .i64 s.sp)).setCell ⟨O, 11, none⟩ (.int .i64 s.pc)) (o' := ⟨cfgO s, lv, ⟨aZ, nZ, cZ⟩, dv, mv⟩) (H8.out.2.2.nx ((Turn.set _ O 10 _).nx (Turn.set _ O 11 _))) (by rw [show arO ⟨cfgO s, lv, ⟨aZ, nZ, cZ⟩, dv, mv⟩ = ((((arO ⟨om0 s, lv, cv, dv, mv⟩).setIfInBounds 4 (.int .i64 (Lab.seedD s.cS))).setIfInBounds 5 (.slice aZ nZ cZ)).setIfInBounds 10 (.int .i64 s.sp)).setIfInBounds 11 (.int .i64 s.pc) from by unfold cfgO; rw [if_neg H35.out.1, if_neg H35.out.2.1, if_neg H35.out.2.2.1, if_pos H35.out.2.2.2]; rfl]; exact hs11) HR2.out.2)
                clear y11 z11 hs11
                refine hK.out _ _ (fun _ => HFin.out.sx) ?_
                clear hK K
                try simp only [Act.put, List.getElem_toArray, List.getElem_cons_zero, List.getElem_cons_succ, List.setIfInBounds_toArray, List.set_cons_zero, List.set_cons_succ]
                refine AU_done (by kernel_rfl) ?_ _
                simp only [OnlyN]
                go_wp2_with fail
                go_meet
                exact ⟨_, rfl, HFin⟩
              · have e3 : (s.kd == 3) = false := by rw [beq_eq_false_iff_ne]; exact h3
                have e5 : (s.kd == 5) = true := by rw [h35.resolve_left h3]; rfl
                clear h3 h35
                go_upto_region 15 with fail
                refine region_AU (Z := fun j => false) (S := SBx SB s) (by kernel_rfl) (show SBx SB s _ from hR.out.sx) (fun hHeld => ?_)
                refine AUS_take (by kernel_rfl) rfl (i := 0) (oi := _) (v := ?vw116) rfl (by kernel_rfl) (by kernel_rfl) (by kernel_rfl) (fun _ _ _ h => h) (Or.inl ⟨by rfl, ?hz116⟩) hHeld ?rst116
                case hz116 => (intro wS hSw; clear hSw; go_simp; try with_reducible rfl)
                simp only [Act.put, List.getElem_toArray, List.getElem_cons_zero, List.getElem_cons_succ, List.setIfInBounds_toArray, List.set_cons_zero, List.set_cons_succ]
                refine AUS_take (by kernel_rfl) rfl (i := 1) (oi := _) (v := ?vw117) rfl (by kernel_rfl) (by kernel_rfl) (by kernel_rfl) (fun _ _ _ h => h) (Or.inl ⟨by rfl, ?hz117⟩) hHeld ?rst117
                case hz117 => (intro wS hSw; obtain ⟨x0, x4, x5, x6, x7, x8, x9, x10, x11⟩ := HF2.out wS hSw; clear hSw; go_simp; try with_reducible rfl)
                simp only [Act.put, List.getElem_toArray, List.getElem_cons_zero, List.getElem_cons_succ, List.setIfInBounds_toArray, List.set_cons_zero, List.set_cons_succ]
                refine AUS_take (by kernel_rfl) rfl (i := 3) (oi := _) (v := ?vw118) rfl (by kernel_rfl) (by kernel_rfl) (by kernel_rfl) (fun _ _ _ h => h) (Or.inl ⟨by rfl, ?hz118⟩) hHeld ?rst118
                case hz118 => (intro wS hSw; clear hSw; go_simp; try with_reducible rfl)
                simp only [Act.put, List.getElem_toArray, List.getElem_cons_zero, List.getElem_cons_succ, List.setIfInBounds_toArray, List.set_cons_zero, List.set_cons_succ]
                refine AUS_take (by kernel_rfl) rfl (i := 4) (oi := _) (v := ?vw119) rfl (by kernel_rfl) (by kernel_rfl) (by kernel_rfl) (fun _ _ _ h => h) (Or.inl ⟨by rfl, ?hz119⟩) hHeld ?rst119
                case hz119 => (intro wS hSw; obtain ⟨x0, x4, x5, x6, x7, x8, x9, x10, x11⟩ := HF2.out wS hSw; clear hSw; go_simp; try with_reducible rfl)
                simp only [Act.put, List.getElem_toArray, List.getElem_cons_zero, List.getElem_cons_succ, List.setIfInBounds_toArray, List.set_cons_zero, List.set_cons_succ]
                refine AUS_take (by kernel_rfl) rfl (i := 5) (oi := _) (v := ?vw120) rfl (by kernel_rfl) (by kernel_rfl) (by kernel_rfl) (fun _ _ _ h => h) (Or.inl ⟨by rfl, ?hz120⟩) hHeld ?rst120
                case hz120 => (intro wS hSw; clear hSw; go_simp; try with_reducible rfl)
                simp only [Act.put, List.getElem_toArray, List.getElem_cons_zero, List.getElem_cons_succ, List.setIfInBounds_toArray, List.set_cons_zero, List.set_cons_succ]
                refine AUS_take (by kernel_rfl) rfl (i := 6) (oi := _) (v := ?vw121) rfl (by kernel_rfl) (by kernel_rfl) (by kernel_rfl) (fun _ _ _ h => h) (Or.inl ⟨by rfl, ?hz121⟩) hHeld ?rst121
                case hz121 => (intro wS hSw; obtain ⟨x0, x4, x5, x6, x7, x8, x9, x10, x11⟩ := HF2.out wS hSw; clear hSw; go_simp; try with_reducible rfl)
                simp only [Act.put, List.getElem_toArray, List.getElem_cons_zero, List.getElem_cons_succ, List.setIfInBounds_toArray, List.set_cons_zero, List.set_cons_succ]
                clear hHeld
                have CC := Lib.hid ((seed_is s.cS s.cv s.cs wc.drew (HOK.out.c.below (Below.refl _ wc).drew)).mono fun e w' h => lov_of (B := W.heap.size) h (Nat.le_trans hI.out.p.1.size hR.out.b.size))
                refine AU_one (i := 2) (o := _) (by kernel_rfl) rfl (fun K hK => ?_)
                go_simp
                refine CC.out.mono ?_
                clear CC
                rintro e w2 ⟨aZ, nZ, cZ, rfl, hlz, hbz⟩
                have hR2 := hR.out.below ((Below.refl _ wc).drew.trans hbz)
                have hown2 : (⟨cfgO s, lv, ⟨aZ, nZ, cZ⟩, dv, mv⟩ : Ov).Own W.heap.size w2 := by
                  have hw := hR2.own
                  have : (cfgO s).lD = (om0 s).lD ∧ (cfgO s).lP = (om0 s).lP ∧ (cfgO s).cD = Lab.seedD s.cS ∧ (cfgO s).cP = Lab.seedP s.cS s.cs ∧ (cfgO s).da = (om0 s).da ∧ (cfgO s).mp = (om0 s).mp := by unfold cfgO; rw [if_neg H35.out.1, if_neg H35.out.2.1, if_neg H35.out.2.2.1, if_pos H35.out.2.2.2]; exact ⟨rfl, rfl, rfl, rfl, rfl, rfl⟩
                  obtain ⟨a1, a2, a3', a4, a5, a6⟩ := this
                  exact ⟨by show LOv _ _ (cfgO s).lD _ (cfgO s).lP; rw [a1, a2]; exact hw.l, by show LOv _ _ (cfgO s).cD _ (cfgO s).cP; rw [a3', a4]; exact hlz, by show RW _ _ _ _ _ (cfgO s).da ∧ ∀ x ∈ (cfgO s).da, x < 256; rw [a5]; exact hw.d, by show RV _ _ _ _ _ _ (cfgO s).mp ∧ ∀ x ∈ (cfgO s).mp, x.Ok; rw [a6]; exact hw.p⟩
                have HR2 := Lib.hid (And.intro hR2 hown2)
                clear hlz hbz hR2 hown2
                refine hK.out _ _ (fun _ => (show SBx SB s w2 from HR2.out.1.sx)) ?_
                clear hK K
                try simp only [Act.put, List.getElem_toArray, List.getElem_cons_zero, List.getElem_cons_succ, List.setIfInBounds_toArray, List.set_cons_zero, List.set_cons_succ]
                have hHeld : SBx SB s w2 := HR2.out.1.sx
                refine AUS_take (by kernel_rfl) rfl (i := 7) (oi := _) (v := ?vw122) rfl (by kernel_rfl) (by kernel_rfl) (by kernel_rfl) (fun _ _ _ h => h) (Or.inl ⟨by rfl, ?hz122⟩) hHeld ?rst122
                case hz122 => (intro wS hSw; clear hSw; go_simp; try with_reducible rfl)
                simp only [Act.put, List.getElem_toArray, List.getElem_cons_zero, List.getElem_cons_succ, List.setIfInBounds_toArray, List.set_cons_zero, List.set_cons_succ]
                clear hHeld
                have y4 := HR2.out.1.ocells 4 (.int .i64 0) rfl
                have y5 := HR2.out.1.ocells 5 cv.v rfl
                have z4 := HR2.out.1.ofrozen 4
                have z5 := HR2.out.1.ofrozen 5
                have hne : SB ≠ O := HR2.out.1.n.2.2
                refine AU_one (i := 8) (o := _) (by kernel_rfl) rfl (fun K hK => ?_)
                go_simp
                have hs4 := heap_setCell_same w2 O 4 _ 44 (.int .i64 (Lab.seedD s.cS)) HR2.out.1.ox
                have hs5 := heap_setCell_same _ O 5 _ 44 (.slice aZ nZ cZ) hs4
                have hx5 := (heap_setCell_other (w2.setCell ⟨O, 4, none⟩ (.int .i64 (Lab.seedD s.cS))) ⟨O, 5, none⟩ SB (.slice aZ nZ cZ) hne).trans ((heap_setCell_other w2 ⟨O, 4, none⟩ SB (.int .i64 (Lab.seedD s.cS)) hne).trans HR2.out.1.sx)
                obtain ⟨w8, e8⟩ : ∃ w8, (w2.setCell ⟨O, 4, none⟩ (.int .i64 (Lab.seedD s.cS))).setCell ⟨O, 5, none⟩ (.slice aZ nZ cZ) = w8 := ⟨_, rfl⟩
                rw [e8] at hs5 hx5 ⊢
                have ht8 : Turn [O] w2 w8 := by rw [← e8]; exact (Turn.set _ O 4 _).nx (Turn.set _ O 5 _)
                have H8 := Lib.hid (And.intro hs5 (And.intro hx5 ht8))
                clear y4 y5 z4 z5 hs4 hs5 hx5 e8 ht8
                refine hK.out _ _ (fun _ => H8.out.2.1) ?_
                clear hK K
                try simp only [Act.put, List.getElem_toArray, List.getElem_cons_zero, List.getElem_cons_succ, List.setIfInBounds_toArray, List.set_cons_zero, List.set_cons_succ]
                have hHeld : SBx SB s w8 := H8.out.2.1
                refine AUS_take (by kernel_rfl) rfl (i := 9) (oi := _) (v := ?vw123) rfl (by kernel_rfl) (by kernel_rfl) (by kernel_rfl) (fun _ _ _ h => h) (Or.inl ⟨by rfl, ?hz123⟩) hHeld ?rst123
                case hz123 => (intro wS hSw; clear hSw; go_simp; try with_reducible rfl)
                simp only [Act.put, List.getElem_toArray, List.getElem_cons_zero, List.getElem_cons_succ, List.setIfInBounds_toArray, List.set_cons_zero, List.set_cons_succ]
                clear hHeld
                have y10 : w8.cell? ⟨O, 10, none⟩ = some (.int .i64 0) := by rw [cell_of_row _ _ _ _ _ (0, 0) H8.out.1]; rfl
                have z10 : w8.frozen? ⟨O, 10, none⟩ = false := frozen_of_row _ _ _ _ _ H8.out.1
                refine AU_one (i := 10) (o := _) (by kernel_rfl) rfl (fun K hK => ?_)
                go_simp
                have hs10 := heap_setCell_same w8 O 10 _ 44 (.int .i64 s.sp) H8.out.1
                have hx10 := (heap_setCell_other w8 ⟨O, 10, none⟩ SB (.int .i64 s.sp) hne).trans H8.out.2.1
                have H10 := Lib.hid (And.intro hs10 hx10)
                clear y10 z10 hs10 hx10
                refine hK.out _ _ (fun _ => H10.out.2) ?_
                clear hK K
                try simp only [Act.put, List.getElem_toArray, List.getElem_cons_zero, List.getElem_cons_succ, List.setIfInBounds_toArray, List.set_cons_zero, List.set_cons_succ]
                have hHeld : SBx SB s (w8.setCell ⟨O, 10, none⟩ (.int .i64 s.sp)) := H10.out.2
                refine AUS_take (by kernel_rfl) rfl (i := 11) (oi := _) (v := ?vw124) rfl (by kernel_rfl) (by kernel_rfl) (by kernel_rfl) (fun _ _ _ h => h) (Or.inl ⟨by rfl, ?hz124⟩) hHeld ?rst124
                case hz124 => (intro wS hSw; clear hSw; go_simp; try with_reducible rfl)
                simp only [Act.put, List.getElem_toArray, List.getElem_cons_zero, List.getElem_cons_succ, List.setIfInBounds_toArray, List.set_cons_zero, List.set_cons_succ]
                clear hHeld
                have y11 : (w8.setCell ⟨O, 10, none⟩ (.int .i64 s.sp)).cell? ⟨O, 11, none⟩ = some (.int .i64 0) := by rw [cell_of_row _ _ _ _ _ (0, 0) H10.out.1]; rfl
                have z11 : (w8.setCell ⟨O, 10, none⟩ (.int .i64 s.sp)).frozen? ⟨O, 11, none⟩ = false := frozen_of_row _ _ _ _ _ H10.out.1
                refine AU_one (i := 12) (o := _) (by kernel_rfl) rfl (fun K hK => ?_)
                go_simp
                have hs11 := heap_setCell_same _ O 11 _ 44 (.int .i64 s.pc) H10.out.1
                have HFin := Lib.hid (HR2.out.1.step (w' := (w8.setCell ⟨O, 10, none⟩ (.int .i64 s.sp)).setCell ⟨O, 11, none⟩ (.int .i64 s.pc)) (o' := ⟨cfgO s, lv, ⟨aZ, nZ, cZ⟩, dv, mv⟩) (H8.out.2.2.nx ((Turn.set _ O 10 _).nx (Turn.set _ O 11 _))) (by rw [show arO ⟨cfgO s, lv, ⟨aZ, nZ, cZ⟩, dv, mv⟩ = ((((arO ⟨om0 s, lv, cv, dv, mv⟩).setIfInBounds 4 (.int .i64 (Lab.seedD s.cS))).setIfInBounds 5 (.slice aZ nZ cZ)).setIfInBounds 10 (.int .i64 s.sp)).setIfInBounds 11 (.int .i64 s.pc) from by unfold cfgO; rw [if_neg H35.out.1, if_neg H35.out.2.1, if_neg H35.out.2.2.1, if_pos H35.out.2.2.2]; rfl]; exact hs11) HR2.out.2)
                clear y11 z11 hs11
                refine hK.out _ _ (fun _ => HFin.out.sx) ?_
                clear hK K
                try simp only [Act.put, List.getElem_toArray, List.getElem_cons_zero, List.getElem_cons_succ, List.setIfInBounds_toArray, List.set_cons_zero, List.set_cons_succ]
                refine AU_done (by kernel_rfl) ?_ _
                simp only [OnlyN]
                go_wp2_with fail
                go_meet
                exact ⟨_, rfl, HFin⟩
            · have e1 : (s.kd == 1) = false := by rw [beq_eq_false_iff_ne]; exact h1
              have e2 : (s.kd == 2) = false := by rw [beq_eq_false_iff_ne]; exact h2
              have e4 : (s.kd == 4) = false := by rw [beq_eq_false_iff_ne]; exact h4
              have e3 : (s.kd == 3) = false := by rw [beq_eq_false_iff_ne]; exact fun h => h35 (.inl h)
              have e5 : (s.kd == 5) = false := by rw [beq_eq_false_iff_ne]; exact fun h => h35 (.inr h)
              have hcf : om0 s = cfgO s := by unfold cfgO; rw [if_neg h1, if_neg h2, if_neg h4, if_neg h35]; rfl
              have HC := Lib.hid hcf
              clear h1 h2 h4 h35 hcf
              go_wp2_with fail
              go_meet
              exact ⟨_, HC.out, hR⟩
          case rest =>
            clear hR
            obtain ⟨o, hom, hR⟩ := hcut
            have hcs := hI.out.below hR.out.b
            obtain ⟨vs, vo, ovs, k1, k2, k3, k4, k5⟩ := hcs.c
            have hlen : ovs.length = k := by
              have h1 := congrArg List.length k4
              rw [List.length_map, List.length_map, List.length_take] at h1
              have := HP.out.n2.1
              have := HG.out.2.1
              omega
            have hk3 : k ≤ 3000 := by have := HL.out.2.1; have := HG.out.2.1; omega
            obtain ⟨v', w2, hrun, hrv, S, hT, hS⟩ := app_ob 27 o k3 (by omega)
            obtain ⟨A4, c4, evo, _⟩ := k3.form
            obtain ⟨A5, c5, evn, _⟩ := hrv.form
            subst evo evn
            have hle : (ovs ++ [o]).length = ovs.length + 1 := by simp
            rw [hle] at hrun hrv
            have y4 : wc.cell? ⟨C, 4, none⟩ = some (.slice A4 ovs.length c4) := by rw [cell_of_row _ _ _ _ _ (0, 0) k1]; rfl
            have u0 := hR.out.ocells 0 (.int .i64 o.m.kd) rfl
            have u1 := hR.out.ocells 1 (.int .i64 o.m.pa) rfl
            have u2 := hR.out.ocells 2 (.int .i64 o.m.lD) rfl
            have u3 := hR.out.ocells 3 (o.lv.v) rfl
            have u4 := hR.out.ocells 4 (.int .i64 o.m.cD) rfl
            have u5 := hR.out.ocells 5 (o.cv.v) rfl
            have u6 := hR.out.ocells 6 (.int .i64 o.m.pg) rfl
            have u7 := hR.out.ocells 7 (.int .i64 o.m.nm) rfl
            have u8 := hR.out.ocells 8 (o.dv.v) rfl
            have u9 := hR.out.ocells 9 (o.mv.v) rfl
            have u10 := hR.out.ocells 10 (.int .i64 o.m.sp) rfl
            have u11 := hR.out.ocells 11 (.int .i64 o.m.pc) rfl
            have hCS : ∀ b ∈ S, W.heap.size ≤ b ∧ ∃ cur, wc.heap[b]? = some (Obj.cells cur 44) := hS
            have hC2 : w2.heap[C]? = some (Obj.cells #[.int .i64 co, .int .i64 fr, .int .i64 nm, vs, .slice A4 ovs.length c4] 29) := (hT.block C (Array.getElem?_eq_some_iff.1 k1).1 fun hm => by
              obtain ⟨_, cur, h2⟩ := hS C hm
              exact absurd (cells_ty k1 h2) (by decide)).trans k1
            have y4' : w2.cell? ⟨C, 4, none⟩ = some (.slice A4 ovs.length c4) := by rw [cell_of_row _ _ _ _ _ (0, 0) hC2]; rfl
            have z4' : w2.frozen? ⟨C, 4, none⟩ = false := frozen_of_row _ _ _ _ _ hC2
            have hrv2 : RV (fun b => W.heap.size ≤ b) 44 12 encO w2 (.slice A5 (ovs.length + 1) c5) (ovs ++ [o]) := hrv.keep fun b cur hb _ => ⟨hb.elim id fun h => Nat.le_trans hcs.p.1.size h, rfl⟩
            have HFin := Lib.hid (hcs.snoc k1 k2 k4 k5 HG.out.2.2 hom hR.out.own hrv2 hT hS)
            have HR := Lib.hid hrun
            have i3 : IntKind.i64.wrap ((k : Int) + 1) = ((k + 1 : Nat) : Int) := by rw [IntKind.wrap_i64]; omega
            clear hcs k1 k2 k3 k4 k5 hrun hrv hT hS hCS hC2 hrv2 hlen hk3 hom
            unfold arO at HR
            go_wp2_with (at_builtin; refine wpList_append_by rfl (.tmp 71) (.tmp 73) _ _ rfl _ _ _ rfl rfl w2 HR.out ?_)
            clear HR u0 u1 u2 u3 u4 u5 u6 u7 u8 u9 u10 u11 y4
            go_wp2_with fail
            go_roundg (l2 + 1 - (k + 1))
            case rel => exact ⟨k + 1, Nat.le_refl _, by first | rfl | simp, HG.out.2.1, HFin⟩
            case measure => have := HG.out; omega
      · have q1 : ¬ (k : Int) < l2 := by omega
        obtain rfl : k = l2 := by omega
        obtain ⟨vs, vo, ovs, k1, k2, k3, k4, k5⟩ := hI.out.c
        obtain ⟨A3, c3, evs, _⟩ := k2.form
        obtain ⟨A4, c4, evo, _⟩ := k3.form
        subst evs evo
        rw [List.take_of_length_le (by rw [HP.out.n2.1]; exact Nat.le_refl _)] at k4
        have HK := Lib.hid (And.intro k1 (And.intro k2 (And.intro k3 (And.intro k4 k5))))
        have HU := Lib.hid Try.underlying29
        have HZ2 := Lib.hid (show Hid True from Lib.hid trivial)
        obtain ⟨cs, ecs⟩ : ∃ cs, (#[.int .i64 co, .int .i64 fr, .int .i64 nm, .slice A3 xs.length c3, .slice A4 ovs.length c4] : Array Value) = cs := ⟨_, rfl⟩
        have HV : Hid (wr.heap[C]? = some (Obj.cells cs 29)) := Lib.hid (by rw [← ecs]; exact k1)
        have HS : Hid ((Try.prog.info? 29).map (·.size) = some cs.size) := Lib.hid (by rw [← ecs]; exact sizeC)
        have HO : Hid (cs.all (·.oneCell') = true) := Lib.hid (by rw [← ecs]; simp [Value.oneCell'])
        have HS5 : Hid ((#[.int .i64 0, .int .i64 0, .int .i64 0, .slice none 0 0, .slice none 0 0] : Array Value).size = cs.size) := Lib.hid (by rw [← ecs]; rfl)
        have HEC := Lib.hid ecs
        clear k1 k2 k3 k4 k5 ecs hg hk hlt HZ2
        go_wp2_with (first | with_reducible refine wpList_load_row rfl 29 (.tmp 3) rfl C rfl 29 cs (0, 0) _ HV.out HU.out rfl HS.out ?_ | with_reducible refine wpList_store_row rfl 29 (.tmp 2) (.tmp 77) rfl R cs rfl rfl 29 (#[.int .i64 0, .int .i64 0, .int .i64 0, .slice none 0 0, .slice none 0 0]) hI.out.r HS.out HS5.out HO.out ?_)
        refine bodyPost_ret (results_cell_row (by rfl) _ _ R 29 cs (0, 0) _ (by rfl) (setRow_heap wr R _ _ _ _ hI.out.r) HU.out rfl HS.out) rfl ?_
        have ho : ∀ b, b ≠ R → (wr.setRow R cs).heap[b]? = wr.heap[b]? := fun b hb => setRow_other wr R b _ hb
        have ht := Turn.row wr R cs
        obtain ⟨k1, k2, k3, k4, k5⟩ := HK.out
        refine ⟨_, _, ovs, by rw [← HEC.out], k2.keep fun b cur h1 h2 => ⟨h1, ho b fun e => ?_⟩, k3.keep fun b cur h1 h2 => ⟨h1, ho b fun e => ?_⟩, k4, fun o hm => ?_, hI.out.p.1.trans (ht.below hI.out.p.1.size fun b hb => by rw [List.mem_singleton.1 hb]; exact hI.out.n.2.1)⟩
        · rw [e] at h2
          exact absurd (cells_ty h2 hI.out.r) (by decide)
        · rw [e] at h2
          exact absurd (cells_ty h2 hI.out.r) (by decide)
        · have h1 := k5 o hm
          refine ⟨h1.l.keep fun b cur _ hb => ho b fun e => ?_, h1.c.keep fun b cur _ hb => ho b fun e => ?_, ⟨h1.d.1.keep fun b cur h2 hb => ⟨h2, ho b fun e => ?_⟩, h1.d.2⟩, ⟨h1.p.1.keep fun b cur h2 hb => ⟨h2, ho b fun e => ?_⟩, h1.p.2⟩⟩
          all_goals
            rw [e] at hb
            exact absurd (cells_ty hb hI.out.r) (by decide)
end Go.Proofs.Ytmadldgajjgbmaa
