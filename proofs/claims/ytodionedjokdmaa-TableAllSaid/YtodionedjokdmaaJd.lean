/- partialInsertionSort, order2, median, choosePivot. -/
import Derived.Test.YtodionedjokdmaaJc
set_option linter.unusedVariables false
set_option linter.unusedSimpArgs false
namespace Go.Proofs.Ytodionedjokdmaa
open Go.RowKit
set_option linter.unusedVariables false
set_option linter.unusedSimpArgs false
theorem Srt.snoc {a i i1 : Nat} {f : Nat → Int} (h : Srt a i f) (e : i = i1 + 1) (ha : a ≤ i1) (hl : ¬ f i < f i1) : Srt a (i + 1) f := fun p q k1 k2 k3 => by
  by_cases eq : q = i
  · subst eq
    by_cases ep : p = i1
    · subst ep; omega
    · have := h p i1 k1 (by omega) (by omega)
      omega
  · exact h p q k1 k2 (by omega)
theorem below_drewN {B : Nat} {w w' : World} (h : Below B w w') (q : Nat) : Below B w (w'.drewN q) := ⟨h.os, h.tape, h.output, h.size, h.block⟩
/-- r tells true only of what rises. -/
def Told (r : Bool) (a b : Nat) (f : Nat → Int) : Prop := r = true → Srt a b f
def PEnd (a b : Nat) (f : Nat → Int) (e : Ending) : Prop := ∃ r, e = .returned (.bool r) ∧ Told r a b f
set_option maxHeartbeats 2000000 in
set_option maxRecDepth 100000 in
theorem partial_any {w : World} {g o n c : Nat} {f : Nat → Int} (a b : Nat) (h : AR w g o n f) (hb : b ≤ n) (hn : n ≤ 1000) (hab : a < b) (h50 : b - a < 50) :
    Calls Try.prog 61 #[.slice (some ⟨g, o, none⟩) n c, .int .i64 a, .int .i64 b] w fun e w' => PEnd a b f e ∧ Below w.heap.size w w' := by
  have HN := Lib.hid (And.intro hb (And.intro hn (And.intro hab h50)))
  obtain ⟨a1, ea⟩ : ∃ a1, a + 1 = a1 := ⟨_, rfl⟩
  have HA := Lib.hid ea
  have i1 : IntKind.i64.wrap ((a : Int) + 1) = (a1 : Int) := by rw [IntKind.wrap_i64]; omega
  have hbI : IntKind.i64.wrap ((b : Int) - (a : Int)) = ((b - a : Nat) : Int) := by rw [IntKind.wrap_i64]; omega
  obtain ⟨l, el⟩ : ∃ l, b - a = l := ⟨_, rfl⟩
  rw [el] at hbI
  have hl50 : (l : Int) < 50 := by omega
  have HI1 := Lib.hid hbI
  have H := Lib.hid h
  have H0 : Hid (Below w.heap.size w w ∧ Srt a a1 f) := Lib.hid ⟨Below.refl _ _, fun i j h1 h2 h3 => by omega⟩
  clear h ea hb hn hab h50 hbI el
  go_enter Try.func61, Try.ntmps61
  go_wp2_with fail
  clear i1
  go_loopg [7, 8] 0 (fun gh v7 v8 wr => v7 = .int .i64 a1 ∧ v8 = .int .i64 0 ∧ wr = w)
  case atStart => exact ⟨rfl, rfl, rfl⟩
  case round =>
    obtain ⟨rfl, rfl, rfl⟩ := hrel
    go_wp2_with fail
    go_loopg [7] (n + 2) (fun gh v7 wx => ∃ i : Nat, n + 2 - i ≤ gh ∧ v7 = .int .i64 i ∧ a1 ≤ i ∧ i ≤ b ∧ Hid (Below wr.heap.size wr wx ∧ Srt a i f))
    case atStart => exact ⟨a1, by omega, rfl, Nat.le_refl _, by have := HA.out; have := HN.out; omega, H0⟩
    case round =>
      clear H0
      obtain ⟨i, hg, rfl, h1, h2, hI⟩ := hrel
      have hn := HN.out
      have ha := HA.out
      by_cases hlt : i < b
      · have l1 : (i : Int) < b := by omega
        have q9 : ((i : Int) == b) = false := by rw [beq_eq_false_iff_ne]; omega
        obtain ⟨j1, ej⟩ : ∃ j1, i = j1 + 1 := ⟨i - 1, by omega⟩
        have q3 : IntKind.i64.wrap ((i : Int) - 1) = (j1 : Int) := by rw [IntKind.wrap_i64]; omega
        have q4 : (i : Int) < n := by omega
        have q5 : (j1 : Int) < n := by omega
        have q6 : (0 : Int) ≤ j1 := by omega
        have hr := H.out.below hI.out.1
        have c0 := hr.cell (k := i) (by omega)
        have c1 := hr.cell (k := j1) (by omega)
        have HJ := Lib.hid (show a ≤ j1 ∧ i = j1 + 1 ∧ i < b ∧ a1 ≤ i from ⟨by omega, ej, hlt, h1⟩)
        have CX := fun W => less_any (f i) (f j1) W
        obtain ⟨X, eX⟩ : ∃ X, f i = X := ⟨_, rfl⟩
        obtain ⟨Y, eY⟩ : ∃ Y, f j1 = Y := ⟨_, rfl⟩
        rw [eX] at c0
        rw [eY] at c1
        rw [eX, eY] at CX
        by_cases hxy : X < Y
        · simp only [decide_eq_true hxy] at CX
          have CX := Lib.hid CX
          have hbI := HI1.out
          clear eX eY hxy hn ha ej hlt h1 h2 hr
          go_upto_region 5 with fail
          go_quiet (first | (go_at_call 62; with_reducible exact Calls.quiet_of_same (CX.out _)))
          rename_i nq
          have HB := Lib.hid (below_drewN hI.out.1 nq)
          clear c0 c1
          go_wp2_with fail
          go_ret
          exact ⟨⟨false, rfl, fun h => (by cases h)⟩, HB.out⟩
        · simp only [decide_eq_false hxy] at CX
          have CX := Lib.hid CX
          have HS := Lib.hid (show Srt a (i + 1) f from hI.out.2.snoc ej (by omega) (by rw [eX, eY]; exact hxy))
          clear eX eY hxy hn ha ej hlt h1 h2 hr
          go_upto_region 5 with fail
          go_quiet (first | (go_at_call 62; with_reducible exact Calls.quiet_of_same (CX.out _)))
          rename_i nq
          have HB := Lib.hid (And.intro (below_drewN hI.out.1 nq) HS.out)
          have i2 : IntKind.i64.wrap ((i : Int) + 1) = ((i + 1 : Nat) : Int) := by have := HJ.out; have := HN.out; rw [IntKind.wrap_i64]; omega
          clear c0 c1
          go_wp2_with fail
          go_roundg (n + 2 - (i + 1))
          case rel => exact ⟨i + 1, Nat.le_refl _, by first | rfl | simp, by have := HJ.out; omega, by have := HJ.out; omega, HB⟩
          case measure => have := HJ.out; have := HN.out; omega
      · have l1 : ¬ (i : Int) < b := by omega
        have hib : i = b := by omega
        subst hib
        clear hn ha hlt h1 h2
        go_upto_region 5 with fail
        refine region_AU (Z := fun j => false) (S := fun _ => True) (by kernel_rfl) trivial (fun hHeld => ?_)
        refine AUS_take (by kernel_rfl) rfl (i := 0) (oi := _) (v := ?vwa0) rfl (by kernel_rfl) (by kernel_rfl) (by kernel_rfl) (fun _ _ _ h => h) (Or.inl ⟨by rfl, ?hza0⟩) hHeld ?rsta0
        case hza0 => (intro wS hSw; clear hSw; go_simp; try with_reducible rfl)
        simp only [Act.put, List.getElem_toArray, List.getElem_cons_zero, List.getElem_cons_succ, List.setIfInBounds_toArray, List.set_cons_zero, List.set_cons_succ]
        refine AUS_take (by kernel_rfl) rfl (i := 1) (oi := _) (v := ?vwa1) rfl (by kernel_rfl) (by kernel_rfl) (by kernel_rfl) (fun _ _ _ h => h) (Or.inl ⟨by rfl, ?hza1⟩) hHeld ?rsta1
        case hza1 => (intro wS hSw; clear hSw; go_simp; try with_reducible rfl)
        simp only [Act.put, List.getElem_toArray, List.getElem_cons_zero, List.getElem_cons_succ, List.setIfInBounds_toArray, List.set_cons_zero, List.set_cons_succ]
        refine AUS_take (by kernel_rfl) rfl (i := 2) (oi := _) (v := ?vwa2) rfl (by kernel_rfl) (by kernel_rfl) (by kernel_rfl) (fun _ _ _ h => h) (Or.inl ⟨by rfl, ?hza2⟩) hHeld ?rsta2
        case hza2 => (intro wS hSw; clear hSw; go_simp; try with_reducible rfl)
        simp only [Act.put, List.getElem_toArray, List.getElem_cons_zero, List.getElem_cons_succ, List.setIfInBounds_toArray, List.set_cons_zero, List.set_cons_succ]
        refine AUS_take (by kernel_rfl) rfl (i := 3) (oi := _) (v := ?vwa3) rfl (by kernel_rfl) (by kernel_rfl) (by kernel_rfl) (fun _ _ _ h => h) (Or.inl ⟨by rfl, ?hza3⟩) hHeld ?rsta3
        case hza3 => (intro wS hSw; clear hSw; go_simp; try with_reducible rfl)
        simp only [Act.put, List.getElem_toArray, List.getElem_cons_zero, List.getElem_cons_succ, List.setIfInBounds_toArray, List.set_cons_zero, List.set_cons_succ]
        refine AUS_take (by kernel_rfl) rfl (i := 4) (oi := _) (v := undef) rfl (by kernel_rfl) (by kernel_rfl) (by kernel_rfl) (fun _ _ _ h => h) (Or.inr ⟨by rfl, rfl⟩) hHeld ?rsta4
        try simp only [Act.put, List.getElem_toArray, List.getElem_cons_zero, List.getElem_cons_succ, List.setIfInBounds_toArray, List.set_cons_zero, List.set_cons_succ]
        refine AUS_take (by kernel_rfl) rfl (i := 5) (oi := _) (v := undef) rfl (by kernel_rfl) (by kernel_rfl) (by kernel_rfl) (fun _ _ _ h => h) (Or.inr ⟨by rfl, rfl⟩) hHeld ?rsta5
        try simp only [Act.put, List.getElem_toArray, List.getElem_cons_zero, List.getElem_cons_succ, List.setIfInBounds_toArray, List.set_cons_zero, List.set_cons_succ]
        refine AUS_take (by kernel_rfl) rfl (i := 6) (oi := _) (v := undef) rfl (by kernel_rfl) (by kernel_rfl) (by kernel_rfl) (fun _ _ _ h => h) (Or.inr ⟨by rfl, rfl⟩) hHeld ?rsta6
        try simp only [Act.put, List.getElem_toArray, List.getElem_cons_zero, List.getElem_cons_succ, List.setIfInBounds_toArray, List.set_cons_zero, List.set_cons_succ]
        refine AUS_take (by kernel_rfl) rfl (i := 7) (oi := _) (v := undef) rfl (by kernel_rfl) (by kernel_rfl) (by kernel_rfl) (fun _ _ _ h => h) (Or.inr ⟨by rfl, rfl⟩) hHeld ?rsta7
        try simp only [Act.put, List.getElem_toArray, List.getElem_cons_zero, List.getElem_cons_succ, List.setIfInBounds_toArray, List.set_cons_zero, List.set_cons_succ]
        refine AUS_take (by kernel_rfl) rfl (i := 8) (oi := _) (v := undef) rfl (by kernel_rfl) (by kernel_rfl) (by kernel_rfl) (fun _ _ _ h => h) (Or.inr ⟨by rfl, rfl⟩) hHeld ?rsta8
        try simp only [Act.put, List.getElem_toArray, List.getElem_cons_zero, List.getElem_cons_succ, List.setIfInBounds_toArray, List.set_cons_zero, List.set_cons_succ]
        refine AUS_take (by kernel_rfl) rfl (i := 9) (oi := _) (v := undef) rfl (by kernel_rfl) (by kernel_rfl) (by kernel_rfl) (fun _ _ _ h => h) (Or.inr ⟨by rfl, rfl⟩) hHeld ?rsta9
        try simp only [Act.put, List.getElem_toArray, List.getElem_cons_zero, List.getElem_cons_succ, List.setIfInBounds_toArray, List.set_cons_zero, List.set_cons_succ]
        refine AUS_take (by kernel_rfl) rfl (i := 10) (oi := _) (v := undef) rfl (by kernel_rfl) (by kernel_rfl) (by kernel_rfl) (fun _ _ _ h => h) (Or.inr ⟨by rfl, rfl⟩) hHeld ?rsta10
        try simp only [Act.put, List.getElem_toArray, List.getElem_cons_zero, List.getElem_cons_succ, List.setIfInBounds_toArray, List.set_cons_zero, List.set_cons_succ]
        refine AUS_take (by kernel_rfl) rfl (i := 11) (oi := _) (v := undef) rfl (by kernel_rfl) (by kernel_rfl) (by kernel_rfl) (fun _ _ _ h => h) (Or.inr ⟨by rfl, rfl⟩) hHeld ?rsta11
        try simp only [Act.put, List.getElem_toArray, List.getElem_cons_zero, List.getElem_cons_succ, List.setIfInBounds_toArray, List.set_cons_zero, List.set_cons_succ]
        refine AUS_take (by kernel_rfl) rfl (i := 12) (oi := _) (v := undef) rfl (by kernel_rfl) (by kernel_rfl) (by kernel_rfl) (fun _ _ _ h => h) (Or.inr ⟨by rfl, rfl⟩) hHeld ?rsta12
        try simp only [Act.put, List.getElem_toArray, List.getElem_cons_zero, List.getElem_cons_succ, List.setIfInBounds_toArray, List.set_cons_zero, List.set_cons_succ]
        refine AUS_take (by kernel_rfl) rfl (i := 13) (oi := _) (v := undef) rfl (by kernel_rfl) (by kernel_rfl) (by kernel_rfl) (fun _ _ _ h => h) (Or.inr ⟨by rfl, rfl⟩) hHeld ?rsta13
        try simp only [Act.put, List.getElem_toArray, List.getElem_cons_zero, List.getElem_cons_succ, List.setIfInBounds_toArray, List.set_cons_zero, List.set_cons_succ]
        refine AUS_take (by kernel_rfl) rfl (i := 14) (oi := _) (v := undef) rfl (by kernel_rfl) (by kernel_rfl) (by kernel_rfl) (fun _ _ _ h => h) (Or.inr ⟨by rfl, rfl⟩) hHeld ?rsta14
        try simp only [Act.put, List.getElem_toArray, List.getElem_cons_zero, List.getElem_cons_succ, List.setIfInBounds_toArray, List.set_cons_zero, List.set_cons_succ]
        refine AUS_take (by kernel_rfl) rfl (i := 15) (oi := _) (v := ?vwa15) rfl (by kernel_rfl) (by kernel_rfl) (by kernel_rfl) (fun _ _ _ h => h) (Or.inl ⟨by rfl, ?hza15⟩) hHeld ?rsta15
        case hza15 => (intro wS hSw; clear hSw; go_simp; try with_reducible rfl)
        simp only [Act.put, List.getElem_toArray, List.getElem_cons_zero, List.getElem_cons_succ, List.setIfInBounds_toArray, List.set_cons_zero, List.set_cons_succ]
        refine AU_done (by kernel_rfl) ?_ _
        simp only [OnlyN]
        have HB := Lib.hid hI.out.1.drew
        have q9 : ((i : Int) == i) = true := by simp
        go_wp2_with fail
        go_ret
        exact ⟨⟨true, rfl, fun _ => hI.out.2⟩, HB.out⟩
/-- A counter in block P. -/
def PC (w : World) (P : Nat) (s : Int) : Prop := w.heap[P]? = some (Obj.cells #[.int .i64 s] 3)
theorem PC.cell {w : World} {P : Nat} {s : Int} (h : PC w P s) : w.cell? ⟨P, 0, none⟩ = some (.int .i64 s) := by rw [cell_of_row _ _ 0 _ _ _ h]; rfl
theorem PC.frozen {w : World} {P : Nat} {s : Int} (h : PC w P s) : w.frozen? ⟨P, 0, none⟩ = false := frozen_of_row _ _ _ _ _ h
theorem PC.drewN {w : World} {P : Nat} {s : Int} (h : PC w P s) (q : Nat) : PC (w.drewN q) P s := h
theorem PC.set {w : World} {P : Nat} {s : Int} (h : PC w P s) (t : Int) : PC (w.setCell ⟨P, 0, none⟩ (.int .i64 t)) P t := heap_setCell_same _ _ 0 _ 3 _ h
theorem PC.lt {w : World} {P : Nat} {s : Int} (h : PC w P s) : P < w.heap.size := (Array.getElem?_eq_some_iff.1 h).1
/-- What a count of swaps leaves. -/
structure Cnt (w : World) (P : Nat) (s : Int) (k : Nat) (w' : World) : Prop where
  t : Turn [P] w w'
  c : ∃ s', PC w' P s' ∧ s ≤ s' ∧ s' ≤ s + k
theorem AR.cnt {w w' : World} {g o n P k : Nat} {f : Nat → Int} {s : Int} (h : AR w g o n f) (hg : g ≠ P) (hc : Cnt w P s k w') : AR w' g o n f := h.same (hc.t.block g h.lt (by simpa using hg))
/-- One of two, and the other. -/
def Two (x y a b : Nat) : Prop := (x = a ∧ y = b) ∨ (x = b ∧ y = a)
set_option maxHeartbeats 1000000 in
theorem order_any {w : World} {g o n c P : Nat} {f : Nat → Int} {s : Int} (a b : Nat) (h : AR w g o n f) (hp : PC w P s) (hn : n ≤ 1000) (ha : a < n) (hb : b < n) (hs : 0 ≤ s ∧ s ≤ 100) :
    Calls Try.prog 73 #[.slice (some ⟨g, o, none⟩) n c, .int .i64 a, .int .i64 b, .pointer (some ⟨P, 0, none⟩)] w fun e w' => ∃ x y : Nat, e = .returned (.tuple #[.int .i64 x, .int .i64 y]) ∧ Two x y a b ∧ Cnt w P s 1 w' := by
  have c0 := h.cell ha
  have c1 := h.cell hb
  have q1 : (a : Int) < n := by omega
  have q2 : (b : Int) < n := by omega
  have HP := Lib.hid hp
  have CX := fun W => less_any (f b) (f a) W
  obtain ⟨X, eX⟩ : ∃ X, f a = X := ⟨_, rfl⟩
  obtain ⟨Y, eY⟩ : ∃ Y, f b = Y := ⟨_, rfl⟩
  rw [eX] at c0
  rw [eY] at c1
  rw [eX, eY] at CX
  obtain ⟨s1, es1⟩ : ∃ s1, s + 1 = s1 := ⟨_, rfl⟩
  have q3 : IntKind.i64.wrap (s + 1) = s1 := by rw [IntKind.wrap_i64]; omega
  have HS := Lib.hid es1
  clear h hp hn ha hb hs eX eY es1
  by_cases hxy : Y < X
  · simp only [decide_eq_true hxy] at CX
    have CX := Lib.hid CX
    clear hxy
    go_enter Try.func73, Try.ntmps73
    go_upto_region 1 with fail
    go_quiet (first | (go_at_call 62; with_reducible exact Calls.quiet_of_same (CX.out _)))
    rename_i nq
    have c2 := (HP.out.drewN nq).cell
    have f2 := (HP.out.drewN nq).frozen
    clear c0 c1
    go_wp2_with fail
    go_ret2
    exact ⟨b, a, rfl, .inr ⟨rfl, rfl⟩, ((Turn.refl _ w).drewN nq).next (Turn.set _ P 0 _), s1, (HP.out.drewN nq).set s1, by have := HS.out; omega, by have := HS.out; omega⟩
  · simp only [decide_eq_false hxy] at CX
    have CX := Lib.hid CX
    clear hxy
    go_enter Try.func73, Try.ntmps73
    go_upto_region 1 with fail
    go_quiet (first | (go_at_call 62; with_reducible exact Calls.quiet_of_same (CX.out _)))
    rename_i nq
    clear c0 c1
    go_wp2_with fail
    go_ret2
    exact ⟨a, b, rfl, .inl ⟨rfl, rfl⟩, (Turn.refl _ w).drewN nq, s, HP.out.drewN nq, Int.le_refl _, by omega⟩
end Go.Proofs.Ytodionedjokdmaa
