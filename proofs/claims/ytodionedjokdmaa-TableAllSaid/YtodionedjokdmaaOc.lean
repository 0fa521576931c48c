/- Lists of numbers: cloned, appended to, without one of them. -/
import Derived.Test.YtodionedjokdmaaOb
import Derived.Lib.SliceRun
set_option linter.unusedVariables false
set_option linter.unusedSimpArgs false
namespace Go.Proofs.Ytodionedjokdmaa
open Go.RowKit
set_option linter.unusedVariables false
set_option linter.unusedSimpArgs false
theorem enU_one (x : Nat) : (inU x).oneCell' = true := rfl
theorem info_partsU {i : Option TypeInfo} {z : Value} {s b : Nat} (h : i.map (fun i => (i.zero, i.size, i.bytes)) = some (some z, s, b)) : ∃ j, i = some j ∧ j.zero = some z ∧ j.size = s ∧ j.bytes = b := by
  obtain ⟨j, hi, hie⟩ := Option.map_eq_some_iff.1 h
  injection hie with hz h2
  injection h2 with hs hb
  exact ⟨j, hi, hz, hs, hb⟩
theorem infoU : (Try.prog.info? 28).map (fun i => (i.zero, i.size, i.bytes)) = some (some (.int .u64 0), 1, 8) := by kernel_rfl
theorem zeroU (w : World) : (zeroValue 28).run Try.prog w = .ok (.int .u64 0) w := by kernel_rfl
theorem nilU (w : World) (a : Option Addr) (n c : Nat) : (binOp .eql 27 (.slice a n c) (.slice none 0 0)).run Try.prog w = .ok (.bool a.isNone) w := Lib.run_eql_slice_nil w _ _ a n c 0 0 Try.underlying27
theorem below_up {W w w' : World} (h : Below W.heap.size W w) (hs : Below w.heap.size w w') : Below W.heap.size W w' := h.trans (hs.mono h.size)
theorem wpList_clear_by {P : Program} {ops : Array Oper} {rest : List Oper} {o : Oper} {a : Act} {w : World} {Q : Exit → Act → World → Prop} (hgd : o.guard = none) (s : Operand) (sT : TypeId)
    (ho : o.op = .call { callee := .builtin .clear, args := #[s], argTypes := #[sT] }) (y r : Value) (hs : a.eval s = y) (w' : World)
    (hrun : (Builtin.clear_ #[sT] o.type #[y]).run P w = .ok r w') (h : wpList P ops Q rest (a.put o.dst r) w') : wpList P ops Q (o :: rest) a w := by
  refine wpList_plain hgd fun K hK => ?_
  unfold Oper.wp
  simp [execOp, ho, resolve, invoke, builtin, hs, hrun, Result.andThen]
  exact hK _ _ h
section
variable {w w' : World} {A : Option Addr} {l c : Nat} {us : List Nat} {v : Value}
theorem RW.below {α : Type} {e : TypeId} {enc : α → Value} {own : Nat → Prop} {xs : List α} (h : RW own e enc w v xs) (hb : Below w.heap.size w w') : RW own e enc w' v xs :=
  h.keep fun b cur ho hc => ⟨ho, hb.block b (Array.getElem?_eq_some_iff.1 hc).1⟩
theorem RW.mono {α : Type} {e : TypeId} {enc : α → Value} {own own' : Nat → Prop} {xs : List α} (h : RW own e enc w v xs) (hb : ∀ b, own b → own' b) : RW own' e enc w v xs := h.keep fun b cur ho hc => ⟨hb b ho, rfl⟩
theorem RW.set {own : Nat → Prop} {e : TypeId} {α : Type} {enc : α → Value} {xs : List α} {g o k n c : Nat} {y : α} (h : RW own e enc w (.slice (some ⟨g, o, none⟩) n c) xs) (hk : k < xs.length) :
    RW own e enc (w.setCell ⟨g, o + k, none⟩ (enc y)) (.slice (some ⟨g, o, none⟩) n c) (xs.set k y) ∧ w.frozen? ⟨g, o + k, none⟩ = false ∧ (∃ z, w.cell? ⟨g, o + k, none⟩ = some z) ∧ own g := by
  rcases h with ⟨_, h⟩ | ⟨g', o', cap, cur, h1, h2, h3, h4, h5, h6, h7⟩
  · cases h
  · injection h1 with e1 e2 e3
    injection e1 with e1
    injection e1 with e1 e4
    subst e1 e2 e3 e4
    obtain ⟨z, hz⟩ : ∃ z, xs[k]? = some z := ⟨_, List.getElem?_eq_getElem hk⟩
    refine ⟨.inr ⟨g, o, c, cur.setIfInBounds (o + k) (enc y), by rw [List.length_set], h2, heap_setCell_same w g (o + k) cur e (enc y) h3, by rw [Array.size_setIfInBounds]; exact h4, by rw [List.length_set]; exact h5, h6, fun i x hi => ?_⟩, frozen_of_row _ _ _ _ e h3, ⟨enc z, by rw [cell_of_row _ _ _ _ e (0, 0) h3]; exact h7 k z hz⟩, h2⟩
    rw [List.getElem?_set] at hi
    by_cases hik : k = i
    · subst hik
      rw [if_pos rfl, if_pos hk] at hi
      injection hi with hi
      subst hi
      rw [Array.getElem?_setIfInBounds_self_of_lt (by have := (Array.getElem?_eq_some_iff.1 (h7 k z hz)).1; exact this)]
    · rw [if_neg hik] at hi
      rw [Array.getElem?_setIfInBounds_ne (by omega)]
      exact h7 i x hi
theorem RW.take {own : Nat → Prop} {e : TypeId} {α : Type} {enc : α → Value} {xs : List α} {g o n c : Nat} (h : RW own e enc w (.slice (some ⟨g, o, none⟩) n c) xs) {k : Nat} (hk : k ≤ xs.length) : RW own e enc w (.slice (some ⟨g, o, none⟩) k c) (xs.take k) := by
  rcases h with ⟨_, h⟩ | ⟨g', o', cap, cur, h1, h2, h3, h4, h5, h6, h7⟩
  · cases h
  · injection h1 with e1 e2 e3
    injection e1 with e1
    injection e1 with e1 e4
    subst e1 e2 e3 e4
    refine .inr ⟨g, o, c, cur, by rw [List.length_take, Nat.min_eq_left hk], h2, h3, h4, by rw [List.length_take]; omega, h6, fun i x hi => ?_⟩
    rw [List.getElem?_take] at hi
    split at hi
    · exact h7 i x hi
    · cases hi
/-- What lies behind is cleared. -/
theorem RW.setCells {own : Nat → Prop} {e : TypeId} {α : Type} {enc : α → Value} {xs : List α} {g o n c : Nat} (vs : List Value) : ∀ {w : World} {k : Nat}, RW own e enc w (.slice (some ⟨g, o, none⟩) n c) xs → n ≤ k → RW own e enc (w.setCells g (o + k) vs) (.slice (some ⟨g, o, none⟩) n c) xs := by
  induction vs with
  | nil => intro w k h _; exact h
  | cons v vs ih =>
    intro w k h hk
    unfold World.setCells
    refine ih (k := k + 1) ?_ (by omega)
    rcases h with ⟨_, h⟩ | ⟨g', o', cap, cur, h1, h2, h3, h4, h5, h6, h7⟩
    · cases h
    · injection h1 with e1 e2 e3
      injection e1 with e1
      injection e1 with e1 e4
      subst e1 e2 e3 e4
      exact .inr ⟨g, o, c, _, rfl, h2, heap_setCell_same w g (o + k) cur e v h3, by rw [Array.size_setIfInBounds]; exact h4, h5, h6, fun i x hi => by
        have := (List.getElem?_eq_some_iff.1 hi).1
        rw [Array.getElem?_setIfInBounds_ne (by omega)]; exact h7 i x hi⟩
theorem turn_setCells (b : Nat) : ∀ (vs : List Value) (o : Nat) (w : World), Turn [b] w (w.setCells b o vs)
  | [], o, w => Turn.refl _ _
  | v :: r, o, w => by
      unfold World.setCells
      exact (Turn.set w b o v).trans (turn_setCells b r (o + 1) _) (fun x hx => .inl hx)
/-- Some numbers are appended. -/
theorem append_u {own : Nat → Prop} {v : Value} {xs ys : List Nat} (ty : TypeId) (h : RW own 28 inU w v xs) (hl : xs.length + ys.length ≤ 100000) (A2 : Option Addr) (n2 c2 : Nat) (hn : ys.length = n2) (hc2 : ys.length ≤ c2) (hr : LR inU w A2 ys) :
    ∃ v' w', (Builtin.append_ #[27, 27] ty #[v, .slice A2 n2 c2]).run Try.prog w = .ok v' w' ∧ RW (fun b => own b ∨ w.heap.size ≤ b) 28 inU w' v' (xs ++ ys) ∧ ∃ S, Turn S w w' ∧ ∀ b ∈ S, own b ∧ ∃ cur, w.heap[b]? = some (Obj.cells cur 28) := by
  obtain ⟨i0, hi, hz0, hz1, hz2⟩ := info_partsU infoU
  subst hn
  exact append_rw 27 ty i0 (.int .u64 0) 8 Try.underlying27 hi hz0 hz1 hz2 (by omega) rfl enU_one h hl A2 c2 hc2 hr
set_option maxHeartbeats 1000000 in
theorem clone_u (hl : us.length = l) (hm : l ≤ 100000) (hc : l ≤ c) (hr : LR inU w A us) : Calls Try.prog 38 #[.slice A l c] w fun e w' => ∃ v, e = .returned v ∧ RW (fun b => w.heap.size ≤ b) 28 inU w' v us ∧ Below w.heap.size w w' := by
  have qT := nilU
  cases A with
  | none =>
    obtain rfl : us = [] := by
      cases us with
      | nil => rfl
      | cons x r => obtain ⟨b, o, h, _⟩ := hr 0 x rfl; cases h
    clear hr
    go_enter Try.func38, Try.ntmps38
    go_wp2_with fail
    go_ret
    exact ⟨_, rfl, RW.nil _ _, Below.refl _ _⟩
  | some ad =>
    obtain ⟨W1, eW1⟩ : ∃ W1, w.alloc (Obj.cells #[] 28) = W1 := ⟨_, rfl⟩
    have hb1 : Below w.heap.size w W1 := by rw [← eW1]; exact below_alloc1 _ _
    have h0 : RW (fun b => w.heap.size ≤ b) 28 inU W1 (.slice (some ⟨w.heap.size, 0, none⟩) 0 0) [] := .inr ⟨w.heap.size, 0, 0, #[], rfl, Nat.le_refl _, by rw [← eW1]; exact heap_alloc_new w _, by simp, by simp, by simp, by simp⟩
    obtain ⟨v', W2, hrun, hu, S, ht, hS⟩ := append_u 27 h0 (ys := us) (by simp; omega) (some ad) l c hl (by omega) (hr.below hb1)
    have HE : Hid (RW (fun b => w.heap.size ≤ b) 28 inU W2 v' us ∧ Below w.heap.size w W2) := Lib.hid ⟨(by simpa using hu : RW _ 28 inU W2 v' us).keep fun b cur hb _ => ⟨by rcases hb with h | h; exact h; have := hb1.size; omega, rfl⟩, hb1.trans (ht.below hb1.size fun b hb => (hS b hb).1)⟩
    have HR := Lib.hid hrun
    clear hu ht hS hb1 h0 hr hrun
    go_enter Try.func38, Try.ntmps38
    go_wp2_with (at_builtin; refine wpList_append_by rfl (.tmp 5) (.tmp 6) _ _ rfl _ _ _ rfl rfl W2 HR.out ?_)
    go_wp2_with fail
    go_ret
    exact ⟨_, rfl, HE.out⟩
/-- Is it that number? -/
theorem isit_any (a x : Int) {P : Nat} (hP : w.cell? ⟨P, 0, none⟩ = some (.int .u64 x)) : Calls Try.prog 39 #[.int .u64 a, .pointer (some ⟨P, 0, none⟩)] w fun e w' => e = .returned (.bool (a == x)) ∧ w' = w := by
  go_enter Try.func39, Try.ntmps39
  go_wp2_with fail
  go_ret
  exact ⟨rfl, rfl⟩
/-- Where the first one is, or -1. -/
def IsAt (us : List Nat) (x : Nat) (r : Int) : Prop := (r = -1 ∧ x ∉ us) ∨ ∃ k : Nat, r = k ∧ us[k]? = some x ∧ ∀ j, j < k → us[j]? ≠ some x
set_option maxHeartbeats 1000000 in
theorem index_any {P x : Nat} (hl : us.length = l) (hm : l ≤ 100000) (hr : LR inU w A us) (hP : w.cell? ⟨P, 0, none⟩ = some (inU x)) :
    Calls Try.prog 48 #[.slice A l c, .func (.func 39) #[] #[.pointer (some ⟨P, 0, none⟩)]] w fun e w' => ∃ r, e = .returned (.int .i64 r) ∧ IsAt us x r ∧ w' = w := by
  have HR := Lib.hid hr
  have HL := Lib.hid hl
  have CI := Lib.hid (fun a => isit_any (w := w) a x hP)
  clear hr hl hP
  go_enter Try.func48, Try.ntmps48
  go_wp2_with fail
  go_loopg [8] l (fun gh i wr => ∃ k : Nat, k ≤ l ∧ gh = l - k ∧ i = .int .i64 k ∧ wr = w ∧ Hid (∀ j, j < k → us[j]? ≠ some x))
  case atStart => exact ⟨0, by omega, by omega, rfl, rfl, Lib.hid fun j hj => by omega⟩
  case round =>
    obtain ⟨k, hk, hg, rfl, rfl, hI⟩ := hrel
    by_cases hlt : k < l
    · obtain ⟨y, hy⟩ : ∃ y, us[k]? = some y := ⟨_, List.getElem?_eq_getElem (by rw [HL.out]; exact hlt)⟩
      obtain ⟨b, off, rfl, hb, hc⟩ := HR.out k y hy
      have HY := Lib.hid hy
      unfold inU at hc
      have C := Lib.hid (CI.out (y : Int))
      have l1 : (k : Int) < l := by omega
      have i1 : IntKind.i64.wrap ((k : Int) + 1) = (k : Int) + 1 := by rw [IntKind.wrap_i64]; omega
      clear hb hy
      by_cases hxy : x = y
      · have q0 : ((y : Int) == (x : Int)) = true := by simp [hxy]
        rw [q0] at C
        clear q0
        subst hxy
        go_wp2_with fail
        refine C.out.mono ?_; rintro e w1 ⟨rfl, rfl⟩
        go_wp2_with fail
        go_ret
        exact ⟨_, rfl, .inr ⟨k, rfl, HY.out, hI.out⟩, rfl⟩
      · have q0 : ((y : Int) == (x : Int)) = false := by simp; omega
        rw [q0] at C
        clear q0
        go_wp2_with fail
        refine C.out.mono ?_; rintro e w1 ⟨rfl, rfl⟩
        go_wp2_with fail
        go_roundg (l - (k + 1))
        case rel => exact ⟨k + 1, by omega, rfl, by simp, rfl, Lib.hid fun j hj => by
          rcases Nat.lt_succ_iff_lt_or_eq.1 hj with h | rfl
          · exact hI.out j h
          · rw [HY.out]; simpa using fun e => hxy e.symm⟩
        case measure => first | omega | (simp; omega)
    · obtain rfl : k = l := by omega
      clear hlt
      go_wp2_with fail
      go_ret
      exact ⟨_, rfl, .inl ⟨rfl, fun hm => by
        obtain ⟨j, hj⟩ := List.mem_iff_getElem?.1 hm
        exact hI.out j (by rw [← HL.out]; exact (List.getElem?_eq_some_iff.1 hj).1) hj⟩, rfl⟩
end
end Go.Proofs.Ytodionedjokdmaa
