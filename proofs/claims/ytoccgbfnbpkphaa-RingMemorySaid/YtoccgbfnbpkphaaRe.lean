/- Put, Out. -/
import Derived.Test.YtoccgbfnbpkphaaRd
set_option linter.unusedVariables false
set_option linter.unusedSimpArgs false
namespace Go.Proofs.Ytoccgbfnbpkphaa
open Go.RowKit Rn
set_option linter.unusedVariables false
set_option linter.unusedSimpArgs false
variable {w w' : World} {R : Nat} {g : Nat → Pk} {n lost : Nat} {v : Value}
/-- Numbers, as cells. -/
def U (us : List Nat) : List Value := us.map (fun (c : Nat) => Value.int .u64 (c : Int))
theorem U_len (us : List Nat) : (U us).length = us.length := by simp [U]
theorem U_app (us vs : List Nat) : U (us ++ vs) = U us ++ U vs := by simp [U]
theorem U_at {us : List Nat} {i x : Nat} (h : us[i]? = some x) : (U us)[i]? = some (.int .u64 (x : Int)) := by
  unfold U; rw [List.getElem?_map, h]; rfl
theorem U_one (us : List Nat) : ∀ u ∈ U us, u.oneCell' = true := by
  intro u hu
  unfold U at hu
  obtain ⟨x, _, rfl⟩ := List.mem_map.1 hu
  rfl
/-- Numbers that went out, in memory of which 'own' tells. -/
def UO (own : Nat → Prop) (w : World) (us : List Nat) (v : Value) : Prop :=
  (us = [] ∧ v = .slice none 0 0) ∨ ∃ b c cur, v = .slice (some ⟨b, 0, none⟩) us.length c ∧ 0 < us.length ∧ own b ∧ w.heap[b]? = some (Obj.cells cur 33) ∧ us.length ≤ c ∧ c ≤ maxLen ∧ cur.toList.take us.length = U us
theorem UO.keep {own own' : Nat → Prop} {us : List Nat} (h : UO own w us v) (hk : ∀ b, own b → b < w.heap.size → own' b ∧ w'.heap[b]? = w.heap[b]?) : UO own' w' us v := by
  rcases h with h | ⟨b, c, cur, h1, h2, h3, h4, h5⟩
  · exact .inl h
  · obtain ⟨k1, k2⟩ := hk b h3 (Array.getElem?_eq_some_iff.1 h4).1
    exact .inr ⟨b, c, cur, h1, h2, k1, k2.trans h4, h5⟩
theorem UO.form {own : Nat → Prop} {us : List Nat} (h : UO own w us v) : ∃ A c, v = .slice A us.length c := by
  rcases h with ⟨rfl, h⟩ | ⟨b, c, cur, h1, _⟩
  · exact ⟨_, _, h⟩
  · exact ⟨_, _, h1⟩
theorem cells_u {b : Nat} {cur : Array Value} {us : List Nat} (h4 : w.heap[b]? = some (Obj.cells cur 33)) (h5 : cur.toList.take us.length = U us) : ∀ j u, (U us)[j]? = some u → w.cell? ((⟨b, 0, none⟩ : Addr).add j) = some u := fun j u hu => by
  rw [addr_add, Nat.zero_add, cell_of_row _ _ _ _ 33 (0, 0) h4]
  exact take_at h5 hu
theorem append_made (w : World) (base need old : Nat) (i : TypeInfo) (us : List Nat) (hn : us.length = need) (h0 : 0 < need) (hb : base ≤ w.heap.size) (hm : need ≤ 1000000) :
    UO (fun b => base ≤ b) (w.drew.alloc (.cells ((U us).toArray ++ Builtin.zeroCells (Value.int .u64 0).cells (grownCap w need old 33 - need)) 33)) us (.slice (some ⟨w.heap.size, 0, none⟩) need (grownCap w need old 33)) := by
  refine .inr ⟨_, _, _, by rw [hn], by omega, hb, heap_alloc_new w.drew _, by rw [hn]; exact grownCap_ge _ _ _ _, grownCap_le_maxLen _ _ _ _ (by unfold maxLen; omega), ?_⟩
  simp only [Array.toList_append]
  rw [← U_len us]
  exact List.take_left
theorem append_nil1 (w : World) (ty : TypeId) (q x : Nat) (hq : w.cell? ⟨q, 0, none⟩ = some (.int .u64 (x : Int))) :
    ∃ v' w', (Builtin.append_ #[28, 28] ty #[.slice none 0 0, .slice (some ⟨q, 0, none⟩) 1 1]).run Try.prog w = .ok v' w' ∧ UO (fun b => w.heap.size ≤ b) w' [x] v' ∧ Below w.heap.size w w' := by
  obtain ⟨i0, hi, hz0, hz1, hz2⟩ := info_parts infoU
  have hr := run_append_nil (P := Try.prog) w 28 ty 33 i0 (.int .u64 0) Try.underlying28 hi hz0 ⟨q, 0, none⟩ 1 1 (U [x]) (by rw [hz1]; rfl) (fun j u hu => by
    match j with
    | 0 => rw [addr_add]; rw [hq]; simpa [U] using hu
    | j + 1 => simp [U] at hu) (by omega) (by omega) (by rw [hz2]; omega)
  exact ⟨_, _, hr, append_made w _ 1 0 i0 [x] rfl (by omega) (Nat.le_refl _) (by omega), ((Below.refl w.heap.size w).drew).alloc (Nat.le_refl _) _⟩
theorem append_one (w : World) (ty : TypeId) (b q x : Nat) (us : List Nat) (cur : Array Value) (h0 : 0 < us.length) (hm : us.length ≤ 100000) (h4 : w.heap[b]? = some (Obj.cells cur 33)) (h5 : cur.toList.take us.length = U us) (hq : w.cell? ⟨q, 0, none⟩ = some (.int .u64 (x : Int))) :
    ∃ v' w', (Builtin.append_ #[28, 28] ty #[.slice (some ⟨b, 0, none⟩) us.length us.length, .slice (some ⟨q, 0, none⟩) 1 1]).run Try.prog w = .ok v' w' ∧ UO (fun b => w.heap.size ≤ b) w' (us ++ [x]) v' ∧ Below w.heap.size w w' := by
  obtain ⟨i0, hi, hz0, hz1, hz2⟩ := info_parts infoU
  have hr := run_append_grow (P := Try.prog) w 28 ty 33 i0 (.int .u64 0) Try.underlying28 hi hz0 ⟨b, 0, none⟩ us.length us.length (U us) (by rw [hz1, U_len, Nat.mul_one]) (cells_u h4 h5) ⟨q, 0, none⟩ 1 1 (U [x]) (by rw [hz1]; rfl) (fun j u hu => by
    match j with
    | 0 => rw [addr_add]; rw [hq]; simpa [U] using hu
    | j + 1 => simp [U] at hu) (by omega) (by omega) (growslice_fits (by omega) (by rw [hz2]; omega))
  refine ⟨_, _, hr, ?_, ((Below.refl w.heap.size w).drew).alloc (Nat.le_refl _) _⟩
  have := append_made w w.heap.size (us.length + 1) us.length i0 (us ++ [x]) (by simp) (by omega) (Nat.le_refl _) (by omega)
  rw [U_app] at this
  simpa using this
theorem wpList_append_by {P : Program} {ops : Array Oper} {rest : List Oper} {o : Oper} {a : Act} {w : World} {Q : Exit → Act → World → Prop} (hgd : o.guard = none) (d s : Operand) (dT sT : TypeId)
    (ho : o.op = .call { callee := .builtin .append, args := #[d, s], argTypes := #[dT, sT] }) (x y r : Value) (hd : a.eval d = x) (hs : a.eval s = y) (w' : World)
    (hrun : (Builtin.append_ #[dT, sT] o.type #[x, y]).run P w = .ok r w') (h : wpList P ops Q rest (a.put o.dst r) w') : wpList P ops Q (o :: rest) a w := by
  refine wpList_plain hgd fun K hK => ?_
  unfold Oper.wp
  simp [execOp, ho, resolve, invoke, builtin, hd, hs, hrun, Result.andThen]
  exact hK _ _ h
theorem put_none (w : World) (x : Nat) : Calls Try.prog 10 #[.pointer none, .int .u64 (x : Int)] w fun e w' => e = .returned (.bool false) ∧ w' = w := by
  go_enter Try.func10, Try.ntmps10
  go_wp2_with fail
  go_ret
  exact ⟨rfl, rfl⟩
theorem put_full {own : Nat → Prop} {us : List Nat} (h : RM w R g n lost v) (ho : UO own w us v) (hl : us.length = 1024) (x : Nat) : Calls Try.prog 10 #[.pointer (some ⟨R, 0, none⟩), .int .u64 (x : Int)] w fun e w' => e = .returned (.bool false) ∧ w' = w := by
  obtain ⟨A, c, rfl⟩ := ho.form
  have c1 := h.co
  rw [hl] at c1
  clear ho h
  go_enter Try.func10, Try.ntmps10
  go_wp2_with fail
  go_ret
  exact ⟨rfl, rfl⟩
set_option maxRecDepth 100000 in
set_option maxHeartbeats 1000000 in
theorem put_any {own : Nat → Prop} {us : List Nat} (h : RM w R g n lost v) (ho : UO own w us v) (hl : us.length < 1024) (x : Nat) : Calls Try.prog 10 #[.pointer (some ⟨R, 0, none⟩), .int .u64 (x : Int)] w fun e w' => e = .returned (.bool true) ∧ Turn [R] w w' ∧
    ∃ v', RM w' R g n lost v' ∧ UO (fun b => w.heap.size ≤ b) w' (us ++ [x]) v' := by
  have c1 := h.co
  have H := Lib.hid h
  have hR := h.lt
  clear h
  obtain ⟨W1, eW1⟩ : ∃ W1, w.alloc (Obj.cells #[.int .u64 (x : Int)] 33) = W1 := ⟨_, rfl⟩
  have hb1 : Below w.heap.size w W1 := by rw [← eW1]; exact below_alloc1 _ _
  have hq : W1.cell? ⟨w.heap.size, 0, none⟩ = some (.int .u64 (x : Int)) := by
    rw [← eW1, cell_of_row _ _ _ _ 33 (0, 0) (heap_alloc_new w _)]; rfl
  have keep : ∀ (us' : List Nat) (v' : Value) (W2 : World), UO (fun b => W1.heap.size ≤ b) W2 us' v' → UO (fun b => w.heap.size ≤ b) (W2.setCell ⟨R, 266, none⟩ v') us' v' := fun us' v' W2 hu => hu.keep fun b hb _ => by
    have hb' : W1.heap.size ≤ b := hb
    have := hb1.size
    exact ⟨by omega, heap_setCell_other _ _ _ _ (fun e => by simp only at e; omega)⟩
  rcases ho with ⟨rfl, rfl⟩ | ⟨b, c, cur, rfl, h0, h3, h4, h5, h6, h7⟩
  · obtain ⟨v', W2, hrun, hu, hb2⟩ := append_nil1 W1 28 w.heap.size x hq
    have C := Lib.hid (clip_nil w)
    have hr2 : RM W2 R g n lost (.slice none 0 0) := H.out.same ((hb2.block R (Nat.lt_of_lt_of_le hR hb1.size)).trans (hb1.block R hR))
    have f2 := hr2.fr 266
    have d2 := hr2.co
    have HE := Lib.hid (And.intro (hr2.seto v') (And.intro (((Turn.of_below (S := [R]) (hb1.trans (hb2.mono hb1.size))).trans (Turn.set W2 R 266 v') (fun x hx => .inl hx))) (keep _ _ _ hu)))
    obtain ⟨A', c', rfl⟩ := hu.form
    have HR := Lib.hid hrun
    clear hu hb2 hb1 hq H hr2 keep hrun
    go_enter Try.func10, Try.ntmps10
    go_wp2_with fail
    refine C.out.mono ?_; rintro e w1 ⟨rfl, rfl⟩
    clear C
    go_wp2_with (at_builtin; refine wpList_append_by rfl (.tmp 20) (.tmp 22) _ _ rfl _ _ _ rfl rfl W2 HR.out ?_)
    go_wp2_with fail
    go_ret
    exact ⟨rfl, HE.out.2.1, _, HE.out.1, HE.out.2.2⟩
  · obtain ⟨v', W2, hrun, hu, hb2⟩ := append_one W1 28 b w.heap.size x us cur h0 (by omega) (by rw [hb1.block b (Array.getElem?_eq_some_iff.1 h4).1]; exact h4) h7 hq
    have C := Lib.hid (clip_any w b us.length c h5 (by omega))
    have hr2 : RM W2 R g n lost _ := H.out.same ((hb2.block R (Nat.lt_of_lt_of_le hR hb1.size)).trans (hb1.block R hR))
    have f2 := hr2.fr 266
    have d2 := hr2.co
    have HE := Lib.hid (And.intro (hr2.seto v') (And.intro (((Turn.of_below (S := [R]) (hb1.trans (hb2.mono hb1.size))).trans (Turn.set W2 R 266 v') (fun x hx => .inl hx))) (keep _ _ _ hu)))
    obtain ⟨A', c', ev⟩ := hu.form
    rw [show (us ++ [x]).length = us.length + 1 by simp] at ev
    subst ev
    have HR := Lib.hid hrun
    have hl1 : ((us.length : Int) ≥ 1024) = False := by simp; omega
    have hl2 : decide ((us.length : Int) ≥ 1024) = false := by simp; omega
    have hl3 : ¬ (1024 : Int) ≤ (us.length : Int) := by omega
    have hl4 : (us.length : Int) < 1024 := by omega
    clear hu hb2 hb1 hq H hr2 h0 h3 h4 h5 h6 h7 keep hrun
    go_enter Try.func10, Try.ntmps10
    go_wp2_with fail
    refine C.out.mono ?_; rintro e w1 ⟨rfl, rfl⟩
    clear C
    go_wp2_with (at_builtin; refine wpList_append_by rfl (.tmp 20) (.tmp 22) _ _ rfl _ _ _ rfl rfl W2 HR.out ?_)
    go_wp2_with fail
    go_ret
    exact ⟨rfl, HE.out.2.1, _, HE.out.1, HE.out.2.2⟩
set_option maxHeartbeats 1000000 in
theorem out_any {own : Nat → Prop} {us : List Nat} (h : RM w R g n lost v) (ho : UO own w us v) (hl : us.length ≤ 1024) : Calls Try.prog 12 #[.pointer (some ⟨R, 0, none⟩)] w fun e w' => ∃ v', e = .returned v' ∧ Below w.heap.size w w' ∧ UO (fun b => w.heap.size ≤ b) w' us v' := by
  have c1 := h.co
  clear h
  rcases ho with ⟨rfl, rfl⟩ | ⟨b, c, cur, rfl, h0, h3, h4, h5, h6, h7⟩
  · have C := Lib.hid (clone_u64_nil w)
    go_enter Try.func12, Try.ntmps12
    go_wp2_with fail
    refine C.out.mono ?_; rintro e w1 ⟨rfl, rfl⟩
    clear C
    go_wp2_with fail
    go_ret
    exact ⟨_, rfl, Below.refl _ _, .inl ⟨rfl, rfl⟩⟩
  · have C := Lib.hid (clone_u64 ⟨b, 0, none⟩ c us.length (U us) w (U_len us) (by omega) (cells_u h4 h7) (U_one us))
    have H0 := Lib.hid h0
    clear h0 h3 h4 h5 h6 h7
    go_enter Try.func12, Try.ntmps12
    go_wp2_with fail
    refine C.out.mono ?_; rintro e w1 ⟨v', rfl, h1, h2⟩
    have H1 := Lib.hid (And.intro h1 h2)
    clear C h1 h2
    go_wp2_with fail
    go_ret
    obtain ⟨b', cap, cur', e1, e2, e3, e4, e5, e6, e7⟩ := H1.out.1
    rw [Nat.mul_one] at e6
    exact ⟨_, rfl, H1.out.2, .inr ⟨b', cap, cur', e1, H0.out, e2, e3, e4, e5, e6⟩⟩
end Go.Proofs.Ytoccgbfnbpkphaa
