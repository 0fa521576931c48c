/- BytesGrow. -/
import Derived.Test.YtkpdgjmeeeddhaaBn
set_option linter.unusedVariables false
set_option linter.unusedSimpArgs false
namespace Go.Proofs.Ytkpdgjmeeeddhaa
open Go.RowKit
set_option linter.unusedVariables false
set_option linter.unusedSimpArgs false
theorem wpList_copy_by {P : Program} {ops : Array Oper} {rest : List Oper} {o : Oper} {a : Act} {w : World} {Q : Exit → Act → World → Prop} (hgd : o.guard = none) (d s : Operand) (dT sT : TypeId)
    (ho : o.op = .call { callee := .builtin .copy, args := #[d, s], argTypes := #[dT, sT] }) (x y r : Value) (hd : a.eval d = x) (hs : a.eval s = y) (w' : World)
    (hrun : (Builtin.copy_ #[dT, sT] o.type #[x, y]).run P w = .ok r w') (h : wpList P ops Q rest (a.put o.dst r) w') : wpList P ops Q (o :: rest) a w := by
  refine wpList_plain hgd fun K hK => ?_
  unfold Oper.wp
  simp [execOp, ho, resolve, invoke, builtin, hd, hs, hrun, Result.andThen]
  exact hK _ _ h
theorem y_splice (z b : List Nat) (o : Nat) : splice (Y z) o (Y b) = Y (Fr.lay z o b) := by
  unfold splice Fr.lay Y
  rw [List.map_append, List.map_append, List.map_take, List.map_drop, List.length_map, List.append_assoc]
/-- Bytes in a block. -/
theorem br_block {w : World} {G : Nat} {bs : List Nat} (h : w.heap[G]? = some (Obj.cells (Y bs).toArray 5)) : BR w (some ⟨G, 0, none⟩) bs := fun i x hi =>
  ⟨_, _, rfl, (Array.getElem?_eq_some_iff.1 h).1, by rw [cell_of_row _ _ _ _ _ (0, 0) h, Nat.zero_add, List.getElem?_toArray]; exact Y_at hi⟩
theorem lay0 {b : List Nat} {N : Nat} (h : b.length ≤ N) (i : Nat) : (Fr.lay (List.replicate N 0) 0 b)[i]? = if i < b.length then b[i]? else if i < N then some 0 else none := by
  rw [Sg.lay_at _ _ _ _ (by rw [List.length_replicate]; omega), if_neg (by omega), Nat.zero_add, Nat.sub_zero, List.getElem?_replicate]
/-- What is left is what was wanted. -/
theorem grow_same {b : List Nat} {m n l : Nat} (hb : b.length = n) (hn : n ≤ 256) (hm : m < 4) (hl : min n (64 * m) = l) :
    Sg.rsz (Sg.rsz (Fr.lay (Sg.rsz [] 4) 0 b) m) 5 = Fr.lay (List.replicate 320 0) 0 (b.take l) := by
  have e0 : Sg.rsz [] 4 = List.replicate 256 0 := rfl
  rw [e0]
  have hlay : (Fr.lay (List.replicate 256 0) 0 b).length = 256 := by rw [Sg.lay_length (by rw [hb, List.length_replicate]; omega), List.length_replicate]
  have g1 := lay0 (b := b) (N := 256) (by omega)
  have g2 := lay0 (b := b.take l) (N := 320) (by rw [List.length_take]; omega)
  have h2 : (Fr.lay (List.replicate 320 0) 0 (b.take l)).length = 320 := by rw [Sg.lay_length (by rw [List.length_take, List.length_replicate]; omega), List.length_replicate]
  obtain ⟨L, eL⟩ : ∃ L, Fr.lay (List.replicate 256 0) 0 b = L := ⟨_, rfl⟩
  obtain ⟨M, eM⟩ : ∃ M, Fr.lay (List.replicate 320 0) 0 (b.take l) = M := ⟨_, rfl⟩
  rw [eL] at hlay g1 ⊢
  rw [eM] at h2 g2 ⊢
  have h1 : (L.take (64 * m)).length = 64 * m := by rw [List.length_take]; omega
  have e1 : Sg.rsz L m = L.take (64 * m) := by
    unfold Sg.rsz
    rw [hlay, show 64 * m - 256 = 0 by omega, List.replicate_zero, List.append_nil]
  rw [e1]
  unfold Sg.rsz
  rw [h1, List.take_of_length_le (by omega)]
  have hbl : (b.take l).length = l := by rw [List.length_take]; omega
  rw [hbl] at g2
  apply List.ext_getElem?
  intro i
  rw [g2 i, List.getElem?_append, h1, List.getElem?_take, g1 i, List.getElem?_replicate, List.getElem?_take]
  by_cases h3 : i < 64 * m
  · rw [if_pos h3, if_pos h3]
    by_cases h4 : i < n
    · rw [if_pos (by omega), if_pos (by omega), if_pos (by omega)]
    · rw [if_neg (by omega), if_pos (by omega), if_neg (by omega), if_pos (by omega)]
  · have h5 : ¬ i < l := by omega
    rw [if_neg h3, if_neg h5]
    by_cases h4 : i < 320
    · rw [if_pos h4, if_pos (by omega)]
    · rw [if_neg h4, if_neg (by omega)]
set_option maxHeartbeats 2000000 in
set_option maxRecDepth 100000 in
theorem grow_all (A : Option Addr) (n c : Nat) (bs : List Nat) (a : Int) (w : World) (hl : bs.length = n) (hc : n ≤ c) (hr : BR w A bs) (hx : ∀ x ∈ bs, x < 256) : Calls Try.prog 6 #[.slice A n c, .int .i64 a] w fun e w' => e = .returned (.bool true) ∧ Below w.heap.size w w' := by
  have CF := Lib.hid (fit_any w)
  by_cases h256 : 256 < n
  · have t1 : (256 : Int) < (n : Int) := by omega
    clear hl hc hr hx h256
    go_enter Try.func6, Try.ntmps6
    go_wp2_with fail
    refine CF.out.mono ?_
    rintro e w1 ⟨rfl, hb⟩
    have HB := Lib.hid hb
    clear hb
    go_wp2_with fail
    go_ret
    exact ⟨rfl, HB.out⟩
  have t1 : ¬ (256 : Int) < (n : Int) := by omega
  obtain ⟨m, e1, hm⟩ := and3 a
  have HB := Lib.hid (And.intro hl (And.intro hc (And.intro hr (And.intro hx (And.intro h256 hm)))))
  clear hl hc hr hx h256 hm
  go_enter Try.func6, Try.ntmps6
  go_wp2_with fail
  refine CF.out.mono ?_
  rintro e w1 ⟨rfl, hb1⟩
  have CN := Lib.hid (new_lw (W := w) (w := w1) 20 (by omega) (by omega) hb1)
  clear CF hb1
  go_wp2_with fail
  refine CN.out.mono ?_
  rintro e w2 ⟨R, ds, rfl, hL, hb⟩
  have hL1 := hL.below (below_alloc1 w2 (Obj.cells #[.slice none 0 0] 37))
  have CR := Lib.hid (resize_st (n := 4) hL1 (SV.new w2) (own_none 20 7 (by omega)) hL.1.size (by omega) (by omega) (by simp))
  have HQ := Lib.hid hL.1.size
  clear CN hL hb hL1
  go_wp2_with fail
  refine CR.out.mono ?_
  rintro e w3 ⟨rfl, v1, os1, ds1, fs1, hL, hs, ho, hl, _, hcont, hoth, _, _⟩
  obtain ⟨hbl, hbc, hbr, hbx, h256, hm⟩ := HB.out
  have hlt : ∀ b, A = some b → 0 < n → b.block < w.heap.size := fun b hb h0 => by
    obtain ⟨b', o', e, h1, _⟩ := hbr 0 _ (List.getElem?_eq_getElem (show 0 < bs.length by omega))
    rw [hb] at e; injection e with e; rw [e]; exact h1
  have CW := Lib.hid (bwrite_st (off := 0) (n := n) hL hs ho (by omega) hbl hbc (hbr.below hL.1) hlt hbx)
  have hc0 : Sg.cont ds1 fs1 = Sg.rsz [] 4 := hcont
  have hf1 : os1.count 0 = 16 := by
    have h1 := hoth.sum
    have h2 := ho.cnt
    rw [List.count_replicate, if_pos (by simp), List.count_replicate, if_neg (by simp)] at h1
    omega
  have H3 := Lib.hid (And.intro hs (And.intro ho (And.intro hl (And.intro hc0 (And.intro hf1 hlt)))))
  obtain ⟨q0, eq0⟩ : ∃ q0, w2.heap.size = q0 := ⟨_, rfl⟩
  rw [eq0] at CW H3 HQ ⊢
  clear CR hL hs ho hl hcont hoth eq0 hbl hbc hbr hbx h256 hm hc0 hf1 hlt
  go_wp2_with fail
  refine CW.out.mono ?_
  rintro e w4 ⟨rfl, ds2, hL, hk, hc2, hoth2⟩
  obtain ⟨hs, ho, hl, hc0, hf1, hlt⟩ := H3.out
  have hm := HB.out.2.2.2.2.2
  have CR := Lib.hid (resize_st (n := m) hL (hs.kp hk) ho HQ.out (by omega) (by omega) (by omega))
  have H4 := Lib.hid (show Sg.cont ds2 fs1 = Fr.lay (Sg.rsz [] 4) 0 bs by rw [hc2, hc0])
  clear CW hL hs ho hl hc0 hf1 hlt hm hk hc2 hoth2
  go_wp2_with fail
  refine CR.out.mono ?_
  rintro e w5 ⟨rfl, v3, os3, ds3, fs3, hL, hs, ho, hl, _, hcont, hoth, _, _⟩
  have hm := HB.out.2.2.2.2.2
  have hf3 : os3.count 0 + m = 20 := by
    have h1 := hoth.sum
    have h2 := ho.cnt
    have h3 := H3.out.2.1.cnt
    have h4 := H3.out.2.2.2.2.1
    have h5 := H3.out.2.2.1
    omega
  rw [H4.out] at hcont
  have CR2 := Lib.hid (resize_st (n := 5) hL hs ho HQ.out (by omega) (by omega) (by omega))
  have H5 := Lib.hid hcont
  clear CR hL hs ho hl hcont hoth hm hf3 H3 H4
  go_wp2_with fail
  refine CR2.out.mono ?_
  rintro e w6 ⟨rfl, v4, os4, ds4, fs4, hL, hs, ho, hl, _, hcont, _, _, _⟩
  rw [H5.out] at hcont
  have hmk : (Instr.makeSlice 30 (.int .i64 320) (.int .i64 320)).run Try.prog w6 = .ok (.slice (some ⟨w6.heap.size, 0, none⟩) 320 320) (w6.alloc (Obj.cells (Y (List.replicate 320 0)).toArray 5)) := run_bytes w6 320 (by omega)
  have b6 := below_alloc1 w6 (Obj.cells (Y (List.replicate 320 0)).toArray 5)
  have hnew := heap_alloc_new w6 (Obj.cells (Y (List.replicate 320 0)).toArray 5)
  obtain ⟨Z, eZ⟩ : ∃ Z, Y (List.replicate 320 0) = Z := ⟨_, rfl⟩
  rw [eZ] at hmk b6 hnew
  obtain ⟨W7, eW7⟩ : ∃ W7, w6.alloc (Obj.cells Z.toArray 5) = W7 := ⟨_, rfl⟩
  rw [eW7] at hmk b6 hnew
  obtain ⟨l, el⟩ : ∃ l, min n (64 * m) = l := ⟨_, rfl⟩
  obtain ⟨hbl, hbc, hbr, hbx, h256, hm⟩ := HB.out
  obtain ⟨W8, hcopy, hw8, hT8⟩ := copy_any W7 3 5 w6.heap.size 0 (64 * m) 320 n c l A Z (bs.take l) hnew (by rw [List.length_take]; omega) el (by right; rw [← eZ, Y_len]; simp; omega) ((br_take (hbr.below hL.1) l).below b6)
  have hgs := grow_same hbl (by omega) hm el
  have e8 : (if l = 0 then Z else splice Z 0 (Y (bs.take l))) = Y (Fr.lay (List.replicate 320 0) 0 (bs.take l)) := by
    rw [← y_splice, eZ]
    by_cases h0 : l = 0
    · rw [if_pos h0, h0, List.take_zero]; unfold splice Y; simp
    · rw [if_neg h0]
  rw [e8, ← hgs, ← hcont] at hw8
  have hb8 : Below w6.heap.size w6 W8 := b6.trans (hT8.below b6.size (by intro x hx; rw [List.mem_singleton.1 hx]; exact Nat.le_refl _))
  have hL8 := hL.below hb8
  have CRd := Lib.hid (read_lw (off := 0) (n := 320) hL8 (hs.below hb8) ho (by omega))
  have hcl := Sg.cont_len hL.dw (fun f hf => ho.lt hf)
  obtain ⟨M, eM⟩ : ∃ M, Sg.cont ds4 fs4 = M := ⟨_, rfl⟩
  rw [eM] at CRd hw8 hcl
  rw [List.drop_zero, List.take_of_length_le (by omega)] at CRd
  have HC := Lib.hid hcopy
  have HL := Lib.hid (And.intro hL8 (And.intro ho (And.intro hl hcl)))
  have HW := Lib.hid (br_block hw8)
  have HZ := Lib.hid hnew
  obtain ⟨G, eG⟩ : ∃ G, w6.heap.size = G := ⟨_, rfl⟩
  rw [eG] at hmk HC HW HZ
  have hm64 : RowKit.wrap64 ((m : Int) * 64) = ((64 * m : Nat) : Int) := by unfold RowKit.wrap64; omega
  have hm64' : IntKind.i64.wrap ((m : Int) * 64) = ((64 * m : Nat) : Int) := by rw [IntKind.wrap_i64]; omega
  obtain ⟨m6, em6⟩ : ∃ m6, 64 * m = m6 := ⟨_, rfl⟩
  have hm6 : m6 ≤ 192 := by omega
  rw [em6] at hm64 hm64' HC
  clear CR2 HB H5 hL hs ho hl hcont b6 hnew eZ eW7 el hbl hbc hbr hbx h256 hm hcopy hw8 hT8 hgs e8 hb8 hL8 hcl eM HQ em6
  go_wp2_with (refine wpList_copy_by rfl (.tmp 42) (.tmp 43) 30 30 rfl (.slice (some ⟨G, 0, none⟩) m6 320) (.slice A n c) _ rfl rfl W8 HC.out ?_)
  refine CRd.out.mono ?_
  rintro e w9 ⟨v9, rfl, hbw, hb9⟩
  obtain ⟨A9, c9, rfl, hc9, _, hr9, _, _⟩ := hbw.form
  obtain ⟨hL8, ho, hl, hcl⟩ := HL.out
  have hM : M.length = 320 := by omega
  rw [hM] at hc9 ⊢
  have s1 := conv_bytes w9 A9 320 c9 M hM hr9
  have s2 := conv_bytes w9 (some ⟨G, 0, none⟩) 320 320 M hM (HW.out.below hb9)
  have CC := count_lw (x := 7) (hL8.below hb9) (by omega)
  rw [ho.cnt, hl] at CC
  have CC := Lib.hid CC
  have HE := Lib.hid (hL8.below hb9).1
  clear hbw hb9 hr9 hL8 ho hl hcl hM HL HW CRd hc9
  go_wp2_with fail
  refine CC.out.mono ?_
  rintro e w10 ⟨rfl, rfl⟩
  go_wp2_with fail
  go_ret
  exact ⟨rfl, HE.out⟩
end Go.Proofs.Ytkpdgjmeeeddhaa
