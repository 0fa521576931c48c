/- All's iterator. -/
import Derived.Test.YtoccgbfnbpkphaaQb
import Derived.OwnWalkIn
import Derived.TacticsInMore
import Derived.LoopNIn
import Derived.LoopIn
set_option linter.unusedVariables false
set_option linter.unusedSimpArgs false
namespace Go.Proofs.Ytoccgbfnbpkphaa
open Go.RowKit Rn
set_option linter.unusedVariables false
set_option linter.unusedSimpArgs false
attribute [local go_sem] Oper.semAt_some
theorem RoundIn.any {n n' : Nat} {P : Program} {l : Nat} {f : FuncId} {tmps : Array Value} {assign body : Code} {w : World} {R : Ending → World → Prop} (h : RoundIn Fence.wide n P l f tmps assign body w R) : RoundIn Fence.wide n' P l f tmps assign body w R :=
  ⟨h.1, fun c cs _ => h.2 c cs (room_wide _)⟩
theorem YieldAt.any {m m' : Nat} {P : Program} {l : Nat} {args : Array Value} {w : World} {R : Ending → World → Prop} (h : YieldAt Fence.wide m P l args w R) : YieldAt Fence.wide m' P l args w R := by
  obtain ⟨fn, tmps, assign, body, hy, hR⟩ := h
  exact ⟨fn, tmps, assign, body, hy, RoundIn.any hR⟩
/-- A packet that is handed over: its bytes, their block, and its capacity. -/
structure It where
  p : List Nat
  b : Nat
  c : Nat
def It.v (x : It) : Value := .slice (some ⟨x.b, 0, none⟩) x.p.length x.c
def encI (x : It) : Array Value := #[x.v]
def ownI (x : It) : List Nat := [x.b]
def XI (ps : List (List Nat)) (pre : List It) (x : It) (W : World) : Prop := (pre ++ [x]).map It.p <+: ps ∧ NB W x.b x.p x.v
def FinI (ps : List (List Nat)) (xs : List It) : Prop := xs.map It.p = ps
theorem wait_prefix (g : Nat → Pk) {j n : Nat} (h : j ≤ n) : wait g j <+: wait g n := by
  obtain ⟨k, rfl⟩ : ∃ k, n = j + k := ⟨n - j, by omega⟩
  clear h
  induction k with
  | zero => exact ⟨[], by simp⟩
  | succ k ih => rw [← Nat.add_assoc, wait_succ]; exact ih.trans (List.prefix_append _ _)
theorem AZ.same {B N : Nat} {g : Nat → Pk} {n : Nat} {w w' : World} (h : AZ B N g n w) (hB : w'.heap[B]? = w.heap[B]?) (hN : w'.heap[N]? = w.heap[N]?) : AZ B N g n w' := by
  obtain ⟨c, cur, h1, h2, h3⟩ := h
  exact ⟨c, cur, hB.trans h1, hN.trans h2, h3⟩
/-- A load of many cells, in a round. -/
theorem wpListIn_load_mid {F : Fence} {nF : Nat} {P : Program} {ops : Array Oper} {rest : List Oper} {op : Oper} {a : Act} {w : World} {Q : Exit → Act → World → Prop} (hgd : op.guard = none) (ty : TypeId) (x : Operand) (ho : op.op = .load ty x)
    (b o : Nat) (hx : a.eval x = .pointer (some ⟨b, o, none⟩)) (cs : List Value) (d : TypeDesc) (hc : w.rangeAt b o cs)
    (hu : P.underlying ty = some d) (hd : d.isRow = true) (hi : (P.info? ty).map (·.size) = some cs.length)
    (h : wpListIn F nF P ops Q rest (a.put op.dst (.agg cs.toArray)) w) : wpListIn F nF P ops Q (op :: rest) a w := by
  refine wpListIn_plain hgd fun K' hK' => ?_
  unfold Oper.wpIn
  refine ⟨by simp [Oper.about, ho], ?_⟩
  rw [Oper.semAt_plain F _ _ (by rw [ho]; intro c hc'; cases hc')]
  unfold execOp
  simp only [ho, hx, Instr.loadAt, Instr.sureAddr, Sem.run_bind, Sem.run_pure, Result.andThen_ok, run_loadVar_mid w b o ty cs d hc hu hd hi]
  exact hK' _ _ h
theorem yield_nil (l : Nat) (X : World) : (binOp .eql 36 (.func (.yield l) #[] #[]) .nilFunc).run Try.prog X = .ok (.bool false) X := by kernel_rfl
set_option maxRecDepth 100000 in
set_option maxHeartbeats 4000000 in
theorem all_iter (B N : Nat) (g : Nat → Pk) (n : Nat) (hn : n ≤ 8) (hok : ∀ k, k < 8 → (g k).ok) : Iter Try.prog 18 #[.pointer (some ⟨B, 0, none⟩)] encI ownI [B, N] (XI (wait g n)) (AZ B N g n) (FinI (wait g n)) := by
  intro l m J Jx hJ hJx hY T W hT0 hT hZ h0
  have HY := Lib.hid hY
  have HJ := Lib.hid hJ
  have HS := Lib.hid (And.intro hT0 (And.intro hT (And.intro hZ (And.intro h0 hok))))
  have kept : ∀ X, Same T W X → ∀ b ∈ T, b < X.heap.size := fun X hs b hb => by
    have := hs b hb
    rw [Array.getElem?_eq_getElem (hT b hb)] at this
    exact (Array.getElem?_eq_some_iff.1 this).1
  have HK := Lib.hid kept
  obtain ⟨c, cur, z1, z2, z3, z4, z5⟩ := hZ
  have c1 : W.cell? ⟨B, 0, none⟩ = some (.slice (some ⟨N, 0, none⟩) n c) := by rw [cell_of_row _ _ 0 _ 49 (0, 0) z1]; rfl
  have HC := Lib.hid (And.intro z2 z5)
  have HP := Lib.hid (show (Try.prog.info? 26).map (·.size) = some 33 from size26)
  have HU := Lib.hid Try.underlying26
  clear hY hJ hJx hT0 hT h0 kept hok z1 z2 z3 z4 z5
  have yn := yield_nil l
  go_enter Try.func18, Try.ntmps18
  go_wp2
  go_loopw [9] (fun k wr => ∃ j : Nat, j ≤ n ∧ k = .int .i64 j ∧ Hid (∃ pre : List It, pre.map It.p = wait g j ∧ J T pre wr ∧ Same T W wr)) (fun k wr => n - (intOf k).toNat)
  case atStart => exact ⟨0, by omega, rfl, Lib.hid ⟨[], rfl, HS.out.2.2.2.1, Same.refl _ _⟩⟩
  case round =>
    obtain ⟨j, hj, rfl, hrel⟩ := hrel
    by_cases h8 : j = n
    · subst h8
      have HF := Lib.hid hrel.out
      clear hrel
      go_wp2_with fail
      go_end0
      obtain ⟨pre, h1, h2, h3⟩ := HF.out
      exact ⟨⟨_, rfl⟩, .inl ⟨pre, h1, h2, h3⟩⟩
    · have hlt : (j : Int) < n := by omega
      have hjn : j < n := by omega
      obtain ⟨pre, hpre, hJp, hSp⟩ := hrel.out
      have hTr := HK.out wr hSp
      obtain ⟨ks0, eks⟩ : ∃ ks0, kc (g j) = ks0 := ⟨_, rfl⟩
      have hok := HS.out.2.2.2.2 j (by omega)
      have hl : ks0.length = 33 := by rw [← eks]; exact kc_len hok.1
      have hNr : wr.heap[N]? = some (Obj.cells cur 26) := (hSp N (HS.out.1 N (by simp))).trans HC.out.1
      have HR := Lib.hid (show wr.rangeAt N (j * 33) ks0 from fun i u hu => by
        have hi : i < 33 := by rw [← hl]; exact (List.getElem?_eq_some_iff.1 hu).1
        rw [cell_of_row _ _ _ _ 26 (0, 0) hNr]
        refine take_at HC.out.2 ?_
        rw [ks_at (fun k hk => HS.out.2.2.2.2 k (by omega)) hjn hi, eks]
        exact hu)
      have HL := Lib.hid (show (Try.prog.info? 26).map (·.size) = some ks0.length by rw [hl]; exact size26)
      have hz := heap_alloc_new wr (Obj.cells #[Value.int IntKind.u8 0, Value.int IntKind.u8 0, Value.int IntKind.u8 0, Value.int IntKind.u8 0, Value.int IntKind.u8 0, Value.int IntKind.u8 0, Value.int IntKind.u8 0, Value.int IntKind.u8 0, Value.int IntKind.u8 0, Value.int IntKind.u8 0, Value.int IntKind.u8 0, Value.int IntKind.u8 0, Value.int IntKind.u8 0, Value.int IntKind.u8 0, Value.int IntKind.u8 0, Value.int IntKind.u8 0, Value.int IntKind.u8 0, Value.int IntKind.u8 0, Value.int IntKind.u8 0, Value.int IntKind.u8 0, Value.int IntKind.u8 0, Value.int IntKind.u8 0, Value.int IntKind.u8 0, Value.int IntKind.u8 0, Value.int IntKind.u8 0, Value.int IntKind.u8 0, Value.int IntKind.u8 0, Value.int IntKind.u8 0, Value.int IntKind.u8 0, Value.int IntKind.u8 0, Value.int IntKind.u8 0, Value.int IntKind.u8 0, Value.int IntKind.i64 0] 26)
      obtain ⟨W1, eW1⟩ : ∃ W1, wr.alloc (Obj.cells #[Value.int IntKind.u8 0, Value.int IntKind.u8 0, Value.int IntKind.u8 0, Value.int IntKind.u8 0, Value.int IntKind.u8 0, Value.int IntKind.u8 0, Value.int IntKind.u8 0, Value.int IntKind.u8 0, Value.int IntKind.u8 0, Value.int IntKind.u8 0, Value.int IntKind.u8 0, Value.int IntKind.u8 0, Value.int IntKind.u8 0, Value.int IntKind.u8 0, Value.int IntKind.u8 0, Value.int IntKind.u8 0, Value.int IntKind.u8 0, Value.int IntKind.u8 0, Value.int IntKind.u8 0, Value.int IntKind.u8 0, Value.int IntKind.u8 0, Value.int IntKind.u8 0, Value.int IntKind.u8 0, Value.int IntKind.u8 0, Value.int IntKind.u8 0, Value.int IntKind.u8 0, Value.int IntKind.u8 0, Value.int IntKind.u8 0, Value.int IntKind.u8 0, Value.int IntKind.u8 0, Value.int IntKind.u8 0, Value.int IntKind.u8 0, Value.int IntKind.i64 0] 26) = W1 := ⟨_, rfl⟩
      obtain ⟨Q, eQ⟩ : ∃ Q, wr.heap.size = Q := ⟨_, rfl⟩
      have hb1 : Below wr.heap.size wr W1 := by rw [← eW1]; exact below_alloc1 _ _
      rw [eW1, eQ] at hz
      have hz' : W1.heap[Q]? = some (Obj.cells zk.toArray 26) := hz
      have HT := Lib.hid (show W1.there Q 0 ks0.toArray.size from fun i hi => by
        rw [List.size_toArray, hl] at hi
        refine ⟨?_, frozen_of_row _ _ _ _ 26 hz'⟩
        rw [cell_of_row _ _ _ _ 26 (0, 0) hz', List.getElem?_toArray, List.getElem?_eq_getElem (by rw [zk_len]; omega)]; rfl)
      have HZ := Lib.hid (show (Try.prog.info? 26).map (·.size) = some ks0.toArray.size by rw [List.size_toArray, hl]; exact size26)
      have H1 := Lib.hid (show ks0.toArray.all (·.oneCell') = true by
        rw [List.all_toArray, List.all_eq_true]; intro u hu; exact kc_one (g j) u (by rw [eks]; exact hu))
      have hs : splice zk 0 ks0 = ks0 := by
        unfold splice; rw [hl]; simp [zk_len]
      obtain ⟨W2, eW2⟩ : ∃ W2, W1.setCells Q 0 ks0 = W2 := ⟨_, rfl⟩
      have hk2 : W2.heap[Q]? = some (Obj.cells ks0.toArray 26) := by
        rw [← eW2, setCells_heap Q 26 ks0 0 W1 zk hz' (by rw [hl, zk_len]; omega), hs]
      have hb2 : Below wr.heap.size wr W2 := hb1.trans (by rw [← eW2]; exact (setCells_turn Q ks0 0 W1 |>.below hb1.size (fun b hb => by rw [List.mem_singleton.1 hb]; omega)))
      have HLD := Lib.hid (show W2.rangeAt Q 0 ks0 from fun i u hu => by rw [cell_of_row _ _ _ _ 26 (0, 0) hk2, List.getElem?_toArray, Nat.zero_add]; exact hu)
      have BY := Lib.hid (bytes_any hok W2)
      rw [eks] at BY
      have HB := Lib.hid (And.intro hb2 (And.intro hpre (And.intro hJp (And.intro hSp hTr))))
      clear hz hz' hs hk2 hb1 hb2 hpre hJp hSp hTr hrel hNr hl hok eks
      go_upto_region 4 with (first | with_reducible refine wpList_load_mid rfl 26 (.tmp 11) rfl N (j * 33) rfl ks0 _ HR.out HU.out rfl HL.out ?_ | (with_reducible refine wpList_store_mid rfl 26 (.tmp 4) (.tmp 12) rfl Q 0 ks0.toArray rfl rfl HT.out HZ.out H1.out ?_))
      refine (wpIn_wide (n := 5)).1 ?_
      clear eW1 eQ HT HZ H1 HR
      gi_wp2_with (with_reducible refine wpListIn_load_mid rfl 26 (.tmp 4) rfl Q 0 rfl ks0 _ HLD.out HU.out rfl HL.out ?_)
      refine ⟨trivial, ?_⟩
      refine (callsIn_wide.2 BY.out).mono ?_
      rintro e9 w9 ⟨v9, rfl, ⟨b9, cap, cu9, rfl, k1, k2, k3, k4, k5, k6⟩, hb9⟩
      obtain ⟨hb2, hpre, hJp, hSp, hTr⟩ := HB.out
      have hok := HS.out.2.2.2.2 j (by omega)
      have hbs := hok.bs_len
      have hb29 : Below wr.heap.size wr w9 := hb2.trans (hb9.mono hb2.size)
      have hnT : b9 ∉ T := fun hm => by have := hTr b9 hm; have := hb2.size; omega
      have h9l := (Array.getElem?_eq_some_iff.1 k2).1
      have hT9 : ∀ b ∈ [b9] ++ T, b < w9.heap.size := fun b hb => by
        rcases List.mem_append.1 hb with hb | hb
        · rw [List.mem_singleton.1 hb]; exact h9l
        · exact Nat.lt_of_lt_of_le (hTr b hb) hb29.size
      have hJ9 : J ([b9] ++ T) pre w9 := HJ.out.more hJp hTr hb29 (fun b hb => ⟨by
        rcases List.mem_append.1 hb with hb | hb
        · rw [List.mem_singleton.1 hb]; have := hb2.size; exact .inr (by omega)
        · exact .inl hb, hT9 b hb⟩)
      have hS9 : Same T W w9 := hSp.trans (fun b hb => hb29.block b (hTr b hb))
      have hpre9 : (pre ++ [(⟨(g j).bs, b9, cap⟩ : It)]).map It.p = wait g (j + 1) := by rw [List.map_append, hpre, wait_succ]; rfl
      have hX : XI (wait g n) pre ⟨(g j).bs, b9, cap⟩ w9 := ⟨by rw [hpre9]; exact wait_prefix g (by omega), cap, cu9, rfl, k2, by rw [hbs]; exact k3, k4, by rw [hbs]; rw [Nat.mul_one] at k5; exact k5⟩
      obtain ⟨fn, tmps, assign, body, hy, hR⟩ := YieldAt.any (m' := 4) (HY.out T pre ⟨(g j).bs, b9, cap⟩ w9 HS.out.1 (fun b hb => by rw [List.mem_singleton.1 hb]; exact hnT) hT9 hX hJ9)
      dsimp only [encI, It.v] at hy
      rw [hbs] at hy
      have HP := Lib.hid (And.intro hpre9 hS9)
      clear hb2 hpre hJp hSp hTr hok hbs hb29 hnT h9l hT9 hJ9 hS9 hpre9 hX k1 k2 k3 k4 k5 k6 hb9 HB BY HLD HL
      gi_wp2_with fail
      refine hR.mono ?_
      rintro e9 W9 (⟨rfl, hJ9, hS9⟩ | ⟨rfl, hJx9, hS9⟩)
      · have H9 := Lib.hid (And.intro hJ9 (HP.out.2.trans hS9))
        clear hJ9 hS9
        gi_wp2
        go_wp2_with fail
        go_roundw
        case rel => exact ⟨j + 1, by omega, by go_num, Lib.hid ⟨_, HP.out.1, H9.out⟩⟩
        case measure => simp [intOf]; omega
      · have H9 := Lib.hid (And.intro hJx9 (HP.out.2.trans hS9))
        clear hJx9 hS9
        gi_wp2
        go_wp2_with fail
        refine bodyPost_ret (results_none rfl _ _ _) rfl ?_
        exact ⟨⟨_, rfl⟩, .inr ⟨_, H9.out⟩⟩
end Go.Proofs.Ytoccgbfnbpkphaa
