/- A call of both: the model's play. Written by genGk.py. -/
import Derived.Test.YtnhfjipakhgjcaaGp
namespace Go.Proofs.Ytnhfjipakhgjcaa
open Go.RowKit
set_option linter.unusedVariables false
set_option linter.unusedSimpArgs false
theorem off5 (x : Int) : ∃ (t u v : Int), x.tmod 5 = t ∧ RowKit.wrap64 (t + 5) = u ∧ u.tmod 5 = v ∧ 0 ≤ v ∧ v < 5 := by
  have h1 := Int.tmod_lt_of_pos x (show (0 : Int) < 5 by omega)
  have h2 := Int.lt_tmod_of_pos x (show (0 : Int) < 5 by omega)
  have e : RowKit.wrap64 (x.tmod 5 + 5) = x.tmod 5 + 5 := by unfold RowKit.wrap64; omega
  refine ⟨_, _, _, rfl, rfl, rfl, ?_⟩
  rw [e, Int.tmod_eq_emod_of_nonneg (by omega)]
  omega
set_option maxHeartbeats 40000000 in
set_option maxRecDepth 100000 in
theorem play_all (W : World) (T : List Nat) (R M O D N : Nat) (os : List Nat) (ds : List (List Nat)) (bl : Nat → Nat) (k f off n : Int) (o : Nat) (A : Option Addr) (l c : Nat) (bs : List Nat) (w : World) (h1 : St W T R os ds w) (h2 : Md w M O D N os ds bl) (h3 : Has T M O D N os bl) (h4 : ∀ b ∈ T, W.heap.size ≤ b) (hN : N ≤ 20)
    (k1 : -9223372036854775808 ≤ k) (k2 : k ≤ 9223372036854775807) (f1 : -9223372036854775808 ≤ f) (f2 : f ≤ 9223372036854775807) (o1 : -9223372036854775808 ≤ off) (o2 : off ≤ 9223372036854775807) (n1 : -9223372036854775808 ≤ n) (n2 : n ≤ 9223372036854775807) (ho : o < 18446744073709551616)
    (hl : bs.length = l) (hl2 : l ≤ 200) (hc : l ≤ c) (hr : BR W A bs) (hb : ∀ x ∈ bs, x < 256) :
    Calls Try.prog 10 #[.pointer (some ⟨M, 0, none⟩), .pointer (some ⟨R, 0, none⟩), .agg #[.int .i64 k, .int .i64 f, .int .i64 off, .int .i64 n, .int .u64 (o : Int), .slice A l c]] w fun e w' => e = .returned (.bool true) ∧ PM W R M O D N w' := by
  have HC := Lib.hid (PC.of (k := k) (f := f) (off := off) (n := n) (o := o) (A := A) (l := l) (c := c) h1 h2 h3 h4)
  have HN := Lib.hid (And.intro hN h2.2.2.1)
  have HB := Lib.hid (And.intro (And.intro k1 k2) (And.intro (And.intro f1 f2) (And.intro (And.intro o1 o2) (And.intro (And.intro n1 n2) ho))))
  have HA := Lib.hid (And.intro hl (And.intro hl2 (And.intro hc (And.intro hr hb))))
  obtain ⟨th, hth⟩ : ∃ th, decide (Fr.own os f ≠ 0) = th := ⟨_, rfl⟩
  have HT := Lib.hid hth
  clear h1 h2 h3 h4 hN k1 k2 f1 f2 o1 o2 n1 n2 ho hl hl2 hc hr hb hth
  go_enter Try.func10, Try.ntmps10
  go_upto_region 1 with fail
  generalize w.alloc (Obj.cells #[.int .i64 k, .int .i64 f, .int .i64 off, .int .i64 n, .int .u64 (o : Int), .slice A l c] 34) = w0 at HC ⊢
  generalize w.heap.size = C at HC ⊢
  generalize C :: T = T0 at HC ⊢
  go_cut [7] (fun s7 wx => s7 = .bool th ∧ Hid (PC W T0 R M O D N os ds bl C k f off n o A l c wx))
  case first =>
   as_aux_lemma =>
    by_cases c1 : 1 ≤ f
    · as_aux_lemma =>
      by_cases c2 : f ≤ N
      · as_aux_lemma =>
        obtain ⟨i, hi⟩ : ∃ i : Nat, f - 1 = (i : Int) := ⟨f.toNat - 1, by omega⟩
        have iN : (i : Int) < N := by omega
        have iw : IntKind.i64.wrap (i : Int) = (i : Int) := by simp [IntKind.wrap, IntKind.bits, IntKind.signed]; have := HN.out; omega
        have hfi : f = (i : Int) + 1 := by omega
        have HF := Lib.hid hfi
        obtain ⟨x, hx⟩ : ∃ x, os.getD i 0 = x := ⟨_, rfl⟩
        have xt : ((x : Int) != 0) = th := by
          rw [← HT.out, HF.out, Fr.own_in os i (by rw [HN.out.2]; omega), hx]
          by_cases z : x = 0 <;> simp [z]
        have cw := (HC.out.2.1.owner i (by omega)).1
        rw [hx] at cw
        have KS := Lib.hid (And.intro HC.out.box.2.1 (And.intro HC.out.2.1.head.2 cw))
        clear hfi hx cw
        refine wp_region_held_drew (S := fun w' => w'.cell? ⟨C, 1, none⟩ = some (.int .i64 f) ∧ w'.cell? ⟨M, 1, none⟩ = some (.slice (some ⟨O, 0, none⟩) N N) ∧ w'.cell? ⟨O, i, none⟩ = some (.int .u64 (x : Int))) (by kernel_rfl) (KS.out) (fun hHeld => ?_)
        refine wpAnyH_take (i := 0) (oi := { dst := some 18, op := Op.fieldAddr 34 (Operand.tmp 5) 1, type := 0, pos := "law.go:32", after := #[], guard := none }) (v := ?vv1) rfl (by kernel_rfl) (by kernel_rfl) (by kernel_rfl) (fun _ _ _ h => h) (Or.inl ⟨by rfl, ?hy1⟩) hHeld ?rest1
        case hy1 => (intro wS hSw; (try dsimp only at hSw); go_simp; try with_reducible rfl)
        simp only [Act.put, List.setIfInBounds_toArray, List.set_cons_zero, List.set_cons_succ]
        refine wpAnyH_take (i := 1) (oi := { dst := some 19, op := Op.load 3 (Operand.tmp 18), type := 3, pos := "law.go:32", after := #[{ on := 0, ground := Ground.data }], guard := none }) (v := ?vv2) rfl (by kernel_rfl) (by kernel_rfl) (by kernel_rfl) (fun _ _ _ h => h) (Or.inl ⟨by rfl, ?hy2⟩) hHeld ?rest2
        case hy2 => (intro wS hSw; (try dsimp only at hSw); go_simp; try with_reducible rfl)
        simp only [Act.put, List.setIfInBounds_toArray, List.set_cons_zero, List.set_cons_succ]
        refine wpAnyH_take (i := 2) (oi := { dst := some 20, op := Op.binOp BinOp.geq 3 (Operand.tmp 19) (Operand.const (Value.int IntKind.i64 1)) 3, type := 4, pos := "law.go:32", after := #[{ on := 1, ground := Ground.data }], guard := none }) (v := ?vv3) rfl (by kernel_rfl) (by kernel_rfl) (by kernel_rfl) (fun _ _ _ h => h) (Or.inl ⟨by rfl, ?hy3⟩) hHeld ?rest3
        case hy3 => (intro wS hSw; (try dsimp only at hSw); go_simp; try with_reducible rfl)
        simp only [Act.put, List.setIfInBounds_toArray, List.set_cons_zero, List.set_cons_succ]
        refine wpAnyH_take (i := 3) (oi := { dst := some 21, op := Op.move (Operand.tmp 20), type := 4, pos := "law.go:32", after := #[{ on := 2, ground := Ground.data }], guard := none }) (v := ?vv4) rfl (by kernel_rfl) (by kernel_rfl) (by kernel_rfl) (fun _ _ _ h => h) (Or.inl ⟨by rfl, ?hy4⟩) hHeld ?rest4
        case hy4 => (intro wS hSw; (try dsimp only at hSw); go_simp; try with_reducible rfl)
        simp only [Act.put, List.setIfInBounds_toArray, List.set_cons_zero, List.set_cons_succ]
        refine wpAnyH_take (i := 4) (oi := { dst := some 22, op := Op.fieldAddr 34 (Operand.tmp 5) 1, type := 0, pos := "law.go:32", after := #[{ on := 3, ground := Ground.guard }], guard := some (3, true) }) (v := ?vv5) rfl (by kernel_rfl) (by kernel_rfl) (by kernel_rfl) (fun _ _ _ h => h) (Or.inl ⟨by rfl, ?hy5⟩) hHeld ?rest5
        case hy5 => (intro wS hSw; (try dsimp only at hSw); go_simp; try with_reducible rfl)
        simp only [Act.put, List.setIfInBounds_toArray, List.set_cons_zero, List.set_cons_succ]
        refine wpAnyH_take (i := 5) (oi := { dst := some 23, op := Op.load 3 (Operand.tmp 22), type := 3, pos := "law.go:32", after := #[{ on := 4, ground := Ground.data }, { on := 3, ground := Ground.guard }], guard := some (3, true) }) (v := ?vv6) rfl (by kernel_rfl) (by kernel_rfl) (by kernel_rfl) (fun _ _ _ h => h) (Or.inl ⟨by rfl, ?hy6⟩) hHeld ?rest6
        case hy6 => (intro wS hSw; (try dsimp only at hSw); go_simp; try with_reducible rfl)
        simp only [Act.put, List.setIfInBounds_toArray, List.set_cons_zero, List.set_cons_succ]
        refine wpAnyH_take (i := 6) (oi := { dst := some 24, op := Op.move (Operand.tmp 0), type := 26, pos := "law.go:32", after := #[{ on := 3, ground := Ground.guard }], guard := some (3, true) }) (v := ?vv7) rfl (by kernel_rfl) (by kernel_rfl) (by kernel_rfl) (fun _ _ _ h => h) (Or.inl ⟨by rfl, ?hy7⟩) hHeld ?rest7
        case hy7 => (intro wS hSw; (try dsimp only at hSw); go_simp; try with_reducible rfl)
        simp only [Act.put, List.setIfInBounds_toArray, List.set_cons_zero, List.set_cons_succ]
        refine wpAnyH_take (i := 7) (oi := { dst := some 25, op := Op.nilCheck (Operand.tmp 24), type := 0, pos := "law.go:32", after := #[{ on := 6, ground := Ground.data }, { on := 3, ground := Ground.guard }], guard := some (3, true) }) (v := ?vv8) rfl (by kernel_rfl) (by kernel_rfl) (by kernel_rfl) (fun _ _ _ h => h) (Or.inl ⟨by rfl, ?hy8⟩) hHeld ?rest8
        case hy8 => (intro wS hSw; (try dsimp only at hSw); go_simp; try with_reducible rfl)
        simp only [Act.put, List.setIfInBounds_toArray, List.set_cons_zero, List.set_cons_succ]
        refine wpAnyH_take (i := 8) (oi := { dst := some 26, op := Op.fieldAddr 30 (Operand.tmp 25) 1, type := 0, pos := "law.go:32", after := #[{ on := 7, ground := Ground.data }, { on := 3, ground := Ground.guard }], guard := some (3, true) }) (v := ?vv9) rfl (by kernel_rfl) (by kernel_rfl) (by kernel_rfl) (fun _ _ _ h => h) (Or.inl ⟨by rfl, ?hy9⟩) hHeld ?rest9
        case hy9 => (intro wS hSw; (try dsimp only at hSw); go_simp; try with_reducible rfl)
        simp only [Act.put, List.setIfInBounds_toArray, List.set_cons_zero, List.set_cons_succ]
        refine wpAnyH_take (i := 9) (oi := { dst := some 27, op := Op.load 28 (Operand.tmp 26), type := 28, pos := "law.go:32", after := #[{ on := 8, ground := Ground.data }, { on := 3, ground := Ground.guard }], guard := some (3, true) }) (v := ?vv10) rfl (by kernel_rfl) (by kernel_rfl) (by kernel_rfl) (fun _ _ _ h => h) (Or.inl ⟨by rfl, ?hy10⟩) hHeld ?rest10
        case hy10 => (intro wS hSw; (try dsimp only at hSw); go_simp; try with_reducible rfl)
        simp only [Act.put, List.setIfInBounds_toArray, List.set_cons_zero, List.set_cons_succ]
        refine wpAnyH_take (i := 10) (oi := { dst := some 28, op := Op.call { callee := Callee.builtin Builtin.len, args := #[Operand.tmp 27], argTypes := #[28] }, type := 3, pos := "law.go:32", after := #[{ on := 9, ground := Ground.data }, { on := 3, ground := Ground.guard }], guard := some (3, true) }) (v := ?vv11) rfl (by kernel_rfl) (by kernel_rfl) (by kernel_rfl) (fun _ _ _ h => h) (Or.inl ⟨by rfl, ?hy11⟩) hHeld ?rest11
        case hy11 => (intro wS hSw; (try dsimp only at hSw); go_simp; try with_reducible rfl)
        simp only [Act.put, List.setIfInBounds_toArray, List.set_cons_zero, List.set_cons_succ]
        refine wpAnyH_take (i := 11) (oi := { dst := some 29, op := Op.binOp BinOp.leq 3 (Operand.tmp 23) (Operand.tmp 28) 3, type := 4, pos := "law.go:32", after := #[{ on := 5, ground := Ground.data }, { on := 10, ground := Ground.data }, { on := 3, ground := Ground.guard }], guard := some (3, true) }) (v := ?vv12) rfl (by kernel_rfl) (by kernel_rfl) (by kernel_rfl) (fun _ _ _ h => h) (Or.inl ⟨by rfl, ?hy12⟩) hHeld ?rest12
        case hy12 => (intro wS hSw; (try dsimp only at hSw); go_simp; try with_reducible rfl)
        simp only [Act.put, List.setIfInBounds_toArray, List.set_cons_zero, List.set_cons_succ]
        refine wpAnyH_take (i := 12) (oi := { dst := some 30, op := Op.pick (Operand.tmp 21) (Operand.tmp 29) (Operand.const (Value.bool false)), type := 4, pos := "law.go:32", after := #[{ on := 3, ground := Ground.data }, { on := 11, ground := Ground.data }], guard := none }) (v := ?vv13) rfl (by kernel_rfl) (by kernel_rfl) (by kernel_rfl) (fun _ _ _ h => h) (Or.inl ⟨by rfl, ?hy13⟩) hHeld ?rest13
        case hy13 => (intro wS hSw; (try dsimp only at hSw); go_simp; try with_reducible rfl)
        simp only [Act.put, List.setIfInBounds_toArray, List.set_cons_zero, List.set_cons_succ]
        refine wpAnyH_take (i := 13) (oi := { dst := some 31, op := Op.move (Operand.tmp 30), type := 4, pos := "law.go:32", after := #[{ on := 12, ground := Ground.data }, { on := 3, ground := Ground.chain }], guard := none }) (v := ?vv14) rfl (by kernel_rfl) (by kernel_rfl) (by kernel_rfl) (fun _ _ _ h => h) (Or.inl ⟨by rfl, ?hy14⟩) hHeld ?rest14
        case hy14 => (intro wS hSw; (try dsimp only at hSw); go_simp; try with_reducible rfl)
        simp only [Act.put, List.setIfInBounds_toArray, List.set_cons_zero, List.set_cons_succ]
        refine wpAnyH_take (i := 14) (oi := { dst := some 32, op := Op.move (Operand.tmp 0), type := 26, pos := "law.go:32", after := #[{ on := 13, ground := Ground.guard }], guard := some (13, true) }) (v := ?vv15) rfl (by kernel_rfl) (by kernel_rfl) (by kernel_rfl) (fun _ _ _ h => h) (Or.inl ⟨by rfl, ?hy15⟩) hHeld ?rest15
        case hy15 => (intro wS hSw; (try dsimp only at hSw); go_simp; try with_reducible rfl)
        simp only [Act.put, List.setIfInBounds_toArray, List.set_cons_zero, List.set_cons_succ]
        refine wpAnyH_take (i := 15) (oi := { dst := some 33, op := Op.nilCheck (Operand.tmp 32), type := 0, pos := "law.go:32", after := #[{ on := 14, ground := Ground.data }, { on := 13, ground := Ground.guard }], guard := some (13, true) }) (v := ?vv16) rfl (by kernel_rfl) (by kernel_rfl) (by kernel_rfl) (fun _ _ _ h => h) (Or.inl ⟨by rfl, ?hy16⟩) hHeld ?rest16
        case hy16 => (intro wS hSw; (try dsimp only at hSw); go_simp; try with_reducible rfl)
        simp only [Act.put, List.setIfInBounds_toArray, List.set_cons_zero, List.set_cons_succ]
        refine wpAnyH_take (i := 16) (oi := { dst := some 34, op := Op.fieldAddr 30 (Operand.tmp 33) 1, type := 0, pos := "law.go:32", after := #[{ on := 15, ground := Ground.data }, { on := 13, ground := Ground.guard }], guard := some (13, true) }) (v := ?vv17) rfl (by kernel_rfl) (by kernel_rfl) (by kernel_rfl) (fun _ _ _ h => h) (Or.inl ⟨by rfl, ?hy17⟩) hHeld ?rest17
        case hy17 => (intro wS hSw; (try dsimp only at hSw); go_simp; try with_reducible rfl)
        simp only [Act.put, List.setIfInBounds_toArray, List.set_cons_zero, List.set_cons_succ]
        refine wpAnyH_take (i := 17) (oi := { dst := some 35, op := Op.load 28 (Operand.tmp 34), type := 28, pos := "law.go:32", after := #[{ on := 16, ground := Ground.data }, { on := 13, ground := Ground.guard }], guard := some (13, true) }) (v := ?vv18) rfl (by kernel_rfl) (by kernel_rfl) (by kernel_rfl) (fun _ _ _ h => h) (Or.inl ⟨by rfl, ?hy18⟩) hHeld ?rest18
        case hy18 => (intro wS hSw; (try dsimp only at hSw); go_simp; try with_reducible rfl)
        simp only [Act.put, List.setIfInBounds_toArray, List.set_cons_zero, List.set_cons_succ]
        refine wpAnyH_take (i := 18) (oi := { dst := some 36, op := Op.fieldAddr 34 (Operand.tmp 5) 1, type := 0, pos := "law.go:32", after := #[{ on := 13, ground := Ground.guard }], guard := some (13, true) }) (v := ?vv19) rfl (by kernel_rfl) (by kernel_rfl) (by kernel_rfl) (fun _ _ _ h => h) (Or.inl ⟨by rfl, ?hy19⟩) hHeld ?rest19
        case hy19 => (intro wS hSw; (try dsimp only at hSw); go_simp; try with_reducible rfl)
        simp only [Act.put, List.setIfInBounds_toArray, List.set_cons_zero, List.set_cons_succ]
        refine wpAnyH_take (i := 19) (oi := { dst := some 37, op := Op.load 3 (Operand.tmp 36), type := 3, pos := "law.go:32", after := #[{ on := 18, ground := Ground.data }, { on := 13, ground := Ground.guard }], guard := some (13, true) }) (v := ?vv20) rfl (by kernel_rfl) (by kernel_rfl) (by kernel_rfl) (fun _ _ _ h => h) (Or.inl ⟨by rfl, ?hy20⟩) hHeld ?rest20
        case hy20 => (intro wS hSw; (try dsimp only at hSw); go_simp; try with_reducible rfl)
        simp only [Act.put, List.setIfInBounds_toArray, List.set_cons_zero, List.set_cons_succ]
        refine wpAnyH_take (i := 20) (oi := { dst := some 38, op := Op.binOp BinOp.sub 3 (Operand.tmp 37) (Operand.const (Value.int IntKind.i64 1)) 3, type := 3, pos := "law.go:32", after := #[{ on := 19, ground := Ground.data }, { on := 13, ground := Ground.guard }], guard := some (13, true) }) (v := ?vv21) rfl (by kernel_rfl) (by kernel_rfl) (by kernel_rfl) (fun _ _ _ h => h) (Or.inl ⟨by rfl, ?hy21⟩) hHeld ?rest21
        case hy21 => (intro wS hSw; (try dsimp only at hSw); go_simp; try with_reducible rfl)
        simp only [Act.put, List.setIfInBounds_toArray, List.set_cons_zero, List.set_cons_succ]
        refine wpAnyH_take (i := 21) (oi := { dst := some 39, op := Op.indexAddr 28 (Operand.tmp 35) (Operand.tmp 38), type := 0, pos := "law.go:32", after := #[{ on := 17, ground := Ground.data }, { on := 20, ground := Ground.data }, { on := 13, ground := Ground.guard }], guard := some (13, true) }) (v := ?vv22) rfl (by kernel_rfl) (by kernel_rfl) (by kernel_rfl) (fun _ _ _ h => h) (Or.inl ⟨by rfl, ?hy22⟩) hHeld ?rest22
        case hy22 => (intro wS hSw; (try dsimp only at hSw); go_simp; try with_reducible rfl)
        simp only [Act.put, List.setIfInBounds_toArray, List.set_cons_zero, List.set_cons_succ]
        refine wpAnyH_take (i := 22) (oi := { dst := some 40, op := Op.load 31 (Operand.tmp 39), type := 31, pos := "law.go:32", after := #[{ on := 21, ground := Ground.data }, { on := 13, ground := Ground.guard }], guard := some (13, true) }) (v := ?vv23) rfl (by kernel_rfl) (by kernel_rfl) (by kernel_rfl) (fun _ _ _ h => h) (Or.inl ⟨by rfl, ?hy23⟩) hHeld ?rest23
        case hy23 => (intro wS hSw; (try dsimp only at hSw); go_simp; try with_reducible rfl)
        simp only [Act.put, List.setIfInBounds_toArray, List.set_cons_zero, List.set_cons_succ]
        refine wpAnyH_take (i := 23) (oi := { dst := some 41, op := Op.binOp BinOp.neq 31 (Operand.tmp 40) (Operand.const (Value.int IntKind.u64 0)) 31, type := 4, pos := "law.go:32", after := #[{ on := 22, ground := Ground.data }, { on := 13, ground := Ground.guard }], guard := some (13, true) }) (v := ?vv24) rfl (by kernel_rfl) (by kernel_rfl) (by kernel_rfl) (fun _ _ _ h => h) (Or.inl ⟨by rfl, ?hy24⟩) hHeld ?rest24
        case hy24 => (intro wS hSw; (try dsimp only at hSw); go_simp; try with_reducible rfl)
        simp only [Act.put, List.setIfInBounds_toArray, List.set_cons_zero, List.set_cons_succ]
        refine wpAnyH_take (i := 24) (oi := { dst := some 42, op := Op.pick (Operand.tmp 31) (Operand.tmp 41) (Operand.const (Value.bool false)), type := 4, pos := "law.go:32", after := #[{ on := 13, ground := Ground.data }, { on := 23, ground := Ground.data }], guard := none }) (v := ?vv25) rfl (by kernel_rfl) (by kernel_rfl) (by kernel_rfl) (fun _ _ _ h => h) (Or.inl ⟨by rfl, ?hy25⟩) hHeld ?rest25
        case hy25 => (intro wS hSw; (try dsimp only at hSw); go_simp; try with_reducible rfl)
        simp only [Act.put, List.setIfInBounds_toArray, List.set_cons_zero, List.set_cons_succ]
        refine wpAnyH_take (i := 25) (oi := { dst := some 7, op := Op.assign (Operand.tmp 42), type := 4, pos := "law.go:32", after := #[{ on := 24, ground := Ground.data }, { on := 13, ground := Ground.chain }, { on := 0, ground := Ground.phase }, { on := 1, ground := Ground.phase }, { on := 2, ground := Ground.phase }, { on := 3, ground := Ground.phase }, { on := 4, ground := Ground.phase }, { on := 5, ground := Ground.phase }, { on := 6, ground := Ground.phase }, { on := 7, ground := Ground.phase }, { on := 8, ground := Ground.phase }, { on := 9, ground := Ground.phase }, { on := 10, ground := Ground.phase }, { on := 11, ground := Ground.phase }, { on := 12, ground := Ground.phase }, { on := 13, ground := Ground.phase }, { on := 14, ground := Ground.phase }, { on := 15, ground := Ground.phase }, { on := 16, ground := Ground.phase }, { on := 17, ground := Ground.phase }, { on := 18, ground := Ground.phase }, { on := 19, ground := Ground.phase }, { on := 20, ground := Ground.phase }, { on := 21, ground := Ground.phase }, { on := 22, ground := Ground.phase }, { on := 23, ground := Ground.phase }, { on := 24, ground := Ground.phase }], guard := none }) (v := ?vv26) rfl (by kernel_rfl) (by kernel_rfl) (by kernel_rfl) (fun _ _ _ h => h) (Or.inl ⟨by rfl, ?hy26⟩) hHeld ?rest26
        case hy26 => (intro wS hSw; (try dsimp only at hSw); go_simp; try with_reducible rfl)
        simp only [Act.put, List.setIfInBounds_toArray, List.set_cons_zero, List.set_cons_succ]
        refine wpAnyH_done (by kernel_rfl) ?_ _
        go_wp2_with fail
        go_meet
        try exact ⟨rfl, Lib.hid HC.out.drew⟩
      · as_aux_lemma =>
        have tz : th = false := by rw [← HT.out, Fr.own_out os f (by rw [HN.out.2]; omega)]; rfl
        subst tz
        have c2' : ¬ f ≤ (N : Int) := c2
        have KS := Lib.hid (And.intro HC.out.box.2.1 HC.out.2.1.head.2)
        refine wp_region_held_drew (S := fun w' => w'.cell? ⟨C, 1, none⟩ = some (.int .i64 f) ∧ w'.cell? ⟨M, 1, none⟩ = some (.slice (some ⟨O, 0, none⟩) N N)) (by kernel_rfl) (KS.out) (fun hHeld => ?_)
        refine wpAnyH_take (i := 0) (oi := { dst := some 18, op := Op.fieldAddr 34 (Operand.tmp 5) 1, type := 0, pos := "law.go:32", after := #[], guard := none }) (v := ?vv27) rfl (by kernel_rfl) (by kernel_rfl) (by kernel_rfl) (fun _ _ _ h => h) (Or.inl ⟨by rfl, ?hy27⟩) hHeld ?rest27
        case hy27 => (intro wS hSw; (try dsimp only at hSw); go_simp; try with_reducible rfl)
        simp only [Act.put, List.setIfInBounds_toArray, List.set_cons_zero, List.set_cons_succ]
        refine wpAnyH_take (i := 1) (oi := { dst := some 19, op := Op.load 3 (Operand.tmp 18), type := 3, pos := "law.go:32", after := #[{ on := 0, ground := Ground.data }], guard := none }) (v := ?vv28) rfl (by kernel_rfl) (by kernel_rfl) (by kernel_rfl) (fun _ _ _ h => h) (Or.inl ⟨by rfl, ?hy28⟩) hHeld ?rest28
        case hy28 => (intro wS hSw; (try dsimp only at hSw); go_simp; try with_reducible rfl)
        simp only [Act.put, List.setIfInBounds_toArray, List.set_cons_zero, List.set_cons_succ]
        refine wpAnyH_take (i := 2) (oi := { dst := some 20, op := Op.binOp BinOp.geq 3 (Operand.tmp 19) (Operand.const (Value.int IntKind.i64 1)) 3, type := 4, pos := "law.go:32", after := #[{ on := 1, ground := Ground.data }], guard := none }) (v := ?vv29) rfl (by kernel_rfl) (by kernel_rfl) (by kernel_rfl) (fun _ _ _ h => h) (Or.inl ⟨by rfl, ?hy29⟩) hHeld ?rest29
        case hy29 => (intro wS hSw; (try dsimp only at hSw); go_simp; try with_reducible rfl)
        simp only [Act.put, List.setIfInBounds_toArray, List.set_cons_zero, List.set_cons_succ]
        refine wpAnyH_take (i := 3) (oi := { dst := some 21, op := Op.move (Operand.tmp 20), type := 4, pos := "law.go:32", after := #[{ on := 2, ground := Ground.data }], guard := none }) (v := ?vv30) rfl (by kernel_rfl) (by kernel_rfl) (by kernel_rfl) (fun _ _ _ h => h) (Or.inl ⟨by rfl, ?hy30⟩) hHeld ?rest30
        case hy30 => (intro wS hSw; (try dsimp only at hSw); go_simp; try with_reducible rfl)
        simp only [Act.put, List.setIfInBounds_toArray, List.set_cons_zero, List.set_cons_succ]
        refine wpAnyH_take (i := 4) (oi := { dst := some 22, op := Op.fieldAddr 34 (Operand.tmp 5) 1, type := 0, pos := "law.go:32", after := #[{ on := 3, ground := Ground.guard }], guard := some (3, true) }) (v := ?vv31) rfl (by kernel_rfl) (by kernel_rfl) (by kernel_rfl) (fun _ _ _ h => h) (Or.inl ⟨by rfl, ?hy31⟩) hHeld ?rest31
        case hy31 => (intro wS hSw; (try dsimp only at hSw); go_simp; try with_reducible rfl)
        simp only [Act.put, List.setIfInBounds_toArray, List.set_cons_zero, List.set_cons_succ]
        refine wpAnyH_take (i := 5) (oi := { dst := some 23, op := Op.load 3 (Operand.tmp 22), type := 3, pos := "law.go:32", after := #[{ on := 4, ground := Ground.data }, { on := 3, ground := Ground.guard }], guard := some (3, true) }) (v := ?vv32) rfl (by kernel_rfl) (by kernel_rfl) (by kernel_rfl) (fun _ _ _ h => h) (Or.inl ⟨by rfl, ?hy32⟩) hHeld ?rest32
        case hy32 => (intro wS hSw; (try dsimp only at hSw); go_simp; try with_reducible rfl)
        simp only [Act.put, List.setIfInBounds_toArray, List.set_cons_zero, List.set_cons_succ]
        refine wpAnyH_take (i := 6) (oi := { dst := some 24, op := Op.move (Operand.tmp 0), type := 26, pos := "law.go:32", after := #[{ on := 3, ground := Ground.guard }], guard := some (3, true) }) (v := ?vv33) rfl (by kernel_rfl) (by kernel_rfl) (by kernel_rfl) (fun _ _ _ h => h) (Or.inl ⟨by rfl, ?hy33⟩) hHeld ?rest33
        case hy33 => (intro wS hSw; (try dsimp only at hSw); go_simp; try with_reducible rfl)
        simp only [Act.put, List.setIfInBounds_toArray, List.set_cons_zero, List.set_cons_succ]
        refine wpAnyH_take (i := 7) (oi := { dst := some 25, op := Op.nilCheck (Operand.tmp 24), type := 0, pos := "law.go:32", after := #[{ on := 6, ground := Ground.data }, { on := 3, ground := Ground.guard }], guard := some (3, true) }) (v := ?vv34) rfl (by kernel_rfl) (by kernel_rfl) (by kernel_rfl) (fun _ _ _ h => h) (Or.inl ⟨by rfl, ?hy34⟩) hHeld ?rest34
        case hy34 => (intro wS hSw; (try dsimp only at hSw); go_simp; try with_reducible rfl)
        simp only [Act.put, List.setIfInBounds_toArray, List.set_cons_zero, List.set_cons_succ]
        refine wpAnyH_take (i := 8) (oi := { dst := some 26, op := Op.fieldAddr 30 (Operand.tmp 25) 1, type := 0, pos := "law.go:32", after := #[{ on := 7, ground := Ground.data }, { on := 3, ground := Ground.guard }], guard := some (3, true) }) (v := ?vv35) rfl (by kernel_rfl) (by kernel_rfl) (by kernel_rfl) (fun _ _ _ h => h) (Or.inl ⟨by rfl, ?hy35⟩) hHeld ?rest35
        case hy35 => (intro wS hSw; (try dsimp only at hSw); go_simp; try with_reducible rfl)
        simp only [Act.put, List.setIfInBounds_toArray, List.set_cons_zero, List.set_cons_succ]
        refine wpAnyH_take (i := 9) (oi := { dst := some 27, op := Op.load 28 (Operand.tmp 26), type := 28, pos := "law.go:32", after := #[{ on := 8, ground := Ground.data }, { on := 3, ground := Ground.guard }], guard := some (3, true) }) (v := ?vv36) rfl (by kernel_rfl) (by kernel_rfl) (by kernel_rfl) (fun _ _ _ h => h) (Or.inl ⟨by rfl, ?hy36⟩) hHeld ?rest36
        case hy36 => (intro wS hSw; (try dsimp only at hSw); go_simp; try with_reducible rfl)
        simp only [Act.put, List.setIfInBounds_toArray, List.set_cons_zero, List.set_cons_succ]
        refine wpAnyH_take (i := 10) (oi := { dst := some 28, op := Op.call { callee := Callee.builtin Builtin.len, args := #[Operand.tmp 27], argTypes := #[28] }, type := 3, pos := "law.go:32", after := #[{ on := 9, ground := Ground.data }, { on := 3, ground := Ground.guard }], guard := some (3, true) }) (v := ?vv37) rfl (by kernel_rfl) (by kernel_rfl) (by kernel_rfl) (fun _ _ _ h => h) (Or.inl ⟨by rfl, ?hy37⟩) hHeld ?rest37
        case hy37 => (intro wS hSw; (try dsimp only at hSw); go_simp; try with_reducible rfl)
        simp only [Act.put, List.setIfInBounds_toArray, List.set_cons_zero, List.set_cons_succ]
        refine wpAnyH_take (i := 11) (oi := { dst := some 29, op := Op.binOp BinOp.leq 3 (Operand.tmp 23) (Operand.tmp 28) 3, type := 4, pos := "law.go:32", after := #[{ on := 5, ground := Ground.data }, { on := 10, ground := Ground.data }, { on := 3, ground := Ground.guard }], guard := some (3, true) }) (v := ?vv38) rfl (by kernel_rfl) (by kernel_rfl) (by kernel_rfl) (fun _ _ _ h => h) (Or.inl ⟨by rfl, ?hy38⟩) hHeld ?rest38
        case hy38 => (intro wS hSw; (try dsimp only at hSw); go_simp; try with_reducible rfl)
        simp only [Act.put, List.setIfInBounds_toArray, List.set_cons_zero, List.set_cons_succ]
        refine wpAnyH_take (i := 12) (oi := { dst := some 30, op := Op.pick (Operand.tmp 21) (Operand.tmp 29) (Operand.const (Value.bool false)), type := 4, pos := "law.go:32", after := #[{ on := 3, ground := Ground.data }, { on := 11, ground := Ground.data }], guard := none }) (v := ?vv39) rfl (by kernel_rfl) (by kernel_rfl) (by kernel_rfl) (fun _ _ _ h => h) (Or.inl ⟨by rfl, ?hy39⟩) hHeld ?rest39
        case hy39 => (intro wS hSw; (try dsimp only at hSw); go_simp; try with_reducible rfl)
        simp only [Act.put, List.setIfInBounds_toArray, List.set_cons_zero, List.set_cons_succ]
        refine wpAnyH_take (i := 13) (oi := { dst := some 31, op := Op.move (Operand.tmp 30), type := 4, pos := "law.go:32", after := #[{ on := 12, ground := Ground.data }, { on := 3, ground := Ground.chain }], guard := none }) (v := ?vv40) rfl (by kernel_rfl) (by kernel_rfl) (by kernel_rfl) (fun _ _ _ h => h) (Or.inl ⟨by rfl, ?hy40⟩) hHeld ?rest40
        case hy40 => (intro wS hSw; (try dsimp only at hSw); go_simp; try with_reducible rfl)
        simp only [Act.put, List.setIfInBounds_toArray, List.set_cons_zero, List.set_cons_succ]
        refine wpAnyH_take (i := 14) (oi := { dst := some 32, op := Op.move (Operand.tmp 0), type := 26, pos := "law.go:32", after := #[{ on := 13, ground := Ground.guard }], guard := some (13, true) }) (v := undef) rfl (by kernel_rfl) (by kernel_rfl) (by kernel_rfl) (fun _ _ _ h => h) (Or.inr ⟨by rfl, rfl⟩) hHeld ?_
        simp only [Act.put, List.setIfInBounds_toArray, List.set_cons_zero, List.set_cons_succ]
        refine wpAnyH_take (i := 15) (oi := { dst := some 33, op := Op.nilCheck (Operand.tmp 32), type := 0, pos := "law.go:32", after := #[{ on := 14, ground := Ground.data }, { on := 13, ground := Ground.guard }], guard := some (13, true) }) (v := undef) rfl (by kernel_rfl) (by kernel_rfl) (by kernel_rfl) (fun _ _ _ h => h) (Or.inr ⟨by rfl, rfl⟩) hHeld ?_
        simp only [Act.put, List.setIfInBounds_toArray, List.set_cons_zero, List.set_cons_succ]
        refine wpAnyH_take (i := 16) (oi := { dst := some 34, op := Op.fieldAddr 30 (Operand.tmp 33) 1, type := 0, pos := "law.go:32", after := #[{ on := 15, ground := Ground.data }, { on := 13, ground := Ground.guard }], guard := some (13, true) }) (v := undef) rfl (by kernel_rfl) (by kernel_rfl) (by kernel_rfl) (fun _ _ _ h => h) (Or.inr ⟨by rfl, rfl⟩) hHeld ?_
        simp only [Act.put, List.setIfInBounds_toArray, List.set_cons_zero, List.set_cons_succ]
        refine wpAnyH_take (i := 17) (oi := { dst := some 35, op := Op.load 28 (Operand.tmp 34), type := 28, pos := "law.go:32", after := #[{ on := 16, ground := Ground.data }, { on := 13, ground := Ground.guard }], guard := some (13, true) }) (v := undef) rfl (by kernel_rfl) (by kernel_rfl) (by kernel_rfl) (fun _ _ _ h => h) (Or.inr ⟨by rfl, rfl⟩) hHeld ?_
        simp only [Act.put, List.setIfInBounds_toArray, List.set_cons_zero, List.set_cons_succ]
        refine wpAnyH_take (i := 18) (oi := { dst := some 36, op := Op.fieldAddr 34 (Operand.tmp 5) 1, type := 0, pos := "law.go:32", after := #[{ on := 13, ground := Ground.guard }], guard := some (13, true) }) (v := undef) rfl (by kernel_rfl) (by kernel_rfl) (by kernel_rfl) (fun _ _ _ h => h) (Or.inr ⟨by rfl, rfl⟩) hHeld ?_
        simp only [Act.put, List.setIfInBounds_toArray, List.set_cons_zero, List.set_cons_succ]
        refine wpAnyH_take (i := 19) (oi := { dst := some 37, op := Op.load 3 (Operand.tmp 36), type := 3, pos := "law.go:32", after := #[{ on := 18, ground := Ground.data }, { on := 13, ground := Ground.guard }], guard := some (13, true) }) (v := undef) rfl (by kernel_rfl) (by kernel_rfl) (by kernel_rfl) (fun _ _ _ h => h) (Or.inr ⟨by rfl, rfl⟩) hHeld ?_
        simp only [Act.put, List.setIfInBounds_toArray, List.set_cons_zero, List.set_cons_succ]
        refine wpAnyH_take (i := 20) (oi := { dst := some 38, op := Op.binOp BinOp.sub 3 (Operand.tmp 37) (Operand.const (Value.int IntKind.i64 1)) 3, type := 3, pos := "law.go:32", after := #[{ on := 19, ground := Ground.data }, { on := 13, ground := Ground.guard }], guard := some (13, true) }) (v := undef) rfl (by kernel_rfl) (by kernel_rfl) (by kernel_rfl) (fun _ _ _ h => h) (Or.inr ⟨by rfl, rfl⟩) hHeld ?_
        simp only [Act.put, List.setIfInBounds_toArray, List.set_cons_zero, List.set_cons_succ]
        refine wpAnyH_take (i := 21) (oi := { dst := some 39, op := Op.indexAddr 28 (Operand.tmp 35) (Operand.tmp 38), type := 0, pos := "law.go:32", after := #[{ on := 17, ground := Ground.data }, { on := 20, ground := Ground.data }, { on := 13, ground := Ground.guard }], guard := some (13, true) }) (v := undef) rfl (by kernel_rfl) (by kernel_rfl) (by kernel_rfl) (fun _ _ _ h => h) (Or.inr ⟨by rfl, rfl⟩) hHeld ?_
        simp only [Act.put, List.setIfInBounds_toArray, List.set_cons_zero, List.set_cons_succ]
        refine wpAnyH_take (i := 22) (oi := { dst := some 40, op := Op.load 31 (Operand.tmp 39), type := 31, pos := "law.go:32", after := #[{ on := 21, ground := Ground.data }, { on := 13, ground := Ground.guard }], guard := some (13, true) }) (v := undef) rfl (by kernel_rfl) (by kernel_rfl) (by kernel_rfl) (fun _ _ _ h => h) (Or.inr ⟨by rfl, rfl⟩) hHeld ?_
        simp only [Act.put, List.setIfInBounds_toArray, List.set_cons_zero, List.set_cons_succ]
        refine wpAnyH_take (i := 23) (oi := { dst := some 41, op := Op.binOp BinOp.neq 31 (Operand.tmp 40) (Operand.const (Value.int IntKind.u64 0)) 31, type := 4, pos := "law.go:32", after := #[{ on := 22, ground := Ground.data }, { on := 13, ground := Ground.guard }], guard := some (13, true) }) (v := undef) rfl (by kernel_rfl) (by kernel_rfl) (by kernel_rfl) (fun _ _ _ h => h) (Or.inr ⟨by rfl, rfl⟩) hHeld ?_
        simp only [Act.put, List.setIfInBounds_toArray, List.set_cons_zero, List.set_cons_succ]
        refine wpAnyH_take (i := 24) (oi := { dst := some 42, op := Op.pick (Operand.tmp 31) (Operand.tmp 41) (Operand.const (Value.bool false)), type := 4, pos := "law.go:32", after := #[{ on := 13, ground := Ground.data }, { on := 23, ground := Ground.data }], guard := none }) (v := ?vv41) rfl (by kernel_rfl) (by kernel_rfl) (by kernel_rfl) (fun _ _ _ h => h) (Or.inl ⟨by rfl, ?hy41⟩) hHeld ?rest41
        case hy41 => (intro wS hSw; (try dsimp only at hSw); go_simp; try with_reducible rfl)
        simp only [Act.put, List.setIfInBounds_toArray, List.set_cons_zero, List.set_cons_succ]
        refine wpAnyH_take (i := 25) (oi := { dst := some 7, op := Op.assign (Operand.tmp 42), type := 4, pos := "law.go:32", after := #[{ on := 24, ground := Ground.data }, { on := 13, ground := Ground.chain }, { on := 0, ground := Ground.phase }, { on := 1, ground := Ground.phase }, { on := 2, ground := Ground.phase }, { on := 3, ground := Ground.phase }, { on := 4, ground := Ground.phase }, { on := 5, ground := Ground.phase }, { on := 6, ground := Ground.phase }, { on := 7, ground := Ground.phase }, { on := 8, ground := Ground.phase }, { on := 9, ground := Ground.phase }, { on := 10, ground := Ground.phase }, { on := 11, ground := Ground.phase }, { on := 12, ground := Ground.phase }, { on := 13, ground := Ground.phase }, { on := 14, ground := Ground.phase }, { on := 15, ground := Ground.phase }, { on := 16, ground := Ground.phase }, { on := 17, ground := Ground.phase }, { on := 18, ground := Ground.phase }, { on := 19, ground := Ground.phase }, { on := 20, ground := Ground.phase }, { on := 21, ground := Ground.phase }, { on := 22, ground := Ground.phase }, { on := 23, ground := Ground.phase }, { on := 24, ground := Ground.phase }], guard := none }) (v := ?vv42) rfl (by kernel_rfl) (by kernel_rfl) (by kernel_rfl) (fun _ _ _ h => h) (Or.inl ⟨by rfl, ?hy42⟩) hHeld ?rest42
        case hy42 => (intro wS hSw; (try dsimp only at hSw); go_simp; try with_reducible rfl)
        simp only [Act.put, List.setIfInBounds_toArray, List.set_cons_zero, List.set_cons_succ]
        refine wpAnyH_done (by kernel_rfl) ?_ _
        go_wp2_with fail
        go_meet
        try exact ⟨rfl, Lib.hid HC.out.drew⟩
    · as_aux_lemma =>
      have tz : th = false := by rw [← HT.out, Fr.own_out os f (by omega)]; rfl
      subst tz
      have KS := Lib.hid (And.intro HC.out.box.2.1 HC.out.2.1.head.2)
      refine wp_region_held_drew (S := fun w' => w'.cell? ⟨C, 1, none⟩ = some (.int .i64 f) ∧ w'.cell? ⟨M, 1, none⟩ = some (.slice (some ⟨O, 0, none⟩) N N)) (by kernel_rfl) (KS.out) (fun hHeld => ?_)
      refine wpAnyH_take (i := 0) (oi := { dst := some 18, op := Op.fieldAddr 34 (Operand.tmp 5) 1, type := 0, pos := "law.go:32", after := #[], guard := none }) (v := ?vv43) rfl (by kernel_rfl) (by kernel_rfl) (by kernel_rfl) (fun _ _ _ h => h) (Or.inl ⟨by rfl, ?hy43⟩) hHeld ?rest43
      case hy43 => (intro wS hSw; (try dsimp only at hSw); go_simp; try with_reducible rfl)
      simp only [Act.put, List.setIfInBounds_toArray, List.set_cons_zero, List.set_cons_succ]
      refine wpAnyH_take (i := 1) (oi := { dst := some 19, op := Op.load 3 (Operand.tmp 18), type := 3, pos := "law.go:32", after := #[{ on := 0, ground := Ground.data }], guard := none }) (v := ?vv44) rfl (by kernel_rfl) (by kernel_rfl) (by kernel_rfl) (fun _ _ _ h => h) (Or.inl ⟨by rfl, ?hy44⟩) hHeld ?rest44
      case hy44 => (intro wS hSw; (try dsimp only at hSw); go_simp; try with_reducible rfl)
      simp only [Act.put, List.setIfInBounds_toArray, List.set_cons_zero, List.set_cons_succ]
      refine wpAnyH_take (i := 2) (oi := { dst := some 20, op := Op.binOp BinOp.geq 3 (Operand.tmp 19) (Operand.const (Value.int IntKind.i64 1)) 3, type := 4, pos := "law.go:32", after := #[{ on := 1, ground := Ground.data }], guard := none }) (v := ?vv45) rfl (by kernel_rfl) (by kernel_rfl) (by kernel_rfl) (fun _ _ _ h => h) (Or.inl ⟨by rfl, ?hy45⟩) hHeld ?rest45
      case hy45 => (intro wS hSw; (try dsimp only at hSw); go_simp; try with_reducible rfl)
      simp only [Act.put, List.setIfInBounds_toArray, List.set_cons_zero, List.set_cons_succ]
      refine wpAnyH_take (i := 3) (oi := { dst := some 21, op := Op.move (Operand.tmp 20), type := 4, pos := "law.go:32", after := #[{ on := 2, ground := Ground.data }], guard := none }) (v := ?vv46) rfl (by kernel_rfl) (by kernel_rfl) (by kernel_rfl) (fun _ _ _ h => h) (Or.inl ⟨by rfl, ?hy46⟩) hHeld ?rest46
      case hy46 => (intro wS hSw; (try dsimp only at hSw); go_simp; try with_reducible rfl)
      simp only [Act.put, List.setIfInBounds_toArray, List.set_cons_zero, List.set_cons_succ]
      refine wpAnyH_take (i := 4) (oi := { dst := some 22, op := Op.fieldAddr 34 (Operand.tmp 5) 1, type := 0, pos := "law.go:32", after := #[{ on := 3, ground := Ground.guard }], guard := some (3, true) }) (v := undef) rfl (by kernel_rfl) (by kernel_rfl) (by kernel_rfl) (fun _ _ _ h => h) (Or.inr ⟨by rfl, rfl⟩) hHeld ?_
      simp only [Act.put, List.setIfInBounds_toArray, List.set_cons_zero, List.set_cons_succ]
      refine wpAnyH_take (i := 5) (oi := { dst := some 23, op := Op.load 3 (Operand.tmp 22), type := 3, pos := "law.go:32", after := #[{ on := 4, ground := Ground.data }, { on := 3, ground := Ground.guard }], guard := some (3, true) }) (v := undef) rfl (by kernel_rfl) (by kernel_rfl) (by kernel_rfl) (fun _ _ _ h => h) (Or.inr ⟨by rfl, rfl⟩) hHeld ?_
      simp only [Act.put, List.setIfInBounds_toArray, List.set_cons_zero, List.set_cons_succ]
      refine wpAnyH_take (i := 6) (oi := { dst := some 24, op := Op.move (Operand.tmp 0), type := 26, pos := "law.go:32", after := #[{ on := 3, ground := Ground.guard }], guard := some (3, true) }) (v := undef) rfl (by kernel_rfl) (by kernel_rfl) (by kernel_rfl) (fun _ _ _ h => h) (Or.inr ⟨by rfl, rfl⟩) hHeld ?_
      simp only [Act.put, List.setIfInBounds_toArray, List.set_cons_zero, List.set_cons_succ]
      refine wpAnyH_take (i := 7) (oi := { dst := some 25, op := Op.nilCheck (Operand.tmp 24), type := 0, pos := "law.go:32", after := #[{ on := 6, ground := Ground.data }, { on := 3, ground := Ground.guard }], guard := some (3, true) }) (v := undef) rfl (by kernel_rfl) (by kernel_rfl) (by kernel_rfl) (fun _ _ _ h => h) (Or.inr ⟨by rfl, rfl⟩) hHeld ?_
      simp only [Act.put, List.setIfInBounds_toArray, List.set_cons_zero, List.set_cons_succ]
      refine wpAnyH_take (i := 8) (oi := { dst := some 26, op := Op.fieldAddr 30 (Operand.tmp 25) 1, type := 0, pos := "law.go:32", after := #[{ on := 7, ground := Ground.data }, { on := 3, ground := Ground.guard }], guard := some (3, true) }) (v := undef) rfl (by kernel_rfl) (by kernel_rfl) (by kernel_rfl) (fun _ _ _ h => h) (Or.inr ⟨by rfl, rfl⟩) hHeld ?_
      simp only [Act.put, List.setIfInBounds_toArray, List.set_cons_zero, List.set_cons_succ]
      refine wpAnyH_take (i := 9) (oi := { dst := some 27, op := Op.load 28 (Operand.tmp 26), type := 28, pos := "law.go:32", after := #[{ on := 8, ground := Ground.data }, { on := 3, ground := Ground.guard }], guard := some (3, true) }) (v := undef) rfl (by kernel_rfl) (by kernel_rfl) (by kernel_rfl) (fun _ _ _ h => h) (Or.inr ⟨by rfl, rfl⟩) hHeld ?_
      simp only [Act.put, List.setIfInBounds_toArray, List.set_cons_zero, List.set_cons_succ]
      refine wpAnyH_take (i := 10) (oi := { dst := some 28, op := Op.call { callee := Callee.builtin Builtin.len, args := #[Operand.tmp 27], argTypes := #[28] }, type := 3, pos := "law.go:32", after := #[{ on := 9, ground := Ground.data }, { on := 3, ground := Ground.guard }], guard := some (3, true) }) (v := undef) rfl (by kernel_rfl) (by kernel_rfl) (by kernel_rfl) (fun _ _ _ h => h) (Or.inr ⟨by rfl, rfl⟩) hHeld ?_
      simp only [Act.put, List.setIfInBounds_toArray, List.set_cons_zero, List.set_cons_succ]
      refine wpAnyH_take (i := 11) (oi := { dst := some 29, op := Op.binOp BinOp.leq 3 (Operand.tmp 23) (Operand.tmp 28) 3, type := 4, pos := "law.go:32", after := #[{ on := 5, ground := Ground.data }, { on := 10, ground := Ground.data }, { on := 3, ground := Ground.guard }], guard := some (3, true) }) (v := undef) rfl (by kernel_rfl) (by kernel_rfl) (by kernel_rfl) (fun _ _ _ h => h) (Or.inr ⟨by rfl, rfl⟩) hHeld ?_
      simp only [Act.put, List.setIfInBounds_toArray, List.set_cons_zero, List.set_cons_succ]
      refine wpAnyH_take (i := 12) (oi := { dst := some 30, op := Op.pick (Operand.tmp 21) (Operand.tmp 29) (Operand.const (Value.bool false)), type := 4, pos := "law.go:32", after := #[{ on := 3, ground := Ground.data }, { on := 11, ground := Ground.data }], guard := none }) (v := ?vv47) rfl (by kernel_rfl) (by kernel_rfl) (by kernel_rfl) (fun _ _ _ h => h) (Or.inl ⟨by rfl, ?hy47⟩) hHeld ?rest47
      case hy47 => (intro wS hSw; (try dsimp only at hSw); go_simp; try with_reducible rfl)
      simp only [Act.put, List.setIfInBounds_toArray, List.set_cons_zero, List.set_cons_succ]
      refine wpAnyH_take (i := 13) (oi := { dst := some 31, op := Op.move (Operand.tmp 30), type := 4, pos := "law.go:32", after := #[{ on := 12, ground := Ground.data }, { on := 3, ground := Ground.chain }], guard := none }) (v := ?vv48) rfl (by kernel_rfl) (by kernel_rfl) (by kernel_rfl) (fun _ _ _ h => h) (Or.inl ⟨by rfl, ?hy48⟩) hHeld ?rest48
      case hy48 => (intro wS hSw; (try dsimp only at hSw); go_simp; try with_reducible rfl)
      simp only [Act.put, List.setIfInBounds_toArray, List.set_cons_zero, List.set_cons_succ]
      refine wpAnyH_take (i := 14) (oi := { dst := some 32, op := Op.move (Operand.tmp 0), type := 26, pos := "law.go:32", after := #[{ on := 13, ground := Ground.guard }], guard := some (13, true) }) (v := undef) rfl (by kernel_rfl) (by kernel_rfl) (by kernel_rfl) (fun _ _ _ h => h) (Or.inr ⟨by rfl, rfl⟩) hHeld ?_
      simp only [Act.put, List.setIfInBounds_toArray, List.set_cons_zero, List.set_cons_succ]
      refine wpAnyH_take (i := 15) (oi := { dst := some 33, op := Op.nilCheck (Operand.tmp 32), type := 0, pos := "law.go:32", after := #[{ on := 14, ground := Ground.data }, { on := 13, ground := Ground.guard }], guard := some (13, true) }) (v := undef) rfl (by kernel_rfl) (by kernel_rfl) (by kernel_rfl) (fun _ _ _ h => h) (Or.inr ⟨by rfl, rfl⟩) hHeld ?_
      simp only [Act.put, List.setIfInBounds_toArray, List.set_cons_zero, List.set_cons_succ]
      refine wpAnyH_take (i := 16) (oi := { dst := some 34, op := Op.fieldAddr 30 (Operand.tmp 33) 1, type := 0, pos := "law.go:32", after := #[{ on := 15, ground := Ground.data }, { on := 13, ground := Ground.guard }], guard := some (13, true) }) (v := undef) rfl (by kernel_rfl) (by kernel_rfl) (by kernel_rfl) (fun _ _ _ h => h) (Or.inr ⟨by rfl, rfl⟩) hHeld ?_
      simp only [Act.put, List.setIfInBounds_toArray, List.set_cons_zero, List.set_cons_succ]
      refine wpAnyH_take (i := 17) (oi := { dst := some 35, op := Op.load 28 (Operand.tmp 34), type := 28, pos := "law.go:32", after := #[{ on := 16, ground := Ground.data }, { on := 13, ground := Ground.guard }], guard := some (13, true) }) (v := undef) rfl (by kernel_rfl) (by kernel_rfl) (by kernel_rfl) (fun _ _ _ h => h) (Or.inr ⟨by rfl, rfl⟩) hHeld ?_
      simp only [Act.put, List.setIfInBounds_toArray, List.set_cons_zero, List.set_cons_succ]
      refine wpAnyH_take (i := 18) (oi := { dst := some 36, op := Op.fieldAddr 34 (Operand.tmp 5) 1, type := 0, pos := "law.go:32", after := #[{ on := 13, ground := Ground.guard }], guard := some (13, true) }) (v := undef) rfl (by kernel_rfl) (by kernel_rfl) (by kernel_rfl) (fun _ _ _ h => h) (Or.inr ⟨by rfl, rfl⟩) hHeld ?_
      simp only [Act.put, List.setIfInBounds_toArray, List.set_cons_zero, List.set_cons_succ]
      refine wpAnyH_take (i := 19) (oi := { dst := some 37, op := Op.load 3 (Operand.tmp 36), type := 3, pos := "law.go:32", after := #[{ on := 18, ground := Ground.data }, { on := 13, ground := Ground.guard }], guard := some (13, true) }) (v := undef) rfl (by kernel_rfl) (by kernel_rfl) (by kernel_rfl) (fun _ _ _ h => h) (Or.inr ⟨by rfl, rfl⟩) hHeld ?_
      simp only [Act.put, List.setIfInBounds_toArray, List.set_cons_zero, List.set_cons_succ]
      refine wpAnyH_take (i := 20) (oi := { dst := some 38, op := Op.binOp BinOp.sub 3 (Operand.tmp 37) (Operand.const (Value.int IntKind.i64 1)) 3, type := 3, pos := "law.go:32", after := #[{ on := 19, ground := Ground.data }, { on := 13, ground := Ground.guard }], guard := some (13, true) }) (v := undef) rfl (by kernel_rfl) (by kernel_rfl) (by kernel_rfl) (fun _ _ _ h => h) (Or.inr ⟨by rfl, rfl⟩) hHeld ?_
      simp only [Act.put, List.setIfInBounds_toArray, List.set_cons_zero, List.set_cons_succ]
      refine wpAnyH_take (i := 21) (oi := { dst := some 39, op := Op.indexAddr 28 (Operand.tmp 35) (Operand.tmp 38), type := 0, pos := "law.go:32", after := #[{ on := 17, ground := Ground.data }, { on := 20, ground := Ground.data }, { on := 13, ground := Ground.guard }], guard := some (13, true) }) (v := undef) rfl (by kernel_rfl) (by kernel_rfl) (by kernel_rfl) (fun _ _ _ h => h) (Or.inr ⟨by rfl, rfl⟩) hHeld ?_
      simp only [Act.put, List.setIfInBounds_toArray, List.set_cons_zero, List.set_cons_succ]
      refine wpAnyH_take (i := 22) (oi := { dst := some 40, op := Op.load 31 (Operand.tmp 39), type := 31, pos := "law.go:32", after := #[{ on := 21, ground := Ground.data }, { on := 13, ground := Ground.guard }], guard := some (13, true) }) (v := undef) rfl (by kernel_rfl) (by kernel_rfl) (by kernel_rfl) (fun _ _ _ h => h) (Or.inr ⟨by rfl, rfl⟩) hHeld ?_
      simp only [Act.put, List.setIfInBounds_toArray, List.set_cons_zero, List.set_cons_succ]
      refine wpAnyH_take (i := 23) (oi := { dst := some 41, op := Op.binOp BinOp.neq 31 (Operand.tmp 40) (Operand.const (Value.int IntKind.u64 0)) 31, type := 4, pos := "law.go:32", after := #[{ on := 22, ground := Ground.data }, { on := 13, ground := Ground.guard }], guard := some (13, true) }) (v := undef) rfl (by kernel_rfl) (by kernel_rfl) (by kernel_rfl) (fun _ _ _ h => h) (Or.inr ⟨by rfl, rfl⟩) hHeld ?_
      simp only [Act.put, List.setIfInBounds_toArray, List.set_cons_zero, List.set_cons_succ]
      refine wpAnyH_take (i := 24) (oi := { dst := some 42, op := Op.pick (Operand.tmp 31) (Operand.tmp 41) (Operand.const (Value.bool false)), type := 4, pos := "law.go:32", after := #[{ on := 13, ground := Ground.data }, { on := 23, ground := Ground.data }], guard := none }) (v := ?vv49) rfl (by kernel_rfl) (by kernel_rfl) (by kernel_rfl) (fun _ _ _ h => h) (Or.inl ⟨by rfl, ?hy49⟩) hHeld ?rest49
      case hy49 => (intro wS hSw; (try dsimp only at hSw); go_simp; try with_reducible rfl)
      simp only [Act.put, List.setIfInBounds_toArray, List.set_cons_zero, List.set_cons_succ]
      refine wpAnyH_take (i := 25) (oi := { dst := some 7, op := Op.assign (Operand.tmp 42), type := 4, pos := "law.go:32", after := #[{ on := 24, ground := Ground.data }, { on := 13, ground := Ground.chain }, { on := 0, ground := Ground.phase }, { on := 1, ground := Ground.phase }, { on := 2, ground := Ground.phase }, { on := 3, ground := Ground.phase }, { on := 4, ground := Ground.phase }, { on := 5, ground := Ground.phase }, { on := 6, ground := Ground.phase }, { on := 7, ground := Ground.phase }, { on := 8, ground := Ground.phase }, { on := 9, ground := Ground.phase }, { on := 10, ground := Ground.phase }, { on := 11, ground := Ground.phase }, { on := 12, ground := Ground.phase }, { on := 13, ground := Ground.phase }, { on := 14, ground := Ground.phase }, { on := 15, ground := Ground.phase }, { on := 16, ground := Ground.phase }, { on := 17, ground := Ground.phase }, { on := 18, ground := Ground.phase }, { on := 19, ground := Ground.phase }, { on := 20, ground := Ground.phase }, { on := 21, ground := Ground.phase }, { on := 22, ground := Ground.phase }, { on := 23, ground := Ground.phase }, { on := 24, ground := Ground.phase }], guard := none }) (v := ?vv50) rfl (by kernel_rfl) (by kernel_rfl) (by kernel_rfl) (fun _ _ _ h => h) (Or.inl ⟨by rfl, ?hy50⟩) hHeld ?rest50
      case hy50 => (intro wS hSw; (try dsimp only at hSw); go_simp; try with_reducible rfl)
      simp only [Act.put, List.setIfInBounds_toArray, List.set_cons_zero, List.set_cons_succ]
      refine wpAnyH_done (by kernel_rfl) ?_ _
      go_wp2_with fail
      go_meet
      try exact ⟨rfl, Lib.hid HC.out.drew⟩
  case rest =>
    obtain ⟨rfl, HC⟩ := hcut
    obtain ⟨t5, u5, g5, e1, e2, e3, l50, l5⟩ := off5 k
    obtain ⟨b0, b1, b2, b3, b4, b5⟩ := HC.out.box
    obtain ⟨m0, m1⟩ := HC.out.2.1.head
    go_upto_block 0 with fail
    go_cut [] (fun wx => Hid (∃ T1 os1 ds1 bl1, PC W T1 R M O D N os1 ds1 bl1 C k f off n o A l c wx))
    case first =>
     as_aux_lemma =>
      have HE := Lib.hid (And.intro e1 (And.intro e2 e3))
      clear e1 e2 e3
      have c5 : g5 = 0 ∨ g5 = 1 ∨ g5 = 2 ∨ g5 = 3 ∨ g5 = 4 := by omega
      clear l5 l50
      rcases c5 with rfl | rfl | rfl | rfl | rfl
      · as_aux_lemma =>
        rename_i big jj1 jj2 jj3 jj4; clear big
        go_upto_block 1 with fail
        obtain ⟨nm, hnm⟩ : ∃ nm : Int, RowKit.wrap64 ((N : Int) - 1) = nm := ⟨_, rfl⟩
        rw [hnm]
        have NW := Lib.hid (show nm = (N : Int) - 1 by rw [← hnm]; unfold RowKit.wrap64; have := HN.out; omega)
        clear hnm
        go_cut [8] (fun s8 wx => wc = wx ∧ ∃ v : Nat, s8 = .int .i64 (v : Int) ∧ Hid ((Fr.alloc os o).1 = v))
        case first =>
         as_aux_lemma =>
          go_wp2_with fail
          go_loopg [9, 8] N (fun g s9 s8 wr => ∃ (j v : Nat), j ≤ N ∧ g = j ∧ s9 = .int .i64 ((j : Int) - 1) ∧ s8 = .int .i64 (v : Int) ∧ wr = wc ∧ Hid (Fr.back os o j v N))
          case atStart => exact ⟨N, 0, Nat.le_refl _, rfl, by first | rfl | exact congrArg _ NW.out, rfl, rfl, Lib.hid (Fr.back_start os o N)⟩
          case round =>
            obtain ⟨j, v, hj, hg, rfl, rfl, rfl, hI⟩ := hrel
            by_cases j0 : j = 0
            · as_aux_lemma =>
              subst j0
              have HE := Lib.hid (Fr.back_end hI.out HN.out.2 (.inl rfl))
              have jn : ¬ (0 : Int) ≤ ((0 : Nat) : Int) - 1 := by omega
              clear hI
              go_wp2_with fail
              go_meet
              try exact ⟨rfl, v, rfl, HE⟩
            · as_aux_lemma =>
              obtain ⟨jm, hjm⟩ : ∃ jm : Nat, j = jm + 1 := ⟨j - 1, by omega⟩
              have hji : (j : Int) - 1 = (jm : Int) := by omega
              have jN : (jm : Int) < N := by omega
              by_cases o0 : o = 0
              · as_aux_lemma =>
                have HE := Lib.hid (Fr.back_end hI.out HN.out.2 (.inr o0))
                have t0 : ((o : Int) != 0) = false := by simp [o0]
                clear hI o0
                go_wp2_with fail
                go_meet
                try exact ⟨rfl, v, rfl, HE⟩
              · as_aux_lemma =>
                have t0 : ((o : Int) != 0) = true := by simp [o0]
                obtain ⟨x, hx⟩ : ∃ x, os.getD jm 0 = x := ⟨_, rfl⟩
                have cw := (HC.out.2.1.owner jm (by omega)).1
                rw [hx] at cw
                have hI2 := hI.out
                rw [hjm] at hI2
                have jw : RowKit.wrap64 ((jm : Int) - 1) = (jm : Int) - 1 := by unfold RowKit.wrap64; have := HN.out; omega
                have HJ := Lib.hid (And.intro hj (And.intro hg hjm))
                by_cases x0 : x = 0
                · as_aux_lemma =>
                  subst x0
                  have HB2 := Lib.hid (Fr.back_hit hI2 o0 (by omega) hx)
                  obtain ⟨v1, hv1, hv1'⟩ : ∃ v1 : Nat, (jm : Int) + 1 = (v1 : Int) ∧ v1 = jm + 1 := ⟨jm + 1, by omega, rfl⟩
                  have vw : IntKind.i64.wrap (v1 : Int) = (v1 : Int) := by simp [IntKind.wrap, IntKind.bits, IntKind.signed]; have := HN.out; omega
                  have HV := Lib.hid hv1'
                  clear hI hI2 hx hj hg hjm o0 hv1' j0
                  go_wp2_with fail
                  go_roundg jm
                  case rel => exact ⟨jm, v1, by have := HJ.out; omega, rfl, by first | rfl | go_num, rfl, rfl, by rw [HV.out]; exact HB2⟩
                  case measure => have := HJ.out; omega
                · as_aux_lemma =>
                  have t1 : ((x : Int) == 0) = false := by simp [x0]
                  have HB2 := Lib.hid (Fr.back_miss hI2 o0 (by rw [hx]; exact x0))
                  clear hI hI2 hx hj hg hjm o0 x0 j0
                  go_wp2_with fail
                  go_roundg jm
                  case rel => exact ⟨jm, v, by have := HJ.out; omega, rfl, by first | rfl | go_num, rfl, rfl, HB2⟩
                  case measure => have := HJ.out; omega
        case rest =>
          obtain ⟨rfl, v, rfl, HV⟩ := hcut
          have AL := Lib.hid (alloc_st o HC.out.1 (by have := HB.out; omega) v v (Fr.alloc os o).2 (by rw [← HV.out]) rfl)
          have vv : ((v : Int) != (v : Int)) = false := by simp
          go_wp2_with fail
          refine AL.out.mono ?_; rintro e wq ⟨rfl, hq, sm⟩
          have HD := Lib.hid (HC.out.held sm)
          have HQ := Lib.hid hq
          have SM := Lib.hid sm
          clear b0 b1 b2 b3 b4 b5 m0 m1 hq sm AL
          obtain ⟨b0, b1, b2, b3, b4, b5⟩ := box_cells HD.out.2
          obtain ⟨m0, m1⟩ := HD.out.1.head
          by_cases v0 : v = 0
          · as_aux_lemma =>
            subst v0
            obtain ⟨z1, z2⟩ := Fr.alloc_zero os ds o HV.out
            have HP := Lib.hid (HC.out.stay (w' := wq) (by have := HQ.out; rw [z1, z2] at this; exact this) SM.out)
            clear z1 z2
            go_wp2_with fail
            go_meet
            try exact Lib.hid ⟨_, _, _, _, HP.out⟩
          · as_aux_lemma =>
            obtain ⟨p, hp⟩ : ∃ p : Nat, v = p + 1 := ⟨v - 1, by omega⟩
            obtain ⟨z0, z1, z2, z3⟩ := Fr.alloc_succ os ds o p (by rw [HV.out, hp])
            have pN : (p : Int) < N := by have := HN.out; omega
            have vp : (v : Int) - 1 = (p : Int) := by omega
            have v1 : (0 : Int) < (v : Int) := by omega
            have pw : IntKind.i64.wrap (p : Int) = (p : Int) := by simp [IntKind.wrap, IntKind.bits, IntKind.signed]; have := HN.out; omega
            have hq2 := HQ.out
            rw [z2, z3] at hq2
            have HP := Lib.hid (HC.out.charged (p := p) (o' := o) (by omega) z0 hq2 SM.out)
            have KS := Lib.hid (And.intro b4 (And.intro m0 m1))
            have OC := Lib.hid (HD.out.1.owner p (by omega))
            have DC := Lib.hid (HD.out.1.data p (by omega))
            have hx := HD.out.2
            obtain ⟨m1', m2', _, ⟨us, m4', _⟩, _⟩ := HD.out.1
            have OL : O < wq.heap.size := (Array.getElem?_eq_some_iff.1 m2').1
            have DL : D < wq.heap.size := (Array.getElem?_eq_some_iff.1 m4').1
            have ML : M < wq.heap.size := (Array.getElem?_eq_some_iff.1 m1').1
            have CL : C < wq.heap.size := (Array.getElem?_eq_some_iff.1 hx).1
            have OD : D ≠ O := fun e => by subst e; rw [m4'] at m2'; simp at m2'
            have CO : C ≠ O := fun e => by subst e; rw [m2'] at hx; simp at hx
            have MO : M ≠ O := fun e => by subst e; rw [m2'] at m1'; simp at m1'
            obtain ⟨OB, hOB⟩ : ∃ OB, Obj.cells (Y Fr.zeros).toArray 5 = OB := ⟨_, rfl⟩
            rw [hOB] at HP
            have K1 := Lib.hid (show (fun w' : World => w'.cell? ⟨C, 4, none⟩ = some (.int .u64 (o : Int)) ∧ w'.cell? ⟨M, 0, none⟩ = some (.slice (some ⟨D, 0, none⟩) N N) ∧ w'.cell? ⟨M, 1, none⟩ = some (.slice (some ⟨O, 0, none⟩) N N)) (wq.alloc OB) from ⟨(World.cell?_of_block (w := wq) (Below.heap_alloc wq OB C CL)).trans b4, (World.cell?_of_block (w := wq) (Below.heap_alloc wq OB M ML)).trans m0, (World.cell?_of_block (w := wq) (Below.heap_alloc wq OB M ML)).trans m1⟩)
            have K2 := Lib.hid (show (fun w' : World => w'.cell? ⟨C, 4, none⟩ = some (.int .u64 (o : Int)) ∧ w'.cell? ⟨M, 0, none⟩ = some (.slice (some ⟨D, 0, none⟩) N N) ∧ w'.cell? ⟨M, 1, none⟩ = some (.slice (some ⟨O, 0, none⟩) N N)) ((wq.alloc OB).setCell ⟨O, p, none⟩ (.int .u64 (o : Int))) from ⟨(World.cell?_of_block (w := wq.alloc OB) (Below.heap_setCell _ _ _ _ CO)).trans K1.out.1, (World.cell?_of_block (w := wq.alloc OB) (Below.heap_setCell _ _ _ _ MO)).trans K1.out.2.1, (World.cell?_of_block (w := wq.alloc OB) (Below.heap_setCell _ _ _ _ MO)).trans K1.out.2.2⟩)
            have OC1 := Lib.hid (And.intro ((World.cell?_of_block (w := wq) (w' := wq.alloc OB) (a := ⟨O, p, none⟩) (Below.heap_alloc wq OB O OL)).trans OC.out.1) ((World.frozen?_of_block (w := wq) (w' := wq.alloc OB) (a := ⟨O, p, none⟩) (Below.heap_alloc wq OB O OL)).trans OC.out.2))
            obtain ⟨⟨dv, dc, _⟩, df⟩ := DC.out
            have DH : ((wq.alloc OB).setCell ⟨O, p, none⟩ (.int .u64 (o : Int))).heap[D]? = wq.heap[D]? := (Below.heap_setCell _ _ _ _ OD).trans (Below.heap_alloc wq OB D DL)
            have DC1 := Lib.hid (And.intro ((World.cell?_of_block (w := wq) (w' := (wq.alloc OB).setCell ⟨O, p, none⟩ (.int .u64 (o : Int))) (a := ⟨D, p, none⟩) DH).trans dc) ((World.frozen?_of_block (w := wq) (w' := (wq.alloc OB).setCell ⟨O, p, none⟩ (.int .u64 (o : Int))) (a := ⟨D, p, none⟩) DH).trans df))
            have HK3 := Lib.hid (show ∃ T' bl', PC W T' R M O D N (os.set p o) (ds.set p Fr.zeros) bl' C k f off n o A l c (((wq.alloc OB).setCell ⟨O, p, none⟩ (.int .u64 (o : Int))).setCell ⟨D, p, none⟩ (.slice (some ⟨wq.heap.size, 0, none⟩) 64 64)) from HP.out)
            have mk1 : ∀ wx : World, (Instr.makeSlice 32 (.int .i64 64) (.int .i64 64)).run Try.prog wx = .ok (.slice (some ⟨wx.heap.size, 0, none⟩) 64 64) (wx.alloc OB) := fun wx => by rw [← hOB]; exact run_page wx
            have MK := Lib.hid mk1
            have MK2 := Lib.hid (alloc_set2 wq O p o OB OL MK.out)
            have K5 := Lib.hid (show (fun w' : World => w'.cell? ⟨C, 4, none⟩ = some (.int .u64 (o : Int)) ∧ w'.cell? ⟨M, 0, none⟩ = some (.slice (some ⟨D, 0, none⟩) N N) ∧ w'.cell? ⟨M, 1, none⟩ = some (.slice (some ⟨O, 0, none⟩) N N)) (wq.setCell ⟨O, p, none⟩ (.int .u64 (o : Int))) from ⟨(World.cell?_of_block (w := wq) (Below.heap_setCell _ _ _ _ CO)).trans b4, (World.cell?_of_block (w := wq) (Below.heap_setCell _ _ _ _ MO)).trans m0, (World.cell?_of_block (w := wq) (Below.heap_setCell _ _ _ _ MO)).trans m1⟩)
            clear mk1 hOB hx m1' m2' m4' OL DL ML CL OD CO MO DH dc df DC HD
            clear hq2 z0 z1 z2 z3 hp v0
            rename_i r1 r2 r3; clear r1 r2 r3 HC HQ SM HE HT HB HA NW HV vv b0 b1 b2 b3 b5
            go_upto_region 13 with fail
            refine wp_region_held_drew (S := fun w' => w'.cell? ⟨C, 4, none⟩ = some (.int .u64 (o : Int)) ∧ w'.cell? ⟨M, 0, none⟩ = some (.slice (some ⟨D, 0, none⟩) N N) ∧ w'.cell? ⟨M, 1, none⟩ = some (.slice (some ⟨O, 0, none⟩) N N)) (by kernel_rfl) (KS.out) (fun hHeld => ?_)
            refine wpAnyH_take (i := 0) (oi := { dst := some 83, op := Op.move (Operand.tmp 0), type := 26, pos := "law.go:45", after := #[], guard := none }) (v := ?vv199) rfl (by kernel_rfl) (by kernel_rfl) (by kernel_rfl) (fun _ _ _ h => h) (Or.inl ⟨by rfl, ?hy199⟩) hHeld ?rest199
            case hy199 => (intro wS hSw; (try dsimp only at hSw); go_simp; try with_reducible rfl)
            simp only [Act.put, List.setIfInBounds_toArray, List.set_cons_zero, List.set_cons_succ]
            refine wpAnyH_take (i := 1) (oi := { dst := some 84, op := Op.nilCheck (Operand.tmp 83), type := 0, pos := "law.go:45", after := #[{ on := 0, ground := Ground.data }], guard := none }) (v := ?vv200) rfl (by kernel_rfl) (by kernel_rfl) (by kernel_rfl) (fun _ _ _ h => h) (Or.inl ⟨by rfl, ?hy200⟩) hHeld ?rest200
            case hy200 => (intro wS hSw; (try dsimp only at hSw); go_simp; try with_reducible rfl)
            simp only [Act.put, List.setIfInBounds_toArray, List.set_cons_zero, List.set_cons_succ]
            refine wpAnyH_take (i := 2) (oi := { dst := some 85, op := Op.fieldAddr 30 (Operand.tmp 84) 1, type := 0, pos := "law.go:45", after := #[{ on := 1, ground := Ground.data }], guard := none }) (v := ?vv201) rfl (by kernel_rfl) (by kernel_rfl) (by kernel_rfl) (fun _ _ _ h => h) (Or.inl ⟨by rfl, ?hy201⟩) hHeld ?rest201
            case hy201 => (intro wS hSw; (try dsimp only at hSw); go_simp; try with_reducible rfl)
            simp only [Act.put, List.setIfInBounds_toArray, List.set_cons_zero, List.set_cons_succ]
            refine wpAnyH_take (i := 3) (oi := { dst := some 86, op := Op.load 28 (Operand.tmp 85), type := 28, pos := "law.go:45", after := #[{ on := 2, ground := Ground.data }], guard := none }) (v := ?vv202) rfl (by kernel_rfl) (by kernel_rfl) (by kernel_rfl) (fun _ _ _ h => h) (Or.inl ⟨by rfl, ?hy202⟩) hHeld ?rest202
            case hy202 => (intro wS hSw; (try dsimp only at hSw); go_simp; try with_reducible rfl)
            simp only [Act.put, List.setIfInBounds_toArray, List.set_cons_zero, List.set_cons_succ]
            refine wpAnyH_take (i := 4) (oi := { dst := some 87, op := Op.move (Operand.tmp 8), type := 3, pos := "law.go:45", after := #[], guard := none }) (v := ?vv203) rfl (by kernel_rfl) (by kernel_rfl) (by kernel_rfl) (fun _ _ _ h => h) (Or.inl ⟨by rfl, ?hy203⟩) hHeld ?rest203
            case hy203 => (intro wS hSw; (try dsimp only at hSw); go_simp; try with_reducible rfl)
            simp only [Act.put, List.setIfInBounds_toArray, List.set_cons_zero, List.set_cons_succ]
            refine wpAnyH_take (i := 5) (oi := { dst := some 88, op := Op.binOp BinOp.sub 3 (Operand.tmp 87) (Operand.const (Value.int IntKind.i64 1)) 3, type := 3, pos := "law.go:45", after := #[{ on := 4, ground := Ground.data }], guard := none }) (v := ?vv204) rfl (by kernel_rfl) (by kernel_rfl) (by kernel_rfl) (fun _ _ _ h => h) (Or.inl ⟨by rfl, ?hy204⟩) hHeld ?rest204
            case hy204 => (intro wS hSw; (try dsimp only at hSw); go_simp; try with_reducible rfl)
            simp only [Act.put, List.setIfInBounds_toArray, List.set_cons_zero, List.set_cons_succ]
            refine wpAnyH_take (i := 6) (oi := { dst := some 89, op := Op.move (Operand.tmp 0), type := 26, pos := "law.go:45", after := #[], guard := none }) (v := ?vv205) rfl (by kernel_rfl) (by kernel_rfl) (by kernel_rfl) (fun _ _ _ h => h) (Or.inl ⟨by rfl, ?hy205⟩) hHeld ?rest205
            case hy205 => (intro wS hSw; (try dsimp only at hSw); go_simp; try with_reducible rfl)
            simp only [Act.put, List.setIfInBounds_toArray, List.set_cons_zero, List.set_cons_succ]
            refine wpAnyH_take (i := 7) (oi := { dst := some 90, op := Op.nilCheck (Operand.tmp 89), type := 0, pos := "law.go:45", after := #[{ on := 6, ground := Ground.data }], guard := none }) (v := ?vv206) rfl (by kernel_rfl) (by kernel_rfl) (by kernel_rfl) (fun _ _ _ h => h) (Or.inl ⟨by rfl, ?hy206⟩) hHeld ?rest206
            case hy206 => (intro wS hSw; (try dsimp only at hSw); go_simp; try with_reducible rfl)
            simp only [Act.put, List.setIfInBounds_toArray, List.set_cons_zero, List.set_cons_succ]
            refine wpAnyH_take (i := 8) (oi := { dst := some 91, op := Op.fieldAddr 30 (Operand.tmp 90) 0, type := 0, pos := "law.go:45", after := #[{ on := 7, ground := Ground.data }], guard := none }) (v := ?vv207) rfl (by kernel_rfl) (by kernel_rfl) (by kernel_rfl) (fun _ _ _ h => h) (Or.inl ⟨by rfl, ?hy207⟩) hHeld ?rest207
            case hy207 => (intro wS hSw; (try dsimp only at hSw); go_simp; try with_reducible rfl)
            simp only [Act.put, List.setIfInBounds_toArray, List.set_cons_zero, List.set_cons_succ]
            refine wpAnyH_take (i := 9) (oi := { dst := some 92, op := Op.load 27 (Operand.tmp 91), type := 27, pos := "law.go:45", after := #[{ on := 8, ground := Ground.data }], guard := none }) (v := ?vv208) rfl (by kernel_rfl) (by kernel_rfl) (by kernel_rfl) (fun _ _ _ h => h) (Or.inl ⟨by rfl, ?hy208⟩) hHeld ?rest208
            case hy208 => (intro wS hSw; (try dsimp only at hSw); go_simp; try with_reducible rfl)
            simp only [Act.put, List.setIfInBounds_toArray, List.set_cons_zero, List.set_cons_succ]
            refine wpAnyH_take (i := 10) (oi := { dst := some 93, op := Op.move (Operand.tmp 8), type := 3, pos := "law.go:45", after := #[{ on := 16, ground := Ground.gcOnly Departure.lateStores }], guard := none }) (v := ?vv209) rfl (by kernel_rfl) (by kernel_rfl) (by kernel_rfl) (fun _ _ _ h => h) (Or.inl ⟨by rfl, ?hy209⟩) hHeld ?rest209
            case hy209 => (intro wS hSw; (try dsimp only at hSw); go_simp; try with_reducible rfl)
            simp only [Act.put, List.setIfInBounds_toArray, List.set_cons_zero, List.set_cons_succ]
            refine wpAnyH_take (i := 11) (oi := { dst := some 94, op := Op.binOp BinOp.sub 3 (Operand.tmp 93) (Operand.const (Value.int IntKind.i64 1)) 3, type := 3, pos := "law.go:45", after := #[{ on := 10, ground := Ground.data }, { on := 16, ground := Ground.gcOnly Departure.lateStores }], guard := none }) (v := ?vv210) rfl (by kernel_rfl) (by kernel_rfl) (by kernel_rfl) (fun _ _ _ h => h) (Or.inl ⟨by rfl, ?hy210⟩) hHeld ?rest210
            case hy210 => (intro wS hSw; (try dsimp only at hSw); go_simp; try with_reducible rfl)
            simp only [Act.put, List.setIfInBounds_toArray, List.set_cons_zero, List.set_cons_succ]
            refine wpAnyH_take (i := 12) (oi := { dst := some 95, op := Op.fieldAddr 34 (Operand.tmp 5) 4, type := 0, pos := "law.go:45", after := #[], guard := none }) (v := ?vv211) rfl (by kernel_rfl) (by kernel_rfl) (by kernel_rfl) (fun _ _ _ h => h) (Or.inl ⟨by rfl, ?hy211⟩) hHeld ?rest211
            case hy211 => (intro wS hSw; (try dsimp only at hSw); go_simp; try with_reducible rfl)
            simp only [Act.put, List.setIfInBounds_toArray, List.set_cons_zero, List.set_cons_succ]
            refine wpAnyH_take (i := 13) (oi := { dst := some 96, op := Op.load 31 (Operand.tmp 95), type := 31, pos := "law.go:45", after := #[{ on := 12, ground := Ground.data }], guard := none }) (v := ?vv212) rfl (by kernel_rfl) (by kernel_rfl) (by kernel_rfl) (fun _ _ _ h => h) (Or.inl ⟨by rfl, ?hy212⟩) hHeld ?rest212
            case hy212 => (intro wS hSw; (try dsimp only at hSw); go_simp; try with_reducible rfl)
            simp only [Act.put, List.setIfInBounds_toArray, List.set_cons_zero, List.set_cons_succ]
            refine wpAnyH_take (i := 15) (oi := { dst := some 98, op := Op.indexAddr 28 (Operand.tmp 86) (Operand.tmp 88), type := 0, pos := "law.go:45", after := #[{ on := 3, ground := Ground.data }, { on := 5, ground := Ground.data }, { on := 0, ground := Ground.phase }, { on := 1, ground := Ground.phase }, { on := 2, ground := Ground.phase }, { on := 3, ground := Ground.phase }, { on := 4, ground := Ground.phase }, { on := 5, ground := Ground.phase }, { on := 6, ground := Ground.textOnly Departure.lateStores }, { on := 7, ground := Ground.textOnly Departure.lateStoresUnsure }, { on := 8, ground := Ground.textOnly Departure.lateStoresUnsure }, { on := 9, ground := Ground.phase }, { on := 10, ground := Ground.textOnly Departure.lateStores }, { on := 11, ground := Ground.textOnly Departure.lateStores }, { on := 12, ground := Ground.phase }, { on := 13, ground := Ground.phase }, { on := 14, ground := Ground.textOnly Departure.lateStoresUnsure }], guard := none }) (v := ?vv213) rfl (by kernel_rfl) (by kernel_rfl) (by kernel_rfl) (fun _ _ _ h => h) (Or.inl ⟨by rfl, ?hy213⟩) hHeld ?rest213
            case hy213 => (intro wS hSw; (try dsimp only at hSw); go_simp; try with_reducible rfl)
            simp only [Act.put, List.setIfInBounds_toArray, List.set_cons_zero, List.set_cons_succ]
            refine wpAnyH_ready (rs := [14, 16]) (by kernel_rfl) (by simp) ?_
            refine AllReadyH.cons (o := { dst := some 97, op := Op.makeSlice 32 (Operand.const (Value.int IntKind.i64 64)) (Operand.const (Value.int IntKind.i64 64)), type := 32, pos := "law.go:45", after := #[], guard := none }) rfl (fun K hK => ?_) ?_
            · skip
              have mk := MK.out wq.drew
              go_simp
              clear mk
              clear hHeld
              refine hK.out _ _ (by exact K1.out) (fun hHeld => ?_)
              clear hK K
              try simp only [Act.put, List.setIfInBounds_toArray, List.set_cons_zero, List.set_cons_succ]
              refine wpAnyH_ready (rs := [16]) (by kernel_rfl) (by simp) ?_
              refine AllReadyH.cons (o := { dst := none, op := Op.store 31 (Operand.tmp 98) (Operand.tmp 96), type := 0, pos := "law.go:45", after := #[{ on := 15, ground := Ground.data }, { on := 13, ground := Ground.data }, { on := 0, ground := Ground.phase }, { on := 1, ground := Ground.phase }, { on := 2, ground := Ground.phase }, { on := 3, ground := Ground.phase }, { on := 4, ground := Ground.phase }, { on := 5, ground := Ground.phase }, { on := 6, ground := Ground.textOnly Departure.lateStores }, { on := 7, ground := Ground.textOnly Departure.lateStoresUnsure }, { on := 8, ground := Ground.textOnly Departure.lateStoresUnsure }, { on := 9, ground := Ground.phase }, { on := 10, ground := Ground.textOnly Departure.lateStores }, { on := 11, ground := Ground.textOnly Departure.lateStores }, { on := 12, ground := Ground.phase }, { on := 13, ground := Ground.phase }, { on := 14, ground := Ground.textOnly Departure.lateStoresUnsure }], guard := none }) rfl (fun K hK => ?_) AllReadyH.nil
              have c0 : (wq.alloc OB).drew.cell? ⟨O, p, none⟩ = _ := OC1.out.1
              have c1 : (wq.drew.alloc OB).cell? ⟨O, p, none⟩ = _ := OC1.out.1
              have g0 : (wq.alloc OB).drew.frozen? ⟨O, p, none⟩ = _ := OC1.out.2
              have g1 : (wq.drew.alloc OB).frozen? ⟨O, p, none⟩ = _ := OC1.out.2
              go_simp
              clear c0 c1 g0 g1
              clear hHeld
              refine hK.out _ _ (by exact K2.out) (fun hHeld => ?_)
              clear hK K
              try simp only [Act.put, List.setIfInBounds_toArray, List.set_cons_zero, List.set_cons_succ]
              refine wpAnyH_take (i := 17) (oi := { dst := some 99, op := Op.indexAddr 27 (Operand.tmp 92) (Operand.tmp 94), type := 0, pos := "law.go:45", after := #[{ on := 9, ground := Ground.data }, { on := 11, ground := Ground.data }, { on := 0, ground := Ground.phase }, { on := 1, ground := Ground.phase }, { on := 2, ground := Ground.phase }, { on := 3, ground := Ground.phase }, { on := 4, ground := Ground.phase }, { on := 5, ground := Ground.phase }, { on := 6, ground := Ground.phase }, { on := 7, ground := Ground.phase }, { on := 8, ground := Ground.phase }, { on := 9, ground := Ground.phase }, { on := 10, ground := Ground.phase }, { on := 11, ground := Ground.phase }, { on := 12, ground := Ground.phase }, { on := 13, ground := Ground.phase }, { on := 14, ground := Ground.phase }, { on := 15, ground := Ground.phase }, { on := 16, ground := Ground.phase }], guard := none }) (v := ?vv214) rfl (by kernel_rfl) (by kernel_rfl) (by kernel_rfl) (fun _ _ _ h => h) (Or.inl ⟨by rfl, ?hy214⟩) hHeld ?rest214
              case hy214 => (intro wS hSw; (try dsimp only at hSw); go_simp; try with_reducible rfl)
              simp only [Act.put, List.setIfInBounds_toArray, List.set_cons_zero, List.set_cons_succ]
              refine wpAnyH_ready (rs := [18]) (by kernel_rfl) (by simp) ?_
              refine AllReadyH.cons (o := { dst := none, op := Op.store 32 (Operand.tmp 99) (Operand.tmp 97), type := 0, pos := "law.go:45", after := #[{ on := 17, ground := Ground.data }, { on := 14, ground := Ground.data }, { on := 16, ground := Ground.chain }, { on := 0, ground := Ground.phase }, { on := 1, ground := Ground.phase }, { on := 2, ground := Ground.phase }, { on := 3, ground := Ground.phase }, { on := 4, ground := Ground.phase }, { on := 5, ground := Ground.phase }, { on := 6, ground := Ground.phase }, { on := 7, ground := Ground.phase }, { on := 8, ground := Ground.phase }, { on := 9, ground := Ground.phase }, { on := 10, ground := Ground.phase }, { on := 11, ground := Ground.phase }, { on := 12, ground := Ground.phase }, { on := 13, ground := Ground.phase }, { on := 14, ground := Ground.phase }, { on := 15, ground := Ground.phase }, { on := 16, ground := Ground.phase }], guard := none }) rfl (fun K hK => ?_) AllReadyH.nil
              have c0 : ((wq.alloc OB).setCell ⟨O, p, none⟩ (.int .u64 (o : Int))).drew.cell? ⟨D, p, none⟩ = _ := DC1.out.1
              have c1 : ((wq.drew.alloc OB).setCell ⟨O, p, none⟩ (.int .u64 (o : Int))).cell? ⟨D, p, none⟩ = _ := DC1.out.1
              have g0 : ((wq.alloc OB).setCell ⟨O, p, none⟩ (.int .u64 (o : Int))).drew.frozen? ⟨D, p, none⟩ = _ := DC1.out.2
              have g1 : ((wq.drew.alloc OB).setCell ⟨O, p, none⟩ (.int .u64 (o : Int))).frozen? ⟨D, p, none⟩ = _ := DC1.out.2
              go_simp
              clear c0 c1 g0 g1
              clear hHeld
              refine hK.out _ _ (by obtain ⟨T2, bl2, h⟩ := HK3.out; exact ⟨h.box.2.2.2.2.1, h.2.1.head.1, h.2.1.head.2⟩) (fun hHeld => ?_)
              clear hK K
              try simp only [Act.put, List.setIfInBounds_toArray, List.set_cons_zero, List.set_cons_succ]
              refine wpAnyH_done (by kernel_rfl) ?_ _
              go_wp2_with fail
              go_meet
              try exact Lib.hid (by obtain ⟨T2, bl2, h⟩ := HK3.out; exact ⟨_, _, _, _, h.drew⟩)
            refine AllReadyH.cons (o := { dst := none, op := Op.store 31 (Operand.tmp 98) (Operand.tmp 96), type := 0, pos := "law.go:45", after := #[{ on := 15, ground := Ground.data }, { on := 13, ground := Ground.data }, { on := 0, ground := Ground.phase }, { on := 1, ground := Ground.phase }, { on := 2, ground := Ground.phase }, { on := 3, ground := Ground.phase }, { on := 4, ground := Ground.phase }, { on := 5, ground := Ground.phase }, { on := 6, ground := Ground.textOnly Departure.lateStores }, { on := 7, ground := Ground.textOnly Departure.lateStoresUnsure }, { on := 8, ground := Ground.textOnly Departure.lateStoresUnsure }, { on := 9, ground := Ground.phase }, { on := 10, ground := Ground.textOnly Departure.lateStores }, { on := 11, ground := Ground.textOnly Departure.lateStores }, { on := 12, ground := Ground.phase }, { on := 13, ground := Ground.phase }, { on := 14, ground := Ground.textOnly Departure.lateStoresUnsure }], guard := none }) rfl (fun K hK => ?_) AllReadyH.nil
            have c0 := OC.out.1
            have g0 := OC.out.2
            go_simp
            clear c0 g0
            clear hHeld
            refine hK.out _ _ (by exact K5.out) (fun hHeld => ?_)
            clear hK K
            try simp only [Act.put, List.setIfInBounds_toArray, List.set_cons_zero, List.set_cons_succ]
            refine wpAnyH_ready (rs := [14]) (by kernel_rfl) (by simp) ?_
            refine AllReadyH.cons (o := { dst := some 97, op := Op.makeSlice 32 (Operand.const (Value.int IntKind.i64 64)) (Operand.const (Value.int IntKind.i64 64)), type := 32, pos := "law.go:45", after := #[], guard := none }) rfl (fun K hK => ?_) AllReadyH.nil
            have mk := MK2.out
            go_simp
            clear mk
            clear hHeld
            refine hK.out _ _ (by exact K2.out) (fun hHeld => ?_)
            clear hK K
            try simp only [Act.put, List.setIfInBounds_toArray, List.set_cons_zero, List.set_cons_succ]
            refine wpAnyH_take (i := 17) (oi := { dst := some 99, op := Op.indexAddr 27 (Operand.tmp 92) (Operand.tmp 94), type := 0, pos := "law.go:45", after := #[{ on := 9, ground := Ground.data }, { on := 11, ground := Ground.data }, { on := 0, ground := Ground.phase }, { on := 1, ground := Ground.phase }, { on := 2, ground := Ground.phase }, { on := 3, ground := Ground.phase }, { on := 4, ground := Ground.phase }, { on := 5, ground := Ground.phase }, { on := 6, ground := Ground.phase }, { on := 7, ground := Ground.phase }, { on := 8, ground := Ground.phase }, { on := 9, ground := Ground.phase }, { on := 10, ground := Ground.phase }, { on := 11, ground := Ground.phase }, { on := 12, ground := Ground.phase }, { on := 13, ground := Ground.phase }, { on := 14, ground := Ground.phase }, { on := 15, ground := Ground.phase }, { on := 16, ground := Ground.phase }], guard := none }) (v := ?vv215) rfl (by kernel_rfl) (by kernel_rfl) (by kernel_rfl) (fun _ _ _ h => h) (Or.inl ⟨by rfl, ?hy215⟩) hHeld ?rest215
            case hy215 => (intro wS hSw; (try dsimp only at hSw); go_simp; try with_reducible rfl)
            simp only [Act.put, List.setIfInBounds_toArray, List.set_cons_zero, List.set_cons_succ]
            refine wpAnyH_ready (rs := [18]) (by kernel_rfl) (by simp) ?_
            refine AllReadyH.cons (o := { dst := none, op := Op.store 32 (Operand.tmp 99) (Operand.tmp 97), type := 0, pos := "law.go:45", after := #[{ on := 17, ground := Ground.data }, { on := 14, ground := Ground.data }, { on := 16, ground := Ground.chain }, { on := 0, ground := Ground.phase }, { on := 1, ground := Ground.phase }, { on := 2, ground := Ground.phase }, { on := 3, ground := Ground.phase }, { on := 4, ground := Ground.phase }, { on := 5, ground := Ground.phase }, { on := 6, ground := Ground.phase }, { on := 7, ground := Ground.phase }, { on := 8, ground := Ground.phase }, { on := 9, ground := Ground.phase }, { on := 10, ground := Ground.phase }, { on := 11, ground := Ground.phase }, { on := 12, ground := Ground.phase }, { on := 13, ground := Ground.phase }, { on := 14, ground := Ground.phase }, { on := 15, ground := Ground.phase }, { on := 16, ground := Ground.phase }], guard := none }) rfl (fun K hK => ?_) AllReadyH.nil
            have c0 : ((wq.alloc OB).setCell ⟨O, p, none⟩ (.int .u64 (o : Int))).drew.cell? ⟨D, p, none⟩ = _ := DC1.out.1
            have c1 : ((wq.drew.alloc OB).setCell ⟨O, p, none⟩ (.int .u64 (o : Int))).cell? ⟨D, p, none⟩ = _ := DC1.out.1
            have g0 : ((wq.alloc OB).setCell ⟨O, p, none⟩ (.int .u64 (o : Int))).drew.frozen? ⟨D, p, none⟩ = _ := DC1.out.2
            have g1 : ((wq.drew.alloc OB).setCell ⟨O, p, none⟩ (.int .u64 (o : Int))).frozen? ⟨D, p, none⟩ = _ := DC1.out.2
            go_simp
            clear c0 c1 g0 g1
            clear hHeld
            refine hK.out _ _ (by obtain ⟨T2, bl2, h⟩ := HK3.out; exact ⟨h.box.2.2.2.2.1, h.2.1.head.1, h.2.1.head.2⟩) (fun hHeld => ?_)
            clear hK K
            try simp only [Act.put, List.setIfInBounds_toArray, List.set_cons_zero, List.set_cons_succ]
            refine wpAnyH_done (by kernel_rfl) ?_ _
            go_wp2_with fail
            go_meet
            try exact Lib.hid (by obtain ⟨T2, bl2, h⟩ := HK3.out; exact ⟨_, _, _, _, h.drew⟩)
      · as_aux_lemma =>
        rename_i big jj1 jj2 jj3 jj4; clear big
        have FR := Lib.hid (free_st f HC.out.1 (by have := HB.out; omega) (by have := HB.out; omega) (Fr.free os f) rfl)
        go_wp2_with fail
        refine FR.out.mono ?_; rintro e wq ⟨rfl, hq, sm⟩
        have HM := Lib.hid (HC.out.held sm)
        have HQ := Lib.hid hq
        have SM := Lib.hid sm
        clear b0 b1 b2 b3 b4 b5 m0 m1 hq sm FR
        obtain ⟨b0, b1, b2, b3, b4, b5⟩ := box_cells HM.out.2
        obtain ⟨m0, m1⟩ := HM.out.1.head
        obtain rfl | rfl : th = false ∨ th = true := by cases th; exact .inl rfl; exact .inr rfl
        · as_aux_lemma =>
          have ow : Fr.own os f = 0 := by have := HT.out; simpa using this
          have HP := Lib.hid (HC.out.stay (w' := wq) (by have := HQ.out; rw [Fr.free_none os f ow] at this; exact this) SM.out)
          clear ow
          go_wp2_with fail
          go_meet
          try exact Lib.hid ⟨_, _, _, _, HP.out⟩
        · as_aux_lemma =>
          obtain ⟨i, hfi, hil, hio⟩ := Fr.own_pos os f (by have := HT.out; simpa using this)
          have iN : (i : Int) < N := by have := HN.out; omega
          have fi : f - 1 = (i : Int) := by omega
          have iw : IntKind.i64.wrap (i : Int) = (i : Int) := by simp [IntKind.wrap, IntKind.bits, IntKind.signed]; have := HN.out; omega
          have HP := Lib.hid (HC.out.freed (i := i) (w' := wq) (by omega) (by
            have := HQ.out
            rw [show Fr.free os f = os.set i 0 by unfold Fr.free; rw [if_pos (by omega), show f.toNat - 1 = i by omega]] at this
            exact this) SM.out)
          have OC := Lib.hid (HM.out.1.owner i (by omega))
          have KS := Lib.hid (And.intro b1 m1)
          clear hfi hil hio
          go_upto_region 17 with fail
          refine wp_region_held_drew (S := fun w' => w'.cell? ⟨C, 1, none⟩ = some (.int .i64 f) ∧ w'.cell? ⟨M, 1, none⟩ = some (.slice (some ⟨O, 0, none⟩) N N)) (by kernel_rfl) (KS.out) (fun hHeld => ?_)
          refine wpAnyH_take (i := 0) (oi := { dst := some 107, op := Op.move (Operand.tmp 0), type := 26, pos := "law.go:50", after := #[], guard := none }) (v := ?vv119) rfl (by kernel_rfl) (by kernel_rfl) (by kernel_rfl) (fun _ _ _ h => h) (Or.inl ⟨by rfl, ?hy119⟩) hHeld ?rest119
          case hy119 => (intro wS hSw; (try dsimp only at hSw); go_simp; try with_reducible rfl)
          simp only [Act.put, List.setIfInBounds_toArray, List.set_cons_zero, List.set_cons_succ]
          refine wpAnyH_take (i := 1) (oi := { dst := some 108, op := Op.nilCheck (Operand.tmp 107), type := 0, pos := "law.go:50", after := #[{ on := 0, ground := Ground.data }], guard := none }) (v := ?vv120) rfl (by kernel_rfl) (by kernel_rfl) (by kernel_rfl) (fun _ _ _ h => h) (Or.inl ⟨by rfl, ?hy120⟩) hHeld ?rest120
          case hy120 => (intro wS hSw; (try dsimp only at hSw); go_simp; try with_reducible rfl)
          simp only [Act.put, List.setIfInBounds_toArray, List.set_cons_zero, List.set_cons_succ]
          refine wpAnyH_take (i := 2) (oi := { dst := some 109, op := Op.fieldAddr 30 (Operand.tmp 108) 1, type := 0, pos := "law.go:50", after := #[{ on := 1, ground := Ground.data }], guard := none }) (v := ?vv121) rfl (by kernel_rfl) (by kernel_rfl) (by kernel_rfl) (fun _ _ _ h => h) (Or.inl ⟨by rfl, ?hy121⟩) hHeld ?rest121
          case hy121 => (intro wS hSw; (try dsimp only at hSw); go_simp; try with_reducible rfl)
          simp only [Act.put, List.setIfInBounds_toArray, List.set_cons_zero, List.set_cons_succ]
          refine wpAnyH_take (i := 3) (oi := { dst := some 110, op := Op.load 28 (Operand.tmp 109), type := 28, pos := "law.go:50", after := #[{ on := 2, ground := Ground.data }], guard := none }) (v := ?vv122) rfl (by kernel_rfl) (by kernel_rfl) (by kernel_rfl) (fun _ _ _ h => h) (Or.inl ⟨by rfl, ?hy122⟩) hHeld ?rest122
          case hy122 => (intro wS hSw; (try dsimp only at hSw); go_simp; try with_reducible rfl)
          simp only [Act.put, List.setIfInBounds_toArray, List.set_cons_zero, List.set_cons_succ]
          refine wpAnyH_take (i := 4) (oi := { dst := some 111, op := Op.fieldAddr 34 (Operand.tmp 5) 1, type := 0, pos := "law.go:50", after := #[], guard := none }) (v := ?vv123) rfl (by kernel_rfl) (by kernel_rfl) (by kernel_rfl) (fun _ _ _ h => h) (Or.inl ⟨by rfl, ?hy123⟩) hHeld ?rest123
          case hy123 => (intro wS hSw; (try dsimp only at hSw); go_simp; try with_reducible rfl)
          simp only [Act.put, List.setIfInBounds_toArray, List.set_cons_zero, List.set_cons_succ]
          refine wpAnyH_take (i := 5) (oi := { dst := some 112, op := Op.load 3 (Operand.tmp 111), type := 3, pos := "law.go:50", after := #[{ on := 4, ground := Ground.data }], guard := none }) (v := ?vv124) rfl (by kernel_rfl) (by kernel_rfl) (by kernel_rfl) (fun _ _ _ h => h) (Or.inl ⟨by rfl, ?hy124⟩) hHeld ?rest124
          case hy124 => (intro wS hSw; (try dsimp only at hSw); go_simp; try with_reducible rfl)
          simp only [Act.put, List.setIfInBounds_toArray, List.set_cons_zero, List.set_cons_succ]
          refine wpAnyH_take (i := 6) (oi := { dst := some 113, op := Op.binOp BinOp.sub 3 (Operand.tmp 112) (Operand.const (Value.int IntKind.i64 1)) 3, type := 3, pos := "law.go:50", after := #[{ on := 5, ground := Ground.data }], guard := none }) (v := ?vv125) rfl (by kernel_rfl) (by kernel_rfl) (by kernel_rfl) (fun _ _ _ h => h) (Or.inl ⟨by rfl, ?hy125⟩) hHeld ?rest125
          case hy125 => (intro wS hSw; (try dsimp only at hSw); go_simp; try with_reducible rfl)
          simp only [Act.put, List.setIfInBounds_toArray, List.set_cons_zero, List.set_cons_succ]
          refine wpAnyH_take (i := 7) (oi := { dst := some 114, op := Op.indexAddr 28 (Operand.tmp 110) (Operand.tmp 113), type := 0, pos := "law.go:50", after := #[{ on := 3, ground := Ground.data }, { on := 6, ground := Ground.data }, { on := 0, ground := Ground.phase }, { on := 1, ground := Ground.phase }, { on := 2, ground := Ground.phase }, { on := 3, ground := Ground.phase }, { on := 4, ground := Ground.phase }, { on := 5, ground := Ground.phase }, { on := 6, ground := Ground.phase }], guard := none }) (v := ?vv126) rfl (by kernel_rfl) (by kernel_rfl) (by kernel_rfl) (fun _ _ _ h => h) (Or.inl ⟨by rfl, ?hy126⟩) hHeld ?rest126
          case hy126 => (intro wS hSw; (try dsimp only at hSw); go_simp; try with_reducible rfl)
          simp only [Act.put, List.setIfInBounds_toArray, List.set_cons_zero, List.set_cons_succ]
          refine wpAnyH_ready (rs := [8]) (by kernel_rfl) (by simp) ?_
          refine AllReadyH.cons (o := { dst := none, op := Op.store 31 (Operand.tmp 114) (Operand.const (Value.int IntKind.u64 0)), type := 0, pos := "law.go:50", after := #[{ on := 7, ground := Ground.data }, { on := 0, ground := Ground.phase }, { on := 1, ground := Ground.phase }, { on := 2, ground := Ground.phase }, { on := 3, ground := Ground.phase }, { on := 4, ground := Ground.phase }, { on := 5, ground := Ground.phase }, { on := 6, ground := Ground.phase }], guard := none }) rfl (fun K hK => ?_) AllReadyH.nil
          have cO := OC.out.1
          have fO := OC.out.2
          go_simp
          clear cO fO
          clear hHeld
          refine hK.out _ _ (⟨HP.out.box.2.1, HP.out.2.1.head.2⟩) (fun hHeld => ?_)
          clear hK K
          try simp only [Act.put, List.setIfInBounds_toArray, List.set_cons_zero, List.set_cons_succ]
          refine wpAnyH_done (by kernel_rfl) ?_ _
          go_wp2_with fail
          go_meet
          try exact Lib.hid ⟨_, _, _, _, HP.out.drew⟩

      · as_aux_lemma =>
        rename_i big jj1 jj2 jj3 jj4; clear big
        obtain ⟨t, ht⟩ : ∃ t, Fr.may os f off l = t := ⟨_, rfl⟩
        have HM := Lib.hid ht
        have MT := Lib.hid (show t = true ↔ th = true ∧ 0 ≤ off ∧ off + l ≤ 64 by rw [← ht, ← HT.out]; unfold Fr.may; simp)
        have OB := HB.out.2.2.1
        have LB := HA.out.2.1
        clear ht
        go_upto_region 19 with fail
        go_cut [10] (fun s10 wx => wc = wx ∧ s10 = .bool t)
        case first =>
         as_aux_lemma =>
          obtain rfl | rfl : th = false ∨ th = true := by cases th; exact .inl rfl; exact .inr rfl
          · as_aux_lemma =>
            have tz : t = false := by have := MT.out; simpa using this
            subst tz
            go_wp2_with fail
            go_meet
            try exact ⟨rfl, rfl⟩
          · as_aux_lemma =>
            go_wp2_with fail
            all_goals
              go_meet
              refine ⟨rfl, congrArg Value.bool ?_⟩
              have mt := MT.out
              cases t
              · simp at mt ⊢; try omega
              · simp at mt ⊢; try omega
        case rest =>
          obtain ⟨rfl, rfl⟩ := hcut
          have WR := Lib.hid (write_st f off A l c bs HC.out.1 (by have := HB.out; omega) (by have := HB.out; omega) (by have := HB.out; omega) (by have := HB.out; omega) HA.out.1 (by omega) HA.out.2.2.1 (HA.out.2.2.2.1.below HC.out.1.b) (fun a ha hp => by
            obtain ⟨b', o', e, lt, _⟩ := HA.out.2.2.2.1 0 (bs.getD 0 0) (by rw [List.getD_eq_getElem?_getD, List.getElem?_eq_getElem (by have := HA.out.1; omega)]; rfl)
            rw [ha] at e
            injection e with e
            subst e
            exact .inl lt) HA.out.2.2.2.2 t HM.out _ rfl)
          clear OB LB
          go_wp2_with fail
          refine WR.out.mono ?_; rintro e wq ⟨rfl, hq, sm⟩
          have HQ := Lib.hid hq
          have SM := Lib.hid sm
          have HD := Lib.hid (HC.out.held sm)
          clear b0 b1 b2 b3 b4 b5 m0 m1 hq sm WR
          obtain ⟨b0, b1, b2, b3, b4, b5⟩ := box_cells HD.out.2
          obtain ⟨m0, m1⟩ := HD.out.1.head
          obtain rfl | rfl : t = false ∨ t = true := by cases t; exact .inl rfl; exact .inr rfl
          · as_aux_lemma =>
            have HP := Lib.hid (HC.out.stay (w' := wq) (by
              have := HQ.out
              unfold Fr.put at this
              rw [HA.out.1, HM.out, if_neg (by simp)] at this
              exact this) SM.out)
            go_wp2_with fail
            go_meet
            try exact Lib.hid ⟨_, _, _, _, HP.out⟩
          · as_aux_lemma =>
            have mt := MT.out.1 rfl
            obtain ⟨a, ha⟩ : ∃ a : Nat, off = (a : Int) := ⟨off.toNat, by omega⟩
            obtain ⟨i, hfi, hil, hio⟩ := Fr.own_pos os f (by have := HT.out; rw [mt.1] at this; simpa using this)
            have iN : (i : Int) < N := by have := HN.out; omega
            have fi : f - 1 = (i : Int) := by omega
            have iw : IntKind.i64.wrap (i : Int) = (i : Int) := by simp [IntKind.wrap, IntKind.bits, IntKind.signed]; have := HN.out; omega
            have dl : (ds.getD i []).length = 64 := HC.out.1.len.2.2.2.2.2 i (by have := HN.out; omega) hio
            have hp : Fr.put os ds f off bs = ds.set i (Fr.lay (ds.getD i []) a bs) := by
              unfold Fr.put
              rw [HA.out.1, HM.out, if_pos rfl, show f.toNat - 1 = i by omega, show off.toNat = a by omega]
            have hq2 := HQ.out
            rw [hp] at hq2
            have al : a + l ≤ 64 := by omega
            have a64i : (a : Int) ≤ 64 := by omega
            have off0 : 0 ≤ off := mt.2.1
            obtain ⟨⟨dv, dc, dv'⟩, _⟩ := HD.out.1.data i (by omega)
            obtain rfl := dv' hio
            have mb := HD.out.1.2.2.2.2.1 i (by omega) hio
            have b2' := b2
            rw [ha] at b2'
            by_cases a64 : a = 64
            · as_aux_lemma =>
              rw [a64] at hq2 b2'
              obtain ⟨w6, hrun, hb6, ht6⟩ := copy_run wq.drew 3 (bl i) 0 64 l c A (ds.getD i []) bs mb dl HA.out.1 (by omega) (by omega) (HA.out.2.2.2.1.below HQ.out.b.drew)
              have HP := Lib.hid (HC.out.wrote (i := i) (w' := wq.drew) (by omega) hio hq2.drew (same_drew SM.out) ht6 hb6)
              have k2 := HP.out.box.2.2.1
              rw [ha, a64] at k2
              have KT := Lib.hid (And.intro HP.out.box.2.1 (And.intro k2 (And.intro HP.out.box.2.2.2.2.2 (And.intro HP.out.2.1.head.1 (show w6.cell? ⟨D, i, none⟩ = some (.slice (some ⟨bl i, 0, none⟩) 64 64) by obtain ⟨⟨v, v1, v2⟩, _⟩ := HP.out.2.1.data i (by omega); rw [v1, v2 hio])))))
              have KS := Lib.hid (And.intro b1 (And.intro b2' (And.intro b5 (And.intro m0 dc))))
              have HR := Lib.hid hrun
              clear mb dl hp hq2 mt hfi hil hio ht6 hb6 hrun dc HC HQ SM HD HT HB HA HM MT HE b0 b1 b2 b3 b4 b5 m0 m1 b2' k2 ha a64 al a64i off0
              go_upto_region 23 with fail
              refine wp_region_held_drew (S := fun w' => w'.cell? ⟨C, 1, none⟩ = some (.int .i64 f) ∧ w'.cell? ⟨C, 2, none⟩ = some (.int .i64 ((64 : Nat) : Int)) ∧ w'.cell? ⟨C, 5, none⟩ = some (.slice A l c) ∧ w'.cell? ⟨M, 0, none⟩ = some (.slice (some ⟨D, 0, none⟩) N N) ∧ w'.cell? ⟨D, i, none⟩ = some (.slice (some ⟨bl i, 0, none⟩) 64 64)) (by kernel_rfl) (KS.out) (fun hHeld => ?_)
              refine wpAnyH_take (i := 0) (oi := { dst := some 148, op := Op.move (Operand.tmp 0), type := 26, pos := "law.go:58", after := #[], guard := none }) (v := ?vv171) rfl (by kernel_rfl) (by kernel_rfl) (by kernel_rfl) (fun _ _ _ h => h) (Or.inl ⟨by rfl, ?hy171⟩) hHeld ?rest171
              case hy171 => (intro wS hSw; (try dsimp only at hSw); go_simp; try with_reducible rfl)
              simp only [Act.put, List.setIfInBounds_toArray, List.set_cons_zero, List.set_cons_succ]
              refine wpAnyH_take (i := 1) (oi := { dst := some 149, op := Op.nilCheck (Operand.tmp 148), type := 0, pos := "law.go:58", after := #[{ on := 0, ground := Ground.data }], guard := none }) (v := ?vv172) rfl (by kernel_rfl) (by kernel_rfl) (by kernel_rfl) (fun _ _ _ h => h) (Or.inl ⟨by rfl, ?hy172⟩) hHeld ?rest172
              case hy172 => (intro wS hSw; (try dsimp only at hSw); go_simp; try with_reducible rfl)
              simp only [Act.put, List.setIfInBounds_toArray, List.set_cons_zero, List.set_cons_succ]
              refine wpAnyH_take (i := 2) (oi := { dst := some 150, op := Op.fieldAddr 30 (Operand.tmp 149) 0, type := 0, pos := "law.go:58", after := #[{ on := 1, ground := Ground.data }], guard := none }) (v := ?vv173) rfl (by kernel_rfl) (by kernel_rfl) (by kernel_rfl) (fun _ _ _ h => h) (Or.inl ⟨by rfl, ?hy173⟩) hHeld ?rest173
              case hy173 => (intro wS hSw; (try dsimp only at hSw); go_simp; try with_reducible rfl)
              simp only [Act.put, List.setIfInBounds_toArray, List.set_cons_zero, List.set_cons_succ]
              refine wpAnyH_take (i := 3) (oi := { dst := some 151, op := Op.load 27 (Operand.tmp 150), type := 27, pos := "law.go:58", after := #[{ on := 2, ground := Ground.data }], guard := none }) (v := ?vv174) rfl (by kernel_rfl) (by kernel_rfl) (by kernel_rfl) (fun _ _ _ h => h) (Or.inl ⟨by rfl, ?hy174⟩) hHeld ?rest174
              case hy174 => (intro wS hSw; (try dsimp only at hSw); go_simp; try with_reducible rfl)
              simp only [Act.put, List.setIfInBounds_toArray, List.set_cons_zero, List.set_cons_succ]
              refine wpAnyH_take (i := 4) (oi := { dst := some 152, op := Op.fieldAddr 34 (Operand.tmp 5) 1, type := 0, pos := "law.go:58", after := #[], guard := none }) (v := ?vv175) rfl (by kernel_rfl) (by kernel_rfl) (by kernel_rfl) (fun _ _ _ h => h) (Or.inl ⟨by rfl, ?hy175⟩) hHeld ?rest175
              case hy175 => (intro wS hSw; (try dsimp only at hSw); go_simp; try with_reducible rfl)
              simp only [Act.put, List.setIfInBounds_toArray, List.set_cons_zero, List.set_cons_succ]
              refine wpAnyH_take (i := 5) (oi := { dst := some 153, op := Op.load 3 (Operand.tmp 152), type := 3, pos := "law.go:58", after := #[{ on := 4, ground := Ground.data }], guard := none }) (v := ?vv176) rfl (by kernel_rfl) (by kernel_rfl) (by kernel_rfl) (fun _ _ _ h => h) (Or.inl ⟨by rfl, ?hy176⟩) hHeld ?rest176
              case hy176 => (intro wS hSw; (try dsimp only at hSw); go_simp; try with_reducible rfl)
              simp only [Act.put, List.setIfInBounds_toArray, List.set_cons_zero, List.set_cons_succ]
              refine wpAnyH_take (i := 6) (oi := { dst := some 154, op := Op.binOp BinOp.sub 3 (Operand.tmp 153) (Operand.const (Value.int IntKind.i64 1)) 3, type := 3, pos := "law.go:58", after := #[{ on := 5, ground := Ground.data }], guard := none }) (v := ?vv177) rfl (by kernel_rfl) (by kernel_rfl) (by kernel_rfl) (fun _ _ _ h => h) (Or.inl ⟨by rfl, ?hy177⟩) hHeld ?rest177
              case hy177 => (intro wS hSw; (try dsimp only at hSw); go_simp; try with_reducible rfl)
              simp only [Act.put, List.setIfInBounds_toArray, List.set_cons_zero, List.set_cons_succ]
              refine wpAnyH_take (i := 7) (oi := { dst := some 155, op := Op.indexAddr 27 (Operand.tmp 151) (Operand.tmp 154), type := 0, pos := "law.go:58", after := #[{ on := 3, ground := Ground.data }, { on := 6, ground := Ground.data }], guard := none }) (v := ?vv178) rfl (by kernel_rfl) (by kernel_rfl) (by kernel_rfl) (fun _ _ _ h => h) (Or.inl ⟨by rfl, ?hy178⟩) hHeld ?rest178
              case hy178 => (intro wS hSw; (try dsimp only at hSw); go_simp; try with_reducible rfl)
              simp only [Act.put, List.setIfInBounds_toArray, List.set_cons_zero, List.set_cons_succ]
              refine wpAnyH_take (i := 8) (oi := { dst := some 156, op := Op.load 32 (Operand.tmp 155), type := 32, pos := "law.go:58", after := #[{ on := 7, ground := Ground.data }], guard := none }) (v := ?vv179) rfl (by kernel_rfl) (by kernel_rfl) (by kernel_rfl) (fun _ _ _ h => h) (Or.inl ⟨by rfl, ?hy179⟩) hHeld ?rest179
              case hy179 => (intro wS hSw; (try dsimp only at hSw); go_simp; try with_reducible rfl)
              simp only [Act.put, List.setIfInBounds_toArray, List.set_cons_zero, List.set_cons_succ]
              refine wpAnyH_take (i := 9) (oi := { dst := some 157, op := Op.fieldAddr 34 (Operand.tmp 5) 2, type := 0, pos := "law.go:58", after := #[], guard := none }) (v := ?vv180) rfl (by kernel_rfl) (by kernel_rfl) (by kernel_rfl) (fun _ _ _ h => h) (Or.inl ⟨by rfl, ?hy180⟩) hHeld ?rest180
              case hy180 => (intro wS hSw; (try dsimp only at hSw); go_simp; try with_reducible rfl)
              simp only [Act.put, List.setIfInBounds_toArray, List.set_cons_zero, List.set_cons_succ]
              refine wpAnyH_take (i := 10) (oi := { dst := some 158, op := Op.load 3 (Operand.tmp 157), type := 3, pos := "law.go:58", after := #[{ on := 9, ground := Ground.data }], guard := none }) (v := ?vv181) rfl (by kernel_rfl) (by kernel_rfl) (by kernel_rfl) (fun _ _ _ h => h) (Or.inl ⟨by rfl, ?hy181⟩) hHeld ?rest181
              case hy181 => (intro wS hSw; (try dsimp only at hSw); go_simp; try with_reducible rfl)
              simp only [Act.put, List.setIfInBounds_toArray, List.set_cons_zero, List.set_cons_succ]
              refine wpAnyH_take (i := 11) (oi := { dst := some 159, op := Op.slice 32 (Operand.tmp 156) (some (Operand.tmp 158)) none none, type := 32, pos := "law.go:58", after := #[{ on := 8, ground := Ground.data }, { on := 10, ground := Ground.data }], guard := none }) (v := ?vv182) rfl (by kernel_rfl) (by kernel_rfl) (by kernel_rfl) (fun _ _ _ h => h) (Or.inl ⟨by rfl, ?hy182⟩) hHeld ?rest182
              case hy182 => (intro wS hSw; (try dsimp only at hSw); go_simp; try with_reducible rfl)
              simp only [Act.put, List.setIfInBounds_toArray, List.set_cons_zero, List.set_cons_succ]
              refine wpAnyH_take (i := 12) (oi := { dst := some 160, op := Op.fieldAddr 34 (Operand.tmp 5) 5, type := 0, pos := "law.go:58", after := #[], guard := none }) (v := ?vv183) rfl (by kernel_rfl) (by kernel_rfl) (by kernel_rfl) (fun _ _ _ h => h) (Or.inl ⟨by rfl, ?hy183⟩) hHeld ?rest183
              case hy183 => (intro wS hSw; (try dsimp only at hSw); go_simp; try with_reducible rfl)
              simp only [Act.put, List.setIfInBounds_toArray, List.set_cons_zero, List.set_cons_succ]
              refine wpAnyH_take (i := 13) (oi := { dst := some 161, op := Op.load 32 (Operand.tmp 160), type := 32, pos := "law.go:58", after := #[{ on := 12, ground := Ground.data }], guard := none }) (v := ?vv184) rfl (by kernel_rfl) (by kernel_rfl) (by kernel_rfl) (fun _ _ _ h => h) (Or.inl ⟨by rfl, ?hy184⟩) hHeld ?rest184
              case hy184 => (intro wS hSw; (try dsimp only at hSw); go_simp; try with_reducible rfl)
              simp only [Act.put, List.setIfInBounds_toArray, List.set_cons_zero, List.set_cons_succ]
              refine wpAnyH_ready (rs := [14]) (by kernel_rfl) (by simp) ?_
              refine AllReadyH.cons (o := { dst := some 162, op := Op.call { callee := Callee.builtin Builtin.copy, args := #[Operand.tmp 159, Operand.tmp 161], argTypes := #[32, 32] }, type := 3, pos := "law.go:58", after := #[{ on := 11, ground := Ground.data }, { on := 13, ground := Ground.data }], guard := none }) rfl (fun K hK => ?_) AllReadyH.nil
              refine step_copy_run rfl (.tmp 159) (.tmp 161) 32 32 rfl _ _ _ rfl rfl w6 HR.out ?_
              clear hHeld
              refine hK.out _ _ (KT.out) (fun hHeld => ?_)
              clear hK K
              try simp only [Act.put, List.setIfInBounds_toArray, List.set_cons_zero, List.set_cons_succ]
              refine wpAnyH_done (by kernel_rfl) ?_ _
              go_wp2_with fail
              go_meet
              try exact Lib.hid ⟨_, _, _, _, HP.out⟩
            · as_aux_lemma =>
              obtain ⟨w6, hrun, hb6, ht6⟩ := copy_run wq.drew 3 (bl i) a a l c A (ds.getD i []) bs mb dl HA.out.1 al (fun _ => rfl) (HA.out.2.2.2.1.below HQ.out.b.drew)
              have HP := Lib.hid (HC.out.wrote (i := i) (w' := wq.drew) (by omega) hio hq2.drew (same_drew SM.out) ht6 hb6)
              have k2 := HP.out.box.2.2.1
              rw [ha] at k2
              have KT := Lib.hid (And.intro HP.out.box.2.1 (And.intro k2 (And.intro HP.out.box.2.2.2.2.2 (And.intro HP.out.2.1.head.1 (show w6.cell? ⟨D, i, none⟩ = some (.slice (some ⟨bl i, 0, none⟩) 64 64) by obtain ⟨⟨v, v1, v2⟩, _⟩ := HP.out.2.1.data i (by omega); rw [v1, v2 hio])))))
              have KS := Lib.hid (And.intro b1 (And.intro b2' (And.intro b5 (And.intro m0 dc))))
              have HR := Lib.hid hrun
              have a64' : ¬ 64 = a := fun e => a64 e.symm
              clear mb dl hp hq2 mt hfi hil hio ht6 hb6 hrun dc HC HQ SM HD HT HB HA HM MT HE b0 b1 b2 b3 b4 b5 m0 m1 b2' k2 ha off0
              go_upto_region 23 with fail
              refine wp_region_held_drew (S := fun w' => w'.cell? ⟨C, 1, none⟩ = some (.int .i64 f) ∧ w'.cell? ⟨C, 2, none⟩ = some (.int .i64 ((a : Nat) : Int)) ∧ w'.cell? ⟨C, 5, none⟩ = some (.slice A l c) ∧ w'.cell? ⟨M, 0, none⟩ = some (.slice (some ⟨D, 0, none⟩) N N) ∧ w'.cell? ⟨D, i, none⟩ = some (.slice (some ⟨bl i, 0, none⟩) 64 64)) (by kernel_rfl) (KS.out) (fun hHeld => ?_)
              refine wpAnyH_take (i := 0) (oi := { dst := some 148, op := Op.move (Operand.tmp 0), type := 26, pos := "law.go:58", after := #[], guard := none }) (v := ?vv185) rfl (by kernel_rfl) (by kernel_rfl) (by kernel_rfl) (fun _ _ _ h => h) (Or.inl ⟨by rfl, ?hy185⟩) hHeld ?rest185
              case hy185 => (intro wS hSw; (try dsimp only at hSw); go_simp; try with_reducible rfl)
              simp only [Act.put, List.setIfInBounds_toArray, List.set_cons_zero, List.set_cons_succ]
              refine wpAnyH_take (i := 1) (oi := { dst := some 149, op := Op.nilCheck (Operand.tmp 148), type := 0, pos := "law.go:58", after := #[{ on := 0, ground := Ground.data }], guard := none }) (v := ?vv186) rfl (by kernel_rfl) (by kernel_rfl) (by kernel_rfl) (fun _ _ _ h => h) (Or.inl ⟨by rfl, ?hy186⟩) hHeld ?rest186
              case hy186 => (intro wS hSw; (try dsimp only at hSw); go_simp; try with_reducible rfl)
              simp only [Act.put, List.setIfInBounds_toArray, List.set_cons_zero, List.set_cons_succ]
              refine wpAnyH_take (i := 2) (oi := { dst := some 150, op := Op.fieldAddr 30 (Operand.tmp 149) 0, type := 0, pos := "law.go:58", after := #[{ on := 1, ground := Ground.data }], guard := none }) (v := ?vv187) rfl (by kernel_rfl) (by kernel_rfl) (by kernel_rfl) (fun _ _ _ h => h) (Or.inl ⟨by rfl, ?hy187⟩) hHeld ?rest187
              case hy187 => (intro wS hSw; (try dsimp only at hSw); go_simp; try with_reducible rfl)
              simp only [Act.put, List.setIfInBounds_toArray, List.set_cons_zero, List.set_cons_succ]
              refine wpAnyH_take (i := 3) (oi := { dst := some 151, op := Op.load 27 (Operand.tmp 150), type := 27, pos := "law.go:58", after := #[{ on := 2, ground := Ground.data }], guard := none }) (v := ?vv188) rfl (by kernel_rfl) (by kernel_rfl) (by kernel_rfl) (fun _ _ _ h => h) (Or.inl ⟨by rfl, ?hy188⟩) hHeld ?rest188
              case hy188 => (intro wS hSw; (try dsimp only at hSw); go_simp; try with_reducible rfl)
              simp only [Act.put, List.setIfInBounds_toArray, List.set_cons_zero, List.set_cons_succ]
              refine wpAnyH_take (i := 4) (oi := { dst := some 152, op := Op.fieldAddr 34 (Operand.tmp 5) 1, type := 0, pos := "law.go:58", after := #[], guard := none }) (v := ?vv189) rfl (by kernel_rfl) (by kernel_rfl) (by kernel_rfl) (fun _ _ _ h => h) (Or.inl ⟨by rfl, ?hy189⟩) hHeld ?rest189
              case hy189 => (intro wS hSw; (try dsimp only at hSw); go_simp; try with_reducible rfl)
              simp only [Act.put, List.setIfInBounds_toArray, List.set_cons_zero, List.set_cons_succ]
              refine wpAnyH_take (i := 5) (oi := { dst := some 153, op := Op.load 3 (Operand.tmp 152), type := 3, pos := "law.go:58", after := #[{ on := 4, ground := Ground.data }], guard := none }) (v := ?vv190) rfl (by kernel_rfl) (by kernel_rfl) (by kernel_rfl) (fun _ _ _ h => h) (Or.inl ⟨by rfl, ?hy190⟩) hHeld ?rest190
              case hy190 => (intro wS hSw; (try dsimp only at hSw); go_simp; try with_reducible rfl)
              simp only [Act.put, List.setIfInBounds_toArray, List.set_cons_zero, List.set_cons_succ]
              refine wpAnyH_take (i := 6) (oi := { dst := some 154, op := Op.binOp BinOp.sub 3 (Operand.tmp 153) (Operand.const (Value.int IntKind.i64 1)) 3, type := 3, pos := "law.go:58", after := #[{ on := 5, ground := Ground.data }], guard := none }) (v := ?vv191) rfl (by kernel_rfl) (by kernel_rfl) (by kernel_rfl) (fun _ _ _ h => h) (Or.inl ⟨by rfl, ?hy191⟩) hHeld ?rest191
              case hy191 => (intro wS hSw; (try dsimp only at hSw); go_simp; try with_reducible rfl)
              simp only [Act.put, List.setIfInBounds_toArray, List.set_cons_zero, List.set_cons_succ]
              refine wpAnyH_take (i := 7) (oi := { dst := some 155, op := Op.indexAddr 27 (Operand.tmp 151) (Operand.tmp 154), type := 0, pos := "law.go:58", after := #[{ on := 3, ground := Ground.data }, { on := 6, ground := Ground.data }], guard := none }) (v := ?vv192) rfl (by kernel_rfl) (by kernel_rfl) (by kernel_rfl) (fun _ _ _ h => h) (Or.inl ⟨by rfl, ?hy192⟩) hHeld ?rest192
              case hy192 => (intro wS hSw; (try dsimp only at hSw); go_simp; try with_reducible rfl)
              simp only [Act.put, List.setIfInBounds_toArray, List.set_cons_zero, List.set_cons_succ]
              refine wpAnyH_take (i := 8) (oi := { dst := some 156, op := Op.load 32 (Operand.tmp 155), type := 32, pos := "law.go:58", after := #[{ on := 7, ground := Ground.data }], guard := none }) (v := ?vv193) rfl (by kernel_rfl) (by kernel_rfl) (by kernel_rfl) (fun _ _ _ h => h) (Or.inl ⟨by rfl, ?hy193⟩) hHeld ?rest193
              case hy193 => (intro wS hSw; (try dsimp only at hSw); go_simp; try with_reducible rfl)
              simp only [Act.put, List.setIfInBounds_toArray, List.set_cons_zero, List.set_cons_succ]
              refine wpAnyH_take (i := 9) (oi := { dst := some 157, op := Op.fieldAddr 34 (Operand.tmp 5) 2, type := 0, pos := "law.go:58", after := #[], guard := none }) (v := ?vv194) rfl (by kernel_rfl) (by kernel_rfl) (by kernel_rfl) (fun _ _ _ h => h) (Or.inl ⟨by rfl, ?hy194⟩) hHeld ?rest194
              case hy194 => (intro wS hSw; (try dsimp only at hSw); go_simp; try with_reducible rfl)
              simp only [Act.put, List.setIfInBounds_toArray, List.set_cons_zero, List.set_cons_succ]
              refine wpAnyH_take (i := 10) (oi := { dst := some 158, op := Op.load 3 (Operand.tmp 157), type := 3, pos := "law.go:58", after := #[{ on := 9, ground := Ground.data }], guard := none }) (v := ?vv195) rfl (by kernel_rfl) (by kernel_rfl) (by kernel_rfl) (fun _ _ _ h => h) (Or.inl ⟨by rfl, ?hy195⟩) hHeld ?rest195
              case hy195 => (intro wS hSw; (try dsimp only at hSw); go_simp; try with_reducible rfl)
              simp only [Act.put, List.setIfInBounds_toArray, List.set_cons_zero, List.set_cons_succ]
              refine wpAnyH_take (i := 11) (oi := { dst := some 159, op := Op.slice 32 (Operand.tmp 156) (some (Operand.tmp 158)) none none, type := 32, pos := "law.go:58", after := #[{ on := 8, ground := Ground.data }, { on := 10, ground := Ground.data }], guard := none }) (v := ?vv196) rfl (by kernel_rfl) (by kernel_rfl) (by kernel_rfl) (fun _ _ _ h => h) (Or.inl ⟨by rfl, ?hy196⟩) hHeld ?rest196
              case hy196 => (intro wS hSw; (try dsimp only at hSw); go_simp; try with_reducible rfl)
              simp only [Act.put, List.setIfInBounds_toArray, List.set_cons_zero, List.set_cons_succ]
              refine wpAnyH_take (i := 12) (oi := { dst := some 160, op := Op.fieldAddr 34 (Operand.tmp 5) 5, type := 0, pos := "law.go:58", after := #[], guard := none }) (v := ?vv197) rfl (by kernel_rfl) (by kernel_rfl) (by kernel_rfl) (fun _ _ _ h => h) (Or.inl ⟨by rfl, ?hy197⟩) hHeld ?rest197
              case hy197 => (intro wS hSw; (try dsimp only at hSw); go_simp; try with_reducible rfl)
              simp only [Act.put, List.setIfInBounds_toArray, List.set_cons_zero, List.set_cons_succ]
              refine wpAnyH_take (i := 13) (oi := { dst := some 161, op := Op.load 32 (Operand.tmp 160), type := 32, pos := "law.go:58", after := #[{ on := 12, ground := Ground.data }], guard := none }) (v := ?vv198) rfl (by kernel_rfl) (by kernel_rfl) (by kernel_rfl) (fun _ _ _ h => h) (Or.inl ⟨by rfl, ?hy198⟩) hHeld ?rest198
              case hy198 => (intro wS hSw; (try dsimp only at hSw); go_simp; try with_reducible rfl)
              simp only [Act.put, List.setIfInBounds_toArray, List.set_cons_zero, List.set_cons_succ]
              refine wpAnyH_ready (rs := [14]) (by kernel_rfl) (by simp) ?_
              refine AllReadyH.cons (o := { dst := some 162, op := Op.call { callee := Callee.builtin Builtin.copy, args := #[Operand.tmp 159, Operand.tmp 161], argTypes := #[32, 32] }, type := 3, pos := "law.go:58", after := #[{ on := 11, ground := Ground.data }, { on := 13, ground := Ground.data }], guard := none }) rfl (fun K hK => ?_) AllReadyH.nil
              refine step_copy_run rfl (.tmp 159) (.tmp 161) 32 32 rfl _ _ _ rfl rfl w6 HR.out ?_
              clear hHeld
              refine hK.out _ _ (KT.out) (fun hHeld => ?_)
              clear hK K
              try simp only [Act.put, List.setIfInBounds_toArray, List.set_cons_zero, List.set_cons_succ]
              refine wpAnyH_done (by kernel_rfl) ?_ _
              go_wp2_with fail
              go_meet
              try exact Lib.hid ⟨_, _, _, _, HP.out⟩
      · as_aux_lemma =>
        rename_i big jj1 jj2 jj3 jj4; clear big
        obtain ⟨t, ht⟩ : ∃ t, Fr.may os f off n = t := ⟨_, rfl⟩
        have HM := Lib.hid ht
        have MT := Lib.hid (show t = true ↔ th = true ∧ 0 ≤ off ∧ 0 ≤ n ∧ off + n ≤ 64 by rw [← ht, ← HT.out]; unfold Fr.may; simp)
        have OB := HB.out.2.2.1
        have NB := HB.out.2.2.2.1
        clear ht
        go_upto_region 25 with fail
        go_cut [11] (fun s11 wx => wc = wx ∧ s11 = .bool t)
        case first =>
         as_aux_lemma =>
          obtain rfl | rfl : th = false ∨ th = true := by cases th; exact .inl rfl; exact .inr rfl
          · as_aux_lemma =>
            have tz : t = false := by have := MT.out; simpa using this
            subst tz
            go_wp2_with fail
            go_meet
            try exact ⟨rfl, rfl⟩
          · as_aux_lemma =>
            go_wp2_with fail
            all_goals
              go_meet
              refine ⟨rfl, congrArg Value.bool ?_⟩
              have mt := MT.out
              cases t
              · simp at mt ⊢; try omega
              · simp at mt ⊢; try omega
        case rest =>
          obtain ⟨rfl, rfl⟩ := hcut
          have RD := Lib.hid (read_st f off n HC.out.1 (by have := HB.out; omega) (by have := HB.out; omega) (by have := HB.out; omega) (by have := HB.out; omega) (by have := HB.out; omega) (by have := HB.out; omega) t HM.out _ rfl)
          obtain rfl | rfl : t = false ∨ t = true := by cases t; exact .inl rfl; exact .inr rfl
          · as_aux_lemma =>
            simp only [Bool.false_eq_true, if_false, List.length_nil] at RD
            go_wp2_with fail
            refine RD.out.mono ?_; rintro e wq ⟨A', c', rfl, _, hq, sm, _⟩
            have HP := Lib.hid (HC.out.stay hq sm)
            clear hq sm RD
            go_wp2_with fail
            go_ret
            exact ⟨rfl, HP.out.pm⟩
          · as_aux_lemma =>
            have mt := MT.out.1 rfl
            obtain ⟨a, ha⟩ : ∃ a : Nat, off = (a : Int) := ⟨off.toNat, by omega⟩
            obtain ⟨q, hq0⟩ : ∃ q : Nat, n = (q : Int) := ⟨n.toNat, by omega⟩
            obtain ⟨i, hfi, hil, hio⟩ := Fr.own_pos os f (by have := HT.out; rw [mt.1] at this; simpa using this)
            have iN : (i : Int) < N := by have := HN.out; omega
            have fi : f - 1 = (i : Int) := by omega
            have iw : IntKind.i64.wrap (i : Int) = (i : Int) := by simp [IntKind.wrap, IntKind.bits, IntKind.signed]; have := HN.out; omega
            obtain ⟨X, hX⟩ : ∃ X, Fr.get ds f off n = X := ⟨_, rfl⟩
            have hX' : ((ds.getD i []).drop a).take q = X := by
              rw [← hX]; unfold Fr.get
              rw [show f.toNat - 1 = i by omega, show off.toNat = a by omega, show n.toNat = q by omega]
            have dl : (ds.getD i []).length = 64 := HC.out.1.len.2.2.2.2.2 i (by have := HN.out; omega) hio
            have xl : X.length = q := by rw [← hX', List.length_take, List.length_drop, dl]; omega
            have RD2 := Lib.hid RD.out
            rw [if_pos rfl, hX, xl] at RD2
            obtain ⟨z, hz⟩ : ∃ z : Nat, (a : Int) + (q : Int) = (z : Int) := ⟨a + q, by omega⟩
            have z64 : z ≤ 64 := by omega
            have oz : a ≤ z := by omega
            have zq : z - a = q := by omega
            have oz' : (a : Int) ≤ (z : Int) := by omega
            have z64' : (z : Int) ≤ 64 := by omega
            have zw : IntKind.i64.wrap (z : Int) = (z : Int) := by simp [IntKind.wrap, IntKind.bits, IntKind.signed]; omega
            have HI := Lib.hid (And.intro hil hio)
            have XL := Lib.hid xl
            have HX := Lib.hid hX'
            have HZ := Lib.hid (And.intro z64 (And.intro oz zq))
            have HAQ := Lib.hid (And.intro ha hq0)
            clear RD mt OB NB hX hX' dl xl hil hio hfi ha hq0
            go_wp2_with fail
            refine RD2.out.mono ?_; rintro e wq ⟨A', c', rfl, hbr, hq, sm, _⟩
            have HP := Lib.hid (HC.out.stay hq sm)
            clear b0 b1 b2 b3 b4 b5 m0 m1
            obtain ⟨b0, b1, b2, b3, b4, b5⟩ := HP.out.box
            obtain ⟨m0, m1⟩ := HP.out.2.1.head
            have b2' := b2
            rw [HAQ.out.1] at b2'
            have b3' := b3
            rw [HAQ.out.2] at b3'
            obtain ⟨⟨dv, dc, dv'⟩, _⟩ := HP.out.2.1.data i (by omega)
            obtain rfl := dv' HI.out.2
            have mb := HP.out.2.1.2.2.2.2.1 i (by omega) HI.out.2
            obtain ⟨s, hs⟩ : ∃ s, Str X = s := ⟨_, rfl⟩
            have cv1 := conv_bytes wq.drew A' q c' X XL.out hbr
            rw [hs] at cv1
            have bw := blk_part mb a q
            rw [HX.out] at bw
            by_cases a64 : a = 64
            · as_aux_lemma =>
              subst a64
              have q0 : q = 0 := by have := HZ.out; omega
              have hz64 : (64 : Int) + (q : Int) = (z : Int) := hz
              have oz64 : (64 : Int) ≤ (z : Int) := by omega
              have cv2 := conv_bytes wq.drew (some ⟨bl i, 0, none⟩) q 0 X XL.out (fun j x hx => by
                have := XL.out; have := (List.getElem?_eq_some_iff.1 hx).1; omega)
              rw [hs] at cv2
              have KS := Lib.hid (And.intro b1 (And.intro b2' (And.intro b3' (And.intro m0 (And.intro dc (And.intro cv1 cv2))))))
              clear hbr hq sm cv1 cv2 bw mb dc hs q0 hz b0 b1 b2 b3 b4 b5 m0 m1 b2' b3' HC
              go_upto_region 29 with fail
              refine wp_region_held_drew (S := fun w' => w'.cell? ⟨C, 1, none⟩ = some (.int .i64 f) ∧ w'.cell? ⟨C, 2, none⟩ = some (.int .i64 ((64 : Nat) : Int)) ∧ w'.cell? ⟨C, 3, none⟩ = some (.int .i64 ((q : Nat) : Int)) ∧ w'.cell? ⟨M, 0, none⟩ = some (.slice (some ⟨D, 0, none⟩) N N) ∧ w'.cell? ⟨D, i, none⟩ = some (.slice (some ⟨bl i, 0, none⟩) 64 64) ∧ (convert 32 9 (.slice A' q c')).run Try.prog w' = .ok (.string s) w' ∧ (convert 32 9 (.slice (some ⟨bl i, 0, none⟩) q 0)).run Try.prog w' = .ok (.string s) w') (by kernel_rfl) (KS.out) (fun hHeld => ?_)
              refine wpAnyH_take (i := 0) (oi := { dst := some 202, op := Op.move (Operand.tmp 12), type := 32, pos := "law.go:66", after := #[], guard := none }) (v := ?vv127) rfl (by kernel_rfl) (by kernel_rfl) (by kernel_rfl) (fun _ _ _ h => h) (Or.inl ⟨by rfl, ?hy127⟩) hHeld ?rest127
              case hy127 => (intro wS hSw; (try dsimp only at hSw); go_simp; try with_reducible rfl)
              simp only [Act.put, List.setIfInBounds_toArray, List.set_cons_zero, List.set_cons_succ]
              refine wpAnyH_take (i := 1) (oi := { dst := some 203, op := Op.convert 32 9 (Operand.tmp 202), type := 9, pos := "law.go:66", after := #[{ on := 0, ground := Ground.data }], guard := none }) (v := ?vv128) rfl (by kernel_rfl) (by kernel_rfl) (by kernel_rfl) (fun _ _ _ h => h) (Or.inl ⟨by rfl, ?hy128⟩) hHeld ?rest128
              case hy128 => (intro wS hSw; (try dsimp only at hSw); go_simp; try with_reducible rfl)
              simp only [Act.put, List.setIfInBounds_toArray, List.set_cons_zero, List.set_cons_succ]
              refine wpAnyH_take (i := 2) (oi := { dst := some 204, op := Op.move (Operand.tmp 0), type := 26, pos := "law.go:66", after := #[], guard := none }) (v := ?vv129) rfl (by kernel_rfl) (by kernel_rfl) (by kernel_rfl) (fun _ _ _ h => h) (Or.inl ⟨by rfl, ?hy129⟩) hHeld ?rest129
              case hy129 => (intro wS hSw; (try dsimp only at hSw); go_simp; try with_reducible rfl)
              simp only [Act.put, List.setIfInBounds_toArray, List.set_cons_zero, List.set_cons_succ]
              refine wpAnyH_take (i := 3) (oi := { dst := some 205, op := Op.nilCheck (Operand.tmp 204), type := 0, pos := "law.go:66", after := #[{ on := 2, ground := Ground.data }], guard := none }) (v := ?vv130) rfl (by kernel_rfl) (by kernel_rfl) (by kernel_rfl) (fun _ _ _ h => h) (Or.inl ⟨by rfl, ?hy130⟩) hHeld ?rest130
              case hy130 => (intro wS hSw; (try dsimp only at hSw); go_simp; try with_reducible rfl)
              simp only [Act.put, List.setIfInBounds_toArray, List.set_cons_zero, List.set_cons_succ]
              refine wpAnyH_take (i := 4) (oi := { dst := some 206, op := Op.fieldAddr 30 (Operand.tmp 205) 0, type := 0, pos := "law.go:66", after := #[{ on := 3, ground := Ground.data }], guard := none }) (v := ?vv131) rfl (by kernel_rfl) (by kernel_rfl) (by kernel_rfl) (fun _ _ _ h => h) (Or.inl ⟨by rfl, ?hy131⟩) hHeld ?rest131
              case hy131 => (intro wS hSw; (try dsimp only at hSw); go_simp; try with_reducible rfl)
              simp only [Act.put, List.setIfInBounds_toArray, List.set_cons_zero, List.set_cons_succ]
              refine wpAnyH_take (i := 5) (oi := { dst := some 207, op := Op.load 27 (Operand.tmp 206), type := 27, pos := "law.go:66", after := #[{ on := 4, ground := Ground.data }], guard := none }) (v := ?vv132) rfl (by kernel_rfl) (by kernel_rfl) (by kernel_rfl) (fun _ _ _ h => h) (Or.inl ⟨by rfl, ?hy132⟩) hHeld ?rest132
              case hy132 => (intro wS hSw; (try dsimp only at hSw); go_simp; try with_reducible rfl)
              simp only [Act.put, List.setIfInBounds_toArray, List.set_cons_zero, List.set_cons_succ]
              refine wpAnyH_take (i := 6) (oi := { dst := some 208, op := Op.fieldAddr 34 (Operand.tmp 5) 1, type := 0, pos := "law.go:66", after := #[], guard := none }) (v := ?vv133) rfl (by kernel_rfl) (by kernel_rfl) (by kernel_rfl) (fun _ _ _ h => h) (Or.inl ⟨by rfl, ?hy133⟩) hHeld ?rest133
              case hy133 => (intro wS hSw; (try dsimp only at hSw); go_simp; try with_reducible rfl)
              simp only [Act.put, List.setIfInBounds_toArray, List.set_cons_zero, List.set_cons_succ]
              refine wpAnyH_take (i := 7) (oi := { dst := some 209, op := Op.load 3 (Operand.tmp 208), type := 3, pos := "law.go:66", after := #[{ on := 6, ground := Ground.data }], guard := none }) (v := ?vv134) rfl (by kernel_rfl) (by kernel_rfl) (by kernel_rfl) (fun _ _ _ h => h) (Or.inl ⟨by rfl, ?hy134⟩) hHeld ?rest134
              case hy134 => (intro wS hSw; (try dsimp only at hSw); go_simp; try with_reducible rfl)
              simp only [Act.put, List.setIfInBounds_toArray, List.set_cons_zero, List.set_cons_succ]
              refine wpAnyH_take (i := 8) (oi := { dst := some 210, op := Op.binOp BinOp.sub 3 (Operand.tmp 209) (Operand.const (Value.int IntKind.i64 1)) 3, type := 3, pos := "law.go:66", after := #[{ on := 7, ground := Ground.data }], guard := none }) (v := ?vv135) rfl (by kernel_rfl) (by kernel_rfl) (by kernel_rfl) (fun _ _ _ h => h) (Or.inl ⟨by rfl, ?hy135⟩) hHeld ?rest135
              case hy135 => (intro wS hSw; (try dsimp only at hSw); go_simp; try with_reducible rfl)
              simp only [Act.put, List.setIfInBounds_toArray, List.set_cons_zero, List.set_cons_succ]
              refine wpAnyH_take (i := 9) (oi := { dst := some 211, op := Op.indexAddr 27 (Operand.tmp 207) (Operand.tmp 210), type := 0, pos := "law.go:66", after := #[{ on := 5, ground := Ground.data }, { on := 8, ground := Ground.data }], guard := none }) (v := ?vv136) rfl (by kernel_rfl) (by kernel_rfl) (by kernel_rfl) (fun _ _ _ h => h) (Or.inl ⟨by rfl, ?hy136⟩) hHeld ?rest136
              case hy136 => (intro wS hSw; (try dsimp only at hSw); go_simp; try with_reducible rfl)
              simp only [Act.put, List.setIfInBounds_toArray, List.set_cons_zero, List.set_cons_succ]
              refine wpAnyH_take (i := 10) (oi := { dst := some 212, op := Op.load 32 (Operand.tmp 211), type := 32, pos := "law.go:66", after := #[{ on := 9, ground := Ground.data }], guard := none }) (v := ?vv137) rfl (by kernel_rfl) (by kernel_rfl) (by kernel_rfl) (fun _ _ _ h => h) (Or.inl ⟨by rfl, ?hy137⟩) hHeld ?rest137
              case hy137 => (intro wS hSw; (try dsimp only at hSw); go_simp; try with_reducible rfl)
              simp only [Act.put, List.setIfInBounds_toArray, List.set_cons_zero, List.set_cons_succ]
              refine wpAnyH_take (i := 11) (oi := { dst := some 213, op := Op.fieldAddr 34 (Operand.tmp 5) 2, type := 0, pos := "law.go:66", after := #[], guard := none }) (v := ?vv138) rfl (by kernel_rfl) (by kernel_rfl) (by kernel_rfl) (fun _ _ _ h => h) (Or.inl ⟨by rfl, ?hy138⟩) hHeld ?rest138
              case hy138 => (intro wS hSw; (try dsimp only at hSw); go_simp; try with_reducible rfl)
              simp only [Act.put, List.setIfInBounds_toArray, List.set_cons_zero, List.set_cons_succ]
              refine wpAnyH_take (i := 12) (oi := { dst := some 214, op := Op.load 3 (Operand.tmp 213), type := 3, pos := "law.go:66", after := #[{ on := 11, ground := Ground.data }], guard := none }) (v := ?vv139) rfl (by kernel_rfl) (by kernel_rfl) (by kernel_rfl) (fun _ _ _ h => h) (Or.inl ⟨by rfl, ?hy139⟩) hHeld ?rest139
              case hy139 => (intro wS hSw; (try dsimp only at hSw); go_simp; try with_reducible rfl)
              simp only [Act.put, List.setIfInBounds_toArray, List.set_cons_zero, List.set_cons_succ]
              refine wpAnyH_take (i := 13) (oi := { dst := some 215, op := Op.fieldAddr 34 (Operand.tmp 5) 2, type := 0, pos := "law.go:66", after := #[], guard := none }) (v := ?vv140) rfl (by kernel_rfl) (by kernel_rfl) (by kernel_rfl) (fun _ _ _ h => h) (Or.inl ⟨by rfl, ?hy140⟩) hHeld ?rest140
              case hy140 => (intro wS hSw; (try dsimp only at hSw); go_simp; try with_reducible rfl)
              simp only [Act.put, List.setIfInBounds_toArray, List.set_cons_zero, List.set_cons_succ]
              refine wpAnyH_take (i := 14) (oi := { dst := some 216, op := Op.load 3 (Operand.tmp 215), type := 3, pos := "law.go:66", after := #[{ on := 13, ground := Ground.data }], guard := none }) (v := ?vv141) rfl (by kernel_rfl) (by kernel_rfl) (by kernel_rfl) (fun _ _ _ h => h) (Or.inl ⟨by rfl, ?hy141⟩) hHeld ?rest141
              case hy141 => (intro wS hSw; (try dsimp only at hSw); go_simp; try with_reducible rfl)
              simp only [Act.put, List.setIfInBounds_toArray, List.set_cons_zero, List.set_cons_succ]
              refine wpAnyH_take (i := 15) (oi := { dst := some 217, op := Op.fieldAddr 34 (Operand.tmp 5) 3, type := 0, pos := "law.go:66", after := #[], guard := none }) (v := ?vv142) rfl (by kernel_rfl) (by kernel_rfl) (by kernel_rfl) (fun _ _ _ h => h) (Or.inl ⟨by rfl, ?hy142⟩) hHeld ?rest142
              case hy142 => (intro wS hSw; (try dsimp only at hSw); go_simp; try with_reducible rfl)
              simp only [Act.put, List.setIfInBounds_toArray, List.set_cons_zero, List.set_cons_succ]
              refine wpAnyH_take (i := 16) (oi := { dst := some 218, op := Op.load 3 (Operand.tmp 217), type := 3, pos := "law.go:66", after := #[{ on := 15, ground := Ground.data }], guard := none }) (v := ?vv143) rfl (by kernel_rfl) (by kernel_rfl) (by kernel_rfl) (fun _ _ _ h => h) (Or.inl ⟨by rfl, ?hy143⟩) hHeld ?rest143
              case hy143 => (intro wS hSw; (try dsimp only at hSw); go_simp; try with_reducible rfl)
              simp only [Act.put, List.setIfInBounds_toArray, List.set_cons_zero, List.set_cons_succ]
              refine wpAnyH_take (i := 17) (oi := { dst := some 219, op := Op.binOp BinOp.add 3 (Operand.tmp 216) (Operand.tmp 218) 3, type := 3, pos := "law.go:66", after := #[{ on := 14, ground := Ground.data }, { on := 16, ground := Ground.data }], guard := none }) (v := ?vv144) rfl (by kernel_rfl) (by kernel_rfl) (by kernel_rfl) (fun _ _ _ h => h) (Or.inl ⟨by rfl, ?hy144⟩) hHeld ?rest144
              case hy144 => (intro wS hSw; (try dsimp only at hSw); go_simp; try with_reducible rfl)
              simp only [Act.put, List.setIfInBounds_toArray, List.set_cons_zero, List.set_cons_succ]
              refine wpAnyH_take (i := 18) (oi := { dst := some 220, op := Op.slice 32 (Operand.tmp 212) (some (Operand.tmp 214)) (some (Operand.tmp 219)) none, type := 32, pos := "law.go:66", after := #[{ on := 10, ground := Ground.data }, { on := 12, ground := Ground.data }, { on := 17, ground := Ground.data }], guard := none }) (v := ?vv145) rfl (by kernel_rfl) (by kernel_rfl) (by kernel_rfl) (fun _ _ _ h => h) (Or.inl ⟨by rfl, ?hy145⟩) hHeld ?rest145
              case hy145 => (intro wS hSw; (try dsimp only at hSw); go_simp; try with_reducible rfl)
              simp only [Act.put, List.setIfInBounds_toArray, List.set_cons_zero, List.set_cons_succ]
              refine wpAnyH_take (i := 19) (oi := { dst := some 221, op := Op.convert 32 9 (Operand.tmp 220), type := 9, pos := "law.go:66", after := #[{ on := 18, ground := Ground.data }], guard := none }) (v := ?vv146) rfl (by kernel_rfl) (by kernel_rfl) (by kernel_rfl) (fun _ _ _ h => h) (Or.inl ⟨by rfl, ?hy146⟩) hHeld ?rest146
              case hy146 => (intro wS hSw; (try dsimp only at hSw); go_simp; try with_reducible rfl)
              simp only [Act.put, List.setIfInBounds_toArray, List.set_cons_zero, List.set_cons_succ]
              refine wpAnyH_take (i := 20) (oi := { dst := some 222, op := Op.binOp BinOp.eql 9 (Operand.tmp 203) (Operand.tmp 221) 9, type := 4, pos := "law.go:66", after := #[{ on := 1, ground := Ground.data }, { on := 19, ground := Ground.data }], guard := none }) (v := ?vv147) rfl (by kernel_rfl) (by kernel_rfl) (by kernel_rfl) (fun _ _ _ h => h) (Or.inl ⟨by rfl, ?hy147⟩) hHeld ?rest147
              case hy147 => (intro wS hSw; (try dsimp only at hSw); go_simp; try with_reducible rfl)
              simp only [Act.put, List.setIfInBounds_toArray, List.set_cons_zero, List.set_cons_succ]
              refine wpAnyH_take (i := 21) (oi := { dst := some 6, op := Op.assign (Operand.tmp 222), type := 4, pos := "law.go:66", after := #[{ on := 20, ground := Ground.data }, { on := 0, ground := Ground.phase }, { on := 1, ground := Ground.phase }, { on := 2, ground := Ground.phase }, { on := 3, ground := Ground.phase }, { on := 4, ground := Ground.phase }, { on := 5, ground := Ground.phase }, { on := 6, ground := Ground.phase }, { on := 7, ground := Ground.phase }, { on := 8, ground := Ground.phase }, { on := 9, ground := Ground.phase }, { on := 10, ground := Ground.phase }, { on := 11, ground := Ground.phase }, { on := 12, ground := Ground.phase }, { on := 13, ground := Ground.phase }, { on := 14, ground := Ground.phase }, { on := 15, ground := Ground.phase }, { on := 16, ground := Ground.phase }, { on := 17, ground := Ground.phase }, { on := 18, ground := Ground.phase }, { on := 19, ground := Ground.phase }, { on := 20, ground := Ground.phase }], guard := none }) (v := ?vv148) rfl (by kernel_rfl) (by kernel_rfl) (by kernel_rfl) (fun _ _ _ h => h) (Or.inl ⟨by rfl, ?hy148⟩) hHeld ?rest148
              case hy148 => (intro wS hSw; (try dsimp only at hSw); go_simp; try with_reducible rfl)
              simp only [Act.put, List.setIfInBounds_toArray, List.set_cons_zero, List.set_cons_succ]
              refine wpAnyH_done (by kernel_rfl) ?_ _
              go_wp2_with fail
              go_ret
              exact ⟨rfl, HP.out.drew.pm⟩
            · as_aux_lemma =>
              have cv2 := conv_bytes wq.drew (some ⟨bl i, a, none⟩) q (64 - a) X XL.out bw
              rw [hs] at cv2
              have KS := Lib.hid (And.intro b1 (And.intro b2' (And.intro b3' (And.intro m0 (And.intro dc (And.intro cv1 cv2))))))
              have a64' : ¬ 64 = a := fun e => a64 e.symm
              clear hbr hq sm cv1 cv2 bw mb dc hs b0 b1 b2 b3 b4 b5 m0 m1 b2' b3' HC
              go_upto_region 29 with fail
              refine wp_region_held_drew (S := fun w' => w'.cell? ⟨C, 1, none⟩ = some (.int .i64 f) ∧ w'.cell? ⟨C, 2, none⟩ = some (.int .i64 ((a : Nat) : Int)) ∧ w'.cell? ⟨C, 3, none⟩ = some (.int .i64 ((q : Nat) : Int)) ∧ w'.cell? ⟨M, 0, none⟩ = some (.slice (some ⟨D, 0, none⟩) N N) ∧ w'.cell? ⟨D, i, none⟩ = some (.slice (some ⟨bl i, 0, none⟩) 64 64) ∧ (convert 32 9 (.slice A' q c')).run Try.prog w' = .ok (.string s) w' ∧ (convert 32 9 (.slice (some ⟨bl i, a, none⟩) q (64 - a))).run Try.prog w' = .ok (.string s) w') (by kernel_rfl) (KS.out) (fun hHeld => ?_)
              refine wpAnyH_take (i := 0) (oi := { dst := some 202, op := Op.move (Operand.tmp 12), type := 32, pos := "law.go:66", after := #[], guard := none }) (v := ?vv149) rfl (by kernel_rfl) (by kernel_rfl) (by kernel_rfl) (fun _ _ _ h => h) (Or.inl ⟨by rfl, ?hy149⟩) hHeld ?rest149
              case hy149 => (intro wS hSw; (try dsimp only at hSw); go_simp; try with_reducible rfl)
              simp only [Act.put, List.setIfInBounds_toArray, List.set_cons_zero, List.set_cons_succ]
              refine wpAnyH_take (i := 1) (oi := { dst := some 203, op := Op.convert 32 9 (Operand.tmp 202), type := 9, pos := "law.go:66", after := #[{ on := 0, ground := Ground.data }], guard := none }) (v := ?vv150) rfl (by kernel_rfl) (by kernel_rfl) (by kernel_rfl) (fun _ _ _ h => h) (Or.inl ⟨by rfl, ?hy150⟩) hHeld ?rest150
              case hy150 => (intro wS hSw; (try dsimp only at hSw); go_simp; try with_reducible rfl)
              simp only [Act.put, List.setIfInBounds_toArray, List.set_cons_zero, List.set_cons_succ]
              refine wpAnyH_take (i := 2) (oi := { dst := some 204, op := Op.move (Operand.tmp 0), type := 26, pos := "law.go:66", after := #[], guard := none }) (v := ?vv151) rfl (by kernel_rfl) (by kernel_rfl) (by kernel_rfl) (fun _ _ _ h => h) (Or.inl ⟨by rfl, ?hy151⟩) hHeld ?rest151
              case hy151 => (intro wS hSw; (try dsimp only at hSw); go_simp; try with_reducible rfl)
              simp only [Act.put, List.setIfInBounds_toArray, List.set_cons_zero, List.set_cons_succ]
              refine wpAnyH_take (i := 3) (oi := { dst := some 205, op := Op.nilCheck (Operand.tmp 204), type := 0, pos := "law.go:66", after := #[{ on := 2, ground := Ground.data }], guard := none }) (v := ?vv152) rfl (by kernel_rfl) (by kernel_rfl) (by kernel_rfl) (fun _ _ _ h => h) (Or.inl ⟨by rfl, ?hy152⟩) hHeld ?rest152
              case hy152 => (intro wS hSw; (try dsimp only at hSw); go_simp; try with_reducible rfl)
              simp only [Act.put, List.setIfInBounds_toArray, List.set_cons_zero, List.set_cons_succ]
              refine wpAnyH_take (i := 4) (oi := { dst := some 206, op := Op.fieldAddr 30 (Operand.tmp 205) 0, type := 0, pos := "law.go:66", after := #[{ on := 3, ground := Ground.data }], guard := none }) (v := ?vv153) rfl (by kernel_rfl) (by kernel_rfl) (by kernel_rfl) (fun _ _ _ h => h) (Or.inl ⟨by rfl, ?hy153⟩) hHeld ?rest153
              case hy153 => (intro wS hSw; (try dsimp only at hSw); go_simp; try with_reducible rfl)
              simp only [Act.put, List.setIfInBounds_toArray, List.set_cons_zero, List.set_cons_succ]
              refine wpAnyH_take (i := 5) (oi := { dst := some 207, op := Op.load 27 (Operand.tmp 206), type := 27, pos := "law.go:66", after := #[{ on := 4, ground := Ground.data }], guard := none }) (v := ?vv154) rfl (by kernel_rfl) (by kernel_rfl) (by kernel_rfl) (fun _ _ _ h => h) (Or.inl ⟨by rfl, ?hy154⟩) hHeld ?rest154
              case hy154 => (intro wS hSw; (try dsimp only at hSw); go_simp; try with_reducible rfl)
              simp only [Act.put, List.setIfInBounds_toArray, List.set_cons_zero, List.set_cons_succ]
              refine wpAnyH_take (i := 6) (oi := { dst := some 208, op := Op.fieldAddr 34 (Operand.tmp 5) 1, type := 0, pos := "law.go:66", after := #[], guard := none }) (v := ?vv155) rfl (by kernel_rfl) (by kernel_rfl) (by kernel_rfl) (fun _ _ _ h => h) (Or.inl ⟨by rfl, ?hy155⟩) hHeld ?rest155
              case hy155 => (intro wS hSw; (try dsimp only at hSw); go_simp; try with_reducible rfl)
              simp only [Act.put, List.setIfInBounds_toArray, List.set_cons_zero, List.set_cons_succ]
              refine wpAnyH_take (i := 7) (oi := { dst := some 209, op := Op.load 3 (Operand.tmp 208), type := 3, pos := "law.go:66", after := #[{ on := 6, ground := Ground.data }], guard := none }) (v := ?vv156) rfl (by kernel_rfl) (by kernel_rfl) (by kernel_rfl) (fun _ _ _ h => h) (Or.inl ⟨by rfl, ?hy156⟩) hHeld ?rest156
              case hy156 => (intro wS hSw; (try dsimp only at hSw); go_simp; try with_reducible rfl)
              simp only [Act.put, List.setIfInBounds_toArray, List.set_cons_zero, List.set_cons_succ]
              refine wpAnyH_take (i := 8) (oi := { dst := some 210, op := Op.binOp BinOp.sub 3 (Operand.tmp 209) (Operand.const (Value.int IntKind.i64 1)) 3, type := 3, pos := "law.go:66", after := #[{ on := 7, ground := Ground.data }], guard := none }) (v := ?vv157) rfl (by kernel_rfl) (by kernel_rfl) (by kernel_rfl) (fun _ _ _ h => h) (Or.inl ⟨by rfl, ?hy157⟩) hHeld ?rest157
              case hy157 => (intro wS hSw; (try dsimp only at hSw); go_simp; try with_reducible rfl)
              simp only [Act.put, List.setIfInBounds_toArray, List.set_cons_zero, List.set_cons_succ]
              refine wpAnyH_take (i := 9) (oi := { dst := some 211, op := Op.indexAddr 27 (Operand.tmp 207) (Operand.tmp 210), type := 0, pos := "law.go:66", after := #[{ on := 5, ground := Ground.data }, { on := 8, ground := Ground.data }], guard := none }) (v := ?vv158) rfl (by kernel_rfl) (by kernel_rfl) (by kernel_rfl) (fun _ _ _ h => h) (Or.inl ⟨by rfl, ?hy158⟩) hHeld ?rest158
              case hy158 => (intro wS hSw; (try dsimp only at hSw); go_simp; try with_reducible rfl)
              simp only [Act.put, List.setIfInBounds_toArray, List.set_cons_zero, List.set_cons_succ]
              refine wpAnyH_take (i := 10) (oi := { dst := some 212, op := Op.load 32 (Operand.tmp 211), type := 32, pos := "law.go:66", after := #[{ on := 9, ground := Ground.data }], guard := none }) (v := ?vv159) rfl (by kernel_rfl) (by kernel_rfl) (by kernel_rfl) (fun _ _ _ h => h) (Or.inl ⟨by rfl, ?hy159⟩) hHeld ?rest159
              case hy159 => (intro wS hSw; (try dsimp only at hSw); go_simp; try with_reducible rfl)
              simp only [Act.put, List.setIfInBounds_toArray, List.set_cons_zero, List.set_cons_succ]
              refine wpAnyH_take (i := 11) (oi := { dst := some 213, op := Op.fieldAddr 34 (Operand.tmp 5) 2, type := 0, pos := "law.go:66", after := #[], guard := none }) (v := ?vv160) rfl (by kernel_rfl) (by kernel_rfl) (by kernel_rfl) (fun _ _ _ h => h) (Or.inl ⟨by rfl, ?hy160⟩) hHeld ?rest160
              case hy160 => (intro wS hSw; (try dsimp only at hSw); go_simp; try with_reducible rfl)
              simp only [Act.put, List.setIfInBounds_toArray, List.set_cons_zero, List.set_cons_succ]
              refine wpAnyH_take (i := 12) (oi := { dst := some 214, op := Op.load 3 (Operand.tmp 213), type := 3, pos := "law.go:66", after := #[{ on := 11, ground := Ground.data }], guard := none }) (v := ?vv161) rfl (by kernel_rfl) (by kernel_rfl) (by kernel_rfl) (fun _ _ _ h => h) (Or.inl ⟨by rfl, ?hy161⟩) hHeld ?rest161
              case hy161 => (intro wS hSw; (try dsimp only at hSw); go_simp; try with_reducible rfl)
              simp only [Act.put, List.setIfInBounds_toArray, List.set_cons_zero, List.set_cons_succ]
              refine wpAnyH_take (i := 13) (oi := { dst := some 215, op := Op.fieldAddr 34 (Operand.tmp 5) 2, type := 0, pos := "law.go:66", after := #[], guard := none }) (v := ?vv162) rfl (by kernel_rfl) (by kernel_rfl) (by kernel_rfl) (fun _ _ _ h => h) (Or.inl ⟨by rfl, ?hy162⟩) hHeld ?rest162
              case hy162 => (intro wS hSw; (try dsimp only at hSw); go_simp; try with_reducible rfl)
              simp only [Act.put, List.setIfInBounds_toArray, List.set_cons_zero, List.set_cons_succ]
              refine wpAnyH_take (i := 14) (oi := { dst := some 216, op := Op.load 3 (Operand.tmp 215), type := 3, pos := "law.go:66", after := #[{ on := 13, ground := Ground.data }], guard := none }) (v := ?vv163) rfl (by kernel_rfl) (by kernel_rfl) (by kernel_rfl) (fun _ _ _ h => h) (Or.inl ⟨by rfl, ?hy163⟩) hHeld ?rest163
              case hy163 => (intro wS hSw; (try dsimp only at hSw); go_simp; try with_reducible rfl)
              simp only [Act.put, List.setIfInBounds_toArray, List.set_cons_zero, List.set_cons_succ]
              refine wpAnyH_take (i := 15) (oi := { dst := some 217, op := Op.fieldAddr 34 (Operand.tmp 5) 3, type := 0, pos := "law.go:66", after := #[], guard := none }) (v := ?vv164) rfl (by kernel_rfl) (by kernel_rfl) (by kernel_rfl) (fun _ _ _ h => h) (Or.inl ⟨by rfl, ?hy164⟩) hHeld ?rest164
              case hy164 => (intro wS hSw; (try dsimp only at hSw); go_simp; try with_reducible rfl)
              simp only [Act.put, List.setIfInBounds_toArray, List.set_cons_zero, List.set_cons_succ]
              refine wpAnyH_take (i := 16) (oi := { dst := some 218, op := Op.load 3 (Operand.tmp 217), type := 3, pos := "law.go:66", after := #[{ on := 15, ground := Ground.data }], guard := none }) (v := ?vv165) rfl (by kernel_rfl) (by kernel_rfl) (by kernel_rfl) (fun _ _ _ h => h) (Or.inl ⟨by rfl, ?hy165⟩) hHeld ?rest165
              case hy165 => (intro wS hSw; (try dsimp only at hSw); go_simp; try with_reducible rfl)
              simp only [Act.put, List.setIfInBounds_toArray, List.set_cons_zero, List.set_cons_succ]
              refine wpAnyH_take (i := 17) (oi := { dst := some 219, op := Op.binOp BinOp.add 3 (Operand.tmp 216) (Operand.tmp 218) 3, type := 3, pos := "law.go:66", after := #[{ on := 14, ground := Ground.data }, { on := 16, ground := Ground.data }], guard := none }) (v := ?vv166) rfl (by kernel_rfl) (by kernel_rfl) (by kernel_rfl) (fun _ _ _ h => h) (Or.inl ⟨by rfl, ?hy166⟩) hHeld ?rest166
              case hy166 => (intro wS hSw; (try dsimp only at hSw); go_simp; try with_reducible rfl)
              simp only [Act.put, List.setIfInBounds_toArray, List.set_cons_zero, List.set_cons_succ]
              refine wpAnyH_take (i := 18) (oi := { dst := some 220, op := Op.slice 32 (Operand.tmp 212) (some (Operand.tmp 214)) (some (Operand.tmp 219)) none, type := 32, pos := "law.go:66", after := #[{ on := 10, ground := Ground.data }, { on := 12, ground := Ground.data }, { on := 17, ground := Ground.data }], guard := none }) (v := ?vv167) rfl (by kernel_rfl) (by kernel_rfl) (by kernel_rfl) (fun _ _ _ h => h) (Or.inl ⟨by rfl, ?hy167⟩) hHeld ?rest167
              case hy167 => (intro wS hSw; (try dsimp only at hSw); go_simp; try with_reducible rfl)
              simp only [Act.put, List.setIfInBounds_toArray, List.set_cons_zero, List.set_cons_succ]
              refine wpAnyH_take (i := 19) (oi := { dst := some 221, op := Op.convert 32 9 (Operand.tmp 220), type := 9, pos := "law.go:66", after := #[{ on := 18, ground := Ground.data }], guard := none }) (v := ?vv168) rfl (by kernel_rfl) (by kernel_rfl) (by kernel_rfl) (fun _ _ _ h => h) (Or.inl ⟨by rfl, ?hy168⟩) hHeld ?rest168
              case hy168 => (intro wS hSw; (try dsimp only at hSw); go_simp; try with_reducible rfl)
              simp only [Act.put, List.setIfInBounds_toArray, List.set_cons_zero, List.set_cons_succ]
              refine wpAnyH_take (i := 20) (oi := { dst := some 222, op := Op.binOp BinOp.eql 9 (Operand.tmp 203) (Operand.tmp 221) 9, type := 4, pos := "law.go:66", after := #[{ on := 1, ground := Ground.data }, { on := 19, ground := Ground.data }], guard := none }) (v := ?vv169) rfl (by kernel_rfl) (by kernel_rfl) (by kernel_rfl) (fun _ _ _ h => h) (Or.inl ⟨by rfl, ?hy169⟩) hHeld ?rest169
              case hy169 => (intro wS hSw; (try dsimp only at hSw); go_simp; try with_reducible rfl)
              simp only [Act.put, List.setIfInBounds_toArray, List.set_cons_zero, List.set_cons_succ]
              refine wpAnyH_take (i := 21) (oi := { dst := some 6, op := Op.assign (Operand.tmp 222), type := 4, pos := "law.go:66", after := #[{ on := 20, ground := Ground.data }, { on := 0, ground := Ground.phase }, { on := 1, ground := Ground.phase }, { on := 2, ground := Ground.phase }, { on := 3, ground := Ground.phase }, { on := 4, ground := Ground.phase }, { on := 5, ground := Ground.phase }, { on := 6, ground := Ground.phase }, { on := 7, ground := Ground.phase }, { on := 8, ground := Ground.phase }, { on := 9, ground := Ground.phase }, { on := 10, ground := Ground.phase }, { on := 11, ground := Ground.phase }, { on := 12, ground := Ground.phase }, { on := 13, ground := Ground.phase }, { on := 14, ground := Ground.phase }, { on := 15, ground := Ground.phase }, { on := 16, ground := Ground.phase }, { on := 17, ground := Ground.phase }, { on := 18, ground := Ground.phase }, { on := 19, ground := Ground.phase }, { on := 20, ground := Ground.phase }], guard := none }) (v := ?vv170) rfl (by kernel_rfl) (by kernel_rfl) (by kernel_rfl) (fun _ _ _ h => h) (Or.inl ⟨by rfl, ?hy170⟩) hHeld ?rest170
              case hy170 => (intro wS hSw; (try dsimp only at hSw); go_simp; try with_reducible rfl)
              simp only [Act.put, List.setIfInBounds_toArray, List.set_cons_zero, List.set_cons_succ]
              refine wpAnyH_done (by kernel_rfl) ?_ _
              go_wp2_with fail
              go_ret
              exact ⟨rfl, HP.out.drew.pm⟩
      · as_aux_lemma =>
        go_wp2_with fail
        go_meet
        try exact Lib.hid ⟨_, _, _, _, HC.out⟩
    case rest =>
      obtain ⟨T1, os1, ds1, bl1, HC⟩ := hcut.out
      have HC := Lib.hid HC
      have HL := Lib.hid (show os1.length = N from HC.out.2.1.2.2.1)
      obtain ⟨ow, how⟩ : ∃ ow, Fr.own os1 f = ow := ⟨_, rfl⟩
      have OW := Lib.hid how
      obtain ⟨inr, hinr⟩ : ∃ inr, decide (1 ≤ f ∧ f ≤ N) = inr := ⟨_, rfl⟩
      have IR := Lib.hid hinr
      clear how hinr hcut e1 e2 e3 b0 b1 b2 b3 b4 b5 m0 m1
      obtain ⟨b0, b1, b2, b3, b4, b5⟩ := HC.out.box
      obtain ⟨m0, m1⟩ := HC.out.2.1.head
      go_upto_region 31 with fail
      go_cut [235] (fun s235 wx => s235 = .bool inr ∧ Hid (PC W T1 R M O D N os1 ds1 bl1 C k f off n o A l c wx))
      case first =>
       as_aux_lemma =>
        have KS := Lib.hid (And.intro HC.out.box.2.1 HC.out.2.1.head.2)
        by_cases c1 : 1 ≤ f
        · as_aux_lemma =>
          by_cases c2 : f ≤ N
          · as_aux_lemma =>
            have tz : inr = true := by rw [← IR.out]; simp [c1, c2]
            subst tz
            refine wp_region_held_drew (S := fun w' => w'.cell? ⟨C, 1, none⟩ = some (.int .i64 f) ∧ w'.cell? ⟨M, 1, none⟩ = some (.slice (some ⟨O, 0, none⟩) N N)) (by kernel_rfl) (KS.out) (fun hHeld => ?_)
            refine wpAnyH_take (i := 0) (oi := { dst := some 223, op := Op.fieldAddr 34 (Operand.tmp 5) 1, type := 0, pos := "law.go:69", after := #[], guard := none }) (v := ?vv51) rfl (by kernel_rfl) (by kernel_rfl) (by kernel_rfl) (fun _ _ _ h => h) (Or.inl ⟨by rfl, ?hy51⟩) hHeld ?rest51
            case hy51 => (intro wS hSw; (try dsimp only at hSw); go_simp; try with_reducible rfl)
            simp only [Act.put, List.setIfInBounds_toArray, List.set_cons_zero, List.set_cons_succ]
            refine wpAnyH_take (i := 1) (oi := { dst := some 224, op := Op.load 3 (Operand.tmp 223), type := 3, pos := "law.go:69", after := #[{ on := 0, ground := Ground.data }], guard := none }) (v := ?vv52) rfl (by kernel_rfl) (by kernel_rfl) (by kernel_rfl) (fun _ _ _ h => h) (Or.inl ⟨by rfl, ?hy52⟩) hHeld ?rest52
            case hy52 => (intro wS hSw; (try dsimp only at hSw); go_simp; try with_reducible rfl)
            simp only [Act.put, List.setIfInBounds_toArray, List.set_cons_zero, List.set_cons_succ]
            refine wpAnyH_take (i := 2) (oi := { dst := some 225, op := Op.binOp BinOp.geq 3 (Operand.tmp 224) (Operand.const (Value.int IntKind.i64 1)) 3, type := 4, pos := "law.go:69", after := #[{ on := 1, ground := Ground.data }], guard := none }) (v := ?vv53) rfl (by kernel_rfl) (by kernel_rfl) (by kernel_rfl) (fun _ _ _ h => h) (Or.inl ⟨by rfl, ?hy53⟩) hHeld ?rest53
            case hy53 => (intro wS hSw; (try dsimp only at hSw); go_simp; try with_reducible rfl)
            simp only [Act.put, List.setIfInBounds_toArray, List.set_cons_zero, List.set_cons_succ]
            refine wpAnyH_take (i := 3) (oi := { dst := some 226, op := Op.move (Operand.tmp 225), type := 4, pos := "law.go:69", after := #[{ on := 2, ground := Ground.data }], guard := none }) (v := ?vv54) rfl (by kernel_rfl) (by kernel_rfl) (by kernel_rfl) (fun _ _ _ h => h) (Or.inl ⟨by rfl, ?hy54⟩) hHeld ?rest54
            case hy54 => (intro wS hSw; (try dsimp only at hSw); go_simp; try with_reducible rfl)
            simp only [Act.put, List.setIfInBounds_toArray, List.set_cons_zero, List.set_cons_succ]
            refine wpAnyH_take (i := 4) (oi := { dst := some 227, op := Op.fieldAddr 34 (Operand.tmp 5) 1, type := 0, pos := "law.go:69", after := #[{ on := 3, ground := Ground.guard }], guard := some (3, true) }) (v := ?vv55) rfl (by kernel_rfl) (by kernel_rfl) (by kernel_rfl) (fun _ _ _ h => h) (Or.inl ⟨by rfl, ?hy55⟩) hHeld ?rest55
            case hy55 => (intro wS hSw; (try dsimp only at hSw); go_simp; try with_reducible rfl)
            simp only [Act.put, List.setIfInBounds_toArray, List.set_cons_zero, List.set_cons_succ]
            refine wpAnyH_take (i := 5) (oi := { dst := some 228, op := Op.load 3 (Operand.tmp 227), type := 3, pos := "law.go:69", after := #[{ on := 4, ground := Ground.data }, { on := 3, ground := Ground.guard }], guard := some (3, true) }) (v := ?vv56) rfl (by kernel_rfl) (by kernel_rfl) (by kernel_rfl) (fun _ _ _ h => h) (Or.inl ⟨by rfl, ?hy56⟩) hHeld ?rest56
            case hy56 => (intro wS hSw; (try dsimp only at hSw); go_simp; try with_reducible rfl)
            simp only [Act.put, List.setIfInBounds_toArray, List.set_cons_zero, List.set_cons_succ]
            refine wpAnyH_take (i := 6) (oi := { dst := some 229, op := Op.move (Operand.tmp 0), type := 26, pos := "law.go:69", after := #[{ on := 3, ground := Ground.guard }], guard := some (3, true) }) (v := ?vv57) rfl (by kernel_rfl) (by kernel_rfl) (by kernel_rfl) (fun _ _ _ h => h) (Or.inl ⟨by rfl, ?hy57⟩) hHeld ?rest57
            case hy57 => (intro wS hSw; (try dsimp only at hSw); go_simp; try with_reducible rfl)
            simp only [Act.put, List.setIfInBounds_toArray, List.set_cons_zero, List.set_cons_succ]
            refine wpAnyH_take (i := 7) (oi := { dst := some 230, op := Op.nilCheck (Operand.tmp 229), type := 0, pos := "law.go:69", after := #[{ on := 6, ground := Ground.data }, { on := 3, ground := Ground.guard }], guard := some (3, true) }) (v := ?vv58) rfl (by kernel_rfl) (by kernel_rfl) (by kernel_rfl) (fun _ _ _ h => h) (Or.inl ⟨by rfl, ?hy58⟩) hHeld ?rest58
            case hy58 => (intro wS hSw; (try dsimp only at hSw); go_simp; try with_reducible rfl)
            simp only [Act.put, List.setIfInBounds_toArray, List.set_cons_zero, List.set_cons_succ]
            refine wpAnyH_take (i := 8) (oi := { dst := some 231, op := Op.fieldAddr 30 (Operand.tmp 230) 1, type := 0, pos := "law.go:69", after := #[{ on := 7, ground := Ground.data }, { on := 3, ground := Ground.guard }], guard := some (3, true) }) (v := ?vv59) rfl (by kernel_rfl) (by kernel_rfl) (by kernel_rfl) (fun _ _ _ h => h) (Or.inl ⟨by rfl, ?hy59⟩) hHeld ?rest59
            case hy59 => (intro wS hSw; (try dsimp only at hSw); go_simp; try with_reducible rfl)
            simp only [Act.put, List.setIfInBounds_toArray, List.set_cons_zero, List.set_cons_succ]
            refine wpAnyH_take (i := 9) (oi := { dst := some 232, op := Op.load 28 (Operand.tmp 231), type := 28, pos := "law.go:69", after := #[{ on := 8, ground := Ground.data }, { on := 3, ground := Ground.guard }], guard := some (3, true) }) (v := ?vv60) rfl (by kernel_rfl) (by kernel_rfl) (by kernel_rfl) (fun _ _ _ h => h) (Or.inl ⟨by rfl, ?hy60⟩) hHeld ?rest60
            case hy60 => (intro wS hSw; (try dsimp only at hSw); go_simp; try with_reducible rfl)
            simp only [Act.put, List.setIfInBounds_toArray, List.set_cons_zero, List.set_cons_succ]
            refine wpAnyH_take (i := 10) (oi := { dst := some 233, op := Op.call { callee := Callee.builtin Builtin.len, args := #[Operand.tmp 232], argTypes := #[28] }, type := 3, pos := "law.go:69", after := #[{ on := 9, ground := Ground.data }, { on := 3, ground := Ground.guard }], guard := some (3, true) }) (v := ?vv61) rfl (by kernel_rfl) (by kernel_rfl) (by kernel_rfl) (fun _ _ _ h => h) (Or.inl ⟨by rfl, ?hy61⟩) hHeld ?rest61
            case hy61 => (intro wS hSw; (try dsimp only at hSw); go_simp; try with_reducible rfl)
            simp only [Act.put, List.setIfInBounds_toArray, List.set_cons_zero, List.set_cons_succ]
            refine wpAnyH_take (i := 11) (oi := { dst := some 234, op := Op.binOp BinOp.leq 3 (Operand.tmp 228) (Operand.tmp 233) 3, type := 4, pos := "law.go:69", after := #[{ on := 5, ground := Ground.data }, { on := 10, ground := Ground.data }, { on := 3, ground := Ground.guard }], guard := some (3, true) }) (v := ?vv62) rfl (by kernel_rfl) (by kernel_rfl) (by kernel_rfl) (fun _ _ _ h => h) (Or.inl ⟨by rfl, ?hy62⟩) hHeld ?rest62
            case hy62 => (intro wS hSw; (try dsimp only at hSw); go_simp; try with_reducible rfl)
            simp only [Act.put, List.setIfInBounds_toArray, List.set_cons_zero, List.set_cons_succ]
            refine wpAnyH_take (i := 12) (oi := { dst := some 235, op := Op.pick (Operand.tmp 226) (Operand.tmp 234) (Operand.const (Value.bool false)), type := 4, pos := "law.go:69", after := #[{ on := 3, ground := Ground.data }, { on := 11, ground := Ground.data }], guard := none }) (v := ?vv63) rfl (by kernel_rfl) (by kernel_rfl) (by kernel_rfl) (fun _ _ _ h => h) (Or.inl ⟨by rfl, ?hy63⟩) hHeld ?rest63
            case hy63 => (intro wS hSw; (try dsimp only at hSw); go_simp; try with_reducible rfl)
            simp only [Act.put, List.setIfInBounds_toArray, List.set_cons_zero, List.set_cons_succ]
            refine wpAnyH_done (by kernel_rfl) ?_ _
            go_wp2_with fail
            go_meet
            try exact ⟨rfl, Lib.hid HC.out.drew⟩
          · as_aux_lemma =>
            have tz : inr = false := by rw [← IR.out]; simp [c2]
            subst tz
            have c2' : ¬ f ≤ (N : Int) := c2
            refine wp_region_held_drew (S := fun w' => w'.cell? ⟨C, 1, none⟩ = some (.int .i64 f) ∧ w'.cell? ⟨M, 1, none⟩ = some (.slice (some ⟨O, 0, none⟩) N N)) (by kernel_rfl) (KS.out) (fun hHeld => ?_)
            refine wpAnyH_take (i := 0) (oi := { dst := some 223, op := Op.fieldAddr 34 (Operand.tmp 5) 1, type := 0, pos := "law.go:69", after := #[], guard := none }) (v := ?vv64) rfl (by kernel_rfl) (by kernel_rfl) (by kernel_rfl) (fun _ _ _ h => h) (Or.inl ⟨by rfl, ?hy64⟩) hHeld ?rest64
            case hy64 => (intro wS hSw; (try dsimp only at hSw); go_simp; try with_reducible rfl)
            simp only [Act.put, List.setIfInBounds_toArray, List.set_cons_zero, List.set_cons_succ]
            refine wpAnyH_take (i := 1) (oi := { dst := some 224, op := Op.load 3 (Operand.tmp 223), type := 3, pos := "law.go:69", after := #[{ on := 0, ground := Ground.data }], guard := none }) (v := ?vv65) rfl (by kernel_rfl) (by kernel_rfl) (by kernel_rfl) (fun _ _ _ h => h) (Or.inl ⟨by rfl, ?hy65⟩) hHeld ?rest65
            case hy65 => (intro wS hSw; (try dsimp only at hSw); go_simp; try with_reducible rfl)
            simp only [Act.put, List.setIfInBounds_toArray, List.set_cons_zero, List.set_cons_succ]
            refine wpAnyH_take (i := 2) (oi := { dst := some 225, op := Op.binOp BinOp.geq 3 (Operand.tmp 224) (Operand.const (Value.int IntKind.i64 1)) 3, type := 4, pos := "law.go:69", after := #[{ on := 1, ground := Ground.data }], guard := none }) (v := ?vv66) rfl (by kernel_rfl) (by kernel_rfl) (by kernel_rfl) (fun _ _ _ h => h) (Or.inl ⟨by rfl, ?hy66⟩) hHeld ?rest66
            case hy66 => (intro wS hSw; (try dsimp only at hSw); go_simp; try with_reducible rfl)
            simp only [Act.put, List.setIfInBounds_toArray, List.set_cons_zero, List.set_cons_succ]
            refine wpAnyH_take (i := 3) (oi := { dst := some 226, op := Op.move (Operand.tmp 225), type := 4, pos := "law.go:69", after := #[{ on := 2, ground := Ground.data }], guard := none }) (v := ?vv67) rfl (by kernel_rfl) (by kernel_rfl) (by kernel_rfl) (fun _ _ _ h => h) (Or.inl ⟨by rfl, ?hy67⟩) hHeld ?rest67
            case hy67 => (intro wS hSw; (try dsimp only at hSw); go_simp; try with_reducible rfl)
            simp only [Act.put, List.setIfInBounds_toArray, List.set_cons_zero, List.set_cons_succ]
            refine wpAnyH_take (i := 4) (oi := { dst := some 227, op := Op.fieldAddr 34 (Operand.tmp 5) 1, type := 0, pos := "law.go:69", after := #[{ on := 3, ground := Ground.guard }], guard := some (3, true) }) (v := ?vv68) rfl (by kernel_rfl) (by kernel_rfl) (by kernel_rfl) (fun _ _ _ h => h) (Or.inl ⟨by rfl, ?hy68⟩) hHeld ?rest68
            case hy68 => (intro wS hSw; (try dsimp only at hSw); go_simp; try with_reducible rfl)
            simp only [Act.put, List.setIfInBounds_toArray, List.set_cons_zero, List.set_cons_succ]
            refine wpAnyH_take (i := 5) (oi := { dst := some 228, op := Op.load 3 (Operand.tmp 227), type := 3, pos := "law.go:69", after := #[{ on := 4, ground := Ground.data }, { on := 3, ground := Ground.guard }], guard := some (3, true) }) (v := ?vv69) rfl (by kernel_rfl) (by kernel_rfl) (by kernel_rfl) (fun _ _ _ h => h) (Or.inl ⟨by rfl, ?hy69⟩) hHeld ?rest69
            case hy69 => (intro wS hSw; (try dsimp only at hSw); go_simp; try with_reducible rfl)
            simp only [Act.put, List.setIfInBounds_toArray, List.set_cons_zero, List.set_cons_succ]
            refine wpAnyH_take (i := 6) (oi := { dst := some 229, op := Op.move (Operand.tmp 0), type := 26, pos := "law.go:69", after := #[{ on := 3, ground := Ground.guard }], guard := some (3, true) }) (v := ?vv70) rfl (by kernel_rfl) (by kernel_rfl) (by kernel_rfl) (fun _ _ _ h => h) (Or.inl ⟨by rfl, ?hy70⟩) hHeld ?rest70
            case hy70 => (intro wS hSw; (try dsimp only at hSw); go_simp; try with_reducible rfl)
            simp only [Act.put, List.setIfInBounds_toArray, List.set_cons_zero, List.set_cons_succ]
            refine wpAnyH_take (i := 7) (oi := { dst := some 230, op := Op.nilCheck (Operand.tmp 229), type := 0, pos := "law.go:69", after := #[{ on := 6, ground := Ground.data }, { on := 3, ground := Ground.guard }], guard := some (3, true) }) (v := ?vv71) rfl (by kernel_rfl) (by kernel_rfl) (by kernel_rfl) (fun _ _ _ h => h) (Or.inl ⟨by rfl, ?hy71⟩) hHeld ?rest71
            case hy71 => (intro wS hSw; (try dsimp only at hSw); go_simp; try with_reducible rfl)
            simp only [Act.put, List.setIfInBounds_toArray, List.set_cons_zero, List.set_cons_succ]
            refine wpAnyH_take (i := 8) (oi := { dst := some 231, op := Op.fieldAddr 30 (Operand.tmp 230) 1, type := 0, pos := "law.go:69", after := #[{ on := 7, ground := Ground.data }, { on := 3, ground := Ground.guard }], guard := some (3, true) }) (v := ?vv72) rfl (by kernel_rfl) (by kernel_rfl) (by kernel_rfl) (fun _ _ _ h => h) (Or.inl ⟨by rfl, ?hy72⟩) hHeld ?rest72
            case hy72 => (intro wS hSw; (try dsimp only at hSw); go_simp; try with_reducible rfl)
            simp only [Act.put, List.setIfInBounds_toArray, List.set_cons_zero, List.set_cons_succ]
            refine wpAnyH_take (i := 9) (oi := { dst := some 232, op := Op.load 28 (Operand.tmp 231), type := 28, pos := "law.go:69", after := #[{ on := 8, ground := Ground.data }, { on := 3, ground := Ground.guard }], guard := some (3, true) }) (v := ?vv73) rfl (by kernel_rfl) (by kernel_rfl) (by kernel_rfl) (fun _ _ _ h => h) (Or.inl ⟨by rfl, ?hy73⟩) hHeld ?rest73
            case hy73 => (intro wS hSw; (try dsimp only at hSw); go_simp; try with_reducible rfl)
            simp only [Act.put, List.setIfInBounds_toArray, List.set_cons_zero, List.set_cons_succ]
            refine wpAnyH_take (i := 10) (oi := { dst := some 233, op := Op.call { callee := Callee.builtin Builtin.len, args := #[Operand.tmp 232], argTypes := #[28] }, type := 3, pos := "law.go:69", after := #[{ on := 9, ground := Ground.data }, { on := 3, ground := Ground.guard }], guard := some (3, true) }) (v := ?vv74) rfl (by kernel_rfl) (by kernel_rfl) (by kernel_rfl) (fun _ _ _ h => h) (Or.inl ⟨by rfl, ?hy74⟩) hHeld ?rest74
            case hy74 => (intro wS hSw; (try dsimp only at hSw); go_simp; try with_reducible rfl)
            simp only [Act.put, List.setIfInBounds_toArray, List.set_cons_zero, List.set_cons_succ]
            refine wpAnyH_take (i := 11) (oi := { dst := some 234, op := Op.binOp BinOp.leq 3 (Operand.tmp 228) (Operand.tmp 233) 3, type := 4, pos := "law.go:69", after := #[{ on := 5, ground := Ground.data }, { on := 10, ground := Ground.data }, { on := 3, ground := Ground.guard }], guard := some (3, true) }) (v := ?vv75) rfl (by kernel_rfl) (by kernel_rfl) (by kernel_rfl) (fun _ _ _ h => h) (Or.inl ⟨by rfl, ?hy75⟩) hHeld ?rest75
            case hy75 => (intro wS hSw; (try dsimp only at hSw); go_simp; try with_reducible rfl)
            simp only [Act.put, List.setIfInBounds_toArray, List.set_cons_zero, List.set_cons_succ]
            refine wpAnyH_take (i := 12) (oi := { dst := some 235, op := Op.pick (Operand.tmp 226) (Operand.tmp 234) (Operand.const (Value.bool false)), type := 4, pos := "law.go:69", after := #[{ on := 3, ground := Ground.data }, { on := 11, ground := Ground.data }], guard := none }) (v := ?vv76) rfl (by kernel_rfl) (by kernel_rfl) (by kernel_rfl) (fun _ _ _ h => h) (Or.inl ⟨by rfl, ?hy76⟩) hHeld ?rest76
            case hy76 => (intro wS hSw; (try dsimp only at hSw); go_simp; try with_reducible rfl)
            simp only [Act.put, List.setIfInBounds_toArray, List.set_cons_zero, List.set_cons_succ]
            refine wpAnyH_done (by kernel_rfl) ?_ _
            go_wp2_with fail
            go_meet
            try exact ⟨rfl, Lib.hid HC.out.drew⟩
        · as_aux_lemma =>
          have tz : inr = false := by rw [← IR.out]; simp [c1]
          subst tz
          refine wp_region_held_drew (S := fun w' => w'.cell? ⟨C, 1, none⟩ = some (.int .i64 f) ∧ w'.cell? ⟨M, 1, none⟩ = some (.slice (some ⟨O, 0, none⟩) N N)) (by kernel_rfl) (KS.out) (fun hHeld => ?_)
          refine wpAnyH_take (i := 0) (oi := { dst := some 223, op := Op.fieldAddr 34 (Operand.tmp 5) 1, type := 0, pos := "law.go:69", after := #[], guard := none }) (v := ?vv77) rfl (by kernel_rfl) (by kernel_rfl) (by kernel_rfl) (fun _ _ _ h => h) (Or.inl ⟨by rfl, ?hy77⟩) hHeld ?rest77
          case hy77 => (intro wS hSw; (try dsimp only at hSw); go_simp; try with_reducible rfl)
          simp only [Act.put, List.setIfInBounds_toArray, List.set_cons_zero, List.set_cons_succ]
          refine wpAnyH_take (i := 1) (oi := { dst := some 224, op := Op.load 3 (Operand.tmp 223), type := 3, pos := "law.go:69", after := #[{ on := 0, ground := Ground.data }], guard := none }) (v := ?vv78) rfl (by kernel_rfl) (by kernel_rfl) (by kernel_rfl) (fun _ _ _ h => h) (Or.inl ⟨by rfl, ?hy78⟩) hHeld ?rest78
          case hy78 => (intro wS hSw; (try dsimp only at hSw); go_simp; try with_reducible rfl)
          simp only [Act.put, List.setIfInBounds_toArray, List.set_cons_zero, List.set_cons_succ]
          refine wpAnyH_take (i := 2) (oi := { dst := some 225, op := Op.binOp BinOp.geq 3 (Operand.tmp 224) (Operand.const (Value.int IntKind.i64 1)) 3, type := 4, pos := "law.go:69", after := #[{ on := 1, ground := Ground.data }], guard := none }) (v := ?vv79) rfl (by kernel_rfl) (by kernel_rfl) (by kernel_rfl) (fun _ _ _ h => h) (Or.inl ⟨by rfl, ?hy79⟩) hHeld ?rest79
          case hy79 => (intro wS hSw; (try dsimp only at hSw); go_simp; try with_reducible rfl)
          simp only [Act.put, List.setIfInBounds_toArray, List.set_cons_zero, List.set_cons_succ]
          refine wpAnyH_take (i := 3) (oi := { dst := some 226, op := Op.move (Operand.tmp 225), type := 4, pos := "law.go:69", after := #[{ on := 2, ground := Ground.data }], guard := none }) (v := ?vv80) rfl (by kernel_rfl) (by kernel_rfl) (by kernel_rfl) (fun _ _ _ h => h) (Or.inl ⟨by rfl, ?hy80⟩) hHeld ?rest80
          case hy80 => (intro wS hSw; (try dsimp only at hSw); go_simp; try with_reducible rfl)
          simp only [Act.put, List.setIfInBounds_toArray, List.set_cons_zero, List.set_cons_succ]
          refine wpAnyH_take (i := 4) (oi := { dst := some 227, op := Op.fieldAddr 34 (Operand.tmp 5) 1, type := 0, pos := "law.go:69", after := #[{ on := 3, ground := Ground.guard }], guard := some (3, true) }) (v := undef) rfl (by kernel_rfl) (by kernel_rfl) (by kernel_rfl) (fun _ _ _ h => h) (Or.inr ⟨by rfl, rfl⟩) hHeld ?_
          simp only [Act.put, List.setIfInBounds_toArray, List.set_cons_zero, List.set_cons_succ]
          refine wpAnyH_take (i := 5) (oi := { dst := some 228, op := Op.load 3 (Operand.tmp 227), type := 3, pos := "law.go:69", after := #[{ on := 4, ground := Ground.data }, { on := 3, ground := Ground.guard }], guard := some (3, true) }) (v := undef) rfl (by kernel_rfl) (by kernel_rfl) (by kernel_rfl) (fun _ _ _ h => h) (Or.inr ⟨by rfl, rfl⟩) hHeld ?_
          simp only [Act.put, List.setIfInBounds_toArray, List.set_cons_zero, List.set_cons_succ]
          refine wpAnyH_take (i := 6) (oi := { dst := some 229, op := Op.move (Operand.tmp 0), type := 26, pos := "law.go:69", after := #[{ on := 3, ground := Ground.guard }], guard := some (3, true) }) (v := undef) rfl (by kernel_rfl) (by kernel_rfl) (by kernel_rfl) (fun _ _ _ h => h) (Or.inr ⟨by rfl, rfl⟩) hHeld ?_
          simp only [Act.put, List.setIfInBounds_toArray, List.set_cons_zero, List.set_cons_succ]
          refine wpAnyH_take (i := 7) (oi := { dst := some 230, op := Op.nilCheck (Operand.tmp 229), type := 0, pos := "law.go:69", after := #[{ on := 6, ground := Ground.data }, { on := 3, ground := Ground.guard }], guard := some (3, true) }) (v := undef) rfl (by kernel_rfl) (by kernel_rfl) (by kernel_rfl) (fun _ _ _ h => h) (Or.inr ⟨by rfl, rfl⟩) hHeld ?_
          simp only [Act.put, List.setIfInBounds_toArray, List.set_cons_zero, List.set_cons_succ]
          refine wpAnyH_take (i := 8) (oi := { dst := some 231, op := Op.fieldAddr 30 (Operand.tmp 230) 1, type := 0, pos := "law.go:69", after := #[{ on := 7, ground := Ground.data }, { on := 3, ground := Ground.guard }], guard := some (3, true) }) (v := undef) rfl (by kernel_rfl) (by kernel_rfl) (by kernel_rfl) (fun _ _ _ h => h) (Or.inr ⟨by rfl, rfl⟩) hHeld ?_
          simp only [Act.put, List.setIfInBounds_toArray, List.set_cons_zero, List.set_cons_succ]
          refine wpAnyH_take (i := 9) (oi := { dst := some 232, op := Op.load 28 (Operand.tmp 231), type := 28, pos := "law.go:69", after := #[{ on := 8, ground := Ground.data }, { on := 3, ground := Ground.guard }], guard := some (3, true) }) (v := undef) rfl (by kernel_rfl) (by kernel_rfl) (by kernel_rfl) (fun _ _ _ h => h) (Or.inr ⟨by rfl, rfl⟩) hHeld ?_
          simp only [Act.put, List.setIfInBounds_toArray, List.set_cons_zero, List.set_cons_succ]
          refine wpAnyH_take (i := 10) (oi := { dst := some 233, op := Op.call { callee := Callee.builtin Builtin.len, args := #[Operand.tmp 232], argTypes := #[28] }, type := 3, pos := "law.go:69", after := #[{ on := 9, ground := Ground.data }, { on := 3, ground := Ground.guard }], guard := some (3, true) }) (v := undef) rfl (by kernel_rfl) (by kernel_rfl) (by kernel_rfl) (fun _ _ _ h => h) (Or.inr ⟨by rfl, rfl⟩) hHeld ?_
          simp only [Act.put, List.setIfInBounds_toArray, List.set_cons_zero, List.set_cons_succ]
          refine wpAnyH_take (i := 11) (oi := { dst := some 234, op := Op.binOp BinOp.leq 3 (Operand.tmp 228) (Operand.tmp 233) 3, type := 4, pos := "law.go:69", after := #[{ on := 5, ground := Ground.data }, { on := 10, ground := Ground.data }, { on := 3, ground := Ground.guard }], guard := some (3, true) }) (v := undef) rfl (by kernel_rfl) (by kernel_rfl) (by kernel_rfl) (fun _ _ _ h => h) (Or.inr ⟨by rfl, rfl⟩) hHeld ?_
          simp only [Act.put, List.setIfInBounds_toArray, List.set_cons_zero, List.set_cons_succ]
          refine wpAnyH_take (i := 12) (oi := { dst := some 235, op := Op.pick (Operand.tmp 226) (Operand.tmp 234) (Operand.const (Value.bool false)), type := 4, pos := "law.go:69", after := #[{ on := 3, ground := Ground.data }, { on := 11, ground := Ground.data }], guard := none }) (v := ?vv81) rfl (by kernel_rfl) (by kernel_rfl) (by kernel_rfl) (fun _ _ _ h => h) (Or.inl ⟨by rfl, ?hy81⟩) hHeld ?rest81
          case hy81 => (intro wS hSw; (try dsimp only at hSw); go_simp; try with_reducible rfl)
          simp only [Act.put, List.setIfInBounds_toArray, List.set_cons_zero, List.set_cons_succ]
          refine wpAnyH_done (by kernel_rfl) ?_ _
          go_wp2_with fail
          go_meet
          try exact ⟨rfl, Lib.hid HC.out.drew⟩
      case rest =>
        obtain ⟨rfl, HC⟩ := hcut
        go_upto_if 235 with fail
        go_cut [13] (fun s13 wx => s13 = .int .u64 (ow : Int) ∧ Hid (PC W T1 R M O D N os1 ds1 bl1 C k f off n o A l c wx))
        case first =>
         as_aux_lemma =>
          rcases hinr : inr with _ | _
          · as_aux_lemma =>
            rw [hinr] at IR
            have tz : ow = 0 := by
              rw [← OW.out, Fr.own_out os1 f (by rw [HL.out]; have := IR.out; simp at this; omega)]
            subst tz
            go_wp2_with fail
            go_meet
            try exact ⟨rfl, HC⟩
          · as_aux_lemma =>
            rw [hinr] at IR
            have hr := of_decide_eq_true IR.out
            obtain ⟨i, hi⟩ : ∃ i : Nat, f - 1 = (i : Int) := ⟨f.toNat - 1, by omega⟩
            have iN : (i : Int) < N := by omega
            have iw : IntKind.i64.wrap (i : Int) = (i : Int) := by simp [IntKind.wrap, IntKind.bits, IntKind.signed]; have := HN.out; omega
            have hx : os1.getD i 0 = ow := by rw [← OW.out, show f = (i : Int) + 1 by omega, Fr.own_in os1 i (by rw [HL.out]; omega)]
            have cw := (HC.out.2.1.owner i (by omega)).1
            rw [hx] at cw
            have KS := Lib.hid (And.intro HC.out.box.2.1 (And.intro HC.out.2.1.head.2 cw))
            clear hx cw hr
            go_upto_region 32 with fail
            refine wp_region_held_drew (S := fun w' => w'.cell? ⟨C, 1, none⟩ = some (.int .i64 f) ∧ w'.cell? ⟨M, 1, none⟩ = some (.slice (some ⟨O, 0, none⟩) N N) ∧ w'.cell? ⟨O, i, none⟩ = some (.int .u64 (ow : Int))) (by kernel_rfl) (KS.out) (fun hHeld => ?_)
            refine wpAnyH_take (i := 0) (oi := { dst := some 236, op := Op.move (Operand.tmp 0), type := 26, pos := "law.go:70", after := #[], guard := none }) (v := ?vv82) rfl (by kernel_rfl) (by kernel_rfl) (by kernel_rfl) (fun _ _ _ h => h) (Or.inl ⟨by rfl, ?hy82⟩) hHeld ?rest82
            case hy82 => (intro wS hSw; (try dsimp only at hSw); go_simp; try with_reducible rfl)
            simp only [Act.put, List.setIfInBounds_toArray, List.set_cons_zero, List.set_cons_succ]
            refine wpAnyH_take (i := 1) (oi := { dst := some 237, op := Op.nilCheck (Operand.tmp 236), type := 0, pos := "law.go:70", after := #[{ on := 0, ground := Ground.data }], guard := none }) (v := ?vv83) rfl (by kernel_rfl) (by kernel_rfl) (by kernel_rfl) (fun _ _ _ h => h) (Or.inl ⟨by rfl, ?hy83⟩) hHeld ?rest83
            case hy83 => (intro wS hSw; (try dsimp only at hSw); go_simp; try with_reducible rfl)
            simp only [Act.put, List.setIfInBounds_toArray, List.set_cons_zero, List.set_cons_succ]
            refine wpAnyH_take (i := 2) (oi := { dst := some 238, op := Op.fieldAddr 30 (Operand.tmp 237) 1, type := 0, pos := "law.go:70", after := #[{ on := 1, ground := Ground.data }], guard := none }) (v := ?vv84) rfl (by kernel_rfl) (by kernel_rfl) (by kernel_rfl) (fun _ _ _ h => h) (Or.inl ⟨by rfl, ?hy84⟩) hHeld ?rest84
            case hy84 => (intro wS hSw; (try dsimp only at hSw); go_simp; try with_reducible rfl)
            simp only [Act.put, List.setIfInBounds_toArray, List.set_cons_zero, List.set_cons_succ]
            refine wpAnyH_take (i := 3) (oi := { dst := some 239, op := Op.load 28 (Operand.tmp 238), type := 28, pos := "law.go:70", after := #[{ on := 2, ground := Ground.data }], guard := none }) (v := ?vv85) rfl (by kernel_rfl) (by kernel_rfl) (by kernel_rfl) (fun _ _ _ h => h) (Or.inl ⟨by rfl, ?hy85⟩) hHeld ?rest85
            case hy85 => (intro wS hSw; (try dsimp only at hSw); go_simp; try with_reducible rfl)
            simp only [Act.put, List.setIfInBounds_toArray, List.set_cons_zero, List.set_cons_succ]
            refine wpAnyH_take (i := 4) (oi := { dst := some 240, op := Op.fieldAddr 34 (Operand.tmp 5) 1, type := 0, pos := "law.go:70", after := #[], guard := none }) (v := ?vv86) rfl (by kernel_rfl) (by kernel_rfl) (by kernel_rfl) (fun _ _ _ h => h) (Or.inl ⟨by rfl, ?hy86⟩) hHeld ?rest86
            case hy86 => (intro wS hSw; (try dsimp only at hSw); go_simp; try with_reducible rfl)
            simp only [Act.put, List.setIfInBounds_toArray, List.set_cons_zero, List.set_cons_succ]
            refine wpAnyH_take (i := 5) (oi := { dst := some 241, op := Op.load 3 (Operand.tmp 240), type := 3, pos := "law.go:70", after := #[{ on := 4, ground := Ground.data }], guard := none }) (v := ?vv87) rfl (by kernel_rfl) (by kernel_rfl) (by kernel_rfl) (fun _ _ _ h => h) (Or.inl ⟨by rfl, ?hy87⟩) hHeld ?rest87
            case hy87 => (intro wS hSw; (try dsimp only at hSw); go_simp; try with_reducible rfl)
            simp only [Act.put, List.setIfInBounds_toArray, List.set_cons_zero, List.set_cons_succ]
            refine wpAnyH_take (i := 6) (oi := { dst := some 242, op := Op.binOp BinOp.sub 3 (Operand.tmp 241) (Operand.const (Value.int IntKind.i64 1)) 3, type := 3, pos := "law.go:70", after := #[{ on := 5, ground := Ground.data }], guard := none }) (v := ?vv88) rfl (by kernel_rfl) (by kernel_rfl) (by kernel_rfl) (fun _ _ _ h => h) (Or.inl ⟨by rfl, ?hy88⟩) hHeld ?rest88
            case hy88 => (intro wS hSw; (try dsimp only at hSw); go_simp; try with_reducible rfl)
            simp only [Act.put, List.setIfInBounds_toArray, List.set_cons_zero, List.set_cons_succ]
            refine wpAnyH_take (i := 7) (oi := { dst := some 243, op := Op.indexAddr 28 (Operand.tmp 239) (Operand.tmp 242), type := 0, pos := "law.go:70", after := #[{ on := 3, ground := Ground.data }, { on := 6, ground := Ground.data }], guard := none }) (v := ?vv89) rfl (by kernel_rfl) (by kernel_rfl) (by kernel_rfl) (fun _ _ _ h => h) (Or.inl ⟨by rfl, ?hy89⟩) hHeld ?rest89
            case hy89 => (intro wS hSw; (try dsimp only at hSw); go_simp; try with_reducible rfl)
            simp only [Act.put, List.setIfInBounds_toArray, List.set_cons_zero, List.set_cons_succ]
            refine wpAnyH_take (i := 8) (oi := { dst := some 244, op := Op.load 31 (Operand.tmp 243), type := 31, pos := "law.go:70", after := #[{ on := 7, ground := Ground.data }], guard := none }) (v := ?vv90) rfl (by kernel_rfl) (by kernel_rfl) (by kernel_rfl) (fun _ _ _ h => h) (Or.inl ⟨by rfl, ?hy90⟩) hHeld ?rest90
            case hy90 => (intro wS hSw; (try dsimp only at hSw); go_simp; try with_reducible rfl)
            simp only [Act.put, List.setIfInBounds_toArray, List.set_cons_zero, List.set_cons_succ]
            refine wpAnyH_take (i := 9) (oi := { dst := some 13, op := Op.assign (Operand.tmp 244), type := 31, pos := "law.go:70", after := #[{ on := 8, ground := Ground.data }, { on := 0, ground := Ground.phase }, { on := 1, ground := Ground.phase }, { on := 2, ground := Ground.phase }, { on := 3, ground := Ground.phase }, { on := 4, ground := Ground.phase }, { on := 5, ground := Ground.phase }, { on := 6, ground := Ground.phase }, { on := 7, ground := Ground.phase }, { on := 8, ground := Ground.phase }], guard := none }) (v := ?vv91) rfl (by kernel_rfl) (by kernel_rfl) (by kernel_rfl) (fun _ _ _ h => h) (Or.inl ⟨by rfl, ?hy91⟩) hHeld ?rest91
            case hy91 => (intro wS hSw; (try dsimp only at hSw); go_simp; try with_reducible rfl)
            simp only [Act.put, List.setIfInBounds_toArray, List.set_cons_zero, List.set_cons_succ]
            refine wpAnyH_done (by kernel_rfl) ?_ _
            go_wp2_with fail
            go_meet
            try exact ⟨rfl, Lib.hid HC.out.drew⟩
        case rest =>
          obtain ⟨rfl, HC⟩ := hcut
          clear b0 b1 b2 b3 b4 b5 m0 m1
          obtain ⟨b0, b1, b2, b3, b4, b5⟩ := HC.out.box
          obtain ⟨m0, m1⟩ := HC.out.2.1.head
          obtain ⟨V0, hV0⟩ : ∃ V0 : Int, ((os1.count 0 : Nat) : Int) = V0 := ⟨_, rfl⟩
          obtain ⟨V1, hV1⟩ : ∃ V1 : Int, (((if o = 0 then 0 else os1.count o) : Nat) : Int) = V1 := ⟨_, rfl⟩
          have HV := Lib.hid (And.intro hV0 hV1)
          clear hV0 hV1
          go_upto_block 3 with fail
          go_cut [14, 15] (fun s14 s15 wx => wc = wx ∧ s14 = .int .i64 V0 ∧ s15 = .int .i64 V1)
          case first =>
           as_aux_lemma =>
            go_wp2_with fail
            go_loopg [250, 14, 15] N (fun g s250 s14 s15 wr => ∃ j : Nat, j ≤ N ∧ g = N - j ∧ s250 = .int .i64 j ∧ s14 = .int .i64 (((os1.take j).count 0 : Nat) : Int) ∧ s15 = .int .i64 (((if o = 0 then 0 else (os1.take j).count o) : Nat) : Int) ∧ wr = wc)
            case atStart => exact ⟨0, by omega, by omega, rfl, by simp, by simp, rfl⟩
            case round =>
              obtain ⟨j, hj, hg, rfl, rfl, rfl, rfl⟩ := hrel
              by_cases hlt : j < N
              · as_aux_lemma =>
                obtain ⟨x, hx⟩ : ∃ x, os1.getD j 0 = x := ⟨_, rfl⟩
                have cw := (HC.out.2.1.owner j hlt).1
                rw [hx] at cw
                have q0 := Fr.count_take os1 j 0 (by rw [HL.out]; exact hlt)
                have qo := Fr.count_take os1 j o (by rw [HL.out]; exact hlt)
                rw [hx] at q0 qo
                have lL := Fr.count_take_le os1 j 0
                have lO := Fr.count_take_le os1 j o
                have jn : (j : Int) < N := by omega
                have i1 : IntKind.i64.wrap ((j : Int) + 1) = ((j + 1 : Nat) : Int) := by simp [IntKind.wrap, IntKind.bits, IntKind.signed]; have := HN.out; omega
                generalize (os1.take j).count 0 = L0 at q0 lL ⊢
                generalize (os1.take j).count o = Lo at qo lO ⊢
                have Q := Lib.hid (And.intro q0 qo)
                obtain ⟨M0, hM0⟩ : ∃ M0 : Nat, (if o = 0 then 0 else Lo) = M0 := ⟨_, rfl⟩
                rw [hM0]
                have HM := Lib.hid hM0
                have HJ := Lib.hid (And.intro hj (And.intro hg (And.intro lL (And.intro (show M0 ≤ j by rw [← hM0]; split <;> omega) HN.out.1))))
                clear hj hg lL lO q0 qo hx hM0
                by_cases x0 : x = 0
                · as_aux_lemma =>
                  subst x0
                  obtain ⟨L1, hL1, hL1'⟩ : ∃ L1 : Nat, (L0 : Int) + 1 = (L1 : Int) ∧ L1 = L0 + 1 := ⟨L0 + 1, by omega, rfl⟩
                  have lw : IntKind.i64.wrap (L1 : Int) = (L1 : Int) := by simp [IntKind.wrap, IntKind.bits, IntKind.signed]; have := HJ.out; omega
                  have HL1 := Lib.hid hL1'
                  clear hL1'
                  go_wp2_with fail
                  go_roundg (N - (j + 1))
                  case rel => exact ⟨j + 1, by omega, rfl, by first | rfl | go_num, by rw [Q.out.1, HL1.out]; simp, by rw [Q.out.2, ← HM.out]; by_cases z : o = 0; exact (by simp [z]); simp [z, show ¬ 0 = o by omega], rfl⟩
                  case measure => have := HJ.out; omega
                · as_aux_lemma =>
                  have t0 : ((x : Int) == 0) = false := by simp [x0]
                  by_cases xo : x = o
                  · as_aux_lemma =>
                    subst xo
                    obtain ⟨L1, hL1, hL1'⟩ : ∃ L1 : Nat, (M0 : Int) + 1 = (L1 : Int) ∧ L1 = M0 + 1 := ⟨M0 + 1, by omega, rfl⟩
                    have lw : IntKind.i64.wrap (L1 : Int) = (L1 : Int) := by simp [IntKind.wrap, IntKind.bits, IntKind.signed]; have := HJ.out; omega
                    have HL1 := Lib.hid hL1'
                    have X0 := Lib.hid x0
                    clear hL1' x0
                    go_wp2_with fail
                    go_roundg (N - (j + 1))
                    case rel => exact ⟨j + 1, by omega, rfl, by first | rfl | go_num, by rw [Q.out.1]; simp [X0.out], by have := HM.out; rw [if_neg X0.out] at this; rw [Q.out.2, HL1.out, ← this, if_neg X0.out]; simp, rfl⟩
                    case measure => have := HJ.out; omega
                  · as_aux_lemma =>
                    have t1 : ((x : Int) == (o : Int)) = false := by simp; omega
                    have X0 := Lib.hid (And.intro x0 xo)
                    clear x0 xo
                    go_wp2_with fail
                    go_roundg (N - (j + 1))
                    case rel => exact ⟨j + 1, by omega, rfl, by first | rfl | go_num, by rw [Q.out.1]; simp [X0.out.1], by rw [Q.out.2, ← HM.out]; simp [X0.out.2], rfl⟩
                    case measure => have := HJ.out; omega
              · as_aux_lemma =>
                obtain rfl : N = j := by omega
                rw [List.take_of_length_le (by rw [HL.out]; exact Nat.le_refl _), HV.out.1, HV.out.2]
                clear hg hj
                go_wp2_with fail
                go_meet
                try exact ⟨rfl, rfl, rfl⟩
          case rest =>
            obtain ⟨rfl, rfl, rfl⟩ := hcut
            go_upto_region 42 with fail
            have KS := Lib.hid (show ∀ w', PC W T1 R M O D N os1 ds1 bl1 C k f off n o A l c w' → w'.cell? ⟨C, 1, none⟩ = some (.int .i64 f) ∧ w'.cell? ⟨C, 4, none⟩ = some (.int .u64 (o : Int)) ∧ w'.cell? ⟨M, 1, none⟩ = some (.slice (some ⟨O, 0, none⟩) N N) from fun w' h => ⟨h.box.2.1, h.box.2.2.2.2.1, h.2.1.head.2⟩)
            have C1 := Lib.hid (fun wx (h : PC W T1 R M O D N os1 ds1 bl1 C k f off n o A l c wx) => owner_st f h.1 (by have := HB.out; omega) (by have := HB.out; omega) (ow : Int) (by rw [OW.out]))
            have C2 := Lib.hid (fun wx (h : PC W T1 R M O D N os1 ds1 bl1 C k f off n o A l c wx) => left_st h.1 V0 HV.out.1)
            have C3 := Lib.hid (fun wx (h : PC W T1 R M O D N os1 ds1 bl1 C k f off n o A l c wx) => count_st o h.1 (by have := HB.out; omega) V1 HV.out.2)
            have C4 := Lib.hid (fun wx (h : PC W T1 R M O D N os1 ds1 bl1 C k f off n o A l c wx) => len_st h.1 (N : Int) (by rw [HL.out]))
            clear b0 b1 b2 b3 b4 b5 m0 m1
            refine wp_region_held_drew (S := fun w' => w'.cell? ⟨C, 1, none⟩ = some (.int .i64 f) ∧ w'.cell? ⟨C, 4, none⟩ = some (.int .u64 (o : Int)) ∧ w'.cell? ⟨M, 1, none⟩ = some (.slice (some ⟨O, 0, none⟩) N N)) (by kernel_rfl) (KS.out _ HC.out.drew) (fun hHeld => ?_)
            refine wpAnyH_take (i := 0) (oi := { dst := some 265, op := Op.move (Operand.tmp 1), type := 24, pos := "law.go:80", after := #[], guard := none }) (v := ?vv92) rfl (by kernel_rfl) (by kernel_rfl) (by kernel_rfl) (fun _ _ _ h => h) (Or.inl ⟨by rfl, ?hy92⟩) hHeld ?rest92
            case hy92 => (intro wS hSw; (try dsimp only at hSw); go_simp; try with_reducible rfl)
            simp only [Act.put, List.setIfInBounds_toArray, List.set_cons_zero, List.set_cons_succ]
            refine wpAnyH_take (i := 1) (oi := { dst := some 266, op := Op.fieldAddr 34 (Operand.tmp 5) 1, type := 0, pos := "law.go:80", after := #[], guard := none }) (v := ?vv93) rfl (by kernel_rfl) (by kernel_rfl) (by kernel_rfl) (fun _ _ _ h => h) (Or.inl ⟨by rfl, ?hy93⟩) hHeld ?rest93
            case hy93 => (intro wS hSw; (try dsimp only at hSw); go_simp; try with_reducible rfl)
            simp only [Act.put, List.setIfInBounds_toArray, List.set_cons_zero, List.set_cons_succ]
            refine wpAnyH_take (i := 2) (oi := { dst := some 267, op := Op.load 3 (Operand.tmp 266), type := 3, pos := "law.go:80", after := #[{ on := 1, ground := Ground.data }], guard := none }) (v := ?vv94) rfl (by kernel_rfl) (by kernel_rfl) (by kernel_rfl) (fun _ _ _ h => h) (Or.inl ⟨by rfl, ?hy94⟩) hHeld ?rest94
            case hy94 => (intro wS hSw; (try dsimp only at hSw); go_simp; try with_reducible rfl)
            simp only [Act.put, List.setIfInBounds_toArray, List.set_cons_zero, List.set_cons_succ]
            refine wpAnyH_take (i := 4) (oi := { dst := some 269, op := Op.move (Operand.tmp 13), type := 31, pos := "law.go:80", after := #[], guard := none }) (v := ?vv95) rfl (by kernel_rfl) (by kernel_rfl) (by kernel_rfl) (fun _ _ _ h => h) (Or.inl ⟨by rfl, ?hy95⟩) hHeld ?rest95
            case hy95 => (intro wS hSw; (try dsimp only at hSw); go_simp; try with_reducible rfl)
            simp only [Act.put, List.setIfInBounds_toArray, List.set_cons_zero, List.set_cons_succ]
            refine wpAnyH_ready (rs := [3]) (by kernel_rfl) (by simp) ?_
            refine AllReadyH.cons (o := { dst := some 268, op := Op.call { callee := Callee.value (Operand.func 15), args := #[Operand.tmp 265, Operand.tmp 267], argTypes := #[24, 3] }, type := 31, pos := "law.go:80", after := #[{ on := 0, ground := Ground.data }, { on := 2, ground := Ground.data }], guard := none }) rfl (fun K hK => ?_) AllReadyH.nil
            go_simp
            with_reducible refine (C1.out _ HC.out.drew).mono ?_
            rintro e wq ⟨rfl, hq, sm, _⟩
            replace HC := Lib.hid (HC.out.drew.stay hq sm)
            clear hq sm
            clear hHeld
            try go_wp2_with fail
            refine hK.out _ _ (KS.out _ HC.out) (fun hHeld => ?_)
            clear hK K
            try simp only [Act.put, List.setIfInBounds_toArray, List.set_cons_zero, List.set_cons_succ]
            refine wpAnyH_take (i := 5) (oi := { dst := some 270, op := Op.binOp BinOp.eql 31 (Operand.tmp 268) (Operand.tmp 269) 31, type := 4, pos := "law.go:80", after := #[{ on := 3, ground := Ground.data }, { on := 4, ground := Ground.data }], guard := none }) (v := ?vv96) rfl (by kernel_rfl) (by kernel_rfl) (by kernel_rfl) (fun _ _ _ h => h) (Or.inl ⟨by rfl, ?hy96⟩) hHeld ?rest96
            case hy96 => (intro wS hSw; (try dsimp only at hSw); go_simp; try with_reducible rfl)
            simp only [Act.put, List.setIfInBounds_toArray, List.set_cons_zero, List.set_cons_succ]
            refine wpAnyH_take (i := 6) (oi := { dst := some 271, op := Op.move (Operand.tmp 270), type := 4, pos := "law.go:80", after := #[{ on := 5, ground := Ground.data }, { on := 3, ground := Ground.chain }], guard := none }) (v := ?vv97) rfl (by kernel_rfl) (by kernel_rfl) (by kernel_rfl) (fun _ _ _ h => h) (Or.inl ⟨by rfl, ?hy97⟩) hHeld ?rest97
            case hy97 => (intro wS hSw; (try dsimp only at hSw); go_simp; try with_reducible rfl)
            simp only [Act.put, List.setIfInBounds_toArray, List.set_cons_zero, List.set_cons_succ]
            refine wpAnyH_take (i := 7) (oi := { dst := some 272, op := Op.move (Operand.tmp 1), type := 24, pos := "law.go:80", after := #[{ on := 6, ground := Ground.guard }], guard := some (6, true) }) (v := ?vv98) rfl (by kernel_rfl) (by kernel_rfl) (by kernel_rfl) (fun _ _ _ h => h) (Or.inl ⟨by rfl, ?hy98⟩) hHeld ?rest98
            case hy98 => (intro wS hSw; (try dsimp only at hSw); go_simp; try with_reducible rfl)
            simp only [Act.put, List.setIfInBounds_toArray, List.set_cons_zero, List.set_cons_succ]
            refine wpAnyH_take (i := 9) (oi := { dst := some 274, op := Op.move (Operand.tmp 14), type := 3, pos := "law.go:80", after := #[{ on := 6, ground := Ground.guard }], guard := some (6, true) }) (v := ?vv99) rfl (by kernel_rfl) (by kernel_rfl) (by kernel_rfl) (fun _ _ _ h => h) (Or.inl ⟨by rfl, ?hy99⟩) hHeld ?rest99
            case hy99 => (intro wS hSw; (try dsimp only at hSw); go_simp; try with_reducible rfl)
            simp only [Act.put, List.setIfInBounds_toArray, List.set_cons_zero, List.set_cons_succ]
            refine wpAnyH_ready (rs := [8]) (by kernel_rfl) (by simp) ?_
            refine AllReadyH.cons (o := { dst := some 273, op := Op.call { callee := Callee.value (Operand.func 17), args := #[Operand.tmp 272], argTypes := #[24] }, type := 3, pos := "law.go:80", after := #[{ on := 7, ground := Ground.data }, { on := 6, ground := Ground.chain }, { on := 6, ground := Ground.guard }], guard := some (6, true) }) rfl (fun K hK => ?_) AllReadyH.nil
            go_simp
            with_reducible refine (C2.out _ HC.out).mono ?_
            rintro e wr ⟨rfl, hq, sm, _⟩
            replace HC := Lib.hid (HC.out.stay hq sm)
            clear hq sm
            clear hHeld
            try go_wp2_with fail
            refine hK.out _ _ (KS.out _ HC.out) (fun hHeld => ?_)
            clear hK K
            try simp only [Act.put, List.setIfInBounds_toArray, List.set_cons_zero, List.set_cons_succ]
            refine wpAnyH_take (i := 10) (oi := { dst := some 275, op := Op.binOp BinOp.eql 3 (Operand.tmp 273) (Operand.tmp 274) 3, type := 4, pos := "law.go:80", after := #[{ on := 8, ground := Ground.data }, { on := 9, ground := Ground.data }, { on := 6, ground := Ground.guard }], guard := some (6, true) }) (v := ?vv100) rfl (by kernel_rfl) (by kernel_rfl) (by kernel_rfl) (fun _ _ _ h => h) (Or.inl ⟨by rfl, ?hy100⟩) hHeld ?rest100
            case hy100 => (intro wS hSw; (try dsimp only at hSw); go_simp; try with_reducible rfl)
            simp only [Act.put, List.setIfInBounds_toArray, List.set_cons_zero, List.set_cons_succ]
            refine wpAnyH_take (i := 11) (oi := { dst := some 276, op := Op.pick (Operand.tmp 271) (Operand.tmp 275) (Operand.const (Value.bool false)), type := 4, pos := "law.go:80", after := #[{ on := 6, ground := Ground.data }, { on := 10, ground := Ground.data }], guard := none }) (v := ?vv101) rfl (by kernel_rfl) (by kernel_rfl) (by kernel_rfl) (fun _ _ _ h => h) (Or.inl ⟨by rfl, ?hy101⟩) hHeld ?rest101
            case hy101 => (intro wS hSw; (try dsimp only at hSw); go_simp; try with_reducible rfl)
            simp only [Act.put, List.setIfInBounds_toArray, List.set_cons_zero, List.set_cons_succ]
            refine wpAnyH_take (i := 12) (oi := { dst := some 277, op := Op.move (Operand.tmp 276), type := 4, pos := "law.go:80", after := #[{ on := 11, ground := Ground.data }, { on := 8, ground := Ground.chain }], guard := none }) (v := ?vv102) rfl (by kernel_rfl) (by kernel_rfl) (by kernel_rfl) (fun _ _ _ h => h) (Or.inl ⟨by rfl, ?hy102⟩) hHeld ?rest102
            case hy102 => (intro wS hSw; (try dsimp only at hSw); go_simp; try with_reducible rfl)
            simp only [Act.put, List.setIfInBounds_toArray, List.set_cons_zero, List.set_cons_succ]
            refine wpAnyH_take (i := 13) (oi := { dst := some 278, op := Op.move (Operand.tmp 1), type := 24, pos := "law.go:80", after := #[{ on := 12, ground := Ground.guard }], guard := some (12, true) }) (v := ?vv103) rfl (by kernel_rfl) (by kernel_rfl) (by kernel_rfl) (fun _ _ _ h => h) (Or.inl ⟨by rfl, ?hy103⟩) hHeld ?rest103
            case hy103 => (intro wS hSw; (try dsimp only at hSw); go_simp; try with_reducible rfl)
            simp only [Act.put, List.setIfInBounds_toArray, List.set_cons_zero, List.set_cons_succ]
            refine wpAnyH_take (i := 14) (oi := { dst := some 279, op := Op.fieldAddr 34 (Operand.tmp 5) 4, type := 0, pos := "law.go:80", after := #[{ on := 12, ground := Ground.guard }], guard := some (12, true) }) (v := ?vv104) rfl (by kernel_rfl) (by kernel_rfl) (by kernel_rfl) (fun _ _ _ h => h) (Or.inl ⟨by rfl, ?hy104⟩) hHeld ?rest104
            case hy104 => (intro wS hSw; (try dsimp only at hSw); go_simp; try with_reducible rfl)
            simp only [Act.put, List.setIfInBounds_toArray, List.set_cons_zero, List.set_cons_succ]
            refine wpAnyH_take (i := 15) (oi := { dst := some 280, op := Op.load 31 (Operand.tmp 279), type := 31, pos := "law.go:80", after := #[{ on := 14, ground := Ground.data }, { on := 12, ground := Ground.guard }], guard := some (12, true) }) (v := ?vv105) rfl (by kernel_rfl) (by kernel_rfl) (by kernel_rfl) (fun _ _ _ h => h) (Or.inl ⟨by rfl, ?hy105⟩) hHeld ?rest105
            case hy105 => (intro wS hSw; (try dsimp only at hSw); go_simp; try with_reducible rfl)
            simp only [Act.put, List.setIfInBounds_toArray, List.set_cons_zero, List.set_cons_succ]
            refine wpAnyH_take (i := 17) (oi := { dst := some 282, op := Op.move (Operand.tmp 15), type := 3, pos := "law.go:80", after := #[{ on := 12, ground := Ground.guard }], guard := some (12, true) }) (v := ?vv106) rfl (by kernel_rfl) (by kernel_rfl) (by kernel_rfl) (fun _ _ _ h => h) (Or.inl ⟨by rfl, ?hy106⟩) hHeld ?rest106
            case hy106 => (intro wS hSw; (try dsimp only at hSw); go_simp; try with_reducible rfl)
            simp only [Act.put, List.setIfInBounds_toArray, List.set_cons_zero, List.set_cons_succ]
            refine wpAnyH_ready (rs := [16]) (by kernel_rfl) (by simp) ?_
            refine AllReadyH.cons (o := { dst := some 281, op := Op.call { callee := Callee.value (Operand.func 18), args := #[Operand.tmp 278, Operand.tmp 280], argTypes := #[24, 31] }, type := 3, pos := "law.go:80", after := #[{ on := 13, ground := Ground.data }, { on := 15, ground := Ground.data }, { on := 12, ground := Ground.chain }, { on := 12, ground := Ground.guard }], guard := some (12, true) }) rfl (fun K hK => ?_) AllReadyH.nil
            go_simp
            with_reducible refine (C3.out _ HC.out).mono ?_
            rintro e ws ⟨rfl, hq, sm, _⟩
            replace HC := Lib.hid (HC.out.stay hq sm)
            clear hq sm
            clear hHeld
            try go_wp2_with fail
            refine hK.out _ _ (KS.out _ HC.out) (fun hHeld => ?_)
            clear hK K
            try simp only [Act.put, List.setIfInBounds_toArray, List.set_cons_zero, List.set_cons_succ]
            refine wpAnyH_take (i := 18) (oi := { dst := some 283, op := Op.binOp BinOp.eql 3 (Operand.tmp 281) (Operand.tmp 282) 3, type := 4, pos := "law.go:80", after := #[{ on := 16, ground := Ground.data }, { on := 17, ground := Ground.data }, { on := 12, ground := Ground.guard }], guard := some (12, true) }) (v := ?vv107) rfl (by kernel_rfl) (by kernel_rfl) (by kernel_rfl) (fun _ _ _ h => h) (Or.inl ⟨by rfl, ?hy107⟩) hHeld ?rest107
            case hy107 => (intro wS hSw; (try dsimp only at hSw); go_simp; try with_reducible rfl)
            simp only [Act.put, List.setIfInBounds_toArray, List.set_cons_zero, List.set_cons_succ]
            refine wpAnyH_take (i := 19) (oi := { dst := some 284, op := Op.pick (Operand.tmp 277) (Operand.tmp 283) (Operand.const (Value.bool false)), type := 4, pos := "law.go:80", after := #[{ on := 12, ground := Ground.data }, { on := 18, ground := Ground.data }], guard := none }) (v := ?vv108) rfl (by kernel_rfl) (by kernel_rfl) (by kernel_rfl) (fun _ _ _ h => h) (Or.inl ⟨by rfl, ?hy108⟩) hHeld ?rest108
            case hy108 => (intro wS hSw; (try dsimp only at hSw); go_simp; try with_reducible rfl)
            simp only [Act.put, List.setIfInBounds_toArray, List.set_cons_zero, List.set_cons_succ]
            refine wpAnyH_take (i := 20) (oi := { dst := some 285, op := Op.move (Operand.tmp 284), type := 4, pos := "law.go:80", after := #[{ on := 19, ground := Ground.data }, { on := 16, ground := Ground.chain }], guard := none }) (v := ?vv109) rfl (by kernel_rfl) (by kernel_rfl) (by kernel_rfl) (fun _ _ _ h => h) (Or.inl ⟨by rfl, ?hy109⟩) hHeld ?rest109
            case hy109 => (intro wS hSw; (try dsimp only at hSw); go_simp; try with_reducible rfl)
            simp only [Act.put, List.setIfInBounds_toArray, List.set_cons_zero, List.set_cons_succ]
            refine wpAnyH_take (i := 21) (oi := { dst := some 286, op := Op.move (Operand.tmp 1), type := 24, pos := "law.go:80", after := #[{ on := 20, ground := Ground.guard }], guard := some (20, true) }) (v := ?vv110) rfl (by kernel_rfl) (by kernel_rfl) (by kernel_rfl) (fun _ _ _ h => h) (Or.inl ⟨by rfl, ?hy110⟩) hHeld ?rest110
            case hy110 => (intro wS hSw; (try dsimp only at hSw); go_simp; try with_reducible rfl)
            simp only [Act.put, List.setIfInBounds_toArray, List.set_cons_zero, List.set_cons_succ]
            refine wpAnyH_take (i := 23) (oi := { dst := some 288, op := Op.move (Operand.tmp 0), type := 26, pos := "law.go:80", after := #[{ on := 20, ground := Ground.guard }], guard := some (20, true) }) (v := ?vv111) rfl (by kernel_rfl) (by kernel_rfl) (by kernel_rfl) (fun _ _ _ h => h) (Or.inl ⟨by rfl, ?hy111⟩) hHeld ?rest111
            case hy111 => (intro wS hSw; (try dsimp only at hSw); go_simp; try with_reducible rfl)
            simp only [Act.put, List.setIfInBounds_toArray, List.set_cons_zero, List.set_cons_succ]
            refine wpAnyH_take (i := 24) (oi := { dst := some 289, op := Op.nilCheck (Operand.tmp 288), type := 0, pos := "law.go:80", after := #[{ on := 23, ground := Ground.data }, { on := 20, ground := Ground.guard }], guard := some (20, true) }) (v := ?vv112) rfl (by kernel_rfl) (by kernel_rfl) (by kernel_rfl) (fun _ _ _ h => h) (Or.inl ⟨by rfl, ?hy112⟩) hHeld ?rest112
            case hy112 => (intro wS hSw; (try dsimp only at hSw); go_simp; try with_reducible rfl)
            simp only [Act.put, List.setIfInBounds_toArray, List.set_cons_zero, List.set_cons_succ]
            refine wpAnyH_take (i := 25) (oi := { dst := some 290, op := Op.fieldAddr 30 (Operand.tmp 289) 1, type := 0, pos := "law.go:80", after := #[{ on := 24, ground := Ground.data }, { on := 20, ground := Ground.guard }], guard := some (20, true) }) (v := ?vv113) rfl (by kernel_rfl) (by kernel_rfl) (by kernel_rfl) (fun _ _ _ h => h) (Or.inl ⟨by rfl, ?hy113⟩) hHeld ?rest113
            case hy113 => (intro wS hSw; (try dsimp only at hSw); go_simp; try with_reducible rfl)
            simp only [Act.put, List.setIfInBounds_toArray, List.set_cons_zero, List.set_cons_succ]
            refine wpAnyH_take (i := 26) (oi := { dst := some 291, op := Op.load 28 (Operand.tmp 290), type := 28, pos := "law.go:80", after := #[{ on := 25, ground := Ground.data }, { on := 20, ground := Ground.guard }], guard := some (20, true) }) (v := ?vv114) rfl (by kernel_rfl) (by kernel_rfl) (by kernel_rfl) (fun _ _ _ h => h) (Or.inl ⟨by rfl, ?hy114⟩) hHeld ?rest114
            case hy114 => (intro wS hSw; (try dsimp only at hSw); go_simp; try with_reducible rfl)
            simp only [Act.put, List.setIfInBounds_toArray, List.set_cons_zero, List.set_cons_succ]
            refine wpAnyH_take (i := 27) (oi := { dst := some 292, op := Op.call { callee := Callee.builtin Builtin.len, args := #[Operand.tmp 291], argTypes := #[28] }, type := 3, pos := "law.go:80", after := #[{ on := 26, ground := Ground.data }, { on := 20, ground := Ground.guard }], guard := some (20, true) }) (v := ?vv115) rfl (by kernel_rfl) (by kernel_rfl) (by kernel_rfl) (fun _ _ _ h => h) (Or.inl ⟨by rfl, ?hy115⟩) hHeld ?rest115
            case hy115 => (intro wS hSw; (try dsimp only at hSw); go_simp; try with_reducible rfl)
            simp only [Act.put, List.setIfInBounds_toArray, List.set_cons_zero, List.set_cons_succ]
            refine wpAnyH_ready (rs := [22]) (by kernel_rfl) (by simp) ?_
            refine AllReadyH.cons (o := { dst := some 287, op := Op.call { callee := Callee.value (Operand.func 16), args := #[Operand.tmp 286], argTypes := #[24] }, type := 3, pos := "law.go:80", after := #[{ on := 21, ground := Ground.data }, { on := 20, ground := Ground.chain }, { on := 20, ground := Ground.guard }], guard := some (20, true) }) rfl (fun K hK => ?_) AllReadyH.nil
            go_simp
            with_reducible refine (C4.out _ HC.out).mono ?_
            rintro e wt ⟨rfl, hq, sm, _⟩
            replace HC := Lib.hid (HC.out.stay hq sm)
            clear hq sm
            clear hHeld
            try go_wp2_with fail
            refine hK.out _ _ (KS.out _ HC.out) (fun hHeld => ?_)
            clear hK K
            try simp only [Act.put, List.setIfInBounds_toArray, List.set_cons_zero, List.set_cons_succ]
            refine wpAnyH_take (i := 28) (oi := { dst := some 293, op := Op.binOp BinOp.eql 3 (Operand.tmp 287) (Operand.tmp 292) 3, type := 4, pos := "law.go:80", after := #[{ on := 22, ground := Ground.data }, { on := 27, ground := Ground.data }, { on := 20, ground := Ground.guard }], guard := some (20, true) }) (v := ?vv116) rfl (by kernel_rfl) (by kernel_rfl) (by kernel_rfl) (fun _ _ _ h => h) (Or.inl ⟨by rfl, ?hy116⟩) hHeld ?rest116
            case hy116 => (intro wS hSw; (try dsimp only at hSw); go_simp; try with_reducible rfl)
            simp only [Act.put, List.setIfInBounds_toArray, List.set_cons_zero, List.set_cons_succ]
            refine wpAnyH_take (i := 29) (oi := { dst := some 294, op := Op.pick (Operand.tmp 285) (Operand.tmp 293) (Operand.const (Value.bool false)), type := 4, pos := "law.go:80", after := #[{ on := 20, ground := Ground.data }, { on := 28, ground := Ground.data }], guard := none }) (v := ?vv117) rfl (by kernel_rfl) (by kernel_rfl) (by kernel_rfl) (fun _ _ _ h => h) (Or.inl ⟨by rfl, ?hy117⟩) hHeld ?rest117
            case hy117 => (intro wS hSw; (try dsimp only at hSw); go_simp; try with_reducible rfl)
            simp only [Act.put, List.setIfInBounds_toArray, List.set_cons_zero, List.set_cons_succ]
            refine wpAnyH_take (i := 30) (oi := { dst := some 6, op := Op.assign (Operand.tmp 294), type := 4, pos := "law.go:80", after := #[{ on := 29, ground := Ground.data }, { on := 22, ground := Ground.chain }, { on := 0, ground := Ground.phase }, { on := 1, ground := Ground.phase }, { on := 2, ground := Ground.phase }, { on := 3, ground := Ground.phase }, { on := 4, ground := Ground.phase }, { on := 5, ground := Ground.phase }, { on := 6, ground := Ground.phase }, { on := 7, ground := Ground.phase }, { on := 8, ground := Ground.phase }, { on := 9, ground := Ground.phase }, { on := 10, ground := Ground.phase }, { on := 11, ground := Ground.phase }, { on := 12, ground := Ground.phase }, { on := 13, ground := Ground.phase }, { on := 14, ground := Ground.phase }, { on := 15, ground := Ground.phase }, { on := 16, ground := Ground.phase }, { on := 17, ground := Ground.phase }, { on := 18, ground := Ground.phase }, { on := 19, ground := Ground.phase }, { on := 20, ground := Ground.phase }, { on := 21, ground := Ground.phase }, { on := 22, ground := Ground.phase }, { on := 23, ground := Ground.phase }, { on := 24, ground := Ground.phase }, { on := 25, ground := Ground.phase }, { on := 26, ground := Ground.phase }, { on := 27, ground := Ground.phase }, { on := 28, ground := Ground.phase }, { on := 29, ground := Ground.phase }], guard := none }) (v := ?vv118) rfl (by kernel_rfl) (by kernel_rfl) (by kernel_rfl) (fun _ _ _ h => h) (Or.inl ⟨by rfl, ?hy118⟩) hHeld ?rest118
            case hy118 => (intro wS hSw; (try dsimp only at hSw); go_simp; try with_reducible rfl)
            simp only [Act.put, List.setIfInBounds_toArray, List.set_cons_zero, List.set_cons_succ]
            refine wpAnyH_done (by kernel_rfl) ?_ _
            go_wp2_with fail
            go_ret
            exact ⟨rfl, HC.out.pm⟩
end Go.Proofs.Ytnhfjipakhgjcaa
