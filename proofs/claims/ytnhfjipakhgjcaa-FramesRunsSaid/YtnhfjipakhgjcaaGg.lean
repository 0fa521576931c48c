/- Bytes that are written are read back: the law. -/
import Derived.Test.YtnhfjipakhgjcaaGf
namespace Go.Proofs.Ytnhfjipakhgjcaa
open Go.RowKit
set_option linter.unusedVariables false
set_option linter.unusedSimpArgs false
/-- Pairs of numbers, as an argument has them. -/
def Twos (w : World) (A : Option Addr) (xs : List (Int × Int)) : Prop := ∀ (i : Nat) (p : Int × Int), xs[i]? = some p → ∃ b off, A = some ⟨b, off, none⟩ ∧ b < w.heap.size ∧
  w.cell? ⟨b, off + i * 2, none⟩ = some (.int .i64 p.1) ∧ w.cell? ⟨b, off + i * 2 + 1, none⟩ = some (.int .i64 p.2) ∧ (-9223372036854775808 ≤ p.1 ∧ p.1 ≤ 9223372036854775807) ∧ -9223372036854775808 ≤ p.2 ∧ p.2 ≤ 9223372036854775807
/-- An array of 64 bytes. -/
def Arr (w : World) (M : Nat) (bs : List Nat) : Prop := w.heap[M]? = some (Obj.cells (Y bs).toArray 49)
theorem Arr.set {w : World} {M i x : Nat} {bs : List Nat} (h : Arr w M bs) : Arr (w.setCell ⟨M, i, none⟩ (.int .u8 (x : Int))) M (bs.set i x) := by
  unfold Arr
  have := heap_setCell_same w M i _ 49 (.int .u8 (x : Int)) h
  rw [this]
  congr 2
  unfold Y
  rw [List.setIfInBounds_toArray, List.map_set]
theorem Arr.cell {w : World} {M i : Nat} {bs : List Nat} (h : Arr w M bs) (hi : i < bs.length) : (∃ y : Nat, w.cell? ⟨M, i, none⟩ = some (.int .u8 (y : Int))) ∧ w.frozen? ⟨M, i, none⟩ = false := by
  refine ⟨⟨bs[i], ?_⟩, frozen_of_row _ _ _ _ 49 h⟩
  rw [cell_of_row _ _ _ _ 49 (0, 0) h]
  simp [Y, hi]
theorem Arr.br {w : World} {M : Nat} {bs : List Nat} (h : Arr w M bs) : BR w (some ⟨M, 0, none⟩) bs := fun i x hi => by
  refine ⟨M, 0, rfl, (Array.getElem?_eq_some_iff.1 h).1, ?_⟩
  rw [cell_of_row _ _ _ _ 49 (0, 0) h, Nat.zero_add, List.getElem?_toArray]
  exact Y_at hi
theorem Arr.part {w : World} {M : Nat} {bs : List Nat} (h : Arr w M bs) (o q : Nat) : BR w (some ⟨M, o, none⟩) ((bs.drop o).take q) := fun i x hi => by
  refine ⟨M, o, rfl, (Array.getElem?_eq_some_iff.1 h).1, ?_⟩
  rw [cell_of_row _ _ _ _ 49 (0, 0) h, List.getElem?_toArray]
  refine Y_at ?_
  rw [List.getElem?_take] at hi
  split at hi
  · rw [List.getElem?_drop] at hi; exact hi
  · cases hi
theorem Arr.same {w w' : World} {M : Nat} {bs : List Nat} {T : List Nat} (h : Arr w M bs) (hs : Same T w w') (hm : M ∈ T) : Arr w' M bs := by
  unfold Arr; rw [hs M hm]; exact h
theorem off80 (off : Int) : ∃ (t u : Int) (v : Nat), off.tmod 80 = t ∧ RowKit.wrap64 (t + 80) = u ∧ u.tmod 80 = (v : Int) ∧ v < 80 := by
  have h1 := Int.tmod_lt_of_pos off (show (0 : Int) < 80 by omega)
  have h2 := Int.lt_tmod_of_pos off (show (0 : Int) < 80 by omega)
  refine ⟨_, _, (RowKit.wrap64 (off.tmod 80 + 80)).toNat % 80, rfl, rfl, ?_, by omega⟩
  have e : RowKit.wrap64 (off.tmod 80 + 80) = off.tmod 80 + 80 := by unfold RowKit.wrap64; omega
  rw [e, Int.tmod_eq_emod_of_nonneg (by omega)]
  omega
theorem lay2 (l : List Nat) (a x y : Nat) (h : a + 2 ≤ l.length) : (l.set a x).set (a + 1) y = Fr.lay l a [x, y] := by
  unfold Fr.lay
  apply List.ext_getElem?
  intro i
  simp only [List.getElem?_set, List.getElem?_append, List.length_append, List.length_take, List.length_set, List.getElem?_take, List.getElem?_drop, List.length_cons, List.length_nil]
  have m : min a l.length = a := by omega
  rw [m]
  by_cases h1 : i < a
  · rw [if_neg (by omega), if_neg (by omega), if_pos (by omega), if_pos h1, if_pos h1]
  · by_cases h2 : i = a
    · subst h2
      rw [if_neg (by omega), if_pos rfl, if_pos (by omega), if_pos (by omega), if_neg h1]
      simp
    · by_cases h3 : i = a + 1
      · subst h3
        rw [if_pos rfl, if_pos (by omega), if_pos (by omega), if_neg h1]
        simp
      · rw [if_neg (by omega), if_neg (by omega), if_neg (by omega)]
        congr 1; omega
set_option maxHeartbeats 8000000 in
theorem bytes_all (A : Option Addr) (n c : Nat) (xs : List (Int × Int)) (off k : Int) (w : World) (hn : xs.length = n) (hm : n ≤ 100) (hr : Twos w A xs)
    (o1 : -9223372036854775808 ≤ off) (o2 : off ≤ 9223372036854775807) (k1 : -9223372036854775808 ≤ k) (k2 : k ≤ 9223372036854775807) :
    Calls Try.prog 7 #[.slice A n c, .int .i64 off, .int .i64 k] w fun e w' => e = .returned (.bool true) ∧ Below w.heap.size w w' := by
  have B := Lib.hid fit_any
  have h100 : ¬ 100 < n := by omega
  go_enter Try.func7, Try.ntmps7
  go_wp2_with fail
  refine (B.out _).mono ?_; rintro e w1 ⟨rfl, g1⟩
  go_wp2_with fail
  refine (new_st 2 w _ [] (by omega) (by omega) g1 (by simp)).mono ?_; rintro e w2 ⟨R, ds, rfl, h1, _⟩
  obtain ⟨d0, d1, rfl⟩ : ∃ d0 d1, ds = [d0, d1] := by
    have l := h1.len.1
    match ds, l with
    | [d0, d1], _ => exact ⟨_, _, rfl⟩
  have A1 := Lib.hid (alloc_st 1 (show St w [] R [0, 0] [d0, d1] w2 from h1) (by omega) 1 1 [1, 0] rfl rfl)
  clear h1 g1
  go_wp2_with fail
  refine A1.out.mono ?_; rintro e w3 ⟨rfl, h1, _⟩
  have hcall := Lib.hid (show St w [] R [1, 0] [Fr.zeros, d1] w3 from h1)
  clear h1 A1
  have AM := Lib.hid (hcall.out.alloc (Obj.cells (Y Fr.zeros).toArray 49))
  have MM := Lib.hid (show Arr (w3.alloc (Obj.cells (Y Fr.zeros).toArray 49)) w3.heap.size Fr.zeros from heap_alloc_new _ _)
  have MW := Lib.hid (show w.heap.size ≤ w3.heap.size from hcall.out.b.size)
  go_wp2_with fail
  show Code.wp _ _ _ _ (w3.alloc (Obj.cells (Y Fr.zeros).toArray 49))
  generalize w3.alloc (Obj.cells (Y Fr.zeros).toArray 49) = WL at AM MM ⊢
  generalize w3.heap.size = M at AM MM MW ⊢
  clear hcall
  have XR := Lib.hid hr
  have HN := Lib.hid hn
  clear hr hn hm
  go_loopg [26] n (fun g i wr => ∃ (j : Nat) (bs : List Nat), j ≤ n ∧ g = n - j ∧ i = .int .i64 j ∧ Hid (St w [M] R [1, 0] [bs, d1] wr ∧ Arr wr M bs))
  case atStart => exact ⟨0, Fr.zeros, by omega, by omega, rfl, Lib.hid ⟨AM.out, MM.out⟩⟩
  case round =>
    obtain ⟨j, bs, hj, hg, rfl, hI⟩ := hrel
    by_cases hlt : j < n
    · obtain ⟨⟨x0, x1⟩, hx⟩ : ∃ x, xs[j]? = some x := ⟨_, List.getElem?_eq_getElem (by rw [HN.out]; exact hlt)⟩
      obtain ⟨b, of, rfl, hb, hc0, hc1, hx0, hx1⟩ := XR.out j _ hx
      have c0 : wr.cell? ⟨b, of + j * 2, none⟩ = some (.int .i64 x0) := by rw [hI.out.1.b.cell (p := ⟨b, _, none⟩) hb]; exact hc0
      have c1 : wr.cell? ⟨b, of + j * 2 + 1, none⟩ = some (.int .i64 x1) := by rw [hI.out.1.b.cell (p := ⟨b, _, none⟩) hb]; exact hc1
      have HX := Lib.hid (And.intro hx0 hx1)
      have HB := Lib.hid hb
      have HG := Lib.hid (And.intro hj hg)
      clear hc0 hc1 hx0 hx1 hb hx hj hg
      obtain ⟨t, u, v, e1, e2, e3, v80⟩ := off80 x0
      have i1 : IntKind.i64.wrap ((j : Int) + 1) = ((j + 1 : Nat) : Int) := by simp [IntKind.wrap, IntKind.bits, IntKind.signed]; have := HG.out; omega
      obtain ⟨y0, q0, y0b⟩ : ∃ y : Nat, x1 % 256 = (y : Int) ∧ y < 256 := ⟨(x1 % 256).toNat, by omega, by omega⟩
      obtain ⟨y1, q1, y1b⟩ : ∃ y : Nat, x1 / 256 % 256 = (y : Int) ∧ y < 256 := ⟨(x1 / 256 % 256).toNat, by omega, by omega⟩
      obtain ⟨wa, hwa⟩ : ∃ wa, wr.alloc (Obj.cells #[Value.int IntKind.i64 x0, Value.int IntKind.i64 x1] 50) = wa := ⟨_, rfl⟩
      have ha : wa.heap.size = wr.heap.size + 1 := by rw [← hwa]; simp
      have ML := Lib.hid (show M < wr.heap.size from hI.out.1.2.1 M (by simp))
      have ZA := Lib.hid (show St w (wr.heap.size :: [M]) R [1, 0] [bs, d1] wa from hwa ▸ hI.out.1.alloc _)
      have ZB := Lib.hid (show St w (wa.heap.size :: wr.heap.size :: [M]) R [1, 0] [bs, d1] (wa.alloc (Obj.cells (Y [y0, y1]).toArray 5)) from ZA.out.alloc _)
      have ZM := Lib.hid (show Arr (wa.alloc (Obj.cells (Y [y0, y1]).toArray 5)) M bs by
        have m1 := (Array.getElem?_eq_some_iff.1 hI.out.2).1
        unfold Arr
        rw [Below.heap_alloc _ _ _ (by omega), ← hwa, Below.heap_alloc _ _ _ m1]
        exact hI.out.2)
      have ZR := Lib.hid (br_made wa [y0, y1])
      have ZN := Lib.hid (heap_alloc_new wa (Obj.cells (Y [y0, y1]).toArray 5))
      have BL := Lib.hid (show bs.length = 64 from (hI.out.1.len.2.2.2.2.2 0 (by simp) (by simp)))
      clear hI
      have ZW := Lib.hid (fun (t : Bool) ds' (ht : Fr.may [1, 0] 1 ((v : Int) - 8) 2 = t) (hd : Fr.put [1, 0] [bs, d1] 1 ((v : Int) - 8) [y0, y1] = ds') => write_st 1 ((v : Int) - 8) (some ⟨wa.heap.size, 0, none⟩) 2 2 [y0, y1] ZB.out (by omega) (by omega) (by omega) (by omega) rfl (by omega) (by omega) ZR.out (fun a ha _ => by injection ha with ha; subst ha; exact .inr (by simp)) (by intro x hx; simp at hx; omega) t ht ds' hd)
      generalize hZ : wa.alloc (Obj.cells (Y [y0, y1]).toArray 5) = wz at ZB ZM ZR ZN ZW
      have hZ' : (wr.alloc (Obj.cells #[Value.int IntKind.i64 x0, Value.int IntKind.i64 x1] 50)).alloc (Obj.cells #[Value.int IntKind.u8 (y0 : Int), Value.int IntKind.u8 (y1 : Int)] 5) = wz := by rw [hwa, ← hZ]; rfl
      rw [ha] at ZW ZN
      have HZ := Lib.hid hZ'
      clear hZ' hZ hwa
      by_cases r1 : v < 8
      · have mf : Fr.may [1, 0] 1 ((v : Int) - 8) 2 = false := by unfold Fr.may; simp [Fr.own]; omega
        have W1 := Lib.hid (ZW.out false [bs, d1] mf (by
          unfold Fr.put; rw [show (([y0, y1] : List Nat).length : Int) = 2 from rfl, mf, if_neg (by simp)]))
        have r4 : ¬ (0 : Int) ≤ (v : Int) - 8 := by omega
        clear ZW mf
        go_wp2_with fail
        rw [HZ.out]
        refine W1.out.mono ?_; rintro e wq ⟨rfl, h1, sm⟩
        have HI := Lib.hid (show St w [M] R [1, 0] [bs, d1] wq ∧ Arr wq M bs from ⟨h1.less (by simp), ZM.out.same sm (by simp)⟩)
        clear h1 sm W1 ZM ZN ZB ZR HZ
        go_wp2_with fail
        go_roundg (n - (j + 1))
        case rel => exact ⟨j + 1, _, by have := HG.out; omega, rfl, by first | rfl | go_num, HI⟩
        case measure => have := HG.out; omega
      · by_cases r2 : v ≤ 70
        · obtain ⟨a, ha'⟩ : ∃ a : Nat, (v : Int) - 8 = (a : Int) := ⟨v - 8, by omega⟩
          have a62 : a ≤ 62 := by omega
          have d1' : decide ((a : Int) ≤ 62) = true := by simp; omega
          rw [ha'] at ZW
          have mt : Fr.may [1, 0] 1 (a : Int) 2 = true := by unfold Fr.may; simp [Fr.own]; omega
          have W1 := Lib.hid (ZW.out true [Fr.lay bs a [y0, y1], d1] mt (by
            unfold Fr.put; rw [show (([y0, y1] : List Nat).length : Int) = 2 from rfl, if_pos mt]; rfl))
          clear ZW mt
          have A62 := Lib.hid a62
          clear a62
          go_wp2_with fail
          rw [HZ.out]
          refine W1.out.mono ?_; rintro e wq ⟨rfl, h1, sm⟩
          have hcall := Lib.hid h1
          have HM := Lib.hid (ZM.out.same sm (by simp))
          have nb : wq.heap[wr.heap.size + 1]? = some (Obj.cells (Y [y0, y1]).toArray 5) := by rw [sm _ (by simp [ha])]; exact ZN.out
          have HNB := Lib.hid nb
          clear h1 sm nb W1 ZM ZN ZB ZR HZ
          have BE := Lib.hid (show (wr.heap.size + 1 : Nat) ≠ M by have := ML.out; omega)
          have KS := Lib.hid (show ∀ w' : World, w'.heap[wr.heap.size + 1]? = some (Obj.cells (Y [y0, y1]).toArray 5) → w'.cell? ⟨wr.heap.size + 1, 0, none⟩ = some (.int .u8 (y0 : Int)) ∧ w'.cell? ⟨wr.heap.size + 1, 1, none⟩ = some (.int .u8 (y1 : Int)) from fun w' h => ⟨by rw [cell_of_row _ _ _ _ 5 (0, 0) h]; rfl, by rw [cell_of_row _ _ _ _ 5 (0, 0) h]; rfl⟩)
          obtain ⟨a1, ha1, i2⟩ : ∃ a1 : Nat, a + 1 = a1 ∧ (a : Int) + 1 = (a1 : Int) := ⟨a + 1, rfl, by omega⟩
          have HA1 := Lib.hid ha1
          have l1 : a < 64 := by have := A62.out; omega
          have l2 : a1 < 64 := by have := A62.out; omega
          have l3 : (a : Int) < 64 := by omega
          have l4 : (a1 : Int) < 64 := by omega
          have l5 : IntKind.i64.wrap (a1 : Int) = (a1 : Int) := by simp [IntKind.wrap, IntKind.bits, IntKind.signed]; omega
          clear ha1
          go_upto_region 17 with fail
          refine wp_region_held_drew (S := fun w' => w'.cell? ⟨wr.heap.size + 1, 0, none⟩ = some (.int .u8 (y0 : Int)) ∧ w'.cell? ⟨wr.heap.size + 1, 1, none⟩ = some (.int .u8 (y1 : Int))) (by kernel_rfl) (KS.out _ HNB.out) (fun hHeld => ?_)
          refine wpAnyH_take (i := 0) (oi := { dst := some 58, op := Op.move (Operand.tmp 12), type := 3, pos := "law.go:194", after := #[], guard := none }) (v := ?vv1) rfl (by kernel_rfl) (by kernel_rfl) (by kernel_rfl) (fun _ _ _ h => h) (Or.inl ⟨by rfl, ?hy1⟩) hHeld ?rest1
          case hy1 => (intro wS hSw; (try dsimp only at hSw); go_simp; try with_reducible rfl)
          simp only [Act.put, List.setIfInBounds_toArray, List.set_cons_zero, List.set_cons_succ]
          refine wpAnyH_take (i := 1) (oi := { dst := some 59, op := Op.move (Operand.tmp 12), type := 3, pos := "law.go:194", after := #[{ on := 10, ground := Ground.gcOnly Departure.lateStores }], guard := none }) (v := ?vv2) rfl (by kernel_rfl) (by kernel_rfl) (by kernel_rfl) (fun _ _ _ h => h) (Or.inl ⟨by rfl, ?hy2⟩) hHeld ?rest2
          case hy2 => (intro wS hSw; (try dsimp only at hSw); go_simp; try with_reducible rfl)
          simp only [Act.put, List.setIfInBounds_toArray, List.set_cons_zero, List.set_cons_succ]
          refine wpAnyH_take (i := 2) (oi := { dst := some 60, op := Op.binOp BinOp.add 3 (Operand.tmp 59) (Operand.const (Value.int IntKind.i64 1)) 3, type := 3, pos := "law.go:194", after := #[{ on := 1, ground := Ground.data }, { on := 10, ground := Ground.gcOnly Departure.lateStores }], guard := none }) (v := ?vv3) rfl (by kernel_rfl) (by kernel_rfl) (by kernel_rfl) (fun _ _ _ h => h) (Or.inl ⟨by rfl, ?hy3⟩) hHeld ?rest3
          case hy3 => (intro wS hSw; (try dsimp only at hSw); go_simp; try with_reducible rfl)
          simp only [Act.put, List.setIfInBounds_toArray, List.set_cons_zero, List.set_cons_succ]
          refine wpAnyH_take (i := 3) (oi := { dst := some 61, op := Op.move (Operand.tmp 13), type := 32, pos := "law.go:194", after := #[], guard := none }) (v := ?vv4) rfl (by kernel_rfl) (by kernel_rfl) (by kernel_rfl) (fun _ _ _ h => h) (Or.inl ⟨by rfl, ?hy4⟩) hHeld ?rest4
          case hy4 => (intro wS hSw; (try dsimp only at hSw); go_simp; try with_reducible rfl)
          simp only [Act.put, List.setIfInBounds_toArray, List.set_cons_zero, List.set_cons_succ]
          refine wpAnyH_take (i := 4) (oi := { dst := some 62, op := Op.indexAddr 32 (Operand.tmp 61) (Operand.const (Value.int IntKind.i64 0)), type := 0, pos := "law.go:194", after := #[{ on := 3, ground := Ground.data }], guard := none }) (v := ?vv5) rfl (by kernel_rfl) (by kernel_rfl) (by kernel_rfl) (fun _ _ _ h => h) (Or.inl ⟨by rfl, ?hy5⟩) hHeld ?rest5
          case hy5 => (intro wS hSw; (try dsimp only at hSw); go_simp; try with_reducible rfl)
          simp only [Act.put, List.setIfInBounds_toArray, List.set_cons_zero, List.set_cons_succ]
          refine wpAnyH_take (i := 5) (oi := { dst := some 63, op := Op.load 5 (Operand.tmp 62), type := 5, pos := "law.go:194", after := #[{ on := 4, ground := Ground.data }], guard := none }) (v := ?vv6) rfl (by kernel_rfl) (by kernel_rfl) (by kernel_rfl) (fun _ _ _ h => h) (Or.inl ⟨by rfl, ?hy6⟩) hHeld ?rest6
          case hy6 => (intro wS hSw; (try dsimp only at hSw); go_simp; try with_reducible rfl)
          simp only [Act.put, List.setIfInBounds_toArray, List.set_cons_zero, List.set_cons_succ]
          refine wpAnyH_take (i := 6) (oi := { dst := some 64, op := Op.move (Operand.tmp 13), type := 32, pos := "law.go:194", after := #[], guard := none }) (v := ?vv7) rfl (by kernel_rfl) (by kernel_rfl) (by kernel_rfl) (fun _ _ _ h => h) (Or.inl ⟨by rfl, ?hy7⟩) hHeld ?rest7
          case hy7 => (intro wS hSw; (try dsimp only at hSw); go_simp; try with_reducible rfl)
          simp only [Act.put, List.setIfInBounds_toArray, List.set_cons_zero, List.set_cons_succ]
          refine wpAnyH_take (i := 7) (oi := { dst := some 65, op := Op.indexAddr 32 (Operand.tmp 64) (Operand.const (Value.int IntKind.i64 1)), type := 0, pos := "law.go:194", after := #[{ on := 6, ground := Ground.data }], guard := none }) (v := ?vv8) rfl (by kernel_rfl) (by kernel_rfl) (by kernel_rfl) (fun _ _ _ h => h) (Or.inl ⟨by rfl, ?hy8⟩) hHeld ?rest8
          case hy8 => (intro wS hSw; (try dsimp only at hSw); go_simp; try with_reducible rfl)
          simp only [Act.put, List.setIfInBounds_toArray, List.set_cons_zero, List.set_cons_succ]
          refine wpAnyH_take (i := 8) (oi := { dst := some 66, op := Op.load 5 (Operand.tmp 65), type := 5, pos := "law.go:194", after := #[{ on := 7, ground := Ground.data }], guard := none }) (v := ?vv9) rfl (by kernel_rfl) (by kernel_rfl) (by kernel_rfl) (fun _ _ _ h => h) (Or.inl ⟨by rfl, ?hy9⟩) hHeld ?rest9
          case hy9 => (intro wS hSw; (try dsimp only at hSw); go_simp; try with_reducible rfl)
          simp only [Act.put, List.setIfInBounds_toArray, List.set_cons_zero, List.set_cons_succ]
          refine wpAnyH_take (i := 9) (oi := { dst := some 67, op := Op.indexAddr 49 (Operand.tmp 9) (Operand.tmp 58), type := 0, pos := "law.go:194", after := #[{ on := 0, ground := Ground.data }, { on := 0, ground := Ground.phase }, { on := 1, ground := Ground.textOnly Departure.lateStores }, { on := 2, ground := Ground.textOnly Departure.lateStores }, { on := 3, ground := Ground.phase }, { on := 4, ground := Ground.phase }, { on := 5, ground := Ground.phase }, { on := 6, ground := Ground.textOnly Departure.lateStores }, { on := 7, ground := Ground.textOnly Departure.lateStoresUnsure }, { on := 8, ground := Ground.phase }], guard := none }) (v := ?vv10) rfl (by kernel_rfl) (by kernel_rfl) (by kernel_rfl) (fun _ _ _ h => h) (Or.inl ⟨by rfl, ?hy10⟩) hHeld ?rest10
          case hy10 => (intro wS hSw; (try dsimp only at hSw); go_simp; try with_reducible rfl)
          simp only [Act.put, List.setIfInBounds_toArray, List.set_cons_zero, List.set_cons_succ]
          refine wpAnyH_ready (rs := [10]) (by kernel_rfl) (by simp) ?_
          refine AllReadyH.cons (o := { dst := none, op := Op.store 5 (Operand.tmp 67) (Operand.tmp 63), type := 0, pos := "law.go:194", after := #[{ on := 9, ground := Ground.data }, { on := 5, ground := Ground.data }, { on := 0, ground := Ground.phase }, { on := 1, ground := Ground.textOnly Departure.lateStores }, { on := 2, ground := Ground.textOnly Departure.lateStores }, { on := 3, ground := Ground.phase }, { on := 4, ground := Ground.phase }, { on := 5, ground := Ground.phase }, { on := 6, ground := Ground.textOnly Departure.lateStores }, { on := 7, ground := Ground.textOnly Departure.lateStoresUnsure }, { on := 8, ground := Ground.phase }], guard := none }) rfl (fun K hK => ?_) AllReadyH.nil
          obtain ⟨⟨oA, cA⟩, fA⟩ := Arr.cell (i := a) (show Arr wq.drew M bs from HM.out) (by rw [BL.out]; exact l1)
          go_simp
          clear cA fA
          have HM1 := Lib.hid (show Arr (wq.setCell ⟨M, a, none⟩ (.int .u8 (y0 : Int))).drew M (bs.set a y0) from Arr.set (i := a) (x := y0) (show Arr wq M bs from HM.out))
          have HN1 := Lib.hid (show (wq.setCell ⟨M, a, none⟩ (.int .u8 (y0 : Int))).drew.heap[wr.heap.size + 1]? = some (Obj.cells (Y [y0, y1]).toArray 5) from (Below.heap_setCell _ _ _ _ BE.out).trans HNB.out)
          clear hHeld
          refine hK.out _ _ (KS.out _ HN1.out) (fun hHeld => ?_)
          clear hK K
          try simp only [Act.put, List.setIfInBounds_toArray, List.set_cons_zero, List.set_cons_succ]
          refine wpAnyH_take (i := 11) (oi := { dst := some 68, op := Op.indexAddr 49 (Operand.tmp 9) (Operand.tmp 60), type := 0, pos := "law.go:194", after := #[{ on := 2, ground := Ground.data }, { on := 0, ground := Ground.phase }, { on := 1, ground := Ground.phase }, { on := 2, ground := Ground.phase }, { on := 3, ground := Ground.phase }, { on := 4, ground := Ground.phase }, { on := 5, ground := Ground.phase }, { on := 6, ground := Ground.phase }, { on := 7, ground := Ground.phase }, { on := 8, ground := Ground.phase }, { on := 9, ground := Ground.phase }, { on := 10, ground := Ground.phase }], guard := none }) (v := ?vv11) rfl (by kernel_rfl) (by kernel_rfl) (by kernel_rfl) (fun _ _ _ h => h) (Or.inl ⟨by rfl, ?hy11⟩) hHeld ?rest11
          case hy11 => (intro wS hSw; (try dsimp only at hSw); go_simp; try with_reducible rfl)
          simp only [Act.put, List.setIfInBounds_toArray, List.set_cons_zero, List.set_cons_succ]
          refine wpAnyH_ready (rs := [12]) (by kernel_rfl) (by simp) ?_
          refine AllReadyH.cons (o := { dst := none, op := Op.store 5 (Operand.tmp 68) (Operand.tmp 66), type := 0, pos := "law.go:194", after := #[{ on := 11, ground := Ground.data }, { on := 8, ground := Ground.data }, { on := 10, ground := Ground.chain }, { on := 0, ground := Ground.phase }, { on := 1, ground := Ground.phase }, { on := 2, ground := Ground.phase }, { on := 3, ground := Ground.phase }, { on := 4, ground := Ground.phase }, { on := 5, ground := Ground.phase }, { on := 6, ground := Ground.phase }, { on := 7, ground := Ground.phase }, { on := 8, ground := Ground.phase }, { on := 9, ground := Ground.phase }, { on := 10, ground := Ground.phase }], guard := none }) rfl (fun K hK => ?_) AllReadyH.nil
          obtain ⟨⟨oA, cA⟩, fA⟩ := Arr.cell (i := a1) HM1.out (by rw [List.length_set, BL.out]; exact l2)
          go_simp
          clear cA fA
          have HN2 := Lib.hid (show ((wq.setCell ⟨M, a, none⟩ (.int .u8 (y0 : Int))).setCell ⟨M, a1, none⟩ (.int .u8 (y1 : Int))).drew.heap[wr.heap.size + 1]? = some (Obj.cells (Y [y0, y1]).toArray 5) from (Below.heap_setCell _ _ _ _ BE.out).trans HN1.out)
          clear hHeld
          refine hK.out _ _ (KS.out _ HN2.out) (fun hHeld => ?_)
          clear hK K
          try simp only [Act.put, List.setIfInBounds_toArray, List.set_cons_zero, List.set_cons_succ]
          refine wpAnyH_done (by kernel_rfl) ?_ _
          have HI := Lib.hid (show St w [M] R [1, 0] [Fr.lay bs a [y0, y1], d1] ((wq.setCell ⟨M, a, none⟩ (.int .u8 (y0 : Int))).setCell ⟨M, a1, none⟩ (.int .u8 (y1 : Int))).drew ∧ Arr ((wq.setCell ⟨M, a, none⟩ (.int .u8 (y0 : Int))).setCell ⟨M, a1, none⟩ (.int .u8 (y1 : Int))).drew M (Fr.lay bs a [y0, y1]) from ⟨((hcall.out.set M a _ (by simp) MW.out).set M a1 _ (by simp) MW.out).drew.less (by simp), by
            have := Arr.set (i := a1) (x := y1) HM1.out
            rw [show (bs.set a y0).set a1 y1 = Fr.lay bs a [y0, y1] by rw [← HA1.out]; exact lay2 bs a y0 y1 (by rw [BL.out]; have := HA1.out; omega)] at this
            exact this⟩)
          clear HM1 HN1 HN2 KS BE HNB HM hcall l1 l2
          go_wp2_with fail
          go_roundg (n - (j + 1))
          case rel => exact ⟨j + 1, _, by have := HG.out; omega, rfl, by first | rfl | go_num, HI⟩
          case measure => have := HG.out; omega
        · have mf : Fr.may [1, 0] 1 ((v : Int) - 8) 2 = false := by unfold Fr.may; simp [Fr.own]; omega
          have W1 := Lib.hid (ZW.out false [bs, d1] mf (by
            unfold Fr.put; rw [show (([y0, y1] : List Nat).length : Int) = 2 from rfl, mf, if_neg (by simp)]))
          have r3 : ¬ (v : Int) - 8 ≤ 62 := by omega
          have r4 : (0 : Int) ≤ (v : Int) - 8 := by omega
          clear ZW mf
          go_wp2_with fail
          rw [HZ.out]
          refine W1.out.mono ?_; rintro e wq ⟨rfl, h1, sm⟩
          have HI := Lib.hid (show St w [M] R [1, 0] [bs, d1] wq ∧ Arr wq M bs from ⟨h1.less (by simp), ZM.out.same sm (by simp)⟩)
          clear h1 sm W1 ZM ZN ZB ZR HZ
          go_wp2_with fail
          go_roundg (n - (j + 1))
          case rel => exact ⟨j + 1, _, by have := HG.out; omega, rfl, by first | rfl | go_num, HI⟩
          case measure => have := HG.out; omega
    · obtain rfl : j = n := by omega
      have HL := Lib.hid (show bs.length = 64 from (hI.out.1.len.2.2.2.2.2 0 (by simp) (by simp)))
      obtain ⟨t, u, o, e1, e2, e3, o64⟩ := off64 off
      obtain ⟨t', u', q, f1, f2, f3, q64⟩ := off64 k
      have RD := Lib.hid (fun (t : Bool) bs' (ht : Fr.may [1, 0] 1 o q = t) (hb : (if t = true then Fr.get [bs, d1] 1 o q else []) = bs') => read_st 1 o q hI.out.1 (by omega) (by omega) (by omega) (by omega) (by omega) (by omega) t ht bs' hb)
      by_cases hq : o + q ≤ 64
      · have hq' : ¬ (64 - (o : Int) < q) := by omega
        have R1 := Lib.hid (RD.out true ((bs.drop o).take q) (by unfold Fr.may; simp [Fr.own]; omega) (by rw [if_pos rfl]; rfl))
        have XL : ((bs.drop o).take q).length = q := by rw [List.length_take, List.length_drop, HL.out]; omega
        rw [XL] at R1
        have XL := Lib.hid XL
        clear RD
        go_wp2_with fail
        refine R1.out.mono ?_; rintro e wq ⟨A', c', rfl, hbr, h1, sm, _⟩
        have HM := Lib.hid (hI.out.2.same sm (by simp))
        have BE := Lib.hid h1.b
        clear h1 sm R1
        obtain ⟨s, hs⟩ : ∃ s, Str ((bs.drop o).take q) = s := ⟨_, rfl⟩
        have cv1 := conv_bytes wq.drew A' q c' _ XL.out hbr
        have cv2 := conv_bytes wq.drew (some ⟨M, o, none⟩) q (64 - o) _ XL.out (Arr.part (show Arr wq.drew M bs from HM.out) o q)
        rw [hs] at cv1 cv2
        have CV := Lib.hid (And.intro cv1 cv2)
        obtain ⟨z, hz⟩ : ∃ z : Nat, (o : Int) + (q : Int) = (z : Int) := ⟨o + q, by omega⟩
        have z64 : z ≤ 64 := by omega
        have oz : o ≤ z := by omega
        have zq : z - o = q := by omega
        have zw : IntKind.i64.wrap (z : Int) = (z : Int) := by simp [IntKind.wrap, IntKind.bits, IntKind.signed]; omega
        have oz' : (o : Int) ≤ (z : Int) := by omega
        have z64' : (z : Int) ≤ 64 := by omega
        have om : ¬ 64 = o := by omega
        have HI := Lib.hid hI.out.2
        clear cv1 cv2 hbr hI HM XL hs
        go_upto_region 23 with fail
        refine wp_region_held_drew (S := fun w' => (convert 32 9 (.slice A' q c')).run Try.prog w' = .ok (.string s) w' ∧ (convert 32 9 (.slice (some ⟨M, o, none⟩) q (64 - o))).run Try.prog w' = .ok (.string s) w') (by kernel_rfl) (CV.out) (fun hHeld => ?_)
        refine wpAnyH_take (i := 0) (oi := { dst := some 90, op := Op.move (Operand.tmp 15), type := 32, pos := "law.go:202", after := #[], guard := none }) (v := ?vv12) rfl (by kernel_rfl) (by kernel_rfl) (by kernel_rfl) (fun _ _ _ h => h) (Or.inl ⟨by rfl, ?hy12⟩) hHeld ?rest12
        case hy12 => (intro wS hSw; (try dsimp only at hSw); go_simp; try with_reducible rfl)
        simp only [Act.put, List.setIfInBounds_toArray, List.set_cons_zero, List.set_cons_succ]
        refine wpAnyH_take (i := 1) (oi := { dst := some 91, op := Op.convert 32 9 (Operand.tmp 90), type := 9, pos := "law.go:202", after := #[{ on := 0, ground := Ground.data }], guard := none }) (v := ?vv13) rfl (by kernel_rfl) (by kernel_rfl) (by kernel_rfl) (fun _ _ _ h => h) (Or.inl ⟨by rfl, ?hy13⟩) hHeld ?rest13
        case hy13 => (intro wS hSw; (try dsimp only at hSw); go_simp; try with_reducible rfl)
        simp only [Act.put, List.setIfInBounds_toArray, List.set_cons_zero, List.set_cons_succ]
        refine wpAnyH_take (i := 2) (oi := { dst := some 92, op := Op.move (Operand.tmp 1), type := 3, pos := "law.go:202", after := #[], guard := none }) (v := ?vv14) rfl (by kernel_rfl) (by kernel_rfl) (by kernel_rfl) (fun _ _ _ h => h) (Or.inl ⟨by rfl, ?hy14⟩) hHeld ?rest14
        case hy14 => (intro wS hSw; (try dsimp only at hSw); go_simp; try with_reducible rfl)
        simp only [Act.put, List.setIfInBounds_toArray, List.set_cons_zero, List.set_cons_succ]
        refine wpAnyH_take (i := 3) (oi := { dst := some 93, op := Op.move (Operand.tmp 1), type := 3, pos := "law.go:202", after := #[], guard := none }) (v := ?vv15) rfl (by kernel_rfl) (by kernel_rfl) (by kernel_rfl) (fun _ _ _ h => h) (Or.inl ⟨by rfl, ?hy15⟩) hHeld ?rest15
        case hy15 => (intro wS hSw; (try dsimp only at hSw); go_simp; try with_reducible rfl)
        simp only [Act.put, List.setIfInBounds_toArray, List.set_cons_zero, List.set_cons_succ]
        refine wpAnyH_take (i := 4) (oi := { dst := some 94, op := Op.move (Operand.tmp 2), type := 3, pos := "law.go:202", after := #[], guard := none }) (v := ?vv16) rfl (by kernel_rfl) (by kernel_rfl) (by kernel_rfl) (fun _ _ _ h => h) (Or.inl ⟨by rfl, ?hy16⟩) hHeld ?rest16
        case hy16 => (intro wS hSw; (try dsimp only at hSw); go_simp; try with_reducible rfl)
        simp only [Act.put, List.setIfInBounds_toArray, List.set_cons_zero, List.set_cons_succ]
        refine wpAnyH_take (i := 5) (oi := { dst := some 95, op := Op.binOp BinOp.add 3 (Operand.tmp 93) (Operand.tmp 94) 3, type := 3, pos := "law.go:202", after := #[{ on := 3, ground := Ground.data }, { on := 4, ground := Ground.data }], guard := none }) (v := ?vv17) rfl (by kernel_rfl) (by kernel_rfl) (by kernel_rfl) (fun _ _ _ h => h) (Or.inl ⟨by rfl, ?hy17⟩) hHeld ?rest17
        case hy17 => (intro wS hSw; (try dsimp only at hSw); go_simp; try with_reducible rfl)
        simp only [Act.put, List.setIfInBounds_toArray, List.set_cons_zero, List.set_cons_succ]
        refine wpAnyH_take (i := 6) (oi := { dst := some 96, op := Op.slice 49 (Operand.tmp 9) (some (Operand.tmp 92)) (some (Operand.tmp 95)) none, type := 32, pos := "law.go:202", after := #[{ on := 2, ground := Ground.data }, { on := 5, ground := Ground.data }], guard := none }) (v := ?vv18) rfl (by kernel_rfl) (by kernel_rfl) (by kernel_rfl) (fun _ _ _ h => h) (Or.inl ⟨by rfl, ?hy18⟩) hHeld ?rest18
        case hy18 => (intro wS hSw; (try dsimp only at hSw); go_simp; try with_reducible rfl)
        simp only [Act.put, List.setIfInBounds_toArray, List.set_cons_zero, List.set_cons_succ]
        refine wpAnyH_take (i := 7) (oi := { dst := some 97, op := Op.convert 32 9 (Operand.tmp 96), type := 9, pos := "law.go:202", after := #[{ on := 6, ground := Ground.data }], guard := none }) (v := ?vv19) rfl (by kernel_rfl) (by kernel_rfl) (by kernel_rfl) (fun _ _ _ h => h) (Or.inl ⟨by rfl, ?hy19⟩) hHeld ?rest19
        case hy19 => (intro wS hSw; (try dsimp only at hSw); go_simp; try with_reducible rfl)
        simp only [Act.put, List.setIfInBounds_toArray, List.set_cons_zero, List.set_cons_succ]
        refine wpAnyH_take (i := 8) (oi := { dst := some 98, op := Op.binOp BinOp.eql 9 (Operand.tmp 91) (Operand.tmp 97) 9, type := 4, pos := "law.go:202", after := #[{ on := 1, ground := Ground.data }, { on := 7, ground := Ground.data }], guard := none }) (v := ?vv20) rfl (by kernel_rfl) (by kernel_rfl) (by kernel_rfl) (fun _ _ _ h => h) (Or.inl ⟨by rfl, ?hy20⟩) hHeld ?rest20
        case hy20 => (intro wS hSw; (try dsimp only at hSw); go_simp; try with_reducible rfl)
        simp only [Act.put, List.setIfInBounds_toArray, List.set_cons_zero, List.set_cons_succ]
        refine wpAnyH_take (i := 9) (oi := { dst := some 6, op := Op.assign (Operand.tmp 98), type := 4, pos := "law.go:202", after := #[{ on := 8, ground := Ground.data }, { on := 0, ground := Ground.phase }, { on := 1, ground := Ground.phase }, { on := 2, ground := Ground.phase }, { on := 3, ground := Ground.phase }, { on := 4, ground := Ground.phase }, { on := 5, ground := Ground.phase }, { on := 6, ground := Ground.phase }, { on := 7, ground := Ground.phase }, { on := 8, ground := Ground.phase }], guard := none }) (v := ?vv21) rfl (by kernel_rfl) (by kernel_rfl) (by kernel_rfl) (fun _ _ _ h => h) (Or.inl ⟨by rfl, ?hy21⟩) hHeld ?rest21
        case hy21 => (intro wS hSw; (try dsimp only at hSw); go_simp; try with_reducible rfl)
        simp only [Act.put, List.setIfInBounds_toArray, List.set_cons_zero, List.set_cons_succ]
        refine wpAnyH_done (by kernel_rfl) ?_ _
        go_wp2_with fail
        go_ret
        exact ⟨rfl, BE.out.drew⟩
      · have hq' : (64 - (o : Int) < q) := by omega
        have R1 := Lib.hid (RD.out false [] (by unfold Fr.may; simp [Fr.own]; omega) rfl)
        clear RD
        go_wp2_with fail
        refine R1.out.mono ?_; rintro e wq ⟨A', c', rfl, hbr, h1, sm, _⟩
        have BE := Lib.hid h1.b
        clear h1 sm R1 hbr
        go_wp2_with fail
        go_ret
        exact ⟨rfl, BE.out⟩
theorem bytes_many (A : Option Addr) (n c : Nat) (off k : Int) (w : World) (hm : 100 < n) :
    Calls Try.prog 7 #[.slice A n c, .int .i64 off, .int .i64 k] w fun e w' => e = .returned (.bool true) ∧ Below w.heap.size w w' := by
  have B := Lib.hid fit_any
  have h100 : (100 : Int) < n := by omega
  go_enter Try.func7, Try.ntmps7
  go_wp2_with fail
  refine (B.out _).mono ?_; rintro e w1 ⟨rfl, g1⟩
  go_wp2_with fail
  go_ret
  exact ⟨rfl, g1⟩
end Go.Proofs.Ytnhfjipakhgjcaa
