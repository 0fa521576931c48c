import Derived.Test.YtlohilpeidmemaaDoorAd
import Derived.Laws.BytesArg
import Derived.WideShapes
namespace Go.Proofs.YtlohilpeidmemaaDoor
open Go.RowKit
set_option linter.unusedVariables false
set_option linter.unusedSimpArgs false


theorem kept_new {w w1 : World} {cs : Array Value} {t : TypeId} (hb : Below (w.alloc (.cells cs t)).heap.size (w.alloc (.cells cs t)) w1) (i : Nat) : w1.cell? ⟨w.heap.size, i, none⟩ = cs[i]? := by
  rw [hb.cell (p := ⟨w.heap.size, i, none⟩) (by show w.heap.size < (w.heap.push _).size; simp), World.cell?_alloc_at _ _ _ _ rfl]
theorem below_new {w w1 : World} {o : Obj} (hb : Below (w.alloc o).heap.size (w.alloc o) w1) : Below w.heap.size w w1 :=
  (Below.alloc (Below.refl w.heap.size w) (Nat.le_refl _) o).trans (hb.mono (by show w.heap.size ≤ (w.heap.push _).size; simp))
theorem S_full {l : List UInt8} (h : l ≠ []) : ¬ (S l).toList = [] := by
  rw [ByteArray.toList_eq]
  show ¬ (S l).data.toList = []
  rw [S_data]
  exact h
set_option maxHeartbeats 1000000 in
theorem lright_any (o a b c m : Int) (w : World) : Calls Tryd.prog 10 #[.agg #[.int .i64 o, .int .i64 a, .int .i64 b, .int .i64 c, .int .i32 m]] w fun e w' => e = .returned (.bool (decide (Isa.Right o a b c))) ∧ Below w.heap.size w w' := by
  have C := Lib.hid (fun (W : World) => name_any o W)
  by_cases ho : 1 ≤ o ∧ o ≤ 43
  · have hn := S_full (Isa.nm_full ho.1 ho.2)
    have HO := Lib.hid ho
    have HE := Lib.hid (show (S (Isa.nm o)).toList.isEmpty = false from by
      cases h : (S (Isa.nm o)).toList with
      | nil => exact absurd h hn
      | cons _ _ => rfl)
    clear ho
    go_enter Tryd.func10, Tryd.ntmps10
    go_wp2_with fail
    refine (C.out _).mono ?_
    rintro e w1 ⟨rfl, hb⟩
    have HB := Lib.hid hb
    have k1 : w1.cell? ⟨w.heap.size, 1, none⟩ = some (.int .i64 a) := kept_new hb 1
    have k2 : w1.cell? ⟨w.heap.size, 2, none⟩ = some (.int .i64 b) := kept_new hb 2
    have k3 : w1.cell? ⟨w.heap.size, 3, none⟩ = some (.int .i64 c) := kept_new hb 3
    clear hb C
    go_wp2_with fail
    all_goals
      go_ret
      exact ⟨ret_bool (by have h0 := HO.out; unfold Isa.Right; try simp only [HE.out, Bool.not_false, Bool.true_and, Bool.false_eq_true, true_iff, false_iff, decide_eq_true_iff, eq_self_iff_true]; omega), below_new HB.out⟩
  · have e0 := Isa.nm_none ho
    rw [e0] at C
    have HO := Lib.hid ho
    clear ho e0
    go_enter Tryd.func10, Tryd.ntmps10
    go_wp2_with fail
    refine (C.out _).mono ?_
    rintro e w1 ⟨rfl, hb⟩
    have HB := Lib.hid hb
    have hn : (S []).toList = [] := by rw [ByteArray.toList_eq]; rfl
    clear hb C
    go_wp2_with fail
    go_ret
    exact ⟨ret_bool (by have h0 := HO.out; unfold Isa.Right; simp only [Bool.false_eq_true, false_iff]; omega), below_new HB.out⟩
/-- Bytes that are read at A. -/
def BR (w : World) (A : Option Addr) (bs : List Nat) : Prop := ∀ (i x : Nat), bs[i]? = some x → ∃ b off, A = some ⟨b, off, none⟩ ∧ b < w.heap.size ∧ w.cell? ⟨b, off + i, none⟩ = some (.int .u8 (x : Int))
theorem BR.below {w w' : World} {A : Option Addr} {bs : List Nat} (h : BR w A bs) (hb : Below w.heap.size w w') : BR w' A bs := fun i x hi => by
  obtain ⟨b, off, h1, h2, h3⟩ := h i x hi
  exact ⟨b, off, h1, Nat.lt_of_lt_of_le h2 hb.size, by rw [hb.cell (p := ⟨b, _, none⟩) h2]; exact h3⟩
def U (bs : List Nat) : List UInt8 := bs.map UInt8.ofNat
theorem str_U (bs : List Nat) : strOfNums (bs.map fun (x : Nat) => (x : Int)) = S (U bs) := by
  have e : (strOfNums (bs.map fun (x : Nat) => (x : Int))).data.toList = (S (U bs)).data.toList := by
    rw [strOfNums_data, S_data, List.map_map]
    unfold U
    refine List.map_congr_left fun x _ => ?_
    simp [Function.comp, Nat.toUInt8]
  exact Go.WideShapes.bytes_inj e
theorem conv_bytes (w : World) (A : Option Addr) (n c : Nat) (bs : List Nat) (hn : bs.length = n) (hr : BR w A bs) : (convert 27 9 (.slice A n c)).run Tryd.prog w = .ok (.string (S (U bs))) w := by
  subst hn
  cases bs with
  | nil =>
    rw [run_convert_bytes_string w 27 9 5 _ _ c Tryd.underlying27 Tryd.underlying5 Tryd.underlying9]
    cases A <;> simp [Conv.bytesToString, loadCells]
    all_goals rfl
  | cons x r =>
    obtain ⟨b, off, rfl, hb, _⟩ := hr 0 x rfl
    rw [← str_U]
    refine run_convert_bytes_arg w 27 5 Tryd.underlying27 Tryd.underlying5 b off _ c _ (by simp) (fun i hi => ?_) 9 Tryd.underlying9
    obtain ⟨b', off', e, _, hc⟩ := hr i ((x :: r)[i]) (List.getElem?_eq_getElem hi)
    injection e with e
    injection e with e1 e2
    subst e1 e2
    rw [hc]
    congr 2
    rw [List.getD_eq_getElem?_getD, List.getElem?_map, List.getElem?_eq_getElem hi]
    rfl
theorem digits_small (n : Nat) (hn : n < 10) (w : World) : Calls Tryd.prog 16 #[.int .i64 n] w fun e w' => e = .returned (.string (S (Lib.itoa n))) ∧ Below w.heap.size w w' := by
  have e := conv_bytes (w.alloc (Obj.cells #[.int .u8 (48 + (n : Int))] 5)) (some ⟨w.heap.size, 0, none⟩) 1 1 [48 + n] rfl (fun i x hi => by
    refine ⟨w.heap.size, 0, rfl, by show w.heap.size < (w.heap.push _).size; simp, ?_⟩
    rw [World.cell?_alloc_at _ _ _ _ rfl]
    cases i with
    | zero =>
      simp only [List.getElem?_cons_zero, Option.some.injEq] at hi
      subst hi
      simp
    | succ i => simp at hi)
  have e1 : S (U [48 + n]) = S (Lib.itoa n) := by rw [Lib.itoa_nonneg, Lib.decDigits_one hn]; rfl
  rw [e1] at e
  have HB := Lib.hid (Below.alloc (Below.refl w.heap.size w) (Nat.le_refl _) (Obj.cells #[.int .u8 (48 + (n : Int))] 5))
  clear e1
  go_enter Tryd.func16, Tryd.ntmps16
  go_wp2_with fail
  go_ret
  exact ⟨rfl, HB.out⟩
theorem add_big (l m : List UInt8) (h : l.length ≤ 100000 ∧ m.length ≤ 100000) (w : World) : (Op.stringOp .add (S l) (S m)).run Tryd.prog w = .ok (.string (S (l ++ m))) w := add_c l m (by omega) w
theorem itoa_len (n : Nat) (h : n ≤ 9223372036854775807) : (Lib.itoa n).length ≤ 21 := Lib.itoa_length_le n (by omega) (by omega)
set_option maxHeartbeats 1000000 in
theorem digits_nat (n : Nat) (h : n ≤ 9223372036854775807) : ∀ (w : World), Calls Tryd.prog 16 #[.int .i64 n] w fun e w' => e = .returned (.string (S (Lib.itoa n))) ∧ Below w.heap.size w w' := by
  induction n using Nat.strongRecOn with
  | _ n ih =>
    intro w
    by_cases hn : n < 10
    · exact digits_small n hn w
    · have l1 := itoa_len (n / 10) (by omega)
      have l2 := itoa_len (n % 10) (by omega)
      have C1 := Lib.hid (ih (n / 10) (by omega) (by omega))
      have C2 := Lib.hid (ih (n % 10) (by omega) (by omega))
      have A1 : ∀ w, (Op.stringOp .add (S (Lib.itoa ((n / 10 : Nat) : Int))) (S (Lib.itoa ((n % 10 : Nat) : Int)))).run Tryd.prog w = .ok (.string (S (Lib.itoa n))) w := by
        have e : Lib.itoa (n : Int) = Lib.itoa ((n / 10 : Nat) : Int) ++ Lib.itoa ((n % 10 : Nat) : Int) := by
          rw [Lib.itoa_nonneg, Lib.itoa_nonneg, Lib.itoa_nonneg, Isa.decDigits_big hn, Lib.decDigits_one (i := n % 10) (by omega)]
        intro w
        rw [e]
        exact add_big (Lib.itoa ((n / 10 : Nat) : Int)) (Lib.itoa ((n % 10 : Nat) : Int)) ⟨Nat.le_trans l1 (by omega), Nat.le_trans l2 (by omega)⟩ w
      have q1 : (n : Int) / 10 = ((n / 10 : Nat) : Int) := by omega
      have q2 : (n : Int) % 10 = ((n % 10 : Nat) : Int) := by omega
      obtain ⟨q, eq⟩ : ∃ q, n / 10 = q := ⟨_, rfl⟩
      obtain ⟨r, er⟩ : ∃ r, n % 10 = r := ⟨_, rfl⟩
      rw [eq] at q1 C1 A1
      rw [er] at q2 C2 A1
      have q3 : (n : Int).tdiv 10 = q := by rw [← q1, Int.tdiv_eq_ediv_of_nonneg (by omega)]
      have q4 : (n : Int).tmod 10 = r := by rw [← q2, Int.tmod_eq_emod_of_nonneg (by omega)]
      have w1 : wrap64 (q : Int) = q := by unfold wrap64; omega
      have w2 : wrap64 (r : Int) = r := by unfold wrap64; omega
      have t1 : ¬ ((n : Int) < 0) := by omega
      have t2 : ¬ ((n : Int) < 10) := by omega
      clear ih l1 l2 eq er h hn
      go_enter Tryd.func16, Tryd.ntmps16
      go_wp2_with fail
      refine (C1.out _).mono ?_
      rintro e w1 ⟨rfl, hb⟩
      have HB := Lib.hid hb
      clear hb
      go_wp2_with fail
      refine (C2.out _).mono ?_
      rintro e w2 ⟨rfl, hb⟩
      have HB2 := Lib.hid (HB.out.trans (hb.mono HB.out.size))
      clear hb
      go_wp2_with fail
      go_ret
      exact ⟨rfl, HB2.out⟩
end Go.Proofs.YtlohilpeidmemaaDoor
