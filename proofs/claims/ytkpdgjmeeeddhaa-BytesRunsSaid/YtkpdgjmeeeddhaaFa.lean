/- What a pool of frames is in memory; its calls that turn nothing. -/
import Derived.Test.YtkpdgjmeeeddhaaGa
namespace Fr
/-- The least free frame's place; how many there are. -/
def least (os : List Nat) : Option Nat := os.findIdx? (· == 0)
def own (os : List Nat) (f : Int) : Nat := if 1 ≤ f ∧ f ≤ os.length then os.getD (f.toNat - 1) 0 else 0
def zeros : List Nat := List.replicate 64 0
/-- Bytes laid over others. -/
def lay (l : List Nat) (off : Nat) (b : List Nat) : List Nat := l.take off ++ b ++ l.drop (off + b.length)
def alloc (os : List Nat) (o : Nat) : Nat × List Nat := if o = 0 then (0, os) else match least os with
  | some k => (k + 1, os.set k o)
  | none => (0, os)
def allocD (os : List Nat) (ds : List (List Nat)) (o : Nat) : List (List Nat) := if o = 0 then ds else match least os with
  | some k => ds.set k zeros
  | none => ds
def free (os : List Nat) (f : Int) : List Nat := if 1 ≤ f ∧ f ≤ os.length then os.set (f.toNat - 1) 0 else os
def may (os : List Nat) (f off n : Int) : Bool := decide (own os f ≠ 0 ∧ 0 ≤ off ∧ 0 ≤ n ∧ off + n ≤ 64)
def put (os : List Nat) (ds : List (List Nat)) (f off : Int) (b : List Nat) : List (List Nat) :=
  if may os f off b.length = true then ds.set (f.toNat - 1) (lay (ds.getD (f.toNat - 1) []) off.toNat b) else ds
def get (ds : List (List Nat)) (f off n : Int) : List Nat := ((ds.getD (f.toNat - 1) []).drop off.toNat).take n.toNat
theorem take_count (os : List Nat) (o k : Nat) (h : k < os.length) : (os.take (k + 1)).count o = (os.take k).count o + if os[k] = o then 1 else 0 := by
  rw [List.take_succ_eq_append_getElem h, List.count_append]
  simp [List.count_cons]
theorem count_all (os : List Nat) (o k : Nat) (h : os.length ≤ k) : (os.take k).count o = os.count o := by rw [List.take_of_length_le h]
end Fr
namespace Go.Proofs.Ytkpdgjmeeeddhaa
open Go.RowKit
set_option linter.unusedVariables false
set_option linter.unusedSimpArgs false

/-- Frames, cell by cell: 65 each, the owner's ahead of the bytes'. -/
def Fs (os : List Nat) (ds : List (List Nat)) (cs : List Value) : Prop :=
  cs.length = 65 * os.length ∧ ds.length = os.length ∧ (∀ i o : Nat, os[i]? = some o → o < 18446744073709551616 ∧ cs[i * 65]? = some (.int .u64 (o : Int))) ∧
  ∀ i d, ds[i]? = some d → d.length = 64 ∧ (∀ x ∈ d, x < 256) ∧ ∀ j x, d[j]? = some x → cs[i * 65 + 1 + j]? = some (.int .u8 (x : Int))
/-- A pool in memory: its block, the blocks it has, its owners, its frames' bytes. -/
def Pl (w : World) (R : Nat) (S : List Nat) (os : List Nat) (ds : List (List Nat)) : Prop :=
  ∃ B cs, S = [R, B] ∧ w.heap[R]? = some (Obj.cells #[.slice (some ⟨B, 0, none⟩) os.length os.length] 56) ∧ w.heap[B]? = some (Obj.cells cs.toArray 68) ∧ 1 ≤ os.length ∧ os.length ≤ 4096 ∧ Fs os ds cs
theorem Pl.keep {w w' : World} {R : Nat} {S os : List Nat} {ds : List (List Nat)} (h : Pl w R S os ds) (hk : ∀ b ∈ S, w'.heap[b]? = w.heap[b]?) : Pl w' R S os ds := by
  obtain ⟨B, cs, rfl, h1, h2, h3⟩ := h
  exact ⟨B, cs, rfl, by rw [hk R (by simp)]; exact h1, by rw [hk B (by simp)]; exact h2, h3⟩
theorem Pl.lt {w : World} {R : Nat} {S os : List Nat} {ds : List (List Nat)} (h : Pl w R S os ds) : ∀ b ∈ S, b < w.heap.size := by
  obtain ⟨B, cs, rfl, h1, h2, h3⟩ := h
  intro b hb
  rcases List.mem_cons.1 hb with rfl | hb
  · exact (Array.getElem?_eq_some_iff.1 h1).1
  · obtain rfl := List.mem_singleton.1 hb
    exact (Array.getElem?_eq_some_iff.1 h2).1
/-- How many, whose, what. -/
theorem Pl.len {w : World} {R : Nat} {S os : List Nat} {ds : List (List Nat)} (h : Pl w R S os ds) : ds.length = os.length ∧ 1 ≤ os.length ∧ os.length ≤ 4096 ∧ (∀ o ∈ os, o < 18446744073709551616) ∧ (∀ d ∈ ds, ∀ x ∈ d, x < 256) ∧ ∀ i, i < os.length → os.getD i 0 ≠ 0 → (ds.getD i []).length = 64 := by
  obtain ⟨B, cs, rfl, h1, h2, h3, h4, f1, f2, f3, f4⟩ := h
  refine ⟨f2, h3, h4, fun o ho => ?_, fun d hd => ?_, fun i hi _ => ?_⟩
  · obtain ⟨i, hi⟩ := List.mem_iff_getElem?.1 ho
    exact (f3 i o hi).1
  · obtain ⟨i, hi⟩ := List.mem_iff_getElem?.1 hd
    exact (f4 i d hi).2.1
  · have e : ds[i]? = some (ds[i]'(by omega)) := List.getElem?_eq_getElem (by omega)
    rw [List.getD_eq_getElem?_getD, e]
    exact (f4 i _ e).1
theorem Pl.below {w w' : World} {R : Nat} {S os : List Nat} {ds : List (List Nat)} (h : Pl w R S os ds) (hb : Below w.heap.size w w') : Pl w' R S os ds := h.keep fun b hm => hb.block b (h.lt b hm)
/-- What is read of a pool. -/
theorem Pl.cells {w : World} {R : Nat} {S os : List Nat} {ds : List (List Nat)} (h : Pl w R S os ds) : ∃ B, w.cell? ⟨R, 0, none⟩ = some (.slice (some ⟨B, 0, none⟩) os.length os.length) ∧ w.frozen? ⟨R, 0, none⟩ = false ∧ (∀ j, w.frozen? ⟨B, j, none⟩ = false) ∧
    ∀ i o : Nat, os[i]? = some o → w.cell? ⟨B, i * 65, none⟩ = some (.int .u64 (o : Int)) := by
  obtain ⟨B, cs, rfl, h1, h2, h3, h4, f1, f2, f3, f4⟩ := h
  refine ⟨B, by rw [cell_of_row _ _ _ _ 56 (0, 0) h1]; rfl, frozen_of_row _ _ 0 _ 56 h1, fun j => frozen_of_row _ _ j _ 68 h2, fun i o hi => ?_⟩
  rw [cell_of_row _ _ _ _ 68 (0, 0) h2, List.getElem?_toArray]
  exact (f3 i o hi).2
theorem len_any {R : Nat} {S os : List Nat} {ds : List (List Nat)} (w : World) (h : Pl w R S os ds) : Calls Try.prog 29 #[.pointer (some ⟨R, 0, none⟩)] w fun e w' => e = .returned (.int .i64 (os.length : Nat)) ∧ w = w' := by
  obtain ⟨B, c0, c1, _⟩ := h.cells
  go_enter Try.func29, Try.ntmps29
  go_wp2_with fail
  go_ret
  exact ⟨rfl, rfl⟩
theorem len_nil (w : World) : Calls Try.prog 29 #[.pointer none] w fun e w' => e = .returned (.int .i64 0) ∧ w = w' := by
  go_enter Try.func29, Try.ntmps29
  go_wp2_with fail
  go_ret
  exact ⟨rfl, rfl⟩
set_option maxHeartbeats 1000000 in
theorem having_any {R : Nat} {S os : List Nat} {ds : List (List Nat)} (o : Nat) (w : World) (h : Pl w R S os ds) : Calls Try.prog 26 #[.pointer (some ⟨R, 0, none⟩), .int .u64 o] w fun e w' => e = .returned (.int .i64 (os.count o : Nat)) ∧ w = w' := by
  have C := Lib.hid (len_any w h)
  obtain ⟨B, c0, c1, c2, c3⟩ := h.cells
  obtain ⟨_, l1, l2, _⟩ := h.len
  obtain ⟨n, en⟩ : ∃ n, os.length = n := ⟨_, rfl⟩
  rw [en] at C c0 l1 l2
  have EN := Lib.hid en
  have C3 := Lib.hid c3
  clear h c3 en
  go_enter Try.func26, Try.ntmps26
  go_wp2_with fail
  refine C.out.mono ?_
  rintro e w1 ⟨rfl, rfl⟩
  go_wp2_with fail
  go_loop [5, 9] (fun c k => ∃ m : Nat, m ≤ n ∧ k = .int .i64 m ∧ c = .int .i64 ((os.take m).count o : Nat)) (fun _ k => n - (intOf k).toNat)
  case atStart => exact ⟨0, Nat.zero_le _, rfl, rfl⟩
  case round =>
    obtain ⟨k, hk, rfl, rfl⟩ := hrel
    by_cases hlt : k < n
    · obtain ⟨x, hx⟩ : ∃ x, os[k]? = some x := ⟨_, List.getElem?_eq_getElem (by rw [EN.out]; exact hlt)⟩
      have hcell := C3.out k x hx
      have hc := Fr.take_count os o k (by rw [EN.out]; exact hlt)
      have hcl : (os.take k).count o ≤ k := Nat.le_trans List.count_le_length (List.length_take_le _ _)
      have hx' : os[k]'(by rw [EN.out]; exact hlt) = x := by rw [List.getElem?_eq_getElem (by rw [EN.out]; exact hlt)] at hx; injection hx
      rw [hx'] at hc
      have HC := Lib.hid hc
      clear hc hx hx'
      obtain ⟨q, eq⟩ : ∃ q, (os.take k).count o = q := ⟨_, rfl⟩
      rw [eq] at hcl HC ⊢
      clear eq
      by_cases hxo : x = o
      · rw [if_pos hxo] at HC
        subst hxo
        go_wp2_with fail
        go_round
        case rel => exact ⟨k + 1, by omega, by go_num, by rw [HC.out]; go_num⟩
        case measure => simp [intOf]; omega
      · rw [if_neg hxo] at HC
        have t1 : ((x : Int) == (o : Int)) = false := by simpa using (by omega)
        go_wp2_with fail
        go_round
        case rel => exact ⟨k + 1, by omega, by go_num, by rw [HC.out, Nat.add_zero]⟩
        case measure => simp [intOf]; omega
    · have HQ := Lib.hid (Fr.count_all os o k (by rw [EN.out]; omega))
      obtain ⟨q, eq⟩ : ∃ q, (os.take k).count o = q := ⟨_, rfl⟩
      rw [eq] at HQ ⊢
      clear eq
      go_wp2_with fail
      go_ret
      exact ⟨congrArg (fun q : Nat => Ending.returned (.int .i64 (q : Int))) HQ.out, rfl⟩
theorem having_nil (o : Nat) (w : World) : Calls Try.prog 26 #[.pointer none, .int .u64 o] w fun e w' => e = .returned (.int .i64 0) ∧ w = w' := by
  have C := Lib.hid (len_nil w)
  go_enter Try.func26, Try.ntmps26
  go_wp2_with fail
  refine C.out.mono ?_
  rintro e w1 ⟨rfl, rfl⟩
  go_wp2_with fail
  go_loop [5, 9] (fun c k => k = .int .i64 0 ∧ c = .int .i64 0) (fun _ k => 0)
  case atStart => exact ⟨rfl, rfl⟩
  case round =>
    obtain ⟨rfl, rfl⟩ := hrel
    go_wp2_with fail
    go_ret
    exact ⟨rfl, rfl⟩
theorem left_any {R : Nat} {S os : List Nat} {ds : List (List Nat)} (w : World) (h : Pl w R S os ds) : Calls Try.prog 15 #[.pointer (some ⟨R, 0, none⟩)] w fun e w' => e = .returned (.int .i64 (os.count 0 : Nat)) ∧ w = w' := by
  have C := Lib.hid (having_any 0 w h)
  clear h
  go_enter Try.func15, Try.ntmps15
  go_wp2_with fail
  refine C.out.mono ?_
  rintro e w1 ⟨rfl, rfl⟩
  go_wp2_with fail
  go_ret
  exact ⟨rfl, rfl⟩
theorem left_nil (w : World) : Calls Try.prog 15 #[.pointer none] w fun e w' => e = .returned (.int .i64 0) ∧ w = w' := by
  have C := Lib.hid (having_nil 0 w)
  go_enter Try.func15, Try.ntmps15
  go_wp2_with fail
  refine C.out.mono ?_
  rintro e w1 ⟨rfl, rfl⟩
  go_wp2_with fail
  go_ret
  exact ⟨rfl, rfl⟩
theorem count_any {R : Nat} {S os : List Nat} {ds : List (List Nat)} (o : Nat) (w : World) (h : Pl w R S os ds) : Calls Try.prog 14 #[.pointer (some ⟨R, 0, none⟩), .int .u64 o] w fun e w' => e = .returned (.int .i64 ((if o = 0 then 0 else os.count o) : Nat)) ∧ w = w' := by
  have C := Lib.hid (having_any o w h)
  clear h
  by_cases ho : o = 0
  · rw [if_pos ho]
    subst ho
    go_enter Try.func14, Try.ntmps14
    go_wp2_with fail
    go_ret
    exact ⟨rfl, rfl⟩
  · rw [if_neg ho]
    have t1 : ((o : Int) == 0) = false := by simpa using ho
    go_enter Try.func14, Try.ntmps14
    go_wp2_with fail
    refine C.out.mono ?_
    rintro e w1 ⟨rfl, rfl⟩
    go_wp2_with fail
    go_ret
    exact ⟨rfl, rfl⟩
theorem count_nil (o : Nat) (w : World) : Calls Try.prog 14 #[.pointer none, .int .u64 o] w fun e w' => e = .returned (.int .i64 0) ∧ w = w' := by
  have C := Lib.hid (having_nil o w)
  by_cases ho : o = 0
  · subst ho
    go_enter Try.func14, Try.ntmps14
    go_wp2_with fail
    go_ret
    exact ⟨rfl, rfl⟩
  · have t1 : ((o : Int) == 0) = false := by simpa using ho
    go_enter Try.func14, Try.ntmps14
    go_wp2_with fail
    refine C.out.mono ?_
    rintro e w1 ⟨rfl, rfl⟩
    go_wp2_with fail
    go_ret
    exact ⟨rfl, rfl⟩
theorem owner_any {R : Nat} {S os : List Nat} {ds : List (List Nat)} (f : Int) (w : World) (h : Pl w R S os ds) (f1 : -9223372036854775808 ≤ f) (f2 : f ≤ 9223372036854775807) : Calls Try.prog 18 #[.pointer (some ⟨R, 0, none⟩), .int .i64 f] w fun e w' => e = .returned (.int .u64 (Fr.own os f : Nat)) ∧ w = w' := by
  have C := Lib.hid (len_any w h)
  obtain ⟨B, c0, c1, c2, c3⟩ := h.cells
  obtain ⟨_, l1, l2, _⟩ := h.len
  obtain ⟨n, en⟩ : ∃ n, os.length = n := ⟨_, rfl⟩
  obtain ⟨v, ev⟩ : ∃ v, Fr.own os f = v := ⟨_, rfl⟩
  rw [ev]
  unfold Fr.own at ev
  rw [en] at C c0 l1 l2 ev
  by_cases h1 : f < 1
  · have EV := Lib.hid ev
    rw [if_neg (by omega)] at EV
    clear h c3 en ev
    obtain rfl := EV.out
    clear EV
    go_enter Try.func18, Try.ntmps18
    go_wp2_with fail
    go_ret
    exact ⟨rfl, rfl⟩
  · by_cases h2 : f ≤ n
    · rw [if_pos (by omega)] at ev
      obtain ⟨k, rfl⟩ : ∃ k : Nat, f = (k : Int) + 1 := ⟨(f - 1).toNat, by omega⟩
      have hk : k < n := by omega
      have hx : os[k]? = some v := by
        rw [← ev, List.getD_eq_getElem?_getD, show ((k : Int) + 1).toNat - 1 = k by omega, List.getElem?_eq_getElem (by omega)]; rfl
      have hcell := c3 k v hx
      have h3 : ¬ ((n : Int) < (k : Int) + 1) := by omega
      clear h c3 en ev hx h1 f1 f2
      have j1 : (k : Int) ≤ 4096 := by omega
      have e1 : IntKind.i64.wrap ((k : Int) + 1 - 1) = k := by rw [IntWalk.i64_in _ (by omega)]; omega
      go_enter Try.func18, Try.ntmps18
      go_wp2_with fail
      refine C.out.mono ?_
      rintro e w1 ⟨rfl, rfl⟩
      go_wp2_with fail
      go_ret
      exact ⟨rfl, rfl⟩
    · rw [if_neg (by omega)] at ev
      have h3 : (n : Int) < f := by omega
      clear h c3 en
      subst ev
      clear h2
      go_enter Try.func18, Try.ntmps18
      go_wp2_with fail
      refine C.out.mono ?_
      rintro e w1 ⟨rfl, rfl⟩
      go_wp2_with fail
      go_ret
      exact ⟨rfl, rfl⟩
theorem owner_nil (f : Int) (w : World) : Calls Try.prog 18 #[.pointer none, .int .i64 f] w fun e w' => e = .returned (.int .u64 0) ∧ w = w' := by
  have C := Lib.hid (len_nil w)
  by_cases h1 : f < 1
  · go_enter Try.func18, Try.ntmps18
    go_wp2_with fail
    go_ret
    exact ⟨rfl, rfl⟩
  · have h2 : 0 < f := by omega
    go_enter Try.func18, Try.ntmps18
    go_wp2_with fail
    refine C.out.mono ?_
    rintro e w1 ⟨rfl, rfl⟩
    go_wp2_with fail
    go_ret
    exact ⟨rfl, rfl⟩
theorem within_any {R : Nat} {S os : List Nat} {ds : List (List Nat)} (f off n : Int) (w : World) (h : Pl w R S os ds) (f1 : -9223372036854775808 ≤ f) (f2 : f ≤ 9223372036854775807) (o1 : -9223372036854775808 ≤ off) (o2 : off ≤ 9223372036854775807) (n1 : -9223372036854775808 ≤ n) (n2 : n ≤ 9223372036854775807) :
    Calls Try.prog 35 #[.pointer (some ⟨R, 0, none⟩), .int .i64 f, .int .i64 off, .int .i64 n] w fun e w' => e = .returned (.bool (Fr.may os f off n)) ∧ w = w' := by
  have C := Lib.hid (owner_any f w h f1 f2)
  unfold Fr.may
  obtain ⟨v, ev⟩ : ∃ v, Fr.own os f = v := ⟨_, rfl⟩
  rw [ev] at C ⊢
  clear ev h
  by_cases hv : v = 0
  · subst hv
    rw [decide_eq_false (by simp)]
    go_enter Try.func35, Try.ntmps35
    go_wp2_with fail
    refine C.out.mono ?_
    rintro e w1 ⟨rfl, rfl⟩
    go_wp2_with fail
    go_ret
    exact ⟨rfl, rfl⟩
  · have t1 : ((v : Int) != 0) = true := by simpa using hv
    have t2 : ((v : Int) == 0) = false := by simpa using hv
    by_cases hn : 0 ≤ n
    · by_cases ho : 0 ≤ off
      · obtain ⟨b, eb⟩ : ∃ b, decide (off ≤ 64 - n) = b := ⟨_, rfl⟩
        rw [show decide (v ≠ 0 ∧ 0 ≤ off ∧ 0 ≤ n ∧ off + n ≤ 64) = b from by rw [← eb]; exact decide_eq_decide.2 ⟨fun ⟨_, _, _, hh⟩ => by omega, fun hh => ⟨hv, ho, hn, by omega⟩⟩]
        go_enter Try.func35, Try.ntmps35
        go_wp2_with fail
        refine C.out.mono ?_
        rintro e w1 ⟨rfl, rfl⟩
        go_wp2_with fail
        go_ret
        exact ⟨rfl, rfl⟩
      · rw [decide_eq_false (by omega)]
        go_enter Try.func35, Try.ntmps35
        go_wp2_with fail
        refine C.out.mono ?_
        rintro e w1 ⟨rfl, rfl⟩
        go_wp2_with fail
        go_ret
        exact ⟨rfl, rfl⟩
    · rw [decide_eq_false (by omega)]
      go_enter Try.func35, Try.ntmps35
      go_wp2_with fail
      refine C.out.mono ?_
      rintro e w1 ⟨rfl, rfl⟩
      go_wp2_with fail
      go_ret
      exact ⟨rfl, rfl⟩
theorem within_nil (f off n : Int) (w : World) : Calls Try.prog 35 #[.pointer none, .int .i64 f, .int .i64 off, .int .i64 n] w fun e w' => e = .returned (.bool false) ∧ w = w' := by
  have C := Lib.hid (owner_nil f w)
  go_enter Try.func35, Try.ntmps35
  go_wp2_with fail
  refine C.out.mono ?_
  rintro e w1 ⟨rfl, rfl⟩
  go_wp2_with fail
  go_ret
  exact ⟨rfl, rfl⟩
end Go.Proofs.Ytkpdgjmeeeddhaa
