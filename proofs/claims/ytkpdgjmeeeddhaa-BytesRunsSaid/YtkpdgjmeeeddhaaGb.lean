/- What a pool's calls do. -/
import Derived.Test.YtkpdgjmeeeddhaaFd
namespace Go.Proofs.Ytkpdgjmeeeddhaa
open Go.RowKit
set_option linter.unusedVariables false
set_option linter.unusedSimpArgs false

theorem plen_any {R : Nat} {S os : List Nat} {ds : List (List Nat)}  (w : World) (h : Pl w R S os ds) : Calls Try.prog 29 #[.pointer (some ⟨R, 0, none⟩)] w fun e w' => e = .returned (.int .i64 (os.length : Nat)) ∧ Below w.heap.size w w' :=
  (len_any w h).mono fun e w' ⟨he, hw⟩ => by subst hw; exact ⟨he, Below.refl _ _⟩
theorem pleft_any {R : Nat} {S os : List Nat} {ds : List (List Nat)}  (w : World) (h : Pl w R S os ds) : Calls Try.prog 15 #[.pointer (some ⟨R, 0, none⟩)] w fun e w' => e = .returned (.int .i64 (os.count 0 : Nat)) ∧ Below w.heap.size w w' :=
  (left_any w h).mono fun e w' ⟨he, hw⟩ => by subst hw; exact ⟨he, Below.refl _ _⟩
theorem palloc_any {R : Nat} {S os : List Nat} {ds : List (List Nat)} (o : Nat) (w : World) (h : Pl w R S os ds) (ho : o < 18446744073709551616) : Calls Try.prog 28 #[.pointer (some ⟨R, 0, none⟩), .int .u64 o] w fun e w' => e = .returned (.int .i64 ((Fr.alloc os o).1 : Nat)) ∧ PlT w R S (Fr.alloc os o).2 (Fr.allocD os ds o) w' := palloc_any' o w h ho
theorem powner_any {R : Nat} {S os : List Nat} {ds : List (List Nat)} (f : Int) (w : World) (h : Pl w R S os ds) (f1 : -9223372036854775808 ≤ f) (f2 : f ≤ 9223372036854775807) : Calls Try.prog 18 #[.pointer (some ⟨R, 0, none⟩), .int .i64 f] w fun e w' => e = .returned (.int .u64 (Fr.own os f : Nat)) ∧ Below w.heap.size w w' :=
  (owner_any f w h f1 f2).mono fun e w' ⟨he, hw⟩ => by subst hw; exact ⟨he, Below.refl _ _⟩
theorem pcount_any {R : Nat} {S os : List Nat} {ds : List (List Nat)} (o : Nat) (w : World) (h : Pl w R S os ds) (ho : o < 18446744073709551616) : Calls Try.prog 14 #[.pointer (some ⟨R, 0, none⟩), .int .u64 o] w fun e w' => e = .returned (.int .i64 ((if o = 0 then 0 else os.count o) : Nat)) ∧ Below w.heap.size w w' :=
  (count_any o w h).mono fun e w' ⟨he, hw⟩ => by subst hw; exact ⟨he, Below.refl _ _⟩
theorem get_len {w : World} {R : Nat} {S os : List Nat} {ds : List (List Nat)} (h : Pl w R S os ds) {k a l : Nat} (hk : k < os.length) (ha : a + l ≤ 64) : (((ds.getD k []).drop a).take l).length = l := by
  obtain ⟨B, cs, rfl, g1, g2, l1', l2', hf⟩ := h
  have e0 : ds[k]? = some (ds.getD k []) := by rw [List.getD_eq_getElem?_getD, List.getElem?_eq_getElem (by rw [hf.2.1]; exact hk)]; rfl
  rw [List.length_take, List.length_drop, (hf.2.2.2 k _ e0).1]
  omega
theorem pread_any {R : Nat} {S os : List Nat} {ds : List (List Nat)} (f off n : Int) (w : World) (h : Pl w R S os ds) (f1 : -9223372036854775808 ≤ f) (f2 : f ≤ 9223372036854775807) (o1 : -9223372036854775808 ≤ off) (o2 : off ≤ 9223372036854775807) (n1 : -9223372036854775808 ≤ n) (n2 : n ≤ 9223372036854775807) : Calls Try.prog 25 #[.pointer (some ⟨R, 0, none⟩), .int .i64 f, .int .i64 off, .int .i64 n] w fun e w' => ∃ A c, e = .returned (.slice A (if Fr.may os f off n = true then n.toNat else 0) c) ∧ (Fr.may os f off n = true → BR w' A (Fr.get ds f off n)) ∧ Below w.heap.size w w' := by
  cases m : Fr.may os f off n with
  | false =>
    refine (read_no f off n w h f1 f2 o1 o2 n1 n2 m).mono fun e w' ⟨A, c, he, hr, hw⟩ => ⟨A, c, he, fun e => (by cases e), hw⟩
  | true =>
    obtain ⟨k, a, l, rfl, rfl, rfl, hk, ha⟩ := may_out m
    have e1 : Fr.get ds ((k : Int) + 1) a l = ((ds.getD k []).drop a).take l := by
      unfold Fr.get; rw [show ((k : Int) + 1).toNat - 1 = k by omega, Int.toNat_natCast, Int.toNat_natCast]
    rw [e1]
    refine (read_yes k a l w h m hk ha).mono fun e w' ⟨A, c, he, hr, hw⟩ => ⟨A, c, ?_, fun _ => hr, hw⟩
    rw [he, get_len h hk ha, if_pos rfl, Int.toNat_natCast]
theorem pwrite_any {R : Nat} {S os : List Nat} {ds : List (List Nat)} (f off : Int) (A : Option Addr) (n c : Nat) (b : List Nat) (w : World) (h : Pl w R S os ds) (f1 : -9223372036854775808 ≤ f) (f2 : f ≤ 9223372036854775807) (o1 : -9223372036854775808 ≤ off) (o2 : off ≤ 9223372036854775807) (hn : b.length = n) (hm : n ≤ 140737488351232) (hc : n ≤ c) (hr : BR w A b) (hs : ∀ x, x ∈ S → ∀ a, A = some a → 0 < n → a.block ≠ x) (hb : ∀ x ∈ b, x < 256) : Calls Try.prog 34 #[.pointer (some ⟨R, 0, none⟩), .int .i64 f, .int .i64 off, .slice A n c] w fun e w' => e = .returned (.bool (Fr.may os f off n)) ∧ PlT w R S os (Fr.put os ds f off b) w' := by
  cases m : Fr.may os f off n with
  | false =>
    have e1 : Fr.put os ds f off b = ds := by unfold Fr.put; rw [hn, m]; rfl
    rw [e1]
    exact write_no f off A n c w h f1 f2 o1 o2 hm m
  | true =>
    obtain ⟨k, a, l, rfl, rfl, hl, hk, ha⟩ := may_out m
    obtain rfl : n = l := by omega
    have e1 : Fr.put os ds ((k : Int) + 1) a b = ds.set k (Fr.lay (ds.getD k []) a b) := by
      unfold Fr.put; rw [hn, m, if_pos rfl, show ((k : Int) + 1).toNat - 1 = k by omega, Int.toNat_natCast]
    rw [e1]
    exact write_yes k a n A c b w h m hk ha hn hr hb
theorem plen_nil (w : World) : Calls Try.prog 29 #[.pointer none] w fun e w' => e = .returned (.int .i64 0) ∧ Below w.heap.size w w' :=
  (len_nil w).mono fun e w' ⟨he, hw⟩ => by subst hw; exact ⟨he, Below.refl _ _⟩
theorem pleft_nil (w : World) : Calls Try.prog 15 #[.pointer none] w fun e w' => e = .returned (.int .i64 0) ∧ Below w.heap.size w w' :=
  (left_nil w).mono fun e w' ⟨he, hw⟩ => by subst hw; exact ⟨he, Below.refl _ _⟩
theorem powner_nil (f : Int) (w : World) : Calls Try.prog 18 #[.pointer none, .int .i64 f] w fun e w' => e = .returned (.int .u64 0) ∧ Below w.heap.size w w' :=
  (owner_nil f w).mono fun e w' ⟨he, hw⟩ => by subst hw; exact ⟨he, Below.refl _ _⟩
theorem pcount_nil (o : Nat) (w : World) : Calls Try.prog 14 #[.pointer none, .int .u64 o] w fun e w' => e = .returned (.int .i64 0) ∧ Below w.heap.size w w' :=
  (count_nil o w).mono fun e w' ⟨he, hw⟩ => by subst hw; exact ⟨he, Below.refl _ _⟩
theorem palloc_nil (o : Nat) (w : World) : Calls Try.prog 28 #[.pointer none, .int .u64 o] w fun e w' => e = .returned (.int .i64 0) ∧ Below w.heap.size w w' := by
  have C := Lib.hid (len_nil w)
  by_cases h0 : o = 0
  · subst h0
    go_enter Try.func28, Try.ntmps28
    go_wp2_with fail
    go_ret
    exact ⟨rfl, Below.refl _ _⟩
  · have t1 : ((o : Int) == 0) = false := by simpa using h0
    clear h0
    go_enter Try.func28, Try.ntmps28
    go_wp2_with fail
    refine C.out.mono ?_
    rintro e w1 ⟨rfl, rfl⟩
    go_wp2_with fail
    go_loop [10] (fun k => k = .int .i64 0) (fun k => 0)
    case atStart => exact rfl
    case round =>
      obtain rfl := hrel
      go_wp2_with fail
      go_ret
      exact ⟨rfl, Below.refl _ _⟩
theorem pfree_nil (f : Int) (w : World) : Calls Try.prog 27 #[.pointer none, .int .i64 f] w fun e w' => e = .returned (.tuple #[]) ∧ Below w.heap.size w w' := by
  have C := Lib.hid (owner_nil f w)
  go_enter Try.func27, Try.ntmps27
  go_wp2_with fail
  refine C.out.mono ?_
  rintro e w1 ⟨rfl, rfl⟩
  go_wp2_with fail
  exact bodyPost_end (results_none rfl _ _ _) rfl ⟨rfl, Below.refl _ _⟩
theorem pread_nil (f off n : Int) (w : World) : Calls Try.prog 25 #[.pointer none, .int .i64 f, .int .i64 off, .int .i64 n] w fun e w' => (∃ A c, e = .returned (.slice A 0 c)) ∧ Below w.heap.size w w' := by
  have C := Lib.hid (within_nil f off n w)
  refine Calls.mono (R := fun e w' => e = .returned (.slice none 0 0) ∧ Below w.heap.size w w') ?_ (fun e w' ⟨he, hw⟩ => ⟨⟨_, _, he⟩, hw⟩)
  go_enter Try.func25, Try.ntmps25
  go_wp2_with fail
  refine C.out.mono ?_
  rintro e w1 ⟨rfl, rfl⟩
  go_wp2_with fail
  go_ret
  exact ⟨rfl, Below.refl _ _⟩
theorem pwrite_nil (f off : Int) (A : Option Addr) (n c : Nat) (w : World) : Calls Try.prog 34 #[.pointer none, .int .i64 f, .int .i64 off, .slice A n c] w fun e w' => e = .returned (.bool false) ∧ Below w.heap.size w w' := by
  have C := Lib.hid (within_nil f off n w)
  go_enter Try.func34, Try.ntmps34
  go_wp2_with fail
  refine C.out.mono ?_
  rintro e w1 ⟨rfl, rfl⟩
  go_wp2_with fail
  go_ret
  exact ⟨rfl, Below.refl _ _⟩
end Go.Proofs.Ytkpdgjmeeeddhaa
