/- A pool beside what else there is: what its calls answer, and what they leave. Written by genGc.py. -/
import Derived.Test.YtkpdgjmeeeddhaaGb
namespace Go.Proofs.Ytkpdgjmeeeddhaa
open Go.RowKit
set_option linter.unusedVariables false
set_option linter.unusedSimpArgs false

/-- Since W: a pool, in blocks of its own, beside the blocks T. -/
def St (W : World) (T : List Nat) (R : Nat) (os : List Nat) (ds : List (List Nat)) (w : World) : Prop :=
  Below W.heap.size W w ∧ (∀ b ∈ T, b < w.heap.size) ∧ ∃ S, Pl w R S os ds ∧ ∀ b ∈ S, W.heap.size ≤ b ∧ b ∉ T
/-- What T holds reads as before. -/
def Same (T : List Nat) (w w' : World) : Prop := ∀ b ∈ T, w'.heap[b]? = w.heap[b]?
theorem Same.refl (T : List Nat) (w : World) : Same T w w := fun _ _ => rfl
theorem Same.trans {T : List Nat} {a b c : World} (h : Same T a b) (k : Same T b c) : Same T a c := fun x hx => (k x hx).trans (h x hx)
variable {W : World} {T : List Nat} {R : Nat} {os : List Nat} {ds : List (List Nat)} {w w' : World}
theorem St.b (h : St W T R os ds w) : Below W.heap.size W w := h.1
theorem St.len (h : St W T R os ds w) : ds.length = os.length ∧ 1 ≤ os.length ∧ os.length ≤ 4096 ∧ (∀ o ∈ os, o < 18446744073709551616) ∧ (∀ d ∈ ds, ∀ x ∈ d, x < 256) ∧ ∀ i, i < os.length → os.getD i 0 ≠ 0 → (ds.getD i []).length = 64 := by
  obtain ⟨_, _, S, h3, _⟩ := h; exact h3.len
theorem St.below (h : St W T R os ds w) (hb : Below w.heap.size w w') : St W T R os ds w' := by
  obtain ⟨h1, h2, S, h3, h4⟩ := h
  exact ⟨h1.trans (hb.mono h1.size), fun b hm => Nat.lt_of_lt_of_le (h2 b hm) hb.size, S, h3.below hb, h4⟩
theorem St.drew (h : St W T R os ds w) : St W T R os ds w.drew := by
  obtain ⟨h1, h2, S, h3, h4⟩ := h
  exact ⟨h1.drew, h2, S, h3.keep fun b hm => rfl, h4⟩
theorem St.same (h : St W T R os ds w) (hb : Below w.heap.size w w') : Same T w w' := fun b hm => hb.block b (h.2.1 b hm)
/-- T has turned: the pool hasn't. -/
theorem St.turn (h : St W T R os ds w) (hb : Turn T w w') (hT : ∀ b ∈ T, W.heap.size ≤ b) : St W T R os ds w' := by
  obtain ⟨h1, h2, S, h3, h4⟩ := h
  refine ⟨h1.trans (hb.below h1.size hT), fun b hm => Nat.lt_of_lt_of_le (h2 b hm) hb.size, S, h3.keep fun b hm => hb.block b (h3.lt b hm) (h4 b hm).2, h4⟩
/-- What is new since w, or was in T, may be T from now on. -/
theorem St.more (h : St W T R os ds w) (hb : Below w.heap.size w w') {T' : List Nat} (hT : ∀ b ∈ T', (b ∈ T ∨ w.heap.size ≤ b) ∧ b < w'.heap.size) : St W T' R os ds w' := by
  obtain ⟨h1, h2, S, h3, h4⟩ := h
  refine ⟨h1.trans (hb.mono h1.size), fun b hm => (hT b hm).2, S, h3.below hb, fun b hm => ⟨(h4 b hm).1, fun ht => ?_⟩⟩
  rcases (hT b ht).1 with h | h
  · exact (h4 b hm).2 h
  · have := h3.lt b hm; omega
theorem St.alloc (h : St W T R os ds w) (o : Obj) : St W (w.heap.size :: T) R os ds (w.alloc o) :=
  h.more (below_alloc1 w o) fun b hm => by
    rcases List.mem_cons.1 hm with hb | hb
    · exact ⟨.inr (by omega), by rw [hb]; simp⟩
    · exact ⟨.inl hb, by have := h.2.1 b hb; simp; omega⟩
theorem St.less (h : St W T R os ds w) {T' : List Nat} (hT : ∀ b ∈ T', b ∈ T) : St W T' R os ds w :=
  h.more (Below.refl _ _) fun b hm => ⟨.inl (hT b hm), h.2.1 b (hT b hm)⟩
theorem St.set (h : St W T R os ds w) (M i : Nat) (v : Value) (hM : M ∈ T) (hW : W.heap.size ≤ M) : St W T R os ds (w.setCell ⟨M, i, none⟩ v) := by
  obtain ⟨h1, h2, S, h3, h4⟩ := h
  refine ⟨h1.setCell (p := ⟨M, i, none⟩) hW v, fun b hm => ?_, S, h3.keep fun b hm => ?_, h4⟩
  · have := h2 b hm; simp; omega
  · exact Below.heap_setCell _ _ _ _ (fun e => (h4 b hm).2 (by rw [e]; exact hM))
theorem St.of (h : St W T R os ds w) {os' : List Nat} {ds' : List (List Nat)} {S : List Nat} (hS : ∀ b ∈ S, W.heap.size ≤ b ∧ b ∉ T) (hp : PlT w R S os' ds' w') : St W T R os' ds' w' ∧ Same T w w' := by
  obtain ⟨S', p1, p2, p3⟩ := hp
  refine ⟨⟨h.1.trans (p2.below h.1.size fun b hm => (hS b hm).1), fun b hm => Nat.lt_of_lt_of_le (h.2.1 b hm) p2.size, S', p1, fun b hm => ?_⟩, fun b hm => p2.block b (h.2.1 b hm) fun hs => (hS b hs).2 hm⟩
  rcases p3 b hm with hb | hb
  · exact hS b hb
  · exact ⟨Nat.le_trans h.1.size hb, fun ht => by have := h.2.1 b ht; omega⟩
theorem new_st (n : Nat) (W w : World) (T : List Nat) (h1 : 1 ≤ n) (h2 : n ≤ 4096) (hb : Below W.heap.size W w) (hT : ∀ b ∈ T, b < w.heap.size) : Calls Try.prog 9 #[.int .i64 n] w fun e w' =>
    ∃ R ds, e = .returned (.pointer (some ⟨R, 0, none⟩)) ∧ St W T R (List.replicate n 0) ds w' ∧ Same T w w' := by
  refine (pnew_any n w h1 h2).mono ?_
  rintro e w' ⟨R, S, he, ⟨ds, hp⟩, hw, hS⟩
  exact ⟨R, ds, he, ⟨hb.trans (hw.mono hb.size), fun b hm => Nat.lt_of_lt_of_le (hT b hm) hw.size, S, hp, fun b hm => ⟨Nat.le_trans hb.size (hS b hm), fun ht => by have := hT b ht; have := hS b hm; omega⟩⟩, fun b hm => hw.block b (hT b hm)⟩
theorem len_st (h : St W T R os ds w) (i : Int) (hi : ((os.length : Nat) : Int) = i) : Calls Try.prog 29 #[.pointer (some ⟨R, 0, none⟩)] w fun e w' => e = .returned (.int .i64 i) ∧ St W T R os ds w' ∧ Same T w w' ∧ Below w.heap.size w w' := by
  subst hi
  obtain ⟨S, hp, _⟩ := h.2.2
  exact (plen_any w hp).mono fun e w' ⟨he, hw⟩ => ⟨he, h.below hw, h.same hw, hw⟩
theorem left_st (h : St W T R os ds w) (i : Int) (hi : ((os.count 0 : Nat) : Int) = i) : Calls Try.prog 15 #[.pointer (some ⟨R, 0, none⟩)] w fun e w' => e = .returned (.int .i64 i) ∧ St W T R os ds w' ∧ Same T w w' ∧ Below w.heap.size w w' := by
  subst hi
  obtain ⟨S, hp, _⟩ := h.2.2
  exact (pleft_any w hp).mono fun e w' ⟨he, hw⟩ => ⟨he, h.below hw, h.same hw, hw⟩
theorem owner_st (f : Int) (h : St W T R os ds w) (f1 : -9223372036854775808 ≤ f) (f2 : f ≤ 9223372036854775807) (i : Int) (hi : ((Fr.own os f : Nat) : Int) = i) : Calls Try.prog 18 #[.pointer (some ⟨R, 0, none⟩), .int .i64 f] w fun e w' => e = .returned (.int .u64 i) ∧ St W T R os ds w' ∧ Same T w w' ∧ Below w.heap.size w w' := by
  subst hi
  obtain ⟨S, hp, _⟩ := h.2.2
  exact (powner_any f w hp f1 f2).mono fun e w' ⟨he, hw⟩ => ⟨he, h.below hw, h.same hw, hw⟩
theorem count_st (o : Nat) (h : St W T R os ds w) (ho : o < 18446744073709551616) (i : Int) (hi : (((if o = 0 then 0 else os.count o) : Nat) : Int) = i) : Calls Try.prog 14 #[.pointer (some ⟨R, 0, none⟩), .int .u64 o] w fun e w' => e = .returned (.int .i64 i) ∧ St W T R os ds w' ∧ Same T w w' ∧ Below w.heap.size w w' := by
  subst hi
  obtain ⟨S, hp, _⟩ := h.2.2
  exact (pcount_any o w hp ho).mono fun e w' ⟨he, hw⟩ => ⟨he, h.below hw, h.same hw, hw⟩
theorem alloc_st (o : Nat) (h : St W T R os ds w) (ho : o < 18446744073709551616) (k : Nat) (i : Int) (os' : List Nat) (hk : Fr.alloc os o = (k, os')) (hi : (k : Int) = i) :
    Calls Try.prog 28 #[.pointer (some ⟨R, 0, none⟩), .int .u64 o] w fun e w' => e = .returned (.int .i64 i) ∧ St W T R os' (Fr.allocD os ds o) w' ∧ Same T w w' := by
  subst hi
  obtain ⟨S, hp, hS⟩ := h.2.2
  refine (palloc_any o w hp ho).mono fun e w' ⟨he, hw⟩ => ⟨?_, ?_⟩
  · rw [he, hk]
  · rw [hk] at hw; exact h.of hS hw
theorem free_st (f : Int) (h : St W T R os ds w) (f1 : -9223372036854775808 ≤ f) (f2 : f ≤ 9223372036854775807) (os' : List Nat) (hk : Fr.free os f = os') :
    Calls Try.prog 27 #[.pointer (some ⟨R, 0, none⟩), .int .i64 f] w fun e w' => e = .returned (.tuple #[]) ∧ St W T R os' ds w' ∧ Same T w w' := by
  subst hk
  obtain ⟨S, hp, hS⟩ := h.2.2
  exact (pfree_any f w hp f1 f2).mono fun e w' ⟨he, hw⟩ => ⟨he, h.of hS hw⟩
theorem read_st (f off n : Int) (h : St W T R os ds w) (f1 : -9223372036854775808 ≤ f) (f2 : f ≤ 9223372036854775807) (o1 : -9223372036854775808 ≤ off) (o2 : off ≤ 9223372036854775807) (n1 : -9223372036854775808 ≤ n) (n2 : n ≤ 9223372036854775807) (t : Bool) (ht : Fr.may os f off n = t) (bs : List Nat) (hbs : (if t = true then Fr.get ds f off n else []) = bs) :
    Calls Try.prog 25 #[.pointer (some ⟨R, 0, none⟩), .int .i64 f, .int .i64 off, .int .i64 n] w fun e w' => ∃ A c, e = .returned (.slice A bs.length c) ∧ BR w' A bs ∧ St W T R os ds w' ∧ Same T w w' ∧ Below w.heap.size w w' := by
  subst ht hbs
  obtain ⟨S, hp, hS⟩ := h.2.2
  refine (pread_any f off n w hp f1 f2 o1 o2 n1 n2).mono fun e w' ⟨A, c, he, hr, hw⟩ => ⟨A, c, ?_, ?_, h.below hw, h.same hw, hw⟩
  · rw [he]
    by_cases m : Fr.may os f off n = true
    · rw [if_pos m, if_pos m]
      have l := hp.len
      have hl : (Fr.get ds f off n).length = n.toNat := by
        unfold Fr.may at m
        obtain ⟨m1, m2, m3, m4⟩ := of_decide_eq_true m
        have m5 := m1
        unfold Fr.own at m5
        split at m5
        · have := l.2.2.2.2.2 (f.toNat - 1) (by omega) m5
          unfold Fr.get
          rw [List.length_take, List.length_drop, this]
          omega
        · exact absurd rfl m5
      rw [hl]
    · rw [if_neg m, if_neg m]; rfl
  · by_cases m : Fr.may os f off n = true
    · rw [if_pos m]; exact hr m
    · rw [if_neg m]; exact BR.nil _ _
theorem write_st (f off : Int) (A : Option Addr) (n c : Nat) (b : List Nat) (h : St W T R os ds w) (f1 : -9223372036854775808 ≤ f) (f2 : f ≤ 9223372036854775807) (o1 : -9223372036854775808 ≤ off) (o2 : off ≤ 9223372036854775807) (hn : b.length = n) (hm : n ≤ 140737488351232) (hc : n ≤ c) (hr : BR w A b) (hs : ∀ a, A = some a → 0 < n → a.block < W.heap.size ∨ a.block ∈ T) (hb : ∀ x ∈ b, x < 256)
    (t : Bool) (ht : Fr.may os f off n = t) (ds' : List (List Nat)) (hd : Fr.put os ds f off b = ds') :
    Calls Try.prog 34 #[.pointer (some ⟨R, 0, none⟩), .int .i64 f, .int .i64 off, .slice A n c] w fun e w' => e = .returned (.bool t) ∧ St W T R os ds' w' ∧ Same T w w' := by
  subst ht hd
  obtain ⟨S, hp, hS⟩ := h.2.2
  refine (pwrite_any f off A n c b w hp f1 f2 o1 o2 hn hm hc hr (fun x hx a ha hp e => ?_) hb).mono fun e w' ⟨he, hw⟩ => ⟨he, h.of hS hw⟩
  have := hS x hx
  rcases hs a ha hp with q | q
  · omega
  · exact this.2 (e ▸ q)
end Go.Proofs.Ytkpdgjmeeeddhaa
