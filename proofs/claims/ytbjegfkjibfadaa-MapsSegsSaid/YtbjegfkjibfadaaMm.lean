/- Lists of maps: which may be a space's; one added, one taken away. -/
import Derived.Test.YtbjegfkjibfadaaMa
set_option linter.unusedVariables false
set_option linter.unusedSimpArgs false
namespace Go.Proofs.Ytbjegfkjibfadaa
open Go.RowKit
set_option linter.unusedVariables false
set_option linter.unusedSimpArgs false
def Mp.ok (m : Mp) : Bool := okB m.a m.s m.f m.n
def Mp.Ok (m : Mp) : Prop := 1 ≤ m.n ∧ m.n ≤ 16 ∧ 0 ≤ m.a ∧ m.a + m.n ≤ 4096 ∧ 0 ≤ m.f ∧ m.f + m.n ≤ 16 ∧ m.s ≠ 0
theorem Mp.ok_iff {m : Mp} : m.ok = true ↔ m.Ok := okB_iff
def Mp.zero : Mp := ⟨0, 0, 0, 0, false⟩
def encM (m : Mp) : List Value := [.int .i64 m.a, .int .u64 m.s, .int .i64 m.f, .int .i64 m.n, .bool m.w]
theorem encM_len (m : Mp) : (encM m).length = 5 := rfl
theorem encM_one (m : Mp) : ∀ u ∈ encM m, u.oneCell' = true := fun u hu => by
  simp only [encM, List.mem_cons, List.not_mem_nil, or_false] at hu
  rcases hu with rfl | rfl | rfl | rfl | rfl <;> rfl
/-- They may be a space's, but for how many they are. -/
def Sp (l : List Mp) : Prop := l.Pairwise (fun p q => p.a + p.n ≤ q.a) ∧ ∀ m ∈ l, m.Ok
/-- As Right goes over them. -/
def chk : Int → List Mp → Bool
  | _, [] => true
  | x, m :: r => m.ok && (decide (x ≤ m.a) && chk (m.a + m.n) r)
theorem chk_iff {l : List Mp} : ∀ {x : Int}, chk x l = true ↔ Sp l ∧ ∀ m ∈ l, x ≤ m.a := by
  induction l with
  | nil => intro x; simp [chk, Sp]
  | cons m r ih =>
    intro x
    simp only [chk, Bool.and_eq_true, decide_eq_true_eq, ih, Mp.ok_iff]
    unfold Sp
    rw [List.pairwise_cons]
    constructor
    · rintro ⟨h1, h2, ⟨h3, h4⟩, h5⟩
      refine ⟨⟨⟨h5, h3⟩, fun y hy => ?_⟩, fun y hy => ?_⟩
      · rcases List.mem_cons.1 hy with rfl | hy
        · exact h1
        · exact h4 y hy
      · rcases List.mem_cons.1 hy with rfl | hy
        · exact h2
        · have := h5 y hy
          have := h1.1
          omega
    · rintro ⟨⟨⟨h5, h3⟩, h4⟩, h6⟩
      exact ⟨h4 m List.mem_cons_self, h6 m List.mem_cons_self, ⟨h3, fun y hy => h4 y (List.mem_cons_of_mem _ hy)⟩, h5⟩
theorem chk0_iff {l : List Mp} : chk 0 l = true ↔ Sp l := chk_iff.trans ⟨fun h => h.1, fun h => ⟨h, fun m hm => (h.2 m hm).2.2.1⟩⟩
def rightB (l : List Mp) : Bool := decide (l.length ≤ 16) && chk 0 l
theorem rightB_iff {l : List Mp} : rightB l = true ↔ l.length ≤ 16 ∧ Sp l := by unfold rightB; simp only [Bool.and_eq_true, decide_eq_true_eq, chk0_iff]
theorem Sp.nil : Sp [] := ⟨List.Pairwise.nil, by simp⟩
/-- Two lists of a space with the same maps are one. -/
theorem Sp.eq {l l' : List Mp} (h : Sp l) (h' : Sp l') (hp : l.Perm l') : l = l' := by
  refine List.Perm.eq_of_pairwise (le := fun p q => p.a + p.n ≤ q.a) (fun p q hp' hq h1 h2 => ?_) h.1 h'.1 hp
  have := (h.2 p hp').1
  have := (h'.2 q hq).1
  omega
theorem Sp.at_lt {l : List Mp} (h : Sp l) {i j : Nat} {p q : Mp} (hi : l[i]? = some p) (hj : l[j]? = some q) (hij : i < j) : p.a + p.n ≤ q.a := by
  obtain ⟨h1, rfl⟩ := List.getElem?_eq_some_iff.1 hi
  obtain ⟨h2, rfl⟩ := List.getElem?_eq_some_iff.1 hj
  exact List.pairwise_iff_getElem.1 h.1 i j h1 h2 hij
/-- Those that begin at one page are one. -/
theorem Sp.inj {l : List Mp} (h : Sp l) {p q : Mp} (hp : p ∈ l) (hq : q ∈ l) (he : p.a = q.a) : p = q := by
  obtain ⟨i, hi⟩ := List.mem_iff_getElem?.1 hp
  obtain ⟨j, hj⟩ := List.mem_iff_getElem?.1 hq
  have h1 := (h.2 p hp).1
  have h2 := (h.2 q hq).1
  rcases Nat.lt_trichotomy i j with hl | rfl | hl
  · have := h.at_lt hi hj hl; omega
  · rw [hi] at hj; injection hj
  · have := h.at_lt hj hi hl; omega
def ovl (l : List Mp) (m : Mp) : Bool := l.any fun x => ovB x.a x.n m.a m.n
theorem ovB_iff {a n a' n' : Int} : ovB a n a' n' = true ↔ a < a' + n' ∧ a' < a + n := by unfold ovB; simp
theorem ovl_iff {l : List Mp} {m : Mp} : ovl l m = true ↔ ∃ x ∈ l, x.a < m.a + m.n ∧ m.a < x.a + x.n := by
  unfold ovl; simp only [List.any_eq_true, ovB_iff]
theorem ovl_none {l : List Mp} {m : Mp} (h : ovl l m = false) {x : Mp} (hx : x ∈ l) : ¬ (x.a < m.a + m.n ∧ m.a < x.a + x.n) := fun hc => by
  have := (ovl_iff (l := l) (m := m)).2 ⟨x, hx, hc⟩
  rw [h] at this; cases this
theorem ovl_perm {l l' : List Mp} (m : Mp) (hp : l.Perm l') : ovl l m = ovl l' m := by
  rw [Bool.eq_iff_iff, ovl_iff, ovl_iff]
  exact ⟨fun ⟨x, hx, h⟩ => ⟨x, hp.mem_iff.1 hx, h⟩, fun ⟨x, hx, h⟩ => ⟨x, hp.mem_iff.2 hx, h⟩⟩
/-- The place of a map: those ahead of it end ahead of it. -/
def Ahead (l : List Mp) (a : Int) (k : Nat) : Prop := ∀ (j : Nat) (x : Mp), j < k → l[j]? = some x → x.a + x.n ≤ a
theorem Ahead.zero (l : List Mp) (a : Int) : Ahead l a 0 := fun j x h => by omega
theorem Ahead.succ {l : List Mp} {a : Int} {k : Nat} (h : Ahead l a k) {x : Mp} (hx : l[k]? = some x) (hl : x.a + x.n ≤ a) : Ahead l a (k + 1) := fun j y hj hy => by
  rcases Nat.lt_succ_iff_lt_or_eq.1 hj with hj | rfl
  · exact h j y hj hy
  · rw [hx] at hy; injection hy with hy; rw [← hy]; exact hl
/-- The first of those that don't end ahead of it is over it, or none is. -/
theorem ovl_first {l : List Mp} {m x : Mp} {k : Nat} (h : Sp l) (hk : Ahead l m.a k) (hx : l[k]? = some x) (hn : ¬ x.a + x.n ≤ m.a) : ovl l m = decide (x.a < m.a + m.n) := by
  rw [Bool.eq_iff_iff, ovl_iff, decide_eq_true_eq]
  constructor
  · rintro ⟨y, hy, h1, h2⟩
    obtain ⟨j, hj⟩ := List.mem_iff_getElem?.1 hy
    rcases Nat.lt_trichotomy j k with hl | rfl | hl
    · have := hk j y hl hj; omega
    · rw [hx] at hj; injection hj with hj; rw [hj]; exact h1
    · have := h.at_lt hx hj hl
      have := (h.2 x (List.mem_of_getElem? hx)).1
      omega
  · intro h1
    exact ⟨x, List.mem_of_getElem? hx, h1, by omega⟩
theorem ovl_last {l : List Mp} {m : Mp} (hk : Ahead l m.a l.length) : ovl l m = false := Bool.eq_false_iff.2 fun h => by
  obtain ⟨x, hx, h1, h2⟩ := ovl_iff.1 h
  obtain ⟨j, hj⟩ := List.mem_iff_getElem?.1 hx
  have := hk j x (List.getElem?_eq_some_iff.1 hj).1 hj
  omega
/-- It is put into its place. -/
theorem Sp.put {l : List Mp} {m : Mp} {k : Nat} (h : Sp l) (hk : Ahead l m.a k) (ho : ovl l m = false) (hm : m.Ok) (hn : ∀ x, l[k]? = some x → ¬ x.a + x.n ≤ m.a) : Sp (l.take k ++ m :: l.drop k) := by
  have hbe : ∀ y ∈ l.drop k, m.a + m.n ≤ y.a := fun y hy => by
    obtain ⟨j, hj⟩ := List.mem_iff_getElem?.1 hy
    rw [List.getElem?_drop] at hj
    have hym := List.mem_of_getElem? hj
    have h1 := ovl_none ho hym
    obtain ⟨x, hx⟩ : ∃ x, l[k]? = some x := ⟨_, List.getElem?_eq_getElem (by have := (List.getElem?_eq_some_iff.1 hj).1; omega)⟩
    have h2 := hn x hx
    by_cases hj0 : j = 0
    · subst hj0
      rw [Nat.add_zero, hx] at hj
      injection hj with hj
      subst hj
      omega
    · have := h.at_lt hx hj (by omega)
      have := (h.2 y hym).1
      omega
  refine ⟨?_, fun y hy => ?_⟩
  · rw [List.pairwise_append, List.pairwise_cons]
    refine ⟨h.1.sublist (List.take_sublist _ _), ⟨hbe, h.1.sublist (List.drop_sublist _ _)⟩, fun x hx y hy => ?_⟩
    obtain ⟨j, hj⟩ := List.mem_iff_getElem?.1 hx
    rw [List.getElem?_take] at hj
    split at hj
    · rename_i hjk
      have h1 := hk j x hjk hj
      rcases List.mem_cons.1 hy with rfl | hy
      · exact h1
      · have := hbe y hy
        have := hm.1
        omega
    · cases hj
  · rcases List.mem_append.1 hy with hy | hy
    · exact h.2 y (List.mem_of_mem_take hy)
    · rcases List.mem_cons.1 hy with rfl | hy
      · exact hm
      · exact h.2 y (List.mem_of_mem_drop hy)
theorem put_perm (l : List Mp) (m : Mp) (k : Nat) : (l.take k ++ m :: l.drop k).Perm (m :: l) := by
  have h := List.perm_middle (a := m) (l₁ := l.take k) (l₂ := l.drop k)
  rwa [List.take_append_drop] at h
/-- One is taken away. -/
theorem Sp.less {l1 l2 : List Mp} {x : Mp} (h : Sp (l1 ++ x :: l2)) : Sp (l1 ++ l2) ∧ (l1 ++ l2) = (l1 ++ x :: l2).filter (fun y => decide (y.a ≠ x.a)) := by
  have hsub : (l1 ++ l2).Sublist (l1 ++ x :: l2) := List.Sublist.append (List.Sublist.refl _) (List.sublist_cons_self _ _)
  refine ⟨⟨h.1.sublist hsub, fun m hm => h.2 m (hsub.subset hm)⟩, ?_⟩
  have hp := List.pairwise_append.1 h.1
  have hc := List.pairwise_cons.1 hp.2.1
  have hx := h.2 x (by simp)
  rw [List.filter_append, List.filter_cons_of_neg (by simp), List.filter_eq_self.2, List.filter_eq_self.2]
  · intro y hy
    have := hc.1 y hy
    have := hx.1
    simp; omega
  · intro y hy
    have := hp.2.2 y hy x (by simp)
    have := (h.2 y (by simp [hy])).1
    simp; omega
end Go.Proofs.Ytbjegfkjibfadaa
