/- How the law reckons: the last place that fits; the law's own places in memory. -/
import Derived.Test.YtncbbfiafnpimaaBf
set_option linter.unusedVariables false
set_option linter.unusedSimpArgs false
namespace Tl
/-- The last of the first j places that contains the page. -/
def atv (g : Nat → En) (p : Int) : Nat → Int
  | 0 => -1
  | j + 1 => if 0 < (g j).f ∧ (g j).p = p then (j : Int) else atv g p j
/-- Its frame, if it may be had. -/
def wv (g : Nat → En) (p : Int) (b : Bool) : Nat → Int
  | 0 => 0
  | j + 1 => if 0 < (g j).f ∧ (g j).p = p ∧ ((g j).b = true ∨ b = false) then (g j).f else wv g p b j
/-- How many of the first j places. -/
def cn (g : Nat → En) : Nat → Nat
  | 0 => 0
  | j + 1 => cn g j + if 0 < (g j).f then 1 else 0
theorem atv_none {g : Nat → En} {p : Int} (h : ∀ i, i < 4 → hit g p i = false) : ∀ j, j ≤ 4 → atv g p j = -1
  | 0, _ => rfl
  | j + 1, hj => by
    rw [atv, if_neg, atv_none h j (by omega)]
    intro ⟨h1, h2⟩
    exact hit_not.1 (h j (by omega)) (by omega) h2
theorem atv_some {g : Nat → En} {n : Nat} (ho : Ok g n) {p : Int} {k : Nat} (hk : k < 4) (h0 : (g k).f ≠ 0) (hp : (g k).p = p) : ∀ j, j ≤ 4 → atv g p j = if k < j then (k : Int) else -1
  | 0, _ => by rw [if_neg (by omega)]; rfl
  | j + 1, hj => by
    rw [atv]
    by_cases e : j = k
    · subst e
      have := ho.pos j hk
      rw [if_pos ⟨by omega, hp⟩, if_pos (by omega)]
    · rw [if_neg, atv_some ho hk h0 hp j (by omega)]
      · by_cases hlt : k < j
        · rw [if_pos hlt, if_pos (by omega)]
        · rw [if_neg hlt, if_neg (by omega)]
      · intro ⟨h1, h2⟩
        exact e (ho.one j k (by omega) hk (by omega) h0 (h2.trans hp.symm))
theorem atv_ix {g : Nat → En} {n : Nat} (ho : Ok g n) (p : Int) : atv g p 4 = ix g p := by
  rcases ix_cases g p with ⟨e, hn⟩ | ⟨k, hk, e, hh, _⟩
  · rw [e, atv_none hn 4 (by omega)]
  · obtain ⟨h0, hp⟩ := hit_iff.1 hh
    rw [e, atv_some ho hk h0 hp 4 (by omega), if_pos hk]
theorem wv_none {g : Nat → En} {p : Int} (b : Bool) (h : ∀ i, i < 4 → hit g p i = false) : ∀ j, j ≤ 4 → wv g p b j = 0
  | 0, _ => rfl
  | j + 1, hj => by
    rw [wv, if_neg, wv_none b h j (by omega)]
    intro ⟨h1, h2, _⟩
    exact hit_not.1 (h j (by omega)) (by omega) h2
theorem wv_some {g : Nat → En} {n : Nat} (ho : Ok g n) {p : Int} (b : Bool) {k : Nat} (hk : k < 4) (h0 : (g k).f ≠ 0) (hp : (g k).p = p) : ∀ j, j ≤ 4 → wv g p b j = if k < j ∧ ((g k).b = true ∨ b = false) then (g k).f else 0
  | 0, _ => by rw [if_neg (by omega)]; rfl
  | j + 1, hj => by
    rw [wv]
    by_cases e : j = k
    · subst e
      have := ho.pos j hk
      by_cases hb : (g j).b = true ∨ b = false
      · rw [if_pos ⟨by omega, hp, hb⟩, if_pos ⟨by omega, hb⟩]
      · rw [if_neg (fun h => hb h.2.2), if_neg (fun h => hb h.2), wv_some ho b hk h0 hp j (by omega), if_neg (by omega)]
    · rw [if_neg, wv_some ho b hk h0 hp j (by omega)]
      · by_cases hlt : k < j
        · by_cases hb : (g k).b = true ∨ b = false
          · rw [if_pos ⟨hlt, hb⟩, if_pos ⟨by omega, hb⟩]
          · rw [if_neg (fun h => hb h.2), if_neg (fun h => hb h.2)]
        · rw [if_neg (fun h => hlt h.1), if_neg (by omega)]
      · intro ⟨h1, h2, _⟩
        exact e (ho.one j k (by omega) hk (by omega) h0 (h2.trans hp.symm))
theorem wv_seek {g : Nat → En} {n : Nat} (ho : Ok g n) (p : Int) (b : Bool) : seek g p b = wv g p b 4 := by
  rcases ix_cases g p with ⟨e, hn⟩ | ⟨k, hk, e, hh, _⟩
  · have c : (-1 : Int) < 0 := by decide
    rw [wv_none b hn 4 (by omega), seek, e, if_pos c]
  · obtain ⟨h0, hp⟩ := hit_iff.1 hh
    rw [wv_some ho b hk h0 hp 4 (by omega), seek_hit ho b hk h0 hp]
    cases b <;> cases e : (g k).b <;> simp [hk]
theorem cn_cnt {g : Nat → En} {n : Nat} (ho : Ok g n) : ∀ j, j ≤ 4 → cn g j = cnt g j
  | 0, _ => rfl
  | j + 1, hj => by
    rw [cn, cnt, cn_cnt ho j (by omega)]
    have := ho.pos j (by omega)
    by_cases e : (g j).f = 0
    · rw [if_pos e, if_neg (by omega)]
    · rw [if_neg e, if_pos (by omega)]
end Tl
namespace Go.Proofs.Ytncbbfiafnpimaa
open Go.RowKit Tl
set_option linter.unusedVariables false
set_option linter.unusedSimpArgs false
/-- The law's own places. -/
def Lp (w : World) (L : Nat) (g : Nat → En) : Prop := w.heap[L]? = some (Obj.cells (pc g).toArray 31)
theorem Lp.lt {w : World} {L : Nat} {g : Nat → En} (h : Lp w L g) : L < w.heap.size := (Array.getElem?_eq_some_iff.1 h).1
theorem Lp.turn {w w' : World} {L : Nat} {g : Nat → En} {S : List Nat} (h : Lp w L g) (ht : Turn S w w') (hS : L ∉ S) : Lp w' L g := (ht.block L h.lt hS).trans h
theorem Lp.below {w w' : World} {L : Nat} {g : Nat → En} (h : Lp w L g) (ht : Below w.heap.size w w') : Lp w' L g := (ht.block L h.lt).trans h
theorem Lp.places {w : World} {L : Nat} {g : Nat → En} (h : Lp w L g) : w.rangeAt L 0 (pc g) := fun j v hj => by
  rw [Nat.zero_add, cell_of_row _ _ _ _ 31 (0, 0) h, List.getElem?_toArray]; exact hj
theorem Lp.there {w : World} {L : Nat} {g : Nat → En} (h : Lp w L g) (o m : Nat) (hm : o + m ≤ 12) : w.there L o m := fun j hj =>
  ⟨by rw [cell_of_row _ _ _ _ 31 (0, 0) h, List.getElem?_toArray, List.getElem?_eq_getElem (by rw [pc_len]; omega)]; rfl, frozen_of_row _ _ _ _ 31 h⟩
theorem splice_pc (g : Nat → En) {k : Nat} (hk : k < 4) (e : En) : splice (pc g) (k * 3) (ec e) = pc (upd g k e) := by
  match k, hk with
  | 0, _ => rfl
  | 1, _ => rfl
  | 2, _ => rfl
  | 3, _ => rfl
theorem Lp.place {w : World} {L : Nat} {g : Nat → En} (h : Lp w L g) {k : Nat} (hk : k < 4) (e : En) : Lp (w.setCells L (k * 3) (ec e)) L (upd g k e) := by
  unfold Lp
  rw [setCells_heap L 31 (ec e) (k * 3) w (pc g) h (by rw [ec_len, pc_len]; omega), splice_pc g hk e]
theorem Lp.flush {w : World} {L : Nat} {g : Nat → En} (h : Lp w L g) : Lp (w.setCells L 0 (pc (fun _ => bare0))) L (fun _ => bare0) := by
  unfold Lp
  rw [setCells_heap L 31 _ 0 w (pc g) h (by rw [pc_len, pc_len]; omega)]
  rfl
theorem run_lplace (g : Nat → En) (w : World) {k : Nat} (hk : k < 4) : Sem.run Try.prog (Instr.index 31 (.agg (pc g).toArray) (.int .i64 (k : Int))) w = .ok (.agg #[.int .i64 (g k).p, .int .i64 (g k).f, .bool (g k).b]) w := by
  match k, hk with
  | 0, _ => rfl
  | 1, _ => rfl
  | 2, _ => rfl
  | 3, _ => rfl
theorem size30 : (Try.prog.info? 30).map (·.size) = some 3 := by kernel_rfl
theorem size31 : (Try.prog.info? 31).map (·.size) = some 12 := by kernel_rfl
theorem pg4 (x : Int) : ∃ (t u : Int) (p : Nat), x.tmod 4 = t ∧ RowKit.wrap64 (t + 4) = u ∧ IntKind.i64.wrap (t + 4) = u ∧ u.tmod 4 = (p : Int) ∧ p < 4 := by
  have h1 := Int.tmod_lt_of_pos x (show (0 : Int) < 4 by omega)
  have h2 := Int.lt_tmod_of_pos x (show (0 : Int) < 4 by omega)
  have e : RowKit.wrap64 (x.tmod 4 + 4) = x.tmod 4 + 4 := by unfold RowKit.wrap64; omega
  have e2 : IntKind.i64.wrap (x.tmod 4 + 4) = x.tmod 4 + 4 := by rw [IntKind.wrap_i64]; omega
  refine ⟨_, _, ((x.tmod 4 + 4) % 4).toNat, rfl, e, e2, ?_, by omega⟩
  rw [Int.tmod_eq_emod_of_nonneg (by omega)]
  omega
/-- The law's state. -/
def RI (W : World) (R L n : Nat) (w : World) : Prop := W.heap.size ≤ L ∧ L ≠ R ∧ ∃ g, TS W R g n w ∧ Lp w L g
end Go.Proofs.Ytncbbfiafnpimaa
