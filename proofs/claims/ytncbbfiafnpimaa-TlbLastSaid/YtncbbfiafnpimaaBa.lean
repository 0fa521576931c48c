/- A TLB: its places, in memory. -/
import Derived.Test.YtncbbfiafnpimaaRows
import Derived.WalkKit
import Derived.Lib.Walk
import Derived.Lib.Hide
import Derived.BigCall
import Derived.BigGuard
import Derived.IntWalk
import Derived.Laws.Rows
import Derived.Below
import Derived.Deep.LoopGhost
import Derived.Deep.DeepCutAuto
import Derived.Deep.CutBlock
import Derived.Deep.QuietTactic
import Derived.Deep.RegionHeld3
import Derived.Deep.MidRow
import Derived.Laws.CopyRow
import Derived.Laws.IdiomCopy
import Derived.Laws.MakeOwn
import Derived.Laws.CopyOwn
import Derived.Laws.AppendOwn
import Derived.WideShapes
import Derived.Lib.QuietBelow
set_option linter.unusedVariables false
set_option linter.unusedSimpArgs false
/-! What a TLB contains: places 0 to 3, and the next one. -/
namespace Tl
structure En where
  p : Int
  f : Int
  b : Bool
def bare0 : En := ⟨0, 0, false⟩
def upd (g : Nat → En) (k : Nat) (e : En) : Nat → En := fun i => if i = k then e else g i
/-- Does place i contain page p? -/
def hit (g : Nat → En) (p : Int) (i : Nat) : Bool := (g i).f != 0 && (g i).p == p
/-- A page's place; -1: it has none. -/
def ix (g : Nat → En) (p : Int) : Int := if hit g p 0 then 0 else if hit g p 1 then 1 else if hit g p 2 then 2 else if hit g p 3 then 3 else -1
theorem ix_cases (g : Nat → En) (p : Int) : (ix g p = -1 ∧ ∀ i, i < 4 → hit g p i = false) ∨ ∃ k : Nat, k < 4 ∧ ix g p = k ∧ hit g p k = true ∧ ∀ i, i < k → hit g p i = false := by
  unfold ix
  cases h0 : hit g p 0
  · cases h1 : hit g p 1
    · cases h2 : hit g p 2
      · cases h3 : hit g p 3
        · left; refine ⟨by simp, fun i hi => ?_⟩
          match i, hi with
          | 0, _ => exact h0
          | 1, _ => exact h1
          | 2, _ => exact h2
          | 3, _ => exact h3
        · right; refine ⟨3, by omega, by simp, h3, fun i hi => ?_⟩
          match i, hi with
          | 0, _ => exact h0
          | 1, _ => exact h1
          | 2, _ => exact h2
      · right; refine ⟨2, by omega, by simp, h2, fun i hi => ?_⟩
        match i, hi with
        | 0, _ => exact h0
        | 1, _ => exact h1
    · right; refine ⟨1, by omega, by simp, h1, fun i hi => ?_⟩
      match i, hi with
      | 0, _ => exact h0
  · right; exact ⟨0, by omega, by simp, h0, fun i hi => by omega⟩
theorem ix_eq {g : Nat → En} {p : Int} {k : Nat} (hk : k < 4) (h : hit g p k = true) (hn : ∀ i, i < k → hit g p i = false) : ix g p = k := by
  unfold ix
  match k, hk with
  | 0, _ => simp [h]
  | 1, _ => simp [h, hn 0]
  | 2, _ => simp [h, hn 0, hn 1]
  | 3, _ => simp [h, hn 0, hn 1, hn 2]
theorem ix_none {g : Nat → En} {p : Int} (hn : ∀ i, i < 4 → hit g p i = false) : ix g p = -1 := by
  unfold ix; simp [hn]
/-- Find's answer. -/
def seek (g : Nat → En) (p : Int) (wr : Bool) : Int := if ix g p < 0 then 0 else if wr && !(g (ix g p).toNat).b then 0 else (g (ix g p).toNat).f
/-- What Put makes. -/
def putG (g : Nat → En) (n : Nat) (p f : Int) (b : Bool) : Nat → En := if f < 1 then g else if ix g p < 0 then upd g n ⟨p, f, b⟩ else upd g (ix g p).toNat ⟨p, f, b⟩
def putN (g : Nat → En) (n : Nat) (p f : Int) : Nat := if f < 1 then n else if ix g p < 0 then (n + 1) % 4 else n
/-- How many of the first k places contain a page. -/
def cnt (g : Nat → En) : Nat → Nat
  | 0 => 0
  | k + 1 => cnt g k + if (g k).f = 0 then 0 else 1
/-- What a TLB is at all times. -/
structure Ok (g : Nat → En) (n : Nat) : Prop where
  next : n < 4
  pos : ∀ i, i < 4 → 0 ≤ (g i).f
  one : ∀ i j, i < 4 → j < 4 → (g i).f ≠ 0 → (g j).f ≠ 0 → (g i).p = (g j).p → i = j
theorem Ok.new : Ok (fun _ => bare0) 0 := ⟨by omega, fun _ _ => Int.le_refl _, fun i j _ _ h => absurd rfl h⟩
theorem upd_same (g : Nat → En) (k : Nat) (e : En) : upd g k e k = e := if_pos rfl
theorem upd_ne (g : Nat → En) {k i : Nat} (e : En) (h : i ≠ k) : upd g k e i = g i := if_neg h
theorem hit_iff {g : Nat → En} {p : Int} {i : Nat} : hit g p i = true ↔ (g i).f ≠ 0 ∧ (g i).p = p := by simp [hit]
theorem hit_not {g : Nat → En} {p : Int} {i : Nat} : hit g p i = false ↔ ((g i).f ≠ 0 → (g i).p ≠ p) := by
  unfold hit; by_cases h : (g i).f = 0 <;> simp [h]
theorem Ok.put {g : Nat → En} {n : Nat} (h : Ok g n) (p f : Int) (b : Bool) : Ok (putG g n p f b) (putN g n p f) := by
  unfold putG putN
  by_cases hf : f < 1
  · rw [if_pos hf, if_pos hf]; exact h
  rw [if_neg hf, if_neg hf]
  rcases ix_cases g p with ⟨e, hn⟩ | ⟨k, hk, e, hh, _⟩
  · rw [e, if_pos (by omega), if_pos (by omega)]
    refine ⟨by omega, fun i hi => ?_, fun i j hi hj hi0 hj0 he => ?_⟩
    · by_cases hin : i = n
      · rw [hin, upd_same]; show 0 ≤ f; omega
      · rw [upd_ne _ _ hin]; exact h.pos i hi
    · by_cases hin : i = n
      · by_cases hjn : j = n
        · omega
        · rw [upd_ne _ _ hjn] at hj0 he
          rw [hin, upd_same] at he
          exact absurd he.symm (hit_not.1 (hn j hj) hj0)
      · rw [upd_ne _ _ hin] at hi0 he
        by_cases hjn : j = n
        · rw [hjn, upd_same] at he
          exact absurd he (hit_not.1 (hn i hi) hi0)
        · rw [upd_ne _ _ hjn] at hj0 he
          exact h.one i j hi hj hi0 hj0 he
  · rw [e, if_neg (by omega), if_neg (by omega), Int.toNat_natCast]
    obtain ⟨h0, h1⟩ := hit_iff.1 hh
    refine ⟨h.next, fun i hi => ?_, fun i j hi hj hi0 hj0 he => ?_⟩
    · by_cases hin : i = k
      · rw [hin, upd_same]; show 0 ≤ f; omega
      · rw [upd_ne _ _ hin]; exact h.pos i hi
    · by_cases hin : i = k
      · by_cases hjn : j = k
        · omega
        · rw [upd_ne _ _ hjn] at hj0 he
          rw [hin, upd_same] at he
          exact hin.trans (h.one k j hk hj h0 hj0 (h1.trans he))
      · rw [upd_ne _ _ hin] at hi0 he
        by_cases hjn : j = k
        · rw [hjn, upd_same] at he
          exact (h.one i k hi hk hi0 h0 (he.trans h1.symm)).trans hjn.symm
        · rw [upd_ne _ _ hjn] at hj0 he
          exact h.one i j hi hj hi0 hj0 he
end Tl
namespace Go.Proofs.Ytncbbfiafnpimaa
open Go.RowKit Tl
set_option linter.unusedVariables false
set_option linter.unusedSimpArgs false
theorem addr_add (b off j : Nat) : (⟨b, off, none⟩ : Addr).add j = ⟨b, off + j, none⟩ := by
  unfold Addr.add; split <;> simp_all
theorem below_alloc1 (w : World) (o : Obj) : Below w.heap.size w (w.alloc o) := (Below.refl _ _).alloc (Nat.le_refl _) _
/-- Only what is listed has turned, and what is new. -/
structure Turn (S : List Nat) (w w' : World) : Prop where
  os : w'.os = w.os
  tape : w'.tape = w.tape
  output : w'.output = w.output
  size : w.heap.size ≤ w'.heap.size
  block : ∀ k, k < w.heap.size → k ∉ S → w'.heap[k]? = w.heap[k]?
theorem Turn.refl (S : List Nat) (w : World) : Turn S w w := ⟨rfl, rfl, rfl, Nat.le_refl _, fun _ _ _ => rfl⟩
theorem Turn.of_below {S : List Nat} {w w' : World} (h : Below w.heap.size w w') : Turn S w w' := ⟨h.os, h.tape, h.output, h.size, fun k hk _ => h.block k hk⟩
theorem Turn.below {S : List Nat} {w w' : World} (h : Turn S w w') {X : Nat} (hX : X ≤ w.heap.size) (hS : ∀ b ∈ S, X ≤ b) : Below X w w' :=
  ⟨h.os, h.tape, h.output, h.size, fun k hk => h.block k (by omega) fun hm => by have := hS k hm; omega⟩
theorem Turn.trans {S S' : List Nat} {a b c : World} (h : Turn S a b) (k : Turn S' b c) (hs : ∀ x ∈ S', x ∈ S ∨ a.heap.size ≤ x) : Turn S a c :=
  ⟨k.os.trans h.os, k.tape.trans h.tape, k.output.trans h.output, Nat.le_trans h.size k.size, fun i hi hn =>
    (k.block i (Nat.lt_of_lt_of_le hi h.size) fun hm => by rcases hs i hm with h | h; exact hn h; omega).trans (h.block i hi hn)⟩
theorem Turn.drew {S : List Nat} {a b : World} (h : Turn S a b) : Turn S a b.drew := h.trans (S' := []) ⟨rfl, rfl, rfl, Nat.le_refl _, fun _ _ _ => rfl⟩ (by simp)
theorem Turn.set (w : World) (b i : Nat) (v : Value) : Turn [b] w (w.setCell ⟨b, i, none⟩ v) :=
  ⟨rfl, rfl, rfl, by simp, fun k _ hn => heap_setCell_other _ _ _ _ (fun e => hn (by simp [e]))⟩
/-- A place's cells. -/
def ec (e : En) : List Value := [.int .i64 e.p, .int .i64 e.f, .bool e.b]
def pc (g : Nat → En) : List Value := ec (g 0) ++ (ec (g 1) ++ (ec (g 2) ++ ec (g 3)))
def tc (g : Nat → En) (n : Nat) : List Value := pc g ++ [.int .i64 (n : Int)]
/-- A TLB in block R. -/
def Tb (w : World) (R : Nat) (g : Nat → En) (n : Nat) : Prop := w.heap[R]? = some (Obj.cells (tc g n).toArray 28)
theorem Tb.lt {w : World} {R : Nat} {g : Nat → En} {n : Nat} (h : Tb w R g n) : R < w.heap.size := (Array.getElem?_eq_some_iff.1 h).1
theorem Tb.below {w w' : World} {R : Nat} {g : Nat → En} {n : Nat} (h : Tb w R g n) (hb : Below w.heap.size w w') : Tb w' R g n := (hb.block R h.lt).trans h
theorem Tb.turn {w w' : World} {R : Nat} {S : List Nat} {g : Nat → En} {n : Nat} (h : Tb w R g n) (hb : Turn S w w') (hS : R ∉ S) : Tb w' R g n := (hb.block R h.lt hS).trans h
theorem ec_len (e : En) : (ec e).length = 3 := rfl
theorem pc_len (g : Nat → En) : (pc g).length = 12 := rfl
theorem tc_len (g : Nat → En) (n : Nat) : (tc g n).length = 13 := rfl
theorem Tb.cell {w : World} {R : Nat} {g : Nat → En} {n : Nat} (h : Tb w R g n) (o : Nat) : w.cell? ⟨R, o, none⟩ = (tc g n)[o]? := by
  rw [cell_of_row _ _ _ _ 28 (0, 0) h, List.getElem?_toArray]
theorem tc_at (g : Nat → En) (n : Nat) {k : Nat} (hk : k < 4) : (tc g n)[k * 3]? = some (.int .i64 (g k).p) ∧ (tc g n)[k * 3 + 1]? = some (.int .i64 (g k).f) ∧ (tc g n)[k * 3 + 2]? = some (.bool (g k).b) := by
  match k, hk with
  | 0, _ => exact ⟨rfl, rfl, rfl⟩
  | 1, _ => exact ⟨rfl, rfl, rfl⟩
  | 2, _ => exact ⟨rfl, rfl, rfl⟩
  | 3, _ => exact ⟨rfl, rfl, rfl⟩
theorem tc_next (g : Nat → En) (n : Nat) : (tc g n)[12]? = some (.int .i64 (n : Int)) := rfl
theorem Tb.places {w : World} {R : Nat} {g : Nat → En} {n : Nat} (h : Tb w R g n) : w.rangeAt R 0 (pc g) := fun j v hj => by
  rw [Nat.zero_add, h.cell j, tc, List.getElem?_append_left (List.getElem?_eq_some_iff.1 hj).1]; exact hj
theorem run_place (g : Nat → En) (w : World) {k : Nat} (hk : k < 4) : Sem.run Try.prog (Instr.index 26 (.agg (pc g).toArray) (.int .i64 (k : Int))) w = .ok (.agg #[.int .i64 (g k).p, .int .i64 (g k).f, .bool (g k).b]) w := by
  match k, hk with
  | 0, _ => rfl
  | 1, _ => rfl
  | 2, _ => rfl
  | 3, _ => rfl
theorem size26 : (Try.prog.info? 26).map (·.size) = some 12 := by kernel_rfl
theorem size25 : (Try.prog.info? 25).map (·.size) = some 3 := by kernel_rfl
theorem size28 : (Try.prog.info? 28).map (·.size) = some 13 := by kernel_rfl
theorem splice_get {α : Type} (L cs : List α) (o i : Nat) (h : o + cs.length ≤ L.length) : (splice L o cs)[i]? = if i < o then L[i]? else if i < o + cs.length then cs[i - o]? else L[i]? := by
  unfold splice
  rw [List.getElem?_append, List.length_take, Nat.min_eq_left (by omega)]
  by_cases h1 : i < o
  · rw [if_pos h1, if_pos h1, List.getElem?_take, if_pos h1]
  · rw [if_neg h1, if_neg h1, List.getElem?_append]
    by_cases h2 : i < o + cs.length
    · rw [if_pos h2, if_pos (by omega)]
    · rw [if_neg h2, if_neg (by omega), List.getElem?_drop]
      congr 1
      omega
theorem splice_step {α : Type} (cs r : List α) (o : Nat) (v : α) (h : o + (r.length + 1) ≤ cs.length) : splice (cs.set o v) (o + 1) r = splice cs o (v :: r) := by
  apply List.ext_getElem?
  intro i
  rw [splice_get _ _ _ _ (by rw [List.length_set]; omega), splice_get _ _ _ _ (by simpa using h), List.length_cons]
  by_cases h1 : i < o
  · rw [if_pos (by omega), if_pos h1, List.getElem?_set_ne (by omega)]
  · rw [if_neg h1]
    by_cases h2 : i = o
    · subst h2
      rw [if_pos (by omega), if_pos (by omega), Nat.sub_self, List.getElem?_set_self (by omega)]
      rfl
    · rw [if_neg (by omega)]
      by_cases h3 : i < o + (r.length + 1)
      · rw [if_pos (by omega), if_pos h3, show i - o = (i - (o + 1)) + 1 by omega]
        rfl
      · rw [if_neg (by omega), if_neg h3, List.getElem?_set_ne (by omega)]
theorem setCells_heap (b : Nat) (t : TypeId) : ∀ (vs : List Value) (o : Nat) (w : World) (cs : List Value), w.heap[b]? = some (Obj.cells cs.toArray t) → o + vs.length ≤ cs.length → (w.setCells b o vs).heap[b]? = some (Obj.cells (splice cs o vs).toArray t)
  | [], o, w, cs, h, _ => by
      unfold World.setCells splice
      simpa using h
  | v :: r, o, w, cs, h, hl => by
      unfold World.setCells
      simp only [List.length_cons] at hl
      have h1 := heap_setCell_same w b o cs.toArray t v h
      rw [List.setIfInBounds_toArray] at h1
      rw [setCells_heap b t r (o + 1) _ (cs.set o v) h1 (by simp; omega), splice_step cs r o v hl]
theorem setCells_other (b : Nat) : ∀ (vs : List Value) (o : Nat) (w : World) (k : Nat), k ≠ b → (w.setCells b o vs).heap[k]? = w.heap[k]?
  | [], o, w, k, h => rfl
  | v :: r, o, w, k, h => by
      unfold World.setCells
      rw [setCells_other b r (o + 1) _ k h, heap_setCell_other _ _ _ _ h]
theorem setCells_turn (b : Nat) : ∀ (vs : List Value) (o : Nat) (w : World), Turn [b] w (w.setCells b o vs)
  | [], o, w => Turn.refl _ _
  | v :: r, o, w => by
      unfold World.setCells
      refine Turn.trans ?_ (setCells_turn b r (o + 1) _) (fun x hx => .inl hx)
      exact ⟨rfl, rfl, rfl, by simp, fun k _ hn => heap_setCell_other _ _ _ _ (fun e => hn (by simp [e]))⟩
theorem splice_place (g : Nat → En) (n : Nat) {k : Nat} (hk : k < 4) (e : En) : splice (tc g n) (k * 3) (ec e) = tc (upd g k e) n := by
  match k, hk with
  | 0, _ => rfl
  | 1, _ => rfl
  | 2, _ => rfl
  | 3, _ => rfl
theorem splice_next (g : Nat → En) (n m : Nat) : (tc g n).set 12 (.int .i64 (m : Int)) = tc g m := rfl
theorem Tb.there {w : World} {R : Nat} {g : Nat → En} {n : Nat} (h : Tb w R g n) (o m : Nat) (hm : o + m ≤ 13) : w.there R o m := fun j hj =>
  ⟨by rw [h.cell, List.getElem?_eq_getElem (by rw [tc_len]; omega)]; rfl, frozen_of_row _ _ _ _ 28 h⟩
theorem Tb.place {w : World} {R : Nat} {g : Nat → En} {n : Nat} (h : Tb w R g n) {k : Nat} (hk : k < 4) (e : En) : Tb (w.setCells R (k * 3) (ec e)) R (upd g k e) n := by
  unfold Tb
  rw [setCells_heap R 28 (ec e) (k * 3) w (tc g n) h (by rw [ec_len, tc_len]; omega), splice_place g n hk e]
theorem Tb.nexts {w : World} {R : Nat} {g : Nat → En} {n : Nat} (h : Tb w R g n) (m : Nat) : Tb (w.setCell ⟨R, 12, none⟩ (.int .i64 (m : Int))) R g m := by
  unfold Tb
  rw [heap_setCell_same w R 12 _ 28 _ h, List.setIfInBounds_toArray, splice_next]
theorem Tb.flush {w : World} {R : Nat} {g : Nat → En} {n : Nat} (h : Tb w R g n) : Tb (w.setCells R 0 (tc (fun _ => bare0) 0)) R (fun _ => bare0) 0 := by
  unfold Tb
  rw [setCells_heap R 28 _ 0 w (tc g n) h (by rw [tc_len, tc_len]; omega)]
  rfl
end Go.Proofs.Ytncbbfiafnpimaa
