/- Clocks in memory: what each call does. -/
import Derived.Test.YtjmdgmlpecjolaaVt
set_option linter.unusedVariables false
set_option linter.unusedSimpArgs false
namespace Go.Proofs.Ytjmdgmlpecjolaa
open Go.RowKit
set_option linter.unusedVariables false
set_option linter.unusedSimpArgs false
/-- A clock: its slot, how many ticks are left of it, how many there were, and the turns of each slot. -/
structure Ck where
  s : Nat
  l : Int
  n : Int
  t : Nat → Int
def Ck.cells (c : Ck) : Array Value := #[.int .i64 (c.s : Int), .int .i64 c.l, .int .u64 c.n, .int .u64 (c.t 0), .int .u64 (c.t 1), .int .u64 (c.t 2), .int .u64 (c.t 3), .int .u64 (c.t 4), .int .u64 (c.t 5), .int .u64 (c.t 6), .int .u64 (c.t 7)]
/-- The clock in block b. -/
def CV (w : World) (b : Nat) (c : Ck) : Prop := w.heap[b]? = some (Obj.cells c.cells 29)
def updT (t : Nat → Int) (k : Nat) (x : Int) : Nat → Int := fun i => if i = k then x else t i
variable {w w' : World} {b B off n cp k k' : Nat} {c : Ck} {xs : List Sl} {cc x : Int} {A : Option Addr}
theorem CV.lt (h : CV w b c) : b < w.heap.size := (Array.getElem?_eq_some_iff.1 h).1
theorem CV.below (h : CV w b c) (hb : Below w.heap.size w w') : CV w' b c := (hb.block b h.lt).trans h
theorem CV.turn {S : List Nat} (h : CV w b c) (hb : Turn S w w') (hn : b ∉ S) : CV w' b c := (hb.block b h.lt hn).trans h
theorem CV.drew (h : CV w b c) : CV w.drew b c := h
theorem CV.new (w : World) (c : Ck) : CV (w.alloc (Obj.cells c.cells 29)) w.heap.size c := heap_alloc_new w _
theorem CV.c0 (h : CV w b c) : w.cell? ⟨b, 0, none⟩ = some (.int .i64 (c.s : Int)) := by rw [cell_of_row _ _ 0 _ _ _ h]; rfl
theorem CV.c1 (h : CV w b c) : w.cell? ⟨b, 1, none⟩ = some (.int .i64 c.l) := by rw [cell_of_row _ _ 1 _ _ _ h]; rfl
theorem CV.c2 (h : CV w b c) : w.cell? ⟨b, 2, none⟩ = some (.int .u64 c.n) := by rw [cell_of_row _ _ 2 _ _ _ h]; rfl
theorem CV.ct (h : CV w b c) {i : Nat} (hi : i < 8) : w.cell? ⟨b, 3 + i, none⟩ = some (.int .u64 (c.t i)) := by
  rw [cell_of_row _ _ (3 + i) _ _ _ h]
  match i, hi with
  | 0, _ | 1, _ | 2, _ | 3, _ | 4, _ | 5, _ | 6, _ | 7, _ => rfl
theorem CV.f (h : CV w b c) (i : Nat) : w.frozen? ⟨b, i, none⟩ = false := frozen_of_row _ _ _ _ _ h
theorem CV.set0 (h : CV w b c) (k : Nat) : CV (w.setCell ⟨b, 0, none⟩ (.int .i64 (k : Int))) b { c with s := k } := heap_setCell_same _ _ 0 _ _ _ h
theorem CV.set1 (h : CV w b c) (x : Int) : CV (w.setCell ⟨b, 1, none⟩ (.int .i64 x)) b { c with l := x } := heap_setCell_same _ _ 1 _ _ _ h
theorem CV.set2 (h : CV w b c) (x : Int) : CV (w.setCell ⟨b, 2, none⟩ (.int .u64 x)) b { c with n := x } := heap_setCell_same _ _ 2 _ _ _ h
theorem CV.sett (h : CV w b c) {i : Nat} (hi : i < 8) (x : Int) : CV (w.setCell ⟨b, 3 + i, none⟩ (.int .u64 x)) b { c with t := updT c.t i x } := by
  have := heap_setCell_same _ _ (3 + i) _ _ (.int .u64 x) h
  unfold CV
  rw [this]
  congr 2
  match i, hi with
  | 0, _ | 1, _ | 2, _ | 3, _ | 4, _ | 5, _ | 6, _ | 7, _ => rfl
theorem other_cell {p : Nat} {q : Nat} {u x : Value} (h : w.cell? ⟨B, p, none⟩ = some x) (hne : B ≠ b) : (w.setCell ⟨b, q, none⟩ u).cell? ⟨B, p, none⟩ = some x := by
  rw [World.cell?_setCell_other _ _ _ _ (fun e => hne (by injection e with e; exact e.symm))]; exact h
theorem min2 {P : Program} (w : World) (ts : Array TypeId) (t : TypeId) (k k' : IntKind) (x y : Int) : (Builtin.min_ ts t #[.int k x, .int k' y]).run P w = .ok (.int k (min x y)) w := by
  have e : ∀ x y : Int, (if y < x then y else x) = min x y := fun x y => by
    rw [Int.min_def]
    split <;> split <;> omega
  simp [Builtin.min_, Builtin.min2, e]
set_option maxHeartbeats 1000000 in
theorem begin_any (hv : CV w b c) (hl : xs.length = n) (h0 : 0 < n) (h8 : n ≤ 8) (hc : n ≤ cp) (hcm : cp ≤ maxLen) (hr : LV 2 encS w (some ⟨B, off, none⟩) xs) (hne : B ≠ b) (hk : k' = if k < n then k else 0) (hx : xs[k']? = some ⟨cc, x⟩) :
    Calls Try.prog 16 #[.pointer (some ⟨b, 0, none⟩), .slice (some ⟨B, off, none⟩) n cp, .int .i64 (k : Int)] w fun e w' => e = .returned (.tuple #[]) ∧ Turn [b] w w' ∧ CV w' b ⟨k', x, c.n, c.t⟩ := by
  have hm := @min2 Try.prog
  have m1 : min (n : Int) 8 = n := by omega
  have n0 : (n : Int) > 0 := by omega
  have n1 : (0 : Int) < n := n0
  have hk2 : k' < n := by split at hk <;> omega
  have d1 : w.cell? ⟨B, off + k' * 2 + 1, none⟩ = some (.int .i64 x) := hr.at_ hx rfl
  have V1 := hv.set0 k'
  have V2 := V1.set1 0
  have V3 := V2.set1 x
  have d2 : ((w.setCell ⟨b, 0, none⟩ (.int .i64 (k' : Int))).setCell ⟨b, 1, none⟩ (.int .i64 0)).cell? ⟨B, off + k' * 2 + 1, none⟩ = some (.int .i64 x) := other_cell (other_cell d1 hne) hne
  have f0 := hv.f 0
  have f1 := hv.f 1
  have T3 : Hid (Turn [b] w (((w.setCell ⟨b, 0, none⟩ (.int .i64 (k' : Int))).setCell ⟨b, 1, none⟩ (.int .i64 0)).setCell ⟨b, 1, none⟩ (.int .i64 x))) := Lib.hid (((Turn.set _ _ _ _).trans (Turn.set _ _ _ _) (by simp)).trans (Turn.set _ _ _ _) (by simp))
  have H := Lib.hid V3
  have l1 : (k' : Int) < n := by omega
  have hcm' : cp ≤ 9223372036854775807 := hcm
  have g1' := V2.f 1
  have c0 := hv.c0
  have c1 := hv.c1
  have d3 := V2.c1
  obtain ⟨w2, e2⟩ : ∃ w2, (w.setCell ⟨b, 0, none⟩ (.int .i64 (k' : Int))).setCell ⟨b, 1, none⟩ (.int .i64 0) = w2 := ⟨_, rfl⟩
  rw [e2] at d2 T3 H g1' d3
  clear hv V1 V2 V3 hr hx hne
  by_cases h : k < n
  · have g1 : ¬ (k : Int) ≥ n := by omega
    have g2 : ¬ (n : Int) ≤ k := by omega
    rw [if_pos h] at hk
    subst hk
    clear h
    go_enter Try.func16, Try.ntmps16
    go_wp2_with fail
    exact bodyPost_end (results_none rfl _ _ _) rfl ⟨rfl, T3.out, H.out⟩
  · have g1 : (k : Int) ≥ n := by omega
    have g2 : (n : Int) ≤ k := by omega
    rw [if_neg h] at hk
    subst hk
    clear h
    simp only [show ((0 : Nat) : Int) = 0 from rfl, Nat.zero_mul, Nat.add_zero] at d2 l1 e2
    go_enter Try.func16, Try.ntmps16
    go_wp2_with fail
    exact bodyPost_end (results_none rfl _ _ _) rfl ⟨rfl, T3.out, H.out⟩
/-- A table in memory: 1 to 8 slots at B, each with its ticks. -/
structure TW (w : World) (B off n cp : Nat) (xs : List Sl) : Prop where
  l : xs.length = n
  h0 : 0 < n
  h8 : n ≤ 8
  c : n ≤ cp
  m : cp ≤ maxLen
  r : LV 2 encS w (some ⟨B, off, none⟩) xs
  b : ∀ x ∈ xs, 1 ≤ x.t ∧ x.t ≤ 16
theorem TW.below (h : TW w B off n cp xs) (hb : Below w.heap.size w w') : TW w' B off n cp xs := ⟨h.l, h.h0, h.h8, h.c, h.m, h.r.below hb, h.b⟩
theorem TW.lt (h : TW w B off n cp xs) : B < w.heap.size := by
  obtain ⟨x, hx⟩ : ∃ x, xs[0]? = some x := ⟨_, List.getElem?_eq_getElem (by rw [h.l]; exact h.h0)⟩
  exact World.block_lt_of_cell? w _ (h.r.at_ hx (j := 0) rfl)
/-- How many ticks slot i has. -/
def tk (xs : List Sl) (i : Nat) : Int := (xs[i]?.getD ⟨0, 0⟩).t
theorem tk_at {i : Nat} (hi : i < xs.length) : ∃ cc, xs[i]? = some ⟨cc, tk xs i⟩ := by
  unfold tk
  rw [List.getElem?_eq_getElem hi]
  exact ⟨_, rfl⟩
/-- A clock behind a tick. -/
def nxt (xs : List Sl) (s : Nat) : Nat := if s + 1 < xs.length then s + 1 else 0
def tick (xs : List Sl) (c : Ck) : Ck := if c.l > 1 then ⟨c.s, c.l - 1, c.n + 1, c.t⟩ else ⟨nxt xs c.s, tk xs (nxt xs c.s), c.n + 1, c.t⟩
set_option maxHeartbeats 1000000 in
theorem tick_any (hv : CV w b c) (ht : TW w B off n cp xs) (hne : B ≠ b) (hs : c.s < 8) (hl : 0 ≤ c.l ∧ c.l ≤ 16) (hn : 0 ≤ c.n ∧ c.n ≤ 1000000) :
    Calls Try.prog 10 #[.pointer (some ⟨b, 0, none⟩), .slice (some ⟨B, off, none⟩) n cp] w fun e w' => e = .returned (.bool (decide (c.l ≤ 1))) ∧ Turn [b] w w' ∧ CV w' b (tick xs c) := by
  obtain ⟨s, l, m, t⟩ := c
  simp only at hs hl hn ⊢
  have c2 := hv.c2
  have f2 := hv.f 2
  simp only at c2
  obtain ⟨m', em⟩ : ∃ m', m + 1 = m' := ⟨_, rfl⟩
  have i1 : IntKind.u64.wrap (m + 1) = m' := by rw [IntKind.wrap_u64]; omega
  have V1 := hv.set2 (m + 1)
  simp only at V1
  rw [em] at V1
  have T1 := Turn.set w b 2 (.int .u64 m')
  have ht1 : TW (w.setCell ⟨b, 2, none⟩ (.int .u64 m')) B off n cp xs := ⟨ht.l, ht.h0, ht.h8, ht.c, ht.m, fun i x hx => by
    obtain ⟨b', o', e1, e2, e3⟩ := ht.r i x hx
    injection e1 with e1
    injection e1 with e1 e4
    subst e1 e4
    exact ⟨_, _, rfl, by simpa using e2, fun j u hu => other_cell (e3 j u hu) hne⟩, ht.b⟩
  obtain ⟨w2, e2⟩ : ∃ w2, w.setCell ⟨b, 2, none⟩ (.int .u64 m') = w2 := ⟨_, rfl⟩
  rw [e2] at V1 T1 ht1
  have d0 := V1.c0
  have d1 := V1.c1
  have g1 := V1.f 1
  simp only at d0 d1
  by_cases h1 : l > 1
  · have h2 : 1 < l := h1
    have j1 : IntKind.i64.wrap (l - 1) = l - 1 := by rw [IntKind.wrap_i64]; omega
    have V2 := V1.set1 (l - 1)
    have H := Lib.hid (And.intro (T1.trans (Turn.set w2 b 1 (.int .i64 (l - 1))) (by simp)) V2)
    have E := Lib.hid (show tick xs ⟨s, l, m, t⟩ = ⟨s, l - 1, m', t⟩ by unfold tick; rw [if_pos h1, em])
    have E2 := Lib.hid (show decide (l ≤ 1) = false from decide_eq_false (by omega))
    clear V2 V1 T1 ht1 ht hv hs hl hn em
    rw [E2.out]
    go_enter Try.func10, Try.ntmps10
    go_wp2_with fail
    go_ret
    exact ⟨rfl, H.out.1, by rw [E.out]; exact H.out.2⟩
  · have h2 : ¬ 1 < l := h1
    have j1 : IntKind.i64.wrap ((s : Int) + 1) = ((s + 1 : Nat) : Int) := by rw [IntKind.wrap_i64]; omega
    obtain ⟨cc, hx⟩ := tk_at (xs := xs) (i := nxt xs s) (by unfold nxt; have := ht.l; have := ht.h0; split <;> omega)
    have C := Lib.hid (begin_any V1 ht1.l ht1.h0 ht1.h8 ht1.c ht1.m ht1.r hne (k := s + 1) (k' := nxt xs s) (by unfold nxt; rw [ht1.l]) hx)
    have HT := Lib.hid T1
    have E := Lib.hid (show tick xs ⟨s, l, m, t⟩ = ⟨nxt xs s, tk xs (nxt xs s), m', t⟩ by unfold tick; rw [if_neg h1, em])
    have E2 := Lib.hid (show decide (l ≤ 1) = true from decide_eq_true (by omega))
    clear V1 T1 ht1 ht hv hs hl hn em hx
    rw [E2.out]
    go_enter Try.func10, Try.ntmps10
    go_wp2_with fail
    refine C.out.mono ?_; rintro e w3 ⟨rfl, hb, hc⟩
    have HB := Lib.hid (And.intro hb hc)
    clear hb hc C
    go_wp2_with fail
    go_ret
    exact ⟨rfl, HT.out.trans HB.out.1 (by simp), by rw [E.out]; exact HB.out.2⟩
end Go.Proofs.Ytjmdgmlpecjolaa
