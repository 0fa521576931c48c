/- SlotsRuns: a clock and the law's own reckoning of it. -/
import Derived.Test.YtjmdgmlpecjolaaCd
set_option linter.unusedVariables false
set_option linter.unusedSimpArgs false
namespace Go.Proofs.Ytjmdgmlpecjolaa
open Go.RowKit
set_option linter.unusedVariables false
set_option linter.unusedSimpArgs false
variable {W w w' : World} {b B off n cp k T s : Nat} {c c' : Ck} {ys : List Sl} {x l nn : Int} {tn : Nat → Nat}
/-- Eight numbers of a law's own. -/
def ar8 (tn : Nat → Nat) : Array Value := #[.int .i64 (tn 0 : Int), .int .i64 (tn 1 : Int), .int .i64 (tn 2 : Int), .int .i64 (tn 3 : Int), .int .i64 (tn 4 : Int), .int .i64 (tn 5 : Int), .int .i64 (tn 6 : Int), .int .i64 (tn 7 : Int)]
def AV (w : World) (T : Nat) (tn : Nat → Nat) : Prop := w.heap[T]? = some (Obj.cells (ar8 tn) 33)
def updN (t : Nat → Nat) (k : Nat) (x : Nat) : Nat → Nat := fun i => if i = k then x else t i
theorem AV.cell (h : AV w T tn) {i : Nat} (hi : i < 8) : w.cell? ⟨T, i, none⟩ = some (.int .i64 (tn i : Int)) := by
  rw [cell_of_row _ _ i _ _ _ h]
  match i, hi with
  | 0, _ | 1, _ | 2, _ | 3, _ | 4, _ | 5, _ | 6, _ | 7, _ => rfl
theorem AV.f (h : AV w T tn) (i : Nat) : w.frozen? ⟨T, i, none⟩ = false := frozen_of_row _ _ _ _ _ h
theorem AV.set (h : AV w T tn) {i : Nat} (hi : i < 8) (x : Nat) : AV (w.setCell ⟨T, i, none⟩ (.int .i64 (x : Int))) T (updN tn i x) := by
  have := heap_setCell_same _ _ i _ _ (.int .i64 (x : Int)) h
  unfold AV
  rw [this]
  congr 2
  match i, hi with
  | 0, _ | 1, _ | 2, _ | 3, _ | 4, _ | 5, _ | 6, _ | 7, _ => rfl
def cN (tn : Nat → Nat) : Nat → Int := fun i => (tn i : Int)
theorem turn_cN (s : Nat) (l nn : Int) (tn : Nat → Nat) : Ck.turn ⟨s, l, nn, cN tn⟩ = ⟨s, l, nn, cN (updN tn s (tn s + 1))⟩ := by
  unfold Ck.turn cN updN updT
  congr 1
  funext i
  simp only
  split <;> simp
/-- The clock and what the law reckons of it, behind k acts. -/
structure RN (W : World) (B off n cp : Nat) (ys : List Sl) (b T k s : Nat) (l nn : Int) (tn : Nat → Nat) (w : World) : Prop where
  ks : KS W B off n cp ys b ⟨s, l, nn, cN tn⟩ w
  ok : Kok ys ⟨s, l, nn, cN tn⟩
  av : AV w T tn
  hT : W.heap.size ≤ T
  ne : T ≠ b
  neB : T ≠ B
  hn : 0 ≤ nn ∧ nn ≤ k
  ht : ∀ i, tn i ≤ k
theorem RN.s8 (h : RN W B off n cp ys b T k s l nn tn w) : s < 8 := by have := h.ok.s; have := h.ks.ht.l; have := h.ks.ht.h8; simp only at *; omega
theorem RN.sn (h : RN W B off n cp ys b T k s l nn tn w) : s < n := by have := h.ok.s; have := h.ks.ht.l; simp only at *; omega
/-- A tick, told by the law: no slot begins. -/
theorem RN.stay (h : RN W B off n cp ys b T k s l nn tn w) (hk : k ≤ 500) (hl : l - 1 ≠ 0) (hw : Turn [] w w') : Calls Try.prog 10 #[.pointer (some ⟨b, 0, none⟩), .slice (some ⟨B, off, none⟩) n cp] w' fun e w'' => e = .returned (.bool false) ∧ RN W B off n cp ys b T (k + 1) s (l - 1) (nn + 1) tn w'' := by
  have hb := hw.nil
  have h1 := h.ok.l
  simp only at h1
  have hk2 : tick ys ⟨s, l, nn, cN tn⟩ = ⟨s, l - 1, nn + 1, cN tn⟩ := by unfold tick; simp only; rw [if_pos (by omega)]
  have hd : decide (l ≤ 1) = false := decide_eq_false (by omega)
  have := (h.ks.below hb).tick h.ok (by have := h.hn; simp only; omega)
  rw [hk2] at this
  simp only [hd] at this
  refine this.mono fun e w2 ⟨e1, e2, e3⟩ => ⟨e1, e2, ?_, ?_, h.hT, h.ne, h.neB, by have := h.hn; omega, fun i => Nat.le_succ_of_le (h.ht i)⟩
  · have := h.ok.tick h.ks.ht
    rw [hk2] at this
    exact this
  · exact (e3.block T (Nat.lt_of_lt_of_le (Array.getElem?_eq_some_iff.1 h.av).1 hb.size) (by simp; exact h.ne)).trans ((hb.block T (Array.getElem?_eq_some_iff.1 h.av).1).trans h.av)
/-- A tick, told by the law: the next slot begins. -/
theorem RN.next (h : RN W B off n cp ys b T k s l nn tn w) (hk : k ≤ 500) (hl : l - 1 = 0) (hw : Turn [] w w') : Calls Try.prog 10 #[.pointer (some ⟨b, 0, none⟩), .slice (some ⟨B, off, none⟩) n cp] w' fun e w'' => e = .returned (.bool true) ∧ RN W B off n cp ys b T (k + 1) (nxt ys s) (tk ys (nxt ys s)) (nn + 1) tn w'' := by
  have hb := hw.nil
  have hk2 : tick ys ⟨s, l, nn, cN tn⟩ = ⟨nxt ys s, tk ys (nxt ys s), nn + 1, cN tn⟩ := by unfold tick; simp only; rw [if_neg (by omega)]
  have hd : decide (l ≤ 1) = true := decide_eq_true (by omega)
  have := (h.ks.below hb).tick h.ok (by have := h.hn; simp only; omega)
  rw [hk2] at this
  simp only [hd] at this
  refine this.mono fun e w2 ⟨e1, e2, e3⟩ => ⟨e1, e2, ?_, ?_, h.hT, h.ne, h.neB, by have := h.hn; omega, fun i => Nat.le_succ_of_le (h.ht i)⟩
  · have := h.ok.tick h.ks.ht
    rw [hk2] at this
    exact this
  · exact (e3.block T (Nat.lt_of_lt_of_le (Array.getElem?_eq_some_iff.1 h.av).1 hb.size) (by simp; exact h.ne)).trans ((hb.block T (Array.getElem?_eq_some_iff.1 h.av).1).trans h.av)
/-- A turn: the clock's; then the law's own. -/
theorem RN.turn (h : RN W B off n cp ys b T k s l nn tn w) (hk : k ≤ 500) : Calls Try.prog 11 #[.pointer (some ⟨b, 0, none⟩)] w fun e w'' => e = .returned (.tuple #[]) ∧ AV w'' T tn ∧ RN W B off n cp ys b T (k + 1) s l nn (updN tn s (tn s + 1)) (w''.setCell ⟨T, s, none⟩ (.int .i64 ((tn s + 1 : Nat) : Int))) := by
  have hts := h.ht s
  have := h.ks.next h.ok (by show 0 ≤ (tn s : Int) ∧ (tn s : Int) ≤ 1000000; omega)
  rw [turn_cN] at this
  refine this.mono fun e w2 ⟨e1, e2, e3⟩ => ?_
  have hav : AV w2 T tn := (e3.block T (Array.getElem?_eq_some_iff.1 h.av).1 (by simp; exact h.ne)).trans h.av
  refine ⟨e1, hav, ?_, ⟨h.ok.s, h.ok.l⟩, hav.set h.s8 _, h.hT, h.ne, h.neB, by have := h.hn; omega, fun i => ?_⟩
  · have ht := Turn.set w2 T s (.int .i64 ((tn s + 1 : Nat) : Int))
    exact ⟨below_turn e2.hw ht (fun x hx => by simp at hx; subst hx; exact h.hT), e2.ht.turn ht (by simp; exact Ne.symm h.neB), e2.hv.turn ht (by simp; exact Ne.symm h.ne), e2.hb, e2.ne⟩
  · unfold updN
    have := h.ht i
    split <;> omega
theorem RN.below (h : RN W B off n cp ys b T k s l nn tn w) (hb : Below w.heap.size w w') : RN W B off n cp ys b T k s l nn tn w' :=
  ⟨h.ks.below hb, h.ok, (hb.block T (Array.getElem?_eq_some_iff.1 h.av).1).trans h.av, h.hT, h.ne, h.neB, h.hn, h.ht⟩
theorem RN.start (h : KS W B off n cp ys b (ck0 (tk ys 0)) w) (hk : Kok ys (ck0 (tk ys 0))) (hs : b < w.heap.size) (q : Nat) :
    RN W B off n cp ys b w.heap.size 0 0 (tk ys 0) 0 (fun _ => 0) ((w.drewN q).alloc (Obj.cells #[.int .i64 0, .int .i64 0, .int .i64 0, .int .i64 0, .int .i64 0, .int .i64 0, .int .i64 0, .int .i64 0] 33)) := by
  have b1 := drewN_below w q
  have b2 := below_alloc1 (w.drewN q) (Obj.cells #[.int .i64 0, .int .i64 0, .int .i64 0, .int .i64 0, .int .i64 0, .int .i64 0, .int .i64 0, .int .i64 0] 33)
  have hz : (w.drewN q).heap.size = w.heap.size := by simp
  refine ⟨(h.below b1).below b2, hk, ?_, h.hw.size, by omega, by have := h.ht.lt; omega, by omega, fun i => Nat.le_refl _⟩
  have := heap_alloc_new (w.drewN q) (Obj.cells #[.int .i64 0, .int .i64 0, .int .i64 0, .int .i64 0, .int .i64 0, .int .i64 0, .int .i64 0, .int .i64 0] 33)
  rw [hz] at this
  exact this
theorem nxt_rem (h : TW w B off n cp ys) (hs : s < n) : ((s : Int) + 1).tmod n = (nxt ys s : Nat) := by
  have := h.l
  rw [Int.tmod_eq_emod_of_nonneg (by omega)]
  unfold nxt
  split
  · rw [Int.emod_eq_of_lt (by omega) (by omega)]; omega
  · rw [show (s : Int) + 1 = n by omega, Int.emod_self]; rfl
theorem tk_cell (h : TW w B off n cp ys) {i : Nat} (hi : i < n) : w.cell? ⟨B, off + i * 2 + 1, none⟩ = some (.int .i64 (tk ys i)) := by
  obtain ⟨cc, hx⟩ := tk_at (xs := ys) (i := i) (by rw [h.l]; exact hi)
  exact h.r.at_ hx rfl
end Go.Proofs.Ytjmdgmlpecjolaa
