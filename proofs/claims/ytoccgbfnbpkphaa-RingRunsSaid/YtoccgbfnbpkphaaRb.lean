/- A ring's calls that read; Push. -/
import Derived.Test.YtoccgbfnbpkphaaRa
set_option linter.unusedVariables false
set_option linter.unusedSimpArgs false
namespace Go.Proofs.Ytoccgbfnbpkphaa
open Go.RowKit Rn
set_option linter.unusedVariables false
set_option linter.unusedSimpArgs false
/-- A ring in block R. -/
def RM (w : World) (R : Nat) (g : Nat → Pk) (n lost : Nat) (v : Value) : Prop := ∃ cs, w.heap[R]? = some (Obj.cells cs.toArray 30) ∧ Rg g n lost v cs
variable {w w' : World} {R : Nat} {g : Nat → Pk} {n lost : Nat} {v : Value}
theorem RM.lt (h : RM w R g n lost v) : R < w.heap.size := by
  obtain ⟨cs, h1, _⟩ := h; exact (Array.getElem?_eq_some_iff.1 h1).1
theorem RM.same (h : RM w R g n lost v) (hs : w'.heap[R]? = w.heap[R]?) : RM w' R g n lost v := by
  obtain ⟨cs, h1, h2⟩ := h; exact ⟨cs, hs.trans h1, h2⟩
theorem RM.cn (h : RM w R g n lost v) : w.cell? ⟨R, 264, none⟩ = some (.int .i64 (n : Int)) := by
  obtain ⟨cs, h1, h2⟩ := h; rw [cell_of_row _ _ _ _ 30 (0, 0) h1, List.getElem?_toArray]; exact h2.cn
theorem RM.cl (h : RM w R g n lost v) : w.cell? ⟨R, 265, none⟩ = some (.int .i64 (lost : Int)) := by
  obtain ⟨cs, h1, h2⟩ := h; rw [cell_of_row _ _ _ _ 30 (0, 0) h1, List.getElem?_toArray]; exact h2.cl
theorem RM.co (h : RM w R g n lost v) : w.cell? ⟨R, 266, none⟩ = some v := by
  obtain ⟨cs, h1, h2⟩ := h; rw [cell_of_row _ _ _ _ 30 (0, 0) h1, List.getElem?_toArray]; exact h2.co
theorem RM.fr (h : RM w R g n lost v) (o : Nat) : w.frozen? ⟨R, o, none⟩ = false := by
  obtain ⟨cs, h1, h2⟩ := h; exact frozen_of_row _ _ _ _ 30 h1
theorem RM.there (h : RM w R g n lost v) (o m : Nat) (hm : o + m ≤ 267) : w.there R o m := fun j hj => by
  refine ⟨?_, h.fr _⟩
  obtain ⟨cs, h1, h2⟩ := h
  rw [cell_of_row _ _ _ _ 30 (0, 0) h1, List.getElem?_toArray, List.getElem?_eq_getElem (by rw [h2.len]; omega)]; rfl
theorem RM.setn (h : RM w R g n lost v) (m : Nat) : RM (w.setCell ⟨R, 264, none⟩ (.int .i64 (m : Int))) R g m lost v := by
  obtain ⟨cs, h1, h2⟩ := h
  exact ⟨_, by rw [heap_setCell_same w R 264 _ 30 _ h1, List.setIfInBounds_toArray], h2.setn m⟩
theorem RM.setl (h : RM w R g n lost v) (m : Nat) : RM (w.setCell ⟨R, 265, none⟩ (.int .i64 (m : Int))) R g n m v := by
  obtain ⟨cs, h1, h2⟩ := h
  exact ⟨_, by rw [heap_setCell_same w R 265 _ 30 _ h1, List.setIfInBounds_toArray], h2.setl m⟩
theorem RM.seto (h : RM w R g n lost v) (u : Value) : RM (w.setCell ⟨R, 266, none⟩ u) R g n lost u := by
  obtain ⟨cs, h1, h2⟩ := h
  exact ⟨_, by rw [heap_setCell_same w R 266 _ 30 _ h1, List.setIfInBounds_toArray], h2.seto u⟩
theorem len_none (w : World) : Calls Try.prog 13 #[.pointer none] w fun e w' => e = .returned (.int .i64 0) ∧ w' = w := by
  go_enter Try.func13, Try.ntmps13
  go_wp2_with fail
  go_ret
  exact ⟨rfl, rfl⟩
theorem lost_none (w : World) : Calls Try.prog 14 #[.pointer none] w fun e w' => e = .returned (.int .i64 0) ∧ w' = w := by
  go_enter Try.func14, Try.ntmps14
  go_wp2_with fail
  go_ret
  exact ⟨rfl, rfl⟩
theorem out_none (w : World) : Calls Try.prog 12 #[.pointer none] w fun e w' => e = .returned (.slice none 0 0) ∧ w' = w := by
  go_enter Try.func12, Try.ntmps12
  go_wp2_with fail
  go_ret
  exact ⟨rfl, rfl⟩
theorem len_any (h : RM w R g n lost v) : Calls Try.prog 13 #[.pointer (some ⟨R, 0, none⟩)] w fun e w' => e = .returned (.int .i64 (n : Int)) ∧ w' = w := by
  have c := h.cn
  go_enter Try.func13, Try.ntmps13
  go_wp2_with fail
  go_ret
  exact ⟨rfl, rfl⟩
theorem lost_any (h : RM w R g n lost v) : Calls Try.prog 14 #[.pointer (some ⟨R, 0, none⟩)] w fun e w' => e = .returned (.int .i64 (lost : Int)) ∧ w' = w := by
  have c := h.cl
  go_enter Try.func14, Try.ntmps14
  go_wp2_with fail
  go_ret
  exact ⟨rfl, rfl⟩
theorem push_none (w : World) (A : Option Addr) (l c : Nat) : Calls Try.prog 8 #[.pointer none, .slice A l c] w fun e w' => e = .returned (.bool false) ∧ w' = w := by
  go_enter Try.func8, Try.ntmps8
  go_wp2_with fail
  go_ret
  exact ⟨rfl, rfl⟩
theorem BR.at' {w : World} {A : Option Addr} {bs : List Nat} (h : BR w A bs) (h0 : 0 < bs.length) : ∃ b off, A = some ⟨b, off, none⟩ ∧ ∀ j v, (Y bs)[j]? = some v → w.cell? ((⟨b, off, none⟩ : Addr).add j) = some v := by
  obtain ⟨b, off, rfl, _, _⟩ := h 0 _ (List.getElem?_eq_getElem h0)
  refine ⟨b, off, rfl, fun j v hv => ?_⟩
  obtain ⟨x, hx, rfl⟩ := Y_get hv
  obtain ⟨b', off', e, _, hc⟩ := h j x hx
  injection e with e
  injection e with e1 e2
  subst e1 e2
  rw [addr_add]; exact hc
theorem BR.take {w : World} {A : Option Addr} {bs : List Nat} (h : BR w A bs) (k : Nat) : BR w A (bs.take k) := fun i x hi => by
  rw [List.getElem?_take] at hi
  split at hi
  · exact h i x hi
  · cases hi
theorem BR.same {w w' : World} {A : Option Addr} {bs : List Nat} (h : BR w A bs) (hs : w'.heap = w.heap) : BR w' A bs := fun i x hi => by
  obtain ⟨b, off, h1, h2, h3⟩ := h i x hi
  exact ⟨b, off, h1, by rw [hs]; exact h2, by rw [← h3]; unfold World.cell?; rw [hs]⟩
/-- Bytes are copied into a block, or nothing is. -/
theorem copy_any (w : World) (ty t : TypeId) (b x dl dc sl sc n : Nat) (A : Option Addr) (cur : List Value) (bs : List Nat) (hd : w.heap[b]? = some (Obj.cells cur.toArray t)) (hn : bs.length = n) (h1 : Nat.min sl dl = n) (hfit : x + n ≤ cur.length) (hr : BR w A bs) :
    ∃ w', (Builtin.copy_ #[32, 32] ty #[.slice (some ⟨b, x, none⟩) dl dc, .slice A sl sc]).run Try.prog w = .ok (goInt n) w' ∧ w'.heap[b]? = some (Obj.cells (splice cur x (Y bs)).toArray t) ∧ Turn [b] w w' := by
  by_cases h0 : n = 0
  · subst h0
    have hb0 : bs = [] := List.eq_nil_of_length_eq_zero hn
    exact ⟨w, run_copy_none w _ _ ty 5 _ _ _ _ _ _ Try.underlying32 size5 h1, by subst hb0; simpa [splice, Y] using hd, Turn.refl _ _⟩
  · obtain ⟨sb, so, rfl, hs⟩ := hr.at' (by omega)
    have hrun := run_copy_row (P := Try.prog) w 32 32 ty 5 b x dl dc ⟨sb, so, none⟩ sl sc cur.toArray t (Y bs) Try.underlying32 size5 hd (by rw [Y_len, hn, h1]) hs (by rw [Y_len, hn, List.size_toArray]; omega) (Y_one bs)
    rw [Y_len, hn] at hrun
    refine ⟨_, hrun, ?_, ?_⟩
    · rw [setRow_heap w b _ _ _ _ hd]
      congr 2
      unfold splice
      rw [Y_len, hn]
      simp
    · exact Turn.row w b _
set_option maxHeartbeats 1000000 in
theorem push_full (h : RM w R g 8 lost v) (hl : lost ≤ 1000000) (A : Option Addr) (l c : Nat) : Calls Try.prog 8 #[.pointer (some ⟨R, 0, none⟩), .slice A l c] w fun e w' => e = .returned (.bool false) ∧ Turn [R] w w' ∧ RM w' R g 8 (lost + 1) v := by
  have c1 := h.cn
  have c2 := h.cl
  have f2 := h.fr 265
  have HE := Lib.hid (And.intro (Turn.set w R 265 (.int .i64 ((lost : Int) + 1))) (h.setl (lost + 1)))
  have i1 : IntKind.i64.wrap ((lost : Int) + 1) = (lost : Int) + 1 := by rw [IntKind.wrap_i64]; omega
  clear h
  go_enter Try.func8, Try.ntmps8
  go_wp2_with fail
  go_ret
  exact ⟨rfl, HE.out⟩
set_option maxHeartbeats 1000000 in
theorem push_any (h : RM w R g n lost v) (hn : n < 8) (A : Option Addr) (l c : Nat) (bs : List Nat) (hbl : bs.length = l) (hbr : BR w A bs) (hb : ∀ x ∈ bs, x < 256) (hm : l ≤ 140737488351232) : Calls Try.prog 8 #[.pointer (some ⟨R, 0, none⟩), .slice A l c] w fun e w' => e = .returned (.bool true) ∧ Turn [R] w w' ∧ RM w' R (upd g n (come (g n) bs)) (n + 1) lost v := by
  have c1 := h.cn
  have H := Lib.hid h
  have HB := Lib.hid (And.intro hbl (And.intro hbr hb))
  clear h hbl hbr hb
  have n8 : ((n : Int) == 8) = false := by rw [beq_eq_false_iff_ne]; omega
  have j1 : (n : Int) < 8 := by omega
  have j2 : 0 ≤ (n : Int) := by omega
  go_enter Try.func8, Try.ntmps8
  go_upto_region 6 with fail
  go_quiet (fail)
  obtain ⟨X, eX⟩ : ∃ X, w.drewN nq = X := ⟨_, rfl⟩
  have hX : Turn [R] w X ∧ X.heap = w.heap := by rw [← eX]; exact ⟨⟨rfl, rfl, rfl, Nat.le_refl _, fun _ _ _ => rfl⟩, rfl⟩
  rw [eX]
  clear c1
  obtain ⟨m, em⟩ : ∃ m, min l 32 = m := ⟨_, rfl⟩
  obtain ⟨cs, hcs, hrg⟩ := H.out.same (w' := X) (by rw [hX.2])
  have htl : (bs.take 32).length = m := by rw [List.length_take, HB.out.1, Nat.min_comm, em]
  obtain ⟨w2, hrun, hw2, ht2⟩ := copy_any X 3 30 R (n * 33) 32 32 l c m A cs (bs.take 32) hcs htl (by have : Nat.min l 32 = min l 32 := rfl; omega) (by rw [hrg.len]; omega) ((HB.out.2.1.take 32).same hX.2)
  have c3 : w2.cell? ⟨R, n * 33 + 32, none⟩ = some (.int .i64 ((g n).n : Int)) := by
    rw [cell_of_row _ _ _ _ 30 (0, 0) hw2, List.getElem?_toArray, splice_get _ _ _ _ (by rw [Y_len, htl, hrg.len]; omega), if_neg (by omega), if_neg (by rw [Y_len, htl]; omega)]
    exact hrg.cell n hn 32 _ (kc_n (hrg.ok n hn).1)
  have f3 : w2.frozen? ⟨R, n * 33 + 32, none⟩ = false := frozen_of_row _ _ _ _ 30 hw2
  have h3 : RM (w2.setCell ⟨R, n * 33 + 32, none⟩ (.int .i64 (m : Int))) R (upd g n (come (g n) bs)) n lost v :=
    ⟨_, by rw [heap_setCell_same w2 R (n * 33 + 32) _ 30 _ hw2, List.setIfInBounds_toArray], hrg.come hn HB.out.2.2 (by rw [HB.out.1, em])⟩
  have c4 := h3.cn
  have f4 := h3.fr 264
  have i1 : IntKind.i64.wrap ((n : Int) + 1) = (n : Int) + 1 := by rw [IntKind.wrap_i64]; omega
  have HE := Lib.hid (And.intro (((hX.1.trans ht2 (fun x hx => .inl hx)).trans (Turn.set w2 R (n * 33 + 32) (.int .i64 (m : Int))) (fun x hx => .inl hx)).trans (Turn.set _ R 264 (.int .i64 ((n : Int) + 1))) (fun x hx => .inl hx)) (h3.setn (n + 1)))
  clear hX eX hcs hrg hw2 ht2 h3 htl H HB
  go_wp2_with fail
  go_ret
  exact ⟨rfl, HE.out⟩
end Go.Proofs.Ytoccgbfnbpkphaa
