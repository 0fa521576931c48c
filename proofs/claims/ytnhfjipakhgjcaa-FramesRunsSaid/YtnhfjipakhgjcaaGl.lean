/- Bytes are copied into a frame's block. -/
import Derived.Test.YtnhfjipakhgjcaaGj
import Derived.Laws.CopyRow
import Derived.Laws.IdiomCopy
namespace Go.Proofs.Ytnhfjipakhgjcaa
open Go.RowKit
set_option linter.unusedVariables false
set_option linter.unusedSimpArgs false
theorem Y_take (l : List Nat) (k : Nat) : Y (l.take k) = (Y l).take k := by unfold Y; rw [List.map_take]
theorem Y_drop (l : List Nat) (k : Nat) : Y (l.drop k) = (Y l).drop k := by unfold Y; rw [List.map_drop]
theorem size5' : (Try.prog.info? 5).map (·.size) = some 1 := by kernel_rfl
theorem copy_run (w : World) (ty : TypeId) (b x a l c : Nat) (A : Option Addr) (d bs : List Nat) (hd : w.heap[b]? = some (Obj.cells (Y d).toArray 5)) (dl : d.length = 64) (hl : bs.length = l) (h : a + l ≤ 64) (hx : 0 < l → x = a) (hr : BR w A bs) :
    ∃ w', (Builtin.copy_ #[32, 32] ty #[.slice (some ⟨b, x, none⟩) (64 - a) (64 - a), .slice A l c]).run Try.prog w = .ok (goInt l) w' ∧ w'.heap[b]? = some (Obj.cells (Y (Fr.lay d a bs)).toArray 5) ∧ Turn [b] w w' := by
  by_cases h0 : l = 0
  · subst h0
    obtain rfl := List.eq_nil_of_length_eq_zero hl
    refine ⟨w, run_copy_none w _ _ ty 5 _ _ _ _ _ _ Try.underlying32 size5' (Nat.zero_min _), ?_, Turn.refl _ _⟩
    rw [hd]; unfold Fr.lay; simp
  · obtain rfl := hx (by omega)
    obtain ⟨sb, so, rfl, _, _⟩ := hr 0 (bs.getD 0 0) (by rw [List.getD_eq_getElem?_getD, List.getElem?_eq_getElem (by omega)]; rfl)
    have hrun := run_copy_row (P := Try.prog) w 32 32 ty 5 b x (64 - x) (64 - x) ⟨sb, so, none⟩ l c (Y d).toArray 5 (Y bs) Try.underlying32 size5' hd (by rw [Y_len, hl]; exact (Nat.min_eq_left (by omega)).symm) (fun j v hv => by
      obtain ⟨y, hy, rfl⟩ := Y_get hv
      obtain ⟨b', o', e, _, hc⟩ := hr j y hy
      injection e with e
      injection e with e1 e2
      subst e1 e2
      rw [addr_add]; exact hc) (by rw [Y_len, hl]; simp [Y_len, dl]; omega) (Y_one bs)
    rw [Y_len, hl] at hrun
    refine ⟨_, hrun, ?_, ?_⟩
    · rw [setRow_heap w b _ _ _ _ hd]
      congr 2
      unfold Fr.lay
      rw [Y_app, Y_app, Y_take, Y_drop, hl]
    · exact ⟨rfl, rfl, rfl, by simp [World.setRow], fun k hk hn => setRow_other w b k _ (fun e => hn (by simp [e]))⟩
end Go.Proofs.Ytnhfjipakhgjcaa
