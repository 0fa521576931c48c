/- slices.Index, Contains, Clone, Grow, Concat, of numbers of 64 bits. -/
import Derived.Test.YtogbidkkdhhllaaVa
set_option linter.unusedVariables false
set_option linter.unusedSimpArgs false
namespace Tk
theorem idx_eq {us : List Nat} {x k : Nat} (h : us[k]? = some x) (hn : ∀ j, j < k → us[j]? ≠ some x) : us.idxOf x = k := by
  induction us generalizing k with
  | nil => simp at h
  | cons y r ih =>
    rw [List.idxOf_cons]
    cases k with
    | zero =>
      simp at h
      simp [h]
    | succ k =>
      have h0 := hn 0 (by omega)
      simp at h0
      have := ih (k := k) (by simpa using h) (fun j hj => by simpa using hn (j + 1) (by omega))
      rw [this, show (y == x) = false by simp [h0]]; rfl
theorem not_mem_of {us : List Nat} {x : Nat} (hn : ∀ j, j < us.length → us[j]? ≠ some x) : x ∉ us := fun h => by
  obtain ⟨j, hj⟩ := List.mem_iff_getElem?.1 h
  exact hn j (List.getElem?_eq_some_iff.1 hj).1 hj
/-- Where the first one is, or -1. -/
def ixI (us : List Nat) (x : Nat) : Int := if x ∈ us then (us.idxOf x : Int) else -1
theorem ixI_lt {us : List Nat} {x : Nat} : ixI us x ≥ 0 ↔ x ∈ us := by
  unfold ixI; split
  · exact ⟨fun _ => by assumption, fun _ => by omega⟩
  · exact ⟨fun h => by omega, fun h => by contradiction⟩
end Tk
namespace Go.Proofs.Ytogbidkkdhhllaa
open Go.RowKit Tk
set_option linter.unusedVariables false
set_option linter.unusedSimpArgs false
def enU (x : Nat) : Value := .int .u64 (x : Int)
theorem enU_one (x : Nat) : (enU x).oneCell' = true := rfl
theorem infoU : (Try.prog.info? 25).map (fun i => (i.zero, i.size, i.bytes)) = some (some (.int .u64 0), 1, 8) := by kernel_rfl
theorem nilU (w : World) (a : Option Addr) (n c : Nat) : (binOp .eql 24 (.slice a n c) (.slice none 0 0)).run Try.prog w = .ok (.bool a.isNone) w := Lib.run_eql_slice_nil w _ _ a n c 0 0 Try.underlying24
variable {w w' : World} {A : Option Addr} {l c : Nat} {us : List Nat}
/-- Some numbers are appended. -/
theorem append_u {own : Nat → Prop} {v : Value} {xs ys : List Nat} (ty : TypeId) (h : RW own 25 enU w v xs) (hl : xs.length + ys.length ≤ 100000) (A2 : Option Addr) (n2 c2 : Nat) (hn : ys.length = n2) (hc2 : ys.length ≤ c2) (hr : LR enU w A2 ys) :
    ∃ v' w', (Builtin.append_ #[24, 24] ty #[v, .slice A2 n2 c2]).run Try.prog w = .ok v' w' ∧ RW (fun b => own b ∨ w.heap.size ≤ b) 25 enU w' v' (xs ++ ys) ∧ ∃ S, Turn S w w' ∧ ∀ b ∈ S, own b ∧ ∃ cur, w.heap[b]? = some (Obj.cells cur 25) := by
  obtain ⟨i0, hi, hz0, hz1, hz2⟩ := info_parts infoU
  subst hn
  exact append_rw 24 ty i0 (.int .u64 0) 8 Try.underlying24 hi hz0 hz1 hz2 (by omega) rfl enU_one h hl A2 c2 hc2 hr
theorem index_any (x : Nat) (hl : us.length = l) (hm : l ≤ 100000) (hr : LR enU w A us) : Calls Try.prog 15 #[.slice A l c, .int .u64 (x : Int)] w fun e w' => e = .returned (.int .i64 (ixI us x)) ∧ w' = w := by
  have HR := Lib.hid hr
  have HL := Lib.hid hl
  clear hr hl
  go_enter Try.func15, Try.ntmps15
  go_wp2_with fail
  go_loopg [8] l (fun gh i wr => ∃ k : Nat, k ≤ l ∧ gh = l - k ∧ i = .int .i64 k ∧ wr = w ∧ Hid (∀ j, j < k → us[j]? ≠ some x))
  case atStart => exact ⟨0, by omega, by omega, rfl, rfl, Lib.hid fun j hj => by omega⟩
  case round =>
    obtain ⟨k, hk, hg, rfl, rfl, hI⟩ := hrel
    by_cases hlt : k < l
    · obtain ⟨y, hy⟩ : ∃ y, us[k]? = some y := ⟨_, List.getElem?_eq_getElem (by rw [HL.out]; exact hlt)⟩
      obtain ⟨b, off, rfl, hb, hc⟩ := HR.out k y hy
      have HY := Lib.hid hy
      unfold enU at hc
      have l1 : (k : Int) < l := by omega
      have i1 : IntKind.i64.wrap ((k : Int) + 1) = (k : Int) + 1 := by rw [IntKind.wrap_i64]; omega
      clear hb hy
      by_cases hxy : x = y
      · subst hxy
        go_wp2_with fail
        go_ret
        exact ⟨by rw [ixI, if_pos (List.mem_of_getElem? HY.out), idx_eq HY.out hI.out]; rfl, rfl⟩
      · have n1 : ¬ (x : Int) = (y : Int) := by omega
        go_wp2_with fail
        go_roundg (l - (k + 1))
        case rel => exact ⟨k + 1, by omega, rfl, by simp, rfl, Lib.hid fun j hj => by
          rcases Nat.lt_succ_iff_lt_or_eq.1 hj with h | rfl
          · exact hI.out j h
          · rw [HY.out]; simpa using fun e => hxy e.symm⟩
        case measure => first | omega | (simp; omega)
    · obtain rfl : k = l := by omega
      clear hlt
      go_wp2_with fail
      go_ret
      exact ⟨by rw [ixI, if_neg (not_mem_of (by rw [HL.out]; exact hI.out))]; rfl, rfl⟩
theorem contains_any (x : Nat) (hl : us.length = l) (hm : l ≤ 100000) (hr : LR enU w A us) : Calls Try.prog 13 #[.slice A l c, .int .u64 (x : Int)] w fun e w' => e = .returned (.bool (decide (x ∈ us))) ∧ w' = w := by
  have C := Lib.hid (index_any (c := c) x hl hm hr)
  obtain ⟨i, ei⟩ : ∃ i, ixI us x = i := ⟨_, rfl⟩
  have hB : Hid (decide (x ∈ us) = decide (i ≥ 0)) := Lib.hid (by rw [← ei, decide_eq_decide]; exact ixI_lt.symm)
  rw [ei] at C
  clear ei hr hl
  go_enter Try.func13, Try.ntmps13
  go_wp2_with fail
  refine C.out.mono ?_; rintro e w1 ⟨rfl, rfl⟩
  go_wp2_with fail
  go_ret
  exact ⟨by rw [hB.out]; rfl, rfl⟩
set_option maxHeartbeats 1000000 in
theorem clone_u (hl : us.length = l) (hm : l ≤ 100000) (hc : l ≤ c) (hr : LR enU w A us) : Calls Try.prog 16 #[.slice A l c] w fun e w' => ∃ v, e = .returned v ∧ RW (fun b => w.heap.size ≤ b) 25 enU w' v us ∧ Below w.heap.size w w' := by
  have qT := nilU
  cases A with
  | none =>
    obtain rfl : us = [] := by
      cases us with
      | nil => rfl
      | cons x r => obtain ⟨b, o, h, _⟩ := hr 0 x rfl; cases h
    clear hr
    go_enter Try.func16, Try.ntmps16
    go_wp2_with fail
    go_ret
    exact ⟨_, rfl, RW.nil _ _, Below.refl _ _⟩
  | some ad =>
    obtain ⟨W1, eW1⟩ : ∃ W1, w.alloc (Obj.cells #[] 25) = W1 := ⟨_, rfl⟩
    have hb1 : Below w.heap.size w W1 := by rw [← eW1]; exact below_alloc1 _ _
    have h0 : RW (fun b => w.heap.size ≤ b) 25 enU W1 (.slice (some ⟨w.heap.size, 0, none⟩) 0 0) [] := .inr ⟨w.heap.size, 0, 0, #[], rfl, Nat.le_refl _, by rw [← eW1]; exact heap_alloc_new w _, by simp, by simp, by simp, by simp⟩
    obtain ⟨v', W2, hrun, hu, S, ht, hS⟩ := append_u 24 h0 (ys := us) (by simp; omega) (some ad) l c hl (by omega) (hr.below hb1)
    have HE : Hid (RW (fun b => w.heap.size ≤ b) 25 enU W2 v' us ∧ Below w.heap.size w W2) := Lib.hid ⟨(by simpa using hu : RW _ 25 enU W2 v' us).keep fun b cur hb _ => ⟨by rcases hb with h | h; exact h; have := hb1.size; omega, rfl⟩, hb1.trans (ht.below hb1.size fun b hb => (hS b hb).1)⟩
    have HR := Lib.hid hrun
    clear hu ht hS hb1 h0 hr hrun
    go_enter Try.func16, Try.ntmps16
    go_wp2_with (at_builtin; refine wpList_append_by rfl (.tmp 5) (.tmp 6) _ _ rfl _ _ _ rfl rfl W2 HR.out ?_)
    go_wp2_with fail
    go_ret
    exact ⟨_, rfl, HE.out⟩
end Go.Proofs.Ytogbidkkdhhllaa
