/- Look, Cost. -/
import Derived.Test.YtodionedjokdmaaKa
import Derived.Test.YtodionedjokdmaaVs
import Derived.Test.YtodionedjokdmaaOk
set_option linter.unusedVariables false
set_option linter.unusedSimpArgs false
namespace Go.Proofs.Ytodionedjokdmaa
open Go.RowKit
set_option linter.unusedVariables false
set_option linter.unusedSimpArgs false
def encPr (p : Nat × Int) : List Value := [.int .u32 (p.1 : Int), .int .i64 p.2]
theorem encPr_len (p : Nat × Int) : (encPr p).length = 2 := rfl
theorem encPr_one (p : Nat × Int) : ∀ u ∈ encPr p, u.oneCell' = true := fun u hu => by
  unfold encPr at hu
  simp at hu
  rcases hu with rfl | rfl <;> rfl
section
variable {w w' : World} {A : Option Addr} {l c k : Nat} {P : LP} {D : Int}
theorem LA.lv (h : LA k w D A l c P) (hk : k ≤ 1000) : l = P.length ∧ l ≤ c ∧ LV 2 encPr w A P ∧ (A = none → P = []) := by
  obtain ⟨_, hl, hr⟩ := h
  rcases hr with ⟨h1, rfl⟩ | ⟨b, off, cap, h1, h2, h3, h4, h5⟩
  · injection h1 with e1 e2 e3
    subst e1 e2 e3
    exact ⟨rfl, Nat.le_refl _, LV.nil _ _, fun _ => rfl⟩
  · injection h1 with e1 e2 e3
    subst e1 e2 e3
    refine ⟨rfl, h3, fun i p hp => ⟨b, off, rfl, h2, fun j u hu => ?_⟩, fun e => by cases e⟩
    obtain ⟨k1, k2⟩ := h5 i p hp
    match j with
    | 0 => obtain rfl : Value.int .u32 (p.1 : Int) = u := by simpa [encPr] using hu
           exact k1
    | 1 => obtain rfl : Value.int .i64 p.2 = u := by simpa [encPr] using hu
           exact k2
    | j + 2 => simp [encPr] at hu
theorem infoPr : (Try.prog.info? 101).map (fun i => (i.zero, i.size, i.bytes)) = some (some (.agg #[.int .u32 0, .int .i64 0]), 2, 16) := by kernel_rfl
theorem nilPr (w : World) (a : Option Addr) (n c : Nat) : (binOp .eql 42 (.slice a n c) (.slice none 0 0)).run Try.prog w = .ok (.bool a.isNone) w := Lib.run_eql_slice_nil w _ _ a n c 0 0 Try.underlying42
set_option maxHeartbeats 1000000 in
theorem clone_p (h : LA k w D A l c P) (hk : k ≤ 1000) : Calls Try.prog 32 #[.slice A l c] w fun e w' => ∃ a' n' c', e = .returned (.slice a' n' c') ∧ LA k w' D a' n' c' P ∧ Below w.heap.size w w' := by
  have qT := nilPr
  obtain ⟨hl, hc, hlv, h0⟩ := h.lv hk
  cases A with
  | none =>
    obtain rfl := h0 rfl
    have HE := Lib.hid (show LA k w D none 0 0 [] from ⟨h.1, h.2.1, .inl ⟨rfl, rfl⟩⟩)
    clear h hl hc hlv h0
    go_enter Try.func32, Try.ntmps32
    go_wp2_with fail
    go_ret
    exact ⟨_, _, _, rfl, HE.out, Below.refl _ _⟩
  | some ad =>
    obtain ⟨i, hi, hie⟩ := Option.map_eq_some_iff.1 infoPr
    injection hie with hz h2
    injection h2 with hsz hby
    obtain ⟨W1, eW1⟩ : ∃ W1, w.alloc (Obj.cells #[] 101) = W1 := ⟨_, rfl⟩
    have hb1 : Below w.heap.size w W1 := by rw [← eW1]; exact below_alloc1 _ _
    have hr0 : RV (fun b => w.heap.size ≤ b) 101 2 encPr W1 (.slice (some ⟨w.heap.size, 0, none⟩) 0 0) [] := .inr ⟨w.heap.size, 0, 0, #[], rfl, Nat.le_refl _, by rw [← eW1]; exact heap_alloc_new w _, by simp, by simp, by simp, by simp⟩
    obtain ⟨v', W2, hrun, hu, S, ht, hS⟩ := append_rv (P := Try.prog) (ys := P) 42 42 i _ 16 Try.underlying42 hi hz hsz hby (by omega) rfl encPr_len encPr_one (by omega) hr0 (by have := h.2.1; simp; omega) (some ad) c (by omega) (hlv.below hb1)
    rw [← hl] at hrun
    have hb2 : Below w.heap.size w W2 := hb1.trans (ht.below hb1.size fun b hb => (hS b hb).1)
    have hlen := h.2.1
    obtain ⟨a', n', c', rfl, hA⟩ : ∃ a' n' c', v' = .slice a' n' c' ∧ LA k W2 D a' n' c' P := by
      rw [List.nil_append] at hu
      rcases hu with ⟨h1, rfl⟩ | ⟨g, o, cap, cur, rfl, hg, hcc, ho, hn, hcm, hcell⟩
      · subst h1
        exact ⟨none, 0, 0, rfl, h.1, by simp, .inl ⟨rfl, rfl⟩⟩
      · refine ⟨_, _, _, rfl, h.1, hlen, .inr ⟨g, o, cap, rfl, (Array.getElem?_eq_some_iff.1 hcc).1, hn, by omega, fun j p hp => ?_⟩⟩
        have h0 := hcell j p hp 0 _ rfl
        have h1 := hcell j p hp 1 _ rfl
        exact ⟨by rw [cell_of_row _ _ _ _ _ (0, 0) hcc]; exact h0, by rw [cell_of_row _ _ _ _ _ (0, 0) hcc]; exact h1⟩
    have HE := Lib.hid (And.intro hA hb2)
    have HR := Lib.hid hrun
    clear h hl hc hlv h0 hr0 hu ht hS hb1 hrun hi hz hsz hby hA hb2 hlen
    go_enter Try.func32, Try.ntmps32
    go_wp2_with (at_builtin; refine wpList_append_by rfl (.tmp 5) (.tmp 6) _ _ rfl _ _ _ rfl rfl W2 HR.out ?_)
    go_wp2_with fail
    go_ret
    exact ⟨_, _, _, rfl, HE.out⟩
/-- An object's kind and label. -/
structure OL (w : World) (b : Nat) (kd D : Int) (A : Option Addr) (l c : Nat) : Prop where
  k : w.cell? ⟨b, 3, none⟩ = some (.int .i64 kd)
  d : w.cell? ⟨b, 4, none⟩ = some (.int .i64 D)
  p : w.cell? ⟨b, 5, none⟩ = some (.slice A l c)
  s : w.cell? ⟨b, 16, none⟩ = some (.slice none 0 0)
theorem OL.below {b : Nat} {kd : Int} (h : OL w b kd D A l c) (hb : Below w.heap.size w w') : OL w' b kd D A l c := by
  have hc : ∀ i, w'.cell? ⟨b, i, none⟩ = w.cell? ⟨b, i, none⟩ := fun i => hb.cell (p := ⟨b, i, none⟩) (show b < w.heap.size from World.block_lt_of_cell? w ⟨b, 3, none⟩ h.k)
  exact ⟨by rw [hc]; exact h.k, by rw [hc]; exact h.d, by rw [hc]; exact h.p, by rw [hc]; exact h.s⟩
def atRest (kd : Int) : Bool := kd == 3 || kd == 5
theorem pages_nil {b : Nat} (h : w.cell? ⟨b, 16, none⟩ = some (.slice none 0 0)) : Calls Try.prog 33 #[.pointer (some ⟨b, 16, none⟩)] w fun e w' => e = .returned (.int .i64 0) ∧ w' = w := by
  go_enter Try.func33, Try.ntmps33
  go_wp2_with fail
  go_ret
  exact ⟨rfl, rfl⟩
theorem cost_any {b : Nat} {kd : Int} (h : OL w b kd D A l c) : Calls Try.prog 21 #[.pointer (some ⟨b, 0, none⟩)] w fun e w' => e = .returned (.int .i64 (if kd = 3 then 9 else 1)) ∧ w' = w := by
  have c3 := h.k
  have CP := Lib.hid (pages_nil h.s)
  clear h
  by_cases h2 : kd = 2
  · subst h2
    go_enter Try.func21, Try.ntmps21
    go_wp2_with fail
    refine CP.out.mono ?_; rintro e w1 ⟨rfl, rfl⟩
    go_wp2_with fail
    go_ret
    exact ⟨rfl, rfl⟩
  · by_cases h3 : kd = 3
    · subst h3
      go_enter Try.func21, Try.ntmps21
      go_wp2_with fail
      go_ret
      exact ⟨rfl, rfl⟩
    · have q2 : (kd == 2) = false := by simpa using h2
      have q3 : (kd == 3) = false := by simpa using h3
      rw [if_neg h3]
      clear h2 h3
      go_enter Try.func21, Try.ntmps21
      go_wp2_with fail
      go_ret
      exact ⟨rfl, rfl⟩
end
end Go.Proofs.Ytodionedjokdmaa
