/- Objects that are made; fit. -/
import Derived.Test.YtodionedjokdmaaOj
set_option linter.unusedVariables false
set_option linter.unusedSimpArgs false
namespace Go.Proofs.Ytodionedjokdmaa
open Go.RowKit
set_option linter.unusedVariables false
set_option linter.unusedSimpArgs false
section
variable {W w w' : World} {T T' : List Nat} {t : Nat} {M : Option Nat} {ns ns' : List Nat} {G : Nat → Option Ob} {n c hm : Nat} {o ho : Ob}
theorem OB.new {own : Nat → Prop} {nm hm : Nat} (h1 : U64 nm) (h2 : U64 hm) (kd on : Int) (ho : own w.heap.size) : OB own (w.alloc (Obj.cells (ocs Try.zeroCells60 (.int .u64 (nm : Int)) (.int .i64 kd) (.int .u64 (hm : Int))) 60)) nm ⟨w.heap.size, kd, hm, [], none, on⟩ := by
  obtain ⟨k1, k2, k3, k4, k5⟩ := ocs_at (.int .u64 (nm : Int)) (.int .i64 kd) (.int .u64 (hm : Int))
  exact ⟨ho, ⟨h1, h2, by simp⟩, ⟨_, heap_alloc_new w _, ocs_size _ _ _, k1, k2, k3, k5, _, k4, RW.nil _ _⟩, fun b hb => by cases hb⟩
theorem TS.ren (h : TS W T t M ns G w) (h1 : ns'.Nodup) (h2 : ∀ x, x ∈ ns' ↔ (G x).isSome = true) : TS W T t M ns' G w := by
  refine ⟨h.b, h.tl, h.tb, h.ow, ?_, h.ob⟩
  have hp : ns'.Perm ns := (List.perm_ext_iff_of_nodup h1 h.nodup).2 fun x => by rw [h2 x, h.mem x]
  rcases h.mp with ⟨k1, k2, k3⟩ | ⟨m, k1, k2, k3⟩
  · subst k2
    exact .inl ⟨k1, List.perm_nil.1 hp, k3⟩
  · obtain ⟨_, q1, D, q2, q3, q4, q5⟩ := k3
    exact .inr ⟨m, k1, k2, h1, fun x => by rw [q1 x]; exact hp.mem_iff.symm, D, by rw [hp.length_eq]; exact q2, q3, q4, by rw [hp.length_eq]; exact q5⟩
theorem u64_of {n : Nat} (h : n ≤ 1000000) : U64 n := ⟨by omega⟩
end
set_option maxHeartbeats 2000000 in
set_option maxRecDepth 100000 in
theorem fit_any (w : World) : Calls Try.prog 8 #[] w fun e w' => e = .returned (.bool true) ∧ Below w.heap.size w w' := by
  have CN := Lib.hid (new_any w)
  go_enter Try.func8, Try.ntmps8
  go_wp2_with fail
  refine CN.out.mono ?_; rintro e w1 ⟨rfl, rfl⟩
  clear CN
  have h1 := TS.new (W := w) (T := []) (Below.refl _ _) (by simp)
  obtain ⟨t, et⟩ : ∃ t, w.heap.size = t := ⟨_, rfl⟩
  obtain ⟨w1, e1⟩ : ∃ w1, w.alloc (Obj.cells #[.map none] 92) = w1 := ⟨_, rfl⟩
  rw [e1, et] at h1
  rw [e1, et]
  have ho1 := OB.new (w := w1) (nm := 1) (hm := 0) (own := own_ w []) (u64_of (by omega)) (u64_of (by omega)) 1 0 (own_new h1 (Nat.le_refl _))
  have h2 := h1.below (below_alloc1 w1 (Obj.cells (ocs Try.zeroCells60 (.int .u64 ((1 : Nat) : Int)) (.int .i64 1) (.int .u64 ((0 : Nat) : Int))) 60))
  have C2 := Lib.hid (add_any h2 ho1 (fun k o' h => by cases h) (by simp))
  rw [show may (fun _ => none) 1 ⟨w1.heap.size, 1, 0, [], none, 0⟩ = true from rfl] at C2
  rw [show ((1 : Nat) : Int) = 1 from rfl, show ((0 : Nat) : Int) = 0 from rfl, ← ocs2] at C2
  clear e1 h1 h2 ho1
  have HT := Lib.hid et
  clear et
  go_wp2_with fail
  refine C2.out.mono ?_; rintro e w2 ⟨rfl, ⟨M2, h2⟩, _⟩
  clear C2
  have ho2 := OB.new (w := w2) (nm := 5) (hm := 1) (own := own_ w []) (u64_of (by omega)) (u64_of (by omega)) 1 0 (own_new h2 (Nat.le_refl _))
  have h3 := h2.below (below_alloc1 w2 (Obj.cells (ocs Try.zeroCells60 (.int .u64 ((5 : Nat) : Int)) (.int .i64 1) (.int .u64 ((1 : Nat) : Int))) 60))
  obtain ⟨G2, eG2⟩ : ∃ G2, addG (fun _ => none) 1 ⟨w1.heap.size, 1, 0, [], none, 0⟩ = G2 := ⟨_, rfl⟩
  obtain ⟨b1, eb1⟩ : ∃ b1, w1.heap.size = b1 := ⟨_, rfl⟩
  simp only [if_true, List.nil_append] at h2 h3 ho2
  have hG2 : G2 = updN (fun _ => none) 1 (some ⟨b1, 1, 0, [], none, 0⟩) := by rw [← eG2, ← eb1]; rfl
  rw [eG2] at h2 h3
  have C3 := Lib.hid (add_any h3 ho2 (fun k o' h => by
    rw [hG2] at h
    by_cases e : k = 1
    · subst e; rw [updN_same] at h; injection h with h; rw [← h]; exact Nat.zero_le _
    · rw [updN_other _ _ e] at h; cases h) (by simp))
  rw [show may G2 5 ⟨w2.heap.size, 1, 1, [], none, 0⟩ = true by rw [hG2]; rfl] at C3
  rw [show ((5 : Nat) : Int) = 5 from rfl, show ((1 : Nat) : Int) = 1 from rfl] at C3
  unfold ocs at C3
  clear h2 h3 ho2
  have HG := Lib.hid hG2
  rw [eb1]
  clear eG2 hG2 eb1
  go_wp2_with fail
  refine C3.out.mono ?_; rintro e w3 ⟨rfl, ⟨M3, h3⟩, _⟩
  clear C3
  obtain ⟨b2, eb2⟩ : ∃ b2, w2.heap.size = b2 := ⟨_, rfl⟩
  rw [eb2, HG.out] at h3
  rw [eb2]
  obtain ⟨G3, eG3⟩ : ∃ G3, updN (updN (updN (fun _ => none) 1 (some ⟨b1, 1, 0, [], none, 0⟩)) 1 (some ⟨b1, 1, 0, [5], none, 0⟩)) 5 (some (⟨b2, 1, 1, [], none, 0⟩ : Ob)) = G3 := ⟨_, rfl⟩
  have h3 : TS w [] t M3 [1, 5] G3 w3 := by rw [← eG3]; exact h3
  have k3 : ∀ x o, G3 x = some o → o.ks.length ≤ 1000 := fun x o hx => by
    rw [← eG3] at hx
    by_cases e5 : x = 5
    · subst e5; rw [updN_same] at hx; injection hx with hx; rw [← hx]; exact Nat.zero_le _
    · rw [updN_other _ _ e5] at hx
      by_cases e1 : x = 1
      · subst e1; rw [updN_same] at hx; injection hx with hx; rw [← hx]; show 1 ≤ 1000; decide
      · rw [updN_other _ _ e1, updN_other _ _ e1] at hx; cases hx
  have CL := Lib.hid (len_any h3)
  have CI := Lib.hid (in_any (n := 5) (c := 1) h3 (u64_of (by omega)) (by simp))
  have CJ := Lib.hid (in_any (n := 1) (c := 5) h3 (u64_of (by omega)) (by simp))
  have CR := Lib.hid (remove_any (n := 1) h3 (u64_of (by omega)) k3 (by simp))
  rw [show inT G3 1 [1, 5].length 5 = true by rw [← eG3]; rfl] at CI
  rw [show inT G3 5 [1, 5].length 1 = false by rw [← eG3]; rfl] at CJ
  rw [show ((5 : Nat) : Int) = 5 from rfl, show ((1 : Nat) : Int) = 1 from rfl] at CI CJ
  rw [show ((1 : Nat) : Int) = 1 from rfl] at CR
  rw [show (([1, 5] : List Nat).length : Int) = 2 from rfl] at CL
  have HR := Lib.hid (show (rm [1, 5].length G3 1).2 = [1, 5] ∧ ∀ x, (rm [1, 5].length G3 1).1 x = none from by
    rw [← eG3]
    refine ⟨rfl, fun x => ?_⟩
    show updN (updN (updN (updN (updN (fun _ => none) 1 (some (⟨b1, 1, 0, [], none, 0⟩ : Ob))) 1 (some ⟨b1, 1, 0, [5], none, 0⟩)) 5 (some ⟨b2, 1, 1, [], none, 0⟩)) 1 none) 5 none x = none
    by_cases e5 : x = 5
    · subst e5; rw [updN_same]
    · rw [updN_other _ _ e5]
      by_cases e1 : x = 1
      · subst e1; rw [updN_same]
      · rw [updN_other _ _ e1, updN_other _ _ e5, updN_other _ _ e1, updN_other _ _ e1])
  clear h3 k3 eG3 eb2 HG
  go_wp2_with fail
  refine CL.out.mono ?_; rintro e w4 ⟨rfl, rfl⟩
  go_wp2_with fail
  refine CI.out.mono ?_; rintro e w4 ⟨rfl, rfl⟩
  go_wp2_with fail
  refine CJ.out.mono ?_; rintro e w4 ⟨rfl, rfl⟩
  go_wp2_with fail
  refine CR.out.mono ?_; rintro e w5 ⟨v, rfl, hR⟩
  clear CL CI CJ CR
  obtain ⟨ns5, h5⟩ := hR.ts
  obtain ⟨A, c, ev, _⟩ := hR.row.form
  rw [HR.out.1] at ev
  subst ev
  have CL := Lib.hid (len_any (h5.ren (ns' := []) List.nodup_nil fun x => by rw [HR.out.2 x]; simp))
  rw [show (([] : List Nat).length : Int) = 0 from rfl] at CL
  have HB := Lib.hid h5.b
  clear hR h5
  go_wp2_with fail
  refine CL.out.mono ?_; rintro e w6 ⟨rfl, rfl⟩
  go_wp2_with fail
  go_ret
  exact ⟨rfl, HB.out⟩
end Go.Proofs.Ytodionedjokdmaa
