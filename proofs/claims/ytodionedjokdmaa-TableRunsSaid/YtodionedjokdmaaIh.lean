/- What goes with an object: the maths of take. -/
import Derived.Test.YtodionedjokdmaaOj
set_option linter.unusedVariables false
set_option linter.unusedSimpArgs false
namespace Go.Proofs.Ytodionedjokdmaa
open Go.RowKit
set_option linter.unusedVariables false
set_option linter.unusedSimpArgs false
abbrev GM := Nat → Option Ob
/-- Each kid but n is named by its home. -/
def KO (G : GM) (n : Nat) : Prop := ∀ m om k ok, G m = some om → G k = some ok → ok.hm = m → k ≠ n → k ∈ om.ks
/-- Each but the first has its home ahead of it. -/
def HE (G : GM) (n : Nat) (L : List Nat) : Prop := L[0]? = some n ∧ ∀ i x, L[i]? = some x → 0 < i → ∃ o, G x = some o ∧ o.hm ∈ L.take i
structure TkM (G : GM) (n : Nat) (G' : GM) (L : List Nat) : Prop where
  sub : ∀ x, G' x = G x ∨ G' x = none
  rem : ∀ x, x ∈ L ↔ (G x).isSome = true ∧ G' x = none
  nd : L.Nodup
  he : HE G n L
  cl : ∀ k ok, G k = some ok → ok.hm ∈ L → k ∈ L
structure FdS (G : GM) (n : Nat) (done : List Nat) (s : GM × List Nat) : Prop where
  sub : ∀ x, s.1 x = G x ∨ s.1 x = none
  rem : ∀ x, x ∈ s.2 ↔ (G x).isSome = true ∧ s.1 x = none
  nd : s.2.Nodup
  he : HE G n s.2
  kid : ∀ k ∈ done, ∀ ok, G k = some ok → ok.hm = n → k ∈ s.2
  cl : ∀ k ok, G k = some ok → ok.hm ∈ s.2 → ok.hm ≠ n → k ∈ s.2
theorem HE.append {G G1 : GM} {n k : Nat} {L L2 : List Nat} (h : HE G n L) (h2 : HE G1 k L2) (hs : ∀ x o, G1 x = some o → G x = some o) (hk : ∃ o, G k = some o ∧ o.hm = n) : HE G n (L ++ L2) := by
  have hn : n ∈ L := List.mem_of_getElem? h.1
  have hl : 0 < L.length := List.length_pos_of_mem hn
  refine ⟨by rw [List.getElem?_append_left hl]; exact h.1, fun i x hi h0 => ?_⟩
  by_cases hlt : i < L.length
  · rw [List.getElem?_append_left hlt] at hi
    obtain ⟨o, ho, hm⟩ := h.2 i x hi h0
    exact ⟨o, ho, by rw [List.take_append_of_le_length (by omega)]; exact hm⟩
  · rw [List.getElem?_append_right (by omega)] at hi
    rw [List.take_append]
    rw [List.take_of_length_le (by omega)]
    by_cases h1 : i - L.length = 0
    · rw [h1, h2.1] at hi
      injection hi with hi
      subst hi
      obtain ⟨o, ho, e⟩ := hk
      exact ⟨o, ho, by rw [e]; exact List.mem_append_left _ hn⟩
    · obtain ⟨o, ho, hm⟩ := h2.2 _ x hi (by omega)
      exact ⟨o, hs _ _ ho, List.mem_append_right _ hm⟩
theorem nodup_len' : ∀ (A B : List Nat), A.Nodup → (∀ x ∈ A, x ∈ B) → A.length ≤ B.length
  | [], _, _, _ => by simp
  | a :: A, B, h, hs => by
    have ha : a ∈ B := hs a (by simp)
    have h1 := List.nodup_cons.1 h
    have := nodup_len' A (B.erase a) h1.2 fun x hx => (List.mem_erase_of_ne (fun e => h1.1 (by rw [← e]; exact hx))).2 (hs x (by simp [hx]))
    rw [List.length_erase_of_mem ha] at this
    have : 0 < B.length := List.length_pos_of_mem ha
    simp; omega
theorem tk_spec : ∀ (f : Nat) (G : GM) (n : Nat) (o : Ob) (A : List Nat), G n = some o → KO G n → A.length ≤ f → (∀ x, (G x).isSome = true → x ∈ A) → TkM G n (tk f G n).1 (tk f G n).2
  | 0, G, n, o, A, hG, _, hf, hA => by
    have := hA n (by rw [hG]; rfl)
    have := List.length_pos_of_mem this
    omega
  | f + 1, G, n, o, A, hG, hK, hf, hA => by
    have IH := tk_spec f
    rw [tk_succ f G n hG]
    have hAn : n ∈ A := hA n (by rw [hG]; rfl)
    have F : ∀ (ks done : List Nat) (s : GM × List Nat), FdS G n done s → FdS G n (done ++ ks) (ks.foldl (tkS (tk f) n) s) := by
      intro ks
      induction ks with
      | nil => intro done s h; simpa using h
      | cons k ks ih =>
        intro done s h
        have hn2 : n ∈ s.2 := List.mem_of_getElem? h.he.1
        have hn1 : s.1 n = none := ((h.rem n).1 hn2).2
        rw [List.foldl_cons, show done ++ k :: ks = (done ++ [k]) ++ ks by simp]
        refine ih _ _ ?_
        unfold tkS
        cases hk : kdd s.1 n k with
        | none =>
          dsimp only
          refine ⟨h.sub, h.rem, h.nd, h.he, fun j hj oj hGj hm => ?_, h.cl⟩
          rcases List.mem_append.1 hj with hj | hj
          · exact h.kid j hj oj hGj hm
          · obtain rfl := List.mem_singleton.1 hj
            refine (h.rem j).2 ⟨by rw [hGj]; rfl, ?_⟩
            rcases h.sub j with e | e
            · unfold kdd at hk
              rw [e, hGj] at hk
              simp [Option.filter, hm] at hk
            · exact e
        | some o1 =>
          dsimp only
          unfold kdd at hk
          obtain ⟨hk1, hk2⟩ := Option.filter_eq_some_iff.1 hk
          have hk2 : o1.hm = n := by simpa using hk2
          have hsG : ∀ x o, s.1 x = some o → G x = some o := fun x o hx => by
            rcases h.sub x with e | e
            · rw [← e]; exact hx
            · rw [e] at hx; cases hx
          have R := IH s.1 k o1 (A.erase n) hk1 (fun m om j oj hm hj e hne => hK m om j oj (hsG _ _ hm) (hsG _ _ hj) e (fun e => by rw [e, hn1] at hj; cases hj)) (by rw [List.length_erase_of_mem hAn]; omega) (fun x hx => by
            refine (List.mem_erase_of_ne fun e => ?_).2 (hA x ?_)
            · rw [e, hn1] at hx; cases hx
            · obtain ⟨ox, hox⟩ := Option.isSome_iff_exists.1 hx
              rw [hsG x ox hox]; rfl)
          have hkL : k ∈ (tk f s.1 k).2 := List.mem_of_getElem? R.he.1
          refine ⟨fun x => ?_, fun x => ?_, ?_, h.he.append R.he hsG ⟨o1, hsG _ _ hk1, hk2⟩, fun j hj oj hGj hm => ?_, fun j oj hGj hm hne => ?_⟩
          · rcases R.sub x with e | e
            · rw [e]; exact h.sub x
            · exact .inr e
          · constructor
            · intro hx
              rcases List.mem_append.1 hx with hx | hx
              · obtain ⟨h1, h2⟩ := (h.rem x).1 hx
                refine ⟨h1, ?_⟩
                rcases R.sub x with e | e
                · rw [e]; exact h2
                · exact e
              · obtain ⟨h1, h2⟩ := (R.rem x).1 hx
                obtain ⟨ox, hox⟩ := Option.isSome_iff_exists.1 h1
                exact ⟨by rw [hsG x ox hox]; rfl, h2⟩
            · rintro ⟨h1, h2⟩
              cases hs : s.1 x with
              | none => exact List.mem_append_left _ ((h.rem x).2 ⟨h1, hs⟩)
              | some ox => exact List.mem_append_right _ ((R.rem x).2 ⟨by rw [hs]; rfl, h2⟩)
          · refine List.nodup_append.2 ⟨h.nd, R.nd, fun a ha b hb e => ?_⟩
            subst e
            have h1 := ((h.rem a).1 ha).2
            have h2 := ((R.rem a).1 hb).1
            rw [h1] at h2; cases h2
          · rcases List.mem_append.1 hj with hj | hj
            · exact List.mem_append_left _ (h.kid j hj oj hGj hm)
            · obtain rfl := List.mem_singleton.1 hj
              exact List.mem_append_right _ hkL
          · rcases List.mem_append.1 hm with hm | hm
            · exact List.mem_append_left _ (h.cl j oj hGj hm hne)
            · cases hs : s.1 j with
              | none => exact List.mem_append_left _ ((h.rem j).2 ⟨by rw [hGj]; rfl, hs⟩)
              | some oj' =>
                have := hsG _ _ hs
                rw [hGj] at this
                injection this with this
                subst this
                exact List.mem_append_right _ (R.cl j oj hs hm)
    have H0 : FdS G n [] (updN G n none, [n]) := by
      refine ⟨fun x => ?_, fun x => ?_, by simp, ⟨rfl, fun i x hi h0 => ?_⟩, by simp, fun k ok hk hm hne => ?_⟩
      · by_cases e : x = n
        · subst e; right; exact updN_same _ _ _
        · left; exact updN_other _ _ e
      · constructor
        · intro hx
          obtain rfl := List.mem_singleton.1 hx
          exact ⟨by rw [hG]; rfl, updN_same _ _ _⟩
        · rintro ⟨h1, h2⟩
          by_cases e : x = n
          · simp [e]
          · have h2 : updN G n none x = none := h2
            rw [updN_other _ _ e] at h2
            rw [h2] at h1; cases h1
      · have := (List.getElem?_eq_some_iff.1 hi).1
        simp at this; omega
      · exact absurd (List.mem_singleton.1 hm) hne
    have HF := F o.ks [] _ H0
    rw [List.nil_append] at HF
    refine ⟨HF.sub, HF.rem, HF.nd, HF.he, fun k ok hk hm => ?_⟩
    by_cases e : ok.hm = n
    · by_cases ek : k = n
      · subst ek; exact List.mem_of_getElem? HF.he.1
      · exact HF.kid k (hK n o k ok hG hk e ek) ok hk e
    · exact HF.cl k ok hk hm e
end Go.Proofs.Ytodionedjokdmaa
