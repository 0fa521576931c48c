/- The law's tree: who came in which order, and whose kids they are. -/
import Derived.Test.YtodionedjokdmaaIh
import Derived.Test.YtodionedjokdmaaOm
set_option linter.unusedVariables false
set_option linter.unusedSimpArgs false
namespace Go.Proofs.Ytodionedjokdmaa
open Go.RowKit
set_option linter.unusedVariables false
set_option linter.unusedSimpArgs false
def hmOf (G : GM) (k : Nat) : Option Nat := (G k).map Ob.hm
def kidsOf (os : List Nat) (G : GM) (n : Nat) : List Nat := os.filter fun k => hmOf G k == some n
/-- What is there, in the order in which it came. -/
structure Tr (r : Nat → Nat) (os : List Nat) (G : GM) : Prop where
  pw : os.Pairwise (fun a b => r a < r b)
  mem : ∀ x, x ∈ os ↔ (G x).isSome = true
  nz : ∀ x ∈ os, x ≠ 0 ∧ x ≤ 15
  hm : ∀ x o, G x = some o → o.hm ≤ 15 ∧ (o.hm = 0 ∨ (o.hm ∈ os ∧ r o.hm < r x))
  ks : ∀ n o, G n = some o → o.ks = kidsOf os G n
theorem Tr.nd {r : Nat → Nat} {os : List Nat} {G : GM} (h : Tr r os G) : os.Nodup := h.pw.imp fun hlt e => by subst e; omega
theorem Tr.ko {r : Nat → Nat} {os : List Nat} {G : GM} (h : Tr r os G) : ∀ m om k ok, G m = some om → G k = some ok → ok.hm = m → k ∈ om.ks := fun m om k ok hm hk e => by
  rw [h.ks m om hm]
  refine List.mem_filter.2 ⟨(h.mem k).2 (by rw [hk]; rfl), ?_⟩
  unfold hmOf; rw [hk]; simp [e]
theorem Tr.len {r : Nat → Nat} {os : List Nat} {G : GM} (h : Tr r os G) : os.length ≤ 15 := by
  have := nodup_len' os ((List.range 15).map (· + 1)) h.nd fun x hx => by
    have := h.nz x hx
    exact List.mem_map.2 ⟨x - 1, List.mem_range.2 (by omega), by omega⟩
  simpa using this
theorem Tr.kl {r : Nat → Nat} {os : List Nat} {G : GM} (h : Tr r os G) : ∀ x o, G x = some o → o.ks.length ≤ 15 := fun x o hx => by
  rw [h.ks x o hx]
  exact Nat.le_trans (List.length_filter_le _ _) h.len
theorem Tr.self {r : Nat → Nat} {os : List Nat} {G : GM} (h : Tr r os G) {x : Nat} {o : Ob} (hx : G x = some o) : o.hm ≠ x := fun e => by
  rcases (h.hm x o hx).2 with h0 | ⟨_, hr⟩
  · have := (h.nz x ((h.mem x).2 (by rw [hx]; rfl))).1; omega
  · rw [e] at hr; omega
theorem rmH_hm (G : GM) (n : Nat) (o : Ob) (x : Nat) : (rmH G n o x).map Ob.hm = (G x).map Ob.hm ∧ ((rmH G n o x).isSome = (G x).isSome) := by
  unfold rmH
  cases hh : G o.hm with
  | none => exact ⟨rfl, rfl⟩
  | some ho =>
    dsimp only
    by_cases e : x = o.hm
    · subst e; rw [updN_same, hh]; exact ⟨rfl, rfl⟩
    · rw [updN_other _ _ e]; exact ⟨rfl, rfl⟩
theorem rmH_get {G : GM} {n : Nat} {o : Ob} {x : Nat} {o' : Ob} (h : rmH G n o x = some o') : ∃ o0, G x = some o0 ∧ o'.hm = o0.hm ∧ o'.kd = o0.kd ∧ o'.b = o0.b ∧ o'.ks = if x = o.hm then o0.ks.filter (· != n) else o0.ks := by
  unfold rmH at h
  cases hh : G o.hm with
  | none =>
    rw [hh] at h
    dsimp only at h
    refine ⟨o', h, rfl, rfl, rfl, ?_⟩
    by_cases e : x = o.hm
    · rw [e, hh] at h; cases h
    · rw [if_neg e]
  | some ho =>
    rw [hh] at h
    dsimp only at h
    by_cases e : x = o.hm
    · subst e
      rw [updN_same] at h
      injection h with h
      subst h
      exact ⟨ho, hh, rfl, rfl, rfl, by rw [if_pos rfl]⟩
    · rw [updN_other _ _ e] at h
      exact ⟨o', h, rfl, rfl, rfl, by rw [if_neg e]⟩
/-- What goes: n, and whose home goes. -/
def Dn (os : List Nat) (G : GM) (n : Nat) (D : Nat → Bool) : Prop := ∀ x, D x = (decide (x ∈ os) && (x == n || match G x with | some o => D o.hm | none => false))
/-- What Remove leaves, and tells. -/
structure RmM (os : List Nat) (G : GM) (n : Nat) (D : Nat → Bool) (G' : GM) (L : List Nat) : Prop where
  mem : ∀ x, x ∈ L ↔ D x = true
  nd : L.Nodup
  he : ∀ i x, L[i]? = some x → ∃ o, G x = some o ∧ (0 < i → o.hm ∈ L.take i)
  get : ∀ x o', G' x = some o' → D x = false ∧ ∃ o0, G x = some o0 ∧ o'.hm = o0.hm ∧ o'.kd = o0.kd ∧ o'.b = o0.b
  some_ : ∀ x, (G' x).isSome = ((G x).isSome && !D x)
theorem rm_spec {r : Nat → Nat} {os : List Nat} {G : GM} (h : Tr r os G) (n : Nat) {D : Nat → Bool} (hD : Dn os G n D) (f : Nat) (hf : os.length ≤ f) : RmM os G n D (rm f G n).1 (rm f G n).2 ∧ Tr r (os.filter fun x => !D x) (rm f G n).1 := by
  unfold rm
  cases hG : G n with
  | none =>
    have hD0 : ∀ m x, r x < m → D x = false := by
      intro m
      induction m with
      | zero => intro x hx; omega
      | succ m ih =>
        intro x hx
        rw [hD x]
        by_cases hxo : x ∈ os
        · obtain ⟨ox, hox⟩ := Option.isSome_iff_exists.1 ((h.mem x).1 hxo)
          rw [hox]
          have hne : x ≠ n := fun e => by rw [e, hG] at hox; cases hox
          have : D ox.hm = false := by
            rcases (h.hm x ox hox).2 with h0 | ⟨_, h2⟩
            · rw [h0, hD 0]
              have : 0 ∉ os := fun hm => (h.nz 0 hm).1 rfl
              simp [this]
            · exact ih _ (by omega)
          simp [hne, this]
        · simp [hxo]
    have hD1 : ∀ x, D x = false := fun x => hD0 _ x (Nat.lt_succ_self _)
    refine ⟨⟨fun x => by simp [hD1], List.nodup_nil, fun i x hi => by simp at hi, fun x o' hx => ⟨hD1 x, o', hx, rfl, rfl, rfl⟩, fun x => by simp [hD1]⟩, ?_⟩
    have : (os.filter fun x => !D x) = os := List.filter_eq_self.2 fun x _ => by simp [hD1]
    rw [this]; exact h
  | some o =>
    dsimp only
    have hR : ∃ on, rmH G n o n = some on ∧ on.hm = o.hm := by
      have h1 := (rmH_hm G n o n).2
      rw [hG] at h1
      obtain ⟨on, hon⟩ := Option.isSome_iff_exists.1 (h1.trans rfl)
      obtain ⟨o0, h2, h3, _⟩ := rmH_get hon
      rw [hG] at h2; injection h2 with h2; subst h2
      exact ⟨on, hon, h3⟩
    obtain ⟨on, hon, _⟩ := hR
    have K : KO (rmH G n o) n := fun m om k ok hm hk e hne => by
      obtain ⟨o0, h1, h2, _, _, h3⟩ := rmH_get hm
      obtain ⟨k0, k1, k2, _⟩ := rmH_get hk
      have := h.ko m o0 k k0 h1 k1 (by rw [← k2]; exact e)
      rw [h3]
      split
      · exact List.mem_filter.2 ⟨this, by simpa using hne⟩
      · exact this
    have S := tk_spec f (rmH G n o) n on os hon K hf fun x hx => (h.mem x).2 (by rw [← (rmH_hm G n o x).2]; exact hx)
    obtain ⟨G', L, e1, e2⟩ : ∃ G' L, (tk f (rmH G n o) n).1 = G' ∧ (tk f (rmH G n o) n).2 = L := ⟨_, _, rfl, rfl⟩
    rw [e1, e2] at S ⊢
    have hnL : n ∈ L := List.mem_of_getElem? S.he.1
    have hLo : ∀ x, x ∈ L → x ∈ os := fun x hx => (h.mem x).2 (by rw [← (rmH_hm G n o x).2]; exact ((S.rem x).1 hx).1)
    have h0o : 0 ∉ os := fun hm => (h.nz 0 hm).1 rfl
    have hLD : ∀ m x, r x < m → (x ∈ L ↔ D x = true) := by
      intro m
      induction m with
      | zero => intro x hx; omega
      | succ m ih =>
        intro x hx
        by_cases hxo : x ∈ os
        · obtain ⟨ox, hox⟩ := Option.isSome_iff_exists.1 ((h.mem x).1 hxo)
          have hIH : ox.hm ∈ L ↔ D ox.hm = true := by
            rcases (h.hm x ox hox).2 with h0 | ⟨h1, h2⟩
            · rw [h0, hD 0]
              constructor
              · intro hm; exact absurd (hLo _ hm) h0o
              · intro hm; simp [h0o] at hm
            · exact ih _ (by omega)
          rw [hD x, hox]
          simp only [hxo, decide_true, Bool.true_and, Bool.or_eq_true, beq_iff_eq]
          rw [← hIH]
          constructor
          · intro hxL
            by_cases e : x = n
            · exact .inl e
            · right
              obtain ⟨i, hi⟩ := List.mem_iff_getElem?.1 hxL
              have h0 : 0 < i := by
                rcases Nat.eq_zero_or_pos i with h0 | h0
                · rw [h0, S.he.1] at hi; injection hi with hi; exact absurd hi.symm e
                · exact h0
              obtain ⟨o', ho', hm⟩ := S.he.2 i x hi h0
              obtain ⟨o0, k1, k2, _⟩ := rmH_get ho'
              rw [hox] at k1; injection k1 with k1; subst k1
              rw [← k2]; exact List.mem_of_mem_take hm
          · rintro (rfl | hm)
            · exact hnL
            · have hsx : (rmH G n o x).isSome = true := by rw [(rmH_hm G n o x).2, hox]; rfl
              obtain ⟨o', ho'⟩ := Option.isSome_iff_exists.1 hsx
              obtain ⟨o0, k1, k2, _⟩ := rmH_get ho'
              rw [hox] at k1; injection k1 with k1; subst k1
              exact S.cl x o' ho' (by rw [k2]; exact hm)
        · constructor
          · intro hx; exact absurd (hLo x hx) hxo
          · intro hx; rw [hD x] at hx; simp [hxo] at hx
    have hLD : ∀ x, x ∈ L ↔ D x = true := fun x => hLD _ x (Nat.lt_succ_self _)
    have hG' : ∀ x, G' x = if D x then none else rmH G n o x := fun x => by
      by_cases hx : D x = true
      · rw [if_pos hx]; exact ((S.rem x).1 ((hLD x).2 hx)).2
      · rw [if_neg hx]
        rcases S.sub x with e | e
        · exact e
        · cases hs : rmH G n o x with
          | none => exact e
          | some _ => exact absurd ((hLD x).1 ((S.rem x).2 ⟨by rw [hs]; rfl, e⟩)) hx
    have hG1 : ∀ x o', G' x = some o' → D x = false ∧ rmH G n o x = some o' := fun x o' hx => by
      rw [hG' x] at hx
      by_cases hd : D x = true
      · rw [if_pos hd] at hx; cases hx
      · rw [if_neg hd] at hx; exact ⟨by simpa using hd, hx⟩
    have hsome : ∀ x, (G' x).isSome = ((G x).isSome && !D x) := fun x => by
      rw [hG' x]
      by_cases hd : D x = true
      · rw [if_pos hd]; simp [hd]
      · rw [if_neg hd, (rmH_hm G n o x).2]; simp [hd]
    refine ⟨⟨hLD, S.nd, fun i x hi => ?_, fun x o' hx => ?_, hsome⟩, ⟨h.pw.sublist (List.filter_sublist), fun x => ?_, fun x hx => h.nz x (List.mem_filter.1 hx).1, fun x o' hx => ?_, fun x o' hx => ?_⟩⟩
    · obtain ⟨o', ho'⟩ := Option.isSome_iff_exists.1 ((S.rem x).1 (List.mem_of_getElem? hi)).1
      obtain ⟨o0, k1, k2, _⟩ := rmH_get ho'
      refine ⟨o0, k1, fun h0 => ?_⟩
      obtain ⟨o2, ho2, hm⟩ := S.he.2 i x hi h0
      rw [ho'] at ho2; injection ho2 with ho2; subst ho2
      rw [← k2]; exact hm
    · obtain ⟨h1, h2⟩ := hG1 x o' hx
      obtain ⟨o0, k1, k2, k3, k4, _⟩ := rmH_get h2
      exact ⟨h1, o0, k1, k2, k3, k4⟩
    · rw [hsome x, List.mem_filter, h.mem x]
      simp
    · obtain ⟨h1, h2⟩ := hG1 x o' hx
      obtain ⟨o0, k1, k2, _⟩ := rmH_get h2
      have := h.hm x o0 k1
      rw [k2]
      refine ⟨this.1, ?_⟩
      rcases this.2 with h0 | ⟨h3, h4⟩
      · exact .inl h0
      · refine .inr ⟨List.mem_filter.2 ⟨h3, ?_⟩, h4⟩
        have hx2 : x ∈ os := (h.mem x).2 (by rw [k1]; rfl)
        rw [hD x, k1] at h1
        simp [hx2] at h1
        simp [h1.2]
    · obtain ⟨h1, h2⟩ := hG1 x o' hx
      obtain ⟨o0, k1, k2, _, _, k5⟩ := rmH_get h2
      rw [k5, h.ks x o0 k1]
      unfold kidsOf
      have hfil : (os.filter fun x => !D x).filter (fun k => hmOf G' k == some x) = (os.filter fun k => hmOf G k == some x).filter (· != n) := by
        rw [List.filter_filter, List.filter_filter]
        refine List.filter_congr fun k hk => ?_
        obtain ⟨ok, hok⟩ := Option.isSome_iff_exists.1 ((h.mem k).1 hk)
        have hDk : D k = (k == n || D ok.hm) := by rw [hD k, hok]; simp [hk]
        have hh : hmOf G' k = if D k then none else some ok.hm := by
          unfold hmOf
          rw [hG' k]
          split
          · rfl
          · rw [(rmH_hm G n o k).1, hok]; rfl
        have hh2 : hmOf G k = some ok.hm := by unfold hmOf; rw [hok]; rfl
        rw [hh, hh2]
        by_cases e : ok.hm = x
        · rw [e, h1] at hDk
          rw [hDk, e]
          by_cases ek : k = n <;> simp [ek, bne]
        · have e2 : (some ok.hm == some x) = false := by simp [e]
          rw [e2]
          by_cases hd : D k = true <;> simp [hd, e]
      rw [hfil]
      split
      · rfl
      · rename_i hne
        symm
        refine List.filter_eq_self.2 fun k hk => ?_
        have := (List.mem_filter.1 hk).2
        by_cases ek : k = n
        · subst ek
          unfold hmOf at this
          rw [hG] at this
          simp at this
          exact absurd this.symm hne
        · simpa using ek
theorem bound_of (r : Nat → Nat) : ∀ os : List Nat, ∃ b, ∀ x ∈ os, r x < b
  | [] => ⟨0, by simp⟩
  | a :: os => by
    obtain ⟨b, hb⟩ := bound_of r os
    refine ⟨b + r a + 1, fun x hx => ?_⟩
    rcases List.mem_cons.1 hx with rfl | hx
    · omega
    · have := hb x hx; omega
theorem addG_hm {G : GM} {n : Nat} {o : Ob} (x : Nat) : hmOf (addG G n o) x = if x = n then some o.hm else hmOf G x := by
  unfold hmOf addG
  cases hc : ctr G o.hm with
  | none =>
    dsimp only
    by_cases e : x = n
    · subst e; rw [updN_same, if_pos rfl]; rfl
    · rw [updN_other _ _ e, if_neg e]
  | some ho =>
    dsimp only
    by_cases e : x = n
    · subst e; rw [updN_same, if_pos rfl]; rfl
    · rw [updN_other _ _ e, if_neg e]
      by_cases e2 : x = o.hm
      · subst e2; rw [updN_same, ctr_some hc]; rfl
      · rw [updN_other _ _ e2]
theorem addG_get {G : GM} {n : Nat} {o : Ob} {x : Nat} {o' : Ob} (hne : x ≠ n) (h : addG G n o x = some o') : ∃ o0, G x = some o0 ∧ o'.hm = o0.hm ∧ o'.kd = o0.kd ∧ o'.b = o0.b ∧ o'.ks = if (ctr G o.hm).isSome ∧ x = o.hm then o0.ks.filter (· != n) ++ [n] else o0.ks := by
  unfold addG at h
  cases hc : ctr G o.hm with
  | none =>
    rw [hc] at h
    dsimp only at h
    rw [updN_other _ _ hne] at h
    exact ⟨o', h, rfl, rfl, rfl, by simp⟩
  | some ho =>
    rw [hc] at h
    dsimp only at h
    rw [updN_other _ _ hne] at h
    by_cases e2 : x = o.hm
    · subst e2
      rw [updN_same] at h
      injection h with h
      subst h
      exact ⟨ho, ctr_some hc, rfl, rfl, rfl, by simp⟩
    · rw [updN_other _ _ e2] at h
      exact ⟨o', h, rfl, rfl, rfl, by simp [e2]⟩
theorem addG_n {G : GM} {n : Nat} {o : Ob} : addG G n o n = some o := by
  unfold addG
  cases ctr G o.hm <;> exact updN_same _ _ _
theorem may_spec {G : GM} {n : Nat} {o : Ob} (h : may G n o = true) : n ≠ 0 ∧ G n = none ∧ ((∃ ho, ctr G o.hm = some ho) ∨ (ctr G o.hm = none ∧ n = 1 ∧ o.hm = 0)) := by
  unfold may at h
  rw [Bool.and_eq_true, Bool.and_eq_true] at h
  obtain ⟨h0, h1, h2⟩ := h
  have h1 : G n = none := by
    cases hg : G n with
    | none => rfl
    | some _ => rw [hg] at h1; cases h1
  refine ⟨by simpa using h0, h1, ?_⟩
  cases hc : ctr G o.hm with
  | some ho => exact .inl ⟨ho, rfl⟩
  | none =>
    rw [hc] at h2
    simp at h2
    exact .inr ⟨rfl, h2⟩
theorem Tr.add {r : Nat → Nat} {os : List Nat} {G : GM} {n : Nat} {o : Ob} (h : Tr r os G) (hm : may G n o = true) (hks : o.ks = []) (hn : n ≤ 15) (hh : o.hm ≤ 15) : ∃ r', Tr r' (os ++ [n]) (addG G n o) := by
  obtain ⟨h0, hG, hc⟩ := may_spec hm
  obtain ⟨b, hb⟩ := bound_of r os
  have hno : n ∉ os := fun hx => by have := (h.mem n).1 hx; rw [hG] at this; cases this
  have hhm : o.hm = 0 ∨ o.hm ∈ os := by
    rcases hc with ⟨ho, hc⟩ | ⟨_, _, e⟩
    · exact .inr ((h.mem _).2 (by rw [ctr_some hc]; rfl))
    · exact .inl e
  have hhn : o.hm ≠ n := fun e => by
    rcases hhm with e0 | e0
    · omega
    · rw [e] at e0; exact hno e0
  have hro : ∀ x ∈ os, (if x = n then b else r x) = r x := fun x hx => if_neg fun e => hno (by rw [← e]; exact hx)
  refine ⟨fun x => if x = n then b else r x, ⟨?_, fun x => ?_, fun x hx => ?_, fun x o' hx => ?_, fun x o' hx => ?_⟩⟩
  · refine List.pairwise_append.2 ⟨h.pw.imp_of_mem fun {a c} ha hc' hlt => by rw [hro a ha, hro c hc']; exact hlt, by simp, fun a ha c hc' => ?_⟩
    rw [List.mem_singleton.1 hc', hro a ha, if_pos rfl]
    exact hb a ha
  · rw [List.mem_append, List.mem_singleton]
    have e := addG_hm (G := G) (n := n) (o := o) x
    have e2 : (addG G n o x).isSome = (hmOf (addG G n o) x).isSome := by unfold hmOf; simp
    rw [e2, e]
    by_cases ex : x = n
    · simp [ex]
    · rw [if_neg ex, h.mem x]
      unfold hmOf
      simp [ex]
  · rcases List.mem_append.1 hx with hx | hx
    · exact h.nz x hx
    · rw [List.mem_singleton.1 hx]; exact ⟨h0, hn⟩
  · by_cases ex : x = n
    · subst ex
      rw [addG_n] at hx
      injection hx with hx
      subst hx
      refine ⟨hh, ?_⟩
      rcases hhm with e0 | e0
      · exact .inl e0
      · refine .inr ⟨List.mem_append_left _ e0, ?_⟩
        rw [if_pos rfl, hro _ e0]; exact hb _ e0
    · obtain ⟨o0, k1, k2, _⟩ := addG_get ex hx
      have := h.hm x o0 k1
      rw [k2]
      refine ⟨this.1, ?_⟩
      rcases this.2 with e0 | ⟨e0, e1⟩
      · exact .inl e0
      · refine .inr ⟨List.mem_append_left _ e0, ?_⟩
        rw [if_neg ex, hro _ e0]; exact e1
  · have hfil : ∀ y, os.filter (fun k => hmOf (addG G n o) k == some y) = kidsOf os G y := fun y => List.filter_congr fun k hk => by
      rw [addG_hm, if_neg fun e => hno (by rw [← e]; exact hk)]
    have hall : kidsOf (os ++ [n]) (addG G n o) x = kidsOf os G x ++ if o.hm = x then [n] else [] := by
      unfold kidsOf
      rw [List.filter_append, hfil x]
      congr 1
      rw [List.filter_cons, addG_hm, if_pos rfl]
      by_cases e : o.hm = x <;> simp [e]
    rw [hall]
    by_cases ex : x = n
    · subst ex
      rw [addG_n] at hx
      injection hx with hx
      subst hx
      rw [hks, if_neg hhn, List.append_nil]
      symm
      refine List.filter_eq_nil_iff.2 fun k hk hkh => ?_
      obtain ⟨ok, hok⟩ := Option.isSome_iff_exists.1 ((h.mem k).1 hk)
      unfold hmOf at hkh
      rw [hok] at hkh
      simp at hkh
      rcases (h.hm k ok hok).2 with e0 | ⟨e0, _⟩
      · omega
      · rw [hkh] at e0; exact hno e0
    · obtain ⟨o0, k1, k2, _, _, k5⟩ := addG_get ex hx
      have hx0 : x ≠ 0 := (h.nz x ((h.mem x).2 (by rw [k1]; rfl))).1
      rw [k5, h.ks x o0 k1]
      by_cases e : o.hm = x
      · have hci : (ctr G o.hm).isSome = true := by
          rcases hc with ⟨ho, hc⟩ | ⟨_, _, e0⟩
          · rw [hc]; rfl
          · omega
        rw [if_pos ⟨hci, e.symm⟩, if_pos e]
        congr 1
        refine List.filter_eq_self.2 fun k hk => ?_
        have := (List.mem_filter.1 hk).1
        have hkn : k ≠ n := fun e => hno (by rw [← e]; exact this)
        simpa using hkn
      · rw [if_neg fun h => e h.2.symm, if_neg e, List.append_nil]
end Go.Proofs.Ytodionedjokdmaa
