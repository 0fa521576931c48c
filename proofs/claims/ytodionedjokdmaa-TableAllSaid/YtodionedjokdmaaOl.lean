/- What laws stand on: their own lists beside a table; masks. -/
import Derived.Test.YtodionedjokdmaaOk
set_option linter.unusedVariables false
set_option linter.unusedSimpArgs false
namespace Go.Proofs.Ytodionedjokdmaa
open Go.RowKit
set_option linter.unusedVariables false
set_option linter.unusedSimpArgs false
def inI (x : Int) : Value := .int .i64 x
theorem i64_low (k : Nat) (hk : k ≤ 62) (n : Int) : bits .and .i64 n ((2 ^ k - 1 : Nat) : Int) = n % ((2 ^ k : Nat) : Int) := by
  have hp : 2 ^ k ≤ 2 ^ 62 := Nat.pow_le_pow_right (by omega) hk
  have h127 : (BitVec.ofInt 64 ((2 ^ k - 1 : Nat) : Int)).toNat = 2 ^ k - 1 := by
    rw [BitVec.toNat_ofInt]; omega
  have key : (BitVec.ofInt 64 n &&& BitVec.ofInt 64 ((2 ^ k - 1 : Nat) : Int)).toNat = (n % ((2 ^ 64 : Nat) : Int)).toNat % 2 ^ k := by
    rw [BitVec.toNat_and, BitVec.toNat_ofInt, h127, Nat.and_two_pow_sub_one_eq_mod]
  show IntKind.i64.wrap ((BitVec.ofInt 64 n &&& BitVec.ofInt 64 ((2 ^ k - 1 : Nat) : Int)).toNat : Nat) = _
  have hd : (2 ^ k : Nat) ∣ 2 ^ 64 := Nat.pow_dvd_pow 2 (by omega)
  rw [key, IntKind.wrap_i64]
  have h3 : (n % ((2 ^ 64 : Nat) : Int)).toNat % 2 ^ k < 2 ^ k := Nat.mod_lt _ (Nat.pow_pos (by omega))
  have h4 : (((n % ((2 ^ 64 : Nat) : Int)).toNat % 2 ^ k : Nat) : Int) = n % ((2 ^ k : Nat) : Int) := by
    rw [Int.natCast_emod, Int.toNat_of_nonneg (Int.emod_nonneg _ (by omega)), Int.emod_emod_of_dvd _ (Int.natCast_dvd_natCast.2 hd)]
  omega
theorem u64_low (k : Nat) (hk : k ≤ 62) (n : Nat) : bits .and .u64 (n : Int) ((2 ^ k - 1 : Nat) : Int) = ((n % 2 ^ k : Nat) : Int) := by
  have hp : 2 ^ k ≤ 2 ^ 62 := Nat.pow_le_pow_right (by omega) hk
  have h127 : (BitVec.ofInt 64 ((2 ^ k - 1 : Nat) : Int)).toNat = 2 ^ k - 1 := by
    rw [BitVec.toNat_ofInt]; omega
  have key : (BitVec.ofInt 64 (n : Int) &&& BitVec.ofInt 64 ((2 ^ k - 1 : Nat) : Int)).toNat = ((n : Int) % ((2 ^ 64 : Nat) : Int)).toNat % 2 ^ k := by
    rw [BitVec.toNat_and, BitVec.toNat_ofInt, h127, Nat.and_two_pow_sub_one_eq_mod]
  show IntKind.u64.wrap ((BitVec.ofInt 64 (n : Int) &&& BitVec.ofInt 64 ((2 ^ k - 1 : Nat) : Int)).toNat : Nat) = _
  have hd : (2 ^ k : Nat) ∣ 2 ^ 64 := Nat.pow_dvd_pow 2 (by omega)
  have h2 : ((n : Int) % ((2 ^ 64 : Nat) : Int)).toNat % 2 ^ k = n % 2 ^ k := by
    rw [← Int.natCast_emod, Int.toNat_natCast, Nat.mod_mod_of_dvd _ hd]
  rw [key, h2, IntKind.wrap_u64]
  have h3 : n % 2 ^ k < 2 ^ k := Nat.mod_lt _ (Nat.pow_pos (by omega))
  omega
theorem and7 (n : Int) : ∃ m : Nat, bits .and .i64 n 7 = (m : Int) ∧ m < 8 :=
  ⟨(n % 8).toNat, by have := i64_low 3 (by omega) n; simp at this; rw [this]; omega, by omega⟩
theorem and3 (n : Int) : ∃ m : Nat, bits .and .i64 n 3 = (m : Int) ∧ m < 4 :=
  ⟨(n % 4).toNat, by have := i64_low 2 (by omega) n; simp at this; rw [this]; omega, by omega⟩
theorem and1 (n : Int) : ∃ m : Nat, bits .and .i64 n 1 = (m : Int) ∧ m < 2 :=
  ⟨(n % 2).toNat, by have := i64_low 1 (by omega) n; simp at this; rw [this]; omega, by omega⟩
theorem u15 (n : Nat) : ∃ m : Nat, bits .and .u64 (n : Int) 15 = (m : Int) ∧ m < 16 :=
  ⟨n % 16, by have := u64_low 4 (by omega) n; simp at this; rw [this]; omega, by omega⟩
theorem u65535 (n : Nat) : ∃ m : Nat, bits .and .u64 (n : Int) 65535 = (m : Int) ∧ m < 65536 :=
  ⟨n % 65536, by have := u64_low 16 (by omega) n; simp at this; rw [this]; omega, by omega⟩
section
variable {W w w' : World} {TL TW : List Nat} {t : Nat} {M : Option Nat} {ns : List Nat} {G : Nat → Option Ob} {v : Value} {xs : List Nat} {y : Nat}
/-- The law appends to a list of its own. -/
theorem lapp (ty : TypeId) (h : TS W (TL ++ TW) t M ns G w) (hW : ∀ b ∈ TL ++ TW, W.heap.size ≤ b) (hL : RW (· ∈ TL) 28 inU w v xs) (hd : ∀ b ∈ TL, b ∉ TW) (hl : xs.length ≤ 1000) :
    ∃ v' w' TL', (Builtin.append_ #[27, 27] ty #[v, .slice (some ⟨w.heap.size, 0, none⟩) 1 1]).run Try.prog (w.alloc (Obj.cells #[.int .u64 (y : Int)] 28)) = .ok v' w' ∧ TS W (TL' ++ TW) t M ns G w' ∧ (∀ b ∈ TL' ++ TW, W.heap.size ≤ b) ∧
      RW (· ∈ TL') 28 inU w' v' (xs ++ [y]) ∧ (∀ b ∈ TL', b ∉ TW) ∧ Same TW w w' := by
  have b1 := below_alloc1 w (Obj.cells #[.int .u64 (y : Int)] 28)
  have hq := heap_alloc_new w (Obj.cells #[.int .u64 (y : Int)] 28)
  obtain ⟨v', w', hrun, hv, S, ht, hS⟩ := append_u ty (hL.below b1) (ys := [y]) (by simp; omega) (some ⟨w.heap.size, 0, none⟩) 1 1 rfl (by simp) (lr_one hq)
  have hsz : w.heap.size ≤ w'.heap.size := Nat.le_trans b1.size ht.size
  have blk : ∀ b, b < w.heap.size → b ∉ TL → w'.heap[b]? = w.heap[b]? := fun b hb hn => (ht.block b (Nat.lt_of_lt_of_le hb b1.size) fun hm => hn (hS b hm).1).trans (b1.block b hb)
  have hbW : Below W.heap.size W w' := (h.b.trans (b1.mono h.b.size)).trans (ht.below (Nat.le_trans h.b.size b1.size) fun b hb => hW b (List.mem_append_left _ (hS b hb).1))
  obtain ⟨g, hg, hgl, hrow⟩ : ∃ g, (g ∈ TL ∨ w.heap.size ≤ g) ∧ g < w'.heap.size ∧ RW (· ∈ g :: TL) 28 inU w' v' (xs ++ [y]) := by
    rcases hv with ⟨h1, _⟩ | ⟨g, o, cap, cur, rfl, hg, hc, hr⟩
    · simp at h1
    · exact ⟨g, hg.imp id (fun h => Nat.le_trans b1.size h), (Array.getElem?_eq_some_iff.1 hc).1, .inr ⟨g, o, cap, cur, rfl, by simp, hc, hr⟩⟩
  refine ⟨v', w', g :: TL, hrun, h.keep hbW (fun b hb _ hn => blk b hb fun hm => hn (List.mem_append_left _ hm)) (fun b hb => ?_), fun b hb => ?_, hrow, fun b hb => ?_, fun b hb => blk b (h.tl b (List.mem_append_right _ hb)) fun hm => hd b hm hb⟩
  · rcases List.mem_append.1 hb with hb | hb
    · rcases List.mem_cons.1 hb with rfl | hb
      · exact ⟨hg.imp (fun h => List.mem_append_left _ h) id, hgl⟩
      · exact ⟨.inl (List.mem_append_left _ hb), Nat.lt_of_lt_of_le (h.tl b (List.mem_append_left _ hb)) hsz⟩
    · exact ⟨.inl (List.mem_append_right _ hb), Nat.lt_of_lt_of_le (h.tl b (List.mem_append_right _ hb)) hsz⟩
  · rcases List.mem_append.1 hb with hb | hb
    · rcases List.mem_cons.1 hb with rfl | hb
      · rcases hg with hg | hg
        · exact hW _ (List.mem_append_left _ hg)
        · exact Nat.le_trans h.b.size hg
      · exact hW _ (List.mem_append_left _ hb)
    · exact hW _ (List.mem_append_right _ hb)
  · rcases List.mem_cons.1 hb with rfl | hb
    · rcases hg with hg | hg
      · exact hd _ hg
      · exact fun hm => by have := h.tl _ (List.mem_append_right _ hm); omega
    · exact hd b hb
/-- A list in blocks that stay. -/
theorem RW.same {T : List Nat} (h : RW (· ∈ T) 28 inU w v xs) (hs : Same T w w') : RW (· ∈ T) 28 inU w' v xs := h.keep fun b cur hb _ => ⟨hb, hs b hb⟩
end
/-- A table of the root and some devices in it. -/
structure KG (G : Nat → Option Ob) (want : List Nat) : Prop where
  root : ∃ b, G 1 = some ⟨b, 1, 0, want, none, 0⟩
  out : ∀ n, n ≠ 1 → n ∉ want → G n = none
  dev : ∀ n ∈ want, ∃ b, G n = some ⟨b, 6, 1, [], none, 0⟩
  nd : want.Nodup
  rg : ∀ n ∈ want, 2 ≤ n ∧ n ≤ 9
section
variable {W w : World} {T : List Nat} {t : Nat} {M : Option Nat} {ns : List Nat} {G : Nat → Option Ob} {want : List Nat} {n f b : Nat}
theorem KG.len (h : KG G want) (hT : TS W T t M ns G w) : ns.length = want.length + 1 := by
  have hp : ns.Perm (1 :: want) := (List.perm_ext_iff_of_nodup hT.nodup (List.nodup_cons.2 ⟨fun hm => by have := h.rg 1 hm; omega, h.nd⟩)).2 fun x => by
    rw [hT.mem x, List.mem_cons]
    by_cases e : x = 1
    · subst e
      obtain ⟨b, hb⟩ := h.root
      rw [hb]; simp
    · by_cases hm : x ∈ want
      · obtain ⟨b, hb⟩ := h.dev x hm
        rw [hb]; simp [hm]
      · rw [h.out x e hm]; simp [hm, e]
  rw [hp.length_eq]; rfl
theorem KG.ks (h : KG G want) (hl : want.length ≤ 1000) : ∀ k o', G k = some o' → o'.ks.length ≤ 1000 := fun k o' hk => by
  by_cases e : k = 1
  · subst e
    obtain ⟨b, hb⟩ := h.root
    rw [hb] at hk
    injection hk with hk
    rw [← hk]; exact hl
  · by_cases hm : k ∈ want
    · obtain ⟨b, hb⟩ := h.dev k hm
      rw [hb] at hk
      injection hk with hk
      rw [← hk]; exact Nat.zero_le _
    · rw [h.out k e hm] at hk; cases hk
theorem KG.rm (h : KG G want) (hn : 2 ≤ n) (hf : 1 ≤ f) : (rm f G n).2 = (if n ∈ want then [n] else []) ∧ KG (rm f G n).1 (want.filter (· != n)) := by
  obtain ⟨b1, hb1⟩ := h.root
  by_cases hm : n ∈ want
  · obtain ⟨b, hb⟩ := h.dev n hm
    obtain ⟨g, rfl⟩ : ∃ g, f = g + 1 := ⟨f - 1, by omega⟩
    have hr : rmH G n ⟨b, 6, 1, [], none, 0⟩ = updN G 1 (some ⟨b1, 1, 0, want.filter (· != n), none, 0⟩) := by
      unfold rmH; simp only [hb1]
    have hrn : updN G 1 (some (⟨b1, 1, 0, want.filter (· != n), none, 0⟩ : Ob)) n = some ⟨b, 6, 1, [], none, 0⟩ := by rw [updN_other _ _ (by omega)]; exact hb
    have he : Go.Proofs.Ytodionedjokdmaa.rm (g + 1) G n = (updN (updN G 1 (some ⟨b1, 1, 0, want.filter (· != n), none, 0⟩)) n none, [n]) := by
      unfold Go.Proofs.Ytodionedjokdmaa.rm
      rw [hb]
      simp only
      rw [hr, tk_succ g _ n hrn]
      rfl
    rw [he, if_pos hm]
    refine ⟨rfl, ⟨b1, ?_⟩, fun k h1 h2 => ?_, fun k hk => ?_, h.nd.filter _, fun k hk => h.rg k (List.mem_filter.1 hk).1⟩
    · show updN _ n none 1 = _
      rw [updN_other _ _ (by omega), updN_same]
    · show updN _ n none k = _
      by_cases e : k = n
      · subst e; rw [updN_same]
      · rw [updN_other _ _ e, updN_other _ _ h1]
        exact h.out k h1 fun hm => h2 (List.mem_filter.2 ⟨hm, by simpa using e⟩)
    · have hk' := List.mem_filter.1 hk
      have e : k ≠ n := by simpa using hk'.2
      have := (h.rg k hk'.1).1
      show ∃ b, updN _ n none k = _
      rw [updN_other _ _ e, updN_other _ _ (by omega)]
      exact h.dev k hk'.1
  · have hG := h.out n (by omega) hm
    have he : Go.Proofs.Ytodionedjokdmaa.rm f G n = (G, []) := by unfold Go.Proofs.Ytodionedjokdmaa.rm; rw [hG]
    rw [he, if_neg hm]
    have : want.filter (· != n) = want := List.filter_eq_self.2 fun x hx => by
      have : x ≠ n := fun e => hm (e ▸ hx)
      simpa using this
    rw [this]
    exact ⟨rfl, h⟩
theorem KG.add (h : KG G want) (hn : 2 ≤ n ∧ n ≤ 9) (hm : n ∉ want) (b : Nat) : may G n ⟨b, 6, 1, [], none, 0⟩ = true ∧ KG (addG G n ⟨b, 6, 1, [], none, 0⟩) (want ++ [n]) := by
  obtain ⟨b1, hb1⟩ := h.root
  have hc : ctr G 1 = some ⟨b1, 1, 0, want, none, 0⟩ := by unfold ctr; rw [hb1]; rfl
  have hG := h.out n (by omega) hm
  have hf : want.filter (· != n) = want := List.filter_eq_self.2 fun x hx => by
    have : x ≠ n := fun e => hm (e ▸ hx)
    simpa using this
  refine ⟨?_, ?_⟩
  · unfold may
    have : (n != 0) = true := by simp; omega
    simp [hG, hc, this]
  · have he : addG G n ⟨b, 6, 1, [], none, 0⟩ = updN (updN G 1 (some ⟨b1, 1, 0, want ++ [n], none, 0⟩)) n (some ⟨b, 6, 1, [], none, 0⟩) := by
      unfold addG
      simp only [hc, hf]
    rw [he]
    refine ⟨⟨b1, ?_⟩, fun k h1 h2 => ?_, fun k hk => ?_, ?_, fun k hk => ?_⟩
    · rw [updN_other _ _ (by omega), updN_same]
    · have e : k ≠ n := fun e => h2 (by simp [e])
      rw [updN_other _ _ e, updN_other _ _ h1]
      exact h.out k h1 fun hm => h2 (List.mem_append_left _ hm)
    · by_cases e : k = n
      · subst e; exact ⟨b, updN_same _ _ _⟩
      · rw [updN_other _ _ e]
        rcases List.mem_append.1 hk with hk | hk
        · have := (h.rg k hk).1
          rw [updN_other _ _ (by omega)]
          exact h.dev k hk
        · exact absurd (List.mem_singleton.1 hk) e
    · exact List.nodup_append.2 ⟨h.nd, by simp, fun a ha b hb e => hm (by rw [List.mem_singleton.1 hb] at e; rw [← e]; exact ha)⟩
    · rcases List.mem_append.1 hk with hk | hk
      · exact h.rg k hk
      · rw [List.mem_singleton.1 hk]; exact hn
end
end Go.Proofs.Ytodionedjokdmaa
