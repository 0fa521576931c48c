/- NamesApart: the law's state, and what it counts. -/
import Derived.Test.YtkbhcfldnfnlaaaNd
import Derived.Test.YtkbhcfldnfnlaaaVm
set_option linter.unusedVariables false
set_option linter.unusedSimpArgs false
namespace Go.Proofs.Ytkbhcfldnfnlaaa
open Go.RowKit
set_option linter.unusedVariables false
set_option linter.unusedSimpArgs false
/-- What % tells of a place. -/
theorem place_of (a : Int) (l : Nat) (h0 : 0 < l) (h1 : l ≤ 1000) : ∃ (t u : Int) (i : Nat), a.tmod (l : Int) = t ∧ RowKit.wrap64 (t + l) = u ∧ u.tmod (l : Int) = (i : Int) ∧ i < l := by
  have h2 := Int.tmod_lt_of_pos a (show (0 : Int) < l by omega)
  have h3 := Int.lt_tmod_of_pos a (show (0 : Int) < l by omega)
  have e : RowKit.wrap64 (a.tmod l + l) = a.tmod l + l := by unfold RowKit.wrap64; omega
  refine ⟨_, _, (a.tmod l + l).toNat % l, rfl, rfl, ?_, Nat.mod_lt _ h0⟩
  rw [e, Int.tmod_eq_emod_of_nonneg (by omega), Int.natCast_emod, Int.toNat_of_nonneg (by omega)]
theorem i64_low (k : Nat) (hk : k ≤ 62) (n : Int) : bits .and .i64 n ((2 ^ k - 1 : Nat) : Int) = n % ((2 ^ k : Nat) : Int) := by
  have hp : 2 ^ k ≤ 2 ^ 62 := Nat.pow_le_pow_right (by omega) hk
  have h127 : (BitVec.ofInt 64 ((2 ^ k - 1 : Nat) : Int)).toNat = 2 ^ k - 1 := by
    rw [BitVec.toNat_ofInt]; omega
  have key : (BitVec.ofInt 64 n &&& BitVec.ofInt 64 ((2 ^ k - 1 : Nat) : Int)).toNat = (n % ((2 ^ 64 : Nat) : Int)).toNat % 2 ^ k := by
    rw [BitVec.toNat_and, BitVec.toNat_ofInt, h127, Nat.and_two_pow_sub_one_eq_mod]
  show IntKind.i64.wrap ((BitVec.ofInt 64 n &&& BitVec.ofInt 64 ((2 ^ k - 1 : Nat) : Int)).toNat : Nat) = _
  have hd : (2 ^ k : Nat) ∣ 2 ^ 64 := Nat.pow_dvd_pow 2 (by omega)
  rw [key, IntKind.wrap_i64]
  have h3 : (n % ((2 ^ 64 : Nat) : Int)).toNat % 2 ^ k < 2 ^ k := Nat.mod_lt _ (Nat.pow_pos (by omega))
  have h4 : (((n % ((2 ^ 64 : Nat) : Int)).toNat % 2 ^ k : Nat) : Int) = n % ((2 ^ k : Nat) : Int) := by
    rw [Int.natCast_emod, Int.toNat_of_nonneg (Int.emod_nonneg _ (by omega)), Int.emod_emod_of_dvd _ (Int.natCast_dvd_natCast.2 hd)]
  omega
theorem and5 (n : Int) : ∃ m : Int, bits .and .i64 n 31 = m ∧ 0 ≤ m ∧ m < 32 :=
  ⟨_, rfl, by have := i64_low 5 (by omega) n; simp at this; rw [this]; omega⟩
theorem and4 (n : Int) : ∃ m : Int, bits .and .i64 n 15 = m ∧ 0 ≤ m ∧ m < 16 :=
  ⟨_, rfl, by have := i64_low 4 (by omega) n; simp at this; rw [this]; omega⟩
theorem and1 (n : Int) : ∃ m : Int, bits .and .i64 n 1 = m ∧ 0 ≤ m ∧ m < 2 :=
  ⟨_, rfl, by have := i64_low 1 (by omega) n; simp at this; rw [this]; omega⟩
theorem and16 (n : Int) : ∃ m : Int, bits .and .i64 n 65535 = m ∧ 0 ≤ m ∧ m < 65536 :=
  ⟨_, rfl, by have := i64_low 16 (by omega) n; simp at this; rw [this]; omega⟩
variable {W w w' : World} {v v' : Value} {rs : List Rg} {b o c n i G s : Nat} {p q : Rg} {x N : Int} {f : Int → Int}
/-- The law's row of ranges. -/
structure NS (W : World) (v : Value) (rs : List Rg) (w : World) : Prop where
  b : Below W.heap.size W w
  r : RR (fun b => W.heap.size ≤ b) w v rs
  ok : ∀ p ∈ rs, p.ok
theorem NS.below (h : NS W v rs w) (hb : Below w.heap.size w w') : NS W v rs w' := ⟨below_up h.b hb, h.r.below hb, h.ok⟩
theorem NS.drew (h : NS W v rs w) : NS W v rs w.drew := ⟨h.b.drew, h.r, h.ok⟩
theorem NS.put {j : Nat} (h : NS W (.slice (some ⟨b, o, none⟩) n c) rs w) (hi : rs[i]? = some p) (hj : j < 3) (hq : encR q = (encR p).set j (.int .u64 x)) (hk : q.ok) (hb : Below w.heap.size (w.setCell ⟨b, o + i * 3 + j, none⟩ (.int .u64 x)) w') :
    NS W (.slice (some ⟨b, o, none⟩) n c) (rs.set i q) w' :=
  ⟨below_put h.b h.r.lt.1 hb, h.r.put hi hj hq hb, fun r hr => by
    rcases List.mem_or_eq_of_mem_set hr with h1 | rfl
    · exact h.ok r h1
    · exact hk⟩
theorem NS.snoc (h : NS W v rs w) (hk : q.ok) {S : List Nat} (hr : RR (fun b => W.heap.size ≤ b ∨ w.heap.size ≤ b) w' v' (rs ++ [q])) (hT : Turn S w w') (hS : ∀ b ∈ S, W.heap.size ≤ b) :
    NS W v' (rs ++ [q]) w' :=
  ⟨h.b.trans (hT.below h.b.size hS), hr.keep fun b cur hb _ => ⟨by rcases hb with e | e; exact e; exact Nat.le_trans h.b.size e, rfl⟩, fun r hr => by
    rcases List.mem_append.1 hr with h1 | h1
    · exact h.ok r h1
    · rw [List.mem_singleton.1 h1]; exact hk⟩
/-- Together they have all names from 5 on. -/
def Cov (N : Int) (rs : List Rg) : Prop := (∀ x, cnt x rs = if 5 ≤ x ∧ x < 5 + N then 1 else 0) ∧ sz rs = N
theorem Cov.one (N : Int) : Cov N [⟨5, 5, 5 + N⟩] := ⟨fun x => by simp [cnt, ind], by simp [sz]; omega⟩
theorem Cov.split (h : Cov N rs) {l n u k : Int} (hi : rs[i]? = some ⟨l, n, u⟩) (h0 : 0 ≤ k) (h1 : k ≤ u - n) : Cov N (rs.set i ⟨l, n, u - k⟩ ++ [⟨u - k, u - k, u⟩]) := by
  refine ⟨fun x => ?_, ?_⟩
  · rw [cnt_append, cnt_set x hi, ← h.1 x]
    have := ind_split l n u k x h0 h1 (u - k)
    simp only [cnt]; omega
  · rw [sz_append, sz_set hi]
    have := h.2
    simp only [sz]; omega
theorem split_right {l n u k : Int} (h : Ok l n u) (h0 : 0 ≤ k) (h1 : k ≤ u - n) : Ok l n (u - k) ∧ Ok (u - k) (u - k) u := by
  unfold Ok at *; omega
/-- What was seen, and what is left. -/
def Sn (N : Int) (rs : List Rg) (s : Nat) (f : Int → Int) : Prop := (∀ x, cnt x rs + f x = if 5 ≤ x ∧ x < 5 + N then 1 else 0) ∧ (∀ x, 0 ≤ f x) ∧ sz rs + s = N
theorem Sn.none (h : Cov N rs) : Sn N rs 0 (fun _ => 0) := ⟨fun x => by rw [Int.add_zero]; exact h.1 x, fun _ => Int.le_refl _, by have := h.2; omega⟩
theorem Sn.take (h : Sn N rs s f) {l n u : Int} (hi : rs[i]? = some ⟨l, n, u⟩) (hn : n < u) : f n = 0 ∧ Sn N (rs.set i ⟨l, n + 1, u⟩) (s + 1) (updF f n 1) := by
  have h1 := h.1 n
  have h2 := cnt_at n hi
  have h3 : ind ⟨l, n, u⟩ n = 1 := by unfold ind; rw [if_pos ⟨Int.le_refl _, hn⟩]
  have h4 := h.2.1 n
  have h5 : cnt n rs + f n ≤ 1 := by rw [h1]; split <;> omega
  have h6 : f n = 0 := by omega
  refine ⟨h6, fun x => ?_, fun x => ?_, ?_⟩
  · rw [cnt_set x hi, ← h.1 x]
    have h7 := ind_take l n u x hn
    by_cases e : x = n
    · subst e; rw [updF_same]; rw [if_pos rfl] at h7; omega
    · rw [updF_other _ _ e]; rw [if_neg e] at h7; omega
  · by_cases e : x = n
    · subst e; rw [updF_same]; omega
    · rw [updF_other _ _ e]; exact h.2.1 x
  · rw [sz_set hi]
    have := h.2.2
    simp only []
    omega
theorem Sn.all (h : Sn N rs s f) (he : ∀ (i : Nat) (p : Rg), rs[i]? = some p → p.n = p.u) : (s : Int) = N ∧ ∀ x, 5 ≤ x → x < 5 + N → f x = 1 := by
  obtain ⟨h1, h2⟩ := none_left he
  refine ⟨by have := h.2.2; omega, fun x h3 h4 => ?_⟩
  have := h.1 x
  rw [h2 x, if_pos ⟨h3, h4⟩] at this
  omega
/-- The row, and the map. -/
structure NM (W : World) (v : Value) (G : Nat) (rs : List Rg) (s : Nat) (f : Int → Int) (w : World) : Prop where
  ns : NS W v rs w
  g : W.heap.size ≤ G
  m : MapI w G s s f
theorem NM.below (h : NM W v G rs s f w) (hb : Below w.heap.size w w') : NM W v G rs s f w' := ⟨h.ns.below hb, h.g, h.m.same (hb.block G h.m.lt)⟩
theorem NM.put {j : Nat} (h : NM W (.slice (some ⟨b, o, none⟩) n c) G rs s f w) (hi : rs[i]? = some p) (hj : j < 3) (hq : encR q = (encR p).set j (.int .u64 x)) (hk : q.ok) (hb : Below w.heap.size (w.setCell ⟨b, o + i * 3 + j, none⟩ (.int .u64 x)) w') :
    NM W (.slice (some ⟨b, o, none⟩) n c) G (rs.set i q) s f w' :=
  ⟨h.ns.put hi hj hq hk hb, h.g, h.m.same ((hb.block G h.m.lt).trans (heap_setCell_other _ _ _ _ (fun e => by
    obtain ⟨_, cur, hc⟩ := h.ns.r.lt
    have e' : G = b := e
    rw [← e'] at hc
    exact h.m.not_row hc)))⟩
theorem NM.store (h : NM W v G rs s f w) {j : Int} (hs : s < maxLen) (h0 : 0 ≤ j) (hj : j ≤ 18446744073709551615) (hf : f j = 0) :
    ∃ w', (Instr.mapUpdate 43 (.map (some G)) (.int .u64 j) (.int .i64 1)).run Try.prog w = .ok () w' ∧ NM W v G rs (s + 1) (updF f j 1) w' := by
  obtain ⟨w', hrun, hm, hT⟩ := h.m.store (x := 1) hs h0 hj (by omega)
  rw [if_pos hf] at hm
  refine ⟨w', hrun, ⟨h.ns.b.trans (hT.below h.ns.b.size (fun b hb => by rw [List.mem_singleton.1 hb]; exact h.g)), h.ns.r.keep fun k cur hk hc => ⟨hk, hT.block k (Array.getElem?_eq_some_iff.1 hc).1 (fun e => ?_)⟩, h.ns.ok⟩, h.g, hm⟩
  rw [List.mem_singleton.1 e] at hc
  exact h.m.not_row hc
end Go.Proofs.Ytkbhcfldnfnlaaa
