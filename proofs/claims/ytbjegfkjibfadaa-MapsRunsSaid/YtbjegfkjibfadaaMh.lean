/- MapsOrder: where its maps lie. -/
import Derived.Test.YtbjegfkjibfadaaLb
set_option linter.unusedVariables false
set_option linter.unusedSimpArgs false
namespace Go.Proofs.Ytbjegfkjibfadaa
open Go.RowKit
set_option linter.unusedVariables false
set_option linter.unusedSimpArgs false
/-- What % tells of a place. -/
theorem place_of (a : Int) (l : Nat) (h0 : 0 < l) (h1 : l ≤ 1000) : ∃ (t u : Int) (i : Nat), a.tmod (l : Int) = t ∧ RowKit.wrap64 (t + l) = u ∧ u.tmod (l : Int) = (i : Int) ∧ i < l := by
  have h2 := Int.tmod_lt_of_pos a (show (0 : Int) < l by omega)
  have h3 := Int.lt_tmod_of_pos a (show (0 : Int) < l by omega)
  have e : RowKit.wrap64 (a.tmod l + l) = a.tmod l + l := by unfold RowKit.wrap64; omega
  refine ⟨_, _, (a.tmod l + l).toNat % l, rfl, rfl, ?_, Nat.mod_lt _ h0⟩
  rw [e, Int.tmod_eq_emod_of_nonneg (by omega), Int.natCast_emod, Int.toNat_of_nonneg (by omega)]
theorem i64_low (k : Nat) (hk : k ≤ 62) (n : Int) : bits .and .i64 n ((2 ^ k - 1 : Nat) : Int) = n % ((2 ^ k : Nat) : Int) := by
  have hp : 2 ^ k ≤ 2 ^ 62 := Nat.pow_le_pow_right (by omega) hk
  have h127 : (BitVec.ofInt 64 ((2 ^ k - 1 : Nat) : Int)).toNat = 2 ^ k - 1 := by
    rw [BitVec.toNat_ofInt]; omega
  have key : (BitVec.ofInt 64 n &&& BitVec.ofInt 64 ((2 ^ k - 1 : Nat) : Int)).toNat = (n % ((2 ^ 64 : Nat) : Int)).toNat % 2 ^ k := by
    rw [BitVec.toNat_and, BitVec.toNat_ofInt, h127, Nat.and_two_pow_sub_one_eq_mod]
  show IntKind.i64.wrap ((BitVec.ofInt 64 n &&& BitVec.ofInt 64 ((2 ^ k - 1 : Nat) : Int)).toNat : Nat) = _
  have hd : (2 ^ k : Nat) ∣ 2 ^ 64 := Nat.pow_dvd_pow 2 (by omega)
  rw [key, IntKind.wrap_i64]
  have h3 : (n % ((2 ^ 64 : Nat) : Int)).toNat % 2 ^ k < 2 ^ k := Nat.mod_lt _ (Nat.pow_pos (by omega))
  have h4 : (((n % ((2 ^ 64 : Nat) : Int)).toNat % 2 ^ k : Nat) : Int) = n % ((2 ^ k : Nat) : Int) := by
    rw [Int.natCast_emod, Int.toNat_of_nonneg (Int.emod_nonneg _ (by omega)), Int.emod_emod_of_dvd _ (Int.natCast_dvd_natCast.2 hd)]
  omega
theorem and4 (n : Int) : 0 ≤ bits .and .i64 n 15 ∧ bits .and .i64 n 15 < 16 := by
  have := i64_low 4 (by omega) n; simp at this; rw [this]; omega
/-- The map at a place of its own. -/
def plM (m : Mp) (i : Nat) : Mp := ⟨bits .and .i64 m.a 15 + 40 * (i : Int), m.s, m.f, m.n, m.w⟩
def plc (us : List Mp) (i : Nat) : Mp := plM (us[i]?.getD Mp.zero) i
theorem plc_at {us : List Mp} {i : Nat} {m : Mp} (h : us[i]? = some m) : plc us i = plM m i := by unfold plc; rw [h]; rfl
theorem plc_a (us : List Mp) (i : Nat) : 40 * (i : Int) ≤ (plc us i).a ∧ (plc us i).a ≤ 40 * (i : Int) + 15 := by
  have := and4 (us[i]?.getD Mp.zero).a
  unfold plc plM
  dsimp only
  omega
theorem ovl_plc {us la : List Mp} {g : Nat → Nat} {t k : Nat} (hs : Sp la) (hp : la.Perm ((List.range t).map fun i => plc us (g i))) (hk : ∀ i, i < t → g i ≠ k) (hok : (plc us k).ok = true) : ovl la (plc us k) = false :=
  Bool.eq_false_iff.2 fun h => by
    obtain ⟨x, hx, h1, h2⟩ := ovl_iff.1 h
    have hxo := hs.2 x hx
    obtain ⟨i, hi, rfl⟩ := List.mem_map.1 (hp.mem_iff.1 hx)
    have hne := hk i (List.mem_range.1 hi)
    have a1 := plc_a us (g i)
    have a2 := plc_a us k
    have o1 := hxo.1
    have o2 := hxo.2.1
    have o3 := (Mp.ok_iff.1 hok).1
    have o4 := (Mp.ok_iff.1 hok).2.1
    rcases Nat.lt_or_gt_of_ne hne with h | h <;> omega
theorem rot_perm (n u : Nat) (hu : u < n) : ((List.range n).map fun i => (i + u) % n).Perm (List.range n) := by
  have h : ((List.range n).map fun i => (i + u) % n) = (List.range n).drop u ++ (List.range n).take u := by
    apply List.ext_getElem
    · simp; omega
    · intro i h1 h2
      simp only [List.length_map, List.length_range] at h1
      rw [List.getElem_map, List.getElem_range, List.getElem_append]
      split
      · rename_i h3
        simp at h3
        rw [List.getElem_drop, List.getElem_range, Nat.mod_eq_of_lt (by omega)]; omega
      · rename_i h3
        simp at h3
        rw [List.getElem_take, List.getElem_range]
        simp
        rw [Nat.mod_eq_sub_mod (by omega), Nat.mod_eq_of_lt (by omega)]; omega
  rw [h]
  exact List.perm_append_comm.trans (by rw [List.take_append_drop])
theorem order_eq {us la lb : List Mp} {n u : Nat} (hu : u < n) (ha : Sp la) (hb : Sp lb) (hpa : la.Perm ((List.range n).map (plc us))) (hpb : lb.Perm ((List.range n).map fun i => plc us ((i + u) % n))) : la = lb := by
  refine ha.eq hb (hpa.trans (List.Perm.trans ?_ hpb.symm))
  have := (rot_perm n u hu).map (plc us)
  rw [List.map_map] at this
  exact this.symm
theorem snoc_perm {f : Nat → Mp} {t : Nat} {la l' : List Mp} {m : Mp} (hp : la.Perm ((List.range t).map f)) (hm : f t = m) (h : l'.Perm (m :: la)) : l'.Perm ((List.range (t + 1)).map f) := by
  rw [List.range_succ, List.map_append, List.map_singleton, hm]
  exact h.trans ((List.Perm.cons m hp).trans (List.perm_append_comm (l₁ := [m]) (l₂ := (List.range t).map f)))
theorem rot_ne {n u i t : Nat} (h : i < t) (ht : t < n) : (i + u) % n ≠ (t + u) % n := fun e => by
  have h1 := Nat.div_add_mod (i + u) n
  have h2 := Nat.div_add_mod (t + u) n
  rw [e] at h1
  have h3 : n * ((t + u) / n) = n * ((i + u) / n) + (t - i) := by omega
  have h4 : (t - i) = n * ((t + u) / n - (i + u) / n) := by rw [Nat.mul_sub]; omega
  have h5 : (t + u) / n - (i + u) / n = 0 := by
    rcases Nat.eq_zero_or_pos ((t + u) / n - (i + u) / n) with h | h
    · exact h
    · have : n * 1 ≤ n * ((t + u) / n - (i + u) / n) := Nat.mul_le_mul_left n h
      omega
  rw [h5] at h4
  omega
end Go.Proofs.Ytbjegfkjibfadaa
