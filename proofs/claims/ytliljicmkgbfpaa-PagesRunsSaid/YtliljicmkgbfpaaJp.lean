/- Drop: what the loop keeps of a table's entries. -/
import Derived.Test.YtliljicmkgbfpaaJo
set_option linter.unusedVariables false
set_option linter.unusedSimpArgs false
namespace Pg
set_option linter.unusedVariables false
set_option linter.unusedSimpArgs false
variable {ks : List (Nat × Nat)} {nd : Nat → Nat → Nat} {mp : Nat → Option (Nat × Bool)} {os os1 os2 os3 : List Nat} {ds ds1 ds2 ds3 : List (List Nat)} {o k l q : Nat} {pre : List (Nat × Nat)}
def nk (nd : Nat → Nat → Nat) (j : Nat × Nat) : Nat := nd j.1 j.2
/-- These tables are as they were. -/
def Fit (os : List Nat) (ds : List (List Nat)) (o : Nat) (nd : Nat → Nat → Nat) (L : List (Nat × Nat)) (os1 : List Nat) (ds1 : List (List Nat)) : Prop :=
  os1.length = os.length ∧ ds1.length = ds.length ∧ ∀ j ∈ L, os1.getD (nk nd j - 1) 0 = o ∧ ds1.getD (nk nd j - 1) [] = ds.getD (nk nd j - 1) []
structure EmI (o : Nat) (os1 : List Nat) (ds1 : List (List Nat)) (ks : List (Nat × Nat)) (nd : Nat → Nat → Nat) (k l q : Nat) (pre : List (Nat × Nat)) (os2 : List Nat) (ds2 : List (List Nat)) : Prop where
  em : Em o os1 ds1 ((dk ks k l q pre).map (nk nd)) (nd l q) os2 ds2
  len : (ds2.getD (nd l q - 1) []).length = 64
  ent : ∀ i, i < 8 → Pg.ent ds2 (nd l q) i = if i ∈ pre.map (·.1) then 0 else Pg.ent ds1 (nd l q) i
  inn : ∀ x ∈ pre, l < 3 → (l + 1, 8 * q + x.1) ∈ ks
theorem ent_of {ds ds' : List (List Nat)} {f : Nat} (h : ds'.getD (f - 1) [] = ds.getD (f - 1) []) (i : Nat) : ent ds' f i = ent ds f i := by unfold ent; rw [h]
theorem EmI.start (t : Tb os ds o ks nd mp) (ft : Fit os ds o nd ((l, q) :: sk ks k l q) os1 ds1) (hk : (l, q) ∈ ks) : EmI o os1 ds1 ks nd k l q [] os1 ds1 := by
  have e : dk ks k l q [] = [] := by unfold dk; cases k <;> rfl
  refine ⟨by rw [e]; exact Em.refl _ _ _ _, ?_, fun i hi => by simp, fun x hx => by cases hx⟩
  have := (ft.2.2 (l, q) (by simp)).2
  unfold nk at this
  rw [this]
  exact (t.own l q hk).2.2.2
theorem EmI.notin (h : EmI o os1 ds1 ks nd k l q pre os2 ds2) (t : Tb os ds o ks nd mp) (hlk : l + k = 3) (hk : (l, q) ∈ ks) : nd l q ∉ (dk ks k l q pre).map (nk nd) := fun hm => by
  rw [List.mem_map] at hm
  obtain ⟨j, hj, e⟩ := hm
  by_cases h3 : l < 3
  · obtain ⟨h1, x, hx, h2⟩ := dk_und (fun x hx => h.inn x hx h3) hj
    have := t.inj j.1 j.2 l q h1 hk e
    have := h2.1
    omega
  · obtain rfl : k = 0 := by omega
    simp [dk] at hj
theorem EmI.own (h : EmI o os1 ds1 ks nd k l q pre os2 ds2) (t : Tb os ds o ks nd mp) (ft : Fit os ds o nd ((l, q) :: sk ks k l q) os1 ds1) (hlk : l + k = 3) (hk : (l, q) ∈ ks) : os2.getD (nd l q - 1) 0 = o ∧ os2.length = os.length ∧ ds2.length = ds.length := by
  obtain ⟨f1, f2, f3, f4⟩ := t.own l q hk
  refine ⟨?_, h.em.oth.1.trans ft.1, h.em.oth.2.1.trans ft.2.1⟩
  rw [h.em.own _ f1, if_neg (h.notin t hlk hk)]
  exact (ft.2.2 (l, q) (by simp)).1
theorem EmI.gn (h : EmI o os1 ds1 ks nd k l q pre os2 ds2) (t : Tb os ds o ks nd mp) (ft : Fit os ds o nd ((l, q) :: sk ks k l q) os1 ds1) (hlk : l + k = 3) (hk : (l, q) ∈ ks) {i : Nat} (hi : i < 8) (hp : ∀ x ∈ pre, x.1 < i) : Pg.gn (Pg.ent ds2 (nd l q) i) = En ks nd mp l q i := by
  rw [h.ent i hi, if_neg (fun e => by
    rw [List.mem_map] at e
    obtain ⟨x, hx, e⟩ := e
    have := hp x hx
    omega), ent_of (f := nd l q) (ft.2.2 (l, q) (by simp)).2 i]
  exact t.gn_en (by omega) hk hi (fun _ => rfl)
theorem EmI.fit (h : EmI o os1 ds1 ks nd (k + 1) l q pre os2 ds2) (t : Tb os ds o ks nd mp) (ft : Fit os ds o nd ((l, q) :: sk ks (k + 1) l q) os1 ds1) (hlk : l + (k + 1) = 3) (hk : (l, q) ∈ ks) {i nx : Nat} (hp : pre ++ [(i, nx)] <+: ld (En ks nd mp l q) 8) (hm : (l + 1, 8 * q + i) ∈ ks) (hi : i < 8) :
    Fit os ds o nd ((l + 1, 8 * q + i) :: sk ks k (l + 1) (8 * q + i)) os2 ds2 := by
  refine ⟨h.em.oth.1.trans ft.1, h.em.oth.2.1.trans ft.2.1, fun j hj => ?_⟩
  have hju : j ∈ ks ∧ und (l + 1) (8 * q + i) j := by
    rcases List.mem_cons.1 hj with rfl | hj
    · exact ⟨hm, und_self _ _⟩
    · exact ⟨(sk_und _ _ _ _ hj).1, (sk_und _ _ _ _ hj).2.1⟩
  have hin : j ∈ sk ks (k + 1) l q := by
    rw [sk, List.mem_flatMap]
    exact ⟨i, List.mem_range.2 hi, by rw [if_pos hm]; exact hj⟩
  obtain ⟨e1, e2⟩ := ft.2.2 j (List.mem_cons_of_mem _ hin)
  have f1 : 1 ≤ nk nd j := (t.own j.1 j.2 hju.1).1
  have hn : nk nd j ∉ (dk ks (k + 1) l q pre).map (nk nd) := fun hm' => by
    rw [List.mem_map] at hm'
    obtain ⟨j', hj', e⟩ := hm'
    obtain ⟨g1, x, hx, g2⟩ := dk_und (fun x hx => h.inn x hx (by omega)) hj'
    have e3 := t.inj j'.1 j'.2 j.1 j.2 g1 hju.1 e
    have e4 := g2.2
    have e5 := hju.2.2
    rw [e3.1, e3.2] at e4
    have := ld_before hp x hx
    dsimp only at this
    omega
  have hne : nk nd j ≠ nd l q := fun e => by
    have e3 := t.inj j.1 j.2 l q hju.1 hk e
    have := hju.2.1
    omega
  exact ⟨by rw [h.em.own _ f1, if_neg hn]; exact e1, by rw [h.em.dat _ f1 hn hne]; exact e2⟩
theorem mem_snoc_fst {i nx j : Nat} : j ∈ (pre ++ [(i, nx)]).map (·.1) ↔ j ∈ pre.map (·.1) ∨ j = i := by simp
theorem EmI.next0 (h : EmI o os1 ds1 ks nd 0 3 q pre os2 ds2) (t : Tb os ds o ks nd mp) (ft : Fit os ds o nd ((3, q) :: sk ks 0 3 q) os1 ds1) (hk : (3, q) ∈ ks) {i nx : Nat} (hi : i < 8) :
    EmI o os1 ds1 ks nd 0 3 q (pre ++ [(i, nx)]) os2 (ds2.set (nd 3 q - 1) (lay8 (ds2.getD (nd 3 q - 1) []) i 0)) := by
  obtain ⟨f1, f2, f3, f4⟩ := t.own 3 q hk
  obtain ⟨o1, o2, o3⟩ := h.own t ft (by omega) hk
  have hdl := t.len
  refine ⟨h.em.write f1 (by omega) o1 _, ?_, fun j hj => ?_, fun x hx h3 => by omega⟩
  · rw [getD_set _ _ _ _ (by omega), if_pos rfl]; exact lay8_len h.len hi
  · rw [ent_lay f1 (by omega) f1 h.len hi hj (by omega), h.ent j hj]
    by_cases e : j = i
    · rw [if_pos ⟨rfl, e⟩, if_pos (mem_snoc_fst.2 (.inr e))]
    · rw [if_neg (fun hh => e hh.2)]
      by_cases e2 : j ∈ pre.map (·.1)
      · rw [if_pos e2, if_pos (mem_snoc_fst.2 (.inl e2))]
      · rw [if_neg e2, if_neg (fun hh => by rcases mem_snoc_fst.1 hh with hh | hh; exact e2 hh; exact e hh)]
theorem EmI.child (t : Tb os ds o ks nd mp) {i : Nat} (hm : (l + 1, 8 * q + i) ∈ ks) (hk : (l, q) ∈ ks)
    (c : Em o os2 ds2 ((sk ks k (l + 1) (8 * q + i)).map (nk nd)) (nd (l + 1) (8 * q + i)) os3 ds3) : nd l q ∉ (sk ks k (l + 1) (8 * q + i)).map (nk nd) ∧ nd (l + 1) (8 * q + i) ∉ (sk ks k (l + 1) (8 * q + i)).map (nk nd) ∧ nd l q ≠ nd (l + 1) (8 * q + i) := by
  refine ⟨fun hh => ?_, fun hh => ?_, fun e => by have := t.inj _ _ _ _ hk hm e; omega⟩
  · rw [List.mem_map] at hh
    obtain ⟨j, hj, e⟩ := hh
    obtain ⟨h1, h2, h3⟩ := sk_und _ _ _ _ hj
    have := t.inj j.1 j.2 _ _ h1 hk e
    omega
  · rw [List.mem_map] at hh
    obtain ⟨j, hj, e⟩ := hh
    obtain ⟨h1, h2, h3⟩ := sk_und _ _ _ _ hj
    have := t.inj j.1 j.2 _ _ h1 hm e
    omega
theorem EmI.next (h : EmI o os1 ds1 ks nd (k + 1) l q pre os2 ds2) (t : Tb os ds o ks nd mp) (ft : Fit os ds o nd ((l, q) :: sk ks (k + 1) l q) os1 ds1) (hlk : l + (k + 1) = 3) (hk : (l, q) ∈ ks) {i nx : Nat} (hp : pre ++ [(i, nx)] <+: ld (En ks nd mp l q) 8) (hm : (l + 1, 8 * q + i) ∈ ks) (hi : i < 8) (hnx : nd (l + 1) (8 * q + i) = nx)
    (c : Em o os2 ds2 ((sk ks k (l + 1) (8 * q + i)).map (nk nd)) nx os3 ds3) :
    (1 ≤ nx ∧ nx ≤ os3.length ∧ os3.getD (nx - 1) 0 = o ∧ (os3.set (nx - 1) 0).getD (nd l q - 1) 0 = o) ∧ EmI o os1 ds1 ks nd (k + 1) l q (pre ++ [(i, nx)]) (os3.set (nx - 1) 0) (ds3.set (nd l q - 1) (lay8 (ds3.getD (nd l q - 1) []) i 0)) := by
  obtain ⟨f1, f2, f3, f4⟩ := t.own l q hk
  obtain ⟨g1, g2, g3, g4⟩ := t.own _ _ hm
  obtain ⟨o1, o2, o3⟩ := h.own t ft hlk hk
  obtain ⟨n1, n2, n3⟩ := EmI.child t hm hk (hnx ▸ c)
  rw [hnx] at g1 g2 n2 n3
  have hdl := t.len
  have l3 := c.oth.1
  have l4 := c.oth.2.1
  have hfit := (h.fit t ft hlk hk hp hm hi).2.2 (l + 1, 8 * q + i) (by simp)
  have e1 : nk nd (l + 1, 8 * q + i) = nx := hnx
  rw [e1] at hfit
  have a1 : os3.getD (nx - 1) 0 = o := by rw [c.own nx g1, if_neg n2]; exact hfit.1
  have a2 : os3.getD (nd l q - 1) 0 = o := by rw [c.own _ f1, if_neg n1]; exact o1
  have a3 : (os3.set (nx - 1) 0).getD (nd l q - 1) 0 = o := by rw [getD_setN _ _ _ _ (by omega), if_neg (by omega)]; exact a2
  have a4 : ds3.getD (nd l q - 1) [] = ds2.getD (nd l q - 1) [] := c.dat _ f1 n1 n3
  have hl3 : (ds3.getD (nd l q - 1) []).length = 64 := by rw [a4]; exact h.len
  refine ⟨⟨g1, by omega, a1, a3⟩, ?_, ?_, fun j hj => ?_, fun x hx _ => ?_⟩
  · have := (h.em.step c t.own0 g1 (by omega) a1).write f1 (by omega) a3 (lay8 (ds3.getD (nd l q - 1) []) i 0)
    rw [dk_snoc, List.map_append, List.map_cons, show nk nd (l + 1, 8 * q + (i, nx).1) = nx from hnx]
    exact this
  · rw [getD_set _ _ _ _ (by omega), if_pos rfl]; exact lay8_len hl3 hi
  · rw [ent_lay f1 (by omega) f1 hl3 hi hj (by omega), ent_of a4 j, h.ent j hj]
    by_cases e : j = i
    · rw [if_pos ⟨rfl, e⟩, if_pos (mem_snoc_fst.2 (.inr e))]
    · rw [if_neg (fun hh => e hh.2)]
      by_cases e2 : j ∈ pre.map (·.1)
      · rw [if_pos e2, if_pos (mem_snoc_fst.2 (.inl e2))]
      · rw [if_neg e2, if_neg (fun hh => by rcases mem_snoc_fst.1 hh with hh | hh; exact e2 hh; exact e hh)]
  · rcases List.mem_append.1 hx with hx | hx
    · exact h.inn x hx (by omega)
    · obtain rfl := List.mem_singleton.1 hx; exact hm
theorem ld_mem {E : Nat → Option Nat} {n i x : Nat} (hi : i < n) (h : E i = some x) : (i, x) ∈ ld E n := by
  unfold ld
  rw [List.mem_filterMap]
  exact ⟨i, List.mem_range.2 hi, by rw [h]; rfl⟩
theorem dk_end (hlk : l + k = 3) : dk ks k l q (ld (En ks nd mp l q) 8) = sk ks k l q := by
  cases k with
  | zero => rfl
  | succ k => exact dk_all k l q (by omega)
theorem EmI.done (h : EmI o os1 ds1 ks nd k l q (ld (En ks nd mp l q) 8) os2 ds2) (t : Tb os ds o ks nd mp) (ft : Fit os ds o nd ((l, q) :: sk ks k l q) os1 ds1) (hlk : l + k = 3) (hk : (l, q) ∈ ks) :
    Em o os1 ds1 ((sk ks k l q).map (nk nd)) (nd l q) os2 ds2 ∧ ∀ i, i < 8 → there (Pg.ent ds2 (nd l q) i) = false := by
  refine ⟨by have := h.em; rwa [dk_end hlk] at this, fun i hi => ?_⟩
  rw [h.ent i hi]
  split
  · simp [there]
  · rename_i hn
    rw [ent_of (f := nd l q) (ft.2.2 (l, q) (by simp)).2 i]
    have hg := t.gn_en (mp := mp) (by omega : l ≤ 3) hk hi (fun _ => rfl)
    cases hE : En ks nd mp l q i with
    | none =>
      rw [hE] at hg
      unfold Pg.gn at hg
      split at hg
      · cases hg
      · rename_i hh; simpa using hh
    | some x => exact absurd (List.mem_map.2 ⟨(i, x), ld_mem hi hE, rfl⟩) hn
/-- What is left of the tables when those below the root are free. -/
theorem Tb.dropped (t : Tb os ds o ks nd mp) (c : Em o os ds ((sk ks 3 0 0).map (nk nd)) (nd 0 0) os2 ds2) (h64 : (ds2.getD (nd 0 0 - 1) []).length = 64) (hth : ∀ i, i < 8 → there (ent ds2 (nd 0 0) i) = false) :
    Tb os2 ds2 o [(0, 0)] (fun _ _ => nd 0 0) (fun _ => none) ∧ os2.count 0 + 1 = os.count 0 + ks.length := by
  have hs := t.sk_root
  have c0 := c.c0
  have co := c.co
  rw [List.length_map] at c0 co
  have hc := t.cnt
  refine ⟨t.drop c.oth.1 c.oth.2.1 (by omega) ?_ h64 hth, by omega⟩
  obtain ⟨f1, f2, f3, f4⟩ := t.own 0 0 t.root
  rw [c.own _ f1, if_neg (fun hm => ?_)]
  · exact f3
  · rw [List.mem_map] at hm
    obtain ⟨j, hj, e⟩ := hm
    obtain ⟨h1, h2, h3⟩ := sk_und _ _ _ _ hj
    have := t.inj j.1 j.2 0 0 h1 t.root e
    omega
end Pg
