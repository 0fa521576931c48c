/- Page tables: the mathematics (worked ahead of stage 7; built alone over pack's num and enc, frames' zeros and lay). -/
import Derived.Test.YtliljicmkgbfpaaKa
import Derived.Test.YtliljicmkgbfpaaGc
set_option linter.unusedVariables false
set_option linter.unusedSimpArgs false
namespace Pg
set_option linter.unusedVariables false
set_option linter.unusedSimpArgs false
/-- An entry of a table in frame f. -/
def ent (ds : List (List Nat)) (f i : Nat) : Nat := Pk.num (((ds.getD (f - 1) []).drop (8 * i)).take 8)
def there (e : Nat) : Bool := e % 2 == 1
def may (e : Nat) : Bool := e / 2 % 2 == 1
def frame (e : Nat) : Nat := e / 256
/-- Where an entry of the last level leads. -/
def look (e : Nat) : Option (Nat × Bool) := if there e = true then some (frame e, may e) else none
/-- A frame with one entry laid anew. -/
def lay8 (d : List Nat) (i x : Nat) : List Nat := Fr.lay d (8 * i) (Pk.enc 8 x)
theorem lay8_len {d : List Nat} {i x : Nat} (hd : d.length = 64) (hi : i < 8) : (lay8 d i x).length = 64 := by
  unfold lay8 Fr.lay; simp [Pk.enc_len]; omega
theorem lay8_same {d : List Nat} {i x : Nat} (hd : d.length = 64) (hi : i < 8) : ((lay8 d i x).drop (8 * i)).take 8 = Pk.enc 8 x := by
  unfold lay8 Fr.lay
  rw [List.append_assoc, List.drop_append_of_le_length (by simp; omega), List.drop_take_self, List.nil_append, List.take_append_of_le_length (by rw [Pk.enc_len]; omega), List.take_of_length_le (by rw [Pk.enc_len]; omega)]
theorem lay8_other {d : List Nat} {i j x : Nat} (hd : d.length = 64) (hi : i < 8) (hj : j < 8) (h : j ≠ i) : ((lay8 d i x).drop (8 * j)).take 8 = (d.drop (8 * j)).take 8 := by
  unfold lay8 Fr.lay
  apply List.ext_getElem?
  intro k
  rw [List.getElem?_take, List.getElem?_take]
  by_cases hk : k < 8
  · rw [if_pos hk, if_pos hk, List.getElem?_drop, List.getElem?_drop, List.append_assoc, List.getElem?_append, List.length_take, Nat.min_eq_left (by omega)]
    by_cases h1 : 8 * j + k < 8 * i
    · rw [if_pos h1, List.getElem?_take, if_pos h1]
    · rw [if_neg h1, List.getElem?_append, Pk.enc_len, if_neg (by omega), List.getElem?_drop]
      congr 1
      omega
  · rw [if_neg hk, if_neg hk]
theorem ent_zeros {ds : List (List Nat)} {f i : Nat} (h : ds.getD (f - 1) [] = Fr.zeros) : ent ds f i = 0 := by
  unfold ent
  rw [h]
  unfold Fr.zeros
  rw [List.drop_replicate, List.take_replicate]
  generalize min 8 (64 - 8 * i) = n
  induction n with
  | zero => rfl
  | succ n ih => rw [List.replicate_succ', Pk.num_snoc, ih]
theorem getD_set (l : List (List Nat)) (i j : Nat) (x : List Nat) (hj : j < l.length) : (l.set j x).getD i [] = if i = j then x else l.getD i [] := by
  rw [List.getD_eq_getElem?_getD, List.getD_eq_getElem?_getD, List.getElem?_set]
  by_cases e : j = i
  · subst e; rw [if_pos rfl, if_pos hj, if_pos rfl]; rfl
  · rw [if_neg e, if_neg (fun x => e x.symm)]
theorem getD_setN (l : List Nat) (i j x : Nat) (hj : j < l.length) : (l.set j x).getD i 0 = if i = j then x else l.getD i 0 := by
  rw [List.getD_eq_getElem?_getD, List.getD_eq_getElem?_getD, List.getElem?_set]
  by_cases e : j = i
  · subst e; rw [if_pos rfl, if_pos hj, if_pos rfl]; rfl
  · rw [if_neg e, if_neg (fun x => e x.symm)]
/-- Entries behind a write into a table. -/
theorem ent_lay {ds : List (List Nat)} {f g i j x : Nat} (hf : 1 ≤ f) (hl : f ≤ ds.length) (hg : 1 ≤ g) (hd : (ds.getD (f - 1) []).length = 64) (hi : i < 8) (hj : j < 8) (hx : x < 18446744073709551616) :
    ent (ds.set (f - 1) (lay8 (ds.getD (f - 1) []) i x)) g j = if g = f ∧ j = i then x else ent ds g j := by
  unfold ent
  rw [getD_set _ _ _ _ (by omega)]
  by_cases h1 : g = f
  · subst h1
    rw [if_pos rfl]
    by_cases h2 : j = i
    · subst h2
      rw [if_pos ⟨rfl, rfl⟩, lay8_same hd hi, Pk.num_enc]
      exact Nat.mod_eq_of_lt hx
    · rw [if_neg (fun h => h2 h.2), lay8_other hd hi hj h2]
  · rw [if_neg (by omega), if_neg (fun h => h1 h.1)]
/-- Entries behind a frame that is charged anew. -/
theorem ent_charge {ds : List (List Nat)} {f g i : Nat} (hf : 1 ≤ f) (hl : f ≤ ds.length) (hg : 1 ≤ g) : ent (ds.set (f - 1) Fr.zeros) g i = if g = f then 0 else ent ds g i := by
  by_cases h1 : g = f
  · subst h1
    rw [if_pos rfl]
    exact ent_zeros (by rw [getD_set _ _ _ _ (by omega), if_pos rfl])
  · rw [if_neg h1]
    unfold ent
    rw [getD_set _ _ _ _ (by omega), if_neg (by omega)]
/-- Tables in frames of one owner: which there are (a level and what stands ahead of it), in which frames, and where pages lead. -/
structure Tb (os : List Nat) (ds : List (List Nat)) (o : Nat) (ks : List (Nat × Nat)) (nd : Nat → Nat → Nat) (mp : Nat → Option (Nat × Bool)) : Prop where
  own0 : o ≠ 0
  root : (0, 0) ∈ ks
  nodup : ks.Nodup
  lev : ∀ l q, (l, q) ∈ ks → l ≤ 3 ∧ q < 8 ^ l
  up : ∀ l q, (l + 1, q) ∈ ks → (l, q / 8) ∈ ks
  own : ∀ l q, (l, q) ∈ ks → 1 ≤ nd l q ∧ nd l q ≤ os.length ∧ os.getD (nd l q - 1) 0 = o ∧ (ds.getD (nd l q - 1) []).length = 64
  inj : ∀ l q l' q', (l, q) ∈ ks → (l', q') ∈ ks → nd l q = nd l' q' → l = l' ∧ q = q'
  in_ : ∀ l q i, l < 3 → (l, q) ∈ ks → i < 8 → (there (ent ds (nd l q) i) = true ↔ (l + 1, 8 * q + i) ∈ ks) ∧ ((l + 1, 8 * q + i) ∈ ks → frame (ent ds (nd l q) i) = nd (l + 1) (8 * q + i))
  last : ∀ q i, (3, q) ∈ ks → i < 8 → mp (8 * q + i) = look (ent ds (nd 3 q) i)
  out : ∀ p, (3, p / 8) ∉ ks → mp p = none
  cnt : os.count o = ks.length
  len : ds.length = os.length
variable {os os' : List Nat} {ds ds' : List (List Nat)} {o : Nat} {ks : List (Nat × Nat)} {nd : Nat → Nat → Nat} {mp : Nat → Option (Nat × Bool)}
/-- What touches none of the frames leaves the tables. -/
theorem Tb.keep (h : Tb os ds o ks nd mp) (hl : os'.length = os.length) (hd : ds'.length = ds.length) (hc : os'.count o = os.count o)
    (ho : ∀ f, 1 ≤ f → f ≤ os.length → os.getD (f - 1) 0 = o → os'.getD (f - 1) 0 = o ∧ ds'.getD (f - 1) [] = ds.getD (f - 1) []) : Tb os' ds' o ks nd mp := by
  have e : ∀ l q i, (l, q) ∈ ks → ent ds' (nd l q) i = ent ds (nd l q) i := fun l q i hk => by
    obtain ⟨h1, h2, h3, _⟩ := h.own l q hk
    unfold ent
    rw [(ho _ h1 h2 h3).2]
  refine ⟨h.own0, h.root, h.nodup, h.lev, h.up, fun l q hk => ?_, h.inj, fun l q i hl3 hk hi => ?_, fun q i hk hi => ?_, h.out, by rw [hc]; exact h.cnt, by rw [hl, hd]; exact h.len⟩
  · obtain ⟨h1, h2, h3, h4⟩ := h.own l q hk
    obtain ⟨h5, h6⟩ := ho _ h1 h2 h3
    exact ⟨h1, by omega, h5, by rw [h6]; exact h4⟩
  · rw [e l q i hk]; exact h.in_ l q i hl3 hk hi
  · rw [e 3 q i hk]; exact h.last q i hk hi
/-- An entry of the last level is set. -/
theorem Tb.put (h : Tb os ds o ks nd mp) {q i x : Nat} (hk : (3, q) ∈ ks) (hi : i < 8) (hx : x < 18446744073709551616) :
    Tb os (ds.set (nd 3 q - 1) (lay8 (ds.getD (nd 3 q - 1) []) i x)) o ks nd (fun p => if p = 8 * q + i then look x else mp p) := by
  obtain ⟨f1, f2, f3, f4⟩ := h.own 3 q hk
  have e : ∀ l' q' j, (l', q') ∈ ks → j < 8 → ent (ds.set (nd 3 q - 1) (lay8 (ds.getD (nd 3 q - 1) []) i x)) (nd l' q') j = if nd l' q' = nd 3 q ∧ j = i then x else ent ds (nd l' q') j := fun l' q' j hk' hj =>
    ent_lay f1 (by rw [h.len]; exact f2) (h.own l' q' hk').1 f4 hi hj hx
  refine ⟨h.own0, h.root, h.nodup, h.lev, h.up, fun l q' hk' => ?_, h.inj, fun l q' j hl3 hk' hj => ?_, fun q' j hk' hj => ?_, fun p hp => ?_, h.cnt, by rw [List.length_set]; exact h.len⟩
  · obtain ⟨h1, h2, h3, h4⟩ := h.own l q' hk'
    refine ⟨h1, h2, h3, ?_⟩
    rw [getD_set _ _ _ _ (by rw [h.len]; omega)]
    split
    · exact lay8_len f4 hi
    · exact h4
  · rw [e l q' j hk' hj, if_neg (fun hh => by have := h.inj _ _ _ _ hk' hk hh.1; omega)]
    exact h.in_ l q' j hl3 hk' hj
  · rw [e 3 q' j hk' hj]
    by_cases h1 : q' = q ∧ j = i
    · obtain ⟨rfl, rfl⟩ := h1
      rw [if_pos rfl, if_pos ⟨rfl, rfl⟩]
    · rw [if_neg (by omega), if_neg (fun hh => h1 ⟨(h.inj _ _ _ _ hk' hk hh.1).2, hh.2⟩)]
      exact h.last q' j hk' hj
  · rw [if_neg (fun hh => by
      have e1 : p / 8 = q := by omega
      rw [e1] at hp
      exact hp hk)]
    exact h.out p hp
/-- A table more. -/
theorem Tb.grow (h : Tb os ds o ks nd mp) {l q i f x : Nat} (hk : (l, q) ∈ ks) (hl : l < 3) (hi : i < 8) (hn : (l + 1, 8 * q + i) ∉ ks) (f1 : 1 ≤ f) (f2 : f ≤ os.length) (f0 : os.getD (f - 1) 0 = 0)
    (hx : x < 18446744073709551616) (xt : there x = true) (xf : frame x = f) :
    Tb (os.set (f - 1) o) ((ds.set (f - 1) Fr.zeros).set (nd l q - 1) (lay8 (ds.getD (nd l q - 1) []) i x)) o ((l + 1, 8 * q + i) :: ks) (fun a b => if a = l + 1 ∧ b = 8 * q + i then f else nd a b) mp := by
  obtain ⟨g1, g2, g3, g4⟩ := h.own l q hk
  have ne : ∀ a b, (a, b) ∈ ks → nd a b ≠ f := fun a b hab e => by
    have := (h.own a b hab).2.2.1
    rw [e, f0] at this
    exact h.own0 this.symm
  have keep : ∀ a b, (a, b) ∈ ks → ¬ (a = l + 1 ∧ b = 8 * q + i) := fun a b hab e => by rw [e.1, e.2] at hab; exact hn hab
  have dl : ds.length = os.length := h.len
  have hset : (ds.set (f - 1) Fr.zeros).getD (nd l q - 1) [] = ds.getD (nd l q - 1) [] := by
    rw [getD_set _ _ _ _ (by omega), if_neg (by have := ne l q hk; omega)]
  have e : ∀ a b j, (a, b) ∈ ks → j < 8 → ent ((ds.set (f - 1) Fr.zeros).set (nd l q - 1) (lay8 (ds.getD (nd l q - 1) []) i x)) (nd a b) j = if (a = l ∧ b = q) ∧ j = i then x else ent ds (nd a b) j := fun a b j hab hj => by
    have := ent_lay (ds := ds.set (f - 1) Fr.zeros) (f := nd l q) (g := nd a b) (i := i) (j := j) (x := x) g1 (by rw [List.length_set]; omega) (h.own a b hab).1 (by rw [hset]; exact g4) hi hj hx
    rw [hset] at this
    rw [this]
    by_cases h1 : (a = l ∧ b = q) ∧ j = i
    · rw [if_pos h1, if_pos ⟨by rw [h1.1.1, h1.1.2], h1.2⟩]
    · rw [if_neg h1, if_neg (fun hh => h1 ⟨h.inj _ _ _ _ hab hk hh.1, hh.2⟩), ent_charge f1 (by omega) (h.own a b hab).1, if_neg (ne a b hab)]
  have ez : ∀ j, j < 8 → ent ((ds.set (f - 1) Fr.zeros).set (nd l q - 1) (lay8 (ds.getD (nd l q - 1) []) i x)) f j = 0 := fun j hj => by
    have := ent_lay (ds := ds.set (f - 1) Fr.zeros) (f := nd l q) (g := f) (i := i) (j := j) (x := x) g1 (by rw [List.length_set]; omega) f1 (by rw [hset]; exact g4) hi hj hx
    rw [hset] at this
    rw [this, if_neg (fun hh => ne l q hk hh.1.symm), ent_charge f1 (by omega) f1, if_pos rfl]
  have nochild : ∀ j, j < 8 → (l + 1 + 1, 8 * (8 * q + i) + j) ∉ ks := fun j hj hm => by
    have := h.up _ _ hm
    rw [show (8 * (8 * q + i) + j) / 8 = 8 * q + i by omega] at this
    exact hn this
  have l64 : (ds.getD (f - 1) []).length = 64 ∨ True := .inr trivial
  have dz : ((ds.set (f - 1) Fr.zeros).set (nd l q - 1) (lay8 (ds.getD (nd l q - 1) []) i x)).getD (f - 1) [] = Fr.zeros := by
    rw [getD_set _ _ _ _ (by rw [List.length_set]; omega), if_neg (by have := ne l q hk; omega), getD_set _ _ _ _ (by omega), if_pos rfl]
  refine ⟨h.own0, List.mem_cons_of_mem _ h.root, List.nodup_cons.2 ⟨hn, h.nodup⟩, fun a b hab => ?_, fun a b hab => ?_, fun a b hab => ?_, fun a b a' b' hab hab' he => ?_, fun a b j ha hab hj => ?_, fun b j hab hj => ?_, fun p hp => ?_, ?_, by simp [dl]⟩
  · rcases List.mem_cons.1 hab with e1 | hab
    · injection e1 with e1 e2
      subst e1 e2
      have := (h.lev l q hk).2
      exact ⟨by omega, by rw [Nat.pow_succ]; omega⟩
    · exact h.lev a b hab
  · rcases List.mem_cons.1 hab with e1 | hab
    · injection e1 with e1 e2
      obtain rfl : a = l := by omega
      rw [e2, show (8 * q + i) / 8 = q by omega]
      exact List.mem_cons_of_mem _ hk
    · exact List.mem_cons_of_mem _ (h.up a b hab)
  · rcases List.mem_cons.1 hab with e1 | hab
    · injection e1 with e1 e2
      subst e1 e2
      rw [if_pos ⟨rfl, rfl⟩]
      refine ⟨f1, by rw [List.length_set]; exact f2, by rw [getD_setN _ _ _ _ (by omega), if_pos rfl], by rw [dz]; rfl⟩
    · rw [if_neg (keep a b hab)]
      obtain ⟨h1, h2, h3, h4⟩ := h.own a b hab
      have hne := ne a b hab
      refine ⟨h1, by rw [List.length_set]; exact h2, by rw [getD_setN _ _ _ _ (by omega), if_neg (by omega)]; exact h3, ?_⟩
      rw [getD_set _ _ _ _ (by rw [List.length_set]; omega)]
      split
      · exact lay8_len g4 hi
      · rw [getD_set _ _ _ _ (by omega), if_neg (by omega)]; exact h4
  · rcases List.mem_cons.1 hab with e1 | hab
    · rcases List.mem_cons.1 hab' with e2 | hab'
      · injection e1 with e1 e3
        injection e2 with e2 e4
        exact ⟨by omega, by omega⟩
      · injection e1 with e1 e3
        rw [if_pos ⟨e1, e3⟩, if_neg (keep a' b' hab')] at he
        exact absurd he.symm (ne a' b' hab')
    · rcases List.mem_cons.1 hab' with e2 | hab'
      · injection e2 with e2 e4
        rw [if_neg (keep a b hab), if_pos ⟨e2, e4⟩] at he
        exact absurd he (ne a b hab)
      · rw [if_neg (keep a b hab), if_neg (keep a' b' hab')] at he
        exact h.inj a b a' b' hab hab' he
  · rcases List.mem_cons.1 hab with e1 | hab
    · injection e1 with e1 e2
      subst e1 e2
      rw [if_pos ⟨rfl, rfl⟩, ez j hj]
      have hno : (l + 1 + 1, 8 * (8 * q + i) + j) ∉ (l + 1, 8 * q + i) :: ks := fun hm => by
        rcases List.mem_cons.1 hm with e3 | hm
        · injection e3 with e3 e4; omega
        · exact nochild j hj hm
      exact ⟨⟨fun hh => by simp [there] at hh, fun hh => absurd hh hno⟩, fun hh => absurd hh hno⟩
    · rw [if_neg (keep a b hab), e a b j hab hj]
      by_cases h1 : (a = l ∧ b = q) ∧ j = i
      · rw [if_pos h1]
        obtain ⟨⟨rfl, rfl⟩, rfl⟩ := h1
        refine ⟨⟨fun _ => List.mem_cons_self, fun _ => xt⟩, fun _ => ?_⟩
        rw [if_pos ⟨rfl, rfl⟩, xf]
      · rw [if_neg h1]
        have hne : ¬ (a + 1 = l + 1 ∧ 8 * b + j = 8 * q + i) := fun hh => h1 ⟨⟨by omega, by omega⟩, by omega⟩
        have hm : (a + 1, 8 * b + j) ∈ (l + 1, 8 * q + i) :: ks ↔ (a + 1, 8 * b + j) ∈ ks := ⟨fun hh => by
          rcases List.mem_cons.1 hh with e3 | hh
          · injection e3 with e3 e4; exact absurd ⟨e3, e4⟩ hne
          · exact hh, fun hh => List.mem_cons_of_mem _ hh⟩
        rw [hm, if_neg hne]
        exact h.in_ a b j ha hab hj
  · rcases List.mem_cons.1 hab with e1 | hab
    · injection e1 with e1 e2
      rw [if_pos ⟨e1, e2⟩, ez j hj]
      have : mp (8 * b + j) = none := h.out _ (by rw [show (8 * b + j) / 8 = b by omega, e1, e2]; exact hn)
      rw [this]
      rfl
    · rw [if_neg (keep 3 b hab), e 3 b j hab hj, if_neg (fun hh => by omega)]
      exact h.last b j hab hj
  · exact h.out p (fun hh => hp (List.mem_cons_of_mem _ hh))
  · have hfl : f - 1 < os.length := by omega
    have h0 : os[f - 1] = 0 := by rw [List.getD_eq_getElem?_getD, List.getElem?_eq_getElem hfl] at f0; exact f0
    rw [List.count_set hfl, h0, List.length_cons, h.cnt, if_neg (by have := h.own0; simp; omega), if_pos (by simp)]
    omega
/-- A root alone. -/
theorem Tb.new {f : Nat} (o0 : o ≠ 0) (f1 : 1 ≤ f) (f2 : f ≤ os.length) (ho : os.getD (f - 1) 0 = o) (hz : ds.getD (f - 1) [] = Fr.zeros) (hc : os.count o = 1) (hl : ds.length = os.length) : Tb os ds o [(0, 0)] (fun _ _ => f) (fun _ => none) := by
  have m : ∀ a b, (a, b) ∈ [((0 : Nat), (0 : Nat))] → a = 0 ∧ b = 0 := fun a b hh => by
    have := List.mem_singleton.1 hh
    injection this with h1 h2
    exact ⟨h1, h2⟩
  refine ⟨o0, by simp, by simp, fun l q hk => ?_, fun l q hk => ?_, fun l q hk => ⟨f1, f2, ho, by rw [hz]; rfl⟩, fun l q l' q' hk hk' _ => ?_, fun l q i hl hk hi => ?_, fun q i hk hi => ?_, fun p _ => rfl, by rw [hc]; rfl, hl⟩
  · obtain ⟨rfl, rfl⟩ := m l q hk; exact ⟨by omega, by decide⟩
  · exact absurd (m _ _ hk).1 (by omega)
  · obtain ⟨rfl, rfl⟩ := m l q hk
    obtain ⟨rfl, rfl⟩ := m l' q' hk'
    exact ⟨rfl, rfl⟩
  · rw [ent_zeros hz]
    have hno : (l + 1, 8 * q + i) ∉ [((0 : Nat), (0 : Nat))] := fun hh => absurd (m _ _ hh).1 (by omega)
    exact ⟨⟨fun hh => by simp [there] at hh, fun hh => absurd hh hno⟩, fun hh => absurd hh hno⟩
  · exact absurd (m _ _ hk).1 (by omega)
/-- The tables below the root are gone. -/
theorem Tb.drop (h : Tb os ds o ks nd mp) (hl : os'.length = os.length) (hd : ds'.length = ds.length) (hc : os'.count o = 1) (ho : os'.getD (nd 0 0 - 1) 0 = o) (h6 : (ds'.getD (nd 0 0 - 1) []).length = 64) (he : ∀ i, i < 8 → there (ent ds' (nd 0 0) i) = false) :
    Tb os' ds' o [(0, 0)] (fun _ _ => nd 0 0) (fun _ => none) := by
  have m : ∀ a b, (a, b) ∈ [((0 : Nat), (0 : Nat))] → a = 0 ∧ b = 0 := fun a b hh => by
    have := List.mem_singleton.1 hh
    injection this with h1 h2
    exact ⟨h1, h2⟩
  obtain ⟨f1, f2, _, _⟩ := h.own 0 0 h.root
  refine ⟨h.own0, by simp, by simp, fun l q hk => ?_, fun l q hk => ?_, fun l q hk => ⟨f1, by omega, ho, h6⟩, fun l q l' q' hk hk' _ => ?_, fun l q i hl hk hi => ?_, fun q i hk hi => ?_, fun p _ => rfl, by rw [hc]; rfl, by rw [hd, hl]; exact h.len⟩
  · obtain ⟨rfl, rfl⟩ := m l q hk; exact ⟨by omega, by decide⟩
  · exact absurd (m _ _ hk).1 (by omega)
  · obtain ⟨rfl, rfl⟩ := m l q hk
    obtain ⟨rfl, rfl⟩ := m l' q' hk'
    exact ⟨rfl, rfl⟩
  · rw [he i hi]
    have hno : (l + 1, 8 * q + i) ∉ [((0 : Nat), (0 : Nat))] := fun hh => absurd (m _ _ hh).1 (by omega)
    exact ⟨⟨fun hh => by simp at hh, fun hh => absurd hh hno⟩, fun hh => absurd hh hno⟩
  · exact absurd (m _ _ hk).1 (by omega)
/-- The tables that a page needs, laid beside those that there are. -/
def ins (k : Nat × Nat) (ks : List (Nat × Nat)) : List (Nat × Nat) := if k ∈ ks then ks else k :: ks
def fill (ks : List (Nat × Nat)) (p : Nat) : List (Nat × Nat) := ins (3, p / 8) (ins (2, p / 64) (ins (1, p / 512) ks))
theorem mem_ins {k j : Nat × Nat} {ks : List (Nat × Nat)} : j ∈ ins k ks ↔ j = k ∨ j ∈ ks := by
  unfold ins
  split
  · exact ⟨.inr, fun h => by rcases h with rfl | h; assumption; exact h⟩
  · exact List.mem_cons
theorem ins_len (k : Nat × Nat) (ks : List (Nat × Nat)) : ks.length ≤ (ins k ks).length ∧ (ins k ks).length ≤ ks.length + 1 := by
  unfold ins; split <;> simp
theorem fill_len (ks : List (Nat × Nat)) (p : Nat) : ks.length ≤ (fill ks p).length ∧ (fill ks p).length ≤ ks.length + 3 := by
  unfold fill
  have h1 := ins_len (1, p / 512) ks
  have h2 := ins_len (2, p / 64) (ins (1, p / 512) ks)
  have h3 := ins_len (3, p / 8) (ins (2, p / 64) (ins (1, p / 512) ks))
  omega
theorem mem_fill {j : Nat × Nat} {ks : List (Nat × Nat)} {p : Nat} : j ∈ fill ks p ↔ j = (3, p / 8) ∨ j = (2, p / 64) ∨ j = (1, p / 512) ∨ j ∈ ks := by
  unfold fill; rw [mem_ins, mem_ins, mem_ins]
/-- Where pages lead when one is mapped. -/
def upd (mp : Nat → Option (Nat × Bool)) (p f : Nat) (m : Bool) : Nat → Option (Nat × Bool) := fun x => if x = p then some (f, m) else mp x
/-- .. when those that lead to a frame lead nowhere. -/
def wipe (mp : Nat → Option (Nat × Bool)) (f : Nat) : Nat → Option (Nat × Bool) := fun x => match mp x with
  | some (g, m) => if g = f then none else some (g, m)
  | none => none
/-- The pages that lead somewhere, rising, with their frames. -/
def pages (mp : Nat → Option (Nat × Bool)) : List (Nat × Nat) := (List.range 4096).filterMap fun p => (mp p).map fun x => (p, x.1)
end Pg
