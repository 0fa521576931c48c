/- Segments as lists: pages of bytes, one behind the other; parts of a range; what is read of them and written to them. -/
import Derived.Test.YtkpdgjmeeeddhaaGc
set_option linter.unusedVariables false
set_option linter.unusedSimpArgs false
namespace Sg
def cont (ds : List (List Nat)) (fs : List Nat) : List Nat := fs.flatMap fun f => ds.getD (f - 1) []
/-- As many bytes as frames; each frame's are 64. -/
def DW (os : List Nat) (ds : List (List Nat)) : Prop := ds.length = os.length ∧ ∀ d ∈ ds, d.length = 64 ∧ ∀ x ∈ d, x < 256
/-- The frames are o's, each once, and all of o's. -/
structure Own (os : List Nat) (o : Nat) (fs : List Nat) : Prop where
  pos : 0 < o
  nd : fs.Nodup
  own : ∀ f ∈ fs, 1 ≤ f ∧ os[f - 1]? = some o
  cnt : os.count o = fs.length
variable {os os' os2 : List Nat} {ds ds' ds2 : List (List Nat)} {o p k f off n a l : Nat} {fs gs K R b c m : List Nat}
theorem Own.lt (h : Own os o fs) (hf : f ∈ fs) : f - 1 < os.length := (List.getElem?_eq_some_iff.1 (h.own f hf).2).1
theorem DW.len (h : DW os ds) (hk : k < os.length) : (ds.getD k []).length = 64 := by
  rw [List.getD_eq_getElem?_getD, List.getElem?_eq_getElem (by rw [h.1]; exact hk)]
  exact (h.2 _ (List.getElem_mem _)).1
theorem DW.byte (h : DW os ds) (k : Nat) : ∀ x ∈ ds.getD k [], x < 256 := fun x hx => by
  rw [List.getD_eq_getElem?_getD] at hx
  cases e : ds[k]? with
  | none => rw [e] at hx; simp at hx
  | some d => rw [e] at hx; exact (h.2 d (List.mem_of_getElem? e)).2 x hx
theorem DW.set {d : List Nat} (h : DW os ds) (hd : d.length = 64 ∧ ∀ x ∈ d, x < 256) (k : Nat) : DW os (ds.set k d) := ⟨by rw [List.length_set]; exact h.1, fun e he => by
  rcases List.mem_or_eq_of_mem_set he with h1 | rfl
  · exact h.2 e h1
  · exact hd⟩
theorem DW.own' (h : DW os ds) (k x : Nat) : DW (os.set k x) ds := ⟨by rw [List.length_set]; exact h.1, h.2⟩
theorem cont_nil : cont ds [] = [] := rfl
theorem cont_cons : cont ds (f :: fs) = ds.getD (f - 1) [] ++ cont ds fs := by unfold cont; rw [List.flatMap_cons]
theorem cont_app : cont ds (fs ++ gs) = cont ds fs ++ cont ds gs := by unfold cont; rw [List.flatMap_append]
theorem cont_len (hd : DW os ds) : ∀ {fs : List Nat}, (∀ f ∈ fs, f - 1 < os.length) → (cont ds fs).length = 64 * fs.length
  | [], _ => rfl
  | f :: r, h => by
    rw [cont_cons, List.length_append, hd.len (h f (by simp)), cont_len hd (fun g hg => h g (by simp [hg])), List.length_cons]; omega
theorem cont_byte (hd : DW os ds) : ∀ x ∈ cont ds fs, x < 256 := fun x hx => by
  obtain ⟨f, _, h⟩ := List.mem_flatMap.1 hx
  exact hd.byte _ x h
theorem cont_get (hd : DW os ds) : ∀ {fs : List Nat}, (∀ f ∈ fs, f - 1 < os.length) → ∀ k, k < 64 * fs.length → (cont ds fs)[k]? = (ds.getD (fs.getD (k / 64) 0 - 1) [])[k % 64]?
  | [], _, k, hk => by simp at hk
  | f :: r, h, k, hk => by
    have hl := hd.len (h f (by simp))
    rw [cont_cons]
    by_cases h1 : k < 64
    · rw [List.getElem?_append_left (by omega), Nat.div_eq_of_lt h1, Nat.mod_eq_of_lt h1]; rfl
    · rw [List.length_cons] at hk
      rw [List.getElem?_append_right (by omega), hl, cont_get hd (fun g hg => h g (by simp [hg])) (k - 64) (by omega), show (k - 64) % 64 = k % 64 by omega, show k / 64 = (k - 64) / 64 + 1 by omega, List.getD_cons_succ]
/-- A part of a range. -/
structure Pt where
  f : Nat
  a : Nat
  l : Nat
def prts (fs : List Nat) (off n : Nat) : List Pt :=
  if h : n = 0 then [] else ⟨fs.getD (off / 64) 0, off % 64, min n (64 - off % 64)⟩ :: prts fs (off + min n (64 - off % 64)) (n - min n (64 - off % 64))
termination_by n
decreasing_by omega
theorem prts_zero : prts fs off 0 = [] := by unfold prts; rfl
theorem prts_more (h : 0 < n) : prts fs off n = ⟨fs.getD (off / 64) 0, off % 64, min n (64 - off % 64)⟩ :: prts fs (off + min n (64 - off % 64)) (n - min n (64 - off % 64)) := by
  rw [prts, dif_neg (by omega)]
theorem prts_len : ∀ (n off : Nat), (prts fs off n).length ≤ n := by
  intro n
  induction n using Nat.strongRecOn with
  | ind n ih =>
    intro off
    by_cases h : n = 0
    · subst h; rw [prts_zero]; simp
    · rw [prts_more (by omega), List.length_cons]
      have := ih (n - min n (64 - off % 64)) (by omega) (off + min n (64 - off % 64))
      omega
theorem prts_len2 (fs : List Nat) : ∀ (n off : Nat), (prts fs off n).length ≤ (off % 64 + n + 63) / 64 := by
  intro n
  induction n using Nat.strongRecOn with
  | ind n ih =>
    intro off
    by_cases h : n = 0
    · subst h; rw [prts_zero]; simp
    · rw [prts_more (by omega), List.length_cons]
      have := ih (n - min n (64 - off % 64)) (by omega) (off + min n (64 - off % 64))
      have ha : off % 64 < 64 := Nat.mod_lt _ (by omega)
      by_cases h1 : n ≤ 64 - off % 64
      · rw [Nat.min_eq_left h1, Nat.sub_self, prts_zero]
        simp only [List.length_nil]
        omega
      · rw [Nat.min_eq_right (by omega)] at this ⊢
        omega
def Fine (os fs : List Nat) (p : Pt) : Prop := p.f ∈ fs ∧ 1 ≤ p.f ∧ p.f - 1 < os.length ∧ 1 ≤ p.l ∧ p.a + p.l ≤ 64
theorem prts_fine (hf : ∀ f ∈ fs, 1 ≤ f ∧ f - 1 < os.length) : ∀ (n off : Nat), off + n ≤ 64 * fs.length → ∀ p ∈ prts fs off n, Fine os fs p := by
  intro n
  induction n using Nat.strongRecOn with
  | ind n ih =>
    intro off hn p hp
    by_cases h : n = 0
    · subst h; rw [prts_zero] at hp; simp at hp
    · rw [prts_more (by omega)] at hp
      rcases List.mem_cons.1 hp with rfl | hp
      · have hj : off / 64 < fs.length := by omega
        have e : fs.getD (off / 64) 0 = fs[off / 64] := by rw [List.getD_eq_getElem?_getD, List.getElem?_eq_getElem hj]; rfl
        have hm : fs.getD (off / 64) 0 ∈ fs := by rw [e]; exact List.getElem_mem _
        exact ⟨hm, (hf _ hm).1, (hf _ hm).2, by simp only; omega, by simp only; omega⟩
      · exact ih (n - min n (64 - off % 64)) (by omega) (off + min n (64 - off % 64)) (by omega) p hp
/-- What is read of a part. -/
def rd (ds : List (List Nat)) (p : Pt) : List Nat := ((ds.getD (p.f - 1) []).drop p.a).take p.l
theorem rd_len (hd : DW os ds) {p : Pt} (h : Fine os fs p) : (rd ds p).length = p.l := by
  unfold rd; rw [List.length_take, List.length_drop, hd.len h.2.2.1]; have := h.2.2.2; omega
theorem rd_prts (hd : DW os ds) (hf : ∀ f ∈ fs, f - 1 < os.length) : ∀ (n off : Nat), off + n ≤ 64 * fs.length → (prts fs off n).flatMap (rd ds) = ((cont ds fs).drop off).take n := by
  intro n
  induction n using Nat.strongRecOn with
  | ind n ih =>
    intro off hn
    by_cases h : n = 0
    · subst h; rw [prts_zero]; simp
    · rw [prts_more (by omega), List.flatMap_cons, ih (n - min n (64 - off % 64)) (by omega) (off + min n (64 - off % 64)) (by omega)]
      have hl := cont_len hd hf
      have hj : off / 64 < fs.length := by omega
      have hp : fs.getD (off / 64) 0 - 1 < os.length := by
        rw [List.getD_eq_getElem?_getD, List.getElem?_eq_getElem hj]; exact hf _ (List.getElem_mem _)
      have hdl := hd.len hp
      have hrl : (rd ds ⟨fs.getD (off / 64) 0, off % 64, min n (64 - off % 64)⟩).length = min n (64 - off % 64) := by
        simp only [rd]; rw [List.length_take, List.length_drop, hdl]; omega
      apply List.ext_getElem?
      intro i
      by_cases hi : i < min n (64 - off % 64)
      · have h64 : min n (64 - off % 64) ≤ 64 - off % 64 := Nat.min_le_right _ _
        rw [List.getElem?_append_left (by omega), List.getElem?_take, if_pos (by omega), List.getElem?_drop, cont_get hd hf _ (by omega)]
        unfold rd
        rw [List.getElem?_take, if_pos hi, List.getElem?_drop, show (off + i) / 64 = off / 64 by omega, show (off + i) % 64 = off % 64 + i by omega]
      · rw [List.getElem?_append_right (by omega), hrl]
        by_cases hi2 : i < n
        · rw [List.getElem?_take, if_pos (by omega), List.getElem?_drop, List.getElem?_take, if_pos hi2, List.getElem?_drop]
          congr 1; omega
        · rw [List.getElem?_take, if_neg (by omega), List.getElem?_take, if_neg hi2]
/-- What is written to parts. -/
def wr (ds : List (List Nat)) : List Pt → List Nat → List (List Nat)
  | [], _ => ds
  | p :: r, b => wr (ds.set (p.f - 1) (Fr.lay (ds.getD (p.f - 1) []) p.a (b.take p.l))) r (b.drop p.l)
theorem lay_length {l b : List Nat} {o : Nat} (h : o + b.length ≤ l.length) : (Fr.lay l o b).length = l.length := by unfold Fr.lay; simp; omega
theorem lay_at (l b : List Nat) (o i : Nat) (h : o + b.length ≤ l.length) : (Fr.lay l o b)[i]? = if i < o then l[i]? else if i < o + b.length then b[i - o]? else l[i]? := by
  unfold Fr.lay
  by_cases h1 : i < o
  · rw [if_pos h1, List.append_assoc, List.getElem?_append_left (by simp; omega), List.getElem?_take, if_pos h1]
  · rw [if_neg h1, List.append_assoc, List.getElem?_append_right (by simp; omega), List.length_take, Nat.min_eq_left (by omega)]
    by_cases h2 : i < o + b.length
    · rw [if_pos h2, List.getElem?_append_left (by omega)]
    · rw [if_neg h2, List.getElem?_append_right (by omega), List.getElem?_drop]; congr 1; omega
theorem lay_mem {l b : List Nat} {o : Nat} (hl : ∀ x ∈ l, x < 256) (hb : ∀ x ∈ b, x < 256) : ∀ x ∈ Fr.lay l o b, x < 256 := fun x hx => by
  unfold Fr.lay at hx
  rcases List.mem_append.1 hx with hx | hx
  · rcases List.mem_append.1 hx with hx | hx
    · exact hl x (List.mem_of_mem_take hx)
    · exact hb x hx
  · exact hl x (List.mem_of_mem_drop hx)
/-- One part is written. -/
def wr1 (ds : List (List Nat)) (p : Pt) (b : List Nat) : List (List Nat) := ds.set (p.f - 1) (Fr.lay (ds.getD (p.f - 1) []) p.a b)
theorem wr1_dw (hd : DW os ds) {p : Pt} (h : Fine os fs p) (hb : b.length = p.l) (hx : ∀ x ∈ b, x < 256) : DW os (wr1 ds p b) := by
  have h4 := h.2.2.2.2
  exact hd.set ⟨by rw [lay_length (by rw [hd.len h.2.2.1, hb]; exact h4), hd.len h.2.2.1], lay_mem (hd.byte _) hx⟩ _
theorem wr1_cont (hd : DW os ds) (ho : Own os o fs) (hn : off + n ≤ 64 * fs.length) (h0 : 0 < n) (hb : b.length = min n (64 - off % 64)) :
    cont (wr1 ds ⟨fs.getD (off / 64) 0, off % 64, min n (64 - off % 64)⟩ b) fs = Fr.lay (cont ds fs) off b := by
  have hf : ∀ f ∈ fs, f - 1 < os.length := fun f hf => ho.lt hf
  have hj : off / 64 < fs.length := by omega
  have ej : fs.getD (off / 64) 0 = fs[off / 64] := by rw [List.getD_eq_getElem?_getD, List.getElem?_eq_getElem hj]; rfl
  have hp : fs.getD (off / 64) 0 - 1 < os.length := by rw [ej]; exact hf _ (List.getElem_mem _)
  have hdl := hd.len hp
  have hl := cont_len hd hf
  have hlay : (Fr.lay (ds.getD (fs.getD (off / 64) 0 - 1) []) (off % 64) b).length = 64 := by rw [lay_length (by omega), hdl]
  have hd1 : DW os (wr1 ds ⟨fs.getD (off / 64) 0, off % 64, min n (64 - off % 64)⟩ b) ∨ True := .inr trivial
  have hl1 : ∀ k, k < os.length → ((wr1 ds ⟨fs.getD (off / 64) 0, off % 64, min n (64 - off % 64)⟩ b).getD k []).length = 64 := fun k hk => by
    unfold wr1
    rw [List.getD_eq_getElem?_getD, List.getElem?_set]
    split
    · rw [if_pos (by rw [hd.1]; omega)]; exact hlay
    · rw [← List.getD_eq_getElem?_getD]; exact hd.len hk
  have get1 : ∀ {gs : List Nat}, (∀ f ∈ gs, f - 1 < os.length) → ∀ k, k < 64 * gs.length → (cont (wr1 ds ⟨fs.getD (off / 64) 0, off % 64, min n (64 - off % 64)⟩ b) gs)[k]? = ((wr1 ds ⟨fs.getD (off / 64) 0, off % 64, min n (64 - off % 64)⟩ b).getD (gs.getD (k / 64) 0 - 1) [])[k % 64]? := by
    intro gs
    induction gs with
    | nil => intro _ k hk; simp at hk
    | cons f r ih =>
      intro h k hk
      have hl := hl1 _ (h f (by simp))
      rw [cont_cons]
      by_cases h1 : k < 64
      · rw [List.getElem?_append_left (by omega), Nat.div_eq_of_lt h1, Nat.mod_eq_of_lt h1]; rfl
      · rw [List.length_cons] at hk
        rw [List.getElem?_append_right (by omega), hl, ih (fun g hg => h g (by simp [hg])) (k - 64) (by omega), show (k - 64) % 64 = k % 64 by omega, show k / 64 = (k - 64) / 64 + 1 by omega, List.getD_cons_succ]
  have len1 : ∀ {gs : List Nat}, (∀ f ∈ gs, f - 1 < os.length) → (cont (wr1 ds ⟨fs.getD (off / 64) 0, off % 64, min n (64 - off % 64)⟩ b) gs).length = 64 * gs.length := by
    intro gs
    induction gs with
    | nil => intro _; rfl
    | cons f r ih =>
      intro h
      rw [cont_cons, List.length_append, hl1 _ (h f (by simp)), ih (fun g hg => h g (by simp [hg])), List.length_cons]; omega
  apply List.ext_getElem?
  intro i
  by_cases hi : i < 64 * fs.length
  · rw [get1 hf i hi, lay_at _ _ _ _ (by omega)]
    have hij : i / 64 < fs.length := by omega
    have ei : fs.getD (i / 64) 0 = fs[i / 64] := by rw [List.getD_eq_getElem?_getD, List.getElem?_eq_getElem hij]; rfl
    by_cases hq : i / 64 = off / 64
    · have e1 : (wr1 ds ⟨fs.getD (off / 64) 0, off % 64, min n (64 - off % 64)⟩ b).getD (fs.getD (i / 64) 0 - 1) [] = Fr.lay (ds.getD (fs.getD (off / 64) 0 - 1) []) (off % 64) b := by
        unfold wr1
        rw [hq, List.getD_eq_getElem?_getD, List.getElem?_set, if_pos rfl, if_pos (by rw [hd.1]; exact hp)]; rfl
      rw [e1, lay_at _ _ _ _ (by omega), cont_get hd hf i hi, hq]
      by_cases h1 : i % 64 < off % 64
      · rw [if_pos h1, if_pos (by omega)]
      · rw [if_neg h1, if_neg (by omega : ¬ i < off)]
        by_cases h2 : i % 64 < off % 64 + b.length
        · rw [if_pos h2, if_pos (by omega)]; congr 1; omega
        · rw [if_neg h2, if_neg (by omega)]
    · have hne : fs.getD (i / 64) 0 - 1 ≠ fs.getD (off / 64) 0 - 1 := fun e => by
        have g1 := (ho.own _ (List.getElem_mem hij)).1
        have g2 := (ho.own _ (List.getElem_mem hj)).1
        rw [ei, ej] at e
        have e2 : fs[i / 64] = fs[off / 64] := by omega
        exact hq ((List.getElem_inj ho.nd).1 e2)
      have e1 : (wr1 ds ⟨fs.getD (off / 64) 0, off % 64, min n (64 - off % 64)⟩ b).getD (fs.getD (i / 64) 0 - 1) [] = ds.getD (fs.getD (i / 64) 0 - 1) [] := by
        unfold wr1
        rw [List.getD_eq_getElem?_getD, List.getElem?_set, if_neg (Ne.symm hne), ← List.getD_eq_getElem?_getD]
      rw [e1, cont_get hd hf i hi]
      by_cases h1 : i < off
      · rw [if_pos h1]
      · rw [if_neg h1, if_neg (by omega)]
  · rw [List.getElem?_eq_none (by rw [len1 hf]; omega), List.getElem?_eq_none (by rw [lay_length (by omega), hl]; omega)]
theorem lay_lay {m b c : List Nat} (h : off + b.length + c.length ≤ m.length) : Fr.lay (Fr.lay m off b) (off + b.length) c = Fr.lay m off (b ++ c) := by
  apply List.ext_getElem?
  intro i
  rw [lay_at _ _ _ _ (by rw [lay_length (by omega)]; omega), lay_at _ _ _ _ (by omega), lay_at _ _ _ _ (by rw [List.length_append]; omega), List.length_append]
  by_cases h1 : i < off
  · rw [if_pos (by omega), if_pos h1, if_pos h1]
  · by_cases h2 : i < off + b.length
    · rw [if_pos h2, if_neg h1, if_pos h2, if_neg h1, if_pos (by omega), List.getElem?_append_left (by omega)]
    · rw [if_neg h2]
      by_cases h3 : i < off + b.length + c.length
      · rw [if_pos h3, if_neg h1, if_pos (by omega), List.getElem?_append_right (by omega)]; congr 1; omega
      · rw [if_neg h3, if_neg h1, if_neg h2, if_neg h1, if_neg (by omega)]
theorem lay_none (m : List Nat) (off : Nat) : Fr.lay m off [] = m := by unfold Fr.lay; simp
/-- What a call for o leaves as it was. -/
structure Oth (o : Nat) (os : List Nat) (ds : List (List Nat)) (os' : List Nat) (ds' : List (List Nat)) : Prop where
  len : os'.length = os.length
  keep : ∀ i x : Nat, os[i]? = some x → x ≠ 0 → x ≠ o → os'[i]? = some x ∧ ds'[i]? = ds[i]?
  cnt : ∀ x, x ≠ 0 → x ≠ o → os'.count x = os.count x
  sum : os'.count 0 + os'.count o = os.count 0 + os.count o
theorem Oth.refl (o : Nat) (os : List Nat) (ds : List (List Nat)) : Oth o os ds os ds := ⟨rfl, fun _ _ h _ _ => ⟨h, rfl⟩, fun _ _ _ => rfl, rfl⟩
theorem Oth.trans (h : Oth o os ds os' ds') (k : Oth o os' ds' os2 ds2) : Oth o os ds os2 ds2 :=
  ⟨k.len.trans h.len, fun i x hi h0 h1 => ⟨(k.keep i x (h.keep i x hi h0 h1).1 h0 h1).1, (k.keep i x (h.keep i x hi h0 h1).1 h0 h1).2.trans (h.keep i x hi h0 h1).2⟩, fun x h0 h1 => (k.cnt x h0 h1).trans (h.cnt x h0 h1), k.sum.trans h.sum⟩
theorem cont_congr : ∀ {gs : List Nat}, (∀ f ∈ gs, ds'[f - 1]? = ds[f - 1]?) → cont ds' gs = cont ds gs
  | [], _ => rfl
  | f :: r, h => by
    rw [cont_cons, cont_cons, cont_congr (fun g hg => h g (by simp [hg])), List.getD_eq_getElem?_getD, List.getD_eq_getElem?_getD, h f (by simp)]
theorem Own.oth (h : Own os p gs) (hp : p ≠ o) (k : Oth o os ds os' ds') : Own os' p gs ∧ cont ds' gs = cont ds gs :=
  ⟨⟨h.pos, h.nd, fun f hf => ⟨(h.own f hf).1, (k.keep _ _ (h.own f hf).2 (by have := h.pos; omega) hp).1⟩, (k.cnt p (by have := h.pos; omega) hp).trans h.cnt⟩,
   cont_congr fun f hf => (k.keep _ _ (h.own f hf).2 (by have := h.pos; omega) hp).2⟩
theorem wr1_oth (ho : Own os o fs) {p : Pt} (hp : p.f ∈ fs) : Oth o os ds os (wr1 ds p b) :=
  ⟨rfl, fun i x hi h0 h1 => ⟨hi, by
    unfold wr1
    rw [List.getElem?_set, if_neg]
    intro e
    rw [← e, (ho.own _ hp).2] at hi
    injection hi with hi
    exact h1 hi.symm⟩, fun _ _ _ => rfl, rfl⟩
theorem wr_prts (ho : Own os o fs) : ∀ (n off : Nat) (ds : List (List Nat)) (b : List Nat), DW os ds → off + n ≤ 64 * fs.length → b.length = n → (∀ x ∈ b, x < 256) →
    DW os (wr ds (prts fs off n) b) ∧ cont (wr ds (prts fs off n) b) fs = Fr.lay (cont ds fs) off b ∧ Oth o os ds os (wr ds (prts fs off n) b) := by
  intro n
  induction n using Nat.strongRecOn with
  | ind n ih =>
    intro off ds b hd hn hb hx
    by_cases h : n = 0
    · subst h
      obtain rfl := List.eq_nil_of_length_eq_zero hb
      rw [prts_zero]
      exact ⟨hd, (lay_none _ _).symm, Oth.refl _ _ _⟩
    · have hfine := prts_fine (os := os) (fun f hf => ⟨(ho.own f hf).1, ho.lt hf⟩) n off hn ⟨fs.getD (off / 64) 0, off % 64, min n (64 - off % 64)⟩ (by rw [prts_more (by omega)]; simp)
      rw [prts_more (by omega)]
      have hbl : (b.take (min n (64 - off % 64))).length = min n (64 - off % 64) := by rw [List.length_take]; omega
      have hd1 : DW os (wr1 ds ⟨fs.getD (off / 64) 0, off % 64, min n (64 - off % 64)⟩ (b.take (min n (64 - off % 64)))) := wr1_dw hd hfine hbl (fun x h => hx x (List.mem_of_mem_take h))
      have hc1 := wr1_cont hd ho hn (by omega) hbl
      have ho1 := wr1_oth (ds := ds) (b := b.take (min n (64 - off % 64))) ho hfine.1
      obtain ⟨i1, i2, i3⟩ := ih (n - min n (64 - off % 64)) (by omega) (off + min n (64 - off % 64)) _ (b.drop (min n (64 - off % 64))) hd1 (by omega) (by rw [List.length_drop]; omega) (fun x h => hx x (List.mem_of_mem_drop h))
      refine ⟨i1, ?_, ho1.trans i3⟩
      have hlc := cont_len hd (fun f hf => ho.lt hf)
      have := i2
      rw [hc1] at this
      refine this.trans ?_
      have e := lay_lay (m := cont ds fs) (off := off) (b := b.take (min n (64 - off % 64))) (c := b.drop (min n (64 - off % 64))) (by rw [hbl, List.length_drop]; omega)
      rw [hbl, List.take_append_drop] at e
      exact e
/-- A frame is freed. -/
theorem Own.free (h : Own os o (K ++ f :: R)) : Own (os.set (f - 1) 0) o (K ++ R) ∧ Oth o os ds (os.set (f - 1) 0) ds := by
  have hp := h.pos
  have hf := h.own f (by simp)
  have hlt := h.lt (f := f) (by simp)
  have hnd := h.nd
  have hget : os[f - 1] = o := by have := hf.2; rw [List.getElem?_eq_getElem hlt] at this; injection this
  have hcount : ∀ x, (os.set (f - 1) 0).count x = os.count x - (if o = x then 1 else 0) + (if 0 = x then 1 else 0) := fun x => by
    rw [List.count_set hlt, hget]; simp
  have hc1 : 1 ≤ os.count o := List.one_le_count_iff.2 (by rw [← hget]; exact List.getElem_mem _)
  rw [List.nodup_append] at hnd
  obtain ⟨n1, n2, n3⟩ := hnd
  rw [List.nodup_cons] at n2
  refine ⟨⟨hp, List.nodup_append.2 ⟨n1, n2.2, fun a ha b hb => n3 a ha b (by simp [hb])⟩, fun g hg => ?_, ?_⟩, ⟨by simp, fun i x hi h0 h1 => ⟨?_, rfl⟩, fun x h0 h1 => ?_, ?_⟩⟩
  · have hgf : g ≠ f := by
      rcases List.mem_append.1 hg with hg | hg
      · exact n3 g hg f (by simp)
      · intro e; subst e; exact n2.1 hg
    have := h.own g (by rcases List.mem_append.1 hg with hg | hg <;> simp [hg])
    refine ⟨this.1, ?_⟩
    rw [List.getElem?_set, if_neg (by omega)]; exact this.2
  · rw [hcount, if_pos rfl, if_neg (by omega), h.cnt]; simp
  · rw [List.getElem?_set, if_neg]
    · exact hi
    · intro e; rw [← e, hf.2] at hi; injection hi with hi; exact h1 hi.symm
  · rw [hcount, if_neg (by omega), if_neg (by omega)]; omega
  · rw [hcount, hcount, if_neg (by omega), if_pos rfl, if_pos rfl, if_neg (by omega)]; omega
/-- A frame is charged. -/
theorem Own.alloc (h : Own os o fs) (hd : DW os ds) (hk : os[k]? = some 0) : Own (os.set k o) o (fs ++ [k + 1]) ∧ DW (os.set k o) (ds.set k Fr.zeros) ∧ cont (ds.set k Fr.zeros) (fs ++ [k + 1]) = cont ds fs ++ Fr.zeros ∧ Oth o os ds (os.set k o) (ds.set k Fr.zeros) := by
  have hp := h.pos
  have hlt := (List.getElem?_eq_some_iff.1 hk).1
  have hget : os[k] = 0 := (List.getElem?_eq_some_iff.1 hk).2
  have hcount : ∀ x, (os.set k o).count x = os.count x - (if 0 = x then 1 else 0) + (if o = x then 1 else 0) := fun x => by
    rw [List.count_set hlt, hget]; simp
  have hc1 : 1 ≤ os.count 0 := List.one_le_count_iff.2 (by rw [← hget]; exact List.getElem_mem _)
  have hnot : ∀ f ∈ fs, f - 1 ≠ k := fun f hf e => by have := (h.own f hf).2; rw [e, hk] at this; injection this with this; omega
  refine ⟨⟨hp, ?_, fun g hg => ?_, ?_⟩, ?_, ?_, ⟨by simp, fun i x hi h0 h1 => ⟨?_, ?_⟩, fun x h0 h1 => ?_, ?_⟩⟩
  · rw [List.nodup_append]
    exact ⟨h.nd, by simp, fun a ha b hb e => by obtain rfl := List.mem_singleton.1 hb; exact hnot a ha (by omega)⟩
  · rcases List.mem_append.1 hg with hg | hg
    · have := h.own g hg
      exact ⟨this.1, by rw [List.getElem?_set, if_neg (Ne.symm (hnot g hg))]; exact this.2⟩
    · obtain rfl := List.mem_singleton.1 hg
      exact ⟨by omega, by rw [show k + 1 - 1 = k by omega, List.getElem?_set, if_pos rfl, if_pos hlt]⟩
  · rw [hcount, if_neg (by omega), if_pos rfl, h.cnt]; simp
  · exact (hd.set (d := Fr.zeros) ⟨by decide, by decide⟩ k).own' k o
  · rw [cont_app, cont_congr (ds := ds) (fun f hf => by rw [List.getElem?_set, if_neg (Ne.symm (hnot f hf))]), cont_cons, cont_nil, List.append_nil, show k + 1 - 1 = k by omega, List.getD_eq_getElem?_getD, List.getElem?_set, if_pos rfl, if_pos (by rw [hd.1]; exact hlt)]
    rfl
  · rw [List.getElem?_set, if_neg]
    · exact hi
    · intro e; rw [← e, hk] at hi; injection hi with hi; exact h0 hi.symm
  · rw [List.getElem?_set, if_neg]
    intro e; rw [← e, hk] at hi; injection hi with hi; exact h0 hi.symm
  · rw [hcount, if_neg (by omega), if_neg (by omega)]; omega
  · rw [hcount, hcount, if_pos rfl, if_neg (by omega), if_neg (by omega), if_pos rfl]; omega
/-- As many pages: cut off, or zeros behind. -/
def rsz (m : List Nat) (n : Nat) : List Nat := m.take (64 * n) ++ List.replicate (64 * n - m.length) 0
theorem cont_take (hd : DW os ds) (hf : ∀ f ∈ fs, f - 1 < os.length) (k : Nat) : cont ds (fs.take k) = (cont ds fs).take (64 * k) := by
  have e : cont ds fs = cont ds (fs.take k) ++ cont ds (fs.drop k) := by rw [← cont_app, List.take_append_drop]
  have hl := cont_len hd (fs := fs.take k) (fun f h => hf f (List.mem_of_mem_take h))
  have hl2 := cont_len hd hf
  rw [List.length_take] at hl
  by_cases h : k ≤ fs.length
  · rw [e, List.take_append_of_le_length (by omega), List.take_of_length_le (l := cont ds (fs.take k)) (by omega)]
  · rw [List.take_of_length_le (l := fs) (by omega), List.take_of_length_le (l := cont ds fs) (by omega)]
theorem cont_rsz (hd : DW os ds) (hf : ∀ f ∈ fs, f - 1 < os.length) {n k g : Nat} (hk : min n fs.length = k) (hg : n - k = g) : cont ds (fs.take k) ++ List.replicate (64 * g) 0 = rsz (cont ds fs) n := by
  rw [cont_take hd hf]
  have hl2 := cont_len hd hf
  unfold rsz
  rw [hl2]
  by_cases h : n ≤ fs.length
  · obtain rfl : n = k := by omega
    rw [show 64 * n - 64 * fs.length = 64 * g by omega]
  · obtain rfl : fs.length = k := by omega
    rw [List.take_of_length_le (l := cont ds fs) (by omega), List.take_of_length_le (l := cont ds fs) (by omega), show 64 * n - 64 * fs.length = 64 * g by omega]
end Sg
