/- What config's reader tells, as functions of bytes. -/
import Derived.Test.YtmadldgajjgbmaaMb
import Derived.Test.YtmadldgajjgbmaaKg
set_option linter.unusedVariables false
set_option linter.unusedSimpArgs false
namespace Go.Proofs.Ytmadldgajjgbmaa
open Go.RowKit
set_option linter.unusedVariables false
set_option linter.unusedSimpArgs false
abbrev St := List Nat × Bool
theorem enc_num : ∀ (n : Nat) (l : List Nat), l.length = n → (∀ c ∈ l, c < 256) → Pk.enc n (Pk.num l) = l
  | 0, l, h, _ => by rw [List.length_eq_zero_iff.1 h]; rfl
  | n + 1, l, h, hb => by
    rcases List.eq_nil_or_concat l with rfl | ⟨l', c, rfl⟩
    · simp at h
    · rw [List.concat_eq_append] at h hb ⊢
      have hc : c < 256 := hb c (by simp)
      rw [Pk.num_snoc, Pk.enc, show (Pk.num l' * 256 + c) / 256 = Pk.num l' by omega, show (Pk.num l' * 256 + c) % 256 = c by omega, enc_num n l' (by simpa using h) fun x hx => hb x (by simp [hx])]
theorem nx_snd {n : Nat} {s : St} (hb : ∀ c ∈ s.1, c < 256) (h : (Pk.nx n s).2.2 = false) : s.2 = false ∧ s.1 = Pk.enc n (Pk.nx n s).1 ++ (Pk.nx n s).2.1 ∧ (∀ c ∈ (Pk.nx n s).2.1, c < 256) := by
  unfold Pk.nx at h ⊢
  split at h
  · next hh =>
    rw [if_pos hh]
    refine ⟨hh.1, ?_, fun c hc => hb c (List.mem_of_mem_drop hc)⟩
    simp only
    rw [enc_num n _ (by rw [List.length_take]; omega) fun c hc => hb c (List.mem_of_mem_take hc), List.take_append_drop]
  · cases h
theorem nx_cmp {n x : Nat} (t : List Nat) (hx : x < 256 ^ n) : Pk.nx n (Pk.enc n x ++ t, false) = (x, (t, false)) := by
  rw [Pk.nx_ok (by rw [List.length_append, Pk.enc_len]; omega), List.take_left' (Pk.enc_len n x), List.drop_left' (Pk.enc_len n x), Pk.num_enc, Nat.mod_eq_of_lt hx]
theorem ln_snd {s : St} (hb : ∀ c ∈ s.1, c < 256) (h : (Pk.ln s).2.2.2 = false) : s.2 = false ∧ s.1 = Pk.lab (Pk.ln s).1 (Pk.ln s).2.1 ++ (Pk.ln s).2.2.1 ∧ Lab.right (Pk.ln s).1 (Pk.ln s).2.1 = true ∧ (∀ c ∈ (Pk.ln s).2.2.1, c < 256) := by
  unfold Pk.ln at h ⊢
  split at h
  · cases h
  · next h1 =>
    rw [if_neg h1]
    have h2 : s.2 = false := by simpa using h1
    cases e : Pk.rl s.1 with
    | none => rw [e] at h; cases h
    | some q =>
      obtain ⟨D, P, r⟩ := q
      obtain ⟨h3, h4⟩ := Pk.rl_true hb e
      exact ⟨h2, h4, h3, fun c hc => hb c (by rw [h4]; exact List.mem_append_right _ hc)⟩
theorem ln_cmp {D : Int} {P : LP} (t : List Nat) (h : Lab.right D P = true) : Pk.ln (Pk.lab D P ++ t, false) = (D, P, (t, false)) := by
  unfold Pk.ln
  rw [if_neg (by simp)]
  simp only
  rw [Pk.rl_of t h]
def ryes (s : St) : Bool × St := (decide ((Pk.nx 2 s).1 = 1), if 1 < (Pk.nx 2 s).1 then ((Pk.nx 2 s).2.1, true) else (Pk.nx 2 s).2)
theorem ryes_snd {s : St} (hb : ∀ c ∈ s.1, c < 256) (h : (ryes s).2.2 = false) : s.2 = false ∧ s.1 = Pk.enc 2 (if (ryes s).1 then 1 else 0) ++ (ryes s).2.1 ∧ (∀ c ∈ (ryes s).2.1, c < 256) := by
  unfold ryes at h ⊢
  simp only at h ⊢
  by_cases h1 : 1 < (Pk.nx 2 s).1
  · rw [if_pos h1] at h; cases h
  · rw [if_neg h1] at h ⊢
    obtain ⟨a, b, c⟩ := nx_snd hb h
    refine ⟨a, ?_, c⟩
    have : (Pk.nx 2 s).1 = if decide ((Pk.nx 2 s).1 = 1) = true then 1 else 0 := by
      by_cases h2 : (Pk.nx 2 s).1 = 1
      · simp [h2]
      · simp [h2]; omega
    rw [← this]
    exact b
theorem ryes_cmp (q : Bool) (t : List Nat) : ryes (Pk.enc 2 (if q then 1 else 0) ++ t, false) = (q, (t, false)) := by
  unfold ryes
  rw [nx_cmp t (by cases q <;> decide)]
  cases q <;> rfl
def rMp (s : St) : Mp × St :=
  let a := Pk.nx 2 s
  let b := Pk.nx 2 a.2
  let c := Pk.nx 2 b.2
  let d := Pk.nx 2 c.2
  let q := ryes d.2
  (⟨a.1, b.1, c.1, d.1, q.1⟩, q.2)
theorem rMp_snd {s : St} (hb : ∀ c ∈ s.1, c < 256) (h : (rMp s).2.2 = false) : s.2 = false ∧ s.1 = encMp (rMp s).1 ++ (rMp s).2.1 ∧ (∀ c ∈ (rMp s).2.1, c < 256) := by
  unfold rMp at h ⊢
  simp only at h ⊢
  have h5 := fun hb => ryes_snd (s := (Pk.nx 2 (Pk.nx 2 (Pk.nx 2 (Pk.nx 2 s).2).2).2).2) hb h
  have hbs : ∀ (n : Nat) (s : St), (∀ c ∈ s.1, c < 256) → ∀ c ∈ (Pk.nx n s).2.1, c < 256 := fun n s hb => (Pk.nx_byte hb).2.1
  obtain ⟨a5, b5, c5⟩ := h5 (hbs _ _ (hbs _ _ (hbs _ _ (hbs _ _ hb))))
  obtain ⟨a4, b4, _⟩ := nx_snd (hbs _ _ (hbs _ _ (hbs _ _ hb))) a5
  obtain ⟨a3, b3, _⟩ := nx_snd (hbs _ _ (hbs _ _ hb)) a4
  obtain ⟨a2, b2, _⟩ := nx_snd (hbs _ _ hb) a3
  obtain ⟨a1, b1, _⟩ := nx_snd hb a2
  refine ⟨a1, ?_, c5⟩
  rw [b1, b2, b3, b4, b5]
  simp only [encMp, Int.toNat_natCast, List.append_assoc]
theorem rMp_cmp {m : Mp} (t : List Nat) (h : MpR m) : rMp (encMp m ++ t, false) = (m, (t, false)) := by
  unfold rMp encMp
  simp only [List.append_assoc]
  have h1 := h.a; have h2 := h.s; have h3 := h.f; have h4 := h.n
  rw [nx_cmp _ (by omega)]
  simp only
  rw [nx_cmp _ h2]
  simp only
  rw [nx_cmp _ (by omega)]
  simp only
  rw [nx_cmp _ (by omega)]
  simp only
  rw [ryes_cmp]
  obtain ⟨a, b, c, d, e⟩ := m
  simp only at h1 h3 h4 ⊢
  rw [Int.toNat_of_nonneg h1.1, Int.toNat_of_nonneg h3.1, Int.toNat_of_nonneg h4.1]
def rSl (s : St) : Sl × St := (⟨(Pk.nx 1 s).1, (Pk.nx 1 (Pk.nx 1 s).2).1⟩, (Pk.nx 1 (Pk.nx 1 s).2).2)
theorem nx_b {n : Nat} {s : St} (hb : ∀ c ∈ s.1, c < 256) : ∀ c ∈ (Pk.nx n s).2.1, c < 256 := (Pk.nx_byte hb).2.1
theorem rSl_snd {s : St} (hb : ∀ c ∈ s.1, c < 256) (h : (rSl s).2.2 = false) : s.2 = false ∧ s.1 = encSlt (rSl s).1 ++ (rSl s).2.1 ∧ (∀ c ∈ (rSl s).2.1, c < 256) := by
  unfold rSl at h ⊢
  simp only at h ⊢
  obtain ⟨a2, b2, c2⟩ := nx_snd (nx_b hb) h
  obtain ⟨a1, b1, _⟩ := nx_snd hb a2
  refine ⟨a1, ?_, c2⟩
  rw [b1, b2]
  simp only [encSlt, Int.toNat_natCast, List.append_assoc]
theorem rSl_cmp {x : Sl} (t : List Nat) (h : x.ct < 256 ∧ 0 ≤ x.tk ∧ x.tk < 256) : rSl (encSlt x ++ t, false) = (x, (t, false)) := by
  unfold rSl encSlt
  simp only [List.append_assoc]
  rw [nx_cmp _ (by omega)]
  simp only
  rw [nx_cmp _ (by omega)]
  obtain ⟨a, b⟩ := x
  simp only at h ⊢
  rw [Int.toNat_of_nonneg h.2.1]
def rList {α : Type} (f : St → α × St) : Nat → St → List α × St
  | 0, s => ([], s)
  | k + 1, s => ((f s).1 :: (rList f k (f s).2).1, (rList f k (f s).2).2)
theorem rList_len {α : Type} (f : St → α × St) : ∀ (k : Nat) (s : St), (rList f k s).1.length = k
  | 0, _ => rfl
  | k + 1, s => by rw [rList, List.length_cons, rList_len f k]
/-- What a reader tells is what stood there. -/
def Snd {α : Type} (f : St → α × St) (enc : α → List Nat) (P : α → Prop) : Prop := ∀ s : St, (∀ c ∈ s.1, c < 256) → (f s).2.2 = false → s.2 = false ∧ s.1 = enc (f s).1 ++ (f s).2.1 ∧ (∀ c ∈ (f s).2.1, c < 256) ∧ P (f s).1
/-- It keeps bytes. -/
def Kps {α : Type} (f : St → α × St) : Prop := ∀ s : St, (∀ c ∈ s.1, c < 256) → (∀ c ∈ (f s).2.1, c < 256)
theorem rList_kps {α : Type} {f : St → α × St} (hf : Kps f) : ∀ k, Kps (rList f k)
  | 0, s, h => h
  | k + 1, s, h => rList_kps hf k _ (hf s h)
theorem rList_snd {α : Type} {f : St → α × St} {enc : α → List Nat} {P : α → Prop} (hf : Snd f enc P) (hk : Kps f) : ∀ k, Snd (rList f k) (·.flatMap enc) (fun l => ∀ x ∈ l, P x)
  | 0, s, hb, h => ⟨h, rfl, hb, fun x hx => by cases hx⟩
  | k + 1, s, hb, h => by
    obtain ⟨a2, b2, c2, d2⟩ := rList_snd hf hk k (f s).2 (hk s hb) h
    obtain ⟨a1, b1, _, d1⟩ := hf s hb a2
    refine ⟨a1, ?_, c2, fun x hx => ?_⟩
    · rw [rList]
      simp only
      rw [List.flatMap_cons, List.append_assoc, ← b2, ← b1]
    · rw [rList] at hx
      rcases List.mem_cons.1 hx with rfl | hx
      · exact d1
      · exact d2 x hx
theorem rList_cmp {α : Type} {f : St → α × St} {enc : α → List Nat} : ∀ (l : List α) (t : List Nat), (∀ x ∈ l, ∀ t, f (enc x ++ t, false) = (x, (t, false))) → rList f l.length (l.flatMap enc ++ t, false) = (l, (t, false))
  | [], t, _ => rfl
  | x :: r, t, h => by
    rw [List.length_cons, List.flatMap_cons, List.append_assoc, rList, h x (by simp)]
    simp only
    rw [rList_cmp r t fun y hy => h y (by simp [hy])]
theorem nx_kps (n : Nat) : Kps (Pk.nx n) := fun s h => (Pk.nx_byte h).2.1
theorem ryes_kps : Kps ryes := fun s h => by
  unfold ryes
  simp only
  split
  · exact nx_kps 2 s h
  · exact nx_kps 2 s h
theorem rMp_kps : Kps rMp := fun s h => ryes_kps _ (nx_kps 2 _ (nx_kps 2 _ (nx_kps 2 _ (nx_kps 2 _ h))))
theorem rSl_kps : Kps rSl := fun s h => nx_kps 1 _ (nx_kps 1 _ h)
theorem ln_kps : ∀ s : St, (∀ c ∈ s.1, c < 256) → ∀ c ∈ (Pk.ln s).2.2.1, c < 256 := fun s hb => by
  unfold Pk.ln
  split
  · exact hb
  · cases e : Pk.rl s.1 with
    | none => exact hb
    | some q =>
      obtain ⟨D, P, r⟩ := q
      obtain ⟨h3, h4⟩ := Pk.rl_true hb e
      exact fun c hc => hb c (by rw [h4]; exact List.mem_append_right _ hc)
/-- What an object's kind has. -/
def rKd (k p : Nat) (D : Int) (P : LP) (s : St) : Om × St :=
  if k = 1 then (⟨k, p, D, P, 0, [], (Pk.nx 2 s).1, (Pk.nx 4 (Pk.nx 2 s).2).1, [], [], 0, 0⟩, (Pk.nx 4 (Pk.nx 2 s).2).2)
  else if k = 2 then (⟨k, p, D, P, 0, [], (Pk.nx 1 s).1, 0, Pk.tk (Pk.nx 2 (Pk.nx 1 s).2).1 (Pk.nx 2 (Pk.nx 1 s).2).2, [], 0, 0⟩, (Pk.nx (Pk.nx 2 (Pk.nx 1 s).2).1 (Pk.nx 2 (Pk.nx 1 s).2).2).2)
  else if k = 4 then (⟨k, p, D, P, 0, [], 0, 0, [], (rList rMp (Pk.nx 1 s).1 (Pk.nx 1 s).2).1, 0, 0⟩, (rList rMp (Pk.nx 1 s).1 (Pk.nx 1 s).2).2)
  else if k = 3 ∨ k = 5 then (⟨k, p, D, P, (Pk.ln s).1, (Pk.ln s).2.1, 0, 0, [], [], (Pk.nx 1 (Pk.ln s).2.2).1, (Pk.nx 4 (Pk.nx 1 (Pk.ln s).2.2).2).1⟩, (Pk.nx 4 (Pk.nx 1 (Pk.ln s).2.2).2).2)
  else (⟨k, p, D, P, 0, [], 0, 0, [], [], 0, 0⟩, s)
def rOm (s : St) : Om × St := rKd (Pk.nx 1 s).1 (Pk.nx 1 (Pk.nx 1 s).2).1 (Pk.ln (Pk.nx 1 (Pk.nx 1 s).2).2).1 (Pk.ln (Pk.nx 1 (Pk.nx 1 s).2).2).2.1 (Pk.ln (Pk.nx 1 (Pk.nx 1 s).2).2).2.2
theorem rKd_kps (k p : Nat) (D : Int) (P : LP) : Kps (rKd k p D P) := fun s h => by
  unfold rKd
  split
  · exact nx_kps 4 _ (nx_kps 2 _ h)
  split
  · exact nx_kps _ _ (nx_kps 2 _ (nx_kps 1 _ h))
  split
  · exact rList_kps rMp_kps _ _ (nx_kps 1 _ h)
  split
  · exact nx_kps 4 _ (nx_kps 1 _ (ln_kps _ h))
  · exact h
theorem rOm_kps : Kps rOm := fun s h => rKd_kps _ _ _ _ _ (ln_kps _ (nx_kps 1 _ (nx_kps 1 _ h)))
theorem tk_snd {n : Nat} {s : St} (hb : ∀ c ∈ s.1, c < 256) (h : (Pk.nx n s).2.2 = false) : s.2 = false ∧ s.1 = Pk.tk n s ++ (Pk.nx n s).2.1 ∧ (Pk.tk n s).length = n := by
  unfold Pk.nx at h ⊢
  unfold Pk.tk
  split at h
  · next hh =>
    rw [if_pos hh, if_pos hh]
    exact ⟨hh.1, (List.take_append_drop _ _).symm, by rw [List.length_take]; omega⟩
  · cases h
theorem rKd_snd (k p : Nat) (D : Int) (P : LP) : Snd (rKd k p D P) encK (fun o => Nf o ∧ o.kd = k ∧ o.pa = p ∧ o.lD = D ∧ o.lP = P) := fun s hb h => by
  unfold rKd at h ⊢
  by_cases h1 : k = 1
  · rw [if_pos h1] at h ⊢
    simp only at h ⊢
    obtain ⟨a2, b2, c2⟩ := nx_snd (nx_b hb) h
    obtain ⟨a1, b1, _⟩ := nx_snd hb a2
    refine ⟨a1, ?_, c2, ⟨fun e => absurd (by simp only; omega) e, fun e => absurd (by simp only; omega) e, fun _ => rfl, fun _ => rfl, fun _ => ⟨rfl, rfl, rfl, rfl⟩⟩, by simp⟩
    unfold encK
    simp only
    rw [if_pos (by omega)]
    simp only [Int.toNat_natCast, List.append_assoc]
    rw [← b2, ← b1]
  rw [if_neg h1] at h ⊢
  by_cases h2 : k = 2
  · rw [if_pos h2] at h ⊢
    simp only at h ⊢
    obtain ⟨a3, b3, c3⟩ := tk_snd (nx_b (nx_b hb)) h
    obtain ⟨a2, b2, _⟩ := nx_snd (nx_b hb) a3
    obtain ⟨a1, b1, _⟩ := nx_snd hb a2
    refine ⟨a1, ?_, nx_b (nx_b (nx_b hb)), ⟨fun _ => rfl, fun _ e => absurd (by simp only; omega) e, fun e => absurd (by simp only; omega) e, fun _ => rfl, fun _ => ⟨rfl, rfl, rfl, rfl⟩⟩, by simp⟩
    unfold encK
    simp only
    rw [if_neg (by omega), if_pos (by omega)]
    simp only [Int.toNat_natCast, List.append_assoc]
    rw [c3, ← b3, ← b2, ← b1]
  rw [if_neg h2] at h ⊢
  by_cases h4 : k = 4
  · rw [if_pos h4] at h ⊢
    simp only at h ⊢
    obtain ⟨a2, b2, c2, _⟩ := rList_snd (P := fun _ => True) (fun s hb h => by obtain ⟨x, y, z⟩ := rMp_snd hb h; exact ⟨x, y, z, trivial⟩) rMp_kps _ _ (nx_b hb) h
    obtain ⟨a1, b1, _⟩ := nx_snd hb a2
    refine ⟨a1, ?_, c2, ⟨fun _ => rfl, fun _ _ => rfl, fun _ => rfl, fun e => absurd (by simp only; omega) e, fun _ => ⟨rfl, rfl, rfl, rfl⟩⟩, by simp⟩
    unfold encK
    simp only
    rw [if_neg (by omega), if_neg (by omega), if_pos (by omega), rList_len]
    simp only [List.append_assoc]
    rw [← b2, ← b1]
  rw [if_neg h4] at h ⊢
  by_cases h3 : k = 3 ∨ k = 5
  · rw [if_pos h3] at h ⊢
    simp only at h ⊢
    obtain ⟨a3, b3, c3⟩ := nx_snd (nx_b (ln_kps _ hb)) h
    obtain ⟨a2, b2, _⟩ := nx_snd (ln_kps _ hb) a3
    obtain ⟨a1, b1, _, _⟩ := ln_snd hb a2
    refine ⟨a1, ?_, c3, ⟨fun _ => rfl, fun _ _ => rfl, fun _ => rfl, fun _ => rfl, fun e => absurd (by simp only; omega) e⟩, by simp⟩
    unfold encK
    simp only
    rw [if_neg (by omega), if_neg (by omega), if_neg (by omega), if_pos (by omega)]
    simp only [Int.toNat_natCast, List.append_assoc]
    rw [← b3, ← b2, ← b1]
  · rw [if_neg h3] at h ⊢
    refine ⟨h, ?_, hb, ⟨fun _ => rfl, fun _ _ => rfl, fun _ => rfl, fun _ => rfl, fun _ => ⟨rfl, rfl, rfl, rfl⟩⟩, by simp⟩
    unfold encK
    simp only
    rw [if_neg (by omega), if_neg (by omega), if_neg (by omega), if_neg (by omega)]
    rfl
theorem rOm_snd : Snd rOm encOm Nf := fun s hb h => by
  obtain ⟨a4, b4, c4, n4, e1, e2, e3, e4⟩ := rKd_snd _ _ _ _ _ (ln_kps _ (nx_b (nx_b hb))) h
  obtain ⟨a3, b3, _, _⟩ := ln_snd (nx_b (nx_b hb)) a4
  obtain ⟨a2, b2, _⟩ := nx_snd (nx_b hb) a3
  obtain ⟨a1, b1, _⟩ := nx_snd hb a2
  refine ⟨a1, ?_, c4, n4⟩
  unfold encOm
  rw [show (rOm s).1.kd = _ from e1, show (rOm s).1.pa = _ from e2, show (rOm s).1.lD = _ from e3, show (rOm s).1.lP = _ from e4]
  simp only [Int.toNat_natCast, List.append_assoc]
  rw [show encK (rOm s).1 ++ (rOm s).2.1 = _ from b4.symm, ← b3, ← b2, ← b1]
theorem tk_cmp {l t : List Nat} : Pk.tk l.length (l ++ t, false) = l ∧ (Pk.nx l.length (l ++ t, false)).2 = (t, false) := by
  unfold Pk.tk Pk.nx
  have h : (l ++ t, false).2 = false ∧ l.length ≤ (l ++ t, false).1.length := ⟨rfl, by simp⟩
  rw [if_pos h, if_pos h]
  simp
theorem rOm_cmp {o : Om} (t : List Nat) (h : OmR o) (hn : Nf o) : rOm (encOm o ++ t, false) = (o, (t, false)) := by
  obtain ⟨kd, pa, lD, lP, cD, cP, pg, nm, da, mp, sp, pc⟩ := o
  obtain ⟨n1, n2, n3, n4, n5⟩ := hn
  obtain ⟨r0, rp, rl, r1, r2, r4, r3⟩ := h
  simp only at n1 n2 n3 n4 n5 r0 rp rl r1 r2 r3 r4
  obtain ⟨k, rfl⟩ : ∃ k : Nat, kd = (k : Int) := ⟨kd.toNat, by omega⟩
  obtain ⟨p, rfl⟩ : ∃ k : Nat, pa = (k : Int) := ⟨pa.toNat, by omega⟩
  unfold rOm encOm
  simp only [List.append_assoc, Int.toNat_natCast]
  rw [nx_cmp _ (by omega)]
  simp only
  rw [nx_cmp _ (by omega)]
  simp only
  rw [ln_cmp _ rl]
  simp only
  unfold rKd encK
  simp only
  by_cases h1 : k = 1
  · rw [if_pos h1, if_pos (show (k : Int) = 1 by omega), List.append_assoc]
    obtain ⟨q1, q2⟩ := r1 (by omega)
    rw [nx_cmp _ (by omega)]
    simp only
    rw [nx_cmp _ (by omega)]
    obtain ⟨c1, c2, c3, c4⟩ := n5 (by omega)
    rw [n3 (by omega), n4 (by omega), c1, c2, c3, c4, Int.toNat_of_nonneg q1.1, Int.toNat_of_nonneg q2.1]
  rw [if_neg h1, if_neg (show ¬ (k : Int) = 1 by omega)]
  rw [n1 (by omega)]
  by_cases h2 : k = 2
  · rw [if_pos h2, if_pos (show (k : Int) = 2 by omega)]
    simp only [List.append_assoc]
    obtain ⟨q1, q2⟩ := r2 (by omega)
    rw [nx_cmp _ (by omega)]
    simp only
    rw [nx_cmp _ (by omega)]
    simp only
    rw [tk_cmp.1, tk_cmp.2]
    obtain ⟨c1, c2, c3, c4⟩ := n5 (by omega)
    rw [n4 (by omega), c1, c2, c3, c4, Int.toNat_of_nonneg q1.1]
  rw [if_neg h2, if_neg (show ¬ (k : Int) = 2 by omega)]
  rw [n2 (by omega) (by omega), n3 (by omega)]
  by_cases h4 : k = 4
  · rw [if_pos h4, if_pos (show (k : Int) = 4 by omega), List.append_assoc]
    obtain ⟨q1, q2⟩ := r4 (by omega)
    rw [nx_cmp _ (by omega)]
    simp only
    rw [rList_cmp mp t fun x hx t => rMp_cmp t (q2 x hx)]
    obtain ⟨c1, c2, c3, c4⟩ := n5 (by omega)
    rw [c1, c2, c3, c4]
  rw [if_neg h4, if_neg (show ¬ (k : Int) = 4 by omega)]
  rw [n4 (by omega)]
  by_cases h3 : k = 3 ∨ k = 5
  · rw [if_pos h3, if_pos (show (k : Int) = 3 ∨ (k : Int) = 5 by omega)]
    simp only [List.append_assoc]
    obtain ⟨q0, q1, q2⟩ := r3 (by omega)
    rw [ln_cmp _ q0]
    simp only
    rw [nx_cmp _ (by omega)]
    simp only
    rw [nx_cmp _ (by omega)]
    rw [Int.toNat_of_nonneg q1.1, Int.toNat_of_nonneg q2.1]
  · rw [if_neg h3, if_neg (show ¬ ((k : Int) = 3 ∨ (k : Int) = 5) by omega)]
    obtain ⟨c1, c2, c3, c4⟩ := n5 (by omega)
    rw [c1, c2, c3, c4]
    rfl
/-- A configuration as it is read: its numbers, slots, objects, and what is left. -/
structure Cfg where
  co : Nat
  fr : Nat
  nm : Nat
  xs : List Sl
  os : List Om
def Cfg.enc (c : Cfg) : List Nat := encCf c.co c.fr c.nm c.xs c.os
def rHd (s : St) : (Nat × Nat × Nat) × St := (((Pk.nx 1 s).1, (Pk.nx 2 (Pk.nx 1 s).2).1, (Pk.nx 4 (Pk.nx 2 (Pk.nx 1 s).2).2).1), (Pk.nx 4 (Pk.nx 2 (Pk.nx 1 s).2).2).2)
def rLs {α : Type} (f : St → α × St) (s : St) : List α × St := rList f (Pk.nx 1 s).1 (Pk.nx 1 s).2
def rCf (s : St) : Cfg × St := (⟨(rHd s).1.1, (rHd s).1.2.1, (rHd s).1.2.2, (rLs rSl (rHd s).2).1, (rLs rOm (rLs rSl (rHd s).2).2).1⟩, (rLs rOm (rLs rSl (rHd s).2).2).2)
theorem rHd_kps : Kps rHd := fun s h => nx_kps 4 _ (nx_kps 2 _ (nx_kps 1 _ h))
theorem rLs_kps {α : Type} {f : St → α × St} (hf : Kps f) : Kps (rLs f) := fun s h => rList_kps hf _ _ (nx_kps 1 _ h)
theorem rLs_snd {α : Type} {f : St → α × St} {enc : α → List Nat} {P : α → Prop} (hf : Snd f enc P) (hk : Kps f) : Snd (rLs f) (fun l => Pk.enc 1 l.length ++ l.flatMap enc) (fun l => ∀ x ∈ l, P x) := fun s hb h => by
  obtain ⟨a2, b2, c2, d2⟩ := rList_snd hf hk _ _ (nx_b hb) h
  obtain ⟨a1, b1, _⟩ := nx_snd hb a2
  refine ⟨a1, ?_, c2, d2⟩
  unfold rLs
  simp only
  rw [rList_len, List.append_assoc, ← b2, ← b1]
theorem rCf_snd : Snd rCf Cfg.enc (fun c => ∀ o ∈ c.os, Nf o) := fun s hb h => by
  obtain ⟨a5, b5, c5, d5⟩ := rLs_snd rOm_snd rOm_kps _ (rLs_kps rSl_kps _ (rHd_kps _ hb)) h
  obtain ⟨a4, b4, _, _⟩ := rLs_snd (P := fun _ => True) (fun s hb h => by obtain ⟨x, y, z⟩ := rSl_snd hb h; exact ⟨x, y, z, trivial⟩) rSl_kps _ (rHd_kps _ hb) a5
  obtain ⟨a3, b3, _⟩ := nx_snd (nx_b (nx_b hb)) a4
  obtain ⟨a2, b2, _⟩ := nx_snd (nx_b hb) a3
  obtain ⟨a1, b1, _⟩ := nx_snd hb a2
  refine ⟨a1, ?_, c5, d5⟩
  unfold Cfg.enc encCf rCf
  simp only [Int.toNat_natCast, List.append_assoc]
  have e5 := b5.symm
  have e4 := b4.symm
  simp only [List.append_assoc] at e4 e5
  rw [e5, e4]
  unfold rHd
  simp only
  rw [← b3, ← b2, ← b1]
theorem rLs_cmp {α : Type} {f : St → α × St} {enc : α → List Nat} (l : List α) (t : List Nat) (hl : l.length < 256) (h : ∀ x ∈ l, ∀ t, f (enc x ++ t, false) = (x, (t, false))) : rLs f (Pk.enc 1 l.length ++ (l.flatMap enc ++ t), false) = (l, (t, false)) := by
  unfold rLs
  rw [nx_cmp _ (by omega)]
  exact rList_cmp l t h
theorem rCf_cmp {co fr nm : Int} {xs : List Sl} {os : List Om} (t : List Nat) (h : CfN co fr nm xs os) : rCf (encCf co fr nm xs os ++ t, false) = (⟨co.toNat, fr.toNat, nm.toNat, xs, os⟩, (t, false)) := by
  have h1 := h.c; have h2 := h.f; have h3 := h.n
  have e : rHd (encCf co fr nm xs os ++ t, false) = ((co.toNat, fr.toNat, nm.toNat), (Pk.enc 1 xs.length ++ (xs.flatMap encSlt ++ (Pk.enc 1 os.length ++ (os.flatMap encOm ++ t))), false)) := by
    unfold rHd encCf
    simp only [List.append_assoc]
    rw [nx_cmp _ (by omega)]
    simp only
    rw [nx_cmp _ (by omega)]
    simp only
    rw [nx_cmp _ (by omega)]
  unfold rCf
  rw [e]
  simp only
  rw [rLs_cmp xs _ h.xl fun x hx t => rSl_cmp t (h.x x hx)]
  simp only
  rw [rLs_cmp os _ h.ol fun x hx t => rOm_cmp t (h.o x hx).1 (h.o x hx).2]
end Go.Proofs.Ytmadldgajjgbmaa
