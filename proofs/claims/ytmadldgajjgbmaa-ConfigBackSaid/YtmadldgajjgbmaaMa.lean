/- A configuration's bytes. -/
import Derived.Test.YtmadldgajjgbmaaKa
import Derived.Test.YtmadldgajjgbmaaCf
set_option linter.unusedVariables false
set_option linter.unusedSimpArgs false
namespace Go.Proofs.Ytmadldgajjgbmaa
open Go.RowKit
set_option linter.unusedVariables false
set_option linter.unusedSimpArgs false
def encMp (m : Mp) : List Nat := Pk.enc 2 m.at_.toNat ++ (Pk.enc 2 m.sg ++ (Pk.enc 2 m.fr.toNat ++ (Pk.enc 2 m.n.toNat ++ Pk.enc 2 (if m.wr then 1 else 0))))
def encSlt (x : Sl) : List Nat := Pk.enc 1 x.ct ++ Pk.enc 1 x.tk.toNat
def encK (o : Om) : List Nat :=
  if o.kd = 1 then Pk.enc 2 o.pg.toNat ++ Pk.enc 4 o.nm.toNat
  else if o.kd = 2 then Pk.enc 1 o.pg.toNat ++ (Pk.enc 2 o.da.length ++ o.da)
  else if o.kd = 4 then Pk.enc 1 o.mp.length ++ o.mp.flatMap encMp
  else if o.kd = 3 ∨ o.kd = 5 then Pk.lab o.cD o.cP ++ (Pk.enc 1 o.sp.toNat ++ Pk.enc 4 o.pc.toNat)
  else []
def encOm (o : Om) : List Nat := Pk.enc 1 o.kd.toNat ++ (Pk.enc 1 o.pa.toNat ++ (Pk.lab o.lD o.lP ++ encK o))
/-- What a configuration is in bytes. -/
def encCf (co fr nm : Int) (xs : List Sl) (os : List Om) : List Nat := Pk.enc 1 co.toNat ++ (Pk.enc 2 fr.toNat ++ (Pk.enc 4 nm.toNat ++ (Pk.enc 1 xs.length ++ (xs.flatMap encSlt ++ (Pk.enc 1 os.length ++ os.flatMap encOm)))))
/-- What is told by its bytes. -/
structure MpR (m : Mp) : Prop where
  a : 0 ≤ m.at_ ∧ m.at_ < 65536
  s : m.sg < 65536
  f : 0 ≤ m.fr ∧ m.fr < 65536
  n : 0 ≤ m.n ∧ m.n < 65536
structure OmR (o : Om) : Prop where
  k : 1 ≤ o.kd ∧ o.kd ≤ 6
  p : 0 ≤ o.pa ∧ o.pa < 256
  l : Lab.right o.lD o.lP = true
  k1 : o.kd = 1 → (0 ≤ o.pg ∧ o.pg < 65536) ∧ 0 ≤ o.nm ∧ o.nm < 4294967296
  k2 : o.kd = 2 → (0 ≤ o.pg ∧ o.pg < 256) ∧ o.da.length < 65536
  k4 : o.kd = 4 → o.mp.length < 256 ∧ ∀ m ∈ o.mp, MpR m
  k3 : o.kd = 3 ∨ o.kd = 5 → Lab.right o.cD o.cP = true ∧ (0 ≤ o.sp ∧ o.sp < 256) ∧ 0 ≤ o.pc ∧ o.pc < 4294967296
/-- What its kind doesn't use is zero. -/
structure Nf (o : Om) : Prop where
  nm : o.kd ≠ 1 → o.nm = 0
  pg : o.kd ≠ 1 → o.kd ≠ 2 → o.pg = 0
  da : o.kd ≠ 2 → o.da = []
  mp : o.kd ≠ 4 → o.mp = []
  cl : ¬ (o.kd = 3 ∨ o.kd = 5) → o.cD = 0 ∧ o.cP = [] ∧ o.sp = 0 ∧ o.pc = 0
theorem enc_cut {n x y : Nat} {t t' : List Nat} (hx : x < 256 ^ n) (hy : y < 256 ^ n) (h : Pk.enc n x ++ t = Pk.enc n y ++ t') : x = y ∧ t = t' := by
  obtain ⟨h1, h2⟩ := List.append_inj h (by rw [Pk.enc_len, Pk.enc_len])
  have h3 := congrArg Pk.num h1
  rw [Pk.num_enc, Pk.num_enc, Nat.mod_eq_of_lt hx, Nat.mod_eq_of_lt hy] at h3
  exact ⟨h3, h2⟩
theorem enc_cutI {n : Nat} {x y : Int} {t t' : List Nat} (hx : 0 ≤ x ∧ x < ((256 ^ n : Nat) : Int)) (hy : 0 ≤ y ∧ y < ((256 ^ n : Nat) : Int)) (h : Pk.enc n x.toNat ++ t = Pk.enc n y.toNat ++ t') : x = y ∧ t = t' := by
  obtain ⟨h1, h2⟩ := enc_cut (by omega) (by omega) h
  exact ⟨by omega, h2⟩
theorem lab_cut {D E : Int} {P Q : LP} {t t' : List Nat} (h1 : Lab.right D P = true) (h2 : Lab.right E Q = true) (h : Pk.lab D P ++ t = Pk.lab E Q ++ t') : D = E ∧ P = Q ∧ t = t' := by
  have e1 := Pk.rl_of t h1
  have e2 := Pk.rl_of t' h2
  rw [h, e2] at e1
  injection e1 with e1
  injection e1 with a1 a2
  injection a2 with a2 a3
  exact ⟨a1.symm, a2.symm, a3.symm⟩
theorem list_cut {α : Type} {f : α → List Nat} : ∀ {xs ys : List α} {t t' : List Nat}, xs.length = ys.length → (∀ x ∈ xs, ∀ y ∈ ys, ∀ t t', f x ++ t = f y ++ t' → x = y ∧ t = t') → xs.flatMap f ++ t = ys.flatMap f ++ t' → xs = ys ∧ t = t'
  | [], [], t, t', _, _, h => ⟨rfl, h⟩
  | x :: xs, [], t, t', hl, _, _ => by simp at hl
  | [], y :: ys, t, t', hl, _, _ => by simp at hl
  | x :: xs, y :: ys, t, t', hl, hc, h => by
    rw [List.flatMap_cons, List.flatMap_cons, List.append_assoc, List.append_assoc] at h
    obtain ⟨h1, h2⟩ := hc x (by simp) y (by simp) _ _ h
    obtain ⟨h3, h4⟩ := list_cut (by simpa using hl) (fun a ha b hb => hc a (by simp [ha]) b (by simp [hb])) h2
    exact ⟨by rw [h1, h3], h4⟩
theorem mp_cut {m q : Mp} {t t' : List Nat} (hm : MpR m) (hq : MpR q) (h : encMp m ++ t = encMp q ++ t') : m = q ∧ t = t' := by
  unfold encMp at h
  simp only [List.append_assoc] at h
  obtain ⟨a1, h⟩ := enc_cutI (n := 2) (by have := hm.a; simpa using this) (by have := hq.a; simpa using this) h
  obtain ⟨a2, h⟩ := enc_cut (n := 2) (by have := hm.s; simpa using this) (by have := hq.s; simpa using this) h
  obtain ⟨a3, h⟩ := enc_cutI (n := 2) (by have := hm.f; simpa using this) (by have := hq.f; simpa using this) h
  obtain ⟨a4, h⟩ := enc_cutI (n := 2) (by have := hm.n; simpa using this) (by have := hq.n; simpa using this) h
  obtain ⟨a5, hfin⟩ := enc_cut (n := 2) (by split <;> decide) (by split <;> decide) h
  obtain ⟨m1, m2, m3, m4, m5⟩ := m
  obtain ⟨q1, q2, q3, q4, q5⟩ := q
  simp only at a1 a2 a3 a4 a5
  subst a1 a2 a3 a4
  refine ⟨?_, hfin⟩
  cases m5 <;> cases q5 <;> first | rfl | simp at a5
theorem om_cut {o q : Om} {t t' : List Nat} (ho : OmR o) (hq : OmR q) (no : Nf o) (nq : Nf q) (h : encOm o ++ t = encOm q ++ t') : o = q ∧ t = t' := by
  unfold encOm at h
  simp only [List.append_assoc] at h
  obtain ⟨a1, h⟩ := enc_cutI (n := 1) (by have := ho.k; simp; omega) (by have := hq.k; simp; omega) h
  obtain ⟨a2, h⟩ := enc_cutI (n := 1) (by have := ho.p; simpa using this) (by have := hq.p; simpa using this) h
  obtain ⟨a3, a4, hk⟩ := lab_cut ho.l hq.l h
  clear h
  obtain ⟨kd, pa, lD, lP, cD, cP, pg, nm, da, mp, sp, pc⟩ := o
  obtain ⟨kd', pa', lD', lP', cD', cP', pg', nm', da', mp', sp', pc'⟩ := q
  obtain ⟨n1, n2, n3, n4, n5⟩ := no
  obtain ⟨m1, m2, m3, m4, m5⟩ := nq
  have r1 := ho.k1
  have r2 := ho.k2
  have r3 := ho.k3
  have r4 := ho.k4
  have s1 := hq.k1
  have s2 := hq.k2
  have s3 := hq.k3
  have s4 := hq.k4
  unfold encK at hk
  simp only at a1 a2 a3 a4 hk n1 n2 n3 n4 n5 m1 m2 m3 m4 m5 r1 r2 r3 r4 s1 s2 s3 s4
  subst a1 a2 a3 a4
  by_cases h1 : kd = 1
  · rw [if_pos h1, if_pos h1] at hk
    simp only [List.append_assoc] at hk
    obtain ⟨b1, h⟩ := enc_cutI (n := 2) (by have := (r1 h1).1; simpa using this) (by have := (s1 h1).1; simpa using this) hk
    obtain ⟨b2, hfin⟩ := enc_cutI (n := 4) (by have := (r1 h1).2; simpa using this) (by have := (s1 h1).2; simpa using this) h
    obtain ⟨c1, c2, c3, c4⟩ := n5 (by omega)
    obtain ⟨d1, d2, d3, d4⟩ := m5 (by omega)
    subst b1 b2 c1 c2 c3 c4 d1 d2 d3 d4
    rw [n3 (by omega), m3 (by omega), n4 (by omega), m4 (by omega)]
    exact ⟨rfl, hfin⟩
  rw [if_neg h1, if_neg h1] at hk
  rw [n1 h1, m1 h1]
  by_cases h2 : kd = 2
  · rw [if_pos h2, if_pos h2] at hk
    simp only [List.append_assoc] at hk
    obtain ⟨b1, h⟩ := enc_cutI (n := 1) (by have := (r2 h2).1; simpa using this) (by have := (s2 h2).1; simpa using this) hk
    obtain ⟨b2, h⟩ := enc_cut (n := 2) (by have := (r2 h2).2; simpa using this) (by have := (s2 h2).2; simpa using this) h
    obtain ⟨b3, hfin⟩ := List.append_inj h b2
    obtain ⟨c1, c2, c3, c4⟩ := n5 (by omega)
    obtain ⟨d1, d2, d3, d4⟩ := m5 (by omega)
    subst b1 b3 c1 c2 c3 c4 d1 d2 d3 d4
    rw [n4 (by omega), m4 (by omega)]
    exact ⟨rfl, hfin⟩
  rw [if_neg h2, if_neg h2] at hk
  rw [n2 h1 h2, m2 h1 h2, n3 h2, m3 h2]
  by_cases h4 : kd = 4
  · rw [if_pos h4, if_pos h4] at hk
    simp only [List.append_assoc] at hk
    obtain ⟨b1, h⟩ := enc_cut (n := 1) (by have := (r4 h4).1; simpa using this) (by have := (s4 h4).1; simpa using this) hk
    obtain ⟨b2, hfin⟩ := list_cut b1 (fun x hx y hy t t' => mp_cut ((r4 h4).2 x hx) ((s4 h4).2 y hy)) h
    obtain ⟨c1, c2, c3, c4⟩ := n5 (by omega)
    obtain ⟨d1, d2, d3, d4⟩ := m5 (by omega)
    subst b2 c1 c2 c3 c4 d1 d2 d3 d4
    exact ⟨rfl, hfin⟩
  rw [if_neg h4, if_neg h4] at hk
  rw [n4 h4, m4 h4]
  by_cases h3 : kd = 3 ∨ kd = 5
  · rw [if_pos h3, if_pos h3] at hk
    simp only [List.append_assoc] at hk
    obtain ⟨b1, b2, h⟩ := lab_cut (r3 h3).1 (s3 h3).1 hk
    obtain ⟨b3, h⟩ := enc_cutI (n := 1) (by have := (r3 h3).2.1; simpa using this) (by have := (s3 h3).2.1; simpa using this) h
    obtain ⟨b4, hfin⟩ := enc_cutI (n := 4) (by have := (r3 h3).2.2; simpa using this) (by have := (s3 h3).2.2; simpa using this) h
    subst b1 b2 b3 b4
    exact ⟨rfl, hfin⟩
  rw [if_neg h3, if_neg h3] at hk
  obtain ⟨c1, c2, c3, c4⟩ := n5 h3
  obtain ⟨d1, d2, d3, d4⟩ := m5 h3
  subst c1 c2 c3 c4 d1 d2 d3 d4
  exact ⟨rfl, hk⟩
theorem sl_cut {x y : Sl} {t t' : List Nat} (hx : x.ct < 256 ∧ 0 ≤ x.tk ∧ x.tk < 256) (hy : y.ct < 256 ∧ 0 ≤ y.tk ∧ y.tk < 256) (h : encSlt x ++ t = encSlt y ++ t') : x = y ∧ t = t' := by
  unfold encSlt at h
  simp only [List.append_assoc] at h
  obtain ⟨a1, h⟩ := enc_cut (n := 1) (by have := hx.1; simpa using this) (by have := hy.1; simpa using this) h
  obtain ⟨a2, hfin⟩ := enc_cutI (n := 1) (by have := hx.2; simpa using this) (by have := hy.2; simpa using this) h
  obtain ⟨x1, x2⟩ := x
  obtain ⟨y1, y2⟩ := y
  simp only at a1 a2
  subst a1 a2
  exact ⟨rfl, hfin⟩
/-- Numbers that its bytes tell. -/
structure CfN (co fr nm : Int) (xs : List Sl) (os : List Om) : Prop where
  c : 0 ≤ co ∧ co < 256
  f : 0 ≤ fr ∧ fr < 65536
  n : 0 ≤ nm ∧ nm < 4294967296
  xl : xs.length < 256
  x : ∀ x ∈ xs, x.ct < 256 ∧ 0 ≤ x.tk ∧ x.tk < 256
  ol : os.length < 256
  o : ∀ o ∈ os, OmR o ∧ Nf o
/-- Bytes tell one configuration at most, and where it ends. -/
theorem cf_cut {co fr nm co' fr' nm' : Int} {xs xs' : List Sl} {os os' : List Om} {t t' : List Nat} (h1 : CfN co fr nm xs os) (h2 : CfN co' fr' nm' xs' os') (h : encCf co fr nm xs os ++ t = encCf co' fr' nm' xs' os' ++ t') : (co = co' ∧ fr = fr' ∧ nm = nm') ∧ xs = xs' ∧ os = os' ∧ t = t' := by
  unfold encCf at h
  simp only [List.append_assoc] at h
  obtain ⟨a1, h⟩ := enc_cutI (n := 1) (by have := h1.c; simpa using this) (by have := h2.c; simpa using this) h
  obtain ⟨a2, h⟩ := enc_cutI (n := 2) (by have := h1.f; simpa using this) (by have := h2.f; simpa using this) h
  obtain ⟨a3, h⟩ := enc_cutI (n := 4) (by have := h1.n; simpa using this) (by have := h2.n; simpa using this) h
  obtain ⟨a4, h⟩ := enc_cut (n := 1) (by have := h1.xl; simpa using this) (by have := h2.xl; simpa using this) h
  obtain ⟨a5, h⟩ := list_cut a4 (fun x hx y hy t t' => sl_cut (h1.x x hx) (h2.x y hy)) h
  obtain ⟨a6, h⟩ := enc_cut (n := 1) (by have := h1.ol; simpa using this) (by have := h2.ol; simpa using this) h
  obtain ⟨a7, h⟩ := list_cut a6 (fun x hx y hy t t' => om_cut (h1.o x hx).1 (h2.o y hy).1 (h1.o x hx).2 (h2.o y hy).2) h
  exact ⟨⟨a1, a2, a3⟩, a5, a7, h⟩
end Go.Proofs.Ytmadldgajjgbmaa
