import Derived.Lib.ItoaMem
import Derived.Lib.ParseIntBTie
import Derived.Lib.SplitLaws
import Derived.Lib.CutLaws
import Derived.Lib.Strings
namespace Isa
open Go.Lib
set_option linter.unusedVariables false
set_option linter.unusedSimpArgs false

/-- The operations' names, each at its number. -/
def names : List (List UInt8) := [[], [104, 97, 108, 116], [108, 105], [104, 105], [97, 100, 100], [115, 117, 98], [109, 117, 108], [100, 105, 118], [114, 101, 109], [97, 110, 100], [111, 114], [120, 111, 114], [115, 104, 108], [115, 104, 114], [115, 97, 114], [115, 108, 116], [115, 108, 116, 117], [101, 113], [97, 100, 100, 105], [108, 100], [108, 119], [108, 98], [115, 116], [115, 119], [115, 98], [98, 101, 113], [98, 110, 101], [98, 108, 116], [98, 108, 116, 117], [106, 97, 108], [106, 114], [102, 97, 100, 100], [102, 115, 117, 98], [102, 109, 117, 108], [102, 100, 105, 118], [102, 109, 105, 110], [102, 109, 97, 120], [102, 108, 116], [102, 101, 113], [102, 115, 113, 114, 116], [102, 116, 111, 105], [105, 116, 111, 102], [102, 99, 108, 97, 115, 115], [116, 114, 97, 112]]
def nm (o : Int) : List UInt8 := names.getD o.toNat []
def Right (o a b c : Int) : Prop := 1 ≤ o ∧ o ≤ 43 ∧ 0 ≤ a ∧ a < 16 ∧ 0 ≤ b ∧ b < 16 ∧ 0 ≤ c ∧ c < 16
instance (o a b c : Int) : Decidable (Right o a b c) := by unfold Right; infer_instance
def reg (n : Int) : List UInt8 := [32, 114] ++ itoa n
/-- An instruction's text. -/
def txt (o a b c m : Int) : List UInt8 := nm o ++ reg a ++ reg b ++ reg c ++ [32] ++ itoa m

theorem names_fin : ∀ i j : Fin 44, names.getD i.val [] = names.getD j.val [] → i = j := by decide +kernel
theorem names_chars : ∀ i : Fin 44, ∀ c ∈ names.getD i.val [], c ≠ 32 := by decide +kernel
theorem names_full : ∀ i : Fin 44, 1 ≤ i.val → names.getD i.val [] ≠ [] := by decide +kernel
theorem nm_inj {o p : Int} (h1 : 1 ≤ o) (h2 : o ≤ 43) (h3 : 1 ≤ p) (h4 : p ≤ 43) (h : nm o = nm p) : o = p := by
  have := names_fin ⟨o.toNat, by omega⟩ ⟨p.toNat, by omega⟩ h
  simp only [Fin.mk.injEq] at this
  omega
theorem nm_chars (o : Int) : ∀ c ∈ nm o, c ≠ 32 := by
  by_cases h : o.toNat < 44
  · exact names_chars ⟨o.toNat, h⟩
  · unfold nm
    rw [List.getD_eq_getElem?_getD, List.getElem?_eq_none (by show 44 ≤ _; omega)]
    simp
theorem nm_full {o : Int} (h1 : 1 ≤ o) (h2 : o ≤ 43) : nm o ≠ [] := names_full ⟨o.toNat, by omega⟩ (by show 1 ≤ o.toNat; omega)
theorem nm_none {o : Int} (h : ¬ (1 ≤ o ∧ o ≤ 43)) : nm o = [] := by
  by_cases h0 : o < 1
  · have : o.toNat = 0 := by omega
    unfold nm
    rw [this]
    rfl
  · unfold nm
    rw [List.getD_eq_getElem?_getD, List.getElem?_eq_none (by show 44 ≤ _; omega)]
    rfl
theorem nm_nil (o : Int) : nm o = [] ↔ ¬ (1 ≤ o ∧ o ≤ 43) :=
  ⟨fun h hh => nm_full hh.1 hh.2 h, nm_none⟩

/-! numerals -/
theorem digit_toNat {d : Nat} (h : d < 10) : (UInt8.ofNat (48 + d)).toNat = 48 + d := by
  rw [UInt8.toNat_ofNat']
  omega
theorem decDigits_big {u : Nat} (h : ¬ u < 10) : decDigits u = decDigits (u / 10) ++ [UInt8.ofNat (48 + u % 10)] := by rw [decDigits, dif_neg h]
theorem decDigits_chars (u : Nat) : ∀ c ∈ decDigits u, 48 ≤ c.toNat ∧ c.toNat ≤ 57 := by
  induction u using Nat.strongRecOn with
  | _ u ih =>
    by_cases h : u < 10
    · rw [decDigits_one h]
      intro c hc
      rw [List.mem_singleton] at hc
      subst hc
      rw [digit_toNat h]
      omega
    · rw [decDigits_big h]
      intro c hc
      rcases List.mem_append.1 hc with hc | hc
      · exact ih (u / 10) (by omega) c hc
      · rw [List.mem_singleton] at hc
        subst hc
        rw [digit_toNat (by omega)]
        omega
theorem decDigits_nil (u : Nat) : decDigits u ≠ [] := by
  intro h
  have := decDigits_length u
  rw [h] at this
  have := nDigits_pos u
  simp at *
  omega
theorem itoa_chars (n : Int) : ∀ c ∈ itoa n, c.toNat = 45 ∨ (48 ≤ c.toNat ∧ c.toNat ≤ 57) := by
  intro c hc
  unfold itoa at hc
  split at hc
  · rcases List.mem_cons.1 hc with rfl | hc
    · exact .inl rfl
    · exact .inr (decDigits_chars _ c hc)
  · exact .inr (decDigits_chars _ c hc)
theorem itoa_space (n : Int) : ∀ c ∈ itoa n, c ≠ 32 := by
  intro c hc e
  subst e
  rcases itoa_chars n _ hc with h | h
  · exact absurd h (by decide)
  · exact absurd h.1 (by decide)
theorem itoa_r (n : Int) : (itoa n).head? ≠ some 114 := by
  intro h
  have := itoa_chars n _ (List.mem_of_mem_head? h)
  rcases this with h | h
  · exact absurd h (by decide)
  · exact absurd h.2 (by decide)
theorem parseUintM_dec (M u : Nat) (hM : M < 18446744073709551616) (r : List UInt8) (h : u ≤ M) : parseUintM M 0 (decDigits u ++ r) = parseUintM M u r := by
  induction u using Nat.strongRecOn generalizing r with
  | _ u ih =>
    by_cases h10 : u < 10
    · rw [decDigits_one h10, List.singleton_append, parseUintM, digit_toNat h10, if_pos (by omega), if_neg (by omega), if_neg (by omega)]
      congr 1
      omega
    · rw [decDigits_big h10, List.append_assoc, ih (u / 10) (by omega) _ (by omega), List.singleton_append, parseUintM, digit_toNat (by omega), if_pos (by omega), if_neg (by omega), if_neg (by omega)]
      congr 1
      omega
theorem parseUintB_dec {u : Nat} (h : u ≤ 4294967295) : parseUintB 32 (decDigits u) = .ok u := by
  unfold parseUintB
  rw [if_neg (decDigits_nil u)]
  have := parseUintM_dec (2 ^ 32 - 1) u (by decide) [] (by simpa using h)
  rw [List.append_nil] at this
  rw [this, parseUintM]
theorem parse_itoa {n : Int} (h1 : -2147483648 ≤ n) (h2 : n ≤ 2147483647) : parseIntB 32 (itoa n) = .ok n := by
  by_cases hn : n < 0
  · obtain ⟨k, rfl⟩ : ∃ k : Nat, n = -(k : Int) := ⟨n.natAbs, by omega⟩
    rw [itoa_neg k (by omega)]
    unfold parseIntB
    simp only
    rw [if_pos (.inr (by decide)), parseUintB_dec (by omega)]
    simp only
    rw [if_neg (by simp), if_neg (by simp; omega), if_pos (by decide)]
  · obtain ⟨k, rfl⟩ : ∃ k : Nat, n = (k : Int) := ⟨n.toNat, by omega⟩
    rw [itoa_nonneg]
    obtain ⟨c, r, e⟩ : ∃ c r, decDigits k = c :: r := by
      cases h : decDigits k with
      | nil => exact absurd h (decDigits_nil k)
      | cons c r => exact ⟨c, r, rfl⟩
    have hc := decDigits_chars k c (by rw [e]; exact List.mem_cons_self ..)
    have hp := parseUintB_dec (u := k) (by omega)
    rw [e] at hp ⊢
    unfold parseIntB
    simp only
    rw [if_neg (by omega), hp]
    simp only
    rw [if_neg (by rw [not_and]; intro _; simp; omega), if_neg (by omega), if_neg (by omega)]
theorem itoa_inj {m n : Int} (h1 : -2147483648 ≤ m) (h2 : m ≤ 2147483647) (h3 : -2147483648 ≤ n) (h4 : n ≤ 2147483647) (h : itoa m = itoa n) : m = n := by
  have a := parse_itoa h1 h2
  rw [h, parse_itoa h3 h4] at a
  injection a with a
  exact a.symm

/-! texts, cut at their blanks -/
theorem index_at (l r : List UInt8) (h : ∀ c ∈ l, c ≠ 32) : index (l ++ 32 :: r) [32] = l.length := by
  refine index_first (by simp) ?_ fun j hj => ?_
  · unfold occAt
    rw [List.drop_left]
    simp
  · unfold occAt
    rw [List.drop_append_of_le_length (by omega)]
    have : ∃ c t, l.drop j = c :: t ∧ c ∈ l := by
      have hh : j < l.length := hj
      refine ⟨l[j], l.drop (j + 1), (List.drop_eq_getElem_cons hh), List.getElem_mem hh⟩
    obtain ⟨c, t, e, hc⟩ := this
    rw [e]
    have := h c hc
    simp [List.isPrefixOf]
    exact fun e => this e.symm
theorem cut_at (l r : List UInt8) (h : ∀ c ∈ l, c ≠ 32) : cut (l ++ 32 :: r) [32] = (l, r, true) := by
  unfold cut
  rw [index_at l r h, if_pos (by omega)]
  simp
theorem splitK_at (k : Nat) (l r : List UInt8) (h : ∀ c ∈ l, c ≠ 32) : splitK [32] 0 (k + 1) (l ++ 32 :: r) = l :: splitK [32] 0 k r := by
  rw [splitK, index_at l r h, if_neg (by simp)]
  simp
theorem two_parts {l l' r r' : List UInt8} (h : ∀ c ∈ l, c ≠ 32) (h' : ∀ c ∈ l', c ≠ 32) (e : l ++ 32 :: r = l' ++ 32 :: r') : l = l' ∧ r = r' := by
  have a := cut_at l r h
  rw [e, cut_at l' r' h'] at a
  simp only [Prod.mk.injEq] at a
  exact ⟨a.1.symm, a.2.1.symm⟩
def word (n : Int) : List UInt8 := 114 :: itoa n
theorem word_space (n : Int) : ∀ c ∈ word n, c ≠ 32 := by
  intro c hc
  rcases List.mem_cons.1 hc with rfl | hc
  · decide
  · exact itoa_space n c hc
def rest (a b c m : Int) : List UInt8 := word a ++ 32 :: (word b ++ 32 :: (word c ++ 32 :: itoa m))
theorem txt_eq (o a b c m : Int) : txt o a b c m = nm o ++ 32 :: rest a b c m := by
  unfold txt reg rest word
  simp
theorem cut_txt (o a b c m : Int) : cut (txt o a b c m) [32] = (nm o, rest a b c m, true) := by
  rw [txt_eq]
  exact cut_at _ _ (nm_chars o)
theorem split_rest (a b c m : Int) : splitK [32] 0 3 (rest a b c m) = [word a, word b, word c, itoa m] := by
  unfold rest
  rw [splitK_at 2 _ _ (word_space a), splitK_at 1 _ _ (word_space b), splitK_at 0 _ _ (word_space c)]
  rfl
theorem rest_length (a b c m : Int) : 3 ≤ (rest a b c m).length := by
  unfold rest word
  simp
  omega
theorem trim_word (n : Int) : trimPrefix (word n) [114] = itoa n := by
  unfold trimPrefix hasPrefix word
  simp [List.isPrefixOf]
theorem trim_itoa (n : Int) : trimPrefix (itoa n) [114] = itoa n := by
  unfold trimPrefix hasPrefix
  have := itoa_r n
  cases h : itoa n with
  | nil => simp [List.isPrefixOf]
  | cons c r =>
    rw [h] at this
    rw [if_neg]
    simp [List.isPrefixOf]
    intro e
    exact this (by simp [e])
/-- The texts of two instructions are the same just if the instructions are. -/
theorem txt_inj {o a b c m o' a' b' c' m' : Int} (h : Right o a b c) (h' : Right o' a' b' c') (h1 : -2147483648 ≤ m) (h2 : m ≤ 2147483647) (h3 : -2147483648 ≤ m') (h4 : m' ≤ 2147483647)
    (e : txt o a b c m = txt o' a' b' c' m') : o = o' ∧ a = a' ∧ b = b' ∧ c = c' ∧ m = m' := by
  obtain ⟨r1, r2, r3, r4, r5, r6, r7, r8⟩ := h
  obtain ⟨s1, s2, s3, s4, s5, s6, s7, s8⟩ := h'
  rw [txt_eq, txt_eq] at e
  obtain ⟨e0, e⟩ := two_parts (nm_chars o) (nm_chars o') e
  unfold rest at e
  obtain ⟨e1, e⟩ := two_parts (word_space a) (word_space a') e
  obtain ⟨e2, e⟩ := two_parts (word_space b) (word_space b') e
  obtain ⟨e3, e⟩ := two_parts (word_space c) (word_space c') e
  unfold word at e1 e2 e3
  exact ⟨nm_inj r1 r2 s1 s2 e0, itoa_inj (by omega) (by omega) (by omega) (by omega) (List.cons.inj e1).2, itoa_inj (by omega) (by omega) (by omega) (by omega) (List.cons.inj e2).2,
    itoa_inj (by omega) (by omega) (by omega) (by omega) (List.cons.inj e3).2, itoa_inj h1 h2 h3 h4 e⟩

/-! what Parse reads -/
def rd (w : List UInt8) : Option Int := match parseIntB 32 (trimPrefix w [114]) with | .ok n => some n | _ => none
structure R4 where
  a : Int
  b : Int
  c : Int
  m : Int
def R4.put (x : R4) (k : Nat) (n : Int) : R4 := if k = 0 then { x with a := n } else if k = 1 then { x with b := n } else if k = 2 then { x with c := n } else { x with m := n }
def fold : Nat → List (List UInt8) → R4 → R4
  | _, [], x => x
  | k, w :: ws, x => match rd w with
    | some n => fold (k + 1) ws (x.put k n)
    | none => x
theorem rd_bounds {w : List UInt8} {n : Int} (h : rd w = some n) : -2147483648 ≤ n ∧ n ≤ 2147483647 := by
  unfold rd at h
  split at h
  · rename_i v hv
    cases h
    have := parseIntB_bounds hv
    simp at this
    omega
  · cases h
def R4.Ok (x : R4) : Prop := (-2147483648 ≤ x.a ∧ x.a ≤ 2147483647) ∧ (-2147483648 ≤ x.b ∧ x.b ≤ 2147483647) ∧ (-2147483648 ≤ x.c ∧ x.c ≤ 2147483647) ∧ (-2147483648 ≤ x.m ∧ x.m ≤ 2147483647)
theorem R4.Ok.put {x : R4} (h : x.Ok) {n : Int} (hn : -2147483648 ≤ n ∧ n ≤ 2147483647) (k : Nat) : (x.put k n).Ok := by
  obtain ⟨h1, h2, h3, h4⟩ := h
  unfold R4.put
  split
  · exact ⟨hn, h2, h3, h4⟩
  split
  · exact ⟨h1, hn, h3, h4⟩
  split
  · exact ⟨h1, h2, hn, h4⟩
  · exact ⟨h1, h2, h3, hn⟩
theorem fold_ok : ∀ (ws : List (List UInt8)) (k : Nat) (x : R4), x.Ok → (fold k ws x).Ok
  | [], _, _, h => h
  | w :: ws, k, x, h => by
    unfold fold
    split
    · rename_i n hn
      exact fold_ok ws (k + 1) _ (h.put (rd_bounds hn) k)
    · exact h
def R4.zero : R4 := ⟨0, 0, 0, 0⟩
theorem rd_word {n : Int} (h1 : -2147483648 ≤ n) (h2 : n ≤ 2147483647) : rd (word n) = some n := by
  unfold rd
  rw [trim_word, parse_itoa h1 h2]
theorem rd_itoa {n : Int} (h1 : -2147483648 ≤ n) (h2 : n ≤ 2147483647) : rd (itoa n) = some n := by
  unfold rd
  rw [trim_itoa, parse_itoa h1 h2]
theorem fold_rest {a b c m : Int} (ha : 0 ≤ a ∧ a < 16) (hb : 0 ≤ b ∧ b < 16) (hc : 0 ≤ c ∧ c < 16) (hm : -2147483648 ≤ m ∧ m ≤ 2147483647) :
    fold 0 (splitK [32] 0 3 (rest a b c m)) R4.zero = ⟨a, b, c, m⟩ := by
  rw [split_rest]
  simp only [fold, rd_word (n := a) (by omega) (by omega), rd_word (n := b) (by omega) (by omega), rd_word (n := c) (by omega) (by omega), rd_itoa hm.1 hm.2]
  rfl
/-- r is the number of the operation of this name; 0: there is none. -/
def OpIs (l : List UInt8) (r : Int) : Prop := (1 ≤ r ∧ r ≤ 43 ∧ nm r = l) ∨ (r = 0 ∧ ∀ j : Int, 1 ≤ j → j ≤ 43 → nm j ≠ l)
theorem OpIs.nm {o r : Int} (h1 : 1 ≤ o) (h2 : o ≤ 43) (h : OpIs (nm o) r) : r = o := by
  rcases h with ⟨h3, h4, h5⟩ | ⟨_, h⟩
  · exact nm_inj h3 h4 h1 h2 h5
  · exact absurd rfl (h o h1 h2)
end Isa
