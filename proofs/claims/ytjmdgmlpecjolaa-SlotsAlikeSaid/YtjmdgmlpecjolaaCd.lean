/- A clock and its table beside a law; the example: fit. -/
import Derived.Test.YtjmdgmlpecjolaaCc
set_option linter.unusedVariables false
set_option linter.unusedSimpArgs false
namespace Go.Proofs.Ytjmdgmlpecjolaa
open Go.RowKit
set_option linter.unusedVariables false
set_option linter.unusedSimpArgs false
variable {W w w' : World} {b B off n cp k : Nat} {c c' : Ck} {xs : List Sl} {x : Int}
theorem drewN_below (w : World) (k : Nat) : Below w.heap.size w (w.drewN k) := ⟨rfl, rfl, rfl, Nat.le_refl _, fun _ _ => rfl⟩
theorem cell_same {i : Nat} (h : w'.heap[b]? = w.heap[b]?) : w'.cell? ⟨b, i, none⟩ = w.cell? ⟨b, i, none⟩ := by
  unfold World.cell?
  simp only [h]
theorem TW.turn {S : List Nat} (h : TW w B off n cp xs) (ht : Turn S w w') (hn : B ∉ S) : TW w' B off n cp xs :=
  ⟨h.l, h.h0, h.h8, h.c, h.m, fun i x hx => by
    obtain ⟨b', o', e1, e2, e3⟩ := h.r i x hx
    injection e1 with e1
    injection e1 with e1 e4
    subst e1 e4
    exact ⟨_, _, rfl, Nat.lt_of_lt_of_le e2 ht.size, fun j u hu => by rw [cell_same (ht.block B e2 hn)]; exact e3 j u hu⟩, h.b⟩
/-- A clock in block b and its table, since W. -/
structure KS (W : World) (B off n cp : Nat) (xs : List Sl) (b : Nat) (c : Ck) (w : World) : Prop where
  hw : Below W.heap.size W w
  ht : TW w B off n cp xs
  hv : CV w b c
  hb : W.heap.size ≤ b
  ne : B ≠ b
theorem KS.below (h : KS W B off n cp xs b c w) (hb : Below w.heap.size w w') : KS W B off n cp xs b c w' := ⟨below_up h.hw hb, h.ht.below hb, h.hv.below hb, h.hb, h.ne⟩
theorem KS.step (h : KS W B off n cp xs b c w) (hb : Turn [b] w w') (hv : CV w' b c') : KS W B off n cp xs b c' w' :=
  ⟨below_turn h.hw hb (fun x hx => by simp at hx; subst hx; exact h.hb), h.ht.turn hb (by simp; exact h.ne), hv, h.hb, h.ne⟩
theorem KS.drew (h : KS W B off n cp xs b c w) : KS W B off n cp xs b c w.drew := h.below (Below.refl _ _).drew
/-- A clock that may be: of a table. -/
structure Kok (xs : List Sl) (c : Ck) : Prop where
  s : c.s < xs.length
  l : 1 ≤ c.l ∧ c.l ≤ tk xs c.s
theorem tk_le (h : TW w B off n cp xs) {i : Nat} (hi : i < n) : 1 ≤ tk xs i ∧ tk xs i ≤ 16 := by
  obtain ⟨cc, hx⟩ := tk_at (xs := xs) (i := i) (by rw [h.l]; exact hi)
  exact h.b ⟨cc, tk xs i⟩ (List.mem_of_getElem? hx)
theorem nxt_lt (h : TW w B off n cp xs) (s : Nat) : nxt xs s < n := by
  have := h.l; have := h.h0
  unfold nxt; split <;> omega
theorem Kok.tick (h : TW w B off n cp xs) (hk : Kok xs c) : Kok xs (tick xs c) := by
  unfold Go.Proofs.Ytjmdgmlpecjolaa.tick
  split
  · exact ⟨hk.s, by have := hk.l; show 1 ≤ c.l - 1 ∧ c.l - 1 ≤ tk xs c.s; omega⟩
  · exact ⟨by rw [h.l]; exact nxt_lt h _, (tk_le h (nxt_lt h _)).1, Int.le_refl _⟩
theorem KS.tick (h : KS W B off n cp xs b c w) (hk : Kok xs c) (hn : 0 ≤ c.n ∧ c.n ≤ 1000000) :
    Calls Try.prog 10 #[.pointer (some ⟨b, 0, none⟩), .slice (some ⟨B, off, none⟩) n cp] w fun e w' => e = .returned (.bool (decide (c.l ≤ 1))) ∧ KS W B off n cp xs b (tick xs c) w' ∧ Turn [b] w w' :=
  (tick_any h.hv h.ht h.ne (by have := hk.s; have := h.ht.l; have := h.ht.h8; omega) (by have := hk.l; have := tk_le h.ht (by rw [← h.ht.l]; exact hk.s); omega) hn).mono fun e w' ⟨h1, h2, h3⟩ => ⟨h1, h.step h2 h3, h2⟩
theorem KS.next (h : KS W B off n cp xs b c w) (hk : Kok xs c) (ht : 0 ≤ c.t c.s ∧ c.t c.s ≤ 1000000) :
    Calls Try.prog 11 #[.pointer (some ⟨b, 0, none⟩)] w fun e w' => e = .returned (.tuple #[]) ∧ KS W B off n cp xs b c.turn w' ∧ Turn [b] w w' :=
  (next_any h.hv (by have := hk.s; have := h.ht.l; have := h.ht.h8; omega) ht).mono fun e w' ⟨h1, h2, h3⟩ => ⟨h1, h.step h2 h3, h2⟩
theorem KS.new (h : TW w B off n cp xs) (hw : Below W.heap.size W w) : KS W B off n cp xs w.heap.size (ck0 x) (w.alloc (Obj.cells #[.int .i64 0, .int .i64 x, .int .u64 0, .int .u64 0, .int .u64 0, .int .u64 0, .int .u64 0, .int .u64 0, .int .u64 0, .int .u64 0, .int .u64 0] 29)) :=
  ⟨below_up hw (below_alloc1 _ _), h.below (below_alloc1 _ _), heap_alloc_new w _, hw.size, Nat.ne_of_lt h.lt⟩
theorem Kok.new (h : TW w B off n cp xs) : Kok xs (ck0 (tk xs 0)) := ⟨by rw [h.l]; exact h.h0, (tk_le h h.h0).1, Int.le_refl _⟩
theorem KS.tick_to {d : Bool} (h : KS W B off n cp xs b c w) (hk : Kok xs c) (hn : 0 ≤ c.n ∧ c.n ≤ 1000000) (hd : decide (c.l ≤ 1) = d) (hc : Go.Proofs.Ytjmdgmlpecjolaa.tick xs c = c') :
    Calls Try.prog 10 #[.pointer (some ⟨b, 0, none⟩), .slice (some ⟨B, off, none⟩) n cp] w fun e w' => e = .returned (.bool d) ∧ KS W B off n cp xs b c' w' ∧ Turn [b] w w' := by
  subst hd hc
  exact h.tick hk hn
theorem fit_any (w : World) : Calls Try.prog 7 #[] w fun e w' => e = .returned (.bool true) ∧ Below w.heap.size w w' := by
  have b1 := below_alloc1 w (Obj.cells #[.int .u64 0, .int .i64 1, .int .u64 0, .int .i64 2] 32)
  have h1 := heap_alloc_new w (Obj.cells #[.int .u64 0, .int .i64 1, .int .u64 0, .int .i64 2] 32)
  obtain ⟨w1, e1⟩ : ∃ w1, w.alloc (Obj.cells #[.int .u64 0, .int .i64 1, .int .u64 0, .int .i64 2] 32) = w1 := ⟨_, rfl⟩
  rw [e1] at b1 h1
  obtain ⟨B, eB⟩ : ∃ B, w.heap.size = B := ⟨_, rfl⟩
  rw [eB] at h1
  have T1 : TW w1 B 0 2 2 [⟨0, 1⟩, ⟨0, 2⟩] := ⟨rfl, by omega, by omega, by omega, by unfold maxLen; omega, fun i x hx => ⟨B, 0, rfl, (Array.getElem?_eq_some_iff.1 h1).1, fun j u hu => by
    rw [cell_of_row _ _ _ _ _ (0, 0) h1]
    match i with
    | 0 =>
      obtain rfl : (⟨0, 1⟩ : Sl) = x := by simpa using hx
      match j with
      | 0 | 1 => simpa [encS] using hu
      | j + 2 => simp [encS] at hu
    | 1 =>
      obtain rfl : (⟨0, 2⟩ : Sl) = x := by simpa using hx
      match j with
      | 0 | 1 => simpa [encS] using hu
      | j + 2 => simp [encS] at hu
    | i + 2 => simp at hx⟩, by simp⟩
  have H1 := Lib.hid (And.intro b1 T1)
  have C := Lib.hid (new_any T1)
  clear b1 h1 T1
  have HB := Lib.hid eB
  rw [show tk [⟨0, 1⟩, ⟨0, 2⟩] 0 = 1 from rfl] at C
  go_enter Try.func7, Try.ntmps7
  go_wp2_with fail
  refine C.out.mono ?_; rintro e w2 ⟨rfl, hb⟩
  have K := KS.new (x := 1) (H1.out.2.below hb) (below_up H1.out.1 hb)
  have k0 : Kok [⟨0, 1⟩, ⟨0, 2⟩] (ck0 1) := ⟨by decide, by decide⟩
  have H2 := Lib.hid (And.intro K k0)
  obtain ⟨w3, e3⟩ : ∃ w3, w2.alloc (Obj.cells #[.int .i64 0, .int .i64 1, .int .u64 0, .int .u64 0, .int .u64 0, .int .u64 0, .int .u64 0, .int .u64 0, .int .u64 0, .int .u64 0, .int .u64 0] 29) = w3 := ⟨_, rfl⟩
  obtain ⟨b, eb⟩ : ∃ b, w2.heap.size = b := ⟨_, rfl⟩
  rw [e3, eb] at H2
  have HE := Lib.hid (And.intro e3 eb)
  clear hb C K k0 H1 e3 eb
  go_wp2_with fail
  rw [HE.out.1, HE.out.2]
  refine (H2.out.1.tick_to H2.out.2 (by decide) (d := true) (c' := ⟨1, 2, 1, fun _ => 0⟩) rfl rfl).mono ?_; rintro e w4 ⟨rfl, hk, ht⟩
  have H3 := Lib.hid hk
  clear hk ht H2
  go_wp2_with fail
  refine (H3.out.tick_to ⟨by decide, by decide⟩ (by decide) (d := false) (c' := ⟨1, 1, 2, fun _ => 0⟩) rfl rfl).mono ?_; rintro e w5 ⟨rfl, hk, ht⟩
  have H4 := Lib.hid hk
  clear hk ht H3
  go_wp2_with fail
  refine (H4.out.tick_to ⟨by decide, by decide⟩ (by decide) (d := true) (c' := ⟨0, 1, 3, fun _ => 0⟩) rfl rfl).mono ?_; rintro e w6 ⟨rfl, hk, ht⟩
  have H5 := Lib.hid hk
  clear hk ht H4
  go_wp2_with fail
  refine (slot_any H5.out.hv).mono ?_; rintro e w7 ⟨rfl, rfl⟩
  go_wp2_with fail
  refine (now_any H5.out.hv).mono ?_; rintro e w8 ⟨rfl, rfl⟩
  go_wp2_with fail
  go_ret
  exact ⟨rfl, H5.out.hw⟩
end Go.Proofs.Ytjmdgmlpecjolaa
