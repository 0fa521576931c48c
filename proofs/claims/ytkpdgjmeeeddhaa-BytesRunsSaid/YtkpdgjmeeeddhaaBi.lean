/- A pool of a law's own, and segments in it: each call as one step. -/
import Derived.Test.YtkpdgjmeeeddhaaBh
set_option linter.unusedVariables false
set_option linter.unusedSimpArgs false
namespace Go.Proofs.Ytkpdgjmeeeddhaa
open Go.RowKit
set_option linter.unusedVariables false
set_option linter.unusedSimpArgs false
variable {W w w' w1 w2 : World} {b o R c x b2 o2 : Nat} {v v2 P : Value} {fs fs2 S os os' bs : List Nat} {ds ds' : List (List Nat)} {A : Option Addr}
/-- Since W: a pool. -/
def LW (W : World) (R : Nat) (os : List Nat) (ds : List (List Nat)) (w : World) : Prop := Below W.heap.size W w ∧ ∃ S, Pl w R S os ds ∧ ∀ y ∈ S, W.heap.size ≤ y
theorem LW.below (h : LW W R os ds w) (hb : Below w.heap.size w w') : LW W R os ds w' := by
  obtain ⟨h1, S, h2, h3⟩ := h
  exact ⟨h1.trans (hb.mono h1.size), S, h2.below hb, h3⟩
theorem LW.plt (h : LW W R os ds w) (hS : ∀ y ∈ S, W.heap.size ≤ y) (hp : PlT w R S os' ds' w') : LW W R os' ds' w' := by
  obtain ⟨h1, _⟩ := h
  obtain ⟨S2, p, t, s⟩ := hp
  exact ⟨h1.trans (t.below h1.size hS), S2, p, fun y hy => (s y hy).elim (hS y) (fun h => Nat.le_trans h1.size h)⟩
theorem LW.dw (h : LW W R os ds w) : Sg.DW os ds := by
  obtain ⟨_, S, h2, _⟩ := h; exact h2.dw
/-- All but pools and one block is as it was. -/
structure Kb (b : Nat) (w w' : World) : Prop where
  size : w.heap.size ≤ w'.heap.size
  block : ∀ (k : Nat) (cs : Array Value) (t : TypeId), w.heap[k]? = some (Obj.cells cs t) → t ≠ 56 → t ≠ 68 → k ≠ b → w'.heap[k]? = w.heap[k]?
theorem Kp.kb (h : Kp w w') : Kb b w w' := ⟨h.size, fun k cs t hk h1 h2 _ => h.block k cs t hk h1 h2⟩
theorem new_lw (n : Nat) (h1 : 1 ≤ n) (h2 : n ≤ 4096) (hb : Below W.heap.size W w) : Calls Try.prog 9 #[.int .i64 (n : Int)] w fun e w' => ∃ R ds, e = .returned (.pointer (some ⟨R, 0, none⟩)) ∧ LW W R (List.replicate n 0) ds w' ∧ Below w.heap.size w w' :=
  (pnew_any n w h1 h2).mono fun e w' ⟨R, S, he, ⟨ds, hp⟩, hw, hS⟩ => ⟨R, ds, he, ⟨hb.trans (hw.mono hb.size), S, hp, fun y hy => Nat.le_trans hb.size (hS y hy)⟩, hw⟩
/-- A new segment. -/
theorem SV.new (w : World) : SV (w.alloc (Obj.cells #[.slice none 0 0] 37)) w.heap.size 0 (.slice none 0 0) [] :=
  ⟨by rw [cell_of_row _ _ 0 _ _ _ (heap_alloc_new w _)]; rfl, ⟨_, heap_alloc_new w _⟩, .inl ⟨rfl, rfl⟩, Nat.zero_le _⟩
theorem own_none (n x : Nat) (h : 0 < x) : Sg.Own (List.replicate n 0) x [] := ⟨h, by simp, by simp, by rw [List.count_replicate, if_neg (by simp; omega)]; rfl⟩
/-- Another segment stays. -/
theorem RZ.other {n : Nat} (h : RZ w b o R S os ds x fs n w') (hp : Pl w R S os ds) (h1 : SV w b o v fs) (h2 : SV w b2 o2 v2 fs2) (hne : b2 ≠ b ∨ o2 ≠ o) : SV w' b2 o2 v2 fs2 := by
  obtain ⟨v', os', ds', fs', _, _, _, _, _, hplt, _⟩ := h
  obtain ⟨cs, hb⟩ := h1.h
  obtain ⟨cs2, hb2⟩ := h2.h
  have hrow : RW (fun _ => True) 3 encI w' v2 fs2 := RW.keep h2.r fun k cur _ hk => ⟨trivial, Kp.plt (cs := cs) hplt hp hk (by decide) (by decide) fun e => by rw [e, hb] at hk; simp at hk⟩
  by_cases e : b2 = b
  · subst e
    have hne2 : o2 ≠ o := by rcases hne with h | h; exact absurd rfl h; exact h
    obtain ⟨S2, p, t, s⟩ := hplt
    have e2 := (t.block b2 (by simpa using h1.lt) (Pl.not_mem hp hb (by decide) (by decide))).trans (heap_setCell_same w b2 o cs 37 v' hb)
    refine ⟨?_, ⟨_, e2⟩, hrow, h2.l⟩
    have := h2.c
    rw [cell_of_row _ _ _ _ _ (0, 0) hb] at this
    rw [cell_of_row _ _ _ _ _ (0, 0) e2]
    rw [Array.getElem?_setIfInBounds_ne (by omega)]; exact this
  · have e2 := Kp.plt (cs := cs) hplt hp hb2 (by decide) (by decide) e
    exact ⟨by rw [World.cell?_of_block (w := w) e2]; exact h2.c, ⟨cs2, e2.trans hb2⟩, hrow, h2.l⟩
/-- It is made longer or shorter. -/
def RZd (W w : World) (b o R x : Nat) (os : List Nat) (ds : List (List Nat)) (fs : List Nat) (n : Nat) (w' : World) : Prop :=
  ∃ v' os' ds' fs', LW W R os' ds' w' ∧ SV w' b o v' fs' ∧ Sg.Own os' x fs' ∧ fs'.length = n ∧ (∀ i, i < n → i < fs.length → fs'[i]? = fs[i]?) ∧ Sg.cont ds' fs' = Sg.rsz (Sg.cont ds fs) n ∧ Sg.Oth x os ds os' ds' ∧ Kb b w w' ∧ (∀ b2 o2 v2 fs2, SV w b2 o2 v2 fs2 → (b2 ≠ b ∨ o2 ≠ o) → SV w' b2 o2 v2 fs2)
theorem resize_st {n : Nat} (hL : LW W R os ds w) (h : SV w b o v fs) (ho : Sg.Own os x fs) (hb : W.heap.size ≤ b) (hx : x < 18446744073709551616) (hn : n ≤ 16) (hq : n ≤ fs.length + os.count 0) :
    Calls Try.prog 16 #[.pointer (some ⟨b, o, none⟩), .pointer (some ⟨R, 0, none⟩), .int .u64 (x : Int), .int .i64 (n : Int)] w fun e w' => e = .returned (.bool true) ∧ RZd W w b o R x os ds fs n w' := by
  obtain ⟨hbl, S, hp, hS⟩ := hL
  refine (resize_in h hp ho hx hn hq).mono fun e w' ⟨he, hz⟩ => ⟨he, ?_⟩
  have hother := fun b2 o2 v2 fs2 (h2 : SV w b2 o2 v2 fs2) hne => RZ.other hz hp h h2 hne
  obtain ⟨v', os', ds', fs', z1, z2, z3, z4, z5, z6, z7⟩ := hz
  obtain ⟨cs, hbc⟩ := h.h
  have hoc : o < cs.size := by
    have := h.c
    rw [cell_of_row _ _ _ _ _ (0, 0) hbc] at this
    exact (Array.getElem?_eq_some_iff.1 this).1
  obtain ⟨y1, y2, y3⟩ := plt_cell z6 hp hbc hoc
  have hkb : ∀ (k : Nat) (cs : Array Value) (t : TypeId), w.heap[k]? = some (Obj.cells cs t) → t ≠ 56 → t ≠ 68 → k ≠ b → w'.heap[k]? = w.heap[k]? := fun k cs t hk h1 h2 hne => Kp.plt (cs := cs) z6 hp hk h1 h2 hne
  obtain ⟨S2, p, t, s⟩ := z6
  have hsz : w.heap.size ≤ w'.heap.size := by have := t.size; simpa using this
  have hbel : Below W.heap.size (w.setCell ⟨b, o, none⟩ v') w' := t.below (by simpa using hbl.size) hS
  refine ⟨v', os', ds', fs', ⟨(hbl.setCell (p := ⟨b, o, none⟩) hb v').trans hbel, S2, p, fun y hy => (s y hy).elim (hS y) (fun h => by have := hbl.size; simp at h; omega)⟩, ⟨y1, y3, z7, by omega⟩, z1, z2, z3, z4, z5, ⟨hsz, hkb⟩, hother⟩
/-- Some bytes are others. -/
def WRd (W w : World) (R x : Nat) (os : List Nat) (ds : List (List Nat)) (fs : List Nat) (off : Nat) (bs : List Nat) (w' : World) : Prop :=
  ∃ ds', LW W R os ds' w' ∧ Kp w w' ∧ Sg.cont ds' fs = Fr.lay (Sg.cont ds fs) off bs ∧ Sg.Oth x os ds os ds'
theorem wrd_of {off n : Nat} (hL : LW W R os ds w) (hp : Pl w R S os ds) (hS : ∀ y ∈ S, W.heap.size ≤ y) (ho : Sg.Own os x fs) (hn : off + n ≤ 64 * fs.length) (hl : bs.length = n) (hb : ∀ y ∈ bs, y < 256) (h : PlT w R S os (Sg.wr ds (Sg.prts fs off n) bs) w') : WRd W w R x os ds fs off bs w' := by
  obtain ⟨h1, h2, h3⟩ := Sg.wr_prts ho n off ds bs hp.dw hn hl hb
  exact ⟨_, hL.plt hS h, PlT.kp hp h, h2, h3⟩
theorem put_st {off k y : Nat} (hL : LW W R os ds w) (h : SV w b o v fs) (ho : Sg.Own os x fs) (hn : off + k ≤ 64 * fs.length) (h1 : 1 ≤ k) (h8 : k ≤ 8) (hy : y < 18446744073709551616) :
    Calls Try.prog 19 #[.pointer (some ⟨b, o, none⟩), .pointer (some ⟨R, 0, none⟩), .int .i64 (off : Int), .int .i64 (k : Int), .int .u64 (y : Int)] w fun e w' => e = .returned (.bool true) ∧ WRd W w R x os ds fs off (Pk.enc k y) w' := by
  obtain ⟨hbl, S, hp, hS⟩ := hL
  exact (put_in h hp ho.live hn h1 h8 hy).mono fun e w' ⟨he, hw⟩ => ⟨he, wrd_of ⟨hbl, S, hp, hS⟩ hp hS ho hn (Pk.enc_len k y) (enc_byte k y) hw⟩
theorem bwrite_st {off n : Nat} (hL : LW W R os ds w) (h : SV w b o v fs) (ho : Sg.Own os x fs) (hn : off + n ≤ 64 * fs.length) (hbl : bs.length = n) (hc : n ≤ c) (hr : BR w A bs) (hs : ∀ a, A = some a → 0 < n → a.block < W.heap.size) (hx : ∀ x ∈ bs, x < 256) :
    Calls Try.prog 21 #[.pointer (some ⟨b, o, none⟩), .pointer (some ⟨R, 0, none⟩), .int .i64 (off : Int), .slice A n c] w fun e w' => e = .returned (.bool true) ∧ WRd W w R x os ds fs off bs w' := by
  obtain ⟨hw, S, hp, hS⟩ := hL
  exact (write_in h hp ho.live hn hbl hc hr (fun a ha h0 hm => by have := hs a ha h0; have := hS _ hm; omega) hx).mono fun e w' ⟨he, hz⟩ => ⟨he, wrd_of ⟨hw, S, hp, hS⟩ hp hS ho hn hbl hx hz⟩
theorem copy_st {off at_ n : Nat} (hL : LW W R os ds w) (h : SV w b o v fs) (h2 : SV w b2 o2 v2 fs2) (ho : Sg.Own os x fs) (hf2 : Live os fs2) (hn : off + n ≤ 64 * fs.length) (hn2 : at_ + n ≤ 64 * fs2.length) :
    Calls Try.prog 23 #[.pointer (some ⟨b, o, none⟩), .pointer (some ⟨R, 0, none⟩), .int .i64 (off : Int), .pointer (some ⟨b2, o2, none⟩), .int .i64 (at_ : Int), .int .i64 (n : Int)] w fun e w' => e = .returned (.bool true) ∧ WRd W w R x os ds fs off (((Sg.cont ds fs2).drop at_).take n) w' := by
  obtain ⟨hw, S, hp, hS⟩ := hL
  have hcl := Sg.cont_len hp.dw (fun f hm => (hf2.lt f hm).2)
  exact (copy_in h h2 hp ho.live hf2 hn hn2).mono fun e w' ⟨he, hz⟩ => ⟨he, wrd_of ⟨hw, S, hp, hS⟩ hp hS ho hn (by rw [List.length_take, List.length_drop]; omega) (fun y hy => Sg.cont_byte hp.dw y (List.mem_of_mem_drop (List.mem_of_mem_take hy))) hz⟩
theorem left_lw (hL : LW W R os ds w) : Calls Try.prog 15 #[.pointer (some ⟨R, 0, none⟩)] w fun e w' => e = .returned (.int .i64 (os.count 0 : Nat)) ∧ w = w' := by
  obtain ⟨_, S, hp, _⟩ := hL; exact left_any w hp
theorem count_lw (hL : LW W R os ds w) (h : 0 < x) : Calls Try.prog 14 #[.pointer (some ⟨R, 0, none⟩), .int .u64 (x : Int)] w fun e w' => e = .returned (.int .i64 (os.count x : Nat)) ∧ w = w' := by
  obtain ⟨_, S, hp, _⟩ := hL
  have := count_any x w hp
  rw [if_neg (by omega)] at this
  exact this
theorem read_lw {off n : Nat} (hL : LW W R os ds w) (h : SV w b o v fs) (ho : Sg.Own os x fs) (hn : off + n ≤ 64 * fs.length) :
    Calls Try.prog 11 #[.pointer (some ⟨b, o, none⟩), .pointer (some ⟨R, 0, none⟩), .int .i64 (off : Int), .int .i64 (n : Int)] w (RD w (((Sg.cont ds fs).drop off).take n)) := by
  obtain ⟨_, S, hp, _⟩ := hL; exact read_in h hp ho.live hn
set_option maxHeartbeats 1000000 in
theorem fit_any (w : World) : Calls Try.prog 7 #[] w fun e w' => e = .returned (.bool true) ∧ Below w.heap.size w w' := by
  have CN := Lib.hid (new_lw (W := w) (w := w) 4 (by omega) (by omega) (Below.refl _ _))
  go_enter Try.func7, Try.ntmps7
  go_wp2_with fail
  refine CN.out.mono ?_
  rintro e w1 ⟨R, ds, rfl, hL, hb⟩
  have hL1 := hL.below (below_alloc1 w1 (Obj.cells #[.slice none 0 0] 37))
  have hs1 := SV.new w1
  have CR := Lib.hid (resize_st (n := 1) hL1 hs1 (own_none 4 1 (by omega)) hb.size (by omega) (by omega) (by simp))
  clear CN hL hb hL1 hs1
  go_wp2_with fail
  refine CR.out.mono ?_
  rintro e w2 ⟨rfl, v', os', ds', fs', hL, hs, ho, hl, hg, hcont, hoth, hkb, hoo⟩
  have hfree : os'.count 0 = 3 := by
    have h1 := hoth.sum
    have h2 := ho.cnt
    rw [List.count_replicate, if_pos (by simp), List.count_replicate, if_neg (by simp)] at h1
    omega
  have CP := Lib.hid (put_no (P := .pointer (some ⟨R, 0, none⟩)) (x := 1) (off := 60) (k := 8) hs (by omega) (by rw [hl]; omega))
  have H2 := Lib.hid (And.intro hL (And.intro hs (And.intro ho (And.intro hl hfree))))
  obtain ⟨q0, eq0⟩ : ∃ q0, w1.heap.size = q0 := ⟨_, rfl⟩
  rw [eq0] at CP H2 ⊢
  clear CR hL hs ho hl hg hcont hoth hkb hoo hfree eq0
  go_wp2_with fail
  refine CP.out.mono ?_
  rintro e w3 ⟨rfl, hb3⟩
  obtain ⟨hL, hs, ho, hl, hfree⟩ := H2.out
  have CQ := Lib.hid (put_st (off := 56) (k := 8) (y := 258) (hL.below hb3) (hs.below hb3) ho (by rw [hl]; omega) (by omega) (by omega) (by omega))
  have H3 := Lib.hid (hs.below hb3)
  clear CP hb3 hL hs ho hl hfree
  go_wp2_with fail
  refine CQ.out.mono ?_
  rintro e w4 ⟨rfl, ds4, hL, hk, _, _⟩
  obtain ⟨_, hs, ho, hl, hfree⟩ := H2.out
  have CS := size_any (H3.out.kp hk)
  rw [hl] at CS
  have CL := left_lw hL
  rw [hfree] at CL
  have CS := Lib.hid CS
  have CL := Lib.hid CL
  have HB := Lib.hid hL.1
  clear CQ H2 H3 hL hk hs ho hl hfree
  go_wp2_with fail
  refine CS.out.mono ?_
  rintro e w5 ⟨rfl, rfl⟩
  go_wp2_with fail
  refine CL.out.mono ?_
  rintro e w5 ⟨rfl, rfl⟩
  go_wp2_with fail
  go_ret
  exact ⟨rfl, HB.out⟩
end Go.Proofs.Ytkpdgjmeeeddhaa
