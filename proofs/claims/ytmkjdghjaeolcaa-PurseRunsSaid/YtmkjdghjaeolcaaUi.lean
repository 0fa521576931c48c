/- Pages are moved in a family. -/
import Derived.Test.YtmkjdghjaeolcaaUh
import Derived.Test.YtmkjdghjaeolcaaUd
import Derived.BigRegion
import Derived.BigQuiet
import Derived.StillTailTactics
set_option linter.unusedVariables false
set_option linter.unusedSimpArgs false
namespace Go.Proofs.Ytmkjdghjaeolcaa
open Go.RowKit
set_option linter.unusedVariables false
set_option linter.unusedSimpArgs false
variable {W w w' : World} {F : Nat} {v1 v2 : Value} {ps : List Pu} {us : List Int} {b o c n i k : Nat} {p q : Pu} {x m : Int}
theorem below_dN (w : World) (n : Nat) : Below w.heap.size w (w.drewN n) := ⟨rfl, rfl, rfl, Nat.le_refl _, fun _ _ => rfl⟩
/-- A purse in a block of its own. -/
def PB (w : World) (A : Nat) (a : Pu) : Prop := w.heap[A]? = some (Obj.cells #[.int .i64 a.l, .int .i64 a.u, .int .i64 a.g] 26)
theorem PB.pv {A : Nat} {a : Pu} (h : PB w A a) : PV w A 0 a.l a.u a.g :=
  ⟨by rw [cell_of_row _ _ 0 _ _ _ h]; rfl, by rw [cell_of_row _ _ 1 _ _ _ h]; rfl, by rw [cell_of_row _ _ 2 _ _ _ h]; rfl, frozen_of_row _ _ _ _ _ h, frozen_of_row _ _ _ _ _ h, frozen_of_row _ _ _ _ _ h⟩
theorem PB.lt {A : Nat} {a : Pu} (h : PB w A a) : A < w.heap.size := (Array.getElem?_eq_some_iff.1 h).1
theorem PB.below {A : Nat} {a : Pu} (h : PB w A a) (hb : Below w.heap.size w w') : PB w' A a := (hb.block A h.lt).trans h
theorem PB.drew {A : Nat} {a : Pu} (h : PB w A a) : PB w.drew A a := h
theorem PB.new (w : World) (a : Pu) : PB (w.alloc (Obj.cells #[.int .i64 a.l, .int .i64 a.u, .int .i64 a.g] 26)) w.heap.size a := heap_alloc_new w _
theorem PB.other {A b i : Nat} {a : Pu} {v : Value} (h : PB w A a) (hb : Below w.heap.size (w.setCell ⟨b, i, none⟩ v) w') (hne : A ≠ b) : PB w' A a :=
  (hb.block A h.lt).trans ((heap_setCell_other _ _ _ _ hne).trans h)
theorem PB.put {A j : Nat} {a d : Pu} (h : PB w A a) (hj : j < 3) (hd : encP d = (encP a).set j (.int .i64 x)) (hb : Below w.heap.size (w.setCell ⟨A, j, none⟩ (.int .i64 x)) w') : PB w' A d := by
  have h1 := heap_setCell_same w A j _ 26 (.int .i64 x) h
  refine (hb.block A h.lt).trans (h1.trans ?_)
  unfold encP at hd
  match j with
  | 0 =>
    injection hd with e1 e2
    injection e2 with e2 e3
    injection e3 with e3 _
    rw [e1, e2, e3]; rfl
  | 1 =>
    injection hd with e1 e2
    injection e2 with e2 e3
    injection e3 with e3 _
    rw [e1, e2, e3]; rfl
  | 2 =>
    injection hd with e1 e2
    injection e2 with e2 e3
    injection e3 with e3 _
    rw [e1, e2, e3]; rfl
  | j + 3 => omega
/-- A purse beside the family is stored to. -/
theorem FS.side {A j : Nat} {a : Pu} {v : Value} (h : FS W F (.slice (some ⟨b, o, none⟩) n c) v2 ps us w) (ha : PB w A a) (hW : W.heap.size ≤ A) (hne : A ≠ b) (hb : Below w.heap.size (w.setCell ⟨A, j, none⟩ v) w') :
    FS W F (.slice (some ⟨b, o, none⟩) n c) v2 ps us w' := by
  have other : ∀ k, k ≠ A → k < w.heap.size → w'.heap[k]? = w.heap[k]? := fun k hk hl => (hb.block k hl).trans (heap_setCell_other _ _ _ _ hk)
  have hAF : F ≠ A := fun e => by
    have := h.f
    rw [e, ha] at this
    simp at this
  refine ⟨below_put h.b hW hb, h.l, (other F hAF h.lt).trans h.f, ?_, h.q.keep fun k cur' hk hck => ⟨hk, other k (fun e => ?_) (Array.getElem?_eq_some_iff.1 hck).1⟩⟩
  · rcases h.r with ⟨_, h⟩ | ⟨g, o', cap, cur, h1, h2, h3, h4⟩
    · cases h
    · have e : b = g := by
        injection h1 with e1
        injection e1 with e1
        injection e1 with e1
      exact .inr ⟨g, o', cap, cur, h1, h2, (other g (by rw [← e]; exact Ne.symm hne) (Array.getElem?_eq_some_iff.1 h3).1).trans h3, h4⟩
  · rw [e, ha] at hck
    simp at hck
/-- The family, what two were, and the call. -/
structure MS (W : World) (F : Nat) (b o n c : Nat) (v2 : Value) (ps : List Pu) (us : List Int) (A B C : Nat) (p q : Pu) (m : Int) (w : World) : Prop where
  fs : FS W F (.slice (some ⟨b, o, none⟩) n c) v2 ps us w
  pa : PB w A p
  pb : PB w B q
  pc : w.cell? ⟨C, 2, none⟩ = some (.int .i64 m)
  wa : W.heap.size ≤ A ∧ W.heap.size ≤ B
  ne : A ≠ B ∧ A ≠ b ∧ B ≠ b ∧ C ≠ A ∧ C ≠ B ∧ C ≠ b
section
variable {A B C : Nat} {p' q' : Pu}
theorem MS.below (h : MS W F b o n c v2 ps us A B C p q m w) (hb : Below w.heap.size w w') : MS W F b o n c v2 ps us A B C p q m w' :=
  ⟨h.fs.below hb, h.pa.below hb, h.pb.below hb, by rw [hb.cell (p := ⟨C, 2, none⟩) (World.block_lt_of_cell? w _ h.pc)]; exact h.pc, h.wa, h.ne⟩
theorem MS.drew (h : MS W F b o n c v2 ps us A B C p q m w) : MS W F b o n c v2 ps us A B C p q m w.drew := ⟨h.fs.drew, h.pa, h.pb, h.pc, h.wa, h.ne⟩
theorem cell_other {a' : Addr} {v v' : Value} {b' j : Nat} (h : w.cell? a' = some v) (hb : Below w.heap.size (w.setCell ⟨b', j, none⟩ v') w') (hne : a'.block ≠ b') : w'.cell? a' = some v := by
  rw [hb.cell (World.block_lt_of_cell? w _ h)]
  exact set_of _ _ h (fun e => hne (by rw [← e]))
theorem MS.put {j : Nat} (h : MS W F b o n c v2 ps us A B C p q m w) (hi : ps[i]? = some p') (hj : j < 3) (hq : encP q' = (encP p').set j (.int .i64 x)) (hb : Below w.heap.size (w.setCell ⟨b, o + i * 3 + j, none⟩ (.int .i64 x)) w') :
    MS W F b o n c v2 (ps.set i q') us A B C p q m w' :=
  ⟨h.fs.put hi hj hq hb, h.pa.other hb h.ne.2.1, h.pb.other hb h.ne.2.2.1, cell_other h.pc hb h.ne.2.2.2.2.2, h.wa, h.ne⟩
theorem MS.putA {j : Nat} (h : MS W F b o n c v2 ps us A B C p q m w) (hj : j < 3) (hq : encP p' = (encP p).set j (.int .i64 x)) (hb : Below w.heap.size (w.setCell ⟨A, j, none⟩ (.int .i64 x)) w') :
    MS W F b o n c v2 ps us A B C p' q m w' :=
  ⟨h.fs.side h.pa h.wa.1 h.ne.2.1 hb, h.pa.put hj hq hb, h.pb.other hb (Ne.symm h.ne.1), cell_other h.pc hb h.ne.2.2.2.1, h.wa, h.ne⟩
theorem MS.putB {j : Nat} (h : MS W F b o n c v2 ps us A B C p q m w) (hj : j < 3) (hq : encP q' = (encP q).set j (.int .i64 x)) (hb : Below w.heap.size (w.setCell ⟨B, j, none⟩ (.int .i64 x)) w') :
    MS W F b o n c v2 ps us A B C p q' m w' :=
  ⟨h.fs.side h.pb h.wa.2 h.ne.2.2.1 hb, h.pa.other hb h.ne.1, h.pb.put hj hq hb, cell_other h.pc hb h.ne.2.2.2.2.1, h.wa, h.ne⟩
/-- Both copies are made, in this order or the other one. -/
theorem MS.made (h : FS W F (.slice (some ⟨b, o, none⟩) n c) v2 ps us w) (hbl : b < w.heap.size) (hc : w.cell? ⟨C, 2, none⟩ = some (.int .i64 m)) (hC : C ≠ b) :
    MS W F b o n c v2 ps us w.heap.size (w.heap.size + 1) C p q m ((w.alloc (Obj.cells #[.int .i64 p.l, .int .i64 p.u, .int .i64 p.g] 26)).alloc (Obj.cells #[.int .i64 q.l, .int .i64 q.u, .int .i64 q.g] 26)).drew := by
  have b1 := below_alloc1 w (Obj.cells #[.int .i64 p.l, .int .i64 p.u, .int .i64 p.g] 26)
  have b2 := below_alloc1 (w.alloc (Obj.cells #[.int .i64 p.l, .int .i64 p.u, .int .i64 p.g] 26)) (Obj.cells #[.int .i64 q.l, .int .i64 q.u, .int .i64 q.g] 26)
  have n2 := PB.new (w.alloc (Obj.cells #[.int .i64 p.l, .int .i64 p.u, .int .i64 p.g] 26)) q
  rw [World.size_alloc] at n2
  have hcl' : C < w.heap.size := World.block_lt_of_cell? w _ hc
  refine ⟨((h.below b1).below b2).drew, ((PB.new w p).below b2).drew, n2.drew, ?_, ⟨h.b.size, Nat.le_succ_of_le h.b.size⟩, ⟨by omega, by omega, by omega, by omega, by omega, hC⟩⟩
  have h1 : (w.alloc (Obj.cells #[.int .i64 p.l, .int .i64 p.u, .int .i64 p.g] 26)).cell? ⟨C, 2, none⟩ = some (.int .i64 m) := by rw [b1.cell (p := ⟨C, 2, none⟩) hcl']; exact hc
  show World.cell? (World.alloc _ _) ⟨C, 2, none⟩ = _
  rw [b2.cell (p := ⟨C, 2, none⟩) (World.block_lt_of_cell? _ _ h1)]; exact h1
theorem MS.swap (h : MS W F b o n c v2 ps us A B C p q m w) : MS W F b o n c v2 ps us B A C q p m w :=
  ⟨h.fs, h.pb, h.pa, h.pc, ⟨h.wa.2, h.wa.1⟩, ⟨Ne.symm h.ne.1, h.ne.2.2.1, h.ne.2.1, h.ne.2.2.2.2.1, h.ne.2.2.2.1, h.ne.2.2.2.2.2⟩⟩
end
set_option maxRecDepth 100000 in
set_option maxHeartbeats 4000000 in
theorem fmove_any (kd at_ m : Int) (hm : -9223372036854775808 ≤ m ∧ m ≤ 9223372036854775807) (h : FS W F v1 v2 ps us w) (hf : Fam ps us) (hl : ps.length ≤ 1000) (hi : i < ps.length) :
    Calls Try.prog 12 #[.pointer (some ⟨F, 0, none⟩), .agg #[.int .i64 kd, .int .i64 at_, .int .i64 m], .int .i64 (i : Int)] w fun e w' => e = .returned (.bool true) ∧ ∃ ps', FS W F v1 v2 ps' us w' ∧ Fam ps' us ∧ ps'.length = ps.length := by
  obtain ⟨B, o, c, rfl, hc, hcm, hB, hBl⟩ := h.r.form hf.pos
  obtain ⟨A2, c2, rfl, hc2, hcm2, hlr⟩ := h.q.form
  have hcm' : c ≤ 9223372036854775807 := hcm
  have hcm2' : c2 ≤ 9223372036854775807 := hcm2
  obtain ⟨l, el⟩ : ∃ l, ps.length = l := ⟨_, rfl⟩
  have el2 : us.length = l := hf.len.symm.trans el
  obtain ⟨p, hp⟩ : ∃ p, ps[i]? = some p := ⟨_, List.getElem?_eq_getElem hi⟩
  have b1 := below_alloc1 w (Obj.cells #[.int .i64 kd, .int .i64 at_, .int .i64 m] 32)
  have n1 := heap_alloc_new w (Obj.cells #[.int .i64 kd, .int .i64 at_, .int .i64 m] 32)
  have hh := h.below b1
  rw [el, el2] at hh
  have H1 := Lib.hid (And.intro hh (And.intro hf (And.intro el (And.intro el2 (And.intro hp (And.intro (hlr.below b1) (And.intro n1 (And.intro hBl hm))))))))
  have s1 := h.lt
  have c0 := h.cells.1
  have c1 := h.cells.2.1
  rw [el] at c0 hc hl hi ⊢
  rw [el2] at c1 hc2 ⊢
  clear h hf hlr el el2 hB hBl hp b1 n1 hh
  go_enter Try.func12, Try.ntmps12
  go_wp2_with fail
  obtain ⟨W1, eW1⟩ : ∃ W1, w.alloc (Obj.cells #[.int .i64 kd, .int .i64 at_, .int .i64 m] 32) = W1 := ⟨_, rfl⟩
  obtain ⟨C, eC⟩ : ∃ C, w.heap.size = C := ⟨_, rfl⟩
  rw [eW1, eC] at H1
  rw [eW1, eC]
  clear eW1 eC c0 c1 s1
  obtain ⟨c0, c1, _, _⟩ := H1.out.1.cells
  go_loopg [18] l (fun gh ix wx => ∃ k : Nat, k ≤ l ∧ gh = l - k ∧ ix = .int .i64 k ∧ W1 = wx)
  case atStart => exact ⟨0, by omega, by omega, rfl, rfl⟩
  case round =>
    obtain ⟨k, hk, hg, rfl, rfl⟩ := hrel
    by_cases hlt : k < l
    · obtain ⟨u, hu⟩ : ∃ u, us[k]? = some u := ⟨_, List.getElem?_eq_getElem (by rw [H1.out.2.2.2.1]; exact hlt)⟩
      obtain ⟨q, hq⟩ : ∃ q, ps[k]? = some q := ⟨_, List.getElem?_eq_getElem (by rw [H1.out.2.2.1]; exact hlt)⟩
      obtain ⟨b2, o2, rfl, hb2, hcu⟩ := H1.out.2.2.2.2.2.1 k u hu
      unfold inI at hcu
      have i2 : IntKind.i64.wrap ((k : Int) + 1) = (k : Int) + 1 := by rw [IntKind.wrap_i64]; omega
      have l2 : (k : Int) < l := by omega
      have l3 : (i : Int) < l := by omega
      by_cases hui : u = (i : Int)
      · subst hui
        have HQ := Lib.hid (And.intro hu hq)
        clear hu hq hb2
        go_upto_region 5 with fail
        go_cut [9, 10] (fun va vb wr => ∃ A D wz, wz = wr ∧ va = .pointer (some ⟨A, 0, none⟩) ∧ vb = .pointer (some ⟨D, 0, none⟩) ∧ Hid (MS W F B o l c (.slice (some ⟨b2, o2, none⟩) l c2) ps us A D C p q m wz))
        case first =>
          obtain ⟨p0, p1, p2, _, _, _⟩ := H1.out.1.r.pv H1.out.2.2.2.2.1
          obtain ⟨q0, q1, q2, _, _, _⟩ := H1.out.1.r.pv HQ.out.2
          have s1 := H1.out.1.lt
          have s2 := (H1.out.1.r.pv HQ.out.2).lt
          have hcc : W1.cell? ⟨C, 2, none⟩ = some (.int .i64 m) := by rw [cell_of_row _ _ 2 _ _ _ H1.out.2.2.2.2.2.2.1]; rfl
          have hCB : C ≠ B := by have := H1.out.2.2.2.2.2.2.2.1; omega
          have M1 := Lib.hid (MS.made (p := p) (q := q) H1.out.1 s2 hcc hCB)
          have M2 := Lib.hid (MS.made (p := q) (q := p) H1.out.1 s2 hcc hCB).swap
          clear hcc hCB
          go_region
          all_goals (go_wp2_with fail; go_meet; first | exact ⟨_, _, _, rfl, rfl, rfl, M1⟩ | exact ⟨_, _, _, rfl, rfl, rfl, M2⟩)
        case rest =>
          obtain ⟨A, D, wz, rfl, rfl, rfl, HM⟩ := hcut
          clear c0 c1
          have hpo := (H1.out.2.1.ok i p H1.out.2.2.2.2.1).1
          have hqo := (H1.out.2.1.ok k q HQ.out.2).1
          have HO := Lib.hid (And.intro hpo hqo)
          have hik : i ≠ k := fun e => by have := (H1.out.2.1.up k _ HQ.out.1).2; omega
          have HIK := Lib.hid hik
          clear hpo hqo hik
          go_upto_region 6 with fail
          obtain ⟨W4, eW4⟩ : ∃ W4, ({ wz with drawn := wz.drawn + 1 } : World) = W4 := ⟨_, rfl⟩
          have H4 := Lib.hid (by rw [← eW4]; exact HM.out.drew : MS W F B o l c (.slice (some ⟨b2, o2, none⟩) l c2) ps us A D C p q m W4)
          clear HM
          obtain ⟨c0, _⟩ := H4.out.fs.cells
          have n2 := H4.out.pc
          refine wp_region_still_tail 14 (by kernel_rfl) (by kernel_rfl) ?_
          rw [eW4]
          simp only [List.take_succ_cons, List.take_zero, List.drop_succ_cons, List.drop_zero]
          clear eW4
          repeat still_step
          refine wpStill_nil ?_
          go_wp2_with fail
          have HMB := Lib.hid hm
          have hOL := (HO.out.1 : Ok p.l p.u p.g).left
          have hQL := (HO.out.2 : Ok q.l q.u q.g).left
          obtain ⟨s, es⟩ : ∃ s, p.l - p.u = s := ⟨_, rfl⟩
          obtain ⟨r, er⟩ : ∃ r, s - p.g = r := ⟨_, rfl⟩
          obtain ⟨s', es'⟩ : ∃ s', q.l - q.u = s' := ⟨_, rfl⟩
          obtain ⟨r', er'⟩ : ∃ r', s' - q.g = r' := ⟨_, rfl⟩
          have HE := Lib.hid (And.intro es (And.intro er (And.intro es' er')))
          rw [es, er] at hOL
          rw [es', er'] at hQL
          have x1 : RowKit.wrap64 (p.l - p.u) = s := by rw [es]; exact hOL.1
          have x2 : RowKit.wrap64 (s - p.g) = r := by rw [er]; exact hOL.2
          have x3 : RowKit.wrap64 (q.l - q.u) = s' := by rw [es']; exact hQL.1
          have x4 : RowKit.wrap64 (s' - q.g) = r' := by rw [er']; exact hQL.2
          clear hOL hQL es er es' er' hm c0 n2
          have HPI := Lib.hid (H4.out.fs.r.pv H1.out.2.2.2.2.1)
          have HPK := Lib.hid (H4.out.fs.r.pv HQ.out.2)
          by_cases h0 : m = -9223372036854775808
          · have et : Hid (mv p.l p.u p.g q.l q.u q.g m = 11) := Lib.hid (by unfold mv; rw [if_pos h0])
            have CC := Lib.hid (move_bad m HMB.out HO.out.1 HO.out.2 HPI.out HPK.out (by rw [et.out]; omega))
            rw [et.out] at CC
            refine CC.out.mono ?_; rintro e w5 ⟨rfl, hb⟩
            have H5 := Lib.hid (H4.out.below hb)
            have n2 := H5.out.pc
            clear et CC hb H4 HPI HPK
            subst h0
            obtain ⟨a0, a1, a2, _, _, _⟩ := H5.out.pa.pv
            obtain ⟨p0, p1, p2, _, _, _⟩ := (show PV _ B (o + i * 3) p.l p.u p.g from H5.out.fs.r.pv H1.out.2.2.2.2.1)
            obtain ⟨q0, q1, q2, _, _, _⟩ := (show PV _ B (o + k * 3) q.l q.u q.g from H5.out.fs.r.pv HQ.out.2)
            obtain ⟨a0, a1, a2, _, _, _⟩ := H5.out.pa.pv
            obtain ⟨d0, d1, d2, _, _, _⟩ := H5.out.pb.pv
            obtain ⟨c0, _⟩ := H5.out.fs.cells
            have FIN := Lib.hid (And.intro H5.out.fs (And.intro H1.out.2.1 H1.out.2.2.1))
            clear H5
            go_upto_region 13 with fail
            go_quiet (fail)
            go_wp2_with fail
            go_ret
            exact ⟨by simp, _, FIN.out.1.below (below_dN _ _), FIN.out.2.1, FIN.out.2.2⟩
          have h0' : (m == -9223372036854775808) = false := by simpa using h0
          by_cases hmv : mv p.l p.u p.g q.l q.u q.g m = 0
          · have hsum := mv_sum HO.out.1 HO.out.2 hmv
            have CC := Lib.hid (move_ok m HO.out.1 HO.out.2 HPI.out HPK.out (fun _ => by have := HIK.out; omega) hmv)
            have HG := Lib.hid (H1.out.2.1.moved (n := m) H1.out.2.2.2.2.1 HQ.out.2 HQ.out.1 (by omega) (by omega))
            have hlen : Hid (((ps.set i ⟨p.l, p.u, p.g + m⟩).set k ⟨q.l + m, q.u, q.g⟩).length = l) := Lib.hid (by rw [List.length_set, List.length_set]; exact H1.out.2.2.1)
            have hki : Hid (((ps.set i ⟨p.l, p.u, p.g + m⟩).set k ⟨q.l + m, q.u, q.g⟩)[i]? = some ⟨p.l, p.u, p.g + m⟩) := Lib.hid (by
              rw [List.getElem?_set, if_neg (Ne.symm HIK.out), List.getElem?_set, if_pos rfl, if_pos (List.getElem?_eq_some_iff.1 H1.out.2.2.2.2.1).1])
            have hkk : Hid (((ps.set i ⟨p.l, p.u, p.g + m⟩).set k ⟨q.l + m, q.u, q.g⟩)[k]? = some ⟨q.l + m, q.u, q.g⟩) := Lib.hid (by
              rw [List.getElem?_set, if_pos rfl, if_pos (by rw [List.length_set]; exact (List.getElem?_eq_some_iff.1 HQ.out.2).1)])
            refine CC.out.mono ?_; rintro e w5 ⟨rfl, hb⟩
            have H5 := Lib.hid ((H4.out.put (j := 2) (q' := ⟨p.l, p.u, p.g + m⟩) (x := p.g + m) H1.out.2.2.2.2.1 (by omega) rfl (Below.refl _ _)).put (j := 0) (i := k) (p' := q) (q' := ⟨q.l + m, q.u, q.g⟩) (x := q.l + m) (by rw [List.getElem?_set, if_neg HIK.out]; exact HQ.out.2) (by omega) rfl (by rw [World.size_setCell]; exact hb))
            have n2 := H5.out.pc
            obtain ⟨mm, em⟩ : ∃ mm, -m = mm := ⟨_, rfl⟩
            have x5 : RowKit.wrap64 (-m) = mm := by rw [← em]; exact hsum.2.2.1
            have he := HE.out
            have h1 : ¬ m > r := by omega
            have h1' : ¬ r < m := by omega
            have h2 : ¬ mm > r' := by omega
            have h2' : ¬ r' < mm := by omega
            have HX := Lib.hid (And.intro hsum.1 hsum.2.1)
            obtain ⟨a0, a1, a2, fa0, fa1, fa2⟩ := H5.out.pa.pv
            obtain ⟨d0, d1, d2, fd0, fd1, fd2⟩ := H5.out.pb.pv
            clear CC hb H4 HPI HPK hmv hsum he em
            go_upto_region 8 with fail
            have y1 : RowKit.wrap64 (p.g + m) = p.g + m := HX.out.1
            have y2 : RowKit.wrap64 (q.l + m) = q.l + m := HX.out.2
            have hne1 := H5.out.ne.1
            have hne2 : D ≠ A := Ne.symm hne1
            have hne3 := H5.out.ne.2.2.2.1
            have hne4 := H5.out.ne.2.2.2.2.1
            have h6 : MS W F B o l c (.slice (some ⟨b2, o2, none⟩) l c2) ((ps.set i ⟨p.l, p.u, p.g + m⟩).set k ⟨q.l + m, q.u, q.g⟩) us A D C ⟨p.l, p.u, p.g + m⟩ ⟨q.l + m, q.u, q.g⟩ m ((w5.setCell ⟨A, 2, none⟩ (.int .i64 (p.g + m))).setCell ⟨D, 0, none⟩ (.int .i64 (q.l + m))).drew :=
              ((H5.out.putA (j := 2) (p' := ⟨p.l, p.u, p.g + m⟩) (x := p.g + m) (by omega) rfl (Below.refl _ _)).putB (j := 0) (q' := ⟨q.l + m, q.u, q.g⟩) (x := q.l + m) (by omega) rfl (Below.refl _ _)).drew
            have H6 := Lib.hid h6
            clear h6
            go_region
            obtain ⟨wz, ewz⟩ : ∃ wz, ((w5.setCell ⟨A, 2, none⟩ (.int .i64 (p.g + m))).setCell ⟨D, 0, none⟩ (.int .i64 (q.l + m))).drew = wz := ⟨_, rfl⟩
            rw [ewz] at H6 ⊢
            clear ewz H5 a0 a1 a2 fa0 fa1 fa2 d0 d1 d2 fd0 fd1 fd2 n2 y1 y2 hne1 hne2 hne3 hne4
            obtain ⟨p0, p1, p2, _, _, _⟩ := (show PV _ B (o + i * 3) p.l p.u (p.g + m) from H6.out.fs.r.pv hki.out)
            obtain ⟨q0, q1, q2, _, _, _⟩ := (show PV _ B (o + k * 3) (q.l + m) q.u q.g from H6.out.fs.r.pv hkk.out)
            obtain ⟨a0, a1, a2, _, _, _⟩ := (show PV _ A 0 p.l p.u (p.g + m) from H6.out.pa.pv)
            obtain ⟨d0, d1, d2, _, _, _⟩ := (show PV _ D 0 (q.l + m) q.u q.g from H6.out.pb.pv)
            obtain ⟨c0, _⟩ := H6.out.fs.cells
            have FIN := Lib.hid (And.intro H6.out.fs (And.intro HG.out.2 hlen.out))
            clear H6
            go_upto_region 13 with fail
            go_quiet (fail)
            go_wp2_with fail
            go_ret
            exact ⟨by simp, _, FIN.out.1.below (below_dN _ _), FIN.out.2.1, FIN.out.2.2⟩
          · have et : Hid (mv p.l p.u p.g q.l q.u q.g m = 5 ∧ (r < m ∨ r' < -m)) := Lib.hid (by
              have he := HE.out
              unfold mv at hmv ⊢
              rw [if_neg h0] at hmv ⊢
              by_cases h1 : p.l - p.u - p.g < m ∨ q.l - q.u - q.g < -m
              · rw [if_pos h1]; exact ⟨rfl, by omega⟩
              · rw [if_neg h1] at hmv; exact absurd rfl hmv)
            have CC := Lib.hid (move_bad m HMB.out HO.out.1 HO.out.2 HPI.out HPK.out hmv)
            rw [et.out.1] at CC
            refine CC.out.mono ?_; rintro e w5 ⟨rfl, hb⟩
            have H5 := Lib.hid (H4.out.below hb)
            have n2 := H5.out.pc
            clear CC hb H4 HPI HPK hmv
            obtain ⟨a0, a1, a2, _, _, _⟩ := H5.out.pa.pv
            obtain ⟨mm, em⟩ : ∃ mm, -m = mm := ⟨_, rfl⟩
            have x5 : RowKit.wrap64 (-m) = mm := by have := HMB.out; unfold RowKit.wrap64; omega
            have hor := et.out.2
            rw [em] at hor
            clear em et
            by_cases h1 : m > r
            · have h1' : r < m := h1
              clear hor
              obtain ⟨p0, p1, p2, _, _, _⟩ := (show PV _ B (o + i * 3) p.l p.u p.g from H5.out.fs.r.pv H1.out.2.2.2.2.1)
              obtain ⟨q0, q1, q2, _, _, _⟩ := (show PV _ B (o + k * 3) q.l q.u q.g from H5.out.fs.r.pv HQ.out.2)
              obtain ⟨a0, a1, a2, _, _, _⟩ := H5.out.pa.pv
              obtain ⟨d0, d1, d2, _, _, _⟩ := H5.out.pb.pv
              obtain ⟨c0, _⟩ := H5.out.fs.cells
              have FIN := Lib.hid (And.intro H5.out.fs (And.intro H1.out.2.1 H1.out.2.2.1))
              clear H5
              go_upto_region 13 with fail
              go_quiet (fail)
              go_wp2_with fail
              go_ret
              exact ⟨by simp, _, FIN.out.1.below (below_dN _ _), FIN.out.2.1, FIN.out.2.2⟩
            · have h2 : mm > r' := by omega
              have h2' : r' < mm := h2
              have h1' : ¬ r < m := h1
              obtain ⟨d0, d1, d2, _, _, _⟩ := H5.out.pb.pv
              clear hor
              obtain ⟨p0, p1, p2, _, _, _⟩ := (show PV _ B (o + i * 3) p.l p.u p.g from H5.out.fs.r.pv H1.out.2.2.2.2.1)
              obtain ⟨q0, q1, q2, _, _, _⟩ := (show PV _ B (o + k * 3) q.l q.u q.g from H5.out.fs.r.pv HQ.out.2)
              obtain ⟨a0, a1, a2, _, _, _⟩ := H5.out.pa.pv
              obtain ⟨d0, d1, d2, _, _, _⟩ := H5.out.pb.pv
              obtain ⟨c0, _⟩ := H5.out.fs.cells
              have FIN := Lib.hid (And.intro H5.out.fs (And.intro H1.out.2.1 H1.out.2.2.1))
              clear H5
              go_upto_region 13 with fail
              go_quiet (fail)
              go_wp2_with fail
              go_ret
              exact ⟨by simp, _, FIN.out.1.below (below_dN _ _), FIN.out.2.1, FIN.out.2.2⟩
      · clear hu hq hb2
        go_wp2_with fail
        go_roundg (l - (k + 1))
        case rel => exact ⟨k + 1, by omega, rfl, by simp, rfl⟩
        case measure => first | omega | (simp; omega)
    · obtain rfl : k = l := by omega
      go_wp2_with fail
      go_ret
      exact ⟨rfl, ps, H1.out.1, H1.out.2.1, H1.out.2.2.1⟩
end Go.Proofs.Ytmkjdghjaeolcaa
