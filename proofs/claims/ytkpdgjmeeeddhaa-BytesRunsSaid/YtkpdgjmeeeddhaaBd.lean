/- Bytes of a segment are read. -/
import Derived.Test.YtkpdgjmeeeddhaaBc
import Derived.Test.YtkpdgjmeeeddhaaGb
set_option linter.unusedVariables false
set_option linter.unusedSimpArgs false
namespace Go.Proofs.Ytkpdgjmeeeddhaa
open Go.RowKit
set_option linter.unusedVariables false
set_option linter.unusedSimpArgs false
variable {w w' w2 : World} {b o R c : Nat} {v P : Value} {fs S os : List Nat} {ds : List (List Nat)}
def encB (x : Nat) : Value := .int .u8 (x : Int)
theorem encB_one (x : Nat) : (encB x).oneCell' = true := rfl
/-- Bytes in a row of one's own. -/
def BW (own : Nat → Prop) (w : World) (v : Value) (bs : List Nat) : Prop := RW own 5 encB w v bs
theorem BW.form {own : Nat → Prop} {bs : List Nat} (h : BW own w v bs) : ∃ A c, v = .slice A bs.length c ∧ bs.length ≤ c ∧ c ≤ maxLen ∧ BR w A bs ∧ (A = none → c = 0) ∧ ∀ a, A = some a → own a.block ∧ ∃ cur, w.heap[a.block]? = some (Obj.cells cur 5) := by
  obtain ⟨A, c, e, h1, h2, h3⟩ := RW.form h
  refine ⟨A, c, e, h1, h2, h3, ?_, ?_⟩
  · rcases h with ⟨_, rfl⟩ | ⟨g, o, cap, cur, rfl, _⟩
    · injection e with e1 e2 e3
      intro _; exact e3.symm
    · injection e with e1 e2 e3
      intro e; rw [e] at e1; cases e1
  · rcases h with ⟨_, rfl⟩ | ⟨g, o, cap, cur, rfl, k1, k2, _⟩
    · injection e with e1 e2 e3
      intro a e; rw [e] at e1; cases e1
    · injection e with e1 e2 e3
      intro a e; rw [e] at e1; injection e1 with e1; subst e1
      exact ⟨k1, cur, k2⟩
theorem BW.below {own : Nat → Prop} {bs : List Nat} (h : BW own w v bs) (hb : Below w.heap.size w w') : BW own w' v bs := RW.keep h fun k cur ho hc => ⟨ho, hb.block k (Array.getElem?_eq_some_iff.1 hc).1⟩
theorem append_b {own : Nat → Prop} {xs ys : List Nat} (ty : TypeId) (h : BW own w v xs) (hl : xs.length + ys.length ≤ 100000) (A2 : Option Addr) (c2 : Nat) (hr : BR w A2 ys) :
    ∃ v' w', (Builtin.append_ #[30, 30] ty #[v, .slice A2 ys.length c2]).run Try.prog w = .ok v' w' ∧ BW (fun b => own b ∨ w.heap.size ≤ b) w' v' (xs ++ ys) ∧ ∃ S, Turn S w w' ∧ ∀ b ∈ S, own b ∧ ∃ cur, w.heap[b]? = some (Obj.cells cur 5) := by
  obtain ⟨i0, hi, hz0, hz1, hz2⟩ := info_parts info5
  exact append_rw (enc := encB) 30 ty i0 (.int .u8 0) 1 Try.underlying30 hi hz0 hz1 hz2 (by omega) rfl encB_one h hl A2 c2 hr
/-- Room for bytes. -/
theorem make_b (w : World) (n : Nat) (h : n ≤ 100000) : ∃ W, (Instr.makeSlice 30 (.int .i64 0) (.int .i64 (n : Int))).run Try.prog w = .ok (.slice (some ⟨w.heap.size, 0, none⟩) 0 n) W ∧ BW (fun k => w.heap.size ≤ k) W (.slice (some ⟨w.heap.size, 0, none⟩) 0 n) [] ∧ Below w.heap.size w W := by
  obtain ⟨i0, hi, hz0, hz1, hz2⟩ := info_parts info5
  have := run_make (P := Try.prog) w 30 5 i0 (.int .u8 0) Try.underlying30 hi hz0 .i64 .i64 0 n (by omega) (by omega) (by rw [hz2]; omega) (by omega)
  refine ⟨_, by simpa using this, ?_, below_alloc1 _ _⟩
  refine .inr ⟨w.heap.size, 0, n, _, rfl, Nat.le_refl _, heap_alloc_new w _, ?_, Nat.zero_le _, by unfold maxLen; omega, fun i x hi => by simp at hi⟩
  rw [hz1]; simp [madeCells, Value.cells]
/-- Frames that somebody has. -/
def Live (os fs : List Nat) : Prop := ∀ f ∈ fs, 1 ≤ f ∧ ∃ p : Nat, p ≠ 0 ∧ os[f - 1]? = some p
theorem Live.lt (h : Live os fs) : ∀ f ∈ fs, 1 ≤ f ∧ f - 1 < os.length := fun f hf => ⟨(h f hf).1, by obtain ⟨_, p, _, h2⟩ := h f hf; exact (List.getElem?_eq_some_iff.1 h2).1⟩
theorem _root_.Sg.Own.live {o : Nat} (h : Sg.Own os o fs) : Live os fs := fun f hf => ⟨(h.own f hf).1, o, by have := h.pos; omega, (h.own f hf).2⟩
theorem Pl.dw (h : Pl w R S os ds) : Sg.DW os ds := by
  obtain ⟨B, cs, rfl, _, _, _, _, f1, f2, f3, f4⟩ := h
  refine ⟨f2, fun d hd => ?_⟩
  obtain ⟨i, hi⟩ := List.mem_iff_getElem?.1 hd
  exact ⟨(f4 i d hi).1, (f4 i d hi).2.1⟩
theorem may_pt {p : Sg.Pt} (hl : Live os fs) (hp : Sg.Fine os fs p) : Fr.may os (p.f : Int) (p.a : Int) (p.l : Int) = true := by
  obtain ⟨h1, q, h2, h3⟩ := hl p.f hp.1
  have h4 := (List.getElem?_eq_some_iff.1 h3).1
  unfold Fr.may Fr.own
  rw [decide_eq_true_iff, if_pos (by omega), Int.toNat_natCast, List.getD_eq_getElem?_getD, h3]
  exact ⟨h2, by omega, by omega, by have := hp.2.2.2.2; omega⟩
/-- A part is read. -/
theorem pr_any {p : Sg.Pt} (h : Pl w R S os ds) (hl : Live os fs) (hp : Sg.Fine os fs p) : Calls Try.prog 25 #[.pointer (some ⟨R, 0, none⟩), .int .i64 (p.f : Int), .int .i64 (p.a : Int), .int .i64 (p.l : Int)] w fun e w' => ∃ A c, e = .returned (.slice A p.l c) ∧ BR w' A (Sg.rd ds p) ∧ Below w.heap.size w w' := by
  have m := may_pt hl hp
  have h5 := h.len.2.2.1
  have h6 := hp.2.2
  refine (pread_any (p.f : Int) p.a p.l w h (by omega) (by omega) (by omega) (by omega) (by omega) (by omega)).mono fun e w' ⟨A, c, he, hr, hb⟩ => ⟨A, c, ?_, ?_, hb⟩
  · rw [he, if_pos m, Int.toNat_natCast]
  · have := hr m
    unfold Fr.get at this
    rw [Int.toNat_natCast, Int.toNat_natCast, Int.toNat_natCast] at this
    exact this
theorem flat_take {α β : Type} {f : α → List β} {ps : List α} {j : Nat} {p : α} (hp : ps[j]? = some p) : (ps.take (j + 1)).flatMap f = (ps.take j).flatMap f ++ f p := by
  rw [List.take_add_one, hp, List.flatMap_append]; simp
theorem flat_le {α β : Type} {f : α → List β} {ps : List α} {j : Nat} {p : α} (hp : ps[j]? = some p) : ((ps.take j).flatMap f).length + (f p).length ≤ (ps.flatMap f).length := by
  rw [← List.length_append, ← flat_take hp]
  have h1 : ps.flatMap f = (ps.take (j + 1)).flatMap f ++ (ps.drop (j + 1)).flatMap f := by rw [← List.flatMap_append, List.take_append_drop]
  rw [h1, List.length_append]
  exact Nat.le_add_right _ _
theorem read_nil (off n : Int) (w : World) : Calls Try.prog 11 #[.pointer none, P, .int .i64 off, .int .i64 n] w fun e w' => e = .returned (.tuple #[.slice none 0 0, .bool false]) ∧ w = w' := by
  have C := Lib.hid (parts_nil (P := P) off n w)
  go_enter Try.func11, Try.ntmps11
  go_wp2_with fail
  refine C.out.mono ?_
  rintro e w1 ⟨rfl, rfl⟩
  go_wp2_with fail
  go_ret2
  exact ⟨rfl, rfl⟩
theorem read_out {off n : Int} (h : SV w b o v fs) (hn1 : -9223372036854775808 ≤ n) (hn2 : n ≤ 9223372036854775807) (hn : ¬ (0 ≤ off ∧ 0 ≤ n ∧ off + n ≤ (64 * fs.length : Nat))) :
    Calls Try.prog 11 #[.pointer (some ⟨b, o, none⟩), P, .int .i64 off, .int .i64 n] w fun e w' => e = .returned (.tuple #[.slice none 0 0, .bool false]) ∧ w = w' := by
  have C := Lib.hid (parts_no (P := P) h hn1 hn2 hn)
  clear hn
  go_enter Try.func11, Try.ntmps11
  go_wp2_with fail
  refine C.out.mono ?_
  rintro e w1 ⟨rfl, rfl⟩
  go_wp2_with fail
  go_ret2
  exact ⟨rfl, rfl⟩
/-- What was read. -/
def RD (W : World) (bs : List Nat) (e : Ending) (w' : World) : Prop := ∃ v, e = .returned (.tuple #[v, .bool true]) ∧ BW (fun k => W.heap.size ≤ k) w' v bs ∧ Below W.heap.size W w'
set_option maxHeartbeats 1000000 in
theorem read_in {off n : Nat} (h : SV w b o v fs) (hp : Pl w R S os ds) (hf : Live os fs) (hn : off + n ≤ 64 * fs.length) :
    Calls Try.prog 11 #[.pointer (some ⟨b, o, none⟩), .pointer (some ⟨R, 0, none⟩), .int .i64 (off : Int), .int .i64 (n : Int)] w (RD w (((Sg.cont ds fs).drop off).take n)) := by
  have C := Lib.hid (parts_yes h hp hf hn)
  have hl := h.l
  have hrd := Sg.rd_prts hp.dw (fun f hm => (hf.lt f hm).2) n off hn
  have hfine := Sg.prts_fine hf.lt n off hn
  have HPL := Lib.hid hp
  have HFI := Lib.hid hfine
  have HRD := Lib.hid hrd
  have HF := Lib.hid hf
  have HN := Lib.hid (show n ≤ 1024 from by omega)
  have hcl := Sg.cont_len hp.dw (fun f hm => (hf.lt f hm).2)
  have HLEN := Lib.hid (show (((Sg.cont ds fs).drop off).take n).length = n from by rw [List.length_take, List.length_drop]; omega)
  obtain ⟨bs, ebs⟩ : ∃ bs, ((Sg.cont ds fs).drop off).take n = bs := ⟨_, rfl⟩
  rw [ebs] at HRD HLEN ⊢
  have hpl := Sg.prts_len2 fs n off
  obtain ⟨ps, eps⟩ : ∃ ps, Sg.prts fs off n = ps := ⟨_, rfl⟩
  rw [eps] at C HFI HRD hpl
  have HPL2 := Lib.hid (show ps.length ≤ 1000 from by have : off % 64 < 64 := Nat.mod_lt _ (by omega); omega)
  clear h hp hf hn hl hrd hfine hcl ebs hpl eps
  go_enter Try.func11, Try.ntmps11
  go_wp2_with fail
  refine C.out.mono ?_
  rintro e w1 ⟨v1, rfl, hr, hb⟩
  obtain ⟨W2, hmk, hbw, hb2⟩ := make_b w1 n (by have := HN.out; omega)
  obtain ⟨A, c, rfl, hc1, hc2, _⟩ := RV.form hr
  obtain ⟨m, em⟩ : ∃ m, ps.length = m := ⟨_, rfl⟩
  rw [em] at hr hc1 ⊢
  have hmk2 := hmk
  have H1 := Lib.hid (And.intro hr (And.intro hb (And.intro hbw (And.intro hb2 em))))
  clear C hr hb hbw hb2 em hmk hc1 hc2
  go_wp2_with fail
  obtain ⟨q0, eq0⟩ : ∃ q0, w1.heap.size = q0 := ⟨_, rfl⟩
  rw [eq0]
  go_loopg [12, 29] m (fun g x12 i wr => ∃ j : Nat, j ≤ m ∧ g = m - j ∧ i = .int .i64 j ∧ Hid (BW (fun k => w1.heap.size ≤ k) wr x12 ((ps.take j).flatMap (Sg.rd ds)) ∧ Below w1.heap.size w1 wr))
  case atStart => exact ⟨0, Nat.zero_le _, rfl, rfl, Lib.hid ⟨by rw [← eq0]; exact H1.out.2.2.1, H1.out.2.2.2.1⟩⟩
  case round =>
    obtain ⟨j, hj, hg, rfl, hI⟩ := hrel
    by_cases hlt : j < m
    · have l1 : (j : Int) < (m : Int) := Int.ofNat_lt.2 hlt
      have i1 : RowKit.wrap64 ((j : Int) + 1) = (j : Int) + 1 := by have := HPL2.out; have := H1.out.2.2.2.2; unfold RowKit.wrap64; omega
      obtain ⟨hbw, hb⟩ := hI.out
      obtain ⟨hr, hbw1, _, _, em⟩ := H1.out
      obtain ⟨p, hp⟩ : ∃ p, ps[j]? = some p := ⟨_, List.getElem?_eq_getElem (by omega)⟩
      obtain ⟨g0, o0, c0', e0, hc1, hc2, _, cur, hcur, q0', q1', q2'⟩ := hr.at_ hp
      injection e0 with e1 e2 e3
      subst e1 e2 e3
      have hcell : ∀ (i : Nat) (u : Value), cur[i]? = some u → wr.cell? ⟨g0, i, none⟩ = some u := fun i u hu => by
        rw [hb.cell (p := ⟨g0, i, none⟩) (Array.getElem?_eq_some_iff.1 hcur).1, cell_of_row _ _ _ _ _ (0, 0) hcur]; exact hu
      have x0 := hcell _ _ q0'
      have x1 := hcell _ _ q1'
      have x2 := hcell _ _ q2'
      have hfi := HFI.out p (List.mem_of_getElem? hp)
      have ba := below_alloc1 wr (Obj.cells #[.int .i64 (p.f : Int), .int .i64 (p.a : Int), .int .i64 (p.l : Int)] 63)
      have hbw0 : Below w.heap.size w wr := hbw1.trans (hb.mono hbw1.size)
      have CR := Lib.hid (pr_any (HPL.out.below (hbw0.trans (ba.mono hbw0.size))) HF.out hfi)
      have htk := flat_take (f := Sg.rd ds) hp
      have hln := flat_le (f := Sg.rd ds) hp
      rw [HRD.out, HLEN.out] at hln
      have hln := Nat.le_trans hln HN.out
      have hrl := Sg.rd_len HPL.out.dw hfi
      obtain ⟨⟨pf, pa, pl⟩, ep⟩ : ∃ q, p = q := ⟨_, rfl⟩
      subst ep
      simp only [] at x0 x1 x2 CR hrl ba
      have HH := Lib.hid (And.intro hbw (And.intro hb (And.intro htk (And.intro hln (And.intro hrl ba)))))
      clear hI hbw hb hr hbw1 hp hcur q0' q1' q2' hcell hfi ba hbw0 htk hln hrl
      go_wp2_with fail
      refine CR.out.mono ?_
      rintro e w3 ⟨A3, c3, rfl, hr3, hb3⟩
      obtain ⟨hbw, hb, htk, hln, hrl, ba⟩ := HH.out
      have hb4 : Below wr.heap.size wr w3 := ba.trans (hb3.mono ba.size)
      obtain ⟨v5, W5, hrun, hbw5, S5, hT, hS⟩ := append_b (ys := Sg.rd ds ⟨pf, pa, pl⟩) 30 (hbw.below hb4) (Nat.le_trans hln (by decide)) A3 c3 hr3
      rw [hrl] at hrun
      have HRUN := Lib.hid hrun
      have hb5 : Below w1.heap.size w1 w3 := hb.trans (hb4.mono hb.size)
      have H5 : Hid (BW (fun k => w1.heap.size ≤ k) W5 v5 ((ps.take (j + 1)).flatMap (Sg.rd ds)) ∧ Below w1.heap.size w1 W5) := Lib.hid ⟨by
        rw [htk]
        exact RW.keep hbw5 fun k cur hk _ => ⟨hk.elim id fun h => Nat.le_trans hb5.size h, rfl⟩, hb5.trans (hT.below hb5.size fun x hx => (hS x hx).1)⟩
      have hjm : j + 1 ≤ ps.length := hlt
      clear HH hr3 hb3 hbw hb htk hln hrl ba hb4 hrun hbw5 hT hS hb5 CR hlt
      go_wp2_with (at_builtin; refine wpList_append_by rfl (.tmp 33) (.tmp 41) _ _ rfl _ _ _ rfl rfl W5 HRUN.out ?_)
      go_roundg (ps.length - (j + 1))
      case rel => exact ⟨j + 1, hjm, rfl, by rw [i1]; rfl, H5⟩
      case measure => omega
    · obtain rfl : j = m := by omega
      obtain ⟨hbw, hb⟩ := hI.out
      obtain ⟨hr, hbw1, _, _, em⟩ := H1.out
      rw [List.take_of_length_le (by omega), HRD.out] at hbw
      have HE := Lib.hid (And.intro hbw (And.intro hb hbw1))
      clear hI hbw hb hr hbw1 em
      go_wp2_with fail
      go_ret2
      exact ⟨_, rfl, RW.keep HE.out.1 fun k cur hk _ => ⟨Nat.le_trans HE.out.2.2.size hk, rfl⟩, HE.out.2.2.trans (HE.out.2.1.mono HE.out.2.2.size)⟩
end Go.Proofs.Ytkpdgjmeeeddhaa
