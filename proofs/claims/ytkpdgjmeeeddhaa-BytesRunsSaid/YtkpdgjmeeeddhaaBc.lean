/- The parts of a range of a segment. -/
import Derived.Test.YtkpdgjmeeeddhaaBb
set_option linter.unusedVariables false
set_option linter.unusedSimpArgs false
namespace Go.Proofs.Ytkpdgjmeeeddhaa
open Go.RowKit
set_option linter.unusedVariables false
set_option linter.unusedSimpArgs false
variable {w w' w2 : World} {b o R c : Nat} {v P : Value} {fs S os : List Nat} {ds : List (List Nat)}
theorem parts_nil (off n : Int) (w : World) : Calls Try.prog 24 #[.pointer none, P, .int .i64 off, .int .i64 n] w fun e w' => e = .returned (.tuple #[.slice none 0 0, .bool false]) ∧ w = w' := by
  go_enter Try.func24, Try.ntmps24
  go_wp2_with fail
  go_ret2
  exact ⟨rfl, rfl⟩
theorem parts_no {off n : Int} (h : SV w b o v fs) (hn1 : -9223372036854775808 ≤ n) (hn2 : n ≤ 9223372036854775807) (hn : ¬ (0 ≤ off ∧ 0 ≤ n ∧ off + n ≤ (64 * fs.length : Nat))) :
    Calls Try.prog 24 #[.pointer (some ⟨b, o, none⟩), P, .int .i64 off, .int .i64 n] w fun e w' => e = .returned (.tuple #[.slice none 0 0, .bool false]) ∧ w = w' := by
  have C := Lib.hid (size_any h)
  have hl := h.l
  obtain ⟨m, em⟩ : ∃ m, 64 * fs.length = m := ⟨_, rfl⟩
  rw [em] at C hn
  have hm : m ≤ 262144 := by omega
  clear h hl em
  by_cases h0 : off < 0
  · clear hn
    go_enter Try.func24, Try.ntmps24
    go_wp2_with fail
    go_ret2
    exact ⟨rfl, rfl⟩
  · by_cases h1 : n < 0
    · clear hn
      go_enter Try.func24, Try.ntmps24
      go_wp2_with fail
      go_ret2
      exact ⟨rfl, rfl⟩
    · have t2 : RowKit.wrap64 ((m : Int) - n) < off := by unfold RowKit.wrap64; omega
      have t3 : (m : Int) - n < off := by omega
      clear hn
      go_enter Try.func24, Try.ntmps24
      go_wp2_with fail
      refine C.out.mono ?_
      rintro e w1 ⟨rfl, rfl⟩
      go_wp2_with fail
      go_ret2
      exact ⟨rfl, rfl⟩
theorem pt_arith {off n : Nat} (h1 : off ≤ 262144) (h2 : n ≤ 262144) (h3 : 0 < n) : ∃ d a l z off2 n2 : Nat, off / 64 = d ∧ off % 64 = a ∧ min n (64 - a) = l ∧ off + l = off2 ∧ n - l = n2 ∧ a < 64 ∧ 1 ≤ l ∧ l ≤ n ∧
    (off : Int).tdiv 64 = (d : Int) ∧ RowKit.wrap64 (d : Int) = (d : Int) ∧ (off : Int).tmod 64 = (a : Int) ∧ RowKit.wrap64 ((64 : Int) - (a : Int)) = (z : Int) ∧ min (n : Int) (z : Int) = (l : Int) ∧ RowKit.wrap64 ((off : Int) + (l : Int)) = (off2 : Int) ∧ RowKit.wrap64 ((n : Int) - (l : Int)) = (n2 : Int) ∧ (0 : Int) < n := by
  have ha : off % 64 < 64 := Nat.mod_lt _ (by omega)
  refine ⟨_, _, _, 64 - off % 64, _, _, rfl, rfl, rfl, rfl, rfl, ha, ?_, Nat.min_le_left _ _, ?_, ?_, ?_, ?_, ?_, ?_, ?_, ?_⟩
  · omega
  · rw [Int.tdiv_eq_ediv_of_nonneg (by omega)]; rfl
  · unfold RowKit.wrap64; omega
  · rw [Int.tmod_eq_emod_of_nonneg (by omega)]; rfl
  · unfold RowKit.wrap64; omega
  · omega
  · unfold RowKit.wrap64; omega
  · unfold RowKit.wrap64; omega
  · omega
/-- Parts, in memory of their own. -/
def PT (W : World) (ps : List Sg.Pt) (e : Ending) (w' : World) : Prop := ∃ v, e = .returned (.tuple #[v, .bool true]) ∧ PR (fun k => W.heap.size ≤ k) w' v ps ∧ Below W.heap.size W w'
set_option maxHeartbeats 1000000 in
theorem parts_yes {off n : Nat} (h : SV w b o v fs) (hp : Pl w R S os ds) (hf : ∀ f ∈ fs, 1 ≤ f ∧ ∃ p : Nat, p ≠ 0 ∧ os[f - 1]? = some p) (hn : off + n ≤ 64 * fs.length) :
    Calls Try.prog 24 #[.pointer (some ⟨b, o, none⟩), .pointer (some ⟨R, 0, none⟩), .int .i64 (off : Int), .int .i64 (n : Int)] w (PT w (Sg.prts fs off n)) := by
  have C := Lib.hid (size_any h)
  have CF := Lib.hid (fun (W : World) (hb : Below w.heap.size w W) (k f : Nat) (hk : fs[k]? = some f) => frame_in (h.below hb) hk)
  have CO := Lib.hid (fun (W : World) (hb : Below w.heap.size w W) (f : Nat) (h1 : f ≤ 4097) => owner_any (f : Int) W (hp.below hb) (by omega) (by omega))
  have HF := Lib.hid hf
  have hl := h.l
  have hol := hp.len.2.2.1
  have HO := Lib.hid hol
  obtain ⟨m, em⟩ : ∃ m, 64 * fs.length = m := ⟨_, rfl⟩
  rw [em] at C hn
  have HM := Lib.hid em
  have hm : m ≤ 262144 := by omega
  have t1 : decide ((n : Int) < 0) = false := by rw [decide_eq_false_iff_not]; omega
  have t2 : decide (RowKit.wrap64 ((m : Int) - n) < off) = false := by unfold RowKit.wrap64; rw [decide_eq_false_iff_not]; omega
  have t0 : decide ((off : Int) < 0) = false := by rw [decide_eq_false_iff_not]; omega
  have HQ := Lib.hid hn
  have hoff : off ≤ 262144 := by omega
  have hnn : n ≤ 262144 := by omega
  have HM2 := Lib.hid hm
  clear h hp hf hol em hl hn hm
  go_enter Try.func24, Try.ntmps24
  go_wp2_with fail
  refine C.out.mono ?_
  rintro e w1 ⟨rfl, rfl⟩
  go_wp2_with fail
  clear C t0 t1 t2
  go_loopg [2, 3, 10] n (fun g x2 x3 x10 wr => ∃ off' n' : Nat, g = n' ∧ x2 = .int .i64 off' ∧ x3 = .int .i64 n' ∧ Hid (off' + n' = off + n) ∧ Hid (∃ done, Sg.prts fs off n = done ++ Sg.prts fs off' n' ∧ PR (fun k => w.heap.size ≤ k) wr x10 done ∧ Below w.heap.size w wr))
  case atStart => exact ⟨off, n, rfl, rfl, rfl, Lib.hid rfl, Lib.hid ⟨[], rfl, RV.nil _ _, Below.refl _ _⟩⟩
  case round =>
    obtain ⟨off', n', hg, rfl, rfl, hsum, hI⟩ := hrel
    obtain ⟨done, hd, hr, hb⟩ := hI.out
    by_cases h0 : n' = 0
    · subst h0
      rw [Sg.prts_zero, List.append_nil] at hd
      have HE := Lib.hid (And.intro hd (And.intro hr hb))
      clear hI hd hr hb
      go_wp2_with fail
      go_ret2
      exact ⟨_, rfl, by rw [HE.out.1]; exact HE.out.2.1, HE.out.2.2⟩
    · have hs := hsum.out
      have hq := HQ.out
      have hm1 := HM.out
      have hm := HM2.out
      have hj : off' / 64 < fs.length := by omega
      obtain ⟨f, hfk⟩ : ∃ f, fs[off' / 64]? = some f := ⟨_, List.getElem?_eq_getElem hj⟩
      have hgd : fs.getD (off' / 64) 0 = f := by rw [List.getD_eq_getElem?_getD, hfk]; rfl
      obtain ⟨hf1, p, hp0, hfp⟩ := HF.out f (List.mem_of_getElem? hfk)
      have hfl : f ≤ 4097 := by have := (List.getElem?_eq_some_iff.1 hfp).1; have := HO.out; omega
      have hown : Fr.own os (f : Int) = p := by
        unfold Fr.own
        have hlt := (List.getElem?_eq_some_iff.1 hfp).1
        rw [if_pos (by omega), Int.toNat_natCast, List.getD_eq_getElem?_getD, hfp]; rfl
      have hps := Sg.prts_more (fs := fs) (off := off') (n := n') (by omega)
      have hpl := Sg.prts_len2 fs n off
      rw [hd, hps, List.length_append, List.length_cons] at hpl
      have hdl : done.length + 1 ≤ 100000 := by
        have : off % 64 < 64 := Nat.mod_lt _ (by omega)
        omega
      clear hpl
      have k8 : ((p : Int) == 0) = false := by simpa using hp0
      have k9 : ¬ (p : Int) = 0 := by omega
      rw [hps, hgd] at hd
      have C1 := Lib.hid (CF.out wr hb _ _ hfk)
      have C2 := Lib.hid (CO.out wr hb f hfl)
      rw [hown] at C2
      obtain ⟨d, a, l, z, off2, n2, ed, ea, el, eo, en2, ha64, hl1, hln, k1, k1', k2, k3, k4, k5, k6, k7⟩ := pt_arith (off := off') (n := n') (by omega) (by omega) (by omega)
      rw [ea, el, eo, en2] at hd
      rw [ed] at C1
      have HZ := Lib.hid (And.intro eo (And.intro en2 (And.intro hl1 hln)))
      have hb1 := hb.alloc (Nat.le_trans hb.size (Nat.le_refl _)) (Obj.cells #[.int .i64 (f : Int), .int .i64 (a : Int), .int .i64 (l : Int)] 63)
      have hr0 : PR (fun k => w.heap.size ≤ k ∧ k < wr.heap.size) wr _ done := hr.keep fun x cur hx hc => ⟨⟨hx, (Array.getElem?_eq_some_iff.1 hc).1⟩, rfl⟩
      have hr1 := hr0.below (below_alloc1 wr (Obj.cells #[.int .i64 (f : Int), .int .i64 (a : Int), .int .i64 (l : Int)] 63))
      obtain ⟨va', W5, hrun, hr5, S5, hT, hS⟩ := append_p (p := ⟨f, a, l⟩) 59 hr1 hdl
      simp only [World.size_alloc] at hrun
      have HN := Lib.hid (show Below w.heap.size w W5 ∧ PR (fun k => w.heap.size ≤ k) W5 va' (done ++ [⟨f, a, l⟩]) from ⟨hb1.trans (hT.below hb1.size (fun x hx => (hS x hx).1.1)), hr5.keep fun x cur hx _ => ⟨by rcases hx with hx | hx; exact hx.1; exact Nat.le_trans hb1.size hx, rfl⟩⟩)
      have hcb : W5.heap[wr.heap.size]? = some (Obj.cells #[.int .i64 (f : Int), .int .i64 (a : Int), .int .i64 (l : Int)] 63) := by
        rw [hT.block wr.heap.size (by simp) (fun hm => by have := (hS _ hm).1.2; omega)]; exact heap_alloc_new wr _
      have c2 : W5.cell? ⟨wr.heap.size, 2, none⟩ = some (.int .i64 (l : Int)) := by rw [cell_of_row _ _ 2 _ 63 (0, 0) hcb]; rfl
      have HD := Lib.hid hd
      have HRUN := Lib.hid hrun
      clear CF CO hI hd hr hb hs hq hm1 hm hj hfk hgd hf1 hfp hown hps hdl ed ea el eo en2 ha64 hl1 hln hb1 hr0 hr1 hcb hrun hr5 hT hS h0 hp0
      have hmin := @min2 Try.prog
      go_wp2_with fail
      refine C1.out.mono ?_
      rintro e w1 ⟨rfl, rfl⟩
      go_wp2_with fail
      refine C2.out.mono ?_
      rintro e w1 ⟨rfl, rfl⟩
      clear C1 C2
      go_wp2_with (at_builtin; refine wpList_append_by rfl (.tmp 51) (.tmp 53) _ _ rfl _ _ _ rfl rfl W5 HRUN.out ?_)
      go_roundg n2
      case rel => exact ⟨off2, n2, rfl, by rw [k5], by rw [k6], Lib.hid (by have := hsum.out; have := HZ.out; omega), Lib.hid ⟨done ++ [⟨f, a, l⟩], by rw [HD.out, List.append_assoc]; rfl, HN.out.2, HN.out.1⟩⟩
      case measure => have := HZ.out; omega
end Go.Proofs.Ytkpdgjmeeeddhaa
