import Derived.Test.YtjmfjehjlnghmaaLc
import Derived.Test.YtjmfjehjlnghmaaRo
namespace Pk
theorem labs_take {ls : List Lb} {j : Nat} {l : Lb} (h : ls[j]? = some l) : labs (ls.take (j + 1)) = labs (ls.take j) ++ lab l.1 l.2 := by
  rw [List.take_add_one, h]; exact labs_snoc _ _
theorem labs_take_len (ls : List Lb) (j : Nat) : (labs (ls.take j)).length ≤ (labs ls).length := by
  conv => rhs; rw [← List.take_append_drop j ls]
  unfold labs
  rw [List.flatMap_append, List.length_append]; omega
end Pk
namespace Go.Proofs.Ytjmfjehjlnghmaa
open Go.RowKit
set_option linter.unusedVariables false
set_option linter.unusedSimpArgs false

/-- A slice of labels, as it is read. -/
def LR (w : World) (A : Option Addr) (ls : List Pk.Lb) : Prop := ∀ (i : Nat) (D : Int) (ps : List (Nat × Int)), ls[i]? = some (D, ps) → ∃ g a n c, A = some ⟨g, 0, none⟩ ∧ g < w.heap.size ∧ w.cell? ⟨g, i * 2, none⟩ = some (.int .i64 D) ∧ w.cell? ⟨g, i * 2 + 1, none⟩ = some (.slice a n c) ∧ RC w.heap.size w (.slice a n c) ps
theorem LR.below {w w' : World} {A : Option Addr} {ls : List Pk.Lb} (h : LR w A ls) (hb : Below w.heap.size w w') : LR w' A ls := fun i D ps hi => by
  obtain ⟨g, a, n, c, h1, h2, h3, h4, h5⟩ := h i D ps hi
  exact ⟨g, a, n, c, h1, Nat.lt_of_lt_of_le h2 hb.size, by rw [hb.cell (p := ⟨g, _, none⟩) h2]; exact h3, by rw [hb.cell (p := ⟨g, _, none⟩) h2]; exact h4, (h5.below hb).mono hb.size⟩
theorem LS.form {X : Nat} {w : World} {v : Value} {ls : List Pk.Lb} (h : LS X w v ls) (hps : ∀ l ∈ ls, l.2.length ≤ 1000) : ∃ A c, v = .slice A ls.length c ∧ LR w A ls := by
  obtain ⟨ts, h1, h2, h3⟩ := h
  have hf : ∃ A c, v = .slice A ls.length c ∧ (0 < ls.length → ∃ g, A = some ⟨g, 0, none⟩ ∧ g < w.heap.size) := by
    rcases h2.2 with ⟨rfl, hl⟩ | ⟨g, cap, cur, rfl, hb, hg, hc, _⟩
    · rw [hl]; exact ⟨_, _, rfl, fun h => by omega⟩
    · exact ⟨_, _, rfl, fun _ => ⟨g, rfl, (Array.getElem?_eq_some_iff.1 hg).1⟩⟩
  obtain ⟨A, c, rfl, hA⟩ := hf
  refine ⟨A, c, rfl, fun i D ps hi => ?_⟩
  obtain ⟨g, rfl, hg⟩ := hA (by have := (List.getElem?_eq_some_iff.1 hi).1; omega)
  have ht : ∃ t, ts[i]? = some t ∧ t.1 = D ∧ t.2.2 = ps := by
    rw [← h1, List.getElem?_map] at hi
    cases he : ts[i]? with
    | none => rw [he] at hi; cases hi
    | some t => rw [he] at hi; simp at hi; exact ⟨t, rfl, hi.1, hi.2⟩
  obtain ⟨⟨D', pv, ps'⟩, ht1, rfl, rfl⟩ := ht
  have ho := h3 _ (List.mem_of_getElem? ht1)
  obtain ⟨a, n, c', e⟩ : ∃ a n c, pv = .slice a n c := by
    rcases form2 ho with h | ⟨_, _, _, h⟩
    · exact ⟨_, _, _, h⟩
    · exact ⟨_, _, _, h⟩
  obtain ⟨k1, k2⟩ := LC_at ht1
  have hc := h2.cells (g := g) rfl
  have c1 := hc _ _ k1
  have c2 := hc _ _ k2
  rw [addr_add, Nat.zero_add] at c1 c2
  simp only at e ho
  subst e
  exact ⟨g, a, n, c', rfl, hg, c1, c2, rc_of_owns ho (by have := hps _ (List.mem_of_getElem? hi); simp only at this ⊢; omega)⟩
set_option maxRecDepth 100000 in
set_option maxHeartbeats 4000000 in
theorem only_law (v : Value) (q : Int) (w : World) (hv : CameB w v) :
    Calls Try.prog 4 #[v, .int .i64 q] w fun e w' => e = .returned (.bool true) ∧ Below w.heap.size w w' := by
  obtain ⟨A, n, c, bs, rfl, hn, hm, hr, hA, hb⟩ := hv
  have HFit := Lib.hid (fit_any w)
  by_cases h500 : 500 < n
  · clear hn hr hA hb
    go_enter Try.func4, Try.ntmps4
    go_wp2_with fail
    refine HFit.out.mono ?_
    rintro e w1 ⟨rfl, hb1⟩
    have HB1 := Lib.hid hb1
    clear hb1
    go_wp2_with fail
    go_ret
    exact ⟨rfl, HB1.out⟩
  · have e3 := and3 q
    obtain ⟨k, ek, k3⟩ : ∃ k : Nat, q % 4 = (k : Int) ∧ k ≤ 3 := ⟨(q % 4).toNat, by omega, by omega⟩
    rw [ek] at e3
    have HN := Lib.hid hn
    have HR := Lib.hid hr
    have HA := Lib.hid hA
    have HB := Lib.hid hb
    clear hn hr hA hb ek hm
    go_enter Try.func4, Try.ntmps4
    go_wp2_with fail
    refine HFit.out.mono ?_
    rintro e w1 ⟨rfl, hb1⟩
    have HB1 := Lib.hid hb1
    have CL := Lib.hid (labels_any A c n k bs w1 HN.out (by omega) (HR.out.below hb1) HA.out HB.out (by omega))
    clear hb1 HFit
    go_upto_region 6 with fail
    clear e3
    go_wp2_with fail
    refine CL.out.mono ?_
    intro e w2 ht
    rcases ht with ⟨hnone, rfl, hb2⟩ | ⟨ls, v, hsome, rfl, hls, hb2⟩
    · have HB2 := Lib.hid (HB1.out.trans (hb2.mono HB1.out.size))
      clear hnone hb2 CL HB1
      go_wp2_with fail
      go_ret
      exact ⟨by first | rfl | simp, HB2.out⟩
    · obtain ⟨g1, g2, g3⟩ := Pk.tell_true HB.out hsome
      obtain ⟨A2, c2, rfl, hlr⟩ := hls.form (fun l hl => by have := (Pk.right_small (g2 l hl)).2.2.1; omega)
      have HB2 := Lib.hid (HB1.out.trans (hb2.mono HB1.out.size))
      have HG := Lib.hid (And.intro g1 (And.intro g2 g3))
      have HL := Lib.hid hlr
      rw [g1]
      clear hsome hls hb2 CL HB1 hlr g1 g2 g3
      go_wp2_with fail
      go_loopg [7, 34] k (fun g v i wr => ∃ j : Nat, j ≤ k ∧ Hid (g = k - j) ∧ i = .int .i64 j ∧ Hid (NB w.heap.size wr (Pk.labs (ls.take j)) v ∧ LR wr A2 ls ∧ Below w.heap.size w wr))
      case atStart => exact ⟨0, by omega, Lib.hid (by omega), rfl, Lib.hid ⟨NB.nil _ _, HL.out, HB2.out⟩⟩
      case round =>
        obtain ⟨j, hj, hg, rfl, hrl⟩ := hrel
        clear HL HB2
        by_cases hlt : j < k
        · obtain ⟨⟨D, ps⟩, hl⟩ : ∃ l, ls[j]? = some l := ⟨_, List.getElem?_eq_getElem (by rw [HG.out.1]; exact hlt)⟩
          obtain ⟨g, a, n', c', rfl, hgl, x1, x2, hrc⟩ := hrl.out.2.1 j D ps hl
          have hri := HG.out.2.1 _ (List.mem_of_getElem? hl)
          simp only at hri
          have hst := Lib.hid (Pk.labs_take hl)
          have hsz := hrl.out.2.2.size
          obtain ⟨W3, e3⟩ : ∃ W3, W3 = wr.alloc (Obj.cells #[.int .i64 D, .slice a n' c'] 31) := ⟨_, rfl⟩
          have hb3 : Below wr.heap.size wr W3 := by rw [e3]; exact (Below.refl _ _).alloc (Nat.le_refl _) _
          obtain ⟨X, eX⟩ : ∃ X, wr.heap.size = X := ⟨_, rfl⟩
          have hk3 : W3.heap[X]? = some (Obj.cells #[.int .i64 D, .slice a n' c'] 31) := by rw [e3, ← eX]; exact heap_alloc_new wr _
          have hrc3 := (hrc.below hb3).mono hb3.size
          have CR := Lib.hid (right_any (.slice a n' c') ps D W3 (hrc3.reads (Nat.le_refl _)))
          rw [hri] at CR
          obtain ⟨y0, y1⟩ := cells2 hk3
          have H3 := Lib.hid (And.intro hk3 (And.intro hrc3 (And.intro hb3 (Pk.small_of_right hri))))
          obtain ⟨A7, c7, rfl, hc7, hy7, hA7⟩ := hrl.out.1.form
          obtain ⟨l7, el7⟩ : ∃ l, (Pk.labs (ls.take j)).length = l := ⟨_, rfl⟩
          have hl7 : l7 ≤ 500 := by rw [← el7]; have := Pk.labs_take_len ls j; rw [← HG.out.2.2, HN.out] at this; omega
          have HY := Lib.hid (And.intro hy7 (And.intro hA7 el7))
          rw [el7]
          clear hl hri hb3 hk3 hrc hrc3 hc7 hy7 hA7 el7 hgl
          go_upto_region 13 with fail
          rw [← e3]
          clear e3 eX x1 x2
          go_wp2_with fail
          refine CR.out.mono ?_
          rintro e w4 ⟨rfl, hb4⟩
          have hwr3 := H3.out.2.2.1
          have hk4 : w4.heap[X]? = some (Obj.cells #[.int .i64 D, .slice a n' c'] 31) := by rw [hb4.block _ (Array.getElem?_eq_some_iff.1 H3.out.1).1]; exact H3.out.1
          obtain ⟨z0, z1⟩ := cells2 hk4
          have hb24 : Below wr.heap.size wr w4 := hwr3.trans (hb4.mono hwr3.size)
          have CP := Lib.hid (plabel_any A7 c7 l7 (Pk.labs (ls.take j)) D (.slice a n' c') ps w4 HY.out.2.2 (by omega) (HY.out.1.br.below hb24) HY.out.2.1 H3.out.2.2.2 ((H3.out.2.1.below hb4).mono hb4.size))
          have H4 := Lib.hid hb24
          clear hb4 hk4 hb24 hwr3 y0 y1 CR
          go_wp2_with fail
          refine CP.out.mono ?_
          rintro e w5 ⟨v5, rfl, hn5, hb5⟩
          have hnx := Lib.hid (show NB w.heap.size w5 (Pk.labs (ls.take (j + 1))) v5 ∧ LR w5 (some ⟨g, 0, none⟩) ls ∧ Below w.heap.size w w5 from by
            have h25 : Below wr.heap.size wr w5 := H4.out.trans (hb5.mono H4.out.size)
            refine ⟨?_, hrl.out.2.1.below h25, hrl.out.2.2.trans (h25.mono hsz)⟩
            rw [hst.out]
            exact hn5.mono (Nat.le_trans hsz H4.out.size))
          clear hn5 hb5 CP H4 z0 z1
          go_wp2_with fail
          go_roundg (k - (j + 1))
          case measure => rw [hg.out]; omega
          case rel => exact ⟨j + 1, by omega, Lib.hid rfl, by go_num, hnx⟩
        · obtain rfl : j = k := by omega
          obtain ⟨A7, c7, rfl, hc7, hy7, hA7⟩ := hrl.out.1.form
          have e7 : Pk.labs (ls.take j) = bs := by rw [HG.out.2.2, List.take_of_length_le (by rw [HG.out.1]; omega)]
          rw [e7] at hc7 hy7 ⊢
          have CS := Lib.hid (same_any_b A7 A n n c7 c bs bs true wr HN.out HN.out hy7.br (HR.out.below hrl.out.2.2) HB.out HB.out (by simp))
          have HW := Lib.hid hrl.out.2.2
          rw [HN.out]
          clear hc7 hy7 hA7 e7 hrl
          go_wp2_with fail
          refine CS.out.mono ?_
          rintro e w4 ⟨rfl, rfl⟩
          go_wp2_with fail
          go_ret
          exact ⟨by first | rfl | simp, HW.out⟩
end Go.Proofs.Ytjmfjehjlnghmaa
