import Derived.Test.YtjmfjehjlnghmaaKg
namespace Pk
/-- What a reader's Label answers. -/
def ln (s : St) : Int × List (Nat × Int) × St := if s.2 = true then (0, [], (s.1, true)) else match rl s.1 with
  | none => (0, [], (s.1, true))
  | some (D, ps, r) => (D, ps, (r, false))
theorem ln_bad (bs : List Nat) : ln (bs, true) = (0, [], (bs, true)) := rfl
theorem ln_none {bs : List Nat} (h : (al (bs, false)).2.2.2 = true ∨ Lab.right (al (bs, false)).1 (al (bs, false)).2.1 = false) : ln (bs, false) = (0, [], (bs, true)) := by
  unfold ln rl
  rw [if_neg (by simp), if_neg (by rintro ⟨h1, h2⟩; simp only at h1 h2; rcases h with h | h <;> simp_all)]
theorem ln_some {bs : List Nat} (h1 : (al (bs, false)).2.2.2 = false) (h2 : Lab.right (al (bs, false)).1 (al (bs, false)).2.1 = true) : ln (bs, false) = al (bs, false) := by
  unfold ln rl
  rw [if_neg (by simp), if_pos ⟨h1, h2⟩]
  simp only
  generalize al (bs, false) = t at h1
  obtain ⟨a, b, c, d⟩ := t
  simp only at h1
  rw [h1]
theorem al_len {bs : List Nat} {b : Bool} (hb : ∀ c ∈ bs, c < 256) : (al (bs, b)).2.1.length < 256 := by
  rw [al]
  simp only
  rw [prs_len]
  have h1 := nx_byte (n := 1) (s := (bs, b)) hb
  have h2 := nx_byte (n := 1) (s := (nx 1 (bs, b)).2) h1.2.1
  simpa using h2.1
end Pk
namespace Go.Proofs.Ytjmfjehjlnghmaa
open Go.RowKit
set_option linter.unusedVariables false
set_option linter.unusedSimpArgs false

set_option maxHeartbeats 1000000 in
theorem label_bad (R : Nat) (bs : List Nat) (w : World) (h : Rd w R bs true) : Calls Try.prog 22 #[.pointer (some ⟨R, 0, none⟩)] w (Alled w R (0, [], (bs, true))) := by
  have hB : Below w.heap.size w (w.alloc (Obj.cells #[.int .i64 0, .slice none 0 0] 31)) := (Below.refl _ _).alloc (Nat.le_refl _) _
  have hk := heap_alloc_new w (Obj.cells #[.int .i64 0, .slice none 0 0] 31)
  have C := Lib.hid (bad_any R bs true _ (h.below hB))
  have HA := Lib.hid (h.below hB)
  have HB := Lib.hid hB
  have HK := Lib.hid hk
  clear h hB hk
  go_enter Try.func22, Try.ntmps22
  go_wp2_with fail
  refine C.out.mono ?_
  rintro e w1 ⟨rfl, rfl⟩
  go_wp2_with fail
  refine bodyPost_ret (results_cell_row (by rfl) _ _ (w.heap.size) 31 _ (0, 0) _ (by rfl) HK.out Try.underlying31 rfl info24) rfl ⟨_, rfl, World.ownsRow_nil _ _ _ _, HA.out, grown_below HB.out⟩
/-- What holds while a reader's Label looks at what was read. -/
def LabRel (w : World) (R P L : Nat) (bs : List Nat) (d : Int) (v : Value) (ps : List (Nat × Int)) (s : Pk.St) (W : World) : Prop :=
  Rd W R bs false ∧ Rd W P s.1 s.2 ∧ W.heap[w.heap.size]? = some (Obj.cells #[.int .i64 0, .slice none 0 0] 31) ∧ W.heap[L]? = some (Obj.cells #[.int .i64 d, v] 31) ∧ W.ownsRow w.heap.size 57 2 v ps.length (F ps) ∧ Below w.heap.size w W ∧
    R ≠ P ∧ P ≠ w.heap.size ∧ L ≠ w.heap.size ∧ w.heap.size ≤ P ∧ R < w.heap.size
theorem LabRel.below {w : World} {R P L : Nat} {bs : List Nat} {d : Int} {v : Value} {ps : List (Nat × Int)} {s : Pk.St} {W W' : World} (h : LabRel w R P L bs d v ps s W) (hb : Below W.heap.size W W') : LabRel w R P L bs d v ps s W' := by
  obtain ⟨h1, h2, h3, h4, h5, h6, h7⟩ := h
  exact ⟨h1.below hb, h2.below hb, by rw [hb.block _ (Array.getElem?_eq_some_iff.1 h3).1]; exact h3, by rw [hb.block _ (Array.getElem?_eq_some_iff.1 h4).1]; exact h4, owns_below h5 hb, h6.trans (hb.mono h6.size), h7⟩
/-- The answer of a reader that fails there. -/
theorem LabRel.failed {w : World} {R P L : Nat} {bs : List Nat} {d : Int} {v : Value} {ps : List (Nat × Int)} {s : Pk.St} {W W' : World} (h : LabRel w R P L bs d v ps s W) (hr : Rd W' R bs true) (hg : W.grownBy W' (some R)) :
    W'.heap[w.heap.size]? = some (Obj.cells #[.int .i64 0, .slice none 0 0] 31) ∧ Alled w R (0, [], (bs, true)) (.returned (.agg #[.int .i64 0, .slice none 0 0])) ((W'.setCell ⟨w.heap.size, 0, none⟩ (.int .i64 0)).setCell ⟨w.heap.size, 1, none⟩ (.slice none 0 0)) := by
  obtain ⟨h1, h2, h3, h4, h5, h6, h7, h8, h9, h10, h11⟩ := h
  have k := h1.keeps hg h3 (by decide)
  have hx : ∀ (b : Nat) (cs : Array Value) (t : TypeId), t ≠ 31 → W'.heap[b]? = some (Obj.cells cs t) → ((W'.setCell ⟨w.heap.size, 0, none⟩ (.int .i64 0)).setCell ⟨w.heap.size, 1, none⟩ (.slice none 0 0)).heap[b]? = some (Obj.cells cs t) := fun b cs t ht hh => by
    have hne : b ≠ w.heap.size := fun e => by
      rw [e, k] at hh
      simp at hh
      exact ht hh.2.symm
    rw [heap_setCell_other _ _ _ _ hne, heap_setCell_other _ _ _ _ hne]; exact hh
  refine ⟨k, _, rfl, World.ownsRow_nil _ _ _ _, hr.kept (fun b cs hh => hx b cs 5 (by decide) hh) ?_, ?_⟩
  · rw [heap_setCell_other _ _ _ _ (by simp; omega), heap_setCell_other _ _ _ _ (by simp; omega)]
  · have q := grown_trans (grown_below (row := some R) h6) hg
    refine ⟨q.os, q.tape, q.output, by have := q.size; simp; omega, fun i hi hri => ?_⟩
    rw [heap_setCell_other _ _ _ _ (by simp; omega), heap_setCell_other _ _ _ _ (by simp; omega)]
    exact q.block i hi hri
/-- The answer of a reader that goes on. -/
theorem LabRel.went {w : World} {R P L : Nat} {bs rest : List Nat} {d : Int} {v : Value} {ps : List (Nat × Int)} {bad : Bool} {W : World} {A : Option Addr} {c : Nat} (h : LabRel w R P L bs d v ps (rest, bad) W) (hA : W.heap[P]? = some (Obj.cells #[.slice A rest.length c, .bool bad] 59)) :
    (((W.setCell ⟨R, 0, none⟩ (.slice A rest.length c)).setCell ⟨R, 1, none⟩ (.bool bad)).heap[w.heap.size]? = some (Obj.cells #[.int .i64 0, .slice none 0 0] 31)) ∧ (((W.setCell ⟨R, 0, none⟩ (.slice A rest.length c)).setCell ⟨R, 1, none⟩ (.bool bad)).heap[L]? = some (Obj.cells #[.int .i64 d, v] 31)) ∧
      Alled w R (d, ps, (rest, bad)) (.returned (.agg #[.int .i64 d, v])) ((((W.setCell ⟨R, 0, none⟩ (.slice A rest.length c)).setCell ⟨R, 1, none⟩ (.bool bad)).setCell ⟨w.heap.size, 0, none⟩ (.int .i64 d)).setCell ⟨w.heap.size, 1, none⟩ v) := by
  obtain ⟨⟨A1, c1, h1, _⟩, ⟨A2, c2, h2, q1, q2, q3, q4, q5⟩, h3, h4, h5, h6, h7, h8, h9, h10, h11⟩ := h
  rw [hA] at h2
  obtain ⟨rfl, rfl⟩ : A = A2 ∧ c = c2 := by simpa using h2
  have hx : ∀ (b : Nat) (cs : Array Value) (t : TypeId), t ≠ 59 → W.heap[b]? = some (Obj.cells cs t) → ((W.setCell ⟨R, 0, none⟩ (.slice A rest.length c)).setCell ⟨R, 1, none⟩ (.bool bad)).heap[b]? = some (Obj.cells cs t) := fun b cs t ht hh => by
    have hne : b ≠ R := fun e => by
      rw [e, h1] at hh
      simp at hh
      exact ht hh.2.symm
    rw [heap_setCell_other _ _ _ _ hne, heap_setCell_other _ _ _ _ hne]; exact hh
  obtain ⟨_, _, _, _, hR, _⟩ := old2 W R 59 _ _ (.slice A rest.length c) (.bool bad) h1
  have h3' := hx _ _ 31 (by decide) h3
  have h4' := hx _ _ 31 (by decide) h4
  have hO : ((W.setCell ⟨R, 0, none⟩ (.slice A rest.length c)).setCell ⟨R, 1, none⟩ (.bool bad)).ownsRow w.heap.size 57 2 v ps.length (F ps) := owns_set (owns_set h5 _ _ (own_ne h5 h1 (by decide))) _ _ (own_ne h5 h1 (by decide))
  obtain ⟨V, eV⟩ : ∃ V, V = (W.setCell ⟨R, 0, none⟩ (.slice A rest.length c)).setCell ⟨R, 1, none⟩ (.bool bad) := ⟨_, rfl⟩
  rw [← eV] at hx hR h3' h4' hO ⊢
  have hg : w.grownBy V (some R) := by
    have q := grown_below (row := some R) h6
    rw [eV]
    exact grown_trans q (grown_trans (grown_set _) (grown_set _))
  have hy : ∀ (b : Nat) (cs : Array Value) (t : TypeId), t ≠ 31 → V.heap[b]? = some (Obj.cells cs t) → ((V.setCell ⟨w.heap.size, 0, none⟩ (.int .i64 d)).setCell ⟨w.heap.size, 1, none⟩ v).heap[b]? = some (Obj.cells cs t) := fun b cs t ht hh => by
    have hne : b ≠ w.heap.size := fun e => by
      rw [e, h3'] at hh
      simp at hh
      exact ht hh.2.symm
    rw [heap_setCell_other _ _ _ _ hne, heap_setCell_other _ _ _ _ hne]; exact hh
  have hn := own_ne hO h3' (by decide)
  refine ⟨h3', h4', v, rfl, owns_set (owns_set hO _ _ hn) _ _ hn, ⟨A, c, hy _ _ 59 (by decide) hR, q1, q2, q3.kept fun b cs hh => hy b cs 5 (by decide) (hx b cs 5 (by decide) hh), q4, q5⟩, ?_⟩
  refine ⟨hg.os, hg.tape, hg.output, by have := hg.size; simp; omega, fun i hi hri => ?_⟩
  rw [heap_setCell_other _ _ _ _ (by simp; omega), heap_setCell_other _ _ _ _ (by simp; omega)]
  exact hg.block i hi hri
theorem LabRel.old {w : World} {R P L : Nat} {bs : List Nat} {d : Int} {v : Value} {ps : List (Nat × Int)} {s : Pk.St} {W : World} (h : LabRel w R P L bs d v ps s W) (V : World) (t : TypeId) (a b : Value) (g : Nat) (hk : V.heap[g]? = some (Obj.cells #[a, b] t)) :
    V.cell? ⟨g, 0, none⟩ = some a ∧ V.frozen? ⟨g, 0, none⟩ = false ∧ (V.setCell ⟨g, 0, none⟩ (.int .i64 d)).cell? ⟨g, 1, none⟩ = some b ∧ (V.setCell ⟨g, 0, none⟩ (.int .i64 d)).frozen? ⟨g, 1, none⟩ = false ∧
    ((V.setCell ⟨g, 0, none⟩ (.int .i64 d)).setCell ⟨g, 1, none⟩ v).heap[g]? = some (Obj.cells #[.int .i64 d, v] t) ∧ V.cell? ⟨g, 1, none⟩ = some b := old2 V g t a b (.int .i64 d) v hk
set_option maxHeartbeats 2000000 in
theorem label_ok (R : Nat) (bs : List Nat) (w : World) (h : Rd w R bs false) : Calls Try.prog 22 #[.pointer (some ⟨R, 0, none⟩)] w (Alled w R (Pk.ln (bs, false))) := by
  have hB : Below w.heap.size w (w.alloc (Obj.cells #[.int .i64 0, .slice none 0 0] 31)) := (Below.refl _ _).alloc (Nat.le_refl _) _
  obtain ⟨w0, e0⟩ : ∃ w0, w0 = w.alloc (Obj.cells #[.int .i64 0, .slice none 0 0] 31) := ⟨_, rfl⟩
  have hk : w0.heap[w.heap.size]? = some (Obj.cells #[.int .i64 0, .slice none 0 0] 31) := by rw [e0]; exact heap_alloc_new w _
  rw [← e0] at hB
  have h0 := h.below hB
  have hRw := h.lt
  have C := Lib.hid (bad_any R bs false w0 h0)
  obtain ⟨A, c, h1, c0, c1, f0, f1, h2, h3, h4, h5, h6⟩ := h0.cells
  have HN := Lib.hid h0
  have H1 := Lib.hid h1
  have H4 := Lib.hid (And.intro h2 (And.intro h3 (And.intro h4 (And.intro h5 h6))))
  have HB := Lib.hid hB
  have HK := Lib.hid hk
  obtain ⟨n, en⟩ : ∃ n, bs.length = n := ⟨_, rfl⟩
  rw [en] at c0 H1
  have EN := Lib.hid en
  clear h hB hk h0 h1 h2 h3 h4 h5 h6 f0 f1 en
  go_enter Try.func22, Try.ntmps22
  go_wp2_with fail
  rw [← e0]
  have E0 := Lib.hid e0
  clear e0
  refine C.out.mono ?_
  rintro e w1 ⟨rfl, rfl⟩
  obtain ⟨P, eP⟩ : ∃ P, P = w0.heap.size := ⟨_, rfl⟩
  have hnew := heap_alloc_new w0 (Obj.cells #[.slice A n c, .bool false] 59)
  have hold : ∀ (b : Nat) (o : Obj), w0.heap[b]? = some o → (w0.alloc (Obj.cells #[.slice A n c, .bool false] 59)).heap[b]? = some o := fun b o hh => by
    rw [Below.heap_alloc _ _ _ (Array.getElem?_eq_some_iff.1 hh).1]; exact hh
  have hrd : Rd (w0.alloc (Obj.cells #[.slice A n c, .bool false] 59)) P bs false :=
    ⟨A, c, by rw [eP, EN.out]; exact hnew, H4.out.1, H4.out.2.1, H4.out.2.2.1.kept fun b cs hh => hold _ _ hh, H4.out.2.2.2.1, H4.out.2.2.2.2⟩
  have C2 := Lib.hid (anyl_any P bs false _ hrd)
  have HR := Lib.hid hrd
  have HR0 := Lib.hid (HN.out.kept (fun b cs hh => hold _ _ hh) (by rw [hold _ _ H1.out, H1.out]))
  have HK1 := Lib.hid (hold _ _ HK.out)
  have hPw : w.heap.size < P := by rw [eP]; exact (Array.getElem?_eq_some_iff.1 HK.out).1
  have HB1 := Lib.hid (HB.out.alloc HB.out.size (Obj.cells #[.slice A n c, .bool false] 59))
  clear hnew hold hrd C
  go_wp2_with fail
  rw [← eP]
  clear eP
  obtain ⟨W1, eW1⟩ : ∃ W1, W1 = w0.alloc (Obj.cells #[.slice A n c, .bool false] 59) := ⟨_, rfl⟩
  rw [← eW1] at C2 HR HR0 HK1 HB1 ⊢
  clear eW1 c0 c1
  have LN := Lib.hid (And.intro (fun h => Pk.ln_none (bs := bs) h) (fun h1 h2 => Pk.ln_some (bs := bs) h1 h2))
  have hpl := Pk.al_len (b := false) HN.out.byte
  obtain ⟨⟨d, ps, s⟩, eal⟩ : ∃ t, Pk.al (bs, false) = t := ⟨_, rfl⟩
  rw [eal] at C2 LN hpl
  simp only at hpl
  clear eal
  refine C2.out.mono ?_
  rintro e w2 ⟨v, rfl, ho, hr2, hg2⟩
  obtain ⟨L, eL⟩ : ∃ L, L = w2.heap.size := ⟨_, rfl⟩
  obtain ⟨w3, e3⟩ : ∃ w3, w3 = w2.alloc (Obj.cells #[.int .i64 d, v] 31) := ⟨_, rfl⟩
  have hlr : LabRel w R P L bs d v ps s w3 := by
    have hb3 : Below w2.heap.size w2 w3 := by rw [e3]; exact (Below.refl _ _).alloc (Nat.le_refl _) _
    have hL : w3.heap[L]? = some (Obj.cells #[.int .i64 d, v] 31) := by rw [eL, e3]; exact heap_alloc_new w2 _
    have hk := HR.out.keeps hg2 HK1.out (by decide)
    have hwL : w.heap.size < L := by rw [eL]; exact (Array.getElem?_eq_some_iff.1 hk).1
    refine ⟨(HR0.out.grown HR.out hg2 (by omega)).below hb3, hr2.below hb3, ?_, hL, owns_below (owns_mono ho HB1.out.size) hb3, (below_grown HB1.out hg2 (by omega)).trans (hb3.mono (below_grown HB1.out hg2 (by omega)).size), by omega, by omega, by omega, by omega, hRw⟩
    rw [hb3.block _ (Array.getElem?_eq_some_iff.1 hk).1]; exact hk
  have hform := form2 ho
  have HL := Lib.hid hlr
  have CB := Lib.hid (bad_any P s.1 s.2 w3 hlr.2.1)
  clear hlr ho hr2 hg2 HR HR0 HK1 HB1 C2 HN H4 HB HK H1 EN E0
  have hkL := HL.out.2.2.2.1
  obtain ⟨l0, l1⟩ := cells2 hkL
  clear hkL
  rcases hform with rfl | ⟨g', n', c', rfl⟩
  all_goals
    go_upto_region 5 with fail
    rw [← e3, ← eL]
    clear e3 eL
    by_cases hs : s.2 = true
    · rw [hs] at CB
      have HLn := Lib.hid (LN.out.1 (.inl hs))
      clear hs LN
      have CF := Lib.hid (fail_any R bs false w3 HL.out.1)
      go_wp2_with fail
      refine CB.out.mono ?_
      rintro e w4 ⟨rfl, rfl⟩
      go_wp2_with fail
      refine CF.out.mono ?_
      rintro e w4 ⟨rfl, hr4, hg4⟩
      obtain ⟨hk4, ha4⟩ := HL.out.failed hr4 hg4
      obtain ⟨b0, b1, b2, b3, b4, _⟩ := old2 w4 (w.heap.size) 31 _ _ (.int .i64 0) (.slice none 0 0) hk4
      have HA := Lib.hid ha4
      have S4 := Lib.hid b4
      clear hk4 ha4 b4 hr4 hg4
      go_wp2_with fail
      refine bodyPost_ret (results_cell_row (by rfl) _ _ (w.heap.size) 31 _ (0, 0) _ (by rfl) S4.out Try.underlying31 rfl info24) rfl (by rw [HLn.out]; exact HA.out)
    · obtain ⟨rest, bad⟩ := s
      obtain rfl : bad = false := by simpa using hs
      clear hs
      have CR := Lib.hid (pright_any _ ps d w3 (reads_of_owns HL.out.2.2.2.2.1 (by omega)))
      by_cases hri : Lab.right d ps = true
      · have HLn := Lib.hid (LN.out.2 rfl hri)
        rw [hri] at CR
        clear hri LN
        go_wp2_with fail
        refine CB.out.mono ?_
        rintro e w4 ⟨rfl, rfl⟩
        go_wp2_with fail
        refine CR.out.mono ?_
        rintro e w4 ⟨rfl, hb4⟩
        have hl4 := HL.out.below hb4
        obtain ⟨A1, c1, k1, p0, p1, _⟩ := hl4.2.1.cells
        obtain ⟨A2, c2, k2, q0, q1, _⟩ := hl4.1.cells
        obtain ⟨_, f0, q2, f1, _, _⟩ := old2 w4 R 59 _ _ (.slice A1 rest.length c1) (.bool false) k2
        obtain ⟨m1, m2, m3⟩ := hl4.went k1
        obtain ⟨b0, b1, b2, b3, b4, _⟩ := LabRel.old hl4 _ 31 _ _ (w.heap.size) m1
        obtain ⟨x0, x1⟩ := cells2 m2
        have HA := Lib.hid m3
        have S4 := Lib.hid b4
        clear hb4 hl4 k1 k2 m1 m2 m3 b4 CB
        go_wp2_with fail
        refine bodyPost_ret (results_cell_row (by rfl) _ _ (w.heap.size) 31 _ (0, 0) _ (by rfl) S4.out Try.underlying31 rfl info24) rfl (by rw [HLn.out]; exact HA.out)
      · have hri' : Lab.right d ps = false := by simpa using hri
        have HLn := Lib.hid (LN.out.1 (.inr hri'))
        rw [hri'] at CR
        clear hri hri' LN
        go_wp2_with fail
        refine CB.out.mono ?_
        rintro e w4 ⟨rfl, rfl⟩
        go_wp2_with fail
        refine CR.out.mono ?_
        rintro e w4 ⟨rfl, hb4⟩
        have hl4 := Lib.hid (HL.out.below hb4)
        have CF := Lib.hid (fail_any R bs false w4 hl4.out.1)
        clear hb4 CB
        go_wp2_with fail
        refine CF.out.mono ?_
        rintro e w5 ⟨rfl, hr5, hg5⟩
        obtain ⟨hk4, ha4⟩ := hl4.out.failed hr5 hg5
        obtain ⟨b0, b1, b2, b3, b4, _⟩ := old2 w5 (w.heap.size) 31 _ _ (.int .i64 0) (.slice none 0 0) hk4
        have HA := Lib.hid ha4
        have S4 := Lib.hid b4
        clear hk4 ha4 b4 hr5 hg5
        go_wp2_with fail
        refine bodyPost_ret (results_cell_row (by rfl) _ _ (w.heap.size) 31 _ (0, 0) _ (by rfl) S4.out Try.underlying31 rfl info24) rfl (by rw [HLn.out]; exact HA.out)
theorem label_any (R : Nat) (bs : List Nat) (bad : Bool) (w : World) (h : Rd w R bs bad) : Calls Try.prog 22 #[.pointer (some ⟨R, 0, none⟩)] w (Alled w R (Pk.ln (bs, bad))) := by
  cases bad with
  | true => exact label_bad R bs w h
  | false => exact label_ok R bs w h
end Go.Proofs.Ytjmfjehjlnghmaa
