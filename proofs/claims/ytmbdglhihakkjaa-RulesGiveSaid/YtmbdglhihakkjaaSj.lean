import Derived.Test.YtmbdglhihakkjaaSf
import Derived.Test.YtmbdglhihakkjaaRa
namespace Go.Proofs.Ytmbdglhihakkjaa
open Go.RowKit
set_option linter.unusedVariables false
set_option linter.unusedSimpArgs false

theorem equal_len (a1 a2 : Option Addr) (n1 n2 c1 c2 : Nat) (w : World) (h : ¬ n1 = n2) :
    Calls Try.prog 63 #[.slice a1 n1 c1, .slice a2 n2 c2] w fun e w' => e = .returned (.bool false) ∧ Below w.heap.size w w' := by
  have h2 : ((n1 : Int) == n2) = false := by rw [beq_eq_false_iff_ne]; omega
  have h3 : ((n1 : Int) != n2) = true := by rw [bne_iff_ne]; omega
  go_enter Try.func63, Try.ntmps63
  go_wp2
  go_ret
  exact ⟨rfl, Below.refl _ _⟩
theorem equal_empty (a1 a2 : Option Addr) (c1 c2 : Nat) (w : World) :
    Calls Try.prog 63 #[.slice a1 0 c1, .slice a2 0 c2] w fun e w' => e = .returned (.bool true) ∧ Below w.heap.size w w' := by
  go_enter Try.func63, Try.ntmps63
  go_wp2
  go_loopg [13] 0 (fun g i wr => i = .int .i64 0 ∧ wr = w)
  case atStart => exact ⟨rfl, rfl⟩
  case round =>
    obtain ⟨rfl, rfl⟩ := hrel
    go_wp2
    go_ret
    exact ⟨rfl, Below.refl _ _⟩
set_option maxHeartbeats 1000000 in
theorem equal_cells (b1 o1 c1 b2 o2 c2 n : Nat) (ps qs : List (Nat × Int)) (w : World) (hn : n ≤ 140737488351232) (L : Hid (ps.length = n ∧ qs.length = n))
   (h1 : Hid (∀ i p, ps[i]? = some p → w.cell? ⟨b1, o1 + i * 2, none⟩ = some (.int .u32 p.1) ∧ w.cell? ⟨b1, o1 + i * 2 + 1, none⟩ = some (.int .i64 p.2)))
   (h2 : Hid (∀ i p, qs[i]? = some p → w.cell? ⟨b2, o2 + i * 2, none⟩ = some (.int .u32 p.1) ∧ w.cell? ⟨b2, o2 + i * 2 + 1, none⟩ = some (.int .i64 p.2))) :
    Calls Try.prog 63 #[.slice (some ⟨b1, o1, none⟩) n c1, .slice (some ⟨b2, o2, none⟩) n c2] w fun e w' => e = .returned (.bool (decide (ps = qs))) ∧ Below w.heap.size w w' := by
  obtain ⟨r, er⟩ : ∃ r, decide (ps = qs) = r := ⟨_, rfl⟩
  rw [er]
  have ER := Lib.hid er
  clear er
  go_enter Try.func63, Try.ntmps63
  go_wp2
  go_loopg [13] n (fun g i wr => ∃ k m : Nat, k ≤ n ∧ g = n - k ∧ Hid (ps.take k = qs.take k) ∧ i = .int .i64 k ∧ wr = w.drewN m)
  case atStart => exact ⟨0, 0, by omega, by omega, Lib.hid (by simp), rfl, rfl⟩
  case round =>
    obtain ⟨k, m, hk, hg, ht, rfl, rfl⟩ := hrel
    have HG := Lib.hid hg
    clear hg
    by_cases hlt : k < n
    · obtain ⟨p, hp⟩ : ∃ p, ps[k]? = some p := ⟨_, List.getElem?_eq_getElem (by rw [L.out.1]; exact hlt)⟩
      obtain ⟨q, hq⟩ : ∃ q, qs[k]? = some q := ⟨_, List.getElem?_eq_getElem (by rw [L.out.2]; exact hlt)⟩
      obtain ⟨x1, x2⟩ := h1.out k p hp
      obtain ⟨y1, y2⟩ := h2.out k q hq
      have HP := Lib.hid (And.intro hp hq)
      clear hp hq
      obtain ⟨p1, p2⟩ := p
      obtain ⟨s1, s2⟩ := q
      by_cases e1 : p1 = s1
      · subst e1
        by_cases e2 : p2 = s2
        · subst e2
          have hn := Lib.hid (Lab.take_snoc_eq ht.out HP.out.1 HP.out.2)
          clear ht
          go_wp2
          go_quiet (fail)
          go_wp2_with fail
          go_roundg (n - (k + 1))
          case measure => rw [HG.out]; omega
          case rel => exact ⟨k + 1, _, by omega, rfl, hn.out, by go_num, rfl⟩
        · have hr := Lib.hid (ER.out.symm.trans (decide_eq_false (Lab.ne_at HP.out.1 HP.out.2 (fun e => e2 (Prod.mk.inj e).2))))
          clear ht
          go_wp2
          go_quiet (fail)
          go_wp2_with fail
          go_ret
          exact ⟨by rw [hr.out]; rfl, below_drewN (below_drewN (Below.refl _ _) _) _⟩
      · have hr := Lib.hid (ER.out.symm.trans (decide_eq_false (Lab.ne_at HP.out.1 HP.out.2 (fun e => e1 (Prod.mk.inj e).1))))
        have e3 : ¬ (p1 : Int) = s1 := by omega
        clear ht e1
        go_wp2
        go_quiet (fail)
        go_wp2_with fail
        go_ret
        exact ⟨by rw [hr.out]; rfl, below_drewN (below_drewN (Below.refl _ _) _) _⟩
    · have hr := Lib.hid (ER.out.symm.trans (decide_eq_true (Lab.take_all (k := k) ht.out (by rw [L.out.1]; omega) (by rw [L.out.2]; omega))))
      clear ht
      go_wp2
      go_ret
      exact ⟨by rw [hr.out]; rfl, below_drewN (Below.refl _ _) _⟩
theorem equal_any (v1 v2 : Value) (ps qs : List (Nat × Int)) (w : World) (h1 : Reads w v1 ps) (h2 : Reads w v2 qs) :
    Calls Try.prog 63 #[v1, v2] w fun e w' => e = .returned (.bool (decide (ps = qs))) ∧ Below w.heap.size w w' := by
  obtain ⟨a1, c1, f1⟩ := h1.form
  obtain ⟨a2, c2, f2⟩ := h2.form
  by_cases el : ps.length = qs.length
  · by_cases e0 : ps.length = 0
    · have e1 : ps = [] := List.length_eq_zero_iff.1 e0
      have e2 : qs = [] := List.length_eq_zero_iff.1 (by omega)
      subst e1 e2
      rw [f1, f2, decide_eq_true (by simp)]
      exact equal_empty _ _ _ _ w
    · obtain ⟨b, o, c, g1, g2, g3, g4⟩ := h1.cells (by omega)
      obtain ⟨b', o', c', k1, k2, k3, k4⟩ := h2.cells (by omega)
      rw [g1, k1, ← el]
      exact equal_cells b o c b' o' c' _ ps qs w g3 (Lib.hid ⟨rfl, el.symm⟩) (Lib.hid g4) (Lib.hid k4)
  · rw [f1, f2, decide_eq_false (fun h => el (by rw [h]))]
    exact equal_len _ _ _ _ _ _ w el
/-- 'Same' tells whether both labels are the same. -/
theorem psame_any (v1 v2 : Value) (ps qs : List (Nat × Int)) (D E : Int) (w : World) (h1 : Reads w v1 ps) (h2 : Reads w v2 qs) :
    Calls Try.prog 45 #[.agg #[.int .i64 D, v1], .agg #[.int .i64 E, v2]] w fun e w' => e = .returned (.bool (decide (D = E ∧ ps = qs))) ∧ Below w.heap.size w w' := by
  have hB : Below w.heap.size w ((w.alloc (Obj.cells #[.int .i64 D, v1] 29)).alloc (Obj.cells #[.int .i64 E, v2] 29)) := ((Below.refl _ _).alloc (Nat.le_refl _) _).alloc (by simp) _
  have hk := heap_alloc_new (w.alloc (Obj.cells #[.int .i64 D, v1] 29)) (Obj.cells #[.int .i64 E, v2] 29)
  have C1 := Lib.hid (equal_any v1 v2 ps qs _ (h1.below hB) (h2.below hB))
  obtain ⟨r, er⟩ : ∃ r, decide (D = E ∧ ps = qs) = r := ⟨_, rfl⟩
  obtain ⟨s, es⟩ : ∃ s, decide (ps = qs) = s := ⟨_, rfl⟩
  rw [es] at C1
  rw [er]
  have HB := Lib.hid hB
  by_cases e : D = E
  · have HR := Lib.hid (show r = s by rw [← er, ← es, decide_eq_decide]; simp [e])
    have tf : (D == E) = true := by rw [beq_iff_eq]; exact e
    clear er es hB hk h1 h2 e
    go_enter Try.func45, Try.ntmps45
    go_wp2_with fail
    refine C1.out.mono ?_
    rintro e w1 ⟨rfl, hb1⟩
    have HF := Lib.hid (HB.out.trans (hb1.mono HB.out.size))
    clear hb1
    go_wp2_with fail
    go_ret
    exact ⟨by rw [HR.out]; rfl, HF.out⟩
  · have HR := Lib.hid (show r = false by rw [← er]; simp [e])
    have tf : (D == E) = false := by rw [beq_eq_false_iff_ne]; exact e
    clear er es hB hk h1 h2 e
    go_enter Try.func45, Try.ntmps45
    go_wp2_with fail
    go_ret
    exact ⟨by rw [HR.out]; rfl, HB.out⟩
end Go.Proofs.Ytmbdglhihakkjaa
-- with Sk
namespace Lab
/-- The category ahead of a place; 0 ahead of the first. -/
def lastOf (ps : List (Nat × Int)) : Nat → Nat
  | 0 => 0
  | j + 1 => match ps[j]? with
    | none => 0
    | some q => q.1
theorem lastOf_succ {ps : List (Nat × Int)} {k : Nat} {p : Nat × Int} (h : ps[k]? = some p) : lastOf ps (k + 1) = p.1 := by
  show (match ps[k]? with | none => 0 | some q => q.1) = p.1
  rw [h]
theorem last_rises {ps : List (Nat × Int)} {k c : Nat} {l : Int} (h : ps[k]? = some (c, l)) : lastOf ps k < c ↔ 1 ≤ c ∧ risesAt ps (c, l) k = true := by
  cases k with
  | zero => show 0 < c ↔ 1 ≤ c ∧ true = true; simp; omega
  | succ j =>
    obtain ⟨hk, _⟩ := List.getElem?_eq_some_iff.1 h
    have hj : ps[j]? = some ps[j] := List.getElem?_eq_getElem (by omega)
    show (match ps[j]? with | none => 0 | some q => q.1) < c ↔ 1 ≤ c ∧ (match ps[j]? with | none => true | some q => decide (q.1 < c)) = true
    rw [hj]; simp; omega
theorem okTo_false {D : Int} {ps : List (Nat × Int)} {k : Nat} (h : okTo D ps k = false) : ∀ m, okTo D ps (k + m) = false
  | 0 => h
  | m + 1 => by show (okTo D ps (k + m) && _) = false; rw [okTo_false h m]; rfl
theorem right_false {D : Int} {ps : List (Nat × Int)} {k : Nat} (h : okTo D ps k = false) (hk : k ≤ ps.length) : right D ps = false := by
  have := okTo_false h (ps.length - k)
  rwa [Nat.add_sub_cancel' hk] at this
theorem okTo_bad {D : Int} {ps : List (Nat × Int)} {k c : Nat} {l : Int} (h : ps[k]? = some (c, l)) (hb : ¬ (lastOf ps k < c ∧ c ≤ 1073741824 ∧ 0 ≤ l ∧ l ≤ 4 ∧ l ≠ D)) : right D ps = false := by
  refine right_false (k := k + 1) ?_ (by have := (List.getElem?_eq_some_iff.1 h).1; omega)
  rw [okTo_step h]
  have hl := last_rises h
  cases hok : okTo D ps k with
  | false => rfl
  | true =>
    cases hg : goodP D (c, l) with
    | false => rfl
    | true =>
      cases hr : risesAt ps (c, l) k with
      | false => rfl
      | true =>
        exfalso; apply hb
        simp [goodP] at hg
        exact ⟨hl.2 ⟨hg.1.1.1.1, hr⟩, hg.1.1.1.2, hg.1.1.2, hg.1.2, hg.2⟩
theorem okTo_good {D : Int} {ps : List (Nat × Int)} {k c : Nat} {l : Int} (h : ps[k]? = some (c, l)) (hok : okTo D ps k = true) (h1 : lastOf ps k < c) (h2 : c ≤ 1073741824) (h3 : 0 ≤ l) (h4 : l ≤ 4) (h5 : l ≠ D) : okTo D ps (k + 1) = true := by
  rw [okTo_step h, hok]
  obtain ⟨a, b⟩ := (last_rises h).1 h1
  simp [goodP, a, b, h2, h3, h4, h5]
end Lab
namespace Go.Proofs.Ytmbdglhihakkjaa
open Go.RowKit
set_option linter.unusedVariables false
set_option linter.unusedSimpArgs false

set_option maxHeartbeats 2000000 in
theorem pright_some (b off cap : Nat) (ps : List (Nat × Int)) (D : Int) (w : World) (hn : ps.length ≤ 140737488351232) (hb : b < w.heap.size)
   (hc : ∀ i p, ps[i]? = some p → w.cell? ⟨b, off + i * 2, none⟩ = some (.int .u32 p.1) ∧ w.cell? ⟨b, off + i * 2 + 1, none⟩ = some (.int .i64 p.2)) :
    Calls Try.prog 52 #[.agg #[.int .i64 D, .slice (some ⟨b, off, none⟩) ps.length cap]] w fun e w' => e = .returned (.bool (Lab.right D ps)) ∧ Below w.heap.size w w' := by
  have HC := Lib.hid hc
  clear hc
  obtain ⟨n, en⟩ : ∃ n, ps.length = n := ⟨_, rfl⟩
  have hr0 : Lab.right D ps = Lab.okTo D ps n := by rw [← en]; rfl
  have h00 : Lab.okTo D ps 0 = (decide (1 ≤ D) && decide (D ≤ 4) && decide (n ≤ 12)) := by rw [← en]; rfl
  have h0f : Lab.okTo D ps 0 = false → Lab.right D ps = false := fun h => Lab.right_false h (Nat.zero_le _)
  have HR := Lib.hid hr0
  have H00 := Lib.hid h00
  have H0F := Lib.hid h0f
  rw [en] at hn ⊢
  have EN := Lib.hid en
  clear en hr0 h00 h0f
  go_enter Try.func52, Try.ntmps52
  go_upto_region 1 with fail
  obtain ⟨W0, eW⟩ : ∃ W0, W0 = w.alloc (Obj.cells #[Value.int .i64 D, .slice (some ⟨b, off, none⟩) n cap] 29) := ⟨_, rfl⟩
  have hW : Below w.heap.size w W0 ∧ W0.heap.size = w.heap.size + 1 ∧ W0.heap[w.heap.size]? = some (Obj.cells #[Value.int .i64 D, .slice (some ⟨b, off, none⟩) n cap] 29) := by
    rw [eW]; exact ⟨(Below.refl _ _).alloc (Nat.le_refl _) _, by simp, heap_alloc_new w _⟩
  have HW := Lib.hid hW
  rw [← eW]
  have d0 : W0.cell? ⟨w.heap.size, 0, none⟩ = some (.int .i64 D) := by rw [cell_of_row _ _ 0 _ 29 (0, 0) hW.2.2]; rfl
  have d1 : W0.cell? ⟨w.heap.size, 1, none⟩ = some (.slice (some ⟨b, off, none⟩) n cap) := by rw [cell_of_row _ _ 1 _ 29 (0, 0) hW.2.2]; rfl
  clear hW eW
  by_cases h1 : 1 ≤ D
  · have g1 : ¬ D < 1 := by omega
    by_cases h2 : D ≤ 4
    · have g2 : ¬ 4 < D := by omega
      by_cases h3 : n ≤ 12
      · have g3 : ¬ (12 : Int) < (n : Int) := by omega
        have hv := Lib.hid (show Lab.okTo D ps 0 = true by rw [H00.out]; simp [h1, h2, h3])
        go_wp2_with fail
        go_loopg [3, 23] n (fun g s3 s4 wr => ∃ (k : Nat), k ≤ n ∧ Hid (g = n - k) ∧ s3 = .int .u32 (Lab.lastOf ps k : Nat) ∧ s4 = .int .i64 k ∧ Hid (Lab.okTo D ps k = true) ∧ Hid (Below (w.heap.size + 1) W0 wr))
        case atStart => exact ⟨0, by omega, Lib.hid (by omega), rfl, rfl, hv, Lib.hid (Below.refl _ _)⟩
        case round =>
          obtain ⟨k, hk, hg, rfl, rfl, hok, hbel⟩ := hrel
          clear hv
          have c0 : wr.cell? ⟨w.heap.size, 0, none⟩ = some (.int .i64 D) := by rw [hbel.out.cell (p := ⟨_, _, none⟩) (by simp)]; exact d0
          have hsz : w.heap.size + 1 ≤ wr.heap.size := by have := hbel.out.size; have := HW.out.2.1; omega
          have hcell : ∀ i p, ps[i]? = some p → wr.cell? ⟨b, off + i * 2, none⟩ = some (.int .u32 p.1) ∧ wr.cell? ⟨b, off + i * 2 + 1, none⟩ = some (.int .i64 p.2) := by
            intro i p hp
            have h2 : Below w.heap.size w wr := HW.out.1.trans (hbel.out.mono (by omega))
            rw [h2.cell (p := ⟨b, _, none⟩) hb, h2.cell (p := ⟨b, _, none⟩) hb]
            exact HC.out i p hp
          by_cases hlt : k < n
          · obtain ⟨⟨c, l⟩, hp⟩ : ∃ p, ps[k]? = some p := ⟨_, List.getElem?_eq_getElem (by rw [EN.out]; exact hlt)⟩
            obtain ⟨x1, x2⟩ := hcell k (c, l) hp
            have HP := Lib.hid hp
            obtain ⟨L, eL⟩ : ∃ L, Lab.lastOf ps k = L := ⟨_, rfl⟩
            rw [eL]
            have EL := Lib.hid eL
            have hB2 : Below (w.heap.size + 1) W0 (wr.alloc (Obj.cells #[.int .u32 (c : Int), .int .i64 l] 61)) := hbel.out.alloc hsz _
            have k2 := heap_alloc_new wr (Obj.cells #[.int .u32 (c : Int), .int .i64 l] 61)
            have c2 : (wr.alloc (Obj.cells #[.int .u32 (c : Int), .int .i64 l] 61)).cell? ⟨w.heap.size, 0, none⟩ = some (.int .i64 D) := by rw [hB2.cell (p := ⟨_, _, none⟩) (by simp)]; exact d0
            obtain ⟨s0, s1, s2, s3, _⟩ := fresh2 wr 61 (.int .u32 0) (.int .i64 0) (.int .u32 (c : Int)) (.int .i64 l)
            clear hcell hp eL
            go_upto_region 7 with fail
            obtain ⟨W2, eW2⟩ : ∃ W2, W2 = wr.alloc (Obj.cells #[Value.int .u32 (c : Int), Value.int .i64 l] 61) := ⟨_, rfl⟩
            rw [← eW2] at hB2 k2 c2 ⊢
            clear eW2 s0 s1 s2 s3 c0 x1 x2
            have q0 : W2.cell? ⟨wr.heap.size, 0, none⟩ = some (.int .u32 (c : Int)) := by rw [cell_of_row _ _ 0 _ 61 (0, 0) k2]; rfl
            have q1 : W2.cell? ⟨wr.heap.size, 1, none⟩ = some (.int .i64 l) := by rw [cell_of_row _ _ 1 _ 61 (0, 0) k2]; rfl
            have HBE := Lib.hid hB2
            have HF := Lib.hid (HW.out.1.trans (hB2.mono (by omega)))
            clear hB2 k2
            by_cases t1 : L < c
            · have u1 : ¬ (c : Int) ≤ (L : Int) := by omega
              by_cases t2 : c ≤ 1073741824
              · have u2 : ¬ (1073741824 : Int) < (c : Int) := by omega
                by_cases t3 : 0 ≤ l
                · have u3 : ¬ l < 0 := by omega
                  by_cases t4 : l ≤ 4
                  · have u4 : ¬ 4 < l := by omega
                    by_cases t5 : l ≠ D
                    · have u5 : (l == D) = false := by rw [beq_eq_false_iff_ne]; exact t5
                      have hv := Lib.hid (Lab.okTo_good HP.out hok.out (by rw [EL.out]; exact t1) t2 t3 t4 t5)
                      have hl := Lib.hid (Lab.lastOf_succ HP.out)
                      clear t5
                      go_wp2_with fail
                      go_roundg (n - (k + 1))
                      case measure => rw [hg.out]; omega
                      case rel => exact ⟨k + 1, by omega, Lib.hid rfl, by rw [hl.out], by go_num, hv, HBE⟩
                    · have u5 : (l == D) = true := by rw [beq_iff_eq]; omega
                      have hv := Lib.hid (Lab.okTo_bad (D := D) HP.out (by rw [EL.out]; omega))
                      clear t5
                      go_wp2_with fail
                      go_ret
                      exact ⟨by rw [hv.out]; rfl, HF.out⟩
                  · have u4 : 4 < l := by omega
                    have hv := Lib.hid (Lab.okTo_bad (D := D) HP.out (by rw [EL.out]; omega))
                    clear t4
                    go_wp2_with fail
                    go_ret
                    exact ⟨by rw [hv.out]; rfl, HF.out⟩
                · have u3 : l < 0 := by omega
                  have hv := Lib.hid (Lab.okTo_bad (D := D) HP.out (by rw [EL.out]; omega))
                  clear t3
                  go_wp2_with fail
                  go_ret
                  exact ⟨by rw [hv.out]; rfl, HF.out⟩
              · have u2 : (1073741824 : Int) < (c : Int) := by omega
                have hv := Lib.hid (Lab.okTo_bad (D := D) HP.out (by rw [EL.out]; omega))
                clear t2
                go_wp2_with fail
                go_ret
                exact ⟨by rw [hv.out]; rfl, HF.out⟩
            · have u1 : (c : Int) ≤ (L : Int) := by omega
              have hv := Lib.hid (Lab.okTo_bad (D := D) HP.out (by rw [EL.out]; omega))
              clear t1
              go_wp2_with fail
              go_ret
              exact ⟨by rw [hv.out]; rfl, HF.out⟩
          · have hkn : k = n := by omega
            have hv := Lib.hid (show Lab.right D ps = true by rw [HR.out, ← hkn]; exact hok.out)
            have HF := Lib.hid (HW.out.1.trans (hbel.out.mono (by omega)))
            clear hcell
            go_wp2_with fail
            go_ret
            exact ⟨by rw [hv.out]; rfl, HF.out⟩
      · have g3 : (12 : Int) < (n : Int) := by omega
        have hv := Lib.hid (H0F.out (by rw [H00.out]; simp [h1, h2, h3]))
        go_wp2_with fail
        go_ret
        exact ⟨by rw [hv.out]; rfl, HW.out.1⟩
    · have g2 : 4 < D := by omega
      have hv := Lib.hid (H0F.out (by rw [H00.out]; simp [h1, h2]))
      go_wp2_with fail
      go_ret
      exact ⟨by rw [hv.out]; rfl, HW.out.1⟩
  · have g1 : D < 1 := by omega
    have hv := Lib.hid (H0F.out (by rw [H00.out]; simp [h1]))
    go_wp2_with fail
    go_ret
    exact ⟨by rw [hv.out]; rfl, HW.out.1⟩
theorem pright_empty (D : Int) (a0 : Option Addr) (c0 : Nat) (w : World) : Calls Try.prog 52 #[.agg #[.int .i64 D, .slice a0 0 c0]] w fun e w' => e = .returned (.bool (Lab.right D [])) ∧ Below w.heap.size w w' := by
  have HB := Lib.hid (show Below w.heap.size w (w.alloc (Obj.cells #[.int .i64 D, .slice a0 0 c0] 29)) from (Below.refl _ _).alloc (Nat.le_refl _) _)
  by_cases h1 : 1 ≤ D
  · have g1 : ¬ D < 1 := by omega
    by_cases h2 : D ≤ 4
    · have g2 : ¬ 4 < D := by omega
      have hv := Lib.hid (show Lab.right D [] = true by simp [Lab.right, Lab.okTo, h1, h2])
      go_enter Try.func52, Try.ntmps52
      go_wp2_with fail
      go_loopg [23] 0 (fun g i wr => i = .int .i64 0 ∧ wr = w.alloc (Obj.cells #[.int .i64 D, .slice a0 0 c0] 29))
      case atStart => exact ⟨rfl, rfl⟩
      case round =>
        obtain ⟨rfl, rfl⟩ := hrel
        go_wp2_with fail
        go_ret
        exact ⟨by rw [hv.out]; rfl, HB.out⟩
    · have g2 : 4 < D := by omega
      have hv := Lib.hid (show Lab.right D [] = false by simp [Lab.right, Lab.okTo, h1, h2])
      go_enter Try.func52, Try.ntmps52
      go_wp2_with fail
      go_ret
      exact ⟨by rw [hv.out]; rfl, HB.out⟩
  · have g1 : D < 1 := by omega
    have hv := Lib.hid (show Lab.right D [] = false by simp [Lab.right, Lab.okTo, h1])
    go_enter Try.func52, Try.ntmps52
    go_wp2_with fail
    go_ret
    exact ⟨by rw [hv.out]; rfl, HB.out⟩
theorem pright_any (v : Value) (ps : List (Nat × Int)) (D : Int) (w : World) (h : Reads w v ps) :
    Calls Try.prog 52 #[.agg #[.int .i64 D, v]] w fun e w' => e = .returned (.bool (Lab.right D ps)) ∧ Below w.heap.size w w' := by
  rcases h with ⟨rfl, rfl⟩ | ⟨b, off, cap, rfl, h2, h3, h4⟩
  · exact pright_empty D _ _ w
  · exact pright_some b off cap ps D w h3 h2 h4
end Go.Proofs.Ytmbdglhihakkjaa
-- with Sl
namespace Go.Proofs.Ytmbdglhihakkjaa
open Go.RowKit
set_option linter.unusedVariables false
set_option linter.unusedSimpArgs false

set_option maxHeartbeats 1000000 in
theorem powns_some (b off cap : Nat) (ps : List (Nat × Int)) (D : Int) (w : World) (hn : ps.length ≤ 140737488351232 / 4) (hb : b < w.heap.size)
   (hc : ∀ i p, ps[i]? = some p → w.cell? ⟨b, off + i * 2, none⟩ = some (.int .u32 p.1) ∧ w.cell? ⟨b, off + i * 2 + 1, none⟩ = some (.int .i64 p.2)) :
    Calls Try.prog 40 #[.agg #[.int .i64 D, .slice (some ⟨b, off, none⟩) ps.length cap]] w fun e w' =>
      ∃ v, e = .returned v ∧ w'.ownsRow (w.heap.size + 1) 42 1 v (Lab.owns ps).length (U (Lab.owns ps)) ∧ Below w.heap.size w w' := by
  obtain ⟨i0, hi, hz0, hz1, hz2⟩ := info_parts info37
  have HC := Lib.hid hc
  clear hc
  obtain ⟨n, en⟩ : ∃ n, ps.length = n := ⟨_, rfl⟩
  rw [en] at hn ⊢
  have ER := Lib.hid en
  clear en
  go_enter Try.func40, Try.ntmps40
  go_wp2
  go_loopg [3, 9] n (fun g out i wr => ∃ k : Nat, k ≤ n ∧ g = n - k ∧ i = .int .i64 k ∧ OwnsRel ps w D (.slice (some ⟨b, off, none⟩) n cap) k out wr)
  case atStart => exact ⟨0, by omega, by omega, rfl, by rw [owns_zero]; exact World.ownsRow_nil _ _ _ _, Below.refl _ _⟩
  case round =>
    obtain ⟨k, hk, hg, rfl, hown, hbel⟩ := hrel
    have HG := Lib.hid hg
    have hsz : w.heap.size + 1 ≤ wr.heap.size := by have := hbel.size; simp at this; omega
    have hl := Lab.owns_len ps k
    clear hg
    by_cases hlt : k < n
    · obtain ⟨p, hp⟩ : ∃ p, ps[k]? = some p := ⟨_, List.getElem?_eq_getElem (by rw [ER.out]; exact hlt)⟩
      obtain ⟨x1, x2⟩ := HC.out k p hp
      have y1 : wr.cell? ⟨b, off + k * 2, none⟩ = some (.int .u32 p.1) := by rw [hbel.cell (p := ⟨b, _, none⟩) (by simp; omega)]; rw [← x1]; exact World.cell?_alloc_old _ _ _ (by simp; omega)
      have y2 : wr.cell? ⟨b, off + k * 2 + 1, none⟩ = some (.int .i64 p.2) := by rw [hbel.cell (p := ⟨b, _, none⟩) (by simp; omega)]; rw [← x2]; exact World.cell?_alloc_old _ _ _ (by simp; omega)
      clear x1 x2
      obtain ⟨p1, p2⟩ := p
      have hB2 : Below (w.heap.size + 1) (w.alloc (Obj.cells #[.int .i64 D, .slice (some ⟨b, off, none⟩) n cap] 29)) (wr.alloc (Obj.cells #[.int .u32 (p1 : Int), .int .i64 p2] 61)) := hbel.alloc hsz _
      have hO2 := hown.alloc (Obj.cells #[.int .u32 (p1 : Int), .int .i64 p2] 61)
      have k2 := heap_alloc_new wr (Obj.cells #[.int .u32 (p1 : Int), .int .i64 p2] 61)
      have hsz2 : w.heap.size + 1 ≤ (wr.alloc (Obj.cells #[.int .u32 (p1 : Int), .int .i64 p2] 61)).heap.size := by simp; omega
      obtain ⟨s0, s1, s2, s3, _⟩ := fresh2 wr 61 (.int .u32 0) (.int .i64 0) (.int .u32 (p1 : Int)) (.int .i64 p2)
      have HP := Lib.hid hp
      clear hown hbel hp
      go_upto_region 5 with fail
      obtain ⟨W2, eW2⟩ : ∃ W2, W2 = wr.alloc (Obj.cells #[Value.int .u32 (p1 : Int), Value.int .i64 p2] 61) := ⟨_, rfl⟩
      rw [← eW2] at hB2 hO2 k2 hsz2 ⊢
      clear eW2 s0 s1 s2 s3 y1 y2
      have q0 : W2.cell? ⟨wr.heap.size, 0, none⟩ = some (.int .u32 (p1 : Int)) := by rw [cell_of_row _ _ 0 _ 61 (0, 0) k2]; rfl
      have q1 : W2.cell? ⟨wr.heap.size, 1, none⟩ = some (.int .i64 p2) := by rw [cell_of_row _ _ 1 _ 61 (0, 0) k2]; rfl
      have HO := Lib.hid hO2
      have HB := Lib.hid hB2
      clear hO2 hB2 k2
      by_cases e : p2 = 0
      · have hit := Lib.hid (Lab.owns_hit HP.out e)
        have e' : (p2 == 0) = true := by rw [beq_iff_eq]; exact e
        clear e
        go_wp2_with (at_builtin; refine wpList_append_own _ rfl _ _ 55 rfl (w.heap.size + 1) 42 i0 (.int .u32 0) 1 4 Try.underlying55 hi hz0 hz1 hz2 rfl (by decide) _ _ _ rfl (HO.out.alloc _) ⟨W2.heap.size, 0, none⟩ 1 1 [.int .u32 p1] rfl rfl (one_new _ _ _) ?c2 ?c3 ?c4 ?c5 ?_)
        case c2 => rfl
        case c3 => unfold maxLen; omega
        case c4 => omega
        case c5 => first | omega | (rw [World.size_alloc]; omega)
        intro v' w1 hown' hgrow _
        have hbel' : Below (w.heap.size + 1) (w.alloc (Obj.cells #[.int .i64 D, .slice (some ⟨b, off, none⟩) n cap] 29)) w1 :=
          (HB.out.alloc hsz2 _).grown hgrow (by simp; omega) (fun k hk => (HO.out.lt k hk).1)
        have HO' := Lib.hid hown'
        have HB' := Lib.hid hbel'
        clear hown' hgrow hbel'
        go_wp2
        go_roundg (n - (k + 1))
        case rel =>
          refine ⟨k + 1, by omega, rfl, by go_num, ?_, HB'.out⟩
          rw [hit.out, U_snoc, List.length_append]; exact HO'.out
        case measure => have := HG.out; omega
      · have hit := Lib.hid (Lab.owns_miss HP.out e)
        have e' : (p2 == 0) = false := by rw [beq_eq_false_iff_ne]; exact e
        clear e
        go_wp2
        go_roundg (n - (k + 1))
        case rel =>
          refine ⟨k + 1, by omega, rfl, by go_num, ?_, HB.out⟩
          rw [hit.out]; exact HO.out
        case measure => have := HG.out; omega
    · have HO := Lib.hid hown
      have HB := Lib.hid hbel
      clear hown hbel
      have e := Lib.hid (List.take_of_length_le (l := ps) (i := k) (by rw [ER.out]; omega))
      go_wp2
      go_ret
      refine ⟨_, rfl, ?_, ⟨HB.out.os, HB.out.tape, HB.out.output, by simpa using by omega, fun i hi => ?_⟩⟩
      · have := HO.out; rw [e.out] at this; exact this
      · rw [HB.out.block i (by omega)]; exact Below.heap_alloc _ _ _ hi
theorem powns_none (D : Int) (w : World) :
    Calls Try.prog 40 #[.agg #[.int .i64 D, .slice none 0 0]] w fun e w' => e = .returned (.slice none 0 0) ∧ Below w.heap.size w w' := by
  go_enter Try.func40, Try.ntmps40
  go_wp2
  go_loop [3, 9] (fun o i => o = .slice none 0 0 ∧ i = .int .i64 0) (fun o i => 0)
  case atStart => exact ⟨rfl, rfl⟩
  case round =>
    obtain ⟨rfl, rfl⟩ := hrel
    go_wp2
    go_ret
    exact ⟨rfl, (Below.refl _ _).alloc (Nat.le_refl _) _⟩
theorem powns_any (v : Value) (ps : List (Nat × Int)) (D : Int) (w : World) (h : Reads w v ps) (hn : ps.length ≤ 140737488351232 / 4) :
    Calls Try.prog 40 #[.agg #[.int .i64 D, v]] w fun e w' =>
      ∃ v, e = .returned v ∧ w'.ownsRow (w.heap.size + 1) 42 1 v (Lab.owns ps).length (U (Lab.owns ps)) ∧ Below w.heap.size w w' := by
  rcases h with ⟨rfl, rfl⟩ | ⟨b, off, cap, rfl, h2, h3, h4⟩
  · refine (powns_none D w).mono ?_
    rintro e w' ⟨rfl, h⟩
    exact ⟨_, rfl, World.ownsRow_nil _ _ _ _, h⟩
  · exact powns_some b off cap ps D w hn h2 h4
end Go.Proofs.Ytmbdglhihakkjaa
