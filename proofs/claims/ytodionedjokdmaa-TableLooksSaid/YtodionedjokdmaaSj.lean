import Derived.Test.YtodionedjokdmaaSf
import Derived.Test.YtodionedjokdmaaRb
import Derived.Laws.AppendOwn
import Derived.Laws.OwnMore
import Derived.OwnWalk
namespace Go.Proofs.Ytodionedjokdmaa
open Go.RowKit
set_option linter.unusedVariables false
set_option linter.unusedSimpArgs false

theorem equal_len (a1 a2 : Option Addr) (n1 n2 c1 c2 : Nat) (w : World) (h : ¬ n1 = n2) :
    Calls Try.prog 31 #[.slice a1 n1 c1, .slice a2 n2 c2] w fun e w' => e = .returned (.bool false) ∧ Below w.heap.size w w' := by
  have h2 : ((n1 : Int) == n2) = false := by rw [beq_eq_false_iff_ne]; omega
  have h3 : ((n1 : Int) != n2) = true := by rw [bne_iff_ne]; omega
  go_enter Try.func31, Try.ntmps31
  go_wp2
  go_ret
  exact ⟨rfl, Below.refl _ _⟩
theorem equal_empty (a1 a2 : Option Addr) (c1 c2 : Nat) (w : World) :
    Calls Try.prog 31 #[.slice a1 0 c1, .slice a2 0 c2] w fun e w' => e = .returned (.bool true) ∧ Below w.heap.size w w' := by
  go_enter Try.func31, Try.ntmps31
  go_wp2
  go_loopg [13] 0 (fun g i wr => i = .int .i64 0 ∧ wr = w)
  case atStart => exact ⟨rfl, rfl⟩
  case round =>
    obtain ⟨rfl, rfl⟩ := hrel
    go_wp2
    go_ret
    exact ⟨rfl, Below.refl _ _⟩
set_option maxHeartbeats 1000000 in
theorem equal_cells (b1 o1 c1 b2 o2 c2 n : Nat) (ps qs : List (Nat × Int)) (w : World) (hn : n ≤ 140737488351232) (L : Hid (ps.length = n ∧ qs.length = n))
   (h1 : Hid (∀ i p, ps[i]? = some p → w.cell? ⟨b1, o1 + i * 2, none⟩ = some (.int .u32 p.1) ∧ w.cell? ⟨b1, o1 + i * 2 + 1, none⟩ = some (.int .i64 p.2)))
   (h2 : Hid (∀ i p, qs[i]? = some p → w.cell? ⟨b2, o2 + i * 2, none⟩ = some (.int .u32 p.1) ∧ w.cell? ⟨b2, o2 + i * 2 + 1, none⟩ = some (.int .i64 p.2))) :
    Calls Try.prog 31 #[.slice (some ⟨b1, o1, none⟩) n c1, .slice (some ⟨b2, o2, none⟩) n c2] w fun e w' => e = .returned (.bool (decide (ps = qs))) ∧ Below w.heap.size w w' := by
  obtain ⟨r, er⟩ : ∃ r, decide (ps = qs) = r := ⟨_, rfl⟩
  rw [er]
  have ER := Lib.hid er
  clear er
  go_enter Try.func31, Try.ntmps31
  go_wp2
  go_loopg [13] n (fun g i wr => ∃ k m : Nat, k ≤ n ∧ g = n - k ∧ Hid (ps.take k = qs.take k) ∧ i = .int .i64 k ∧ wr = w.drewN m)
  case atStart => exact ⟨0, 0, by omega, by omega, Lib.hid (by simp), rfl, rfl⟩
  case round =>
    obtain ⟨k, m, hk, hg, ht, rfl, rfl⟩ := hrel
    have HG := Lib.hid hg
    clear hg
    by_cases hlt : k < n
    · obtain ⟨p, hp⟩ : ∃ p, ps[k]? = some p := ⟨_, List.getElem?_eq_getElem (by rw [L.out.1]; exact hlt)⟩
      obtain ⟨q, hq⟩ : ∃ q, qs[k]? = some q := ⟨_, List.getElem?_eq_getElem (by rw [L.out.2]; exact hlt)⟩
      obtain ⟨x1, x2⟩ := h1.out k p hp
      obtain ⟨y1, y2⟩ := h2.out k q hq
      have HP := Lib.hid (And.intro hp hq)
      clear hp hq
      obtain ⟨p1, p2⟩ := p
      obtain ⟨s1, s2⟩ := q
      by_cases e1 : p1 = s1
      · subst e1
        by_cases e2 : p2 = s2
        · subst e2
          have hn := Lib.hid (Lab.take_snoc_eq ht.out HP.out.1 HP.out.2)
          clear ht
          go_wp2
          go_quiet (fail)
          go_wp2_with fail
          go_roundg (n - (k + 1))
          case measure => rw [HG.out]; omega
          case rel => exact ⟨k + 1, _, by omega, rfl, hn.out, by go_num, rfl⟩
        · have hr := Lib.hid (ER.out.symm.trans (decide_eq_false (Lab.ne_at HP.out.1 HP.out.2 (fun e => e2 (Prod.mk.inj e).2))))
          clear ht
          go_wp2
          go_quiet (fail)
          go_wp2_with fail
          go_ret
          exact ⟨by rw [hr.out]; rfl, below_drewN (below_drewN (Below.refl _ _) _) _⟩
      · have hr := Lib.hid (ER.out.symm.trans (decide_eq_false (Lab.ne_at HP.out.1 HP.out.2 (fun e => e1 (Prod.mk.inj e).1))))
        have e3 : ¬ (p1 : Int) = s1 := by omega
        clear ht e1
        go_wp2
        go_quiet (fail)
        go_wp2_with fail
        go_ret
        exact ⟨by rw [hr.out]; rfl, below_drewN (below_drewN (Below.refl _ _) _) _⟩
    · have hr := Lib.hid (ER.out.symm.trans (decide_eq_true (Lab.take_all (k := k) ht.out (by rw [L.out.1]; omega) (by rw [L.out.2]; omega))))
      clear ht
      go_wp2
      go_ret
      exact ⟨by rw [hr.out]; rfl, below_drewN (Below.refl _ _) _⟩
theorem equal_any (v1 v2 : Value) (ps qs : List (Nat × Int)) (w : World) (h1 : Reads w v1 ps) (h2 : Reads w v2 qs) :
    Calls Try.prog 31 #[v1, v2] w fun e w' => e = .returned (.bool (decide (ps = qs))) ∧ Below w.heap.size w w' := by
  obtain ⟨a1, c1, f1⟩ := h1.form
  obtain ⟨a2, c2, f2⟩ := h2.form
  by_cases el : ps.length = qs.length
  · by_cases e0 : ps.length = 0
    · have e1 : ps = [] := List.length_eq_zero_iff.1 e0
      have e2 : qs = [] := List.length_eq_zero_iff.1 (by omega)
      subst e1 e2
      rw [f1, f2, decide_eq_true (by simp)]
      exact equal_empty _ _ _ _ w
    · obtain ⟨b, o, c, g1, g2, g3, g4⟩ := h1.cells (by omega)
      obtain ⟨b', o', c', k1, k2, k3, k4⟩ := h2.cells (by omega)
      rw [g1, k1, ← el]
      exact equal_cells b o c b' o' c' _ ps qs w g3 (Lib.hid ⟨rfl, el.symm⟩) (Lib.hid g4) (Lib.hid k4)
  · rw [f1, f2, decide_eq_false (fun h => el (by rw [h]))]
    exact equal_len _ _ _ _ _ _ w el
/-- 'Same' tells whether both labels are the same. -/
theorem psame_any (v1 v2 : Value) (ps qs : List (Nat × Int)) (D E : Int) (w : World) (h1 : Reads w v1 ps) (h2 : Reads w v2 qs) :
    Calls Try.prog 19 #[.agg #[.int .i64 D, v1], .agg #[.int .i64 E, v2]] w fun e w' => e = .returned (.bool (decide (D = E ∧ ps = qs))) ∧ Below w.heap.size w w' := by
  have hB : Below w.heap.size w ((w.alloc (Obj.cells #[.int .i64 D, v1] 44)).alloc (Obj.cells #[.int .i64 E, v2] 44)) := ((Below.refl _ _).alloc (Nat.le_refl _) _).alloc (by simp) _
  have hk := heap_alloc_new (w.alloc (Obj.cells #[.int .i64 D, v1] 44)) (Obj.cells #[.int .i64 E, v2] 44)
  have C1 := Lib.hid (equal_any v1 v2 ps qs _ (h1.below hB) (h2.below hB))
  obtain ⟨r, er⟩ : ∃ r, decide (D = E ∧ ps = qs) = r := ⟨_, rfl⟩
  obtain ⟨s, es⟩ : ∃ s, decide (ps = qs) = s := ⟨_, rfl⟩
  rw [es] at C1
  rw [er]
  have HB := Lib.hid hB
  by_cases e : D = E
  · have HR := Lib.hid (show r = s by rw [← er, ← es, decide_eq_decide]; simp [e])
    have tf : (D == E) = true := by rw [beq_iff_eq]; exact e
    clear er es hB hk h1 h2 e
    go_enter Try.func19, Try.ntmps19
    go_wp2_with fail
    refine C1.out.mono ?_
    rintro e w1 ⟨rfl, hb1⟩
    have HF := Lib.hid (HB.out.trans (hb1.mono HB.out.size))
    clear hb1
    go_wp2_with fail
    go_ret
    exact ⟨by rw [HR.out]; rfl, HF.out⟩
  · have HR := Lib.hid (show r = false by rw [← er]; simp [e])
    have tf : (D == E) = false := by rw [beq_eq_false_iff_ne]; exact e
    clear er es hB hk h1 h2 e
    go_enter Try.func19, Try.ntmps19
    go_wp2_with fail
    go_ret
    exact ⟨by rw [HR.out]; rfl, HB.out⟩
end Go.Proofs.Ytodionedjokdmaa
