import Derived.Test.YtjmfjehjlnghmaaRa
namespace Go.Proofs.Ytjmfjehjlnghmaa
open Go.RowKit
set_option linter.unusedVariables false
set_option linter.unusedSimpArgs false

theorem Reads.form {w : World} {v : Value} {ps : List (Nat × Int)} (h : Reads w v ps) : ∃ a cap, v = .slice a ps.length cap := by
  rcases h with ⟨rfl, rfl⟩ | ⟨b, off, cap, rfl, _⟩
  · exact ⟨none, 0, rfl⟩
  · exact ⟨_, _, rfl⟩
theorem Reads.cells {w : World} {v : Value} {ps : List (Nat × Int)} (h : Reads w v ps) (hn : 0 < ps.length) : ∃ b off cap, v = .slice (some ⟨b, off, none⟩) ps.length cap ∧ b < w.heap.size ∧ ps.length ≤ 140737488351232 ∧
    ∀ i p, ps[i]? = some p → w.cell? ⟨b, off + i * 2, none⟩ = some (.int .u32 p.1) ∧ w.cell? ⟨b, off + i * 2 + 1, none⟩ = some (.int .i64 p.2) := by
  rcases h with ⟨rfl, rfl⟩ | h
  · simp at hn
  · exact h
theorem below_drewN {B : Nat} {a w : World} (h : Below B a w) (n : Nat) : Below B a (w.drewN n) := ⟨h.os, h.tape, h.output, h.size, h.block⟩
theorem same_default (v1 v2 : Value) (D E : Int) (w : World) (h : (D == E) = false) (h3 : (D != E) = true) :
    Calls Try.prog 12 #[.agg #[.int .i64 D, v1], .agg #[.int .i64 E, v2]] w fun e w' => e = .returned (.bool false) ∧ Below w.heap.size w w' := by
  go_enter Try.func12, Try.ntmps12
  go_wp2
  go_ret
  exact ⟨rfl, ((Below.refl _ _).alloc (Nat.le_refl _) _).alloc (by simp) _⟩
theorem same_len (a1 a2 : Option Addr) (n1 n2 c1 c2 : Nat) (D : Int) (w : World) (h : ¬ n1 = n2) :
    Calls Try.prog 12 #[.agg #[.int .i64 D, .slice a1 n1 c1], .agg #[.int .i64 D, .slice a2 n2 c2]] w fun e w' => e = .returned (.bool false) ∧ Below w.heap.size w w' := by
  have h2 : ((n1 : Int) == n2) = false := by rw [beq_eq_false_iff_ne]; omega
  have h3 : ((n1 : Int) != n2) = true := by rw [bne_iff_ne]; omega
  go_enter Try.func12, Try.ntmps12
  go_wp2
  go_ret
  exact ⟨rfl, ((Below.refl _ _).alloc (Nat.le_refl _) _).alloc (by simp) _⟩
theorem same_empty (a1 a2 : Option Addr) (c1 c2 : Nat) (D : Int) (w : World) :
    Calls Try.prog 12 #[.agg #[.int .i64 D, .slice a1 0 c1], .agg #[.int .i64 D, .slice a2 0 c2]] w fun e w' => e = .returned (.bool true) ∧ Below w.heap.size w w' := by
  go_enter Try.func12, Try.ntmps12
  go_wp2
  go_loopg [5] 0 (fun g i wr => i = .int .i64 0 ∧ wr = (w.alloc (Obj.cells #[.int .i64 D, .slice a1 0 c1] 31)).alloc (Obj.cells #[.int .i64 D, .slice a2 0 c2] 31))
  case atStart => exact ⟨rfl, rfl⟩
  case round =>
    obtain ⟨rfl, rfl⟩ := hrel
    go_wp2
    go_ret
    exact ⟨rfl, ((Below.refl _ _).alloc (Nat.le_refl _) _).alloc (by simp) _⟩
set_option maxHeartbeats 1000000 in
theorem same_cells (b1 o1 c1 b2 o2 c2 n : Nat) (ps qs : List (Nat × Int)) (D : Int) (w : World) (hn : n ≤ 140737488351232) (hb1 : b1 < w.heap.size) (hb2 : b2 < w.heap.size) (L : Hid (ps.length = n ∧ qs.length = n))
   (h1 : Hid (∀ i p, ps[i]? = some p → w.cell? ⟨b1, o1 + i * 2, none⟩ = some (.int .u32 p.1) ∧ w.cell? ⟨b1, o1 + i * 2 + 1, none⟩ = some (.int .i64 p.2)))
   (h2 : Hid (∀ i p, qs[i]? = some p → w.cell? ⟨b2, o2 + i * 2, none⟩ = some (.int .u32 p.1) ∧ w.cell? ⟨b2, o2 + i * 2 + 1, none⟩ = some (.int .i64 p.2))) :
    Calls Try.prog 12 #[.agg #[.int .i64 D, .slice (some ⟨b1, o1, none⟩) n c1], .agg #[.int .i64 D, .slice (some ⟨b2, o2, none⟩) n c2]] w fun e w' => e = .returned (.bool (decide (ps = qs))) ∧ Below w.heap.size w w' := by
  obtain ⟨r, er⟩ : ∃ r, decide (ps = qs) = r := ⟨_, rfl⟩
  rw [er]
  have ER := Lib.hid er
  clear er
  go_enter Try.func12, Try.ntmps12
  go_wp2
  go_loopg [5] n (fun g i wr => ∃ k m : Nat, k ≤ n ∧ g = n - k ∧ Hid (ps.take k = qs.take k) ∧ i = .int .i64 k ∧ wr = ((w.alloc (Obj.cells #[.int .i64 D, .slice (some ⟨b1, o1, none⟩) n c1] 31)).alloc (Obj.cells #[.int .i64 D, .slice (some ⟨b2, o2, none⟩) n c2] 31)).drewN m)
  case atStart => exact ⟨0, 0, by omega, by omega, Lib.hid (by simp), rfl, rfl⟩
  case round =>
    obtain ⟨k, m, hk, hg, ht, rfl, rfl⟩ := hrel
    have HG := Lib.hid hg
    clear hg
    by_cases hlt : k < n
    · obtain ⟨p, hp⟩ : ∃ p, ps[k]? = some p := ⟨_, List.getElem?_eq_getElem (by rw [L.out.1]; exact hlt)⟩
      obtain ⟨q, hq⟩ : ∃ q, qs[k]? = some q := ⟨_, List.getElem?_eq_getElem (by rw [L.out.2]; exact hlt)⟩
      obtain ⟨x1, x2⟩ := h1.out k p hp
      obtain ⟨y1, y2⟩ := h2.out k q hq
      have HP := Lib.hid (And.intro hp hq)
      clear hp hq
      obtain ⟨p1, p2⟩ := p
      obtain ⟨s1, s2⟩ := q
      by_cases e1 : p1 = s1
      · subst e1
        by_cases e2 : p2 = s2
        · subst e2
          have hn := Lib.hid (Lab.take_snoc_eq ht.out HP.out.1 HP.out.2)
          clear ht
          go_wp2
          go_quiet (fail)
          go_wp2_with fail
          go_roundg (n - (k + 1))
          case measure => rw [HG.out]; omega
          case rel => exact ⟨k + 1, _, by omega, rfl, hn.out, by go_num, rfl⟩
        · have hr := Lib.hid (ER.out.symm.trans (decide_eq_false (Lab.ne_at HP.out.1 HP.out.2 (fun e => e2 (Prod.mk.inj e).2))))
          clear ht
          go_wp2
          go_quiet (fail)
          go_wp2_with fail
          go_ret
          exact ⟨by rw [hr.out]; rfl, below_drewN (below_drewN (((Below.refl _ _).alloc (Nat.le_refl _) _).alloc (by simp) _) _) _⟩
      · have hr := Lib.hid (ER.out.symm.trans (decide_eq_false (Lab.ne_at HP.out.1 HP.out.2 (fun e => e1 (Prod.mk.inj e).1))))
        have e3 : ¬ (p1 : Int) = s1 := by omega
        clear ht e1
        go_wp2
        go_quiet (fail)
        go_wp2_with fail
        go_ret
        exact ⟨by rw [hr.out]; rfl, below_drewN (below_drewN (((Below.refl _ _).alloc (Nat.le_refl _) _).alloc (by simp) _) _) _⟩
    · have hr := Lib.hid (ER.out.symm.trans (decide_eq_true (Lab.take_all (k := k) ht.out (by rw [L.out.1]; omega) (by rw [L.out.2]; omega))))
      clear ht
      go_wp2
      go_ret
      exact ⟨by rw [hr.out]; rfl, below_drewN (((Below.refl _ _).alloc (Nat.le_refl _) _).alloc (by simp) _) _⟩
/-- The document's 'Same' tells whether both labels are the same. -/
theorem same_any (v1 v2 : Value) (ps qs : List (Nat × Int)) (D E : Int) (w : World) (h1 : Reads w v1 ps) (h2 : Reads w v2 qs) :
    Calls Try.prog 12 #[.agg #[.int .i64 D, v1], .agg #[.int .i64 E, v2]] w fun e w' => e = .returned (.bool (decide (D = E ∧ ps = qs))) ∧ Below w.heap.size w w' := by
  obtain ⟨a1, c1, f1⟩ := h1.form
  obtain ⟨a2, c2, f2⟩ := h2.form
  by_cases e : D = E
  · subst e
    by_cases el : ps.length = qs.length
    · by_cases e0 : ps.length = 0
      · have e1 : ps = [] := List.length_eq_zero_iff.1 e0
        have e2 : qs = [] := List.length_eq_zero_iff.1 (by omega)
        subst e1 e2
        rw [f1, f2, decide_eq_true (by simp)]
        exact same_empty _ _ _ _ D w
      · obtain ⟨b, o, c, g1, g2, g3, g4⟩ := h1.cells (by omega)
        obtain ⟨b', o', c', k1, k2, k3, k4⟩ := h2.cells (by omega)
        rw [g1, k1, ← el]
        have hd : decide (D = D ∧ ps = qs) = decide (ps = qs) := by rw [decide_eq_decide]; simp
        rw [hd]
        exact same_cells b o c b' o' c' _ ps qs D w g3 g2 k2 (Lib.hid ⟨rfl, el.symm⟩) (Lib.hid g4) (Lib.hid k4)
    · rw [f1, f2, decide_eq_false (fun h => el (by rw [h.2]))]
      exact same_len _ _ _ _ _ _ D w el
  · rw [decide_eq_false (fun h => e h.1)]
    exact same_default v1 v2 D E w (by rw [beq_eq_false_iff_ne]; exact e) (by rw [bne_iff_ne]; exact e)
end Go.Proofs.Ytjmfjehjlnghmaa
