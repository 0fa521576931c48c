import Derived.Test.YtmadldgajjgbmaaNa
import Derived.Test.YtmadldgajjgbmaaRows
import Derived.WalkKit
import Derived.WalkLawsBesides
import Derived.WalkSpells
import Derived.Lib.Hide
import Derived.Outline
import Derived.BigQuiet
import Derived.Deep.QuietTactic
import Derived.Deep.LoopGhost
import Derived.Laws.AppendOwn
import Derived.Laws.OwnMore
import Derived.OwnWalk
import Derived.Laws.AppendOwnNone
import Derived.Deep.AppendLies
import Derived.Deep.RegionHeldLaw
import Derived.Deep.DeepCutAuto
import Derived.Deep.CutBlock
import Derived.IntWalk
import Derived.Deep.RegionLaw
import Derived.Deep.RegionHeld3
namespace Go.Proofs.Ytmadldgajjgbmaa
open Go.RowKit
set_option linter.unusedVariables false
set_option linter.unusedSimpArgs false

/-- A slice of pairs reads as a list of them. -/
def Reads (w : World) (v : Value) (ps : List (Nat × Int)) : Prop :=
  (v = .slice none 0 0 ∧ ps = []) ∨ ∃ b off cap, v = .slice (some ⟨b, off, none⟩) ps.length cap ∧ b < w.heap.size ∧ ps.length ≤ 140737488351232 ∧
    ∀ i p, ps[i]? = some p → w.cell? ⟨b, off + i * 2, none⟩ = some (.int .u32 p.1) ∧ w.cell? ⟨b, off + i * 2 + 1, none⟩ = some (.int .i64 p.2)
theorem Reads.below {w w' : World} {v : Value} {ps : List (Nat × Int)} (h : Reads w v ps) (hb : Below w.heap.size w w') : Reads w' v ps := by
  rcases h with h | ⟨b, off, cap, h1, h2, h3, h4⟩
  · exact .inl h
  · refine .inr ⟨b, off, cap, h1, Nat.lt_of_lt_of_le h2 hb.size, h3, fun i p hp => ?_⟩
    rw [hb.cell (p := ⟨b, _, none⟩) h2, hb.cell (p := ⟨b, _, none⟩) h2]
    exact h4 i p hp
theorem at_none (D : Int) (c : Nat) (w : World) :
    Calls Try.prog 39 #[.agg #[.int .i64 D, .slice none 0 0], .int .u32 c] w fun e w' => e = .returned (.int .i64 D) ∧ Below w.heap.size w w' := by
  go_enter Try.func39, Try.ntmps39
  go_wp2
  go_loop [5] (fun i => i = .int .i64 0) (fun i => 0)
  case atStart => rfl
  case round =>
    subst hrel
    go_wp2
    go_ret
    exact ⟨rfl, (Below.refl _ _).alloc (Nat.le_refl _) _⟩
set_option maxHeartbeats 1000000 in
theorem at_some (b off cap : Nat) (ps : List (Nat × Int)) (D : Int) (c : Nat) (w : World) (hn : ps.length ≤ 140737488351232) (hb : b < w.heap.size)
   (hc : ∀ i p, ps[i]? = some p → w.cell? ⟨b, off + i * 2, none⟩ = some (.int .u32 p.1) ∧ w.cell? ⟨b, off + i * 2 + 1, none⟩ = some (.int .i64 p.2)) :
    Calls Try.prog 39 #[.agg #[.int .i64 D, .slice (some ⟨b, off, none⟩) ps.length cap], .int .u32 c] w fun e w' => e = .returned (.int .i64 (Lab.at' D ps c)) ∧ Below w.heap.size w w' := by
  have HC := Lib.hid hc
  clear hc
  obtain ⟨n, en⟩ : ∃ n, ps.length = n := ⟨_, rfl⟩
  obtain ⟨r, er⟩ : ∃ r, Lab.at' D ps c = r := ⟨_, rfl⟩
  rw [en] at hn ⊢
  rw [er]
  have ER := Lib.hid (And.intro en er)
  clear en er
  go_enter Try.func39, Try.ntmps39
  go_wp2
  go_loop [5] (fun i => ∃ k : Nat, k ≤ n ∧ Hid (Lab.at' D (ps.drop k) c = r) ∧ i = .int .i64 k) (fun i => n - (intOf i).toNat)
  case atStart => exact ⟨0, by omega, Lib.hid (by rw [List.drop_zero]; exact ER.out.2), rfl⟩
  case round =>
    obtain ⟨k, hk, hat, rfl⟩ := hrel
    by_cases hlt : k < n
    · obtain ⟨p, hp⟩ : ∃ p, ps[k]? = some p := ⟨_, List.getElem?_eq_getElem (by rw [ER.out.1]; exact hlt)⟩
      obtain ⟨h1, h2⟩ := HC.out k p hp
      by_cases e : p.1 = c
      · have hv : Lab.at' D (ps.drop k) c = p.2 := Lab.at_drop_hit hp e
        have HV := Lib.hid (hv.symm.trans hat.out)
        have ht : ((p.1 : Int) == c) = true := by rw [beq_iff_eq]; omega
        obtain ⟨p1, p2⟩ := p
        clear e hv hat hp
        go_wp2
        go_ret
        exact ⟨by rw [← HV.out]; rfl, (Below.refl _ _).alloc (Nat.le_refl _) _⟩
      · have hv := Lib.hid ((Lab.at_drop_miss (D := D) hp e).symm.trans hat.out)
        have ht : ((p.1 : Int) == c) = false := by rw [beq_eq_false_iff_ne]; omega
        obtain ⟨p1, p2⟩ := p
        clear e hat hp
        go_wp2
        go_round
        case rel => exact ⟨k + 1, by omega, hv, by go_num⟩
        case measure => simp [intOf]; omega
    · have HV := Lib.hid ((Lab.at_drop_end (D := D) (ps := ps) (c := c) (k := k) (by rw [ER.out.1]; omega)).symm.trans hat.out)
      clear hat
      go_wp2
      go_ret
      exact ⟨by rw [← HV.out]; rfl, (Below.refl _ _).alloc (Nat.le_refl _) _⟩
theorem at_any (v : Value) (ps : List (Nat × Int)) (D : Int) (c : Nat) (w : World) (h : Reads w v ps) :
    Calls Try.prog 39 #[.agg #[.int .i64 D, v], .int .u32 c] w fun e w' => e = .returned (.int .i64 (Lab.at' D ps c)) ∧ Below w.heap.size w w' := by
  rcases h with ⟨rfl, rfl⟩ | ⟨b, off, cap, rfl, h2, h3, h4⟩
  · exact at_none D c w
  · exact at_some b off cap ps D c w h3 h2 h4
end Go.Proofs.Ytmadldgajjgbmaa
-- with Rb
namespace Go.Proofs.Ytmadldgajjgbmaa
open Go.RowKit
set_option linter.unusedVariables false
set_option linter.unusedSimpArgs false

theorem Reads.form {w : World} {v : Value} {ps : List (Nat × Int)} (h : Reads w v ps) : ∃ a cap, v = .slice a ps.length cap := by
  rcases h with ⟨rfl, rfl⟩ | ⟨b, off, cap, rfl, _⟩
  · exact ⟨none, 0, rfl⟩
  · exact ⟨_, _, rfl⟩
theorem Reads.cells {w : World} {v : Value} {ps : List (Nat × Int)} (h : Reads w v ps) (hn : 0 < ps.length) : ∃ b off cap, v = .slice (some ⟨b, off, none⟩) ps.length cap ∧ b < w.heap.size ∧ ps.length ≤ 140737488351232 ∧
    ∀ i p, ps[i]? = some p → w.cell? ⟨b, off + i * 2, none⟩ = some (.int .u32 p.1) ∧ w.cell? ⟨b, off + i * 2 + 1, none⟩ = some (.int .i64 p.2) := by
  rcases h with ⟨rfl, rfl⟩ | h
  · simp at hn
  · exact h
theorem below_drewN {B : Nat} {a w : World} (h : Below B a w) (n : Nat) : Below B a (w.drewN n) := ⟨h.os, h.tape, h.output, h.size, h.block⟩
@[go_sem] theorem eq47 (a c : Nat) (b d : Int) (w : World) : (Op.equalIn 10000 80 (.agg #[.int .u32 a, .int .i64 b]) (.agg #[.int .u32 c, .int .i64 d])).run Try.prog w = .ok ((a : Int) == c && b == d) w := by
  have u3 := Try.underlying3
  have u37 := Try.underlying78
  have a3 := Try.isAgg3
  have a37 := Try.isAgg37
  have z3 := Try.sizeOf3
  have z37 := Try.sizeOf37
  have hS : Try.prog.underlying 80 = some (.struct (Try.prog.fieldsOf 80)) := by kernel_rfl
  rw [show (10000 : Nat) = 9999 + 1 from rfl, run_equalIn_agg w 9999 80 _ _ hS (by kernel_rfl)]
  simp only [Program.fieldsOf, Try.underlying80]
  go_simp
  by_cases h1 : (a : Int) = c <;> by_cases h2 : b = d <;> simp [h1, h2]
theorem same_default (v1 v2 : Value) (D E : Int) (w : World) (h : (D == E) = false) (h3 : (D != E) = true) :
    Calls Try.prog 15 #[.agg #[.int .i64 D, v1], .agg #[.int .i64 E, v2]] w fun e w' => e = .returned (.bool false) ∧ Below w.heap.size w w' := by
  go_enter Try.func15, Try.ntmps15
  go_wp2
  go_ret
  exact ⟨rfl, ((Below.refl _ _).alloc (Nat.le_refl _) _).alloc (by simp) _⟩
theorem same_len (a1 a2 : Option Addr) (n1 n2 c1 c2 : Nat) (D : Int) (w : World) (h : ¬ n1 = n2) :
    Calls Try.prog 15 #[.agg #[.int .i64 D, .slice a1 n1 c1], .agg #[.int .i64 D, .slice a2 n2 c2]] w fun e w' => e = .returned (.bool false) ∧ Below w.heap.size w w' := by
  have h2 : ((n1 : Int) == n2) = false := by rw [beq_eq_false_iff_ne]; omega
  have h3 : ((n1 : Int) != n2) = true := by rw [bne_iff_ne]; omega
  go_enter Try.func15, Try.ntmps15
  go_wp2
  go_ret
  exact ⟨rfl, ((Below.refl _ _).alloc (Nat.le_refl _) _).alloc (by simp) _⟩
theorem same_empty (a1 a2 : Option Addr) (c1 c2 : Nat) (D : Int) (w : World) :
    Calls Try.prog 15 #[.agg #[.int .i64 D, .slice a1 0 c1], .agg #[.int .i64 D, .slice a2 0 c2]] w fun e w' => e = .returned (.bool true) ∧ Below w.heap.size w w' := by
  go_enter Try.func15, Try.ntmps15
  go_wp2
  go_loopg [5] 0 (fun g i wr => i = .int .i64 0 ∧ wr = (w.alloc (Obj.cells #[.int .i64 D, .slice a1 0 c1] 41)).alloc (Obj.cells #[.int .i64 D, .slice a2 0 c2] 41))
  case atStart => exact ⟨rfl, rfl⟩
  case round =>
    obtain ⟨rfl, rfl⟩ := hrel
    go_wp2
    go_ret
    exact ⟨rfl, ((Below.refl _ _).alloc (Nat.le_refl _) _).alloc (by simp) _⟩
set_option maxHeartbeats 1000000 in
theorem same_cells (b1 o1 c1 b2 o2 c2 n : Nat) (ps qs : List (Nat × Int)) (D : Int) (w : World) (hn : n ≤ 140737488351232) (hb1 : b1 < w.heap.size) (hb2 : b2 < w.heap.size) (L : Hid (ps.length = n ∧ qs.length = n))
   (h1 : Hid (∀ i p, ps[i]? = some p → w.cell? ⟨b1, o1 + i * 2, none⟩ = some (.int .u32 p.1) ∧ w.cell? ⟨b1, o1 + i * 2 + 1, none⟩ = some (.int .i64 p.2)))
   (h2 : Hid (∀ i p, qs[i]? = some p → w.cell? ⟨b2, o2 + i * 2, none⟩ = some (.int .u32 p.1) ∧ w.cell? ⟨b2, o2 + i * 2 + 1, none⟩ = some (.int .i64 p.2))) :
    Calls Try.prog 15 #[.agg #[.int .i64 D, .slice (some ⟨b1, o1, none⟩) n c1], .agg #[.int .i64 D, .slice (some ⟨b2, o2, none⟩) n c2]] w fun e w' => e = .returned (.bool (decide (ps = qs))) ∧ Below w.heap.size w w' := by
  obtain ⟨r, er⟩ : ∃ r, decide (ps = qs) = r := ⟨_, rfl⟩
  rw [er]
  have ER := Lib.hid er
  clear er
  go_enter Try.func15, Try.ntmps15
  go_wp2
  go_loopg [5] n (fun g i wr => ∃ k m : Nat, k ≤ n ∧ g = n - k ∧ Hid (ps.take k = qs.take k) ∧ i = .int .i64 k ∧ wr = ((w.alloc (Obj.cells #[.int .i64 D, .slice (some ⟨b1, o1, none⟩) n c1] 41)).alloc (Obj.cells #[.int .i64 D, .slice (some ⟨b2, o2, none⟩) n c2] 41)).drewN m)
  case atStart => exact ⟨0, 0, by omega, by omega, Lib.hid (by simp), rfl, rfl⟩
  case round =>
    obtain ⟨k, m, hk, hg, ht, rfl, rfl⟩ := hrel
    have HG := Lib.hid hg
    clear hg
    by_cases hlt : k < n
    · obtain ⟨p, hp⟩ : ∃ p, ps[k]? = some p := ⟨_, List.getElem?_eq_getElem (by rw [L.out.1]; exact hlt)⟩
      obtain ⟨q, hq⟩ : ∃ q, qs[k]? = some q := ⟨_, List.getElem?_eq_getElem (by rw [L.out.2]; exact hlt)⟩
      obtain ⟨x1, x2⟩ := h1.out k p hp
      obtain ⟨y1, y2⟩ := h2.out k q hq
      have HP := Lib.hid (And.intro hp hq)
      clear hp hq
      obtain ⟨p1, p2⟩ := p
      obtain ⟨s1, s2⟩ := q
      by_cases e1 : p1 = s1
      · subst e1
        by_cases e2 : p2 = s2
        · subst e2
          have hn := Lib.hid (Lab.take_snoc_eq ht.out HP.out.1 HP.out.2)
          clear ht
          go_wp2
          go_quiet (fail)
          go_wp2_with fail
          go_roundg (n - (k + 1))
          case measure => rw [HG.out]; omega
          case rel => exact ⟨k + 1, _, by omega, rfl, hn.out, by go_num, rfl⟩
        · have hr := Lib.hid (ER.out.symm.trans (decide_eq_false (Lab.ne_at HP.out.1 HP.out.2 (fun e => e2 (Prod.mk.inj e).2))))
          clear ht
          go_wp2
          go_quiet (fail)
          go_wp2_with fail
          go_ret
          exact ⟨by rw [hr.out]; rfl, below_drewN (below_drewN (((Below.refl _ _).alloc (Nat.le_refl _) _).alloc (by simp) _) _) _⟩
      · have hr := Lib.hid (ER.out.symm.trans (decide_eq_false (Lab.ne_at HP.out.1 HP.out.2 (fun e => e1 (Prod.mk.inj e).1))))
        have e3 : ¬ (p1 : Int) = s1 := by omega
        clear ht e1
        go_wp2
        go_quiet (fail)
        go_wp2_with fail
        go_ret
        exact ⟨by rw [hr.out]; rfl, below_drewN (below_drewN (((Below.refl _ _).alloc (Nat.le_refl _) _).alloc (by simp) _) _) _⟩
    · have hr := Lib.hid (ER.out.symm.trans (decide_eq_true (Lab.take_all (k := k) ht.out (by rw [L.out.1]; omega) (by rw [L.out.2]; omega))))
      clear ht
      go_wp2
      go_ret
      exact ⟨by rw [hr.out]; rfl, below_drewN (((Below.refl _ _).alloc (Nat.le_refl _) _).alloc (by simp) _) _⟩
/-- The document's 'Same' tells whether both labels are the same. -/
theorem same_any (v1 v2 : Value) (ps qs : List (Nat × Int)) (D E : Int) (w : World) (h1 : Reads w v1 ps) (h2 : Reads w v2 qs) :
    Calls Try.prog 15 #[.agg #[.int .i64 D, v1], .agg #[.int .i64 E, v2]] w fun e w' => e = .returned (.bool (decide (D = E ∧ ps = qs))) ∧ Below w.heap.size w w' := by
  obtain ⟨a1, c1, f1⟩ := h1.form
  obtain ⟨a2, c2, f2⟩ := h2.form
  by_cases e : D = E
  · subst e
    by_cases el : ps.length = qs.length
    · by_cases e0 : ps.length = 0
      · have e1 : ps = [] := List.length_eq_zero_iff.1 e0
        have e2 : qs = [] := List.length_eq_zero_iff.1 (by omega)
        subst e1 e2
        rw [f1, f2, decide_eq_true (by simp)]
        exact same_empty _ _ _ _ D w
      · obtain ⟨b, o, c, g1, g2, g3, g4⟩ := h1.cells (by omega)
        obtain ⟨b', o', c', k1, k2, k3, k4⟩ := h2.cells (by omega)
        rw [g1, k1, ← el]
        have hd : decide (D = D ∧ ps = qs) = decide (ps = qs) := by rw [decide_eq_decide]; simp
        rw [hd]
        exact same_cells b o c b' o' c' _ ps qs D w g3 g2 k2 (Lib.hid ⟨rfl, el.symm⟩) (Lib.hid g4) (Lib.hid k4)
    · rw [f1, f2, decide_eq_false (fun h => el (by rw [h.2]))]
      exact same_len _ _ _ _ _ _ D w el
  · rw [decide_eq_false (fun h => e h.1)]
    exact same_default v1 v2 D E w (by rw [beq_eq_false_iff_ne]; exact e) (by rw [bne_iff_ne]; exact e)
end Go.Proofs.Ytmadldgajjgbmaa
-- with Rc
namespace Go.Proofs.Ytmadldgajjgbmaa
open Go.RowKit
set_option linter.unusedVariables false
set_option linter.unusedSimpArgs false

theorem info37 : (Try.prog.info? 78).map (fun i => (i.zero, i.size, i.bytes)) = some (some (.int .u32 0), 1, 4) := by kernel_rfl
/-- Numbers of 32 bits, as cells. -/
def U (cs : List Nat) : List Value := cs.map (fun (c : Nat) => Value.int .u32 (c : Int))
theorem U_snoc (cs : List Nat) (c : Nat) : U (cs ++ [c]) = U cs ++ [.int .u32 (c : Int)] := by simp [U]
theorem owns_zero (ps : List (Nat × Int)) : Lab.owns (ps.take 0) = [] := by simp [Lab.owns]
theorem one_new (w : World) (v : Value) (t : TypeId) : ∀ j u, [v][j]? = some u → (w.alloc (.cells #[v] t)).cell? ((⟨w.heap.size, 0, none⟩ : Addr).add j) = some u := by
  intro j u hj
  match j, hj with
  | 0, hj => simp at hj; subst hj; simp [Addr.add]
def OwnsRel (ps : List (Nat × Int)) (w : World) (D : Int) (v : Value) (k : Nat) (out : Value) (wr : World) : Prop :=
  wr.ownsRow (w.heap.size + 1) 78 1 out (Lab.owns (ps.take k)).length (U (Lab.owns (ps.take k))) ∧ Below (w.heap.size + 1) (w.alloc (Obj.cells #[.int .i64 D, v] 41)) wr
set_option maxHeartbeats 1000000 in
theorem owns_some (b off cap : Nat) (ps : List (Nat × Int)) (D : Int) (w : World) (hn : ps.length ≤ 140737488351232 / 4) (hb : b < w.heap.size)
   (hc : ∀ i p, ps[i]? = some p → w.cell? ⟨b, off + i * 2, none⟩ = some (.int .u32 p.1) ∧ w.cell? ⟨b, off + i * 2 + 1, none⟩ = some (.int .i64 p.2)) :
    Calls Try.prog 21 #[.agg #[.int .i64 D, .slice (some ⟨b, off, none⟩) ps.length cap]] w fun e w' =>
      ∃ v, e = .returned v ∧ w'.ownsRow (w.heap.size + 1) 78 1 v (Lab.owns ps).length (U (Lab.owns ps)) ∧ Below w.heap.size w w' := by
  obtain ⟨i0, hi, hz0, hz1, hz2⟩ := info_parts info37
  have HC := Lib.hid hc
  clear hc
  obtain ⟨n, en⟩ : ∃ n, ps.length = n := ⟨_, rfl⟩
  rw [en] at hn ⊢
  have ER := Lib.hid en
  clear en
  go_enter Try.func21, Try.ntmps21
  go_wp2
  go_loopg [3, 4] n (fun g out i wr => ∃ k : Nat, k ≤ n ∧ g = n - k ∧ i = .int .i64 k ∧ OwnsRel ps w D (.slice (some ⟨b, off, none⟩) n cap) k out wr)
  case atStart => exact ⟨0, by omega, by omega, rfl, by rw [owns_zero]; exact World.ownsRow_nil _ _ _ _, Below.refl _ _⟩
  case round =>
    obtain ⟨k, hk, hg, rfl, hown, hbel⟩ := hrel
    have HG := Lib.hid hg
    have c0 : wr.cell? ⟨w.heap.size, 1, none⟩ = some (.slice (some ⟨b, off, none⟩) n cap) := by rw [hbel.cell (p := ⟨w.heap.size, 1, none⟩) (by simp)]; simp
    have hsz : w.heap.size + 1 ≤ wr.heap.size := by have := hbel.size; simp at this; omega
    have hl := Lab.owns_len ps k
    clear hg
    by_cases hlt : k < n
    · obtain ⟨p, hp⟩ : ∃ p, ps[k]? = some p := ⟨_, List.getElem?_eq_getElem (by rw [ER.out]; exact hlt)⟩
      obtain ⟨x1, x2⟩ := HC.out k p hp
      have y1 : wr.cell? ⟨b, off + k * 2, none⟩ = some (.int .u32 p.1) := by rw [hbel.cell (p := ⟨b, _, none⟩) (by simp; omega)]; rw [← x1]; exact World.cell?_alloc_old _ _ _ (by simp; omega)
      have y2 : wr.cell? ⟨b, off + k * 2 + 1, none⟩ = some (.int .i64 p.2) := by rw [hbel.cell (p := ⟨b, _, none⟩) (by simp; omega)]; rw [← x2]; exact World.cell?_alloc_old _ _ _ (by simp; omega)
      clear x1 x2
      by_cases e : p.2 = 0
      · have hit := Lib.hid (Lab.owns_hit hp e)
        have e' : (p.2 == 0) = true := by rw [beq_iff_eq]; exact e
        have HO := Lib.hid hown
        have HB := Lib.hid hbel
        clear hown hbel hp e
        obtain ⟨p1, p2⟩ := p
        go_wp2_with (at_builtin; refine wpList_append_own _ rfl _ _ 64 rfl (w.heap.size + 1) 78 i0 (.int .u32 0) 1 4 Try.underlying64 hi hz0 hz1 hz2 rfl (by decide) _ _ _ rfl (HO.out.alloc _) ⟨wr.heap.size, 0, none⟩ 1 1 [.int .u32 p1] rfl rfl (one_new _ _ _) ?c2 ?c3 ?c4 ?c5 ?_)
        case c2 => rfl
        case c3 => unfold maxLen; omega
        case c4 => omega
        case c5 => first | omega | (rw [World.size_alloc]; omega)
        intro v' w1 hown' hgrow _
        have hbel' : Below (w.heap.size + 1) (w.alloc (Obj.cells #[.int .i64 D, .slice (some ⟨b, off, none⟩) n cap] 41)) w1 :=
          (HB.out.alloc hsz _).grown hgrow (by simp; omega) (fun k hk => (HO.out.lt k hk).1)
        have HO' := Lib.hid hown'
        have HB' := Lib.hid hbel'
        clear hown' hgrow hbel'
        go_wp2
        go_roundg (n - (k + 1))
        case rel =>
          refine ⟨k + 1, by omega, rfl, by go_num, ?_, HB'.out⟩
          rw [hit.out, U_snoc, List.length_append]; exact HO'.out
        case measure => have := HG.out; omega
      · have hit := Lib.hid (Lab.owns_miss hp e)
        have e' : (p.2 == 0) = false := by rw [beq_eq_false_iff_ne]; exact e
        have HO := Lib.hid hown
        have HB := Lib.hid hbel
        clear hown hbel hp e
        obtain ⟨p1, p2⟩ := p
        go_wp2
        go_roundg (n - (k + 1))
        case rel =>
          refine ⟨k + 1, by omega, rfl, by go_num, ?_, HB.out⟩
          rw [hit.out]; exact HO.out
        case measure => have := HG.out; omega
    · have HO := Lib.hid hown
      have HB := Lib.hid hbel
      clear hown hbel
      have e := Lib.hid (List.take_of_length_le (l := ps) (i := k) (by rw [ER.out]; omega))
      go_wp2
      go_ret
      refine ⟨_, rfl, ?_, ⟨HB.out.os, HB.out.tape, HB.out.output, by simpa using by omega, fun i hi => ?_⟩⟩
      · have := HO.out; rw [e.out] at this; exact this
      · rw [HB.out.block i (by omega)]; exact Below.heap_alloc _ _ _ hi
theorem owns_none (D : Int) (w : World) :
    Calls Try.prog 21 #[.agg #[.int .i64 D, .slice none 0 0]] w fun e w' => e = .returned (.slice none 0 0) ∧ Below w.heap.size w w' := by
  go_enter Try.func21, Try.ntmps21
  go_wp2
  go_loop [3, 4] (fun o i => o = .slice none 0 0 ∧ i = .int .i64 0) (fun o i => 0)
  case atStart => exact ⟨rfl, rfl⟩
  case round =>
    obtain ⟨rfl, rfl⟩ := hrel
    go_wp2
    go_ret
    exact ⟨rfl, (Below.refl _ _).alloc (Nat.le_refl _) _⟩
theorem owns_any (v : Value) (ps : List (Nat × Int)) (D : Int) (w : World) (h : Reads w v ps) (hn : ps.length ≤ 140737488351232 / 4) :
    Calls Try.prog 21 #[.agg #[.int .i64 D, v]] w fun e w' =>
      ∃ v, e = .returned v ∧ w'.ownsRow (w.heap.size + 1) 78 1 v (Lab.owns ps).length (U (Lab.owns ps)) ∧ Below w.heap.size w w' := by
  rcases h with ⟨rfl, rfl⟩ | ⟨b, off, cap, rfl, h2, h3, h4⟩
  · refine (owns_none D w).mono ?_
    rintro e w' ⟨rfl, h⟩
    exact ⟨_, rfl, World.ownsRow_nil _ _ _ _, h⟩
  · exact owns_some b off cap ps D w hn h2 h4
end Go.Proofs.Ytmadldgajjgbmaa
-- with Rd
namespace Go.Proofs.Ytmadldgajjgbmaa
open Go.RowKit
set_option linter.unusedVariables false
set_option linter.unusedSimpArgs false

theorem info47 : (Try.prog.info? 80).map (fun i => (i.zero, i.size, i.bytes)) = some (some (.agg #[.int .u32 0, .int .i64 0]), 2, 16) := by kernel_rfl
/-- Pairs, as cells. -/
def F (ps : List (Nat × Int)) : List Value := ps.flatMap (fun (p : Nat × Int) => [Value.int .u32 (p.1 : Int), Value.int .i64 p.2])
theorem F_len (ps : List (Nat × Int)) : (F ps).length = ps.length * 2 := by
  unfold F; induction ps with
  | nil => rfl
  | cons p r ih => simp [ih]; omega
theorem F_append (ps qs : List (Nat × Int)) : F (ps ++ qs) = F ps ++ F qs := by simp [F]
theorem F_snoc (ps : List (Nat × Int)) (c : Nat) (n : Int) : F (ps ++ [(c, n)]) = F ps ++ [.int .u32 (c : Int), .int .i64 n] := by simp [F]
theorem F_at : ∀ {ps : List (Nat × Int)} {i : Nat} {p : Nat × Int}, ps[i]? = some p → (F ps)[i * 2]? = some (.int .u32 (p.1 : Int)) ∧ (F ps)[i * 2 + 1]? = some (.int .i64 p.2)
  | [], i, p, h => by simp at h
  | q :: r, 0, p, h => by simp at h; subst h; simp [F]
  | q :: r, i + 1, p, h => by
      have := F_at (ps := r) (i := i) (p := p) (by simpa using h)
      have e : F (q :: r) = Value.int .u32 (q.1 : Int) :: Value.int .i64 q.2 :: F r := by simp [F]
      rw [e, show (i + 1) * 2 = i * 2 + 2 from by omega]
      simpa using this
theorem F_get : ∀ {ps : List (Nat × Int)} {j : Nat} {u : Value}, (F ps)[j]? = some u → ∃ i p, ps[i]? = some p ∧ (j = i * 2 ∧ u = .int .u32 (p.1 : Int) ∨ j = i * 2 + 1 ∧ u = .int .i64 p.2)
  | [], j, u, h => by simp [F] at h
  | q :: r, 0, u, h => by simp [F] at h; exact ⟨0, q, rfl, .inl ⟨rfl, h.symm⟩⟩
  | q :: r, 1, u, h => by simp [F] at h; exact ⟨0, q, rfl, .inr ⟨rfl, h.symm⟩⟩
  | q :: r, j + 2, u, h => by
      have e : F (q :: r) = Value.int .u32 (q.1 : Int) :: Value.int .i64 q.2 :: F r := by simp [F]
      rw [e] at h
      obtain ⟨i, p, hp, hh⟩ := F_get (ps := r) (j := j) (u := u) (by simpa using h)
      refine ⟨i + 1, p, by simpa using hp, ?_⟩
      rcases hh with ⟨h1, h2⟩ | ⟨h1, h2⟩
      · exact .inl ⟨by omega, h2⟩
      · exact .inr ⟨by omega, h2⟩
theorem F_one (ps : List (Nat × Int)) : ∀ u ∈ F ps, u.oneCell' = true := by
  intro u hu
  obtain ⟨j, hj⟩ := List.mem_iff_getElem?.1 hu
  obtain ⟨i, p, hp, ⟨_, rfl⟩ | ⟨_, rfl⟩⟩ := F_get hj <;> rfl
theorem one_u32 (c : Nat) : ∀ u ∈ [Value.int .u32 (c : Int)], u.oneCell' = true := by
  intro u hu; simp at hu; subst hu; rfl
theorem owns_mono {w : World} {base base' : Nat} {e : TypeId} {size : Nat} {v : Value} {n : Nat} {xs : List Value} (h : w.ownsRow base e size v n xs) (hb : base' ≤ base) : w.ownsRow base' e size v n xs := by
  refine ⟨h.1, ?_⟩
  rcases h.2 with h | ⟨g, cap, cur, h1, h2, h3⟩
  · exact .inl h
  · exact .inr ⟨g, cap, cur, h1, Nat.le_trans hb h2, h3⟩
theorem addr_addq (b off j : Nat) : (⟨b, off, none⟩ : Addr).add j = ⟨b, off + j, none⟩ := by
  unfold Addr.add; split <;> simp_all
/-- The cells of a slice that reads as pairs. -/
theorem news_of {w : World} {b off : Nat} {ps : List (Nat × Int)}
   (h : ∀ i p, ps[i]? = some p → w.cell? ⟨b, off + i * 2, none⟩ = some (.int .u32 p.1) ∧ w.cell? ⟨b, off + i * 2 + 1, none⟩ = some (.int .i64 p.2)) :
    ∀ j u, (F ps)[j]? = some u → w.cell? ((⟨b, off, none⟩ : Addr).add j) = some u := by
  intro j u hu
  rw [addr_addq]
  obtain ⟨i, p, hp, ⟨rfl, rfl⟩ | ⟨rfl, rfl⟩⟩ := F_get hu
  · exact (h i p hp).1
  · rw [← Nat.add_assoc]; exact (h i p hp).2
/-- What owns pairs reads as them. -/
theorem reads_of_owns {w : World} {base : Nat} {v : Value} {ps : List (Nat × Int)} (h : w.ownsRow base 80 2 v ps.length (F ps)) (hn : ps.length ≤ 140737488351232) : Reads w v ps := by
  by_cases h0 : ps.length = 0
  · rcases h.2 with ⟨rfl, _⟩ | ⟨g, cap, cur, hv, hb, hg, _⟩
    · exact .inl ⟨rfl, List.eq_nil_of_length_eq_zero h0⟩
    · refine .inr ⟨g, 0, cap, hv, (Array.getElem?_eq_some_iff.1 hg).1, hn, fun i p hp => ?_⟩
      rw [List.eq_nil_of_length_eq_zero h0] at hp; simp at hp
  · obtain ⟨g, cap, rfl, hb, hg⟩ := h.form (by omega)
    refine .inr ⟨g, 0, cap, rfl, hg, hn, fun i p hp => ?_⟩
    have hi : i < ps.length := (List.getElem?_eq_some_iff.1 hp).1
    rw [h.cellAt (0 + i * 2) (by omega), h.cellAt (0 + i * 2 + 1) (by omega), Nat.zero_add]
    exact F_at hp
theorem step_append_own {P : Program} (w : World) {ops : Array Oper} {o : Oper} {a : Act} {K : Act → World → Prop} {Q : Exit → Act → World → Prop} {E : Prop} (hgd : o.guard = none) (s x : Operand) (t : TypeId)
    (ho : o.op = .call { callee := .builtin .append, args := #[s, x], argTypes := #[t, t] })
    (base : Nat) (e : TypeId) (i : TypeInfo) (z : Value) (size bytes : Nat) (ht : P.underlying t = some (.slice e)) (hi : P.info? e = some i) (hz : i.zero = some z)
    (hsize : i.size = size) (hby : i.bytes = bytes) (hzs : z.cells.size = size) (hsz : 0 < size)
    (v : Value) (n : Nat) (xs : List Value) (hs : a.eval s = v) (hown : w.ownsRow base e size v n xs)
    (ad : Addr) (m c : Nat) (news : List Value) (hx : a.eval x = .slice (some ad) m c) (hl : news.length = m * size) (hnews : ∀ j u, news[j]? = some u → w.cell? (ad.add j) = some u) (h1 : ∀ u ∈ news, u.oneCell' = true)
    (h63 : n + m ≤ maxLen) (hbytes : (n + m) * bytes ≤ 140737488355328) (hbase : base ≤ w.heap.size)
    (h : ∀ v' w', w'.ownsRow base e size v' (n + m) (xs ++ news) → w.grownBy w' v.ownBlock → (v' = .slice none 0 0 ↔ v = .slice none 0 0 ∧ m = 0) → K (a.put o.dst v') w') :
    if Region.wanted o (yielded ops a.tmps) = true then Oper.wp P o a w K Q else E := by
  have hw : Region.wanted o (yielded ops a.tmps) = true := by simp [Region.wanted, hgd]
  rw [if_pos hw]
  exact wp_append_own w s x t ho base e i z size bytes ht hi hz hsize hby hzs hsz v n xs hs hown ad m c news hx hl hnews h1 h63 hbytes hbase h
theorem step_append_none {P : Program} (w : World) {ops : Array Oper} {o : Oper} {a : Act} {K : Act → World → Prop} {Q : Exit → Act → World → Prop} {E : Prop} (hgd : o.guard = none) (s x : Operand) (t : TypeId)
    (ho : o.op = .call { callee := .builtin .append, args := #[s, x], argTypes := #[t, t] })
    (base : Nat) (e : TypeId) (i : TypeInfo) (size : Nat) (ht : P.underlying t = some (.slice e)) (hi : P.info? e = some i)
    (v : Value) (n : Nat) (xs : List Value) (hs : a.eval s = v) (hown : w.ownsRow base e size v n xs) (hx : a.eval x = .slice none 0 0) (d : Option Nat) (hd : o.dst = d)
    (h : K (a.put d v) w) :
    if Region.wanted o (yielded ops a.tmps) = true then Oper.wp P o a w K Q else E := by
  subst hd
  have hw : Region.wanted o (yielded ops a.tmps) = true := by simp [Region.wanted, hgd]
  rw [if_pos hw]
  have hrun := run_append_owned_none (P := P) (w := w) base t o.type e i size ht hi v n xs hown
  unfold Oper.wp
  simp [execOp, ho, resolve, invoke, builtin, hs, hx, hrun, Result.andThen]
  exact h
end Go.Proofs.Ytmadldgajjgbmaa
-- with Rf
namespace Go.Proofs.Ytmadldgajjgbmaa
open Go.RowKit
set_option linter.unusedVariables false
set_option linter.unusedSimpArgs false

/-- What stands behind the joining of two labels' pairs. -/
def AllOf (w : World) (D1 D2 : Int) (L1 L2 : Value) (qs : List (Nat × Int)) (s6 : Value) (wx : World) : Prop :=
  wx.ownsRow (w.heap.size + 2) 80 2 s6 qs.length (F qs) ∧ Below (w.heap.size + 2) ((w.alloc (.cells #[.int .i64 D1, L1] 41)).alloc (.cells #[.int .i64 D2, L2] 41)) wx
theorem news_far {w wx : World} {b off : Nat} {ps : List (Nat × Int)} {A B : Obj} (h : Hid (∀ j u, (F ps)[j]? = some u → w.cell? ((⟨b, off, none⟩ : Addr).add j) = some u)) (hb : b < w.heap.size)
   (hx : Below (w.heap.size + 2) ((w.alloc A).alloc B) wx) : ∀ j u, (F ps)[j]? = some u → wx.cell? ((⟨b, off, none⟩ : Addr).add j) = some u := by
  intro j u hu
  have := h.out j u hu
  rw [addr_addq] at this ⊢
  rw [hx.cell (p := ⟨b, _, none⟩) (by simp; omega), World.cell?_alloc_old _ _ _ (by simp; omega), World.cell?_alloc_old _ _ _ (by simp; omega)]
  exact this
set_option maxRecDepth 100000 in
set_option maxHeartbeats 3200000 in
theorem cats_any (v1 v2 : Value) (ps qs : List (Nat × Int)) (D1 D2 : Int) (w : World) (hn : ps.length + qs.length ≤ 8796093022208) (r1 : Reads w v1 ps) (r2 : Reads w v2 qs)
    (hpos : ∀ c ∈ (ps ++ qs).map (·.1), 1 ≤ c) :
    Calls Try.prog 38 #[.agg #[.int .i64 D1, v1], .agg #[.int .i64 D2, v2]] w fun e w' =>
      ∃ v cs, e = .returned v ∧ Lab.CatsOf ((ps ++ qs).map (·.1)) cs ∧ w'.ownsRow w.heap.size 78 1 v cs.length (U cs) ∧ Below w.heap.size w w' := by
  obtain ⟨i0, hi, hz0, hz1, hz2⟩ := info_parts info47
  have R1 := Lib.hid r1
  have R2 := Lib.hid r2
  clear r1 r2
  have HP := Lib.hid hpos
  clear hpos
  go_enter Try.func38, Try.ntmps38
  go_upto_region 2 with fail
  go_cut [6] (fun s6 wx => AllOf w D1 D2 v1 v2 (ps ++ qs) s6 wx)
  case first =>
    rcases R1.out with ⟨rfl, z1⟩ | ⟨b1, o1, c1, rfl, hb1, _, hc1⟩ <;> rcases R2.out with ⟨rfl, z2⟩ | ⟨b2, o2, c2, rfl, hb2, _, hc2⟩
    · have Z1 := Lib.hid z1
      clear z1
      have Z2 := Lib.hid z2
      clear z2
      have hS : ∀ wx : World, Below (w.heap.size + 2) ((w.alloc (Obj.cells #[.int .i64 D1, (.slice none 0 0)] 41)).alloc (Obj.cells #[.int .i64 D2, (.slice none 0 0)] 41)) wx →
          wx.cell? ⟨w.heap.size, 1, none⟩ = some (.slice none 0 0) ∧ wx.cell? ⟨w.heap.size + 1, 1, none⟩ = some (.slice none 0 0) := by
        intro wx hx
        rw [hx.cell (p := ⟨w.heap.size, 1, none⟩) (by simp), hx.cell (p := ⟨w.heap.size + 1, 1, none⟩) (by simp)]
        constructor <;> simp
      have HS := Lib.hid hS
      clear hS
      go_region_held_law (fun w' => w'.cell? ⟨w.heap.size, 1, none⟩ = some (.slice none 0 0) ∧ w'.cell? ⟨w.heap.size + 1, 1, none⟩ = some (.slice none 0 0))
        (first
          | go_keep)
        (first
          | (refine step_append_none _ (by rfl) _ _ _ (by rfl) (w.heap.size + 2) 80 i0 2 Try.underlying39 hi (.slice none 0 0) 0 [] (by rfl) (World.ownsRow_nil _ _ _ _) (by rfl) (some 12) (by rfl) ?_)
          | (refine step_append_none _ (by rfl) _ _ _ (by rfl) (w.heap.size + 2) 80 i0 2 Try.underlying39 hi (.slice none 0 0) 0 [] (by rfl) (World.ownsRow_nil _ _ _ _) (by rfl) (some 15) (by rfl) ?_))
      all_goals (go_wp2_with fail; go_meet; refine ⟨?_, (Below.refl _ _).drew⟩; rw [Z1.out, Z2.out]; exact World.ownsRow_nil _ _ _ _)
    · have Z1 := Lib.hid z1
      clear z1
      have N2 := Lib.hid (news_of hc2)
      clear hc2
      have hS : ∀ wx : World, Below (w.heap.size + 2) ((w.alloc (Obj.cells #[.int .i64 D1, (.slice none 0 0)] 41)).alloc (Obj.cells #[.int .i64 D2, (.slice (some ⟨b2, o2, none⟩) qs.length c2)] 41)) wx →
          wx.cell? ⟨w.heap.size, 1, none⟩ = some (.slice none 0 0) ∧ wx.cell? ⟨w.heap.size + 1, 1, none⟩ = some (.slice (some ⟨b2, o2, none⟩) qs.length c2) := by
        intro wx hx
        rw [hx.cell (p := ⟨w.heap.size, 1, none⟩) (by simp), hx.cell (p := ⟨w.heap.size + 1, 1, none⟩) (by simp)]
        constructor <;> simp
      have HS := Lib.hid hS
      clear hS
      go_region_held_law (fun w' => w'.cell? ⟨w.heap.size, 1, none⟩ = some (.slice none 0 0) ∧ w'.cell? ⟨w.heap.size + 1, 1, none⟩ = some (.slice (some ⟨b2, o2, none⟩) qs.length c2))
        (first
          | go_keep
          | exact HS.out _ hbel2.out)
        (first
          | (refine step_append_none _ (by rfl) _ _ _ (by rfl) (w.heap.size + 2) 80 i0 2 Try.underlying39 hi (.slice none 0 0) 0 [] (by rfl) (World.ownsRow_nil _ _ _ _) (by rfl) (some 12) (by rfl) ?_)
          | (refine step_append_own _ (by rfl) _ _ _ (by rfl) (w.heap.size + 2) 80 i0 _ 2 16 Try.underlying39 hi hz0 hz1 hz2 rfl (by omega) (.slice none 0 0) 0 [] (by rfl) (World.ownsRow_nil _ _ _ _)
              ⟨b2, o2, none⟩ qs.length c2 (F qs) (by rfl) (F_len qs) (news_far N2 hb2 ((Below.refl _ _).drew)) (F_one qs) (by unfold maxLen; omega) (by omega) (by simp) ?_
             intro v2 w2 hown2 hgrow2 _
             have hbel2 := Lib.hid (((Below.refl (w.heap.size + 2) _).drew).grown hgrow2 (by simp) (fun k hk => by cases hk))
             replace hown2 := Lib.hid hown2
             clear hgrow2))
      all_goals (go_wp2_with fail; go_meet; refine ⟨?_, hbel2.out⟩; rw [Z1.out, List.nil_append]; have h := hown2.out; rw [Nat.zero_add, List.nil_append] at h; exact h)
    · have N1 := Lib.hid (news_of hc1)
      clear hc1
      have Z2 := Lib.hid z2
      clear z2
      have hS : ∀ wx : World, Below (w.heap.size + 2) ((w.alloc (Obj.cells #[.int .i64 D1, (.slice (some ⟨b1, o1, none⟩) ps.length c1)] 41)).alloc (Obj.cells #[.int .i64 D2, (.slice none 0 0)] 41)) wx →
          wx.cell? ⟨w.heap.size, 1, none⟩ = some (.slice (some ⟨b1, o1, none⟩) ps.length c1) ∧ wx.cell? ⟨w.heap.size + 1, 1, none⟩ = some (.slice none 0 0) := by
        intro wx hx
        rw [hx.cell (p := ⟨w.heap.size, 1, none⟩) (by simp), hx.cell (p := ⟨w.heap.size + 1, 1, none⟩) (by simp)]
        constructor <;> simp
      have HS := Lib.hid hS
      clear hS
      go_region_held_law (fun w' => w'.cell? ⟨w.heap.size, 1, none⟩ = some (.slice (some ⟨b1, o1, none⟩) ps.length c1) ∧ w'.cell? ⟨w.heap.size + 1, 1, none⟩ = some (.slice none 0 0))
        (first
          | go_keep
          | exact HS.out _ hbel1.out)
        (first
          | (refine step_append_own _ (by rfl) _ _ _ (by rfl) (w.heap.size + 2) 80 i0 _ 2 16 Try.underlying39 hi hz0 hz1 hz2 rfl (by omega) (.slice none 0 0) 0 [] (by rfl) (World.ownsRow_nil _ _ _ _)
              ⟨b1, o1, none⟩ ps.length c1 (F ps) (by rfl) (F_len ps) (news_far N1 hb1 ((Below.refl _ _).drew)) (F_one ps) (by unfold maxLen; omega) (by omega) (by simp) ?_
             intro v1 w1 hown1 hgrow1 _
             have hbel1 := Lib.hid (((Below.refl (w.heap.size + 2) _).drew).grown hgrow1 (by simp) (fun k hk => by cases hk))
             replace hown1 := Lib.hid hown1
             clear hgrow1)
          | (refine step_append_none _ (by rfl) _ _ _ (by rfl) (w.heap.size + 2) 80 i0 2 Try.underlying39 hi v1 _ _ (by rfl) hown1.out (by rfl) (some 15) (by rfl) ?_))
      all_goals (go_wp2_with fail; go_meet; refine ⟨?_, hbel1.out⟩; rw [Z2.out, List.append_nil]; have h := hown1.out; rw [Nat.zero_add, List.nil_append] at h; exact h)
    · have N1 := Lib.hid (news_of hc1)
      clear hc1
      have N2 := Lib.hid (news_of hc2)
      clear hc2
      have hS : ∀ wx : World, Below (w.heap.size + 2) ((w.alloc (Obj.cells #[.int .i64 D1, (.slice (some ⟨b1, o1, none⟩) ps.length c1)] 41)).alloc (Obj.cells #[.int .i64 D2, (.slice (some ⟨b2, o2, none⟩) qs.length c2)] 41)) wx →
          wx.cell? ⟨w.heap.size, 1, none⟩ = some (.slice (some ⟨b1, o1, none⟩) ps.length c1) ∧ wx.cell? ⟨w.heap.size + 1, 1, none⟩ = some (.slice (some ⟨b2, o2, none⟩) qs.length c2) := by
        intro wx hx
        rw [hx.cell (p := ⟨w.heap.size, 1, none⟩) (by simp), hx.cell (p := ⟨w.heap.size + 1, 1, none⟩) (by simp)]
        constructor <;> simp
      have HS := Lib.hid hS
      clear hS
      go_region_held_law (fun w' => w'.cell? ⟨w.heap.size, 1, none⟩ = some (.slice (some ⟨b1, o1, none⟩) ps.length c1) ∧ w'.cell? ⟨w.heap.size + 1, 1, none⟩ = some (.slice (some ⟨b2, o2, none⟩) qs.length c2))
        (first
          | go_keep
          | exact HS.out _ hbel1.out
          | exact HS.out _ hbel2.out)
        (first
          | (refine step_append_own _ (by rfl) _ _ _ (by rfl) (w.heap.size + 2) 80 i0 _ 2 16 Try.underlying39 hi hz0 hz1 hz2 rfl (by omega) (.slice none 0 0) 0 [] (by rfl) (World.ownsRow_nil _ _ _ _)
              ⟨b1, o1, none⟩ ps.length c1 (F ps) (by rfl) (F_len ps) (news_far N1 hb1 ((Below.refl _ _).drew)) (F_one ps) (by unfold maxLen; omega) (by omega) (by simp) ?_
             intro v1 w1 hown1 hgrow1 _
             have hbel1 := Lib.hid (((Below.refl (w.heap.size + 2) _).drew).grown hgrow1 (by simp) (fun k hk => by cases hk))
             replace hown1 := Lib.hid hown1
             clear hgrow1)
          | (refine step_append_own _ (by rfl) _ _ _ (by rfl) (w.heap.size + 2) 80 i0 _ 2 16 Try.underlying39 hi hz0 hz1 hz2 rfl (by omega) v1 _ _ (by rfl) hown1.out
              ⟨b2, o2, none⟩ qs.length c2 (F qs) (by rfl) (F_len qs) (news_far N2 hb2 hbel1.out) (F_one qs) (by unfold maxLen; omega) (by omega) (by have := hbel1.out.size; simp at this; omega) ?_
             intro v2 w2 hown2 hgrow2 _
             have hbel2 := Lib.hid (hbel1.out.grown hgrow2 (by have := hbel1.out.size; simp at this; omega) (fun k hk => (hown1.out.lt k hk).1))
             replace hown2 := Lib.hid hown2
             clear hgrow2))
      all_goals (go_wp2_with fail; go_meet; refine ⟨?_, hbel2.out⟩; rw [List.length_append, F_append]; have h := hown2.out; rw [Nat.zero_add, List.nil_append] at h; exact h)
  case rest =>
    obtain ⟨n1, e1⟩ : ∃ n, ps.length = n := ⟨_, rfl⟩
    obtain ⟨n2, e2⟩ : ∃ n, qs.length = n := ⟨_, rfl⟩
    rw [e1, e2] at hn
    have E1 := Lib.hid e1
    have E2 := Lib.hid e2
    clear e1 e2
    obtain ⟨hall, hbel⟩ := hcut
    have hlen : (ps ++ qs).length = n1 + n2 := by rw [List.length_append, E1.out, E2.out]
    have HR := Lib.hid (reads_of_owns hall (by rw [hlen]; omega))
    have HB := Lib.hid hbel
    have hsz : w.heap.size + 2 ≤ wc.heap.size := by have := hbel.size; simp at this; omega
    obtain ⟨rs, ers⟩ : ∃ rs, ps ++ qs = rs := ⟨_, rfl⟩
    rw [ers] at HP HR hlen
    have ERS := Lib.hid ers
    have HL := Lib.hid hlen
    clear hall hbel ers hlen
    rcases HR.out with ⟨rfl, h0⟩ | ⟨b, off, cap, rfl, h2, h3, h4⟩
    · have H0 := Lib.hid h0
      clear h0
      go_wp2_with fail
      go_loopg [5] 1 (fun g o wr => o = .slice none 0 0 ∧ wr = wc)
      case atStart => exact ⟨rfl, rfl⟩
      case round =>
        obtain ⟨rfl, rfl⟩ := hrel
        go_wp2_with fail
        go_loopg [7, 8] 1 (fun g s7 s8 wr' => s7 = .int .u32 0 ∧ s8 = .int .i64 0 ∧ wr' = wr)
        case atStart => exact ⟨rfl, rfl, rfl⟩
        case round =>
          obtain ⟨rfl, rfl, rfl⟩ := hrel
          go_wp2_with fail
          go_ret
          refine ⟨_, [], rfl, ?_, World.ownsRow_nil _ _ _ _, ⟨HB.out.os, HB.out.tape, HB.out.output, by have := HB.out.size; simp at this; omega, fun i hi => ?_⟩⟩
          · rw [ERS.out, H0.out]; exact ⟨List.Pairwise.nil, by simp, by simp⟩
          · rw [HB.out.block i (by omega), Below.heap_alloc _ _ _ (by simp; omega), Below.heap_alloc _ _ _ hi]
    · have HC := Lib.hid h4
      clear h4
      obtain ⟨n, en⟩ : ∃ n, rs.length = n := ⟨_, rfl⟩
      rw [en] at h3 ⊢
      have EN := Lib.hid en
      have HNN := Lib.hid (show n = n1 + n2 by rw [← HL.out, EN.out])
      have hn8 : n ≤ 8796093022208 := by rw [HNN.out]; exact hn
      clear en
      obtain ⟨xs, exs⟩ : ∃ xs, rs.map (·.1) = xs := ⟨_, rfl⟩
      have EX := Lib.hid exs
      rw [exs] at HP
      clear exs
      go_wp2_with fail
      have hcell : ∀ wr : World, Below wc.heap.size wc wr → ∀ k, k < n → ∃ c : Nat, wr.cell? ⟨b, off + k * 2, none⟩ = some (.int .u32 c) ∧ xs[k]? = some c ∧ 1 ≤ c := by
        intro wr hbel k hk
        obtain ⟨p, hp⟩ : ∃ p, rs[k]? = some p := ⟨_, List.getElem?_eq_getElem (by rw [EN.out]; exact hk)⟩
        have hx : xs[k]? = some p.1 := by rw [← EX.out, List.getElem?_map, hp]; rfl
        refine ⟨p.1, ?_, hx, HP.out p.1 (List.mem_of_getElem? hx)⟩
        rw [hbel.cell (p := ⟨b, _, none⟩) h2]
        exact (HC.out k p hp).1
      have HCELL := Lib.hid hcell
      clear hcell
      go_loopg [5] (Lab.above 0 xs) (fun g o wr => ∃ (cs : List Nat) (N : Nat), Hid (Lab.Gathered xs cs ∧ g = Lab.above (Lab.last cs) xs ∧ wr.ownsRow wc.heap.size 78 1 o cs.length (U cs) ∧ Below wc.heap.size wc wr) ∧ Hid (cs.length = N) ∧ (o = .slice none 0 0 ∧ N = 0 ∨ ∃ g' cap', o = .slice (some ⟨g', 0, none⟩) N cap' ∧ 0 < N))
      case atStart => exact ⟨[], 0, Lib.hid ⟨Lab.gathered_nil xs, rfl, World.ownsRow_nil _ _ _ _, Below.refl _ _⟩, Lib.hid rfl, .inl ⟨rfl, rfl⟩⟩
      case round =>
        obtain ⟨cs, N, HH, HN, hform⟩ := hrel
        go_upto_block 2 with fail
        go_cut [7] (fun s7 wx => wr = wx ∧ ∃ bb : Nat, Hid (bb = Lab.best (Lab.last cs) xs) ∧ s7 = .int .u32 bb)
        case first =>
          rcases hform with ⟨rfl, hcs⟩ | ⟨g', cap', rfl, hcs⟩
          · have HCS := Lib.hid (List.eq_nil_of_length_eq_zero (HN.out.trans hcs))
            clear hcs
            go_wp2_with fail
            go_loopg [7, 8] n (fun g s7 s8 wr' => ∃ k bb : Nat, k ≤ n ∧ Hid (g = n - k) ∧ Hid (bb = Lab.best (Lab.last cs) (xs.take k)) ∧ s7 = .int .u32 bb ∧ s8 = .int .i64 k ∧ wr' = wr)
            case atStart => exact ⟨0, 0, by omega, Lib.hid (by omega), Lib.hid (by simp [Lab.best]), rfl, rfl, rfl⟩
            case round =>
              obtain ⟨k, bb, hk, hg, hb, rfl, rfl, rfl⟩ := hrel
              by_cases hlt : k < n
              · obtain ⟨c, x1, hx, hc1⟩ := HCELL.out wr HH.out.2.2.2 k hlt
                have hst := Lib.hid (Lab.best_snoc (l := Lab.last cs) hx)
                have hl0 : Lab.last cs = 0 := by rw [HCS.out]; rfl
                by_cases e : bb = 0
                · have t1 : ((bb : Int) == 0) = true := by rw [beq_iff_eq]; omega
                  have hv := Lib.hid (show Lab.look (Lab.last cs) bb c = c by unfold Lab.look; rw [if_pos]; exact ⟨by omega, .inl e⟩)
                  clear hx hc1 hl0 e
                  go_wp2
                  go_roundg (n - (k + 1))
                  case measure => rw [hg.out]; omega
                  case rel => exact ⟨k + 1, c, by omega, Lib.hid rfl, Lib.hid (by rw [hst.out, ← hb.out, hv.out]), rfl, by go_num, rfl⟩
                · have t1 : ((bb : Int) == 0) = false := by rw [beq_eq_false_iff_ne]; omega
                  by_cases e2 : c < bb
                  · have hv := Lib.hid (show Lab.look (Lab.last cs) bb c = c by unfold Lab.look; rw [if_pos]; exact ⟨by omega, .inr e2⟩)
                    clear hx hc1 hl0 e
                    go_wp2
                    go_roundg (n - (k + 1))
                    case measure => rw [hg.out]; omega
                    case rel => exact ⟨k + 1, c, by omega, Lib.hid rfl, Lib.hid (by rw [hst.out, ← hb.out, hv.out]), rfl, by go_num, rfl⟩
                  · have hv := Lib.hid (show Lab.look (Lab.last cs) bb c = bb by unfold Lab.look; rw [if_neg]; omega)
                    clear hx hc1 hl0 e
                    go_wp2
                    go_roundg (n - (k + 1))
                    case measure => rw [hg.out]; omega
                    case rel => exact ⟨k + 1, bb, by omega, Lib.hid rfl, Lib.hid (by rw [hst.out, ← hb.out, hv.out]), rfl, by go_num, rfl⟩
              · go_wp2_with fail
                go_meet
                exact ⟨rfl, bb, Lib.hid (by rw [hb.out, List.take_of_length_le]; rw [← EX.out, List.length_map, EN.out]; omega), rfl⟩
          · have eN := HN.out
            obtain ⟨L, eL⟩ : ∃ L, Lab.last cs = L := ⟨_, rfl⟩
            obtain ⟨m, em⟩ : ∃ m, N = m + 1 := ⟨N - 1, by omega⟩
            have yL : wr.cell? ⟨g', m, none⟩ = some (.int .u32 (L : Nat)) := by
              have ho := HH.out.2.2.1
              rw [eN] at ho
              rw [ho.cellAt m (by omega)]
              unfold U
              rw [List.getElem?_map, show m = cs.length - 1 from by omega, Lab.last_get (by omega), eL]; rfl
            have hNn : N ≤ n := by have := HH.out.1.2.2.2; rw [← EX.out, List.length_map, EN.out] at this; omega
            have EL := Lib.hid eL
            have t0 : ((N : Int) == 0) = false := by rw [beq_eq_false_iff_ne]; omega
            have hw : IntKind.i64.wrap ((N : Int) - 1) = (m : Int) := by rw [em]; rw [show ((m + 1 : Nat) : Int) - 1 = (m : Int) from by omega]; exact IntWalk.i64_in _ (by omega)
            have hm : (m : Int) < (N : Int) := by omega
            have EM := Lib.hid em
            clear eN eL em
            go_wp2_with fail
            go_loopg [7, 8] n (fun g s7 s8 wr' => ∃ k bb : Nat, k ≤ n ∧ Hid (g = n - k) ∧ Hid (bb = Lab.best (Lab.last cs) (xs.take k)) ∧ s7 = .int .u32 bb ∧ s8 = .int .i64 k ∧ wr' = wr)
            case atStart => exact ⟨0, 0, by omega, Lib.hid (by omega), Lib.hid (by simp [Lab.best]), rfl, rfl, rfl⟩
            case round =>
              obtain ⟨k, bb, hk, hg, hb, rfl, rfl, rfl⟩ := hrel
              by_cases hlt : k < n
              · obtain ⟨c, x1, hx, hc1⟩ := HCELL.out wr HH.out.2.2.2 k hlt
                have hst := Lib.hid (Lab.best_snoc (l := Lab.last cs) hx)
                by_cases eo : L < c
                · by_cases e : bb = 0
                  · have t1 : ((bb : Int) == 0) = true := by rw [beq_iff_eq]; omega
                    have hv := Lib.hid (show Lab.look (Lab.last cs) bb c = c by rw [EL.out]; unfold Lab.look; rw [if_pos]; exact ⟨by omega, .inl e⟩)
                    clear hx hc1 e
                    go_wp2
                    go_roundg (n - (k + 1))
                    case measure => rw [hg.out]; omega
                    case rel => exact ⟨k + 1, c, by omega, Lib.hid rfl, Lib.hid (by rw [hst.out, ← hb.out, hv.out]), rfl, by go_num, rfl⟩
                  · have t1 : ((bb : Int) == 0) = false := by rw [beq_eq_false_iff_ne]; omega
                    by_cases e2 : c < bb
                    · have hv := Lib.hid (show Lab.look (Lab.last cs) bb c = c by rw [EL.out]; unfold Lab.look; rw [if_pos]; exact ⟨by omega, .inr e2⟩)
                      clear hx hc1 e
                      go_wp2
                      go_roundg (n - (k + 1))
                      case measure => rw [hg.out]; omega
                      case rel => exact ⟨k + 1, c, by omega, Lib.hid rfl, Lib.hid (by rw [hst.out, ← hb.out, hv.out]), rfl, by go_num, rfl⟩
                    · have hv := Lib.hid (show Lab.look (Lab.last cs) bb c = bb by rw [EL.out]; unfold Lab.look; rw [if_neg]; omega)
                      clear hx hc1 e
                      go_wp2
                      go_roundg (n - (k + 1))
                      case measure => rw [hg.out]; omega
                      case rel => exact ⟨k + 1, bb, by omega, Lib.hid rfl, Lib.hid (by rw [hst.out, ← hb.out, hv.out]), rfl, by go_num, rfl⟩
                · have hv := Lib.hid (show Lab.look (Lab.last cs) bb c = bb by rw [EL.out]; unfold Lab.look; rw [if_neg]; omega)
                  clear hx hc1
                  go_wp2
                  go_roundg (n - (k + 1))
                  case measure => rw [hg.out]; omega
                  case rel => exact ⟨k + 1, bb, by omega, Lib.hid rfl, Lib.hid (by rw [hst.out, ← hb.out, hv.out]), rfl, by go_num, rfl⟩
              · go_wp2_with fail
                go_meet
                exact ⟨rfl, bb, Lib.hid (by rw [hb.out, List.take_of_length_le]; rw [← EX.out, List.length_map, EN.out]; omega), rfl⟩
        case rest =>
          obtain ⟨rfl, bb, hb, rfl⟩ := hcut
          have hwz : wc.heap.size ≤ wr.heap.size := HH.out.2.2.2.size
          have hNn : cs.length ≤ n := by have := HH.out.1.2.2.2; rw [← EX.out, List.length_map, EN.out] at this; omega
          by_cases e : bb = 0
          · have t1 : ((bb : Int) == 0) = true := by rw [beq_iff_eq]; omega
            have he := Lib.hid (show Lab.best (Lab.last cs) xs = 0 by rw [← hb.out]; exact e)
            clear e
            go_wp2_with fail
            go_ret
            refine ⟨_, cs, rfl, ?_, owns_mono HH.out.2.2.1 (by omega), ?_⟩
            · rw [ERS.out, EX.out]; exact Lab.gathered_end HH.out.1 HP.out he.out
            · have hB2 := (HB.out.trans (HH.out.2.2.2.mono hsz))
              exact ⟨hB2.os, hB2.tape, hB2.output, by have := hB2.size; simp at this; omega, fun i hi => by rw [hB2.block i (by omega), Below.heap_alloc _ _ _ (by simp; omega), Below.heap_alloc _ _ _ hi]⟩
          · have t1 : ((bb : Int) == 0) = false := by rw [beq_eq_false_iff_ne]; omega
            have hs := Lib.hid (Lab.gathered_snoc HH.out.1 (by rw [← hb.out]; exact e))
            obtain ⟨j0, hj, hy0, hy1, hy2⟩ := info_parts info37
            clear e
            go_wp2_with (at_builtin; refine wpList_append_own _ rfl _ _ 64 rfl wc.heap.size 78 j0 (.int .u32 0) 1 4 Try.underlying64 hj hy0 hy1 hy2 rfl (by decide) _ _ _ rfl (HH.out.2.2.1.alloc _) ⟨wr.heap.size, 0, none⟩ 1 1 [.int .u32 bb] rfl rfl (one_new _ _ _) (one_u32 bb) ?c3 ?c4 ?c5 ?_)
            case c3 => unfold maxLen; omega
            case c4 => omega
            case c5 => simp; omega
            intro v' w1 hown' hgrow hnil
            have HB' := Lib.hid ((HH.out.2.2.2.alloc hwz (.cells #[.int .u32 bb] 78)).grown hgrow (by simp; omega) (fun k hk => (HH.out.2.2.1.lt k hk).1))
            obtain ⟨g'', cap'', rfl, _, _⟩ := hown'.form (by omega)
            have HO' := Lib.hid hown'
            have hN := HN.out
            clear hown' hgrow hnil
            go_wp2_with fail
            go_roundg (Lab.above (Lab.last (cs ++ [bb])) xs)
            case measure => rw [HH.out.2.1, hb.out]; have := hs.out.2; omega
            case rel => 
              refine ⟨cs ++ [bb], cs.length + 1, Lib.hid ⟨?_, rfl, ?_, HB'.out⟩, Lib.hid (by simp), .inr ⟨g'', cap'', rfl, by omega⟩⟩
              · rw [hb.out]; exact hs.out.1
              · rw [U_snoc, List.length_append]; exact HO'.out
end Go.Proofs.Ytmadldgajjgbmaa
-- with Rg
namespace Go.Proofs.Ytmadldgajjgbmaa
open Go.RowKit
set_option linter.unusedVariables false
set_option linter.unusedSimpArgs false

end Go.Proofs.Ytmadldgajjgbmaa
-- with Rh
namespace Go.Proofs.Ytmadldgajjgbmaa
open Go.RowKit
set_option linter.unusedVariables false
set_option linter.unusedSimpArgs false

/-- A slice of single cells reads as a list of values. -/
def ReadsV (w : World) (v : Value) (us : List Value) : Prop :=
  (v = .slice none 0 0 ∧ us = []) ∨ ∃ b off cap, v = .slice (some ⟨b, off, none⟩) us.length cap ∧ b < w.heap.size ∧ us.length ≤ 140737488351232 ∧
    ∀ i u, us[i]? = some u → w.cell? ⟨b, off + i, none⟩ = some u
theorem ReadsV.below {w w' : World} {v : Value} {us : List Value} (h : ReadsV w v us) (hb : Below w.heap.size w w') : ReadsV w' v us := by
  rcases h with h | ⟨b, off, cap, h1, h2, h3, h4⟩
  · exact .inl h
  · refine .inr ⟨b, off, cap, h1, Nat.lt_of_lt_of_le h2 hb.size, h3, fun i p hp => ?_⟩
    rw [hb.cell (p := ⟨b, _, none⟩) h2]
    exact h4 i p hp
theorem readsV_of_owns {w : World} {base : Nat} {e : TypeId} {v : Value} {us : List Value} {n : Nat} (h : w.ownsRow base e 1 v n us) (hn : n ≤ 140737488351232) : ReadsV w v us := by
  have hl : us.length = n := by have := h.1; omega
  by_cases h0 : n = 0
  · rcases h.2 with ⟨rfl, _⟩ | ⟨g, cap, cur, hv, hb, hg, _⟩
    · exact .inl ⟨rfl, List.eq_nil_of_length_eq_zero (by omega)⟩
    · have hu : us = [] := List.eq_nil_of_length_eq_zero (by omega)
      refine .inr ⟨g, 0, cap, by rw [hl]; exact hv, (Array.getElem?_eq_some_iff.1 hg).1, by omega, fun i p hp => ?_⟩
      rw [hu] at hp; simp at hp
  · obtain ⟨g, cap, rfl, hb, hg⟩ := h.form (by omega)
    refine .inr ⟨g, 0, cap, by rw [hl], hg, by omega, fun i p hp => ?_⟩
    have hi : i < us.length := (List.getElem?_eq_some_iff.1 hp).1
    rw [h.cellAt (0 + i) (by omega), Nat.zero_add]
    exact hp
theorem info24 : (Try.prog.info? 41).map (·.size) = some 2 := by kernel_rfl
/-- Levels, as cells. -/
def V (ls : List Int) : List Value := ls.map (fun (n : Int) => Value.int .i64 n)
theorem owns_set {w : World} {base : Nat} {e : TypeId} {size : Nat} {v : Value} {n : Nat} {xs : List Value} (h : w.ownsRow base e size v n xs) (a : Addr) (u : Value) (hne : some a.block ≠ v.ownBlock) : (w.setCell a u).ownsRow base e size v n xs :=
  h.kept (row := some a.block) ⟨rfl, rfl, rfl, by simp, fun k _ hk => heap_setCell_other w a k u (fun e => hk (by simp [e]))⟩ (.inr fun e => hne e.symm)
/-- What holds while a label is made. -/
def Making (w : World) (D : Int) (m : List (Nat × Int)) (v : Value) (wr : World) : Prop :=
  wr.ownsRow (w.heap.size + 2) 80 2 v m.length (F m) ∧ wr.heap[w.heap.size + 1]? = some (.cells #[.int .i64 D, v] 41) ∧ wr.heap[w.heap.size]? = some (.cells #[.int .i64 0, .slice none 0 0] 41) ∧
    Below w.heap.size w wr ∧ w.heap.size + 2 ≤ wr.heap.size
theorem making_start (w : World) (D : Int) : Making w D [] (.slice none 0 0) ((w.alloc (.cells #[.int .i64 0, .slice none 0 0] 41)).alloc (.cells #[.int .i64 D, .slice none 0 0] 41)) := by
  refine ⟨World.ownsRow_nil _ _ _ _, ?_, ?_, ((Below.refl _ _).alloc (Nat.le_refl _) _).alloc (by simp) _, by simp⟩
  · have := heap_alloc_new (w.alloc (.cells #[.int .i64 0, .slice none 0 0] 41)) (.cells #[.int .i64 D, .slice none 0 0] 41)
    simpa using this
  · rw [Below.heap_alloc _ _ _ (by simp)]; exact heap_alloc_new w _
theorem Making.l {w wr : World} {D : Int} {m : List (Nat × Int)} {v : Value} (h : Making w D m v wr) : wr.cell? ⟨w.heap.size + 1, 1, none⟩ = some v := by
  rw [cell_of_row wr (w.heap.size + 1) 1 _ 41 (0, 0) h.2.1]; rfl
theorem Making.apart {w wr : World} {D : Int} {m : List (Nat × Int)} {v : Value} (h : Making w D m v wr) : some (w.heap.size + 1) ≠ v.ownBlock ∧ some w.heap.size ≠ v.ownBlock := by
  constructor
  · intro e; have := (h.1.lt _ e.symm).1; omega
  · intro e; have := (h.1.lt _ e.symm).1; omega
theorem Making.grown {w wr w1 : World} {D : Int} {m : List (Nat × Int)} {v : Value} {o : Obj} (h : Making w D m v wr) (hg : (wr.alloc o).drew.grownBy w1 v.ownBlock) :
    w1.heap[w.heap.size + 1]? = some (.cells #[.int .i64 D, v] 41) ∧ w1.heap[w.heap.size]? = some (.cells #[.int .i64 0, .slice none 0 0] 41) ∧ Below w.heap.size w w1 ∧ w.heap.size + 2 ≤ w1.heap.size := by
  obtain ⟨h1, h2, h3, h4, h5⟩ := h
  have ap := Making.apart ⟨h1, h2, h3, h4, h5⟩
  refine ⟨?_, ?_, ((h4.alloc (by omega) o).drew).grown hg (by simp; omega) (fun k hk => by have := (h1.lt k hk).1; omega), by have := hg.size; simp at this; omega⟩
  · rw [hg.block _ (by simp; omega) ap.1]; show (wr.alloc o).heap[_]? = _; rw [Below.heap_alloc _ _ _ (by omega)]; exact h2
  · rw [hg.block _ (by simp; omega) ap.2]; show (wr.alloc o).heap[_]? = _; rw [Below.heap_alloc _ _ _ (by omega)]; exact h3
theorem Making.push {w wr w1 : World} {D : Int} {m : List (Nat × Int)} {v v' : Value} {o : Obj} (h : Making w D m v wr) (c : Nat) (l : Int) (hg : (wr.alloc o).drew.grownBy w1 v.ownBlock)
   (hown : w1.ownsRow (w.heap.size + 2) 80 2 v' (m.length + 1) (F m ++ [.int .u32 (c : Int), .int .i64 l])) : Making w D (m ++ [(c, l)]) v' (w1.setCell ⟨w.heap.size + 1, 1, none⟩ v') := by
  obtain ⟨g1, g2, g3, g4⟩ := h.grown hg
  have hs := heap_setCell_same w1 (w.heap.size + 1) 1 _ 41 v' g1
  refine ⟨?_, ?_, ?_, ?_, by simpa using g4⟩
  · rw [List.length_append, F_snoc]
    refine hown.kept (row := some (w.heap.size + 1)) ⟨rfl, rfl, rfl, by simp, fun k _ hk => heap_setCell_other w1 ⟨w.heap.size + 1, 1, none⟩ k v' (fun e => hk (by simp [e]))⟩ ?_
    right; intro e; have := (hown.lt _ e).1; omega
  · simpa using hs
  · rw [heap_setCell_other w1 ⟨w.heap.size + 1, 1, none⟩ _ v' (by simp)]; exact g2
  · exact g3.setCell (by simp) v'
set_option maxHeartbeats 3200000 in
theorem make_some (b1 o1 c1 b2 o2 c2 : Nat) (cs : List Nat) (ls : List Int) (D : Int) (w : World) (hl : ls.length = cs.length) (hn : cs.length ≤ 8796093022207) (hb1 : b1 < w.heap.size) (hb2 : b2 < w.heap.size)
   (hc1 : ∀ i u, (U cs)[i]? = some u → w.cell? ⟨b1, o1 + i, none⟩ = some u) (hc2 : ∀ i u, (V ls)[i]? = some u → w.cell? ⟨b2, o2 + i, none⟩ = some u) :
    Calls Try.prog 57 #[.int .i64 D, .slice (some ⟨b1, o1, none⟩) cs.length c1, .slice (some ⟨b2, o2, none⟩) cs.length c2] w fun e w' =>
      ∃ v, e = .returned (.agg #[.int .i64 D, v]) ∧ w'.ownsRow w.heap.size 80 2 v (Lab.make D cs ls).length (F (Lab.make D cs ls)) ∧ Below w.heap.size w w' := by
  obtain ⟨i0, hi, hz0, hz1, hz2⟩ := info_parts info47
  have HC1 := Lib.hid hc1
  have HC2 := Lib.hid hc2
  obtain ⟨n, en⟩ : ∃ n, cs.length = n := ⟨_, rfl⟩
  rw [en] at hn hl ⊢
  have EN := Lib.hid en
  have EL := Lib.hid hl
  clear hc1 hc2 en hl
  go_enter Try.func57, Try.ntmps57
  go_wp2
  go_loopg [8] n (fun g i wr => ∃ (k : Nat) (v : Value), k ≤ n ∧ Hid (g = n - k) ∧ i = .int .i64 k ∧ Hid (Making w D (((cs.zip ls).take k).filter (fun p => p.2 != D)) v wr))
  case atStart => exact ⟨0, _, by omega, Lib.hid (by omega), rfl, Lib.hid (making_start w D)⟩
  case round =>
    obtain ⟨k, v, hk, hg, rfl, hm⟩ := hrel
    have hL := hm.out.l
    have hsz := hm.out.2.2.2.2
    by_cases hlt : k < n
    · obtain ⟨c, hc⟩ : ∃ c, cs[k]? = some c := ⟨_, List.getElem?_eq_getElem (by rw [EN.out]; exact hlt)⟩
      obtain ⟨l, hl⟩ : ∃ l, ls[k]? = some l := ⟨_, List.getElem?_eq_getElem (by rw [EL.out]; exact hlt)⟩
      have x1 : wr.cell? ⟨b1, o1 + k, none⟩ = some (.int .u32 (c : Nat)) := by
        rw [hm.out.2.2.2.1.cell (p := ⟨b1, _, none⟩) hb1]; exact HC1.out k _ (by unfold U; rw [List.getElem?_map, hc]; rfl)
      have x2 : wr.cell? ⟨b2, o2 + k, none⟩ = some (.int .i64 l) := by
        rw [hm.out.2.2.2.1.cell (p := ⟨b2, _, none⟩) hb2]; exact HC2.out k _ (by unfold V; rw [List.getElem?_map, hl]; rfl)
      by_cases e : l = D
      · have hv := Lib.hid (Lab.make_miss hc hl e)
        have t1 : (l != D) = false := by simp [e]
        clear hc hl e
        go_wp2
        go_roundg (n - (k + 1))
        case measure => rw [hg.out]; omega
        case rel => exact ⟨k + 1, v, by omega, Lib.hid rfl, by go_num, Lib.hid (by rw [hv.out]; exact hm.out)⟩
      · have hv := Lib.hid (Lab.make_hit hc hl e)
        have t1 : (l != D) = true := by simp [e]
        clear hc hl e
        go_upto_region 6 with fail
        have hlen := Lab.make_len D cs ls k
        obtain ⟨m, em⟩ : ∃ m, ((cs.zip ls).take k).filter (fun p => p.2 != D) = m := ⟨_, rfl⟩
        rw [em] at hlen hm
        have EM := Lib.hid em
        clear em
        have hne : ¬ w.heap.size + 1 = wr.heap.size := by omega
        have hLA : (wr.alloc (Obj.cells #[.int .u32 (c : Int), .int .i64 l] 80)).cell? ⟨w.heap.size + 1, 1, none⟩ = some v := by
          rw [World.cell?_alloc_old _ _ _ (by simp; omega)]; exact hL
        have hLB : (wr.alloc (Obj.cells #[.int .u32 (c : Int), .int .i64 l] 80)).drew.cell? ⟨w.heap.size + 1, 1, none⟩ = some v := hLA
        have hLC : (wr.drew.alloc (Obj.cells #[.int .u32 (c : Int), .int .i64 l] 80)).cell? ⟨w.heap.size + 1, 1, none⟩ = some v := hLA
        go_region_law (first
          | (refine step_append_own _ (by rfl) _ _ _ (by rfl) (w.heap.size + 2) 80 i0 _ 2 16 Try.underlying39 hi hz0 hz1 hz2 rfl (by omega) v _ _ (by rfl) ((hm.out.1.alloc _).drew)
              ⟨wr.heap.size, 0, none⟩ 1 1 [.int .u32 (c : Int), .int .i64 l] (by rfl) (by rfl) (World.news_of_block (cs := #[.int .u32 (c : Int), .int .i64 l]) (t := 80) (fr := (0, 0)) (heap_alloc_new wr _)) (by simp [Value.oneCell']) (by unfold maxLen; omega) (by omega) (by simp; omega) ?_
             intro v' w1 hown1 hgrow1 _
             obtain ⟨g', cap', rfl, _, _⟩ := hown1.form (by omega)
             have hpush := Lib.hid (hm.out.push c l hgrow1 hown1)
             have hL1 := cell_of_row w1 (w.heap.size + 1) 1 _ 41 (0, 0) (hm.out.grown hgrow1).1
             have hF1 := frozen_of_row w1 (w.heap.size + 1) 1 _ 41 (hm.out.grown hgrow1).1
             replace hown1 := Lib.hid hown1
             clear hgrow1))
        all_goals
          go_wp2_with fail
          go_roundg (n - (k + 1))
          case measure => rw [hg.out]; omega
          case rel => exact ⟨k + 1, _, by omega, Lib.hid rfl, by go_num, Lib.hid (by rw [hv.out, EM.out]; exact hpush.out)⟩
    · have hform : v = .slice none 0 0 ∨ ∃ g' n' cap', v = .slice (some ⟨g', 0, none⟩) n' cap' := by
        rcases hm.out.1.2 with ⟨h, _⟩ | ⟨g', cap', cur, h, _⟩
        · exact .inl h
        · exact .inr ⟨_, _, _, h⟩
      have hL0 : wr.cell? ⟨w.heap.size + 1, 0, none⟩ = some (.int .i64 D) := by rw [cell_of_row wr _ 0 _ 41 (0, 0) hm.out.2.1]; rfl
      have hR0 : wr.cell? ⟨w.heap.size, 0, none⟩ = some (.int .i64 0) := by rw [cell_of_row wr _ 0 _ 41 (0, 0) hm.out.2.2.1]; rfl
      have hR1 : wr.cell? ⟨w.heap.size, 1, none⟩ = some (.slice none 0 0) := by rw [cell_of_row wr _ 1 _ 41 (0, 0) hm.out.2.2.1]; rfl
      have hF0 : wr.frozen? ⟨w.heap.size, 0, none⟩ = false := frozen_of_row wr _ 0 _ 41 hm.out.2.2.1
      have hF1 : wr.frozen? ⟨w.heap.size, 1, none⟩ = false := frozen_of_row wr _ 1 _ 41 hm.out.2.2.1
      have hread : ∀ w2 : World, Below (w.heap.size) w w2 → w2.ownsRow (w.heap.size + 2) 80 2 v (((cs.zip ls).take k).filter (fun p => p.2 != D)).length (F (((cs.zip ls).take k).filter (fun p => p.2 != D))) → w2.ownsRow w.heap.size 80 2 v (Lab.make D cs ls).length (F (Lab.make D cs ls)) := by
        intro w2 _ ho
        have hmk : ((cs.zip ls).take k).filter (fun p => p.2 != D) = Lab.make D cs ls := by
          unfold Lab.make; rw [List.take_of_length_le]; rw [List.length_zip, EN.out, EL.out]; omega
        rw [hmk] at ho
        exact owns_mono ho (by omega)
      have HR := Lib.hid hread
      clear hread
      rcases hform with rfl | ⟨g', n', cap', rfl⟩
      · go_wp2
        have hblk : ((wr.setCell ⟨w.heap.size, 0, none⟩ (.int .i64 D)).setCell ⟨w.heap.size, 1, none⟩ (.slice none 0 0)).heap[w.heap.size]? = some (.cells #[.int .i64 D, .slice none 0 0] 41) := by
          have e1 := heap_setCell_same wr w.heap.size 0 _ 41 (.int .i64 D) hm.out.2.2.1
          have e2 := heap_setCell_same _ w.heap.size 1 _ 41 (.slice none 0 0) e1
          simpa using e2
        refine bodyPost_ret (results_cell_row (by rfl) _ _ w.heap.size 41 _ (0, 0) _ (by rfl) hblk Try.underlying41 rfl info24) rfl ⟨_, rfl, HR.out _ ((hm.out.2.2.2.1.setCell (by simp) _).setCell (by simp) _) ?_, (hm.out.2.2.2.1.setCell (by simp) _).setCell (by simp) _⟩
        exact owns_set (owns_set hm.out.1 _ _ hm.out.apart.2) _ _ hm.out.apart.2
      · go_wp2
        have hblk : ((wr.setCell ⟨w.heap.size, 0, none⟩ (.int .i64 D)).setCell ⟨w.heap.size, 1, none⟩ (.slice (some ⟨g', 0, none⟩) n' cap')).heap[w.heap.size]? = some (.cells #[.int .i64 D, (.slice (some ⟨g', 0, none⟩) n' cap')] 41) := by
          have e1 := heap_setCell_same wr w.heap.size 0 _ 41 (.int .i64 D) hm.out.2.2.1
          have e2 := heap_setCell_same _ w.heap.size 1 _ 41 (.slice (some ⟨g', 0, none⟩) n' cap') e1
          simpa using e2
        refine bodyPost_ret (results_cell_row (by rfl) _ _ w.heap.size 41 _ (0, 0) _ (by rfl) hblk Try.underlying41 rfl info24) rfl ⟨_, rfl, HR.out _ ((hm.out.2.2.2.1.setCell (by simp) _).setCell (by simp) _) ?_, (hm.out.2.2.2.1.setCell (by simp) _).setCell (by simp) _⟩
        exact owns_set (owns_set hm.out.1 _ _ hm.out.apart.2) _ _ hm.out.apart.2
end Go.Proofs.Ytmadldgajjgbmaa
-- with Ri
namespace Go.Proofs.Ytmadldgajjgbmaa
open Go.RowKit
set_option linter.unusedVariables false
set_option linter.unusedSimpArgs false

theorem make_zero (v1 v2 : Value) (D : Int) (w : World) (h : v1 = .slice none 0 0 ∨ ∃ b o c, v1 = .slice (some ⟨b, o, none⟩) 0 c) :
    Calls Try.prog 57 #[.int .i64 D, v1, v2] w fun e w' =>
      ∃ v, e = .returned (.agg #[.int .i64 D, v]) ∧ w'.ownsRow w.heap.size 80 2 v 0 [] ∧ Below w.heap.size w w' := by
  have hblk : ((w.alloc (Obj.cells #[.int .i64 D, .slice none 0 0] 41)).alloc (Obj.cells #[.int .i64 D, .slice none 0 0] 41)).heap[w.heap.size]? = some (.cells #[.int .i64 D, .slice none 0 0] 41) := by
    rw [Below.heap_alloc _ _ _ (by simp)]; exact heap_alloc_new w _
  have HB := Lib.hid hblk
  clear hblk
  rcases h with rfl | ⟨b, o, c, rfl⟩
  · go_enter Try.func57, Try.ntmps57
    go_wp2
    go_loop [8] (fun i => i = .int .i64 0) (fun i => 0)
    case atStart => rfl
    case round =>
      subst hrel
      go_wp2
      exact bodyPost_ret (results_cell_row (by rfl) _ _ w.heap.size 41 _ (0, 0) _ (by rfl) HB.out Try.underlying41 rfl info24) rfl ⟨_, rfl, World.ownsRow_nil _ _ _ _, ((Below.refl _ _).alloc (Nat.le_refl _) _).alloc (by simp) _⟩
  · go_enter Try.func57, Try.ntmps57
    go_wp2
    go_loop [8] (fun i => i = .int .i64 0) (fun i => 0)
    case atStart => rfl
    case round =>
      subst hrel
      go_wp2
      exact bodyPost_ret (results_cell_row (by rfl) _ _ w.heap.size 41 _ (0, 0) _ (by rfl) HB.out Try.underlying41 rfl info24) rfl ⟨_, rfl, World.ownsRow_nil _ _ _ _, ((Below.refl _ _).alloc (Nat.le_refl _) _).alloc (by simp) _⟩
theorem make_any (v1 v2 : Value) (cs : List Nat) (ls : List Int) (D : Int) (w : World) (hl : ls.length = cs.length) (hn : cs.length ≤ 8796093022207) (h1 : ReadsV w v1 (U cs)) (h2 : ReadsV w v2 (V ls)) :
    Calls Try.prog 57 #[.int .i64 D, v1, v2] w fun e w' =>
      ∃ v, e = .returned (.agg #[.int .i64 D, v]) ∧ w'.ownsRow w.heap.size 80 2 v (Lab.make D cs ls).length (F (Lab.make D cs ls)) ∧ Below w.heap.size w w' := by
  have hU : (U cs).length = cs.length := by simp [U]
  have hV : (V ls).length = cs.length := by simp [V, hl]
  by_cases h0 : cs.length = 0
  · have hc : cs = [] := List.eq_nil_of_length_eq_zero h0
    have hm : Lab.make D cs ls = [] := by rw [hc]; simp [Lab.make]
    rw [hm]
    refine make_zero v1 v2 D w ?_
    rcases h1 with ⟨rfl, _⟩ | ⟨b, o, c, rfl, _⟩
    · exact .inl rfl
    · rw [hU, h0]; exact .inr ⟨b, o, c, rfl⟩
  · rcases h1 with ⟨_, h⟩ | ⟨b1, o1, c1, rfl, hb1, _, hc1⟩
    · rw [h] at hU; simp at hU; omega
    · rcases h2 with ⟨_, h⟩ | ⟨b2, o2, c2, rfl, hb2, _, hc2⟩
      · rw [h] at hV; simp at hV; omega
      · rw [hU, hV]
        exact make_some b1 o1 c1 b2 o2 c2 cs ls D w hl hn hb1 hb2 hc1 hc2
end Go.Proofs.Ytmadldgajjgbmaa
-- with Rj
namespace Go.Proofs.Ytmadldgajjgbmaa
open Go.RowKit
set_option linter.unusedVariables false
set_option linter.unusedSimpArgs false

theorem info3 : (Try.prog.info? 3).map (fun i => (i.zero, i.size, i.bytes)) = some (some (.int .i64 0), 1, 8) := by kernel_rfl
theorem owns_below {w w' : World} {base : Nat} {e : TypeId} {size : Nat} {v : Value} {n : Nat} {xs : List Value} (h : w.ownsRow base e size v n xs) (hb : Below w.heap.size w w') : w'.ownsRow base e size v n xs :=
  h.kept (row := none) ⟨hb.os, hb.tape, hb.output, hb.size, fun k hk _ => hb.block k hk⟩ (by cases hv : v.ownBlock <;> simp)
end Go.Proofs.Ytmadldgajjgbmaa
-- with Rk
namespace Go.Proofs.Ytmadldgajjgbmaa
open Go.RowKit
set_option linter.unusedVariables false
set_option linter.unusedSimpArgs false

set_option maxRecDepth 100000 in
set_option maxHeartbeats 6400000 in
theorem leq_any (v1 v2 : Value) (ps qs : List (Nat × Int)) (D1 D2 : Int) (w : World) (hn : ps.length + qs.length ≤ 8796093022207) (r1 : Reads w v1 ps) (r2 : Reads w v2 qs)
    (hpos : ∀ c ∈ (ps ++ qs).map (·.1), 1 ≤ c) :
    Calls Try.prog 23 #[.agg #[.int .i64 D1, v1], .agg #[.int .i64 D2, v2]] w fun e w' =>
      ∃ cs, Lab.CatsOf ((ps ++ qs).map (·.1)) cs ∧ e = .returned (.bool (Lab.leq cs D1 ps D2 qs)) ∧ Below w.heap.size w w' := by
  have R1 := Lib.hid r1
  have R2 := Lib.hid r2
  have HP := Lib.hid hpos
  have HN := Lib.hid hn
  clear r1 r2 hpos hn
  go_enter Try.func23, Try.ntmps23
  go_wp2_with fail
  obtain ⟨W0, eW⟩ : ∃ W0, W0 = ((w.alloc (Obj.cells #[Value.int .i64 D1, v1] 41)).alloc (Obj.cells #[Value.int .i64 D2, v2] 41)) := ⟨_, rfl⟩
  rw [← eW]
  have hW : Below w.heap.size w W0 ∧ W0.heap.size = w.heap.size + 2 ∧ W0.heap[w.heap.size]? = some (Obj.cells #[Value.int .i64 D1, v1] 41) ∧ W0.heap[w.heap.size + 1]? = some (Obj.cells #[Value.int .i64 D2, v2] 41) := by
    rw [eW]
    refine ⟨((Below.refl _ _).alloc (Nat.le_refl _) _).alloc (by simp) _, by simp, ?_, ?_⟩
    · rw [Below.heap_alloc _ _ _ (by simp)]; exact heap_alloc_new w _
    · have := heap_alloc_new (w.alloc (Obj.cells #[Value.int .i64 D1, v1] 41)) (Obj.cells #[Value.int .i64 D2, v2] 41); simpa using this
  have HW := Lib.hid hW
  clear hW eW
  refine (cats_any v1 v2 ps qs D1 D2 W0 (by have := HN.out; omega) (R1.out.below HW.out.1) (R2.out.below HW.out.1) HP.out).mono ?_
  rintro e w1 ⟨vc, cs, rfl, hcs, hown, hb1⟩
  have HCS := Lib.hid hcs
  have HB1 := Lib.hid hb1
  have hH : w.heap.size + 2 ≤ w1.heap.size := by have := hb1.size; have := HW.out.2.1; omega
  have hS : ∀ wx, Below w1.heap.size w1 wx → wx.heap[w.heap.size]? = some (Obj.cells #[Value.int .i64 D1, v1] 41) ∧ wx.heap[w.heap.size + 1]? = some (Obj.cells #[Value.int .i64 D2, v2] 41) ∧
      Reads wx v1 ps ∧ Reads wx v2 qs ∧ Below w.heap.size w wx := by
    intro wx hx
    have hw2 : Below (w.heap.size + 2) W0 wx := (HB1.out.mono (by rw [HW.out.2.1]; exact Nat.le_refl _)).trans (hx.mono hH)
    have hw3 : Below w.heap.size w wx := HW.out.1.trans (hw2.mono (by omega))
    refine ⟨?_, ?_, R1.out.below hw3, R2.out.below hw3, hw3⟩
    · rw [hw2.block _ (by omega)]; exact HW.out.2.2.1
    · rw [hw2.block _ (by omega)]; exact HW.out.2.2.2
  have HS := Lib.hid hS
  have hlen : cs.length ≤ 8796093022207 := by have h := hcs.2.2; have := HN.out; rw [List.length_map, List.length_append] at h; omega
  have HRV := Lib.hid (readsV_of_owns hown (by omega))
  clear hcs hb1 hS hown
  obtain ⟨n, en⟩ : ∃ n, cs.length = n := ⟨_, rfl⟩
  rw [en] at hlen
  have EN := Lib.hid en
  clear en
  have hU : (U cs).length = n := by simp [U, EN.out]
  have hcell : ∀ wx, Below w1.heap.size w1 wx → wx.cell? ⟨w.heap.size, 0, none⟩ = some (.int .i64 D1) ∧ wx.cell? ⟨w.heap.size, 1, none⟩ = some v1 ∧
      wx.cell? ⟨w.heap.size + 1, 0, none⟩ = some (.int .i64 D2) ∧ wx.cell? ⟨w.heap.size + 1, 1, none⟩ = some v2 := by
    intro wx h1
    obtain ⟨a1, a2, _⟩ := HS.out wx h1
    refine ⟨?_, ?_, ?_, ?_⟩
    · rw [cell_of_row wx _ 0 _ 41 (0, 0) a1]; rfl
    · rw [cell_of_row wx _ 1 _ 41 (0, 0) a1]; rfl
    · rw [cell_of_row wx _ 0 _ 41 (0, 0) a2]; rfl
    · rw [cell_of_row wx _ 1 _ 41 (0, 0) a2]; rfl
  have HC := Lib.hid hcell
  clear hcell
  obtain ⟨Fq, eF⟩ : ∃ Fq : Nat → Bool, Fq = fun c => decide (Lab.at' D1 ps c ≤ Lab.at' D2 qs c) := ⟨_, rfl⟩
  have hleq : Lab.leq cs D1 ps D2 qs = (cs.all Fq && decide (D1 ≤ D2)) := by rw [eF]; rfl
  have HQ := Lib.hid hleq
  have EF := Lib.hid eF
  clear hleq eF
  rcases HRV.out with ⟨rfl, hc⟩ | ⟨bc, oc, cc, rfl, hbc, _, hcc⟩
  · have hn0 : n = 0 := by rw [← hU, hc]; rfl
    subst hn0
    clear hc hU
    go_wp2_with fail
    go_loopg [6] 1 (fun g i wr => i = .int .i64 0 ∧ w1 = wr)
    case atStart => exact ⟨rfl, rfl⟩
    case round =>
      obtain ⟨rfl, rfl⟩ := hrel
      obtain ⟨s1, s2, s3, s4⟩ := HC.out w1 (Below.refl _ _)
      have hq : Lab.leq cs D1 ps D2 qs = decide (D1 ≤ D2) := by rw [HQ.out, List.eq_nil_of_length_eq_zero EN.out]; simp
      have HQ2 := Lib.hid hq
      clear hq
      go_wp2
      go_ret
      exact ⟨cs, HCS.out, by rw [HQ2.out]; rfl, (HS.out w1 (Below.refl _ _)).2.2.2.2⟩
  · rw [hU]
    have HCC := Lib.hid hcc
    clear hcc hU
    go_wp2_with fail
    go_loopg [6] n (fun g i wr => ∃ k : Nat, k ≤ n ∧ Hid (g = n - k) ∧ i = .int .i64 k ∧ Hid (Below w1.heap.size w1 wr ∧ (cs.take k).all Fq = true))
    case atStart => exact ⟨0, by omega, Lib.hid (by omega), rfl, Lib.hid ⟨Below.refl _ _, by simp⟩⟩
    case round =>
      obtain ⟨k, hk, hg, rfl, hr⟩ := hrel
      obtain ⟨s1, s2, s3, s4⟩ := HC.out wr hr.out.1
      by_cases hlt : k < n
      · obtain ⟨c, hc⟩ : ∃ c, cs[k]? = some c := ⟨_, List.getElem?_eq_getElem (by rw [EN.out]; exact hlt)⟩
        have hszr : w1.heap.size ≤ wr.heap.size := hr.out.1.size
        have hmk : ∀ wx, Below w1.heap.size w1 wx → wx.cell? ⟨w.heap.size, 0, none⟩ = some (.int .i64 D1) ∧ wx.cell? ⟨w.heap.size, 1, none⟩ = some v1 ∧
            wx.cell? ⟨w.heap.size + 1, 0, none⟩ = some (.int .i64 D2) ∧ wx.cell? ⟨w.heap.size + 1, 1, none⟩ = some v2 ∧ wx.cell? ⟨bc, oc + k, none⟩ = some (.int .u32 (c : Nat)) := by
          intro wx h1
          obtain ⟨a1, a2, a3, a4⟩ := HC.out wx h1
          refine ⟨a1, a2, a3, a4, ?_⟩
          rw [h1.cell (p := ⟨bc, _, none⟩) hbc]; exact HCC.out k _ (by unfold U; rw [List.getElem?_map, hc]; rfl)
        have s5 := (hmk wr hr.out.1).2.2.2.2
        obtain ⟨L1, e1⟩ : ∃ L1, Lab.at' D1 ps c = L1 := ⟨_, rfl⟩
        obtain ⟨L2, e2⟩ : ∃ L2, Lab.at' D2 qs c = L2 := ⟨_, rfl⟩
        have hFc : Fq c = decide (L1 ≤ L2) := by rw [EF.out]; show decide (Lab.at' D1 ps c ≤ Lab.at' D2 qs c) = _; rw [e1, e2]
        have Q1 := Lib.hid (fun (wx : World) (h : Reads wx v1 ps) => e1 ▸ at_any v1 ps D1 c wx h)
        have Q2 := Lib.hid (fun (wx : World) (h : Reads wx v2 qs) => e2 ▸ at_any v2 qs D2 c wx h)
        have HMK := Lib.hid hmk
        have hcall := Lib.hid (hr.out.1.drew)
        have HFC := Lib.hid hFc
        have HCK := Lib.hid hc
        clear hmk e1 e2 hFc hc
        go_upto_region 5 with fail
        go_region_held3 (fun w' => w'.cell? ⟨w.heap.size, 0, none⟩ = some (.int .i64 D1) ∧ w'.cell? ⟨w.heap.size, 1, none⟩ = some v1 ∧
            w'.cell? ⟨w.heap.size + 1, 0, none⟩ = some (.int .i64 D2) ∧ w'.cell? ⟨w.heap.size + 1, 1, none⟩ = some v2 ∧ w'.cell? ⟨bc, oc + k, none⟩ = some (.int .u32 (c : Nat)))
          (first
            | exact HMK.out _ hcall.out)
          (first
            | (go_at_call_of 39 (Value.agg #[Value.int .i64 D1, v1])
               refine (Q1.out _ (HS.out _ hcall.out).2.2.1).mono ?_
               rintro e wq ⟨rfl, hb'⟩
               replace hcall := Lib.hid (hcall.out.trans (hb'.mono hcall.out.size))
               clear hb')
            | (go_at_call_of 39 (Value.agg #[Value.int .i64 D2, v2])
               refine (Q2.out _ (HS.out _ hcall.out).2.2.2.1).mono ?_
               rintro e wq ⟨rfl, hb'⟩
               replace hcall := Lib.hid (hcall.out.trans (hb'.mono hcall.out.size))
               clear hb'))
        all_goals
          by_cases hle : L1 ≤ L2
          · have hgt : ¬ L2 < L1 := by omega
            have hal := Lib.hid (Lab.all_snoc HCK.out hr.out.2 (by rw [HFC.out]; exact decide_eq_true hle))
            clear hle
            go_wp2_with fail
            go_roundg (n - (k + 1))
            case measure => rw [hg.out]; omega
            case rel => exact ⟨k + 1, by omega, Lib.hid rfl, by go_num, Lib.hid ⟨hcall.out, hal.out⟩⟩
          · have hgt : L2 < L1 := by omega
            have hq : Lab.leq cs D1 ps D2 qs = false := by rw [HQ.out, Lab.all_stop HCK.out (by rw [HFC.out]; exact decide_eq_false hle)]; rfl
            have HQ2 := Lib.hid hq
            clear hq hle
            go_wp2_with fail
            go_ret
            exact ⟨cs, HCS.out, by rw [HQ2.out]; rfl, (HS.out _ hcall.out).2.2.2.2⟩
      · have hq : Lab.leq cs D1 ps D2 qs = decide (D1 ≤ D2) := by
          have h := hr.out.2
          rw [List.take_of_length_le (by rw [EN.out]; omega)] at h
          rw [HQ.out, h]; simp
        have HQ2 := Lib.hid hq
        clear hq
        go_wp2
        go_ret
        exact ⟨cs, HCS.out, by rw [HQ2.out]; rfl, (HS.out wr hr.out.1).2.2.2.2⟩
end Go.Proofs.Ytmadldgajjgbmaa
