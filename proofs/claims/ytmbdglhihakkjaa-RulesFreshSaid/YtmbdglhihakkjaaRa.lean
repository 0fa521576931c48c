import Derived.Test.YtmbdglhihakkjaaNa
import Derived.Test.YtmbdglhihakkjaaRows
import Derived.WalkKit
import Derived.WalkLawsBesides
import Derived.WalkSpells
import Derived.Lib.Hide
import Derived.Outline
import Derived.BigQuiet
import Derived.Deep.QuietTactic
import Derived.Deep.LoopGhost
import Derived.Laws.AppendOwn
import Derived.Laws.OwnMore
import Derived.OwnWalk
import Derived.Laws.AppendOwnNone
import Derived.Deep.AppendLies
import Derived.Deep.RegionHeldLaw
import Derived.Deep.DeepCutAuto
import Derived.Deep.CutBlock
import Derived.IntWalk
namespace Go.Proofs.Ytmbdglhihakkjaa
open Go.RowKit
set_option linter.unusedVariables false
set_option linter.unusedSimpArgs false

/-- A slice of pairs reads as a list of them. -/
def Reads (w : World) (v : Value) (ps : List (Nat × Int)) : Prop :=
  (v = .slice none 0 0 ∧ ps = []) ∨ ∃ b off cap, v = .slice (some ⟨b, off, none⟩) ps.length cap ∧ b < w.heap.size ∧ ps.length ≤ 140737488351232 ∧
    ∀ i p, ps[i]? = some p → w.cell? ⟨b, off + i * 2, none⟩ = some (.int .u32 p.1) ∧ w.cell? ⟨b, off + i * 2 + 1, none⟩ = some (.int .i64 p.2)
theorem Reads.below {w w' : World} {v : Value} {ps : List (Nat × Int)} (h : Reads w v ps) (hb : Below w.heap.size w w') : Reads w' v ps := by
  rcases h with h | ⟨b, off, cap, h1, h2, h3, h4⟩
  · exact .inl h
  · refine .inr ⟨b, off, cap, h1, Nat.lt_of_lt_of_le h2 hb.size, h3, fun i p hp => ?_⟩
    rw [hb.cell (p := ⟨b, _, none⟩) h2, hb.cell (p := ⟨b, _, none⟩) h2]
    exact h4 i p hp
theorem at_none (D : Int) (c : Nat) (w : World) :
    Calls Try.prog 55 #[.agg #[.int .i64 D, .slice none 0 0], .int .u32 c] w fun e w' => e = .returned (.int .i64 D) ∧ Below w.heap.size w w' := by
  go_enter Try.func55, Try.ntmps55
  go_wp2
  go_loop [5] (fun i => i = .int .i64 0) (fun i => 0)
  case atStart => rfl
  case round =>
    subst hrel
    go_wp2
    go_ret
    exact ⟨rfl, (Below.refl _ _).alloc (Nat.le_refl _) _⟩
set_option maxHeartbeats 1000000 in
theorem at_some (b off cap : Nat) (ps : List (Nat × Int)) (D : Int) (c : Nat) (w : World) (hn : ps.length ≤ 140737488351232) (hb : b < w.heap.size)
   (hc : ∀ i p, ps[i]? = some p → w.cell? ⟨b, off + i * 2, none⟩ = some (.int .u32 p.1) ∧ w.cell? ⟨b, off + i * 2 + 1, none⟩ = some (.int .i64 p.2)) :
    Calls Try.prog 55 #[.agg #[.int .i64 D, .slice (some ⟨b, off, none⟩) ps.length cap], .int .u32 c] w fun e w' => e = .returned (.int .i64 (Lab.at' D ps c)) ∧ Below w.heap.size w w' := by
  have HC := Lib.hid hc
  clear hc
  obtain ⟨n, en⟩ : ∃ n, ps.length = n := ⟨_, rfl⟩
  obtain ⟨r, er⟩ : ∃ r, Lab.at' D ps c = r := ⟨_, rfl⟩
  rw [en] at hn ⊢
  rw [er]
  have ER := Lib.hid (And.intro en er)
  clear en er
  go_enter Try.func55, Try.ntmps55
  go_wp2
  go_loop [5] (fun i => ∃ k : Nat, k ≤ n ∧ Hid (Lab.at' D (ps.drop k) c = r) ∧ i = .int .i64 k) (fun i => n - (intOf i).toNat)
  case atStart => exact ⟨0, by omega, Lib.hid (by rw [List.drop_zero]; exact ER.out.2), rfl⟩
  case round =>
    obtain ⟨k, hk, hat, rfl⟩ := hrel
    by_cases hlt : k < n
    · obtain ⟨p, hp⟩ : ∃ p, ps[k]? = some p := ⟨_, List.getElem?_eq_getElem (by rw [ER.out.1]; exact hlt)⟩
      obtain ⟨h1, h2⟩ := HC.out k p hp
      by_cases e : p.1 = c
      · have hv : Lab.at' D (ps.drop k) c = p.2 := Lab.at_drop_hit hp e
        have HV := Lib.hid (hv.symm.trans hat.out)
        have ht : ((p.1 : Int) == c) = true := by rw [beq_iff_eq]; omega
        obtain ⟨p1, p2⟩ := p
        clear e hv hat hp
        go_wp2
        go_ret
        exact ⟨by rw [← HV.out]; rfl, (Below.refl _ _).alloc (Nat.le_refl _) _⟩
      · have hv := Lib.hid ((Lab.at_drop_miss (D := D) hp e).symm.trans hat.out)
        have ht : ((p.1 : Int) == c) = false := by rw [beq_eq_false_iff_ne]; omega
        obtain ⟨p1, p2⟩ := p
        clear e hat hp
        go_wp2
        go_round
        case rel => exact ⟨k + 1, by omega, hv, by go_num⟩
        case measure => simp [intOf]; omega
    · have HV := Lib.hid ((Lab.at_drop_end (D := D) (ps := ps) (c := c) (k := k) (by rw [ER.out.1]; omega)).symm.trans hat.out)
      clear hat
      go_wp2
      go_ret
      exact ⟨by rw [← HV.out]; rfl, (Below.refl _ _).alloc (Nat.le_refl _) _⟩
theorem at_any (v : Value) (ps : List (Nat × Int)) (D : Int) (c : Nat) (w : World) (h : Reads w v ps) :
    Calls Try.prog 55 #[.agg #[.int .i64 D, v], .int .u32 c] w fun e w' => e = .returned (.int .i64 (Lab.at' D ps c)) ∧ Below w.heap.size w w' := by
  rcases h with ⟨rfl, rfl⟩ | ⟨b, off, cap, rfl, h2, h3, h4⟩
  · exact at_none D c w
  · exact at_some b off cap ps D c w h3 h2 h4
end Go.Proofs.Ytmbdglhihakkjaa
-- with Rb
namespace Go.Proofs.Ytmbdglhihakkjaa
open Go.RowKit
set_option linter.unusedVariables false
set_option linter.unusedSimpArgs false

theorem Reads.form {w : World} {v : Value} {ps : List (Nat × Int)} (h : Reads w v ps) : ∃ a cap, v = .slice a ps.length cap := by
  rcases h with ⟨rfl, rfl⟩ | ⟨b, off, cap, rfl, _⟩
  · exact ⟨none, 0, rfl⟩
  · exact ⟨_, _, rfl⟩
theorem Reads.cells {w : World} {v : Value} {ps : List (Nat × Int)} (h : Reads w v ps) (hn : 0 < ps.length) : ∃ b off cap, v = .slice (some ⟨b, off, none⟩) ps.length cap ∧ b < w.heap.size ∧ ps.length ≤ 140737488351232 ∧
    ∀ i p, ps[i]? = some p → w.cell? ⟨b, off + i * 2, none⟩ = some (.int .u32 p.1) ∧ w.cell? ⟨b, off + i * 2 + 1, none⟩ = some (.int .i64 p.2) := by
  rcases h with ⟨rfl, rfl⟩ | h
  · simp at hn
  · exact h
theorem below_drewN {B : Nat} {a w : World} (h : Below B a w) (n : Nat) : Below B a (w.drewN n) := ⟨h.os, h.tape, h.output, h.size, h.block⟩
@[go_sem] theorem eq47 (a c : Nat) (b d : Int) (w : World) : (Op.equalIn 10000 61 (.agg #[.int .u32 a, .int .i64 b]) (.agg #[.int .u32 c, .int .i64 d])).run Try.prog w = .ok ((a : Int) == c && b == d) w := by
  have u3 := Try.underlying3
  have u37 := Try.underlying42
  have a3 := Try.isAgg3
  have a37 := Try.isAgg37
  have z3 := Try.sizeOf3
  have z37 := Try.sizeOf37
  have hS : Try.prog.underlying 61 = some (.struct (Try.prog.fieldsOf 61)) := by kernel_rfl
  rw [show (10000 : Nat) = 9999 + 1 from rfl, run_equalIn_agg w 9999 61 _ _ hS (by kernel_rfl)]
  simp only [Program.fieldsOf, Try.underlying61]
  go_simp
  by_cases h1 : (a : Int) = c <;> by_cases h2 : b = d <;> simp [h1, h2]
theorem same_default (v1 v2 : Value) (D E : Int) (w : World) (h : (D == E) = false) (h3 : (D != E) = true) :
    Calls Try.prog 35 #[.agg #[.int .i64 D, v1], .agg #[.int .i64 E, v2]] w fun e w' => e = .returned (.bool false) ∧ Below w.heap.size w w' := by
  go_enter Try.func35, Try.ntmps35
  go_wp2
  go_ret
  exact ⟨rfl, ((Below.refl _ _).alloc (Nat.le_refl _) _).alloc (by simp) _⟩
theorem same_len (a1 a2 : Option Addr) (n1 n2 c1 c2 : Nat) (D : Int) (w : World) (h : ¬ n1 = n2) :
    Calls Try.prog 35 #[.agg #[.int .i64 D, .slice a1 n1 c1], .agg #[.int .i64 D, .slice a2 n2 c2]] w fun e w' => e = .returned (.bool false) ∧ Below w.heap.size w w' := by
  have h2 : ((n1 : Int) == n2) = false := by rw [beq_eq_false_iff_ne]; omega
  have h3 : ((n1 : Int) != n2) = true := by rw [bne_iff_ne]; omega
  go_enter Try.func35, Try.ntmps35
  go_wp2
  go_ret
  exact ⟨rfl, ((Below.refl _ _).alloc (Nat.le_refl _) _).alloc (by simp) _⟩
theorem same_empty (a1 a2 : Option Addr) (c1 c2 : Nat) (D : Int) (w : World) :
    Calls Try.prog 35 #[.agg #[.int .i64 D, .slice a1 0 c1], .agg #[.int .i64 D, .slice a2 0 c2]] w fun e w' => e = .returned (.bool true) ∧ Below w.heap.size w w' := by
  go_enter Try.func35, Try.ntmps35
  go_wp2
  go_loopg [5] 0 (fun g i wr => i = .int .i64 0 ∧ wr = (w.alloc (Obj.cells #[.int .i64 D, .slice a1 0 c1] 29)).alloc (Obj.cells #[.int .i64 D, .slice a2 0 c2] 29))
  case atStart => exact ⟨rfl, rfl⟩
  case round =>
    obtain ⟨rfl, rfl⟩ := hrel
    go_wp2
    go_ret
    exact ⟨rfl, ((Below.refl _ _).alloc (Nat.le_refl _) _).alloc (by simp) _⟩
set_option maxHeartbeats 1000000 in
theorem same_cells (b1 o1 c1 b2 o2 c2 n : Nat) (ps qs : List (Nat × Int)) (D : Int) (w : World) (hn : n ≤ 140737488351232) (hb1 : b1 < w.heap.size) (hb2 : b2 < w.heap.size) (L : Hid (ps.length = n ∧ qs.length = n))
   (h1 : Hid (∀ i p, ps[i]? = some p → w.cell? ⟨b1, o1 + i * 2, none⟩ = some (.int .u32 p.1) ∧ w.cell? ⟨b1, o1 + i * 2 + 1, none⟩ = some (.int .i64 p.2)))
   (h2 : Hid (∀ i p, qs[i]? = some p → w.cell? ⟨b2, o2 + i * 2, none⟩ = some (.int .u32 p.1) ∧ w.cell? ⟨b2, o2 + i * 2 + 1, none⟩ = some (.int .i64 p.2))) :
    Calls Try.prog 35 #[.agg #[.int .i64 D, .slice (some ⟨b1, o1, none⟩) n c1], .agg #[.int .i64 D, .slice (some ⟨b2, o2, none⟩) n c2]] w fun e w' => e = .returned (.bool (decide (ps = qs))) ∧ Below w.heap.size w w' := by
  obtain ⟨r, er⟩ : ∃ r, decide (ps = qs) = r := ⟨_, rfl⟩
  rw [er]
  have ER := Lib.hid er
  clear er
  go_enter Try.func35, Try.ntmps35
  go_wp2
  go_loopg [5] n (fun g i wr => ∃ k m : Nat, k ≤ n ∧ g = n - k ∧ Hid (ps.take k = qs.take k) ∧ i = .int .i64 k ∧ wr = ((w.alloc (Obj.cells #[.int .i64 D, .slice (some ⟨b1, o1, none⟩) n c1] 29)).alloc (Obj.cells #[.int .i64 D, .slice (some ⟨b2, o2, none⟩) n c2] 29)).drewN m)
  case atStart => exact ⟨0, 0, by omega, by omega, Lib.hid (by simp), rfl, rfl⟩
  case round =>
    obtain ⟨k, m, hk, hg, ht, rfl, rfl⟩ := hrel
    have HG := Lib.hid hg
    clear hg
    by_cases hlt : k < n
    · obtain ⟨p, hp⟩ : ∃ p, ps[k]? = some p := ⟨_, List.getElem?_eq_getElem (by rw [L.out.1]; exact hlt)⟩
      obtain ⟨q, hq⟩ : ∃ q, qs[k]? = some q := ⟨_, List.getElem?_eq_getElem (by rw [L.out.2]; exact hlt)⟩
      obtain ⟨x1, x2⟩ := h1.out k p hp
      obtain ⟨y1, y2⟩ := h2.out k q hq
      have HP := Lib.hid (And.intro hp hq)
      clear hp hq
      obtain ⟨p1, p2⟩ := p
      obtain ⟨s1, s2⟩ := q
      by_cases e1 : p1 = s1
      · subst e1
        by_cases e2 : p2 = s2
        · subst e2
          have hn := Lib.hid (Lab.take_snoc_eq ht.out HP.out.1 HP.out.2)
          clear ht
          go_wp2
          go_quiet (fail)
          go_wp2_with fail
          go_roundg (n - (k + 1))
          case measure => rw [HG.out]; omega
          case rel => exact ⟨k + 1, _, by omega, rfl, hn.out, by go_num, rfl⟩
        · have hr := Lib.hid (ER.out.symm.trans (decide_eq_false (Lab.ne_at HP.out.1 HP.out.2 (fun e => e2 (Prod.mk.inj e).2))))
          clear ht
          go_wp2
          go_quiet (fail)
          go_wp2_with fail
          go_ret
          exact ⟨by rw [hr.out]; rfl, below_drewN (below_drewN (((Below.refl _ _).alloc (Nat.le_refl _) _).alloc (by simp) _) _) _⟩
      · have hr := Lib.hid (ER.out.symm.trans (decide_eq_false (Lab.ne_at HP.out.1 HP.out.2 (fun e => e1 (Prod.mk.inj e).1))))
        have e3 : ¬ (p1 : Int) = s1 := by omega
        clear ht e1
        go_wp2
        go_quiet (fail)
        go_wp2_with fail
        go_ret
        exact ⟨by rw [hr.out]; rfl, below_drewN (below_drewN (((Below.refl _ _).alloc (Nat.le_refl _) _).alloc (by simp) _) _) _⟩
    · have hr := Lib.hid (ER.out.symm.trans (decide_eq_true (Lab.take_all (k := k) ht.out (by rw [L.out.1]; omega) (by rw [L.out.2]; omega))))
      clear ht
      go_wp2
      go_ret
      exact ⟨by rw [hr.out]; rfl, below_drewN (((Below.refl _ _).alloc (Nat.le_refl _) _).alloc (by simp) _) _⟩
/-- The document's 'Same' tells whether both labels are the same. -/
theorem same_any (v1 v2 : Value) (ps qs : List (Nat × Int)) (D E : Int) (w : World) (h1 : Reads w v1 ps) (h2 : Reads w v2 qs) :
    Calls Try.prog 35 #[.agg #[.int .i64 D, v1], .agg #[.int .i64 E, v2]] w fun e w' => e = .returned (.bool (decide (D = E ∧ ps = qs))) ∧ Below w.heap.size w w' := by
  obtain ⟨a1, c1, f1⟩ := h1.form
  obtain ⟨a2, c2, f2⟩ := h2.form
  by_cases e : D = E
  · subst e
    by_cases el : ps.length = qs.length
    · by_cases e0 : ps.length = 0
      · have e1 : ps = [] := List.length_eq_zero_iff.1 e0
        have e2 : qs = [] := List.length_eq_zero_iff.1 (by omega)
        subst e1 e2
        rw [f1, f2, decide_eq_true (by simp)]
        exact same_empty _ _ _ _ D w
      · obtain ⟨b, o, c, g1, g2, g3, g4⟩ := h1.cells (by omega)
        obtain ⟨b', o', c', k1, k2, k3, k4⟩ := h2.cells (by omega)
        rw [g1, k1, ← el]
        have hd : decide (D = D ∧ ps = qs) = decide (ps = qs) := by rw [decide_eq_decide]; simp
        rw [hd]
        exact same_cells b o c b' o' c' _ ps qs D w g3 g2 k2 (Lib.hid ⟨rfl, el.symm⟩) (Lib.hid g4) (Lib.hid k4)
    · rw [f1, f2, decide_eq_false (fun h => el (by rw [h.2]))]
      exact same_len _ _ _ _ _ _ D w el
  · rw [decide_eq_false (fun h => e h.1)]
    exact same_default v1 v2 D E w (by rw [beq_eq_false_iff_ne]; exact e) (by rw [bne_iff_ne]; exact e)
end Go.Proofs.Ytmbdglhihakkjaa
-- with Rc
namespace Go.Proofs.Ytmbdglhihakkjaa
open Go.RowKit
set_option linter.unusedVariables false
set_option linter.unusedSimpArgs false

theorem info37 : (Try.prog.info? 42).map (fun i => (i.zero, i.size, i.bytes)) = some (some (.int .u32 0), 1, 4) := by kernel_rfl
/-- Numbers of 32 bits, as cells. -/
def U (cs : List Nat) : List Value := cs.map (fun (c : Nat) => Value.int .u32 (c : Int))
theorem U_snoc (cs : List Nat) (c : Nat) : U (cs ++ [c]) = U cs ++ [.int .u32 (c : Int)] := by simp [U]
theorem owns_zero (ps : List (Nat × Int)) : Lab.owns (ps.take 0) = [] := by simp [Lab.owns]
theorem one_new (w : World) (v : Value) (t : TypeId) : ∀ j u, [v][j]? = some u → (w.alloc (.cells #[v] t)).cell? ((⟨w.heap.size, 0, none⟩ : Addr).add j) = some u := by
  intro j u hj
  match j, hj with
  | 0, hj => simp at hj; subst hj; simp [Addr.add]
def OwnsRel (ps : List (Nat × Int)) (w : World) (D : Int) (v : Value) (k : Nat) (out : Value) (wr : World) : Prop :=
  wr.ownsRow (w.heap.size + 1) 42 1 out (Lab.owns (ps.take k)).length (U (Lab.owns (ps.take k))) ∧ Below (w.heap.size + 1) (w.alloc (Obj.cells #[.int .i64 D, v] 29)) wr
set_option maxHeartbeats 1000000 in
theorem owns_some (b off cap : Nat) (ps : List (Nat × Int)) (D : Int) (w : World) (hn : ps.length ≤ 140737488351232 / 4) (hb : b < w.heap.size)
   (hc : ∀ i p, ps[i]? = some p → w.cell? ⟨b, off + i * 2, none⟩ = some (.int .u32 p.1) ∧ w.cell? ⟨b, off + i * 2 + 1, none⟩ = some (.int .i64 p.2)) :
    Calls Try.prog 50 #[.agg #[.int .i64 D, .slice (some ⟨b, off, none⟩) ps.length cap]] w fun e w' =>
      ∃ v, e = .returned v ∧ w'.ownsRow (w.heap.size + 1) 42 1 v (Lab.owns ps).length (U (Lab.owns ps)) ∧ Below w.heap.size w w' := by
  obtain ⟨i0, hi, hz0, hz1, hz2⟩ := info_parts info37
  have HC := Lib.hid hc
  clear hc
  obtain ⟨n, en⟩ : ∃ n, ps.length = n := ⟨_, rfl⟩
  rw [en] at hn ⊢
  have ER := Lib.hid en
  clear en
  go_enter Try.func50, Try.ntmps50
  go_wp2
  go_loopg [3, 4] n (fun g out i wr => ∃ k : Nat, k ≤ n ∧ g = n - k ∧ i = .int .i64 k ∧ OwnsRel ps w D (.slice (some ⟨b, off, none⟩) n cap) k out wr)
  case atStart => exact ⟨0, by omega, by omega, rfl, by rw [owns_zero]; exact World.ownsRow_nil _ _ _ _, Below.refl _ _⟩
  case round =>
    obtain ⟨k, hk, hg, rfl, hown, hbel⟩ := hrel
    have HG := Lib.hid hg
    have c0 : wr.cell? ⟨w.heap.size, 1, none⟩ = some (.slice (some ⟨b, off, none⟩) n cap) := by rw [hbel.cell (p := ⟨w.heap.size, 1, none⟩) (by simp)]; simp
    have hsz : w.heap.size + 1 ≤ wr.heap.size := by have := hbel.size; simp at this; omega
    have hl := Lab.owns_len ps k
    clear hg
    by_cases hlt : k < n
    · obtain ⟨p, hp⟩ : ∃ p, ps[k]? = some p := ⟨_, List.getElem?_eq_getElem (by rw [ER.out]; exact hlt)⟩
      obtain ⟨x1, x2⟩ := HC.out k p hp
      have y1 : wr.cell? ⟨b, off + k * 2, none⟩ = some (.int .u32 p.1) := by rw [hbel.cell (p := ⟨b, _, none⟩) (by simp; omega)]; rw [← x1]; exact World.cell?_alloc_old _ _ _ (by simp; omega)
      have y2 : wr.cell? ⟨b, off + k * 2 + 1, none⟩ = some (.int .i64 p.2) := by rw [hbel.cell (p := ⟨b, _, none⟩) (by simp; omega)]; rw [← x2]; exact World.cell?_alloc_old _ _ _ (by simp; omega)
      clear x1 x2
      by_cases e : p.2 = 0
      · have hit := Lib.hid (Lab.owns_hit hp e)
        have e' : (p.2 == 0) = true := by rw [beq_iff_eq]; exact e
        have HO := Lib.hid hown
        have HB := Lib.hid hbel
        clear hown hbel hp e
        obtain ⟨p1, p2⟩ := p
        go_wp2_with (at_builtin; refine wpList_append_own _ rfl _ _ 55 rfl (w.heap.size + 1) 42 i0 (.int .u32 0) 1 4 Try.underlying55 hi hz0 hz1 hz2 rfl (by decide) _ _ _ rfl (HO.out.alloc _) ⟨wr.heap.size, 0, none⟩ 1 1 [.int .u32 p1] rfl rfl (one_new _ _ _) ?c2 ?c3 ?c4 ?c5 ?_)
        case c2 => rfl
        case c3 => unfold maxLen; omega
        case c4 => omega
        case c5 => first | omega | (rw [World.size_alloc]; omega)
        intro v' w1 hown' hgrow _
        have hbel' : Below (w.heap.size + 1) (w.alloc (Obj.cells #[.int .i64 D, .slice (some ⟨b, off, none⟩) n cap] 29)) w1 :=
          (HB.out.alloc hsz _).grown hgrow (by simp; omega) (fun k hk => (HO.out.lt k hk).1)
        have HO' := Lib.hid hown'
        have HB' := Lib.hid hbel'
        clear hown' hgrow hbel'
        go_wp2
        go_roundg (n - (k + 1))
        case rel =>
          refine ⟨k + 1, by omega, rfl, by go_num, ?_, HB'.out⟩
          rw [hit.out, U_snoc, List.length_append]; exact HO'.out
        case measure => have := HG.out; omega
      · have hit := Lib.hid (Lab.owns_miss hp e)
        have e' : (p.2 == 0) = false := by rw [beq_eq_false_iff_ne]; exact e
        have HO := Lib.hid hown
        have HB := Lib.hid hbel
        clear hown hbel hp e
        obtain ⟨p1, p2⟩ := p
        go_wp2
        go_roundg (n - (k + 1))
        case rel =>
          refine ⟨k + 1, by omega, rfl, by go_num, ?_, HB.out⟩
          rw [hit.out]; exact HO.out
        case measure => have := HG.out; omega
    · have HO := Lib.hid hown
      have HB := Lib.hid hbel
      clear hown hbel
      have e := Lib.hid (List.take_of_length_le (l := ps) (i := k) (by rw [ER.out]; omega))
      go_wp2
      go_ret
      refine ⟨_, rfl, ?_, ⟨HB.out.os, HB.out.tape, HB.out.output, by simpa using by omega, fun i hi => ?_⟩⟩
      · have := HO.out; rw [e.out] at this; exact this
      · rw [HB.out.block i (by omega)]; exact Below.heap_alloc _ _ _ hi
theorem owns_none (D : Int) (w : World) :
    Calls Try.prog 50 #[.agg #[.int .i64 D, .slice none 0 0]] w fun e w' => e = .returned (.slice none 0 0) ∧ Below w.heap.size w w' := by
  go_enter Try.func50, Try.ntmps50
  go_wp2
  go_loop [3, 4] (fun o i => o = .slice none 0 0 ∧ i = .int .i64 0) (fun o i => 0)
  case atStart => exact ⟨rfl, rfl⟩
  case round =>
    obtain ⟨rfl, rfl⟩ := hrel
    go_wp2
    go_ret
    exact ⟨rfl, (Below.refl _ _).alloc (Nat.le_refl _) _⟩
theorem owns_any (v : Value) (ps : List (Nat × Int)) (D : Int) (w : World) (h : Reads w v ps) (hn : ps.length ≤ 140737488351232 / 4) :
    Calls Try.prog 50 #[.agg #[.int .i64 D, v]] w fun e w' =>
      ∃ v, e = .returned v ∧ w'.ownsRow (w.heap.size + 1) 42 1 v (Lab.owns ps).length (U (Lab.owns ps)) ∧ Below w.heap.size w w' := by
  rcases h with ⟨rfl, rfl⟩ | ⟨b, off, cap, rfl, h2, h3, h4⟩
  · refine (owns_none D w).mono ?_
    rintro e w' ⟨rfl, h⟩
    exact ⟨_, rfl, World.ownsRow_nil _ _ _ _, h⟩
  · exact owns_some b off cap ps D w hn h2 h4
end Go.Proofs.Ytmbdglhihakkjaa
-- with Rd
namespace Go.Proofs.Ytmbdglhihakkjaa
open Go.RowKit
set_option linter.unusedVariables false
set_option linter.unusedSimpArgs false

theorem info47 : (Try.prog.info? 61).map (fun i => (i.zero, i.size, i.bytes)) = some (some (.agg #[.int .u32 0, .int .i64 0]), 2, 16) := by kernel_rfl
/-- Pairs, as cells. -/
def F (ps : List (Nat × Int)) : List Value := ps.flatMap (fun (p : Nat × Int) => [Value.int .u32 (p.1 : Int), Value.int .i64 p.2])
theorem F_len (ps : List (Nat × Int)) : (F ps).length = ps.length * 2 := by
  unfold F; induction ps with
  | nil => rfl
  | cons p r ih => simp [ih]; omega
theorem F_append (ps qs : List (Nat × Int)) : F (ps ++ qs) = F ps ++ F qs := by simp [F]
theorem F_snoc (ps : List (Nat × Int)) (c : Nat) (n : Int) : F (ps ++ [(c, n)]) = F ps ++ [.int .u32 (c : Int), .int .i64 n] := by simp [F]
theorem F_at : ∀ {ps : List (Nat × Int)} {i : Nat} {p : Nat × Int}, ps[i]? = some p → (F ps)[i * 2]? = some (.int .u32 (p.1 : Int)) ∧ (F ps)[i * 2 + 1]? = some (.int .i64 p.2)
  | [], i, p, h => by simp at h
  | q :: r, 0, p, h => by simp at h; subst h; simp [F]
  | q :: r, i + 1, p, h => by
      have := F_at (ps := r) (i := i) (p := p) (by simpa using h)
      have e : F (q :: r) = Value.int .u32 (q.1 : Int) :: Value.int .i64 q.2 :: F r := by simp [F]
      rw [e, show (i + 1) * 2 = i * 2 + 2 from by omega]
      simpa using this
theorem F_get : ∀ {ps : List (Nat × Int)} {j : Nat} {u : Value}, (F ps)[j]? = some u → ∃ i p, ps[i]? = some p ∧ (j = i * 2 ∧ u = .int .u32 (p.1 : Int) ∨ j = i * 2 + 1 ∧ u = .int .i64 p.2)
  | [], j, u, h => by simp [F] at h
  | q :: r, 0, u, h => by simp [F] at h; exact ⟨0, q, rfl, .inl ⟨rfl, h.symm⟩⟩
  | q :: r, 1, u, h => by simp [F] at h; exact ⟨0, q, rfl, .inr ⟨rfl, h.symm⟩⟩
  | q :: r, j + 2, u, h => by
      have e : F (q :: r) = Value.int .u32 (q.1 : Int) :: Value.int .i64 q.2 :: F r := by simp [F]
      rw [e] at h
      obtain ⟨i, p, hp, hh⟩ := F_get (ps := r) (j := j) (u := u) (by simpa using h)
      refine ⟨i + 1, p, by simpa using hp, ?_⟩
      rcases hh with ⟨h1, h2⟩ | ⟨h1, h2⟩
      · exact .inl ⟨by omega, h2⟩
      · exact .inr ⟨by omega, h2⟩
theorem F_one (ps : List (Nat × Int)) : ∀ u ∈ F ps, u.oneCell' = true := by
  intro u hu
  obtain ⟨j, hj⟩ := List.mem_iff_getElem?.1 hu
  obtain ⟨i, p, hp, ⟨_, rfl⟩ | ⟨_, rfl⟩⟩ := F_get hj <;> rfl
theorem one_u32 (c : Nat) : ∀ u ∈ [Value.int .u32 (c : Int)], u.oneCell' = true := by
  intro u hu; simp at hu; subst hu; rfl
theorem owns_mono {w : World} {base base' : Nat} {e : TypeId} {size : Nat} {v : Value} {n : Nat} {xs : List Value} (h : w.ownsRow base e size v n xs) (hb : base' ≤ base) : w.ownsRow base' e size v n xs := by
  refine ⟨h.1, ?_⟩
  rcases h.2 with h | ⟨g, cap, cur, h1, h2, h3⟩
  · exact .inl h
  · exact .inr ⟨g, cap, cur, h1, Nat.le_trans hb h2, h3⟩
theorem addr_add (b off j : Nat) : (⟨b, off, none⟩ : Addr).add j = ⟨b, off + j, none⟩ := by
  unfold Addr.add; split <;> simp_all
/-- The cells of a slice that reads as pairs. -/
theorem news_of {w : World} {b off : Nat} {ps : List (Nat × Int)}
   (h : ∀ i p, ps[i]? = some p → w.cell? ⟨b, off + i * 2, none⟩ = some (.int .u32 p.1) ∧ w.cell? ⟨b, off + i * 2 + 1, none⟩ = some (.int .i64 p.2)) :
    ∀ j u, (F ps)[j]? = some u → w.cell? ((⟨b, off, none⟩ : Addr).add j) = some u := by
  intro j u hu
  rw [addr_add]
  obtain ⟨i, p, hp, ⟨rfl, rfl⟩ | ⟨rfl, rfl⟩⟩ := F_get hu
  · exact (h i p hp).1
  · rw [← Nat.add_assoc]; exact (h i p hp).2
/-- What owns pairs reads as them. -/
theorem reads_of_owns {w : World} {base : Nat} {v : Value} {ps : List (Nat × Int)} (h : w.ownsRow base 61 2 v ps.length (F ps)) (hn : ps.length ≤ 140737488351232) : Reads w v ps := by
  by_cases h0 : ps.length = 0
  · rcases h.2 with ⟨rfl, _⟩ | ⟨g, cap, cur, hv, hb, hg, _⟩
    · exact .inl ⟨rfl, List.eq_nil_of_length_eq_zero h0⟩
    · refine .inr ⟨g, 0, cap, hv, (Array.getElem?_eq_some_iff.1 hg).1, hn, fun i p hp => ?_⟩
      rw [List.eq_nil_of_length_eq_zero h0] at hp; simp at hp
  · obtain ⟨g, cap, rfl, hb, hg⟩ := h.form (by omega)
    refine .inr ⟨g, 0, cap, rfl, hg, hn, fun i p hp => ?_⟩
    have hi : i < ps.length := (List.getElem?_eq_some_iff.1 hp).1
    rw [h.cellAt (0 + i * 2) (by omega), h.cellAt (0 + i * 2 + 1) (by omega), Nat.zero_add]
    exact F_at hp
theorem step_append_own {P : Program} (w : World) {ops : Array Oper} {o : Oper} {a : Act} {K : Act → World → Prop} {Q : Exit → Act → World → Prop} {E : Prop} (hgd : o.guard = none) (s x : Operand) (t : TypeId)
    (ho : o.op = .call { callee := .builtin .append, args := #[s, x], argTypes := #[t, t] })
    (base : Nat) (e : TypeId) (i : TypeInfo) (z : Value) (size bytes : Nat) (ht : P.underlying t = some (.slice e)) (hi : P.info? e = some i) (hz : i.zero = some z)
    (hsize : i.size = size) (hby : i.bytes = bytes) (hzs : z.cells.size = size) (hsz : 0 < size)
    (v : Value) (n : Nat) (xs : List Value) (hs : a.eval s = v) (hown : w.ownsRow base e size v n xs)
    (ad : Addr) (m c : Nat) (news : List Value) (hx : a.eval x = .slice (some ad) m c) (hl : news.length = m * size) (hnews : ∀ j u, news[j]? = some u → w.cell? (ad.add j) = some u) (h1 : ∀ u ∈ news, u.oneCell' = true)
    (h63 : n + m ≤ maxLen) (hbytes : (n + m) * bytes ≤ 140737488355328) (hbase : base ≤ w.heap.size)
    (h : ∀ v' w', w'.ownsRow base e size v' (n + m) (xs ++ news) → w.grownBy w' v.ownBlock → (v' = .slice none 0 0 ↔ v = .slice none 0 0 ∧ m = 0) → K (a.put o.dst v') w') :
    if Region.wanted o (yielded ops a.tmps) = true then Oper.wp P o a w K Q else E := by
  have hw : Region.wanted o (yielded ops a.tmps) = true := by simp [Region.wanted, hgd]
  rw [if_pos hw]
  exact wp_append_own w s x t ho base e i z size bytes ht hi hz hsize hby hzs hsz v n xs hs hown ad m c news hx hl hnews h1 h63 hbytes hbase h
theorem step_append_none {P : Program} (w : World) {ops : Array Oper} {o : Oper} {a : Act} {K : Act → World → Prop} {Q : Exit → Act → World → Prop} {E : Prop} (hgd : o.guard = none) (s x : Operand) (t : TypeId)
    (ho : o.op = .call { callee := .builtin .append, args := #[s, x], argTypes := #[t, t] })
    (base : Nat) (e : TypeId) (i : TypeInfo) (size : Nat) (ht : P.underlying t = some (.slice e)) (hi : P.info? e = some i)
    (v : Value) (n : Nat) (xs : List Value) (hs : a.eval s = v) (hown : w.ownsRow base e size v n xs) (hx : a.eval x = .slice none 0 0) (d : Option Nat) (hd : o.dst = d)
    (h : K (a.put d v) w) :
    if Region.wanted o (yielded ops a.tmps) = true then Oper.wp P o a w K Q else E := by
  subst hd
  have hw : Region.wanted o (yielded ops a.tmps) = true := by simp [Region.wanted, hgd]
  rw [if_pos hw]
  have hrun := run_append_owned_none (P := P) (w := w) base t o.type e i size ht hi v n xs hown
  unfold Oper.wp
  simp [execOp, ho, resolve, invoke, builtin, hs, hx, hrun, Result.andThen]
  exact h
end Go.Proofs.Ytmbdglhihakkjaa
