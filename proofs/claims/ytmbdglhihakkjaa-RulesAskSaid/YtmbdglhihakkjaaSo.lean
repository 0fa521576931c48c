import Derived.Test.YtmbdglhihakkjaaSn
import Derived.Laws.Bits128
namespace Lab
/-- A label that may be, as the statements make it: few categories, levels that a label may have. -/
def Fine (D : Int) (ps : List (Nat × Int)) : Prop := Ok D ps ∧ 1 ≤ D ∧ D ≤ 4 ∧ (∀ p ∈ ps, 0 ≤ p.2 ∧ p.2 ≤ 4 ∧ p.1 < 45) ∧ ps.length ≤ 12
/-- What a seed's first levels have made of it. -/
def Sown (D : Int) (k : Nat) (m : List (Nat × Int)) : Prop := Ok D m ∧ (∀ p ∈ m, 0 ≤ p.2 ∧ p.2 ≤ 4 ∧ p.1 < 3 * k + 1 ∧ p.1 < 45) ∧ m.length ≤ k ∧ m.length ≤ 12
theorem sown_nil (D : Int) : Sown D 0 [] := ⟨ok_nil D, by simp, by simp, by simp⟩
theorem sown_skip {D : Int} {k : Nat} {m : List (Nat × Int)} (h : Sown D k m) : Sown D (k + 1) m :=
  ⟨h.1, fun p hp => by have := h.2.1 p hp; omega, by have := h.2.2.1; omega, h.2.2.2⟩
theorem sown_add {D : Int} {k : Nat} {n : Int} {m : List (Nat × Int)} (h : Sown D k m) (hk : k < 12) (h0 : 0 ≤ n) (h4 : n ≤ 4) (hn : n ≠ D) : Sown D (k + 1) (m ++ [(3 * k + 1, n)]) := by
  refine ⟨⟨?_, fun p hp => ?_, fun p hp => ?_⟩, fun p hp => ?_, ?_, ?_⟩
  · unfold Rise
    rw [List.pairwise_append]
    exact ⟨h.1.1, by simp, fun p hp q hq => by simp at hq; subst hq; exact (h.2.1 p hp).2.2.1⟩
  · rcases List.mem_append.1 hp with hp | hp
    · exact h.1.2.1 p hp
    · simp at hp; subst hp; simp; omega
  · rcases List.mem_append.1 hp with hp | hp
    · exact h.1.2.2 p hp
    · simp at hp; subst hp; exact hn
  · rcases List.mem_append.1 hp with hp | hp
    · have := h.2.1 p hp; omega
    · simp at hp; subst hp; simp only; omega
  · have := h.2.2.1; simp; omega
  · have := h.2.2.1; simp; omega
/-- What a seed's level makes of its label, and what its first levels do. -/
def sow1 (D : Int) (k : Nat) (x : Int) : List (Nat × Int) := if k < 12 ∧ (x.tmod 5 + 5).tmod 5 ≠ D then [(3 * k + 1, (x.tmod 5 + 5).tmod 5)] else []
def sowTo (D : Int) (ls : List Int) : Nat → List (Nat × Int)
  | 0 => []
  | k + 1 => sowTo D ls k ++ (match ls[k]? with | none => [] | some x => sow1 D k x)
def SownIs (D : Int) (ls : List Int) (k : Nat) (m : List (Nat × Int)) : Prop := Sown D k m ∧ m = sowTo D ls k
theorem is_nil (D : Int) (ls : List Int) : SownIs D ls 0 [] := ⟨sown_nil D, rfl⟩
theorem is_skip {D x : Int} {ls : List Int} {k : Nat} {m : List (Nat × Int)} (h : SownIs D ls k m) (hx : ls[k]? = some x) (hn : ¬ (k < 12 ∧ (x.tmod 5 + 5).tmod 5 ≠ D)) : SownIs D ls (k + 1) m :=
  ⟨sown_skip h.1, by rw [sowTo, hx, ← h.2]; simp only [sow1]; rw [if_neg hn, List.append_nil]⟩
theorem is_add {D x n : Int} {ls : List Int} {k : Nat} {m : List (Nat × Int)} (h : SownIs D ls k m) (hx : ls[k]? = some x) (en : (x.tmod 5 + 5).tmod 5 = n) (hk : k < 12) (h0 : 0 ≤ n) (h4 : n ≤ 4) (hn : n ≠ D) : SownIs D ls (k + 1) (m ++ [(3 * k + 1, n)]) :=
  ⟨sown_add h.1 hk h0 h4 hn, by rw [sowTo, hx, ← h.2]; simp only [sow1]; rw [en, if_pos ⟨hk, hn⟩]⟩
/-- A seed's label. -/
def seedD (S : Int) : Int := S % 4 + 1
def seedP (S : Int) (ls : List Int) : List (Nat × Int) := sowTo (seedD S) ls ls.length
end Lab
namespace Go.Proofs.Ytmbdglhihakkjaa
open Go.RowKit
set_option linter.unusedVariables false
set_option linter.unusedSimpArgs false

theorem and3 (n : Int) : bits .and .i64 n 3 = n % 4 := by
  have h3 : (BitVec.ofInt 64 3).toNat = 2 ^ 2 - 1 := by decide
  have key : (BitVec.ofInt 64 n &&& BitVec.ofInt 64 3).toNat = (n % ((2 ^ 64 : Nat) : Int)).toNat % 2 ^ 2 := by
    rw [BitVec.toNat_and, BitVec.toNat_ofInt, h3, Nat.and_two_pow_sub_one_eq_mod]
  show IntKind.i64.wrap ((BitVec.ofInt 64 n &&& BitVec.ofInt 64 3).toNat : Nat) = n % 4
  rw [key, IntKind.wrap_i64]
  omega
theorem five (x : Int) : ∃ y N : Int, x.tmod 5 = y ∧ wrap64 (y + 5) = y + 5 ∧ (y + 5).tmod 5 = N ∧ 0 ≤ N ∧ N ≤ 4 := by
  have h1 : x.tmod 5 < 5 := Int.tmod_lt_of_pos x (by omega)
  have h2 : -5 < x.tmod 5 := Int.lt_tmod_of_pos x (by omega)
  refine ⟨_, _, rfl, by unfold wrap64; omega, rfl, ?_⟩
  rw [Int.tmod_eq_emod_of_nonneg (by omega)]
  omega
/-- A seed's own label, in memory. -/
def SeedIs (S : Int) (ls : List Int) (w : World) (e : Ending) (w' : World) : Prop := ∃ v, e = .returned (.agg #[.int .i64 (Lab.seedD S), v]) ∧ Lab.Fine (Lab.seedD S) (Lab.seedP S ls) ∧ w'.ownsRow w.heap.size 61 2 v (Lab.seedP S ls).length (F (Lab.seedP S ls)) ∧ Below w.heap.size w w'
/-- A label that may be, in memory. -/
def Seeds (w : World) (e : Ending) (w' : World) : Prop := ∃ v D ps, e = .returned (.agg #[.int .i64 D, v]) ∧ Lab.Fine D ps ∧ w'.ownsRow w.heap.size 61 2 v ps.length (F ps) ∧ Below w.heap.size w w'
theorem rc_of_owns {w : World} {base : Nat} {v : Value} {ps : List (Nat × Int)} (h : w.ownsRow base 61 2 v ps.length (F ps)) (hn : ps.length ≤ 140737488351232) : RC w.heap.size w v ps := by
  by_cases h0 : ps.length = 0
  · rcases h.2 with ⟨rfl, _⟩ | ⟨g, cap, cur, hv, hb, hg, hc, _⟩
    · exact .inl ⟨rfl, List.eq_nil_of_length_eq_zero h0⟩
    · refine .inr ⟨g, 0, cap, hv, (Array.getElem?_eq_some_iff.1 hg).1, hc, hn, fun i p hp => ?_⟩
      rw [List.eq_nil_of_length_eq_zero h0] at hp; simp at hp
  · have hc := h.2
    obtain ⟨g, cap, rfl, hb, hg⟩ := h.form (by omega)
    refine .inr ⟨g, 0, cap, rfl, hg, ?_, hn, fun i p hp => ?_⟩
    · rcases hc with ⟨e, _⟩ | ⟨g', cap', cur, e, _, _, hc', _⟩
      · cases e
      · cases e; exact hc'
    · have hi : i < ps.length := (List.getElem?_eq_some_iff.1 hp).1
      rw [h.cellAt (0 + i * 2) (by omega), h.cellAt (0 + i * 2 + 1) (by omega), Nat.zero_add]
      exact F_at hp
def SeedRel (w : World) (D : Int) (ls : List Int) (sv : Value) (S : Int) (k : Nat) (wr : World) : Prop :=
  ∃ m v, wr.heap[w.heap.size + 1 + 1]? = some (Obj.cells #[.int .i64 D, v] 29) ∧ wr.ownsRow (w.heap.size + 3) 61 2 v m.length (F m) ∧ wr.heap[w.heap.size + 1]? = some (Obj.cells #[.int .i64 0, .slice none 0 0] 29) ∧
    Below w.heap.size w wr ∧ w.heap.size + 3 ≤ wr.heap.size ∧ Lab.SownIs D ls k m
set_option maxHeartbeats 1000000 in
theorem seed_some (S : Int) (b off cap n : Nat) (ls : List Int) (w : World) (hl : ls.length = n) (hn : n ≤ 140737488351232) (hb : b < w.heap.size)
   (hc : ∀ i x, ls[i]? = some x → w.cell? ⟨b, off + i, none⟩ = some (.int .i64 x)) :
    Calls Try.prog 12 #[.agg #[.int .i64 S, .slice (some ⟨b, off, none⟩) n cap]] w (SeedIs S ls w) := by
  obtain ⟨i0, hi, hz0, hz1, hz2⟩ := info_parts info47
  have HC := Lib.hid hc
  have HL := Lib.hid hl
  obtain ⟨D, eD, hD⟩ : ∃ D, S % 4 + 1 = D ∧ 1 ≤ D ∧ D ≤ 4 := ⟨_, rfl, by omega⟩
  have e3 := and3 S
  have HDE := Lib.hid eD
  have HD := Lib.hid hD
  clear hc hl hD
  have hb0 : Below w.heap.size w (((w.alloc (Obj.cells #[.int .i64 S, .slice (some ⟨b, off, none⟩) n cap] 24)).alloc (Obj.cells #[.int .i64 0, .slice none 0 0] 29)).alloc (Obj.cells #[.int .i64 D, .slice none 0 0] 29)) := (((Below.refl _ _).alloc (Nat.le_refl _) _).alloc (by simp) _).alloc (by simp <;> omega) _
  have hx : (((w.alloc (Obj.cells #[.int .i64 S, .slice (some ⟨b, off, none⟩) n cap] 24)).alloc (Obj.cells #[.int .i64 0, .slice none 0 0] 29)).alloc (Obj.cells #[.int .i64 D, .slice none 0 0] 29)).heap.size = w.heap.size + 3 ∧
      (((w.alloc (Obj.cells #[.int .i64 S, .slice (some ⟨b, off, none⟩) n cap] 24)).alloc (Obj.cells #[.int .i64 0, .slice none 0 0] 29)).alloc (Obj.cells #[.int .i64 D, .slice none 0 0] 29)).heap[w.heap.size + 1]? = some (Obj.cells #[.int .i64 0, .slice none 0 0] 29) ∧
      (((w.alloc (Obj.cells #[.int .i64 S, .slice (some ⟨b, off, none⟩) n cap] 24)).alloc (Obj.cells #[.int .i64 0, .slice none 0 0] 29)).alloc (Obj.cells #[.int .i64 D, .slice none 0 0] 29)).heap[w.heap.size + 1 + 1]? = some (Obj.cells #[.int .i64 D, .slice none 0 0] 29) := by
    refine ⟨by simp, ?_, ?_⟩
    · rw [Below.heap_alloc _ _ _ (by simp)]
      have := heap_alloc_new (w.alloc (Obj.cells #[.int .i64 S, .slice (some ⟨b, off, none⟩) n cap] 24)) (Obj.cells #[.int .i64 0, .slice none 0 0] 29); simpa using this
    · have := heap_alloc_new ((w.alloc (Obj.cells #[.int .i64 S, .slice (some ⟨b, off, none⟩) n cap] 24)).alloc (Obj.cells #[.int .i64 0, .slice none 0 0] 29)) (Obj.cells #[.int .i64 D, .slice none 0 0] 29); simpa using this
  obtain ⟨W0, e0⟩ : ∃ W0, W0 = ((w.alloc (Obj.cells #[.int .i64 S, .slice (some ⟨b, off, none⟩) n cap] 24)).alloc (Obj.cells #[.int .i64 0, .slice none 0 0] 29)).alloc (Obj.cells #[.int .i64 D, .slice none 0 0] 29) := ⟨_, rfl⟩
  rw [← e0] at hb0 hx
  obtain ⟨hs, x0, x1⟩ := hx
  have HS : SeedRel w D ls (.slice (some ⟨b, off, none⟩) n cap) S 0 W0 := ⟨[], _, x1, World.ownsRow_nil _ _ _ _, x0, hb0, by omega, Lab.is_nil D ls⟩
  have HS0 := Lib.hid HS
  clear hb0 hs x0 x1 HS
  go_enter Try.func12, Try.ntmps12
  go_wp2_with fail
  rw [← e0]
  clear e0 e3 eD
  go_loopg [14] n (fun g i wr => ∃ k : Nat, k ≤ n ∧ Hid (g = n - k) ∧ i = .int .i64 k ∧ Hid (SeedRel w D ls (.slice (some ⟨b, off, none⟩) n cap) S k wr))
  case atStart => exact ⟨0, by omega, Lib.hid (by omega), rfl, HS0⟩
  case round =>
    obtain ⟨k, hk, hg, rfl, hrl⟩ := hrel
    clear HS0
    by_cases hlt : k < n
    · obtain ⟨x, hx⟩ : ∃ x, ls[k]? = some x := ⟨_, List.getElem?_eq_getElem (by rw [HL.out]; exact hlt)⟩
      obtain ⟨m, v, r1, r2, r3, r4, r5, r6⟩ := hrl.out
      have y0 : wr.cell? ⟨b, off + k, none⟩ = some (.int .i64 x) := by rw [r4.cell (p := ⟨b, _, none⟩) hb]; exact HC.out k x hx
      have c0 : wr.cell? ⟨w.heap.size + 1 + 1, 0, none⟩ = some (.int .i64 D) := by rw [cell_of_row _ _ 0 _ 29 (0, 0) r1]; rfl
      have c1 : wr.cell? ⟨w.heap.size + 1 + 1, 1, none⟩ = some v := by rw [cell_of_row _ _ 1 _ 29 (0, 0) r1]; rfl
      have HR := Lib.hid (And.intro r1 (And.intro r2 (And.intro r3 (And.intro r4 (And.intro r5 r6)))))
      have HXK := Lib.hid hx
      clear hx r1 r2 r3 r4 r5 r6
      obtain ⟨y, N, e1, e2, e5, hN⟩ := five x
      have HNX := Lib.hid (show (x.tmod 5 + 5).tmod 5 = N by rw [e1]; exact e5)
      have h12 : (decide ((k : Int) < 12)) = decide (k < 12) := by rw [decide_eq_decide]; omega
      go_upto_region 6 with fail
      clear e1 e2 e5 y0
      have HN := Lib.hid hN
      clear hN
      by_cases hk12 : k < 12
      · have t1 : (k : Int) < 12 := by omega
        by_cases hND : N = D
        · have t2 : (N != D) = false := by rw [bne_eq_false_iff_eq]; exact hND
          have hnx := Lib.hid (show SeedRel w D ls (.slice (some ⟨b, off, none⟩) n cap) S (k + 1) wr from ⟨m, v, HR.out.1, HR.out.2.1, HR.out.2.2.1, HR.out.2.2.2.1, HR.out.2.2.2.2.1, Lab.is_skip HR.out.2.2.2.2.2 HXK.out (fun h => h.2 (HNX.out.trans hND))⟩)
          clear hND
          go_wp2_with fail
          go_roundg (n - (k + 1))
          case measure => rw [hg.out]; omega
          case rel => exact ⟨k + 1, by omega, Lib.hid rfl, by go_num, hnx⟩
        · have t2 : (N != D) = true := by rw [bne_iff_ne]; exact hND
          have hsown := Lib.hid (Lab.is_add HR.out.2.2.2.2.2 HXK.out HNX.out hk12 HN.out.1 HN.out.2 hND)
          have hmlen := HR.out.2.2.2.2.2.1.2.2.2
          have hwsz := HR.out.2.2.2.2.1
          obtain ⟨K, eK⟩ : ∃ K, m.length = K := ⟨_, rfl⟩
          obtain ⟨XS, eXS⟩ : ∃ XS, F m = XS := ⟨_, rfl⟩
          have HO := Lib.hid HR.out.2.1
          rw [eK, eXS] at HO
          rw [eK] at hmlen
          have EK := Lib.hid (And.intro eK eXS)
          clear hND eK eXS
          go_wp2_with (at_builtin; refine wpList_append_own _ rfl _ _ 27 rfl (w.heap.size + 3) 61 i0 (.agg #[.int .u32 0, .int .i64 0]) 2 16 Try.underlying27 hi hz0 hz1 hz2 rfl (by decide) _ _ _ rfl (HO.out.alloc _) ⟨wr.heap.size, 0, none⟩ 1 1 [.int .u32 (3 * (k : Int) + 1), .int .i64 N] rfl rfl (cell_two_new _ _ _ _) (by simp [Value.oneCell']) (by unfold maxLen; omega) (by omega) (by simp; omega) ?_)
          intro v' w2 hown2 hg2 _
          obtain ⟨g', cap', rfl, _, _⟩ := hown2.form (by omega)
          have hkeep : ∀ j, j < w.heap.size + 3 → w2.heap[j]? = wr.heap[j]? := fun j hj => by
            rw [hg2.block j (by simp; omega) (fun e => by have := (HO.out.lt j e.symm).1; omega)]
            exact Below.heap_alloc _ _ _ (by omega)
          have hkL : w2.heap[w.heap.size + 1 + 1]? = some (Obj.cells #[.int .i64 D, v] 29) := by rw [hkeep _ (by omega)]; exact HR.out.1
          have k1 : w2.cell? ⟨w.heap.size + 1 + 1, 1, none⟩ = some v := by rw [cell_of_row _ _ 1 _ 29 (0, 0) hkL]; rfl
          have k2 : w2.frozen? ⟨w.heap.size + 1 + 1, 1, none⟩ = false := frozen_of_row _ _ 1 _ 29 hkL
          have hg' : w.heap.size + 3 ≤ g' := (hown2.lt g' rfl).1
          have hnx := Lib.hid (show SeedRel w D ls (.slice (some ⟨b, off, none⟩) n cap) S (k + 1) (w2.setCell ⟨w.heap.size + 1 + 1, 1, none⟩ (.slice (some ⟨g', 0, none⟩) (K + 1) cap')) from by
            refine ⟨m ++ [(3 * k + 1, N)], .slice (some ⟨g', 0, none⟩) (K + 1) cap', ?_, ?_, ?_, ?_, ?_, hsown.out⟩
            · have := heap_setCell_same w2 _ 1 _ 29 (.slice (some ⟨g', 0, none⟩) (K + 1) cap') hkL
              simpa using this
            · rw [F_snoc, EK.out.2, List.length_append, EK.out.1, show (((3 * k + 1 : Nat)) : Int) = 3 * (k : Int) + 1 from by omega]
              exact owns_set hown2 ⟨w.heap.size + 1 + 1, 1, none⟩ _ (by simp [Value.ownBlock]; omega)
            · rw [heap_setCell_other _ _ _ _ (by simp), hkeep _ (by omega)]; exact HR.out.2.2.1
            · exact HR.out.2.2.2.1.trans ((((Below.refl w.heap.size wr).alloc (by omega) _).grown hg2 (by simp; omega) (fun j ej => by have := (HO.out.lt j ej).1; omega)).setCell (p := ⟨w.heap.size + 1 + 1, 1, none⟩) (by simp <;> omega) _)
            · have := hg2.size; simp at this; simp; omega)
          clear hown2 hg2 hkeep hkL
          go_wp2_with fail
          go_roundg (n - (k + 1))
          case measure => rw [hg.out]; omega
          case rel => exact ⟨k + 1, by omega, Lib.hid rfl, by go_num, hnx⟩
      · have t1 : ¬ (k : Int) < 12 := by omega
        have hnx := Lib.hid (show SeedRel w D ls (.slice (some ⟨b, off, none⟩) n cap) S (k + 1) wr from ⟨m, v, HR.out.1, HR.out.2.1, HR.out.2.2.1, HR.out.2.2.2.1, HR.out.2.2.2.2.1, Lab.is_skip HR.out.2.2.2.2.2 HXK.out (fun h => hk12 h.1)⟩)
        go_wp2_with fail
        go_roundg (n - (k + 1))
        case measure => rw [hg.out]; omega
        case rel => exact ⟨k + 1, by omega, Lib.hid rfl, by go_num, hnx⟩
    · obtain ⟨m, v, r1, r2, r3, r4, r5, r6⟩ := hrl.out
      obtain ⟨c0, _, _, _, _, c1⟩ := old2 wr _ 29 _ _ (.int .i64 D) v r1
      obtain ⟨s0, s1, s2, s3, s4, _⟩ := old2 wr (w.heap.size + 1) 29 _ _ (.int .i64 D) v r3
      have hform := form2 r2
      have hne : some (w.heap.size + 1) ≠ v.ownBlock := by intro e; have := (r2.lt _ e.symm).1; omega
      have hfine : Lab.Fine D m := ⟨r6.1.1, HD.out.1, HD.out.2, fun p hp => by have := r6.1.2.1 p hp; omega, r6.1.2.2.2⟩
      have hG : ((wr.setCell ⟨w.heap.size + 1, 0, none⟩ (.int .i64 D)).setCell ⟨w.heap.size + 1, 1, none⟩ v).ownsRow w.heap.size 61 2 v m.length (F m) := owns_mono (owns_set (owns_set r2 _ _ hne) _ _ hne) (by omega)
      have hB : Below w.heap.size w ((wr.setCell ⟨w.heap.size + 1, 0, none⟩ (.int .i64 D)).setCell ⟨w.heap.size + 1, 1, none⟩ v) := (r4.setCell (by simp <;> omega) _).setCell (by simp <;> omega) _
      have hsi : SeedIs S ls w (.returned (.agg #[.int .i64 D, v])) ((wr.setCell ⟨w.heap.size + 1, 0, none⟩ (.int .i64 D)).setCell ⟨w.heap.size + 1, 1, none⟩ v) := by
        have d1 : Lab.seedD S = D := HDE.out
        have d2 : Lab.seedP S ls = m := by
          unfold Lab.seedP
          rw [d1, HL.out, r6.2, show n = k by omega]
        unfold SeedIs
        rw [d1, d2]
        exact ⟨v, rfl, hfine, hG, hB⟩
      have G := Lib.hid hsi
      have S4 := Lib.hid s4
      clear s4 hG hB hfine hne hsi r1 r2 r3 r4 r5 r6 hrl
      rcases hform with rfl | ⟨g', n', c', rfl⟩
      all_goals
        go_wp2_with fail
        refine bodyPost_ret (results_cell_row (by rfl) _ _ (w.heap.size + 1) 29 _ (0, 0) _ (by rfl) S4.out Try.underlying29 rfl info24) rfl G.out
end Go.Proofs.Ytmbdglhihakkjaa
-- with Sp
namespace Go.Proofs.Ytmbdglhihakkjaa
open Go.RowKit
set_option linter.unusedVariables false
set_option linter.unusedSimpArgs false

theorem seed_empty (S : Int) (a0 : Option Addr) (c0 : Nat) (w : World) : Calls Try.prog 12 #[.agg #[.int .i64 S, .slice a0 0 c0]] w (SeedIs S [] w) := by
  obtain ⟨D, eD, hD⟩ : ∃ D, S % 4 + 1 = D ∧ 1 ≤ D ∧ D ≤ 4 := ⟨_, rfl, by omega⟩
  have e3 := and3 S
  have hb0 : Below w.heap.size w (((w.alloc (Obj.cells #[.int .i64 S, .slice a0 0 c0] 24)).alloc (Obj.cells #[.int .i64 0, .slice none 0 0] 29)).alloc (Obj.cells #[.int .i64 D, .slice none 0 0] 29)) := (((Below.refl _ _).alloc (Nat.le_refl _) _).alloc (by simp) _).alloc (by simp <;> omega) _
  have hx : (((w.alloc (Obj.cells #[.int .i64 S, .slice a0 0 c0] 24)).alloc (Obj.cells #[.int .i64 0, .slice none 0 0] 29)).alloc (Obj.cells #[.int .i64 D, .slice none 0 0] 29)).heap.size = w.heap.size + 3 ∧
      (((w.alloc (Obj.cells #[.int .i64 S, .slice a0 0 c0] 24)).alloc (Obj.cells #[.int .i64 0, .slice none 0 0] 29)).alloc (Obj.cells #[.int .i64 D, .slice none 0 0] 29)).heap[w.heap.size + 1]? = some (Obj.cells #[.int .i64 0, .slice none 0 0] 29) ∧
      (((w.alloc (Obj.cells #[.int .i64 S, .slice a0 0 c0] 24)).alloc (Obj.cells #[.int .i64 0, .slice none 0 0] 29)).alloc (Obj.cells #[.int .i64 D, .slice none 0 0] 29)).heap[w.heap.size + 1 + 1]? = some (Obj.cells #[.int .i64 D, .slice none 0 0] 29) := by
    refine ⟨by simp, ?_, ?_⟩
    · rw [Below.heap_alloc _ _ _ (by simp)]
      have := heap_alloc_new (w.alloc (Obj.cells #[.int .i64 S, .slice a0 0 c0] 24)) (Obj.cells #[.int .i64 0, .slice none 0 0] 29); simpa using this
    · have := heap_alloc_new ((w.alloc (Obj.cells #[.int .i64 S, .slice a0 0 c0] 24)).alloc (Obj.cells #[.int .i64 0, .slice none 0 0] 29)) (Obj.cells #[.int .i64 D, .slice none 0 0] 29); simpa using this
  obtain ⟨W0, e0⟩ : ∃ W0, W0 = ((w.alloc (Obj.cells #[.int .i64 S, .slice a0 0 c0] 24)).alloc (Obj.cells #[.int .i64 0, .slice none 0 0] 29)).alloc (Obj.cells #[.int .i64 D, .slice none 0 0] 29) := ⟨_, rfl⟩
  rw [← e0] at hb0 hx
  obtain ⟨hs, x0, x1⟩ := hx
  obtain ⟨cc0, _, _, _, _, cc1⟩ := old2 W0 _ 29 _ _ (.int .i64 D) (.slice none 0 0) x1
  obtain ⟨s0, s1, s2, s3, s4, _⟩ := old2 W0 (w.heap.size + 1) 29 _ _ (.int .i64 D) (.slice none 0 0) x0
  have hB : Below w.heap.size w ((W0.setCell ⟨w.heap.size + 1, 0, none⟩ (.int .i64 D)).setCell ⟨w.heap.size + 1, 1, none⟩ (.slice none 0 0)) := (hb0.setCell (by simp <;> omega) _).setCell (by simp <;> omega) _
  have hfine : Lab.Fine D [] := ⟨Lab.ok_nil D, hD.1, hD.2, by simp, by simp⟩
  have hsi : SeedIs S [] w (.returned (.agg #[.int .i64 D, .slice none 0 0])) ((W0.setCell ⟨w.heap.size + 1, 0, none⟩ (.int .i64 D)).setCell ⟨w.heap.size + 1, 1, none⟩ (.slice none 0 0)) := by
    have d1 : Lab.seedD S = D := eD
    have d2 : Lab.seedP S [] = [] := rfl
    unfold SeedIs
    rw [d1, d2]
    exact ⟨_, rfl, hfine, World.ownsRow_nil _ _ _ _, hB⟩
  have G := Lib.hid hsi
  have S4 := Lib.hid s4
  clear s4 hB hfine hb0 x0 x1 hD hs hsi
  go_enter Try.func12, Try.ntmps12
  go_wp2_with fail
  rw [← e0]
  clear e0 e3 eD
  go_loopg [14] 0 (fun g i wr => i = .int .i64 0 ∧ wr = W0)
  case atStart => exact ⟨rfl, rfl⟩
  case round =>
    obtain ⟨rfl, rfl⟩ := hrel
    go_wp2_with fail
    refine bodyPost_ret (results_cell_row (by rfl) _ _ (w.heap.size + 1) 29 _ (0, 0) _ (by rfl) S4.out Try.underlying29 rfl info24) rfl G.out
/-- A slice of whole numbers, as an argument has it. -/
def Ints (w : World) (v : Value) : Prop := (∃ a c, v = .slice a 0 c) ∨ ∃ b off cap n, ∃ ls : List Int, v = .slice (some ⟨b, off, none⟩) n cap ∧ ls.length = n ∧ n ≤ 140737488351232 ∧ b < w.heap.size ∧ ∀ i x, ls[i]? = some x → w.cell? ⟨b, off + i, none⟩ = some (.int .i64 x)
theorem Ints.below {w w' : World} {v : Value} (h : Ints w v) (hb : Below w.heap.size w w') : Ints w' v := by
  rcases h with h | ⟨b, off, cap, n, ls, h1, h2, h3, h4, h5⟩
  · exact .inl h
  · exact .inr ⟨b, off, cap, n, ls, h1, h2, h3, Nat.lt_of_lt_of_le h4 hb.size, fun i x hx => by rw [hb.cell (p := ⟨b, _, none⟩) h4]; exact h5 i x hx⟩
/-- The same, the numbers named. -/
def IntsL (w : World) (v : Value) (ls : List Int) : Prop := ((∃ a c, v = .slice a 0 c) ∧ ls = []) ∨ ∃ b off cap n, v = .slice (some ⟨b, off, none⟩) n cap ∧ ls.length = n ∧ n ≤ 140737488351232 ∧ b < w.heap.size ∧ ∀ i x, ls[i]? = some x → w.cell? ⟨b, off + i, none⟩ = some (.int .i64 x)
theorem IntsL.below {w w' : World} {v : Value} {ls : List Int} (h : IntsL w v ls) (hb : Below w.heap.size w w') : IntsL w' v ls := by
  rcases h with h | ⟨b, off, cap, n, h1, h2, h3, h4, h5⟩
  · exact .inl h
  · exact .inr ⟨b, off, cap, n, h1, h2, h3, Nat.lt_of_lt_of_le h4 hb.size, fun i x hx => by rw [hb.cell (p := ⟨b, _, none⟩) h4]; exact h5 i x hx⟩
theorem Ints.named {w : World} {v : Value} (h : Ints w v) : ∃ ls, IntsL w v ls := by
  rcases h with h | ⟨b, off, cap, n, ls, h1⟩
  · exact ⟨[], .inl ⟨h, rfl⟩⟩
  · exact ⟨ls, .inr ⟨b, off, cap, n, h1⟩⟩
/-- A seed's label: which one it is. -/
theorem seed_is (S : Int) (v : Value) (ls : List Int) (w : World) (h : IntsL w v ls) : Calls Try.prog 12 #[.agg #[.int .i64 S, v]] w (SeedIs S ls w) := by
  rcases h with ⟨⟨a, c, rfl⟩, rfl⟩ | ⟨b, off, cap, n, rfl, h2, h3, h4, h5⟩
  · exact seed_empty S a c w
  · exact seed_some S b off cap n ls w h2 h3 h4 h5
theorem seed_any (S : Int) (v : Value) (w : World) (h : Ints w v) : Calls Try.prog 12 #[.agg #[.int .i64 S, v]] w (Seeds w) := by
  obtain ⟨ls, h⟩ := h.named
  exact (seed_is S v ls w h).mono fun e w' ⟨u, h1, h2, h3, h4⟩ => ⟨u, _, _, h1, h2, h3, h4⟩
end Go.Proofs.Ytmbdglhihakkjaa
