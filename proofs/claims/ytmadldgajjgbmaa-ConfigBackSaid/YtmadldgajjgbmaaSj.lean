import Derived.Test.YtmadldgajjgbmaaSa
import Derived.Test.YtmadldgajjgbmaaRa
import Derived.Test.YtmadldgajjgbmaaSh
import Derived.Test.YtmadldgajjgbmaaRl
import Derived.Lib.Hide
namespace Go.Proofs.Ytmadldgajjgbmaa
open Go.RowKit
set_option linter.unusedVariables false
set_option linter.unusedSimpArgs false

end Go.Proofs.Ytmadldgajjgbmaa
-- with Sk
namespace Lab
/-- The category ahead of a place; 0 ahead of the first. -/
def lastOf (ps : List (Nat × Int)) : Nat → Nat
  | 0 => 0
  | j + 1 => match ps[j]? with
    | none => 0
    | some q => q.1
theorem lastOf_succ {ps : List (Nat × Int)} {k : Nat} {p : Nat × Int} (h : ps[k]? = some p) : lastOf ps (k + 1) = p.1 := by
  show (match ps[k]? with | none => 0 | some q => q.1) = p.1
  rw [h]
theorem last_rises {ps : List (Nat × Int)} {k c : Nat} {l : Int} (h : ps[k]? = some (c, l)) : lastOf ps k < c ↔ 1 ≤ c ∧ risesAt ps (c, l) k = true := by
  cases k with
  | zero => show 0 < c ↔ 1 ≤ c ∧ true = true; simp; omega
  | succ j =>
    obtain ⟨hk, _⟩ := List.getElem?_eq_some_iff.1 h
    have hj : ps[j]? = some ps[j] := List.getElem?_eq_getElem (by omega)
    show (match ps[j]? with | none => 0 | some q => q.1) < c ↔ 1 ≤ c ∧ (match ps[j]? with | none => true | some q => decide (q.1 < c)) = true
    rw [hj]; simp; omega
theorem okTo_false {D : Int} {ps : List (Nat × Int)} {k : Nat} (h : okTo D ps k = false) : ∀ m, okTo D ps (k + m) = false
  | 0 => h
  | m + 1 => by show (okTo D ps (k + m) && _) = false; rw [okTo_false h m]; rfl
theorem right_false {D : Int} {ps : List (Nat × Int)} {k : Nat} (h : okTo D ps k = false) (hk : k ≤ ps.length) : right D ps = false := by
  have := okTo_false h (ps.length - k)
  rwa [Nat.add_sub_cancel' hk] at this
theorem okTo_bad {D : Int} {ps : List (Nat × Int)} {k c : Nat} {l : Int} (h : ps[k]? = some (c, l)) (hb : ¬ (lastOf ps k < c ∧ c ≤ 1073741824 ∧ 0 ≤ l ∧ l ≤ 4 ∧ l ≠ D)) : right D ps = false := by
  refine right_false (k := k + 1) ?_ (by have := (List.getElem?_eq_some_iff.1 h).1; omega)
  rw [okTo_step h]
  have hl := last_rises h
  cases hok : okTo D ps k with
  | false => rfl
  | true =>
    cases hg : goodP D (c, l) with
    | false => rfl
    | true =>
      cases hr : risesAt ps (c, l) k with
      | false => rfl
      | true =>
        exfalso; apply hb
        simp [goodP] at hg
        exact ⟨hl.2 ⟨hg.1.1.1.1, hr⟩, hg.1.1.1.2, hg.1.1.2, hg.1.2, hg.2⟩
theorem okTo_good {D : Int} {ps : List (Nat × Int)} {k c : Nat} {l : Int} (h : ps[k]? = some (c, l)) (hok : okTo D ps k = true) (h1 : lastOf ps k < c) (h2 : c ≤ 1073741824) (h3 : 0 ≤ l) (h4 : l ≤ 4) (h5 : l ≠ D) : okTo D ps (k + 1) = true := by
  rw [okTo_step h, hok]
  obtain ⟨a, b⟩ := (last_rises h).1 h1
  simp [goodP, a, b, h2, h3, h4, h5]
end Lab
namespace Go.Proofs.Ytmadldgajjgbmaa
open Go.RowKit
set_option linter.unusedVariables false
set_option linter.unusedSimpArgs false

set_option maxHeartbeats 2000000 in
theorem pright_some (b off cap : Nat) (ps : List (Nat × Int)) (D : Int) (w : World) (hn : ps.length ≤ 140737488351232) (hb : b < w.heap.size)
   (hc : ∀ i p, ps[i]? = some p → w.cell? ⟨b, off + i * 2, none⟩ = some (.int .u32 p.1) ∧ w.cell? ⟨b, off + i * 2 + 1, none⟩ = some (.int .i64 p.2)) :
    Calls Try.prog 52 #[.agg #[.int .i64 D, .slice (some ⟨b, off, none⟩) ps.length cap]] w fun e w' => e = .returned (.bool (Lab.right D ps)) ∧ Below w.heap.size w w' := by
  have HC := Lib.hid hc
  clear hc
  obtain ⟨n, en⟩ : ∃ n, ps.length = n := ⟨_, rfl⟩
  have hr0 : Lab.right D ps = Lab.okTo D ps n := by rw [← en]; rfl
  have h00 : Lab.okTo D ps 0 = (decide (1 ≤ D) && decide (D ≤ 4) && decide (n ≤ 12)) := by rw [← en]; rfl
  have h0f : Lab.okTo D ps 0 = false → Lab.right D ps = false := fun h => Lab.right_false h (Nat.zero_le _)
  have HR := Lib.hid hr0
  have H00 := Lib.hid h00
  have H0F := Lib.hid h0f
  rw [en] at hn ⊢
  have EN := Lib.hid en
  clear en hr0 h00 h0f
  go_enter Try.func52, Try.ntmps52
  go_upto_region 1 with fail
  obtain ⟨W0, eW⟩ : ∃ W0, W0 = w.alloc (Obj.cells #[Value.int .i64 D, .slice (some ⟨b, off, none⟩) n cap] 41) := ⟨_, rfl⟩
  have hW : Below w.heap.size w W0 ∧ W0.heap.size = w.heap.size + 1 ∧ W0.heap[w.heap.size]? = some (Obj.cells #[Value.int .i64 D, .slice (some ⟨b, off, none⟩) n cap] 41) := by
    rw [eW]; exact ⟨(Below.refl _ _).alloc (Nat.le_refl _) _, by simp, heap_alloc_new w _⟩
  have HW := Lib.hid hW
  rw [← eW]
  have d0 : W0.cell? ⟨w.heap.size, 0, none⟩ = some (.int .i64 D) := by rw [cell_of_row _ _ 0 _ 41 (0, 0) hW.2.2]; rfl
  have d1 : W0.cell? ⟨w.heap.size, 1, none⟩ = some (.slice (some ⟨b, off, none⟩) n cap) := by rw [cell_of_row _ _ 1 _ 41 (0, 0) hW.2.2]; rfl
  clear hW eW
  by_cases h1 : 1 ≤ D
  · have g1 : ¬ D < 1 := by omega
    by_cases h2 : D ≤ 4
    · have g2 : ¬ 4 < D := by omega
      by_cases h3 : n ≤ 12
      · have g3 : ¬ (12 : Int) < (n : Int) := by omega
        have hv := Lib.hid (show Lab.okTo D ps 0 = true by rw [H00.out]; simp [h1, h2, h3])
        go_wp2_with fail
        go_loopg [3, 23] n (fun g s3 s4 wr => ∃ (k : Nat), k ≤ n ∧ Hid (g = n - k) ∧ s3 = .int .u32 (Lab.lastOf ps k : Nat) ∧ s4 = .int .i64 k ∧ Hid (Lab.okTo D ps k = true) ∧ Hid (Below (w.heap.size + 1) W0 wr))
        case atStart => exact ⟨0, by omega, Lib.hid (by omega), rfl, rfl, hv, Lib.hid (Below.refl _ _)⟩
        case round =>
          obtain ⟨k, hk, hg, rfl, rfl, hok, hbel⟩ := hrel
          clear hv
          have c0 : wr.cell? ⟨w.heap.size, 0, none⟩ = some (.int .i64 D) := by rw [hbel.out.cell (p := ⟨_, _, none⟩) (by simp)]; exact d0
          have hsz : w.heap.size + 1 ≤ wr.heap.size := by have := hbel.out.size; have := HW.out.2.1; omega
          have hcell : ∀ i p, ps[i]? = some p → wr.cell? ⟨b, off + i * 2, none⟩ = some (.int .u32 p.1) ∧ wr.cell? ⟨b, off + i * 2 + 1, none⟩ = some (.int .i64 p.2) := by
            intro i p hp
            have h2 : Below w.heap.size w wr := HW.out.1.trans (hbel.out.mono (by omega))
            rw [h2.cell (p := ⟨b, _, none⟩) hb, h2.cell (p := ⟨b, _, none⟩) hb]
            exact HC.out i p hp
          by_cases hlt : k < n
          · obtain ⟨⟨c, l⟩, hp⟩ : ∃ p, ps[k]? = some p := ⟨_, List.getElem?_eq_getElem (by rw [EN.out]; exact hlt)⟩
            obtain ⟨x1, x2⟩ := hcell k (c, l) hp
            have HP := Lib.hid hp
            obtain ⟨L, eL⟩ : ∃ L, Lab.lastOf ps k = L := ⟨_, rfl⟩
            rw [eL]
            have EL := Lib.hid eL
            have hB2 : Below (w.heap.size + 1) W0 (wr.alloc (Obj.cells #[.int .u32 (c : Int), .int .i64 l] 80)) := hbel.out.alloc hsz _
            have k2 := heap_alloc_new wr (Obj.cells #[.int .u32 (c : Int), .int .i64 l] 80)
            have c2 : (wr.alloc (Obj.cells #[.int .u32 (c : Int), .int .i64 l] 80)).cell? ⟨w.heap.size, 0, none⟩ = some (.int .i64 D) := by rw [hB2.cell (p := ⟨_, _, none⟩) (by simp)]; exact d0
            obtain ⟨s0, s1, s2, s3, _⟩ := fresh2 wr 80 (.int .u32 0) (.int .i64 0) (.int .u32 (c : Int)) (.int .i64 l)
            clear hcell hp eL
            go_upto_region 7 with fail
            obtain ⟨W2, eW2⟩ : ∃ W2, W2 = wr.alloc (Obj.cells #[Value.int .u32 (c : Int), Value.int .i64 l] 80) := ⟨_, rfl⟩
            rw [← eW2] at hB2 k2 c2 ⊢
            clear eW2 s0 s1 s2 s3 c0 x1 x2
            have q0 : W2.cell? ⟨wr.heap.size, 0, none⟩ = some (.int .u32 (c : Int)) := by rw [cell_of_row _ _ 0 _ 80 (0, 0) k2]; rfl
            have q1 : W2.cell? ⟨wr.heap.size, 1, none⟩ = some (.int .i64 l) := by rw [cell_of_row _ _ 1 _ 80 (0, 0) k2]; rfl
            have HBE := Lib.hid hB2
            have HF := Lib.hid (HW.out.1.trans (hB2.mono (by omega)))
            clear hB2 k2
            by_cases t1 : L < c
            · have u1 : ¬ (c : Int) ≤ (L : Int) := by omega
              by_cases t2 : c ≤ 1073741824
              · have u2 : ¬ (1073741824 : Int) < (c : Int) := by omega
                by_cases t3 : 0 ≤ l
                · have u3 : ¬ l < 0 := by omega
                  by_cases t4 : l ≤ 4
                  · have u4 : ¬ 4 < l := by omega
                    by_cases t5 : l ≠ D
                    · have u5 : (l == D) = false := by rw [beq_eq_false_iff_ne]; exact t5
                      have hv := Lib.hid (Lab.okTo_good HP.out hok.out (by rw [EL.out]; exact t1) t2 t3 t4 t5)
                      have hl := Lib.hid (Lab.lastOf_succ HP.out)
                      clear t5
                      go_wp2_with fail
                      go_roundg (n - (k + 1))
                      case measure => rw [hg.out]; omega
                      case rel => exact ⟨k + 1, by omega, Lib.hid rfl, by rw [hl.out], by go_num, hv, HBE⟩
                    · have u5 : (l == D) = true := by rw [beq_iff_eq]; omega
                      have hv := Lib.hid (Lab.okTo_bad (D := D) HP.out (by rw [EL.out]; omega))
                      clear t5
                      go_wp2_with fail
                      go_ret
                      exact ⟨by rw [hv.out]; rfl, HF.out⟩
                  · have u4 : 4 < l := by omega
                    have hv := Lib.hid (Lab.okTo_bad (D := D) HP.out (by rw [EL.out]; omega))
                    clear t4
                    go_wp2_with fail
                    go_ret
                    exact ⟨by rw [hv.out]; rfl, HF.out⟩
                · have u3 : l < 0 := by omega
                  have hv := Lib.hid (Lab.okTo_bad (D := D) HP.out (by rw [EL.out]; omega))
                  clear t3
                  go_wp2_with fail
                  go_ret
                  exact ⟨by rw [hv.out]; rfl, HF.out⟩
              · have u2 : (1073741824 : Int) < (c : Int) := by omega
                have hv := Lib.hid (Lab.okTo_bad (D := D) HP.out (by rw [EL.out]; omega))
                clear t2
                go_wp2_with fail
                go_ret
                exact ⟨by rw [hv.out]; rfl, HF.out⟩
            · have u1 : (c : Int) ≤ (L : Int) := by omega
              have hv := Lib.hid (Lab.okTo_bad (D := D) HP.out (by rw [EL.out]; omega))
              clear t1
              go_wp2_with fail
              go_ret
              exact ⟨by rw [hv.out]; rfl, HF.out⟩
          · have hkn : k = n := by omega
            have hv := Lib.hid (show Lab.right D ps = true by rw [HR.out, ← hkn]; exact hok.out)
            have HF := Lib.hid (HW.out.1.trans (hbel.out.mono (by omega)))
            clear hcell
            go_wp2_with fail
            go_ret
            exact ⟨by rw [hv.out]; rfl, HF.out⟩
      · have g3 : (12 : Int) < (n : Int) := by omega
        have hv := Lib.hid (H0F.out (by rw [H00.out]; simp [h1, h2, h3]))
        go_wp2_with fail
        go_ret
        exact ⟨by rw [hv.out]; rfl, HW.out.1⟩
    · have g2 : 4 < D := by omega
      have hv := Lib.hid (H0F.out (by rw [H00.out]; simp [h1, h2]))
      go_wp2_with fail
      go_ret
      exact ⟨by rw [hv.out]; rfl, HW.out.1⟩
  · have g1 : D < 1 := by omega
    have hv := Lib.hid (H0F.out (by rw [H00.out]; simp [h1]))
    go_wp2_with fail
    go_ret
    exact ⟨by rw [hv.out]; rfl, HW.out.1⟩
theorem pright_empty (D : Int) (a0 : Option Addr) (c0 : Nat) (w : World) : Calls Try.prog 52 #[.agg #[.int .i64 D, .slice a0 0 c0]] w fun e w' => e = .returned (.bool (Lab.right D [])) ∧ Below w.heap.size w w' := by
  have HB := Lib.hid (show Below w.heap.size w (w.alloc (Obj.cells #[.int .i64 D, .slice a0 0 c0] 41)) from (Below.refl _ _).alloc (Nat.le_refl _) _)
  by_cases h1 : 1 ≤ D
  · have g1 : ¬ D < 1 := by omega
    by_cases h2 : D ≤ 4
    · have g2 : ¬ 4 < D := by omega
      have hv := Lib.hid (show Lab.right D [] = true by simp [Lab.right, Lab.okTo, h1, h2])
      go_enter Try.func52, Try.ntmps52
      go_wp2_with fail
      go_loopg [23] 0 (fun g i wr => i = .int .i64 0 ∧ wr = w.alloc (Obj.cells #[.int .i64 D, .slice a0 0 c0] 41))
      case atStart => exact ⟨rfl, rfl⟩
      case round =>
        obtain ⟨rfl, rfl⟩ := hrel
        go_wp2_with fail
        go_ret
        exact ⟨by rw [hv.out]; rfl, HB.out⟩
    · have g2 : 4 < D := by omega
      have hv := Lib.hid (show Lab.right D [] = false by simp [Lab.right, Lab.okTo, h1, h2])
      go_enter Try.func52, Try.ntmps52
      go_wp2_with fail
      go_ret
      exact ⟨by rw [hv.out]; rfl, HB.out⟩
  · have g1 : D < 1 := by omega
    have hv := Lib.hid (show Lab.right D [] = false by simp [Lab.right, Lab.okTo, h1])
    go_enter Try.func52, Try.ntmps52
    go_wp2_with fail
    go_ret
    exact ⟨by rw [hv.out]; rfl, HB.out⟩
theorem pright_any (v : Value) (ps : List (Nat × Int)) (D : Int) (w : World) (h : Reads w v ps) :
    Calls Try.prog 52 #[.agg #[.int .i64 D, v]] w fun e w' => e = .returned (.bool (Lab.right D ps)) ∧ Below w.heap.size w w' := by
  rcases h with ⟨rfl, rfl⟩ | ⟨b, off, cap, rfl, h2, h3, h4⟩
  · exact pright_empty D _ _ w
  · exact pright_some b off cap ps D w h3 h2 h4
end Go.Proofs.Ytmadldgajjgbmaa
-- with Sl
namespace Go.Proofs.Ytmadldgajjgbmaa
open Go.RowKit
set_option linter.unusedVariables false
set_option linter.unusedSimpArgs false

set_option maxHeartbeats 1000000 in
theorem powns_some (b off cap : Nat) (ps : List (Nat × Int)) (D : Int) (w : World) (hn : ps.length ≤ 140737488351232 / 4) (hb : b < w.heap.size)
   (hc : ∀ i p, ps[i]? = some p → w.cell? ⟨b, off + i * 2, none⟩ = some (.int .u32 p.1) ∧ w.cell? ⟨b, off + i * 2 + 1, none⟩ = some (.int .i64 p.2)) :
    Calls Try.prog 66 #[.agg #[.int .i64 D, .slice (some ⟨b, off, none⟩) ps.length cap]] w fun e w' =>
      ∃ v, e = .returned v ∧ w'.ownsRow (w.heap.size + 1) 78 1 v (Lab.owns ps).length (U (Lab.owns ps)) ∧ Below w.heap.size w w' := by
  obtain ⟨i0, hi, hz0, hz1, hz2⟩ := info_parts info37
  have HC := Lib.hid hc
  clear hc
  obtain ⟨n, en⟩ : ∃ n, ps.length = n := ⟨_, rfl⟩
  rw [en] at hn ⊢
  have ER := Lib.hid en
  clear en
  go_enter Try.func66, Try.ntmps66
  go_wp2
  go_loopg [3, 9] n (fun g out i wr => ∃ k : Nat, k ≤ n ∧ g = n - k ∧ i = .int .i64 k ∧ OwnsRel ps w D (.slice (some ⟨b, off, none⟩) n cap) k out wr)
  case atStart => exact ⟨0, by omega, by omega, rfl, by rw [owns_zero]; exact World.ownsRow_nil _ _ _ _, Below.refl _ _⟩
  case round =>
    obtain ⟨k, hk, hg, rfl, hown, hbel⟩ := hrel
    have HG := Lib.hid hg
    have hsz : w.heap.size + 1 ≤ wr.heap.size := by have := hbel.size; simp at this; omega
    have hl := Lab.owns_len ps k
    clear hg
    by_cases hlt : k < n
    · obtain ⟨p, hp⟩ : ∃ p, ps[k]? = some p := ⟨_, List.getElem?_eq_getElem (by rw [ER.out]; exact hlt)⟩
      obtain ⟨x1, x2⟩ := HC.out k p hp
      have y1 : wr.cell? ⟨b, off + k * 2, none⟩ = some (.int .u32 p.1) := by rw [hbel.cell (p := ⟨b, _, none⟩) (by simp; omega)]; rw [← x1]; exact World.cell?_alloc_old _ _ _ (by simp; omega)
      have y2 : wr.cell? ⟨b, off + k * 2 + 1, none⟩ = some (.int .i64 p.2) := by rw [hbel.cell (p := ⟨b, _, none⟩) (by simp; omega)]; rw [← x2]; exact World.cell?_alloc_old _ _ _ (by simp; omega)
      clear x1 x2
      obtain ⟨p1, p2⟩ := p
      have hB2 : Below (w.heap.size + 1) (w.alloc (Obj.cells #[.int .i64 D, .slice (some ⟨b, off, none⟩) n cap] 41)) (wr.alloc (Obj.cells #[.int .u32 (p1 : Int), .int .i64 p2] 80)) := hbel.alloc hsz _
      have hO2 := hown.alloc (Obj.cells #[.int .u32 (p1 : Int), .int .i64 p2] 80)
      have k2 := heap_alloc_new wr (Obj.cells #[.int .u32 (p1 : Int), .int .i64 p2] 80)
      have hsz2 : w.heap.size + 1 ≤ (wr.alloc (Obj.cells #[.int .u32 (p1 : Int), .int .i64 p2] 80)).heap.size := by simp; omega
      obtain ⟨s0, s1, s2, s3, _⟩ := fresh2 wr 80 (.int .u32 0) (.int .i64 0) (.int .u32 (p1 : Int)) (.int .i64 p2)
      have HP := Lib.hid hp
      clear hown hbel hp
      go_upto_region 5 with fail
      obtain ⟨W2, eW2⟩ : ∃ W2, W2 = wr.alloc (Obj.cells #[Value.int .u32 (p1 : Int), Value.int .i64 p2] 80) := ⟨_, rfl⟩
      rw [← eW2] at hB2 hO2 k2 hsz2 ⊢
      clear eW2 s0 s1 s2 s3 y1 y2
      have q0 : W2.cell? ⟨wr.heap.size, 0, none⟩ = some (.int .u32 (p1 : Int)) := by rw [cell_of_row _ _ 0 _ 80 (0, 0) k2]; rfl
      have q1 : W2.cell? ⟨wr.heap.size, 1, none⟩ = some (.int .i64 p2) := by rw [cell_of_row _ _ 1 _ 80 (0, 0) k2]; rfl
      have HO := Lib.hid hO2
      have HB := Lib.hid hB2
      clear hO2 hB2 k2
      by_cases e : p2 = 0
      · have hit := Lib.hid (Lab.owns_hit HP.out e)
        have e' : (p2 == 0) = true := by rw [beq_iff_eq]; exact e
        clear e
        go_wp2_with (at_builtin; refine wpList_append_own _ rfl _ _ 64 rfl (w.heap.size + 1) 78 i0 (.int .u32 0) 1 4 Try.underlying64 hi hz0 hz1 hz2 rfl (by decide) _ _ _ rfl (HO.out.alloc _) ⟨W2.heap.size, 0, none⟩ 1 1 [.int .u32 p1] rfl rfl (one_new _ _ _) ?c2 ?c3 ?c4 ?c5 ?_)
        case c2 => rfl
        case c3 => unfold maxLen; omega
        case c4 => omega
        case c5 => first | omega | (rw [World.size_alloc]; omega)
        intro v' w1 hown' hgrow _
        have hbel' : Below (w.heap.size + 1) (w.alloc (Obj.cells #[.int .i64 D, .slice (some ⟨b, off, none⟩) n cap] 41)) w1 :=
          (HB.out.alloc hsz2 _).grown hgrow (by simp; omega) (fun k hk => (HO.out.lt k hk).1)
        have HO' := Lib.hid hown'
        have HB' := Lib.hid hbel'
        clear hown' hgrow hbel'
        go_wp2
        go_roundg (n - (k + 1))
        case rel =>
          refine ⟨k + 1, by omega, rfl, by go_num, ?_, HB'.out⟩
          rw [hit.out, U_snoc, List.length_append]; exact HO'.out
        case measure => have := HG.out; omega
      · have hit := Lib.hid (Lab.owns_miss HP.out e)
        have e' : (p2 == 0) = false := by rw [beq_eq_false_iff_ne]; exact e
        clear e
        go_wp2
        go_roundg (n - (k + 1))
        case rel =>
          refine ⟨k + 1, by omega, rfl, by go_num, ?_, HB.out⟩
          rw [hit.out]; exact HO.out
        case measure => have := HG.out; omega
    · have HO := Lib.hid hown
      have HB := Lib.hid hbel
      clear hown hbel
      have e := Lib.hid (List.take_of_length_le (l := ps) (i := k) (by rw [ER.out]; omega))
      go_wp2
      go_ret
      refine ⟨_, rfl, ?_, ⟨HB.out.os, HB.out.tape, HB.out.output, by simpa using by omega, fun i hi => ?_⟩⟩
      · have := HO.out; rw [e.out] at this; exact this
      · rw [HB.out.block i (by omega)]; exact Below.heap_alloc _ _ _ hi
theorem powns_none (D : Int) (w : World) :
    Calls Try.prog 66 #[.agg #[.int .i64 D, .slice none 0 0]] w fun e w' => e = .returned (.slice none 0 0) ∧ Below w.heap.size w w' := by
  go_enter Try.func66, Try.ntmps66
  go_wp2
  go_loop [3, 9] (fun o i => o = .slice none 0 0 ∧ i = .int .i64 0) (fun o i => 0)
  case atStart => exact ⟨rfl, rfl⟩
  case round =>
    obtain ⟨rfl, rfl⟩ := hrel
    go_wp2
    go_ret
    exact ⟨rfl, (Below.refl _ _).alloc (Nat.le_refl _) _⟩
theorem powns_any (v : Value) (ps : List (Nat × Int)) (D : Int) (w : World) (h : Reads w v ps) (hn : ps.length ≤ 140737488351232 / 4) :
    Calls Try.prog 66 #[.agg #[.int .i64 D, v]] w fun e w' =>
      ∃ v, e = .returned v ∧ w'.ownsRow (w.heap.size + 1) 78 1 v (Lab.owns ps).length (U (Lab.owns ps)) ∧ Below w.heap.size w w' := by
  rcases h with ⟨rfl, rfl⟩ | ⟨b, off, cap, rfl, h2, h3, h4⟩
  · refine (powns_none D w).mono ?_
    rintro e w' ⟨rfl, h⟩
    exact ⟨_, rfl, World.ownsRow_nil _ _ _ _, h⟩
  · exact powns_some b off cap ps D w hn h2 h4
end Go.Proofs.Ytmadldgajjgbmaa
-- with Ua
namespace Go
set_option linter.unusedVariables false
set_option linter.unusedSimpArgs false
variable {P : Program} {ops : Array Oper} {Q : Exit → Act → World → Prop} {md : Region.Mode}

end Go
-- with Ub
namespace Go.Proofs.Ytmadldgajjgbmaa
open Go.RowKit
set_option linter.unusedVariables false
set_option linter.unusedSimpArgs false

/-- A call's label, in memory laid since X. -/
def LVq (X w : World) (G : Int → List (Nat × Int) → Prop) (y : Value) : Prop := ∃ D a n c ps, y = .agg #[.int .i64 D, .slice a n c] ∧ G D ps ∧ w.ownsRow X.heap.size 80 2 (.slice a n c) ps.length (F ps)
/-- A new variable, not yet stored into. -/
def AV (X w : World) (p : Value) : Prop := ∃ A, p = .pointer (some ⟨A, 0, none⟩) ∧ X.heap.size ≤ A ∧ ∃ x u, w.heap[A]? = some (Obj.cells #[x, u] 41)
/-- A new variable that holds a call's label. -/
def SV (w : World) (p y : Value) : Prop := ∃ A D v, p = .pointer (some ⟨A, 0, none⟩) ∧ y = .agg #[.int .i64 D, v] ∧ w.heap[A]? = some (Obj.cells #[.int .i64 D, v] 41)
theorem LVq.below {X w w' : World} {G : Int → List (Nat × Int) → Prop} {y : Value} (h : LVq X w G y) (hb : Below w.heap.size w w') : LVq X w' G y := by
  obtain ⟨D, a, n, c, ps, h1, h2, h3⟩ := h
  exact ⟨D, a, n, c, ps, h1, h2, owns_below h3 hb⟩
theorem AV.below {X w w' : World} {p : Value} (h : AV X w p) (hb : Below w.heap.size w w') : AV X w' p := by
  obtain ⟨A, h1, h2, x, u, h3⟩ := h
  exact ⟨A, h1, h2, x, u, by rw [hb.block _ (Array.getElem?_eq_some_iff.1 h3).1]; exact h3⟩
theorem SV.below {w w' : World} {p y : Value} (h : SV w p y) (hb : Below w.heap.size w w') : SV w' p y := by
  obtain ⟨A, D, v, h1, h2, h3⟩ := h
  exact ⟨A, D, v, h1, h2, by rw [hb.block _ (Array.getElem?_eq_some_iff.1 h3).1]; exact h3⟩
theorem AV.new (X w : World) (x u : Value) (h : X.heap.size ≤ w.heap.size) : AV X (w.alloc (Obj.cells #[x, u] 41)) (.pointer (some ⟨w.heap.size, 0, none⟩)) := ⟨_, rfl, h, x, u, heap_alloc_new w _⟩
end Go.Proofs.Ytmadldgajjgbmaa
-- with Uc
namespace Go.Proofs.Ytmadldgajjgbmaa
open Go.RowKit
set_option linter.unusedVariables false
set_option linter.unusedSimpArgs false

/-- A call's label, its slice written out, in memory of the call's own. -/
def LG (W : World) (M : Int) (Z : List (Nat × Int)) (e : Ending) (w' : World) : Prop := ∃ a n c, e = .returned (.agg #[.int .i64 M, .slice a n c]) ∧ w'.ownsRow W.heap.size 80 2 (.slice a n c) Z.length (F Z) ∧ Below W.heap.size W w'
theorem slice_form {w : World} {base e k : Nat} {v : Value} {xs : List Value} (h : w.ownsRow base e 2 v k xs) : ∃ a n c, v = .slice a n c := by
  rcases h.2 with ⟨h, _⟩ | ⟨g', cap', cur, h, hg, _⟩
  · exact ⟨_, _, _, h⟩
  · exact ⟨_, _, _, h⟩
theorem lg_of_gives {W w' : World} {M : Int} {Z : List (Nat × Int)} {e : Ending} (h : Gives W M Z e w') : LG W M Z e w' := by
  obtain ⟨v, h1, h2, h3⟩ := h
  obtain ⟨a, n, c, rfl⟩ := slice_form h2
  exact ⟨a, n, c, h1, h2, h3⟩
theorem pos_of {D : Int} {ps : List (Nat × Int)} (h : Lab.Ok D ps) : ∀ c ∈ ps.map (·.1), 1 ≤ c := fun c hc => by
  obtain ⟨p, hp, rfl⟩ := List.mem_map.1 hc; exact (h.2.1 p hp).1
theorem pos_both {D E : Int} {ps qs : List (Nat × Int)} (h1 : Lab.Ok D ps) (h2 : Lab.Ok E qs) : ∀ c ∈ (ps ++ qs).map (·.1), 1 ≤ c := fun c hc => by
  rw [List.map_append, List.mem_append] at hc
  rcases hc with hc | hc
  · exact pos_of h1 c hc
  · exact pos_of h2 c hc
section
variable {D E : Int} {v1 v2 : Value} {ps qs : List (Nat × Int)} {W : World}
theorem rest_c (r1 : RC W.heap.size W v1 ps) (hn : ps.length ≤ 1000000) : Calls Try.prog 54 #[.agg #[.int .i64 D, v1]] W (LG W (Lab.turn 0 2 D) (Lab.tn 0 2 D ps)) :=
  (prest_any D v1 ps W (by omega) r1).mono fun e w' h => lg_of_gives h
theorem rrest_c (o1 : Lab.Ok D ps) (r1 : RC W.heap.size W v1 ps) (hn : ps.length ≤ 1000000) : Calls Try.prog 24 #[.agg #[.int .i64 D, v1]] W (LG W (Lab.turn 0 2 D) (Lab.tn 0 2 D ps)) :=
  (rest_any v1 ps D W (by omega) (r1.reads (Nat.le_refl _)) (pos_of o1)).mono fun e w' ⟨v, cs, h1, h2, h3, h4⟩ => lg_of_gives ⟨v, h1, h3 _ (Lab.turn_tn o1 h2).symm, h4⟩
theorem rleq_c (r : Bool) (o1 : Lab.Ok D ps) (o2 : Lab.Ok E qs) (r1 : RC W.heap.size W v1 ps) (r2 : RC W.heap.size W v2 qs) (hn : ps.length + qs.length ≤ 1000000) (hr : r = true ↔ ∀ c, Lab.at' D ps c ≤ Lab.at' E qs c) :
    Calls Try.prog 23 #[.agg #[.int .i64 D, v1], .agg #[.int .i64 E, v2]] W fun e w' => e = .returned (.bool r) ∧ Below W.heap.size W w' :=
  (leq_any v1 v2 ps qs D E W (by omega) (r1.reads (Nat.le_refl _)) (r2.reads (Nat.le_refl _)) (pos_both o1 o2)).mono fun e w' ⟨cs, h2, h1, h4⟩ => by
    have e1 : Lab.leq cs D ps E qs = r := Bool.eq_iff_iff.2 ((Lab.leq_is o1 o2 h2).trans hr.symm)
    rw [e1] at h1
    exact ⟨h1, h4⟩
end
end Go.Proofs.Ytmadldgajjgbmaa
-- with Ud
namespace Go.Proofs.Ytmadldgajjgbmaa
open Go.RowKit
set_option linter.unusedVariables false
set_option linter.unusedSimpArgs false

/-- A variable of the law's own that holds a label. -/
def Lbl (w : World) (A : Nat) (D : Int) (v : Value) (ps : List (Nat × Int)) : Prop := w.heap[A]? = some (Obj.cells #[.int .i64 D, v] 41) ∧ RC w.heap.size w v ps
theorem Lbl.below {w w' : World} {A : Nat} {D : Int} {v : Value} {ps : List (Nat × Int)} (h : Lbl w A D v ps) (hb : Below w.heap.size w w') : Lbl w' A D v ps :=
  ⟨by rw [hb.block _ (Array.getElem?_eq_some_iff.1 h.1).1]; exact h.1, (h.2.below hb).mono hb.size⟩
theorem Lbl.cells {w : World} {A : Nat} {D : Int} {v : Value} {ps : List (Nat × Int)} (h : Lbl w A D v ps) : w.cell? ⟨A, 0, none⟩ = some (.int .i64 D) ∧ w.cell? ⟨A, 1, none⟩ = some v := cells2 h.1
theorem RC.form {n₀ : Nat} {w : World} {v : Value} {ps : List (Nat × Int)} (h : RC n₀ w v ps) : ∃ a n c, v = .slice a n c := by
  rcases h with ⟨rfl, _⟩ | ⟨b, off, cap, rfl, _⟩
  · exact ⟨_, _, _, rfl⟩
  · exact ⟨_, _, _, rfl⟩
end Go.Proofs.Ytmadldgajjgbmaa
-- with Ue
namespace Go.Proofs.Ytmadldgajjgbmaa
open Go.RowKit
set_option linter.unusedVariables false
set_option linter.unusedSimpArgs false

section
variable {D E F : Int} {ps qs rs : List (Nat × Int)} (o1 : Lab.Ok D ps) (o2 : Lab.Ok E qs) (o3 : Lab.Ok F rs)
include o1 o2
include o3
end
end Go.Proofs.Ytmadldgajjgbmaa
-- with Ug
namespace Go.Proofs.Ytmadldgajjgbmaa
open Go.RowKit
set_option linter.unusedVariables false
set_option linter.unusedSimpArgs false

/-- A list of categories, as it is read. -/
def OR (w : World) (a : Option Addr) (cs : List Nat) : Prop := ∀ k x, cs[k]? = some x → ∃ bc oc, a = some ⟨bc, oc, none⟩ ∧ bc < w.heap.size ∧ w.cell? ⟨bc, oc + k, none⟩ = some (.int .u32 (x : Nat))
theorem OR.below {w w' : World} {a : Option Addr} {cs : List Nat} (h : OR w a cs) (hb : Below w.heap.size w w') : OR w' a cs := fun k x hk => by
  obtain ⟨bc, oc, h1, h2, h3⟩ := h k x hk
  exact ⟨bc, oc, h1, Nat.lt_of_lt_of_le h2 hb.size, by rw [hb.cell (p := ⟨bc, _, none⟩) h2]; exact h3⟩
/-- What Owns gives, as it is read. -/
def OG (W : World) (cs : List Nat) (e : Ending) (w' : World) : Prop := ∃ a c, e = .returned (.slice a cs.length c) ∧ OR w' a cs ∧ Below W.heap.size W w'
theorem og_of {W w' : World} {v : Value} {cs : List Nat} {e : Ending} (h1 : e = .returned v) (h2 : w'.ownsRow (W.heap.size + 1) 78 1 v cs.length (U cs)) (h3 : Below W.heap.size W w') (hn : cs.length ≤ 1000000) : OG W cs e w' := by
  rcases readsV_of_owns h2 (by omega) with ⟨rfl, hc⟩ | ⟨bc, oc, cc, rfl, hbc, _, hcc⟩
  · have : cs = [] := by simpa [U] using hc
    subst this
    exact ⟨none, 0, h1, fun k x hk => by simp at hk, h3⟩
  · exact ⟨some ⟨bc, oc, none⟩, cc, by simpa [U] using h1, fun k x hk => ⟨bc, oc, rfl, hbc, hcc k _ (by unfold U; rw [List.getElem?_map, hk]; rfl)⟩, h3⟩
theorem Lab.owns_le (ps : List (Nat × Int)) : (Lab.owns ps).length ≤ ps.length := by have := Lab.owns_len ps ps.length; rwa [List.take_length] at this
theorem owns_c {D : Int} {v1 : Value} {ps : List (Nat × Int)} {W : World} (r1 : RC W.heap.size W v1 ps) (hn : ps.length ≤ 1000000) : Calls Try.prog 66 #[.agg #[.int .i64 D, v1]] W (OG W (Lab.owns ps)) :=
  (powns_any v1 ps D W (r1.reads (Nat.le_refl _)) (by omega)).mono fun e w' ⟨v, h1, h2, h3⟩ => og_of h1 h2 h3 (by have := Lab.owns_le ps; omega)
theorem rowns_c {D : Int} {v1 : Value} {ps : List (Nat × Int)} {W : World} (r1 : RC W.heap.size W v1 ps) (hn : ps.length ≤ 1000000) : Calls Try.prog 21 #[.agg #[.int .i64 D, v1]] W (OG W (Lab.owns ps)) :=
  (owns_any v1 ps D W (r1.reads (Nat.le_refl _)) (by omega)).mono fun e w' ⟨v, h1, h2, h3⟩ => og_of h1 h2 h3 (by have := Lab.owns_le ps; omega)
end Go.Proofs.Ytmadldgajjgbmaa
-- with Qa
set_option linter.unusedVariables false
set_option linter.unusedSimpArgs false
namespace Go.Proofs.Ytmadldgajjgbmaa
open Go.RowKit
set_option linter.unusedVariables false
set_option linter.unusedSimpArgs false
abbrev LP := List (Nat × Int)
/-- Each level is at most the other's. -/
def Le (D : Int) (P : LP) (E : Int) (Q : LP) : Prop := ∀ c, Lab.at' D P c ≤ Lab.at' E Q c
def lq (D : Int) (P : LP) (E : Int) (Q : LP) : Bool := decide (D ≤ E) && (P ++ Q).all fun p => decide (Lab.at' D P p.1 ≤ Lab.at' E Q p.1)
theorem above_all : ∀ l : LP, ∃ c : Nat, ∀ p ∈ l, p.1 < c
  | [] => ⟨0, fun p h => by cases h⟩
  | q :: r => by
    obtain ⟨c, hc⟩ := above_all r
    refine ⟨max c (q.1 + 1), fun p hp => ?_⟩
    rcases List.mem_cons.1 hp with rfl | hp
    · omega
    · have := hc p hp; omega
theorem lq_iff {D E : Int} {P Q : LP} : lq D P E Q = true ↔ Le D P E Q := by
  unfold lq Le
  rw [Bool.and_eq_true, List.all_eq_true, decide_eq_true_iff]
  simp only [decide_eq_true_iff]
  constructor
  · rintro ⟨h1, h2⟩ c
    by_cases h : ∃ p ∈ P ++ Q, p.1 = c
    · obtain ⟨p, hp, rfl⟩ := h
      exact h2 p hp
    · have hP : Lab.at' D P c = D := Lab.at_out fun p hp e => h ⟨p, List.mem_append.2 (.inl hp), e⟩
      have hQ : Lab.at' E Q c = E := Lab.at_out fun p hp e => h ⟨p, List.mem_append.2 (.inr hp), e⟩
      rw [hP, hQ]; exact h1
  · intro h
    refine ⟨?_, fun p _ => h p.1⟩
    obtain ⟨c, hc⟩ := above_all (P ++ Q)
    have := h c
    rwa [Lab.at_out fun p hp e => by have := hc p (List.mem_append.2 (.inl hp)); omega, Lab.at_out fun p hp e => by have := hc p (List.mem_append.2 (.inr hp)); omega] at this
def pl (P : LP) : Bool := decide ((Lab.owns P).length = 0)
def cl (D : Int) (P : LP) (E : Int) (Q : LP) (F : Int) (R : LP) : Bool := Lab.right F R && (lq D P F R && lq F R (max E (Lab.turn 0 5 D)) (Lab.jn E Q (Lab.turn 0 5 D) (Lab.tn 0 5 D P)))
def lsD (D E : Int) : Int := Lab.turn 5 0 (max (Lab.turn 0 5 D) (Lab.turn 0 5 E))
def lsP (D : Int) (P : LP) (E : Int) (Q : LP) : LP := Lab.tn 5 0 (max (Lab.turn 0 5 D) (Lab.turn 0 5 E)) (Lab.jn (Lab.turn 0 5 D) (Lab.tn 0 5 D P) (Lab.turn 0 5 E) (Lab.tn 0 5 E Q))
/-- Enter: t (D P, E Q), its home (H J), the gate (A B, C N), what is wanted (F R, G S). -/
def en (D : Int) (P : LP) (E : Int) (Q : LP) (H : Int) (J : LP) (A : Int) (B : LP) (C : Int) (N : LP) (F : Int) (R : LP) (G : Int) (S : LP) : Bool :=
  lq D P C N && (lq (lsD D A) (lsP D P A B) F R && lq F R G S && lq G S (max E C) (Lab.jn E Q C N)) && lq H J (Lab.turn 0 2 F) (Lab.tn 0 2 F R)
def fr (D : Int) (P : LP) (E : Int) (Q : LP) (c : Nat) : Bool := Lab.right D (Lab.put D P c 0) && Lab.right E (Lab.put E Q c 4)
/-- A label that may be, of at most k pairs, its slice in a world's memory. -/
def LA (k : Nat) (W : World) (D : Int) (a : Option Addr) (n c : Nat) (P : LP) : Prop := Lab.Ok D P ∧ P.length ≤ k ∧ RC W.heap.size W (.slice a n c) P
section
variable {k k1 k2 : Nat} {W W' : World} {D E : Int} {a b : Option Addr} {n c m d : Nat} {P Q : LP}
theorem LA.below (h : LA k W D a n c P) (hb : Below W.heap.size W W') : LA k W' D a n c P := ⟨h.1, h.2.1, (h.2.2.below hb).mono hb.size⟩
theorem LA.mono (h : LA k1 W D a n c P) (hk : k1 ≤ k2) : LA k2 W D a n c P := ⟨h.1, by have := h.2.1; omega, h.2.2⟩
/-- A call's Bool. -/
def BB (W : World) (r : Bool) (e : Ending) (w' : World) : Prop := e = .returned (.bool r) ∧ Below W.heap.size W w'
/-- A label that may be, of at most k pairs, its slice in memory laid since B. -/
def LO (k B : Nat) (w : World) (D : Int) (a : Option Addr) (n c : Nat) (P : LP) : Prop := Lab.Ok D P ∧ (P.length ≤ k ∧ k ≤ 1000000) ∧ w.ownsRow B 80 2 (.slice a n c) P.length (F P)
theorem LO.la {B : Nat} (h : LO k B W D a n c P) : LA k W D a n c P := ⟨h.1, h.2.1.1, rc_of_owns h.2.2 (by have := h.2.1; omega)⟩
theorem LO.below {B : Nat} (h : LO k B W D a n c P) (hb : Below W.heap.size W W') : LO k B W' D a n c P := ⟨h.1, h.2.1, owns_below h.2.2 hb⟩
theorem LO.set {B A i : Nat} {cs : Array Value} {T : TypeId} (z : Value) (h : LO k B W D a n c P) (hA : W.heap[A]? = some (Obj.cells cs T)) (hT : T ≠ 80) : LO k B (W.setCell ⟨A, i, none⟩ z) D a n c P :=
  ⟨h.1, h.2.1, owns_set h.2.2 _ _ (fun e => by
    rcases h.2.2.2 with ⟨hv, _⟩ | ⟨g, cap, cur, hv, _, hg, _⟩
    · rw [hv] at e; simp [Value.ownBlock] at e
    · rw [hv] at e
      obtain rfl : A = g := by simpa [Value.ownBlock] using e
      rw [hA] at hg
      simp at hg
      exact hT hg.2)⟩
/-- A call's label. -/
def LM (k : Nat) (W : World) (D : Int) (P : LP) (e : Ending) (w' : World) : Prop := ∃ a n c, e = .returned (.agg #[.int .i64 D, .slice a n c]) ∧ LO k W.heap.size w' D a n c P ∧ Below W.heap.size W w'
theorem lm_of {f : Nat} {args : Array Value} (h : Calls Try.prog f args W (LG W D P)) (o : Lab.Ok D P) (hk : P.length ≤ k) (hk2 : k ≤ 1000000) : Calls Try.prog f args W (LM k W D P) :=
  h.mono fun e w' ⟨a, n, c, h1, h2, h3⟩ => ⟨a, n, c, h1, ⟨o, ⟨hk, hk2⟩, h2⟩, h3⟩
theorem leq_m (h1 : LA k1 W D a n c P) (h2 : LA k2 W E b m d Q) (hk1 : k1 ≤ 1000) (hk2 : k2 ≤ 1000) : Calls Try.prog 53 #[.agg #[.int .i64 D, .slice a n c], .agg #[.int .i64 E, .slice b m d]] W (BB W (lq D P E Q)) :=
  (pleq_any D E _ _ P Q W h1.1 h2.1 h1.2.2 h2.2.2 _ lq_iff).mono fun e w' h => h
theorem rleq_m (h1 : LA k1 W D a n c P) (h2 : LA k2 W E b m d Q) (hk1 : k1 ≤ 1000) (hk2 : k2 ≤ 1000) : Calls Try.prog 23 #[.agg #[.int .i64 D, .slice a n c], .agg #[.int .i64 E, .slice b m d]] W (BB W (lq D P E Q)) :=
  (rleq_c (lq D P E Q) h1.1 h2.1 h1.2.2 h2.2.2 (by have := h1.2.1; have := h2.2.1; omega) lq_iff).mono fun e w' h => h
theorem right_m (h1 : LA k1 W D a n c P) : Calls Try.prog 52 #[.agg #[.int .i64 D, .slice a n c]] W (BB W (Lab.right D P)) :=
  pright_any _ P D W (h1.2.2.reads (Nat.le_refl _))
theorem rright_m (h1 : LA k1 W D a n c P) : Calls Try.prog 22 #[.agg #[.int .i64 D, .slice a n c]] W (BB W (Lab.right D P)) :=
  right_any _ P D W (h1.2.2.reads (Nat.le_refl _))
theorem ysame_m (h1 : LA k1 W D a n c P) (h2 : LA k2 W E b m d Q) : Calls Try.prog 15 #[.agg #[.int .i64 D, .slice a n c], .agg #[.int .i64 E, .slice b m d]] W (BB W (decide (D = E ∧ P = Q))) :=
  same_any _ _ P Q D E W (h1.2.2.reads (Nat.le_refl _)) (h2.2.2.reads (Nat.le_refl _))
theorem rest_m (h1 : LA k1 W D a n c P) (hk1 : k1 ≤ 1000) : Calls Try.prog 54 #[.agg #[.int .i64 D, .slice a n c]] W (LM (k1 + k1) W (Lab.turn 0 2 D) (Lab.tn 0 2 D P)) :=
  lm_of (rest_c h1.2.2 (by have := h1.2.1; omega)) (Lab.tn_ok h1.1) (by have := h1.2.1; have := Lab.tn_len 0 2 D P; omega) (by omega)
theorem rrest_m (h1 : LA k1 W D a n c P) (hk1 : k1 ≤ 1000) : Calls Try.prog 24 #[.agg #[.int .i64 D, .slice a n c]] W (LM (k1 + k1) W (Lab.turn 0 2 D) (Lab.tn 0 2 D P)) :=
  lm_of (rrest_c h1.1 h1.2.2 (by have := h1.2.1; omega)) (Lab.tn_ok h1.1) (by have := h1.2.1; have := Lab.tn_len 0 2 D P; omega) (by omega)
theorem owns_m (h1 : LA k1 W D a n c P) (hk1 : k1 ≤ 1000) : Calls Try.prog 66 #[.agg #[.int .i64 D, .slice a n c]] W (OG W (Lab.owns P)) := owns_c h1.2.2 (by have := h1.2.1; omega)
theorem rowns_m (h1 : LA k1 W D a n c P) (hk1 : k1 ≤ 1000) : Calls Try.prog 21 #[.agg #[.int .i64 D, .slice a n c]] W (OG W (Lab.owns P)) := rowns_c h1.2.2 (by have := h1.2.1; omega)
end
end Go.Proofs.Ytmadldgajjgbmaa
