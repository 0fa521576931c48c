import Derived.Test.YtjmfjehjlnghmaaSe
import Derived.Test.YtjmfjehjlnghmaaRc
namespace Lab
/-- The category ahead of a place; 0 ahead of the first. -/
def lastOf (ps : List (Nat × Int)) : Nat → Nat
  | 0 => 0
  | j + 1 => match ps[j]? with
    | none => 0
    | some q => q.1
theorem lastOf_succ {ps : List (Nat × Int)} {k : Nat} {p : Nat × Int} (h : ps[k]? = some p) : lastOf ps (k + 1) = p.1 := by
  show (match ps[k]? with | none => 0 | some q => q.1) = p.1
  rw [h]
theorem last_rises {ps : List (Nat × Int)} {k c : Nat} {l : Int} (h : ps[k]? = some (c, l)) : lastOf ps k < c ↔ 1 ≤ c ∧ risesAt ps (c, l) k = true := by
  cases k with
  | zero => show 0 < c ↔ 1 ≤ c ∧ true = true; simp; omega
  | succ j =>
    obtain ⟨hk, _⟩ := List.getElem?_eq_some_iff.1 h
    have hj : ps[j]? = some ps[j] := List.getElem?_eq_getElem (by omega)
    show (match ps[j]? with | none => 0 | some q => q.1) < c ↔ 1 ≤ c ∧ (match ps[j]? with | none => true | some q => decide (q.1 < c)) = true
    rw [hj]; simp; omega
theorem okTo_false {D : Int} {ps : List (Nat × Int)} {k : Nat} (h : okTo D ps k = false) : ∀ m, okTo D ps (k + m) = false
  | 0 => h
  | m + 1 => by show (okTo D ps (k + m) && _) = false; rw [okTo_false h m]; rfl
theorem right_false {D : Int} {ps : List (Nat × Int)} {k : Nat} (h : okTo D ps k = false) (hk : k ≤ ps.length) : right D ps = false := by
  have := okTo_false h (ps.length - k)
  rwa [Nat.add_sub_cancel' hk] at this
theorem okTo_bad {D : Int} {ps : List (Nat × Int)} {k c : Nat} {l : Int} (h : ps[k]? = some (c, l)) (hb : ¬ (lastOf ps k < c ∧ c ≤ 1073741824 ∧ 0 ≤ l ∧ l ≤ 4 ∧ l ≠ D)) : right D ps = false := by
  refine right_false (k := k + 1) ?_ (by have := (List.getElem?_eq_some_iff.1 h).1; omega)
  rw [okTo_step h]
  have hl := last_rises h
  cases hok : okTo D ps k with
  | false => rfl
  | true =>
    cases hg : goodP D (c, l) with
    | false => rfl
    | true =>
      cases hr : risesAt ps (c, l) k with
      | false => rfl
      | true =>
        exfalso; apply hb
        simp [goodP] at hg
        exact ⟨hl.2 ⟨hg.1.1.1.1, hr⟩, hg.1.1.1.2, hg.1.1.2, hg.1.2, hg.2⟩
theorem okTo_good {D : Int} {ps : List (Nat × Int)} {k c : Nat} {l : Int} (h : ps[k]? = some (c, l)) (hok : okTo D ps k = true) (h1 : lastOf ps k < c) (h2 : c ≤ 1073741824) (h3 : 0 ≤ l) (h4 : l ≤ 4) (h5 : l ≠ D) : okTo D ps (k + 1) = true := by
  rw [okTo_step h, hok]
  obtain ⟨a, b⟩ := (last_rises h).1 h1
  simp [goodP, a, b, h2, h3, h4, h5]
end Lab
namespace Go.Proofs.Ytjmfjehjlnghmaa
open Go.RowKit
set_option linter.unusedVariables false
set_option linter.unusedSimpArgs false

set_option maxHeartbeats 2000000 in
theorem pright_some (b off cap : Nat) (ps : List (Nat × Int)) (D : Int) (w : World) (hn : ps.length ≤ 140737488351232) (hb : b < w.heap.size)
   (hc : ∀ i p, ps[i]? = some p → w.cell? ⟨b, off + i * 2, none⟩ = some (.int .u32 p.1) ∧ w.cell? ⟨b, off + i * 2 + 1, none⟩ = some (.int .i64 p.2)) :
    Calls Try.prog 26 #[.agg #[.int .i64 D, .slice (some ⟨b, off, none⟩) ps.length cap]] w fun e w' => e = .returned (.bool (Lab.right D ps)) ∧ Below w.heap.size w w' := by
  have HC := Lib.hid hc
  clear hc
  obtain ⟨n, en⟩ : ∃ n, ps.length = n := ⟨_, rfl⟩
  have hr0 : Lab.right D ps = Lab.okTo D ps n := by rw [← en]; rfl
  have h00 : Lab.okTo D ps 0 = (decide (1 ≤ D) && decide (D ≤ 4) && decide (n ≤ 12)) := by rw [← en]; rfl
  have h0f : Lab.okTo D ps 0 = false → Lab.right D ps = false := fun h => Lab.right_false h (Nat.zero_le _)
  have HR := Lib.hid hr0
  have H00 := Lib.hid h00
  have H0F := Lib.hid h0f
  rw [en] at hn ⊢
  have EN := Lib.hid en
  clear en hr0 h00 h0f
  go_enter Try.func26, Try.ntmps26
  go_upto_region 1 with fail
  obtain ⟨W0, eW⟩ : ∃ W0, W0 = w.alloc (Obj.cells #[Value.int .i64 D, .slice (some ⟨b, off, none⟩) n cap] 31) := ⟨_, rfl⟩
  have hW : Below w.heap.size w W0 ∧ W0.heap.size = w.heap.size + 1 ∧ W0.heap[w.heap.size]? = some (Obj.cells #[Value.int .i64 D, .slice (some ⟨b, off, none⟩) n cap] 31) := by
    rw [eW]; exact ⟨(Below.refl _ _).alloc (Nat.le_refl _) _, by simp, heap_alloc_new w _⟩
  have HW := Lib.hid hW
  rw [← eW]
  have d0 : W0.cell? ⟨w.heap.size, 0, none⟩ = some (.int .i64 D) := by rw [cell_of_row _ _ 0 _ 31 (0, 0) hW.2.2]; rfl
  have d1 : W0.cell? ⟨w.heap.size, 1, none⟩ = some (.slice (some ⟨b, off, none⟩) n cap) := by rw [cell_of_row _ _ 1 _ 31 (0, 0) hW.2.2]; rfl
  clear hW eW
  by_cases h1 : 1 ≤ D
  · have g1 : ¬ D < 1 := by omega
    by_cases h2 : D ≤ 4
    · have g2 : ¬ 4 < D := by omega
      by_cases h3 : n ≤ 12
      · have g3 : ¬ (12 : Int) < (n : Int) := by omega
        have hv := Lib.hid (show Lab.okTo D ps 0 = true by rw [H00.out]; simp [h1, h2, h3])
        go_wp2_with fail
        go_loopg [3, 23] n (fun g s3 s4 wr => ∃ (k : Nat), k ≤ n ∧ Hid (g = n - k) ∧ s3 = .int .u32 (Lab.lastOf ps k : Nat) ∧ s4 = .int .i64 k ∧ Hid (Lab.okTo D ps k = true) ∧ Hid (Below (w.heap.size + 1) W0 wr))
        case atStart => exact ⟨0, by omega, Lib.hid (by omega), rfl, rfl, hv, Lib.hid (Below.refl _ _)⟩
        case round =>
          obtain ⟨k, hk, hg, rfl, rfl, hok, hbel⟩ := hrel
          clear hv
          have c0 : wr.cell? ⟨w.heap.size, 0, none⟩ = some (.int .i64 D) := by rw [hbel.out.cell (p := ⟨_, _, none⟩) (by simp)]; exact d0
          have hsz : w.heap.size + 1 ≤ wr.heap.size := by have := hbel.out.size; have := HW.out.2.1; omega
          have hcell : ∀ i p, ps[i]? = some p → wr.cell? ⟨b, off + i * 2, none⟩ = some (.int .u32 p.1) ∧ wr.cell? ⟨b, off + i * 2 + 1, none⟩ = some (.int .i64 p.2) := by
            intro i p hp
            have h2 : Below w.heap.size w wr := HW.out.1.trans (hbel.out.mono (by omega))
            rw [h2.cell (p := ⟨b, _, none⟩) hb, h2.cell (p := ⟨b, _, none⟩) hb]
            exact HC.out i p hp
          by_cases hlt : k < n
          · obtain ⟨⟨c, l⟩, hp⟩ : ∃ p, ps[k]? = some p := ⟨_, List.getElem?_eq_getElem (by rw [EN.out]; exact hlt)⟩
            obtain ⟨x1, x2⟩ := hcell k (c, l) hp
            have HP := Lib.hid hp
            obtain ⟨L, eL⟩ : ∃ L, Lab.lastOf ps k = L := ⟨_, rfl⟩
            rw [eL]
            have EL := Lib.hid eL
            have hB2 : Below (w.heap.size + 1) W0 (wr.alloc (Obj.cells #[.int .u32 (c : Int), .int .i64 l] 57)) := hbel.out.alloc hsz _
            have k2 := heap_alloc_new wr (Obj.cells #[.int .u32 (c : Int), .int .i64 l] 57)
            have c2 : (wr.alloc (Obj.cells #[.int .u32 (c : Int), .int .i64 l] 57)).cell? ⟨w.heap.size, 0, none⟩ = some (.int .i64 D) := by rw [hB2.cell (p := ⟨_, _, none⟩) (by simp)]; exact d0
            obtain ⟨s0, s1, s2, s3, _⟩ := fresh2 wr 57 (.int .u32 0) (.int .i64 0) (.int .u32 (c : Int)) (.int .i64 l)
            clear hcell hp eL
            go_upto_region 7 with fail
            obtain ⟨W2, eW2⟩ : ∃ W2, W2 = wr.alloc (Obj.cells #[Value.int .u32 (c : Int), Value.int .i64 l] 57) := ⟨_, rfl⟩
            rw [← eW2] at hB2 k2 c2 ⊢
            clear eW2 s0 s1 s2 s3 c0 x1 x2
            have q0 : W2.cell? ⟨wr.heap.size, 0, none⟩ = some (.int .u32 (c : Int)) := by rw [cell_of_row _ _ 0 _ 57 (0, 0) k2]; rfl
            have q1 : W2.cell? ⟨wr.heap.size, 1, none⟩ = some (.int .i64 l) := by rw [cell_of_row _ _ 1 _ 57 (0, 0) k2]; rfl
            have HBE := Lib.hid hB2
            have HF := Lib.hid (HW.out.1.trans (hB2.mono (by omega)))
            clear hB2 k2
            by_cases t1 : L < c
            · have u1 : ¬ (c : Int) ≤ (L : Int) := by omega
              by_cases t2 : c ≤ 1073741824
              · have u2 : ¬ (1073741824 : Int) < (c : Int) := by omega
                by_cases t3 : 0 ≤ l
                · have u3 : ¬ l < 0 := by omega
                  by_cases t4 : l ≤ 4
                  · have u4 : ¬ 4 < l := by omega
                    by_cases t5 : l ≠ D
                    · have u5 : (l == D) = false := by rw [beq_eq_false_iff_ne]; exact t5
                      have hv := Lib.hid (Lab.okTo_good HP.out hok.out (by rw [EL.out]; exact t1) t2 t3 t4 t5)
                      have hl := Lib.hid (Lab.lastOf_succ HP.out)
                      clear t5
                      go_wp2_with fail
                      go_roundg (n - (k + 1))
                      case measure => rw [hg.out]; omega
                      case rel => exact ⟨k + 1, by omega, Lib.hid rfl, by rw [hl.out], by go_num, hv, HBE⟩
                    · have u5 : (l == D) = true := by rw [beq_iff_eq]; omega
                      have hv := Lib.hid (Lab.okTo_bad (D := D) HP.out (by rw [EL.out]; omega))
                      clear t5
                      go_wp2_with fail
                      go_ret
                      exact ⟨by rw [hv.out]; rfl, HF.out⟩
                  · have u4 : 4 < l := by omega
                    have hv := Lib.hid (Lab.okTo_bad (D := D) HP.out (by rw [EL.out]; omega))
                    clear t4
                    go_wp2_with fail
                    go_ret
                    exact ⟨by rw [hv.out]; rfl, HF.out⟩
                · have u3 : l < 0 := by omega
                  have hv := Lib.hid (Lab.okTo_bad (D := D) HP.out (by rw [EL.out]; omega))
                  clear t3
                  go_wp2_with fail
                  go_ret
                  exact ⟨by rw [hv.out]; rfl, HF.out⟩
              · have u2 : (1073741824 : Int) < (c : Int) := by omega
                have hv := Lib.hid (Lab.okTo_bad (D := D) HP.out (by rw [EL.out]; omega))
                clear t2
                go_wp2_with fail
                go_ret
                exact ⟨by rw [hv.out]; rfl, HF.out⟩
            · have u1 : (c : Int) ≤ (L : Int) := by omega
              have hv := Lib.hid (Lab.okTo_bad (D := D) HP.out (by rw [EL.out]; omega))
              clear t1
              go_wp2_with fail
              go_ret
              exact ⟨by rw [hv.out]; rfl, HF.out⟩
          · have hkn : k = n := by omega
            have hv := Lib.hid (show Lab.right D ps = true by rw [HR.out, ← hkn]; exact hok.out)
            have HF := Lib.hid (HW.out.1.trans (hbel.out.mono (by omega)))
            clear hcell
            go_wp2_with fail
            go_ret
            exact ⟨by rw [hv.out]; rfl, HF.out⟩
      · have g3 : (12 : Int) < (n : Int) := by omega
        have hv := Lib.hid (H0F.out (by rw [H00.out]; simp [h1, h2, h3]))
        go_wp2_with fail
        go_ret
        exact ⟨by rw [hv.out]; rfl, HW.out.1⟩
    · have g2 : 4 < D := by omega
      have hv := Lib.hid (H0F.out (by rw [H00.out]; simp [h1, h2]))
      go_wp2_with fail
      go_ret
      exact ⟨by rw [hv.out]; rfl, HW.out.1⟩
  · have g1 : D < 1 := by omega
    have hv := Lib.hid (H0F.out (by rw [H00.out]; simp [h1]))
    go_wp2_with fail
    go_ret
    exact ⟨by rw [hv.out]; rfl, HW.out.1⟩
theorem pright_empty (D : Int) (a0 : Option Addr) (c0 : Nat) (w : World) : Calls Try.prog 26 #[.agg #[.int .i64 D, .slice a0 0 c0]] w fun e w' => e = .returned (.bool (Lab.right D [])) ∧ Below w.heap.size w w' := by
  have HB := Lib.hid (show Below w.heap.size w (w.alloc (Obj.cells #[.int .i64 D, .slice a0 0 c0] 31)) from (Below.refl _ _).alloc (Nat.le_refl _) _)
  by_cases h1 : 1 ≤ D
  · have g1 : ¬ D < 1 := by omega
    by_cases h2 : D ≤ 4
    · have g2 : ¬ 4 < D := by omega
      have hv := Lib.hid (show Lab.right D [] = true by simp [Lab.right, Lab.okTo, h1, h2])
      go_enter Try.func26, Try.ntmps26
      go_wp2_with fail
      go_loopg [23] 0 (fun g i wr => i = .int .i64 0 ∧ wr = w.alloc (Obj.cells #[.int .i64 D, .slice a0 0 c0] 31))
      case atStart => exact ⟨rfl, rfl⟩
      case round =>
        obtain ⟨rfl, rfl⟩ := hrel
        go_wp2_with fail
        go_ret
        exact ⟨by rw [hv.out]; rfl, HB.out⟩
    · have g2 : 4 < D := by omega
      have hv := Lib.hid (show Lab.right D [] = false by simp [Lab.right, Lab.okTo, h1, h2])
      go_enter Try.func26, Try.ntmps26
      go_wp2_with fail
      go_ret
      exact ⟨by rw [hv.out]; rfl, HB.out⟩
  · have g1 : D < 1 := by omega
    have hv := Lib.hid (show Lab.right D [] = false by simp [Lab.right, Lab.okTo, h1])
    go_enter Try.func26, Try.ntmps26
    go_wp2_with fail
    go_ret
    exact ⟨by rw [hv.out]; rfl, HB.out⟩
theorem pright_any (v : Value) (ps : List (Nat × Int)) (D : Int) (w : World) (h : Reads w v ps) :
    Calls Try.prog 26 #[.agg #[.int .i64 D, v]] w fun e w' => e = .returned (.bool (Lab.right D ps)) ∧ Below w.heap.size w w' := by
  rcases h with ⟨rfl, rfl⟩ | ⟨b, off, cap, rfl, h2, h3, h4⟩
  · exact pright_empty D _ _ w
  · exact pright_some b off cap ps D w h3 h2 h4
end Go.Proofs.Ytjmfjehjlnghmaa
