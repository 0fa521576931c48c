import Derived.Test.YtmbdglhihakkjaaRn
namespace Go.Proofs.Ytmbdglhihakkjaa
open Go.RowKit
set_option linter.unusedVariables false
set_option linter.unusedSimpArgs false

set_option maxRecDepth 100000 in
set_option maxHeartbeats 6400000 in
theorem right_some (b off cap : Nat) (ps : List (Nat × Int)) (D : Int) (w : World) (hn : ps.length ≤ 140737488351232) (hb : b < w.heap.size)
   (hc : ∀ i p, ps[i]? = some p → w.cell? ⟨b, off + i * 2, none⟩ = some (.int .u32 p.1) ∧ w.cell? ⟨b, off + i * 2 + 1, none⟩ = some (.int .i64 p.2)) :
    Calls Try.prog 54 #[.agg #[.int .i64 D, .slice (some ⟨b, off, none⟩) ps.length cap]] w fun e w' => e = .returned (.bool (Lab.right D ps)) ∧ Below w.heap.size w w' := by
  have HC := Lib.hid hc
  clear hc
  obtain ⟨n, en⟩ : ∃ n, ps.length = n := ⟨_, rfl⟩
  have hr0 : Lab.right D ps = Lab.okTo D ps n := by rw [← en]; rfl
  have h00 : Lab.okTo D ps 0 = (decide (1 ≤ D) && decide (D ≤ 4) && decide (n ≤ 12)) := by rw [← en]; rfl
  have HR := Lib.hid hr0
  have H00 := Lib.hid h00
  rw [en] at hn ⊢
  have EN := Lib.hid en
  clear en hr0 h00
  go_enter Try.func54, Try.ntmps54
  go_upto_region 1 with fail
  obtain ⟨W0, eW⟩ : ∃ W0, W0 = w.alloc (Obj.cells #[Value.int .i64 D, .slice (some ⟨b, off, none⟩) n cap] 29) := ⟨_, rfl⟩
  have hW : Below w.heap.size w W0 ∧ W0.heap.size = w.heap.size + 1 ∧ W0.heap[w.heap.size]? = some (Obj.cells #[Value.int .i64 D, .slice (some ⟨b, off, none⟩) n cap] 29) := by
    rw [eW]; exact ⟨(Below.refl _ _).alloc (Nat.le_refl _) _, by simp, heap_alloc_new w _⟩
  have HW := Lib.hid hW
  rw [← eW]
  have d0 : W0.cell? ⟨w.heap.size, 0, none⟩ = some (.int .i64 D) := by rw [cell_of_row _ _ 0 _ 29 (0, 0) hW.2.2]; rfl
  have d1 : W0.cell? ⟨w.heap.size, 1, none⟩ = some (.slice (some ⟨b, off, none⟩) n cap) := by rw [cell_of_row _ _ 1 _ 29 (0, 0) hW.2.2]; rfl
  clear hW eW
  go_cut [3] (fun s3 wx => W0 = wx ∧ ∃ ok : Bool, Hid (ok = Lab.okTo D ps 0) ∧ s3 = .bool ok)
  case first =>
    by_cases h1 : 1 ≤ D
    · by_cases h2 : D ≤ 4
      · by_cases h3 : n ≤ 12
        · have hv := Lib.hid (show true = Lab.okTo D ps 0 by rw [H00.out]; simp [h1, h2, h3])
          have h3' : (n : Int) ≤ 12 := by omega
          go_wp2_with fail
          go_meet
          exact ⟨rfl, _, hv, rfl⟩
        · have hv := Lib.hid (show false = Lab.okTo D ps 0 by rw [H00.out]; simp [h1, h2, h3])
          have h3' : ¬ (n : Int) ≤ 12 := by omega
          go_wp2_with fail
          go_meet
          exact ⟨rfl, _, hv, rfl⟩
      · have hv := Lib.hid (show false = Lab.okTo D ps 0 by rw [H00.out]; simp [h1, h2])
        go_wp2_with fail
        go_meet
        exact ⟨rfl, _, hv, rfl⟩
    · have hv := Lib.hid (show false = Lab.okTo D ps 0 by rw [H00.out]; simp [h1])
      go_wp2_with fail
      go_meet
      exact ⟨rfl, _, hv, rfl⟩
  case rest =>
    obtain ⟨rfl, ok, hok, rfl⟩ := hcut
    go_wp2_with fail
    go_loopg [3, 4] n (fun g s3 s4 wr => ∃ (k : Nat) (ok : Bool), k ≤ n ∧ Hid (g = n - k) ∧ Hid (ok = Lab.okTo D ps k) ∧ s3 = .bool ok ∧ s4 = .int .i64 k ∧ Hid (Below (w.heap.size + 1) W0 wr))
    case atStart => exact ⟨0, ok, by omega, Lib.hid (by omega), hok, rfl, rfl, Lib.hid (Below.refl _ _)⟩
    case round =>
      obtain ⟨k, ok, hk, hg, hok, rfl, rfl, hbel⟩ := hrel
      have c0 : wr.cell? ⟨w.heap.size, 0, none⟩ = some (.int .i64 D) := by rw [hbel.out.cell (p := ⟨_, _, none⟩) (by simp)]; exact d0
      have c1 : wr.cell? ⟨w.heap.size, 1, none⟩ = some (.slice (some ⟨b, off, none⟩) n cap) := by rw [hbel.out.cell (p := ⟨_, _, none⟩) (by simp)]; exact d1
      have hsz : w.heap.size + 1 ≤ wr.heap.size := by have := hbel.out.size; have := HW.out.2.1; omega
      have hcell : ∀ i p, ps[i]? = some p → wr.cell? ⟨b, off + i * 2, none⟩ = some (.int .u32 p.1) ∧ wr.cell? ⟨b, off + i * 2 + 1, none⟩ = some (.int .i64 p.2) := by
        intro i p hp
        have h2 : Below w.heap.size w wr := HW.out.1.trans (hbel.out.mono (by omega))
        rw [h2.cell (p := ⟨b, _, none⟩) hb, h2.cell (p := ⟨b, _, none⟩) hb]
        exact HC.out i p hp
      by_cases hlt : k < n
      · obtain ⟨⟨c, l⟩, hp⟩ : ∃ p, ps[k]? = some p := ⟨_, List.getElem?_eq_getElem (by rw [EN.out]; exact hlt)⟩
        obtain ⟨x1, x2⟩ := hcell k (c, l) hp
        have hB2 := hbel.out.alloc (B := w.heap.size + 1) hsz (Obj.cells #[Value.int .u32 (c : Int), Value.int .i64 l] 61)
        go_upto_region 6 with fail
        obtain ⟨W2, eW2⟩ : ∃ W2, W2 = wr.alloc (Obj.cells #[Value.int .u32 (c : Int), Value.int .i64 l] 61) := ⟨_, rfl⟩
        rw [← eW2] at hB2 ⊢
        have hB3 : Below w.heap.size w W2 := HW.out.1.trans (hB2.mono (by omega))
        have hnew := heap_alloc_new wr (Obj.cells #[Value.int .u32 (c : Int), Value.int .i64 l] 61)
        rw [← eW2] at hnew
        have z0 : W2.cell? ⟨wr.heap.size, 0, none⟩ = some (.int .u32 (c : Int)) := by rw [cell_of_row _ _ 0 _ 61 (0, 0) hnew]; rfl
        have z1 : W2.cell? ⟨wr.heap.size, 1, none⟩ = some (.int .i64 l) := by rw [cell_of_row _ _ 1 _ 61 (0, 0) hnew]; rfl
        have b0 : W2.cell? ⟨w.heap.size, 0, none⟩ = some (.int .i64 D) := by rw [hB2.cell (p := ⟨_, _, none⟩) (by simp)]; exact d0
        have b1 : W2.cell? ⟨w.heap.size, 1, none⟩ = some (.slice (some ⟨b, off, none⟩) n cap) := by rw [hB2.cell (p := ⟨_, _, none⟩) (by simp)]; exact d1
        have HB2 := Lib.hid hB2
        have HB3 := Lib.hid hB3
        clear hB2 hB3 hnew eW2 hcell x1 x2 c0 c1
        have hstep := Lib.hid (Lab.okTo_step (D := D) hp)
        cases ok
        · have hv := Lib.hid (show Lab.okTo D ps (k + 1) = false by rw [hstep.out, ← hok.out]; simp [Lab.goodP])
          go_wp2_with fail
          go_quiet (fail)
          go_wp2_with fail
          go_roundg (n - (k + 1))
          case measure => rw [hg.out]; omega
          case rel => exact ⟨k + 1, false, by omega, Lib.hid rfl, Lib.hid hv.out.symm, rfl, by go_num, Lib.hid (below_drewN HB2.out _)⟩
        · by_cases h1 : 1 ≤ c
          · have h1i : (1 : Int) ≤ (c : Int) := by omega
            by_cases h2 : c ≤ 1073741824
            · have h2i : (c : Int) ≤ 1073741824 := by omega
              by_cases h3 : 0 ≤ l
              · by_cases h4 : l ≤ 4
                · by_cases h5 : l = D
                  · have h5b : (l != D) = false := by simp [h5]
                    have hv := Lib.hid (show Lab.okTo D ps (k + 1) = false by rw [hstep.out, ← hok.out]; simp [Lab.goodP, h5])
                    go_wp2_with fail
                    go_quiet (fail)
                    go_wp2_with fail
                    go_roundg (n - (k + 1))
                    case measure => rw [hg.out]; omega
                    case rel => exact ⟨k + 1, false, by omega, Lib.hid rfl, Lib.hid hv.out.symm, rfl, by go_num, Lib.hid (below_drewN HB2.out _)⟩
                  · have h5b : (l != D) = true := by simp [h5]
                    by_cases k0' : k = 0
                    · have k0 : ((k : Int) == 0) = true := by rw [beq_iff_eq]; omega
                      have hrise : Lab.risesAt ps (c, l) k = true := by rw [k0']; rfl
                      have hv := Lib.hid (show Lab.okTo D ps (k + 1) = true by rw [hstep.out, ← hok.out]; simp [Lab.goodP, h1, h2, h3, h4, h5, hrise])
                      clear hrise k0'
                      go_wp2_with fail
                      go_quiet (fail)
                      go_wp2_with fail
                      go_roundg (n - (k + 1))
                      case measure => rw [hg.out]; omega
                      case rel => exact ⟨k + 1, true, by omega, Lib.hid rfl, Lib.hid hv.out.symm, rfl, by go_num, Lib.hid (below_drewN HB2.out _)⟩
                    · obtain ⟨j, ej⟩ : ∃ j, k = j + 1 := ⟨k - 1, by omega⟩
                      obtain ⟨⟨q, ql⟩, hq⟩ : ∃ q, ps[j]? = some q := ⟨_, List.getElem?_eq_getElem (by rw [EN.out]; omega)⟩
                      have y1 : W2.cell? ⟨b, off + j * 2, none⟩ = some (.int .u32 q) := by rw [HB3.out.cell (p := ⟨b, _, none⟩) hb]; exact (HC.out j (q, ql) hq).1
                      have k0 : ((k : Int) == 0) = false := by rw [beq_eq_false_iff_ne]; omega
                      have hw : IntKind.i64.wrap ((k : Int) - 1) = (j : Int) := by rw [show (k : Int) - 1 = (j : Int) from by omega]; exact IntWalk.i64_in _ (by omega)
                      have hjn : (j : Int) < (n : Int) := by omega
                      have hrise : Lab.risesAt ps (c, l) k = decide (q < c) := by rw [ej]; show (match ps[j]? with | none => true | some q => decide (q.1 < c)) = _; rw [hq]
                      by_cases h6 : q < c
                      · have hv := Lib.hid (show Lab.okTo D ps (k + 1) = true by rw [hstep.out, ← hok.out]; simp [Lab.goodP, h1, h2, h3, h4, h5, hrise, h6])
                        clear hrise hq ej k0'
                        go_wp2_with fail
                        go_quiet (fail)
                        go_wp2_with fail
                        go_roundg (n - (k + 1))
                        case measure => rw [hg.out]; omega
                        case rel => exact ⟨k + 1, true, by omega, Lib.hid rfl, Lib.hid hv.out.symm, rfl, by go_num, Lib.hid (below_drewN HB2.out _)⟩
                      · have hv := Lib.hid (show Lab.okTo D ps (k + 1) = false by rw [hstep.out, ← hok.out]; simp [Lab.goodP, hrise, h6])
                        clear hrise hq ej k0'
                        go_wp2_with fail
                        go_quiet (fail)
                        go_wp2_with fail
                        go_roundg (n - (k + 1))
                        case measure => rw [hg.out]; omega
                        case rel => exact ⟨k + 1, false, by omega, Lib.hid rfl, Lib.hid hv.out.symm, rfl, by go_num, Lib.hid (below_drewN HB2.out _)⟩
                · have hv := Lib.hid (show Lab.okTo D ps (k + 1) = false by rw [hstep.out, ← hok.out]; simp [Lab.goodP, h4])
                  go_wp2_with fail
                  go_quiet (fail)
                  go_wp2_with fail
                  go_roundg (n - (k + 1))
                  case measure => rw [hg.out]; omega
                  case rel => exact ⟨k + 1, false, by omega, Lib.hid rfl, Lib.hid hv.out.symm, rfl, by go_num, Lib.hid (below_drewN HB2.out _)⟩
              · have hv := Lib.hid (show Lab.okTo D ps (k + 1) = false by rw [hstep.out, ← hok.out]; simp [Lab.goodP, h3])
                go_wp2_with fail
                go_quiet (fail)
                go_wp2_with fail
                go_roundg (n - (k + 1))
                case measure => rw [hg.out]; omega
                case rel => exact ⟨k + 1, false, by omega, Lib.hid rfl, Lib.hid hv.out.symm, rfl, by go_num, Lib.hid (below_drewN HB2.out _)⟩
            · have h2i : ¬ (c : Int) ≤ 1073741824 := by omega
              have hv := Lib.hid (show Lab.okTo D ps (k + 1) = false by rw [hstep.out, ← hok.out]; simp [Lab.goodP, h2])
              go_wp2_with fail
              go_quiet (fail)
              go_wp2_with fail
              go_roundg (n - (k + 1))
              case measure => rw [hg.out]; omega
              case rel => exact ⟨k + 1, false, by omega, Lib.hid rfl, Lib.hid hv.out.symm, rfl, by go_num, Lib.hid (below_drewN HB2.out _)⟩
          · have h1i : ¬ (1 : Int) ≤ (c : Int) := by omega
            have hv := Lib.hid (show Lab.okTo D ps (k + 1) = false by rw [hstep.out, ← hok.out]; simp [Lab.goodP, h1])
            go_wp2_with fail
            go_quiet (fail)
            go_wp2_with fail
            go_roundg (n - (k + 1))
            case measure => rw [hg.out]; omega
            case rel => exact ⟨k + 1, false, by omega, Lib.hid rfl, Lib.hid hv.out.symm, rfl, by go_num, Lib.hid (below_drewN HB2.out _)⟩
      · have hkn : k = n := by omega
        subst hkn
        clear hcell
        have hv := Lib.hid (show Lab.right D ps = ok by rw [HR.out]; exact hok.out.symm)
        go_wp2
        go_ret
        exact ⟨by rw [hv.out]; rfl, HW.out.1.trans (hbel.out.mono (by omega))⟩
theorem right_empty (D : Int) (a0 : Option Addr) (c0 : Nat) (w : World) : Calls Try.prog 54 #[.agg #[.int .i64 D, .slice a0 0 c0]] w fun e w' => e = .returned (.bool (Lab.right D [])) ∧ Below w.heap.size w w' := by
  by_cases h1 : 1 ≤ D
  · by_cases h2 : D ≤ 4
    · have hv := Lib.hid (show Lab.right D [] = true by simp [Lab.right, Lab.okTo, h1, h2])
      go_enter Try.func54, Try.ntmps54
      go_wp2
      go_loop [3, 4] (fun s3 i => s3 = .bool true ∧ i = .int .i64 0) (fun s3 i => 0)
      case atStart => exact ⟨rfl, rfl⟩
      case round =>
        obtain ⟨rfl, rfl⟩ := hrel
        go_wp2
        go_ret
        exact ⟨by rw [hv.out]; rfl, (Below.refl _ _).alloc (Nat.le_refl _) _⟩
    · have hv := Lib.hid (show Lab.right D [] = false by simp [Lab.right, Lab.okTo, h1, h2])
      go_enter Try.func54, Try.ntmps54
      go_wp2
      go_loop [3, 4] (fun s3 i => s3 = .bool false ∧ i = .int .i64 0) (fun s3 i => 0)
      case atStart => exact ⟨rfl, rfl⟩
      case round =>
        obtain ⟨rfl, rfl⟩ := hrel
        go_wp2
        go_ret
        exact ⟨by rw [hv.out]; rfl, (Below.refl _ _).alloc (Nat.le_refl _) _⟩
  · have hv := Lib.hid (show Lab.right D [] = false by simp [Lab.right, Lab.okTo, h1])
    go_enter Try.func54, Try.ntmps54
    go_wp2
    go_loop [3, 4] (fun s3 i => s3 = .bool false ∧ i = .int .i64 0) (fun s3 i => 0)
    case atStart => exact ⟨rfl, rfl⟩
    case round =>
      obtain ⟨rfl, rfl⟩ := hrel
      go_wp2
      go_ret
      exact ⟨by rw [hv.out]; rfl, (Below.refl _ _).alloc (Nat.le_refl _) _⟩
theorem right_any (v : Value) (ps : List (Nat × Int)) (D : Int) (w : World) (h : Reads w v ps) :
    Calls Try.prog 54 #[.agg #[.int .i64 D, v]] w fun e w' => e = .returned (.bool (Lab.right D ps)) ∧ Below w.heap.size w w' := by
  rcases h with ⟨rfl, rfl⟩ | ⟨b, off, cap, rfl, h2, h3, h4⟩
  · exact right_empty D _ _ w
  · exact right_some b off cap ps D w h3 h2 h4
end Go.Proofs.Ytmbdglhihakkjaa
