/- Right, Find. -/
import Derived.Test.YtbjegfkjibfadaaMm
set_option linter.unusedVariables false
set_option linter.unusedSimpArgs false
namespace Go.Proofs.Ytbjegfkjibfadaa
open Go.RowKit
set_option linter.unusedVariables false
set_option linter.unusedSimpArgs false
section
variable {w w' : World} {A : Option Addr} {us : List Mp} {i b o : Nat} {m : Mp} {t : TypeId}
/-- The cells of a map. -/
def Five (w : World) (b o : Nat) (m : Mp) : Prop := w.cell? ⟨b, o, none⟩ = some (.int .i64 m.a) ∧ w.cell? ⟨b, o + 1, none⟩ = some (.int .u64 m.s) ∧ w.cell? ⟨b, o + 2, none⟩ = some (.int .i64 m.f) ∧ w.cell? ⟨b, o + 3, none⟩ = some (.int .i64 m.n) ∧ w.cell? ⟨b, o + 4, none⟩ = some (.bool m.w)
theorem LV.five (h : LV 5 encM w A us) (hi : us[i]? = some m) : ∃ b off, A = some ⟨b, off, none⟩ ∧ b < w.heap.size ∧ Five w b (off + i * 5) m := by
  obtain ⟨b, off, h1, h2, h3⟩ := h i m hi
  exact ⟨b, off, h1, h2, h3 0 _ rfl, h3 1 _ rfl, h3 2 _ rfl, h3 3 _ rfl, h3 4 _ rfl⟩
theorem Five.row (h : w.heap[b]? = some (Obj.cells #[.int .i64 m.a, .int .u64 m.s, .int .i64 m.f, .int .i64 m.n, .bool m.w] t)) : Five w b 0 m :=
  ⟨by rw [cell_of_row _ _ 0 _ _ _ h]; rfl, by rw [cell_of_row _ _ 1 _ _ _ h]; rfl, by rw [cell_of_row _ _ 2 _ _ _ h]; rfl, by rw [cell_of_row _ _ 3 _ _ _ h]; rfl, by rw [cell_of_row _ _ 4 _ _ _ h]; rfl⟩
theorem Five.drew (h : Five w b o m) : Five w.drew b o m := h
theorem Five.drewN (h : Five w b o m) (q : Nat) : Five (w.drewN q) b o m := h
theorem Five.below (h : Five w b o m) (hb : Below w.heap.size w w') : Five w' b o m := by
  have hl : b < w.heap.size := World.block_lt_of_cell? w _ h.1
  obtain ⟨h0, h1, h2, h3, h4⟩ := h
  exact ⟨by rw [hb.cell (p := ⟨b, _, none⟩) hl]; exact h0, by rw [hb.cell (p := ⟨b, _, none⟩) hl]; exact h1, by rw [hb.cell (p := ⟨b, _, none⟩) hl]; exact h2, by rw [hb.cell (p := ⟨b, _, none⟩) hl]; exact h3, by rw [hb.cell (p := ⟨b, _, none⟩) hl]; exact h4⟩
end
/-- The block of a map. -/
abbrev blkM (m : Mp) : Obj := Obj.cells #[.int .i64 m.a, .int .u64 m.s, .int .i64 m.f, .int .i64 m.n, .bool m.w] 26
theorem info5 : (Try.prog.info? 26).map (·.size) = some 5 := by kernel_rfl
theorem load5 (w : World) (g : Nat) (t : TypeId) (cs : Array Value) (fr : Nat × Nat) (hg : w.heap[g]? = some (.cells cs t fr)) (hs : cs.size = 5) :
    (loadVar 26 ⟨g, 0, none⟩).run Try.prog w = .ok (.agg cs) w := run_loadVar_row w g t 26 cs fr _ hg Try.underlying26 rfl (by rw [hs]; exact info5)
theorem results_cell5 {fn : Func} {p q : Tmp} (h : fn.results = #[.cell p 26, .tmp q]) (tmps : Array Value) (w : World) (g : Nat) (t : TypeId) (cs : Array Value) (fr : Nat × Nat)
    (hp : tmps.getD p undef = .pointer (some ⟨g, 0, none⟩)) (hg : w.heap[g]? = some (.cells cs t fr)) (hs : cs.size = 5) :
    (results fn tmps).run Try.prog w = .ok (.tuple #[.agg cs, tmps.getD q undef]) w := by
  have hp' : tmps[p]?.getD undef = .pointer (some ⟨g, 0, none⟩) := by simpa using hp
  simp [results, h, hp', asAddr, load5 w g t cs fr hg hs]
/-- Five cells are stored. -/
def set5 (w : World) (R : Nat) (b0 b1 b2 b3 b4 : Value) : World := ((((w.setCell ⟨R, 0, none⟩ b0).setCell ⟨R, 1, none⟩ b1).setCell ⟨R, 2, none⟩ b2).setCell ⟨R, 3, none⟩ b3).setCell ⟨R, 4, none⟩ b4
theorem set5_heap {w : World} {R : Nat} {a0 a1 a2 a3 a4 : Value} {t : TypeId} (h : w.heap[R]? = some (.cells #[a0, a1, a2, a3, a4] t)) (b0 b1 b2 b3 b4 : Value) :
    (set5 w R b0 b1 b2 b3 b4).heap[R]? = some (.cells #[b0, b1, b2, b3, b4] t) := by
  have h0 := heap_setCell_same _ _ 0 _ t b0 h
  have h1 := heap_setCell_same _ _ 1 _ t b1 h0
  have h2 := heap_setCell_same _ _ 2 _ t b2 h1
  have h3 := heap_setCell_same _ _ 3 _ t b3 h2
  exact heap_setCell_same _ _ 4 _ t b4 h3
theorem set5_below {X w : World} {B R : Nat} (h : Below B X w) (hR : B ≤ R) (b0 b1 b2 b3 b4 : Value) : Below B X (set5 w R b0 b1 b2 b3 b4) :=
  ((((h.setCell hR b0).setCell hR b1).setCell hR b2).setCell hR b3).setCell hR b4
theorem drop_at {us : List Mp} {k : Nat} {m : Mp} (h : us[k]? = some m) : us.drop k = m :: us.drop (k + 1) := by
  obtain ⟨h1, rfl⟩ := List.getElem?_eq_some_iff.1 h
  exact List.drop_eq_getElem_cons h1
set_option maxHeartbeats 1000000 in
theorem right_any {w : World} {A : Option Addr} {l c : Nat} {us : List Mp} (hl : us.length = l) (hm : l ≤ 1000) (hr : LV 5 encM w A us) :
    Calls Try.prog 13 #[.slice A l c] w fun e w' => e = .returned (.bool (rightB us)) ∧ Below w.heap.size w w' := by
  have HR := Lib.hid hr
  have HL := Lib.hid hl
  have CV := Lib.hid valid_any
  clear hr hl
  by_cases h16 : l > 16
  · have h16' : (l : Int) > 16 := by omega
    have h16'' : (16 : Int) < l := h16'
    have hR : Hid (rightB us = false) := Lib.hid (by unfold rightB; rw [HL.out, decide_eq_false (by omega)]; rfl)
    clear h16
    go_enter Try.func13, Try.ntmps13
    go_wp2_with fail
    go_ret
    exact ⟨by rw [hR.out]; rfl, Below.refl _ _⟩
  · have h16' : ¬ (l : Int) > 16 := by omega
    have h16'' : ¬ (16 : Int) < l := h16'
    have hR : Hid (rightB us = chk 0 us) := Lib.hid (by unfold rightB; rw [HL.out, decide_eq_true (by omega)]; rfl)
    rw [hR.out]
    clear h16 hR
    go_enter Try.func13, Try.ntmps13
    go_wp2_with fail
    go_loopg [3, 11] l (fun gh nx i wr => ∃ k : Nat, k ≤ l ∧ gh = l - k ∧ i = .int .i64 k ∧ (∃ x : Int, nx = .int .i64 x ∧ Hid (chk 0 us = chk x (us.drop k))) ∧ Hid (Below w.heap.size w wr))
    case atStart => exact ⟨0, by omega, by omega, rfl, ⟨0, rfl, Lib.hid rfl⟩, Lib.hid (Below.refl _ _)⟩
    case round =>
      obtain ⟨k, hk, hg, rfl, ⟨x, rfl, hx⟩, hI⟩ := hrel
      by_cases hlt : k < l
      · obtain ⟨m, hy⟩ : ∃ m, us[k]? = some m := ⟨_, List.getElem?_eq_getElem (by rw [HL.out]; exact hlt)⟩
        obtain ⟨B, off, rfl, hb, c0, c1, c2, c3, c4⟩ := (HR.out.below hI.out).five hy
        have hc := hx.out
        rw [drop_at hy] at hc
        simp only [chk] at hc
        have HO := Lib.hid (okB_iff (a := m.a) (s := m.s) (f := m.f) (n := m.n))
        change chk 0 us = (okB m.a m.s m.f m.n && _) at hc
        have HC := Lib.hid hc
        have b1 := Lib.hid (below_alloc1 wr (blkM m))
        have r1 := Lib.hid (heap_alloc_new wr (blkM m))
        obtain ⟨a, s, f, n, wt⟩ := m
        simp only [] at c0 c1 c2 c3 c4 HO HC
        have l1 : (k : Int) < l := by omega
        have i1 : IntKind.i64.wrap ((k : Int) + 1) = (k : Int) + 1 := by rw [IntKind.wrap_i64]; omega
        clear hy hc
        obtain ⟨v, ev⟩ : ∃ v, okB a s f n = v := ⟨_, rfl⟩
        rw [ev] at HC HO
        have CV1 := Lib.hid (fun W => CV.out a s f n wt W)
        rw [ev] at CV1
        clear ev
        cases v
        · go_wp2_with fail
          refine (CV1.out _).mono ?_; rintro e w1 ⟨rfl, hb1⟩
          have HB := Lib.hid ((hI.out.trans (b1.out.mono hI.out.size)).trans (hb1.mono (Nat.le_trans hI.out.size b1.out.size)))
          have hf := Five.row (m := ⟨a, s, f, n, wt⟩) ((hb1.block wr.heap.size (by simp)).trans r1.out)
          obtain ⟨z0, z1, z2, z3, z4⟩ := hf
          simp only [] at z0 z1 z2 z3 z4
          clear hb1 c0 c1 c2 c3 c4
          go_wp2_with fail
          go_ret
          exact ⟨by rw [HC.out]; rfl, HB.out⟩
        · have hok := HO.out.1 rfl
          have CE := Lib.hid (fun W => end_ok (a := a) (n := n) s f wt ⟨by omega, by omega, by omega, by omega⟩ W)
          obtain ⟨r, er⟩ : ∃ r, a + n = r := ⟨_, rfl⟩
          rw [er] at CE HC
          clear hok er
          go_wp2_with fail
          refine (CV1.out _).mono ?_; rintro e w1 ⟨rfl, hb1⟩
          have HB := Lib.hid ((hI.out.trans (b1.out.mono hI.out.size)).trans (hb1.mono (Nat.le_trans hI.out.size b1.out.size)))
          have hf := Five.row (m := ⟨a, s, f, n, wt⟩) ((hb1.block wr.heap.size (by simp)).trans r1.out)
          obtain ⟨z0, z1, z2, z3, z4⟩ := hf
          simp only [] at z0 z1 z2 z3 z4
          clear hb1 c0 c1 c2 c3 c4
          by_cases hax : a < x
          · go_wp2_with fail
            go_ret
            exact ⟨by rw [HC.out, decide_eq_false (by omega)]; rfl, HB.out⟩
          · go_wp2_with fail
            refine (CE.out _).mono ?_; rintro e w2 ⟨rfl, hb2⟩
            have HB2 := Lib.hid (HB.out.trans (hb2.mono HB.out.size))
            clear hb2 z0 z1 z2 z3 z4
            go_wp2_with fail
            go_roundg (l - (k + 1))
            case rel => exact ⟨k + 1, by omega, rfl, by simp, ⟨r, rfl, Lib.hid (by rw [HC.out, decide_eq_true (by omega)]; simp)⟩, HB2⟩
            case measure => first | omega | (simp; omega)
      · obtain rfl : k = l := by omega
        clear hlt
        go_wp2_with fail
        go_ret
        exact ⟨by rw [hx.out, List.drop_eq_nil_of_le (by rw [HL.out]; omega)]; rfl, hI.out⟩
/-- The map that has a page. -/
def fnd (us : List Mp) (p : Int) : Option Mp := us.find? fun m => decide (m.a ≤ p) && decide (p < m.a + m.n)
def fndV : Option Mp → Value
  | none => .tuple #[.agg #[.int .i64 0, .int .u64 0, .int .i64 0, .int .i64 0, .bool false], .bool false]
  | some m => .tuple #[.agg #[.int .i64 m.a, .int .u64 m.s, .int .i64 m.f, .int .i64 m.n, .bool m.w], .bool true]
set_option maxHeartbeats 1000000 in
theorem find_any {w : World} {A : Option Addr} {l c : Nat} {us : List Mp} (p : Int) (hl : us.length = l) (hm : l ≤ 1000) (hr : LV 5 encM w A us) (hs : ∀ m ∈ us, m.Ok) :
    Calls Try.prog 14 #[.slice A l c, .int .i64 p] w fun e w' => e = .returned (fndV (fnd us p)) ∧ Below w.heap.size w w' := by
  have HR := Lib.hid hr
  have HL := Lib.hid hl
  have HS := Lib.hid hs
  have z5 := Lib.hid (And.intro (below_alloc1 w (blkM Mp.zero)) (heap_alloc_new w (blkM Mp.zero)))
  clear hr hl hs
  go_enter Try.func14, Try.ntmps14
  go_wp2_with fail
  go_loopg [10] l (fun gh i wr => ∃ k : Nat, k ≤ l ∧ gh = l - k ∧ i = .int .i64 k ∧ Hid (fnd us p = fnd (us.drop k) p) ∧ Hid (Below w.heap.size w wr ∧ wr.heap[w.heap.size]? = some (blkM Mp.zero)))
  case atStart => exact ⟨0, by omega, by omega, rfl, Lib.hid rfl, z5⟩
  case round =>
    clear z5
    obtain ⟨k, hk, hg, rfl, hx, hI⟩ := hrel
    by_cases hlt : k < l
    · obtain ⟨m, hy⟩ : ∃ m, us[k]? = some m := ⟨_, List.getElem?_eq_getElem (by rw [HL.out]; exact hlt)⟩
      obtain ⟨B, off, rfl, hb, c0, c1, c2, c3, c4⟩ := (HR.out.below hI.out.1).five hy
      have hok := HS.out m (List.mem_of_getElem? hy)
      have hc := hx.out
      rw [drop_at hy] at hc
      unfold fnd at hc
      rw [List.find?_cons] at hc
      have HC := Lib.hid hc
      have b1 := Lib.hid (below_alloc1 wr (blkM m))
      have r1 := Lib.hid (heap_alloc_new wr (blkM m))
      obtain ⟨a, s, f, n, wt⟩ := m
      obtain ⟨o1, o2, o3, o4, _⟩ := hok
      simp only [] at c0 c1 c2 c3 c4 HC o1 o2 o3 o4
      have l1 : (k : Int) < l := by omega
      have i1 : IntKind.i64.wrap ((k : Int) + 1) = (k : Int) + 1 := by rw [IntKind.wrap_i64]; omega
      have CE := Lib.hid (fun W => end_ok (a := a) (n := n) s f wt ⟨by omega, by omega, by omega, by omega⟩ W)
      obtain ⟨r, er⟩ : ∃ r, a + n = r := ⟨_, rfl⟩
      rw [er] at CE HC
      have hf := Five.row (m := ⟨a, s, f, n, wt⟩) (t := 26) r1.out
      clear hy hc o1 o2 o3 o4 er
      by_cases hap : a ≤ p
      · go_wp2_with fail
        refine (CE.out _).mono ?_; rintro e w1 ⟨rfl, hb1⟩
        have HB := Lib.hid ((hI.out.1.trans (b1.out.mono hI.out.1.size)).trans (hb1.mono (Nat.le_trans hI.out.1.size b1.out.size)))
        have HZ : Hid (w1.heap[w.heap.size]? = some (blkM Mp.zero)) := Lib.hid (by
          have h1 := (Array.getElem?_eq_some_iff.1 hI.out.2).1
          rw [hb1.block _ (Nat.lt_of_lt_of_le h1 b1.out.size), b1.out.block _ h1]; exact hI.out.2)
        obtain ⟨z0, z1, z2, z3, z4⟩ := hf.below hb1
        simp only [] at z0 z1 z2 z3 z4
        clear hb1 c0 c1 c2 c3 c4 hf
        by_cases hpr : p < r
        · have HF : Hid (fnd us p = some ⟨a, s, f, n, wt⟩) := Lib.hid (by unfold fnd; rw [HC.out]; simp [hap, hpr])
          obtain ⟨y0, y1, y2, y3, y4⟩ := Five.row (m := Mp.zero) HZ.out
          simp only [Mp.zero] at y0 y1 y2 y3 y4
          have g0 := frozen_of_row _ _ 0 _ _ HZ.out
          have g1 := frozen_of_row _ _ 1 _ _ HZ.out
          have g2 := frozen_of_row _ _ 2 _ _ HZ.out
          have g3 := frozen_of_row _ _ 3 _ _ HZ.out
          have g4 := frozen_of_row _ _ 4 _ _ HZ.out
          go_wp2_with fail
          refine bodyPost_ret (results_cell5 (by rfl) _ _ w.heap.size 26 _ (0, 0) (by rfl) (set5_heap HZ.out (.int .i64 a) (.int .u64 s) (.int .i64 f) (.int .i64 n) (.bool wt)) rfl) rfl ⟨?_, set5_below HB.out (Nat.le_refl _) _ _ _ _ _⟩
          rw [HF.out]; rfl
        · have HX : Hid (fnd us p = fnd (us.drop (k + 1)) p) := Lib.hid (by unfold fnd; rw [HC.out]; simp [hap, hpr])
          go_wp2_with fail
          go_roundg (l - (k + 1))
          case rel => exact ⟨k + 1, by omega, rfl, by simp, HX, Lib.hid ⟨HB.out, HZ.out⟩⟩
          case measure => first | omega | (simp; omega)
      · have HX : Hid (fnd us p = fnd (us.drop (k + 1)) p) := Lib.hid (by unfold fnd; rw [HC.out]; simp [hap])
        have HZ : Hid ((wr.alloc (blkM ⟨a, s, f, n, wt⟩)).heap[w.heap.size]? = some (blkM Mp.zero)) := Lib.hid (by
          have h1 := (Array.getElem?_eq_some_iff.1 hI.out.2).1
          rw [b1.out.block _ h1]; exact hI.out.2)
        have HB := Lib.hid (hI.out.1.trans (b1.out.mono hI.out.1.size))
        clear hf
        go_wp2_with fail
        go_roundg (l - (k + 1))
        case rel => exact ⟨k + 1, by omega, rfl, by simp, HX, Lib.hid ⟨HB.out, HZ.out⟩⟩
        case measure => first | omega | (simp; omega)
    · obtain rfl : k = l := by omega
      have HF : Hid (fnd us p = none) := Lib.hid (by rw [hx.out, List.drop_eq_nil_of_le (by rw [HL.out]; omega)]; rfl)
      obtain ⟨y0, y1, y2, y3, y4⟩ := Five.row (m := Mp.zero) hI.out.2
      simp only [Mp.zero] at y0 y1 y2 y3 y4
      have g0 := frozen_of_row _ _ 0 _ _ hI.out.2
      have g1 := frozen_of_row _ _ 1 _ _ hI.out.2
      have g2 := frozen_of_row _ _ 2 _ _ hI.out.2
      have g3 := frozen_of_row _ _ 3 _ _ hI.out.2
      have g4 := frozen_of_row _ _ 4 _ _ hI.out.2
      clear hlt
      go_wp2_with fail
      refine bodyPost_ret (results_cell5 (by rfl) _ _ w.heap.size 26 _ (0, 0) (by rfl) (set5_heap hI.out.2 (.int .i64 0) (.int .u64 0) (.int .i64 0) (.int .i64 0) (.bool false)) rfl) rfl ⟨?_, set5_below hI.out.1 (Nat.le_refl _) _ _ _ _ _⟩
      rw [HF.out]; rfl
end Go.Proofs.Ytbjegfkjibfadaa
