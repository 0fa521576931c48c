/- BytesRuns: what it makes first; are calls few? -/
import Derived.Test.YtkpdgjmeeeddhaaCx
set_option linter.unusedVariables false
set_option linter.unusedSimpArgs false
namespace Go.Proofs.Ytkpdgjmeeeddhaa
open Go.RowKit
set_option linter.unusedVariables false
set_option linter.unusedSimpArgs false
variable {W w w' : World} {R B M : Nat}
theorem PI.below (h : PI W R B M w) (hb : Below w.heap.size w w') : PI W R B M w' := by
  obtain ⟨os, ds, fs, x, gs, mc, hQ, he⟩ := h
  exact ⟨os, ds, fs, x, gs, mc, hQ.below hb, he⟩
theorem PI.b (h : PI W R B M w) : Below W.heap.size W w := by
  obtain ⟨os, ds, fs, x, gs, mc, hQ, he⟩ := h
  exact hQ.lw.1
/-- Two segments and no bytes of them. -/
theorem PI.start {ds : List (List Nat)} (hL : LW W R (List.replicate 20 0) ds w) (hB : w.heap[B]? = some (Obj.cells #[.slice none 0 0, .slice none 0 0] 37)) (hM : w.heap[M]? = some (Obj.cells #[.slice none 0 0, .slice none 0 0] 30)) (h1 : W.heap.size ≤ B) (h2 : W.heap.size ≤ M) : PI W R B M w := by
  have hne : B ≠ M := fun e => by rw [e, hM] at hB; simp at hB
  have l1 := (Array.getElem?_eq_some_iff.1 hB).1
  have l2 := (Array.getElem?_eq_some_iff.1 hM).1
  refine ⟨List.replicate 20 0, ds, fun _ => [], fun _ => .slice none 0 0, fun i => i, fun _ => [], ⟨hL, fun i hi => ⟨.slice none 0 0, ?_, ⟨_, hB⟩, .inl ⟨rfl, rfl⟩, Nat.zero_le _⟩, fun i hi => own_none 20 (i + 1) (by omega), ?_, h1, h2, hM, fun i hi => .inl ⟨rfl, rfl⟩, fun i hi => ?_, ?_⟩, fun i hi => rfl⟩
  · rw [cell_of_row _ _ _ _ _ (0, 0) hB]
    match i, hi with
    | 0, _ => rfl
    | 1, _ => rfl
  · rw [List.count_replicate, List.count_replicate, List.count_replicate]; rfl
  · show i < w.heap.size
    omega
  · show (0 : Nat) ≠ 1
    omega
theorem start_1 {ds : List (List Nat)} (hL : LW W R (List.replicate 20 0) ds w) : PI W R w.heap.size (w.heap.size + 1) ((w.alloc (Obj.cells #[.slice none 0 0, .slice none 0 0] 37)).alloc (Obj.cells #[.slice none 0 0, .slice none 0 0] 30)).drew := by
  have b1 := below_alloc1 w (Obj.cells #[.slice none 0 0, .slice none 0 0] 37)
  have h1 := heap_alloc_new w (Obj.cells #[.slice none 0 0, .slice none 0 0] 37)
  have b2 := below_alloc1 (w.alloc (Obj.cells #[.slice none 0 0, .slice none 0 0] 37)) (Obj.cells #[.slice none 0 0, .slice none 0 0] 30)
  have h2 := heap_alloc_new (w.alloc (Obj.cells #[.slice none 0 0, .slice none 0 0] 37)) (Obj.cells #[.slice none 0 0, .slice none 0 0] 30)
  rw [World.size_alloc] at h2
  have hs := hL.1.size
  exact (PI.start ((hL.below b1).below b2) ((b2.block _ (by rw [World.size_alloc]; omega)).trans h1) h2 hs (by omega)).below ((Below.refl _ _).drew)
theorem start_2 {ds : List (List Nat)} (hL : LW W R (List.replicate 20 0) ds w) : PI W R (w.heap.size + 1) w.heap.size ((w.alloc (Obj.cells #[.slice none 0 0, .slice none 0 0] 30)).alloc (Obj.cells #[.slice none 0 0, .slice none 0 0] 37)).drew := by
  have b1 := below_alloc1 w (Obj.cells #[.slice none 0 0, .slice none 0 0] 30)
  have h1 := heap_alloc_new w (Obj.cells #[.slice none 0 0, .slice none 0 0] 30)
  have b2 := below_alloc1 (w.alloc (Obj.cells #[.slice none 0 0, .slice none 0 0] 30)) (Obj.cells #[.slice none 0 0, .slice none 0 0] 37)
  have h2 := heap_alloc_new (w.alloc (Obj.cells #[.slice none 0 0, .slice none 0 0] 30)) (Obj.cells #[.slice none 0 0, .slice none 0 0] 37)
  rw [World.size_alloc] at h2
  have hs := hL.1.size
  exact (PI.start ((hL.below b1).below b2) h2 ((b2.block _ (by rw [World.size_alloc]; omega)).trans h1) (by omega) hs).below ((Below.refl _ _).drew)
theorem w_left {q f0 f1 : Nat} (h : q + f0 + f1 = 20) : ∃ d : Int, RowKit.wrap64 (20 - (f0 : Int)) = d ∧ IntKind.i64.wrap (20 - (f0 : Int)) = d ∧ RowKit.wrap64 (d - (f1 : Int)) = (q : Int) ∧ IntKind.i64.wrap (d - (f1 : Int)) = (q : Int) :=
  ⟨20 - (f0 : Int), by unfold RowKit.wrap64; omega, by rw [IntKind.wrap_i64]; omega, by unfold RowKit.wrap64; omega, by rw [IntKind.wrap_i64]; omega⟩
theorem Cls.at_ {b off : Nat} {xs : List Cl} {j : Nat} {y : Cl} (h : Cls w (some ⟨b, off, none⟩) xs) (hx : xs[j]? = some y) (hb : Below w.heap.size w w') :
    y.ok w ∧ ∀ (t : Nat) (u : Value), y.cs[t]? = some u → w'.cell? ⟨b, off + j * 7 + t, none⟩ = some u := by
  obtain ⟨h0, b', o', e, h1, h2⟩ := h j y hx
  injection e with e
  injection e with e1 e2
  subst e1 e2
  exact ⟨h0, fun t u hu => by rw [hb.cell (p := ⟨b, _, none⟩) h1]; exact h2 t u hu⟩
set_option maxHeartbeats 1000000 in
theorem light_big (A : Option Addr) (n c : Nat) (w : World) (h : 120 < n) : Calls Try.prog 8 #[.slice A n c] w fun e w' => e = .returned (.bool false) ∧ Below w.heap.size w w' := by
  have t1 : (120 : Int) < (n : Int) := by omega
  clear h
  go_enter Try.func8, Try.ntmps8
  go_wp2_with fail
  go_ret
  exact ⟨rfl, Below.refl _ _⟩
set_option maxHeartbeats 1000000 in
theorem light_any (A : Option Addr) (n c : Nat) (xs : List Cl) (w : World) (h : xs.length = n) (hn : n ≤ 120) (hx : Cls w A xs) : Calls Try.prog 8 #[.slice A n c] w fun e w' => ∃ t, e = .returned (.bool t) ∧ Below w.heap.size w w' ∧ (t = true → ∀ y ∈ xs, y.l ≤ 300) := by
  have t1 : ¬ (120 : Int) < (n : Int) := by omega
  have HX := Lib.hid (And.intro h (And.intro hn hx))
  clear h hn hx
  go_enter Try.func8, Try.ntmps8
  go_wp2_with fail
  go_loopg [10] n (fun gh i wx => ∃ j : Nat, j ≤ n ∧ gh = n - j ∧ i = .int .i64 j ∧ Hid (Below w.heap.size w wx ∧ ∀ (j' : Nat) (y : Cl), j' < j → xs[j']? = some y → y.l ≤ 300))
  case atStart => exact ⟨0, Nat.zero_le _, rfl, rfl, Lib.hid ⟨Below.refl _ _, fun j' y h => by omega⟩⟩
  case round =>
    obtain ⟨j, hj, hg, rfl, hI⟩ := hrel
    by_cases hlt : j < n
    · obtain ⟨hl, hn, hx⟩ := HX.out
      have l1 : (j : Int) < (n : Int) := Int.ofNat_lt.2 hlt
      obtain ⟨y, hy⟩ : ∃ y, xs[j]? = some y := ⟨_, List.getElem?_eq_getElem (by omega)⟩
      obtain ⟨b, off, rfl, _⟩ := (hx j y hy).2
      obtain ⟨_, hc⟩ := hx.at_ hy hI.out.1
      have c0 : wr.cell? ⟨b, off + j * 7, none⟩ = some (.int .i64 y.k) := hc 0 _ rfl
      have c1 : wr.cell? ⟨b, off + j * 7 + 1, none⟩ = some (.int .i64 y.h) := hc 1 _ rfl
      have c2 : wr.cell? ⟨b, off + j * 7 + 2, none⟩ = some (.int .i64 y.o) := hc 2 _ rfl
      have c3 : wr.cell? ⟨b, off + j * 7 + 3, none⟩ = some (.int .i64 y.n) := hc 3 _ rfl
      have c4 : wr.cell? ⟨b, off + j * 7 + 4, none⟩ = some (.int .i64 y.a) := hc 4 _ rfl
      have c5 : wr.cell? ⟨b, off + j * 7 + 5, none⟩ = some (.int .u64 (y.x : Int)) := hc 5 _ rfl
      have c6 : wr.cell? ⟨b, off + j * 7 + 6, none⟩ = some (.slice y.A y.l y.c) := hc 6 _ rfl
      have hi1 : j ≤ 200 := by omega
      have i1 := w_succ (Nat.lt_succ_self j) (by omega)
      have hb := Lib.hid (hI.out.1.trans ((below_alloc1 wr (Obj.cells #[.int .i64 y.k, .int .i64 y.h, .int .i64 y.o, .int .i64 y.n, .int .i64 y.a, .int .u64 (y.x : Int), .slice y.A y.l y.c] 32)).mono hI.out.1.size))
      have hjm : j + 1 ≤ n := hlt
      have HY := Lib.hid (And.intro hy hI.out.2)
      clear hl hn hx hy hc hi1 hI hlt
      by_cases h3 : 300 < y.l
      · have l3 : (300 : Int) < (y.l : Int) := by omega
        clear h3
        go_wp2_with fail
        go_ret
        exact ⟨false, rfl, hb.out, fun h => by cases h⟩
      · have l3 : ¬ (300 : Int) < (y.l : Int) := by omega
        have H3 := Lib.hid h3
        clear h3
        go_wp2_with fail
        go_roundg (n - (j + 1))
        case rel => exact ⟨j + 1, hjm, rfl, by first | rfl | (rw [i1]; rfl), Lib.hid ⟨hb.out, fun j' y' h1 h2 => by
          by_cases e : j' = j
          · rw [e, HY.out.1] at h2; injection h2 with h2; rw [← h2]; have := H3.out; omega
          · exact HY.out.2 j' y' (by omega) h2⟩⟩
        case measure => first | (rw [hg]; exact meas hjm) | omega
    · obtain rfl : j = n := by omega
      clear hj hg hlt
      go_wp2_with fail
      go_ret
      refine ⟨true, rfl, hI.out.1, fun _ y hy => ?_⟩
      obtain ⟨j', hj'⟩ := List.mem_iff_getElem?.1 hy
      exact hI.out.2 j' y (by have := (List.getElem?_eq_some_iff.1 hj').1; have := HX.out.1; omega) hj'
/-- Two nil slices. -/
theorem infoS : (Try.prog.info? 37).map (fun i => (i.zero, i.size, i.bytes)) = some (some (.agg #[.slice none 0 0]), 1, 24) := by kernel_rfl
theorem infoYS : (Try.prog.info? 30).map (fun i => (i.zero, i.size, i.bytes)) = some (some (.slice none 0 0), 1, 24) := by kernel_rfl
theorem make_segs (w : World) : (Instr.makeSlice 27 (.int .i64 2) (.int .i64 2)).run Try.prog w = .ok (.slice (some ⟨w.heap.size, 0, none⟩) 2 2) (w.alloc (Obj.cells #[.slice none 0 0, .slice none 0 0] 37)) := by
  obtain ⟨i0, hi, hz0, hz1, hz2⟩ := info_parts infoS
  have := run_make (P := Try.prog) w 27 37 i0 _ Try.underlying27 hi hz0 .i64 .i64 2 2 (by omega) (Int.le_refl _) (by rw [hz2]; decide) (by decide)
  rw [this, hz1]
  have e : madeCells (Value.agg #[Value.slice none 0 0]).cells (Int.toNat 2 * 1) = #[.slice none 0 0, .slice none 0 0] := by
    apply Array.toList_inj.1
    show (madeCells #[Value.slice none 0 0] 2).toList = _
    rw [toList_madeCells_one]; rfl
  rw [e]; rfl
theorem make_rows (w : World) : (Instr.makeSlice 28 (.int .i64 2) (.int .i64 2)).run Try.prog w = .ok (.slice (some ⟨w.heap.size, 0, none⟩) 2 2) (w.alloc (Obj.cells #[.slice none 0 0, .slice none 0 0] 30)) := by
  obtain ⟨i0, hi, hz0, hz1, hz2⟩ := info_parts infoYS
  have := run_make (P := Try.prog) w 28 30 i0 _ Try.underlying28 hi hz0 .i64 .i64 2 2 (by omega) (Int.le_refl _) (by rw [hz2]; decide) (by decide)
  rw [this, hz1]
  have e : madeCells (Value.slice none 0 0).cells (Int.toNat 2 * 1) = #[.slice none 0 0, .slice none 0 0] := by
    apply Array.toList_inj.1
    show (madeCells #[Value.slice none 0 0] 2).toList = _
    rw [toList_madeCells_one]; rfl
  rw [e]; rfl
end Go.Proofs.Ytkpdgjmeeeddhaa
