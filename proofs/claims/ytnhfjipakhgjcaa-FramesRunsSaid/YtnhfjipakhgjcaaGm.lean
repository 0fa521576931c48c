/- The law FramesRuns, over the model's play. -/
import Derived.Test.YtnhfjipakhgjcaaGk
import Derived.Deep.MidRow
namespace Go.Proofs.Ytnhfjipakhgjcaa
open Go.RowKit
set_option linter.unusedVariables false
set_option linter.unusedSimpArgs false
/-- A call, as it came in. -/
structure Cl where
  k : Int
  f : Int
  off : Int
  n : Int
  o : Nat
  A : Option Addr
  l : Nat
  c : Nat
/-- One that may be. -/
def Cl.ok (w : World) (x : Cl) : Prop := (-9223372036854775808 ≤ x.k ∧ x.k ≤ 9223372036854775807) ∧ (-9223372036854775808 ≤ x.f ∧ x.f ≤ 9223372036854775807) ∧ (-9223372036854775808 ≤ x.off ∧ x.off ≤ 9223372036854775807) ∧ (-9223372036854775808 ≤ x.n ∧ x.n ≤ 9223372036854775807) ∧ x.o < 18446744073709551616 ∧
  ∃ bs : List Nat, bs.length = x.l ∧ x.l ≤ x.c ∧ BR w x.A bs ∧ ∀ y ∈ bs, y < 256
/-- Calls that are read. -/
def Cls (w : World) (A : Option Addr) (xs : List Cl) : Prop := ∀ (i : Nat) (x : Cl), xs[i]? = some x → x.ok w ∧ ∃ b off, A = some ⟨b, off, none⟩ ∧ b < w.heap.size ∧
  w.cell? ⟨b, off + i * 6, none⟩ = some (.int .i64 x.k) ∧ w.cell? ⟨b, off + i * 6 + 1, none⟩ = some (.int .i64 x.f) ∧ w.cell? ⟨b, off + i * 6 + 2, none⟩ = some (.int .i64 x.off) ∧ w.cell? ⟨b, off + i * 6 + 3, none⟩ = some (.int .i64 x.n) ∧ w.cell? ⟨b, off + i * 6 + 4, none⟩ = some (.int .u64 (x.o : Int)) ∧ w.cell? ⟨b, off + i * 6 + 5, none⟩ = some (.slice x.A x.l x.c)
theorem PM.below {W w w' : World} {R M O D N : Nat} (h : PM W R M O D N w) (hb : Below w.heap.size w w') : PM W R M O D N w' := by
  obtain ⟨T, os, ds, bl, h1, h2, h3, h4⟩ := h
  exact ⟨T, os, ds, bl, h1.below hb, h2.same h3 (h1.same hb), h3, h4⟩
theorem PM.drew {W w : World} {R M O D N : Nat} (h : PM W R M O D N w) : PM W R M O D N w.drew := by
  obtain ⟨T, os, ds, bl, h1, h2, h3, h4⟩ := h
  exact ⟨T, os, ds, bl, h1.drew, h2, h3, h4⟩
theorem PM.b {W w : World} {R M O D N : Nat} (h : PM W R M O D N w) : Below W.heap.size W w := by
  obtain ⟨T, os, ds, bl, h1, _⟩ := h
  exact h1.b
/-- A new pool's model. -/
theorem pm_new {W w w' : World} {R M O D N : Nat} {ds : List (List Nat)} (h : St W [] R (List.replicate N 0) ds w) (hb : Below w.heap.size w w') (vs : List Value) (hv : vs.length = N)
    (hM : w'.heap[M]? = some (Obj.cells #[.slice (some ⟨D, 0, none⟩) N N, .slice (some ⟨O, 0, none⟩) N N] 30)) (hO : w'.heap[O]? = some (Obj.cells (U (List.replicate N 0)).toArray 31)) (hD : w'.heap[D]? = some (Obj.cells vs.toArray 32))
    (lM : w.heap.size ≤ M) (lO : w.heap.size ≤ O) (lD : w.heap.size ≤ D) : PM W R M O D N w' := by
  have z : ∀ i, (List.replicate N 0).getD i 0 = 0 := fun i => by
    rw [List.getD_eq_getElem?_getD, List.getElem?_replicate]; split <;> rfl
  refine ⟨[M, O, D], List.replicate N 0, ds, fun _ => 0, h.more hb (fun b hm => ?_), ⟨hM, hO, by simp, ⟨vs, hD, hv, fun i _ ho => absurd (z i) ho⟩, fun i _ ho => absurd (z i) ho, fun i j _ _ ho => absurd (z i) ho⟩, ⟨by simp, by simp, by simp, fun i _ ho => absurd (z i) ho⟩, fun b hm => ?_⟩
  · simp at hm
    rcases hm with rfl | rfl | rfl
    · exact ⟨.inr lM, (Array.getElem?_eq_some_iff.1 hM).1⟩
    · exact ⟨.inr lO, (Array.getElem?_eq_some_iff.1 hO).1⟩
    · exact ⟨.inr lD, (Array.getElem?_eq_some_iff.1 hD).1⟩
  · have := h.b.size
    simp at hm
    rcases hm with rfl | rfl | rfl <;> omega
theorem info31 : (Try.prog.info? 31).map (fun i => (i.zero, i.size, i.bytes)) = some (some (.int .u64 0), 1, 8) := by kernel_rfl
theorem info32 : (Try.prog.info? 32).map (fun i => (i.zero, i.size, i.bytes)) = some (some (.slice none 0 0), 1, 24) := by kernel_rfl
theorem run_owners (w : World) (N : Nat) (h : N ≤ 20) : (Instr.makeSlice 28 (.int .i64 (N : Int)) (.int .i64 (N : Int))).run Try.prog w = .ok (.slice (some ⟨w.heap.size, 0, none⟩) N N) (w.alloc (Obj.cells (U (List.replicate N 0)).toArray 31)) := by
  obtain ⟨i0, hi, hz0, hz1, hz2⟩ := info_parts info31
  have := run_make (P := Try.prog) w 28 31 i0 (.int .u64 0) Try.underlying28 hi hz0 .i64 .i64 N N (by omega) (Int.le_refl _) (by rw [hz2]; omega) (by omega)
  rw [this, hz1]
  have e : madeCells (Value.int .u64 0).cells (N * 1) = (U (List.replicate N 0)).toArray := by
    apply Array.toList_inj.1
    show (madeCells #[Value.int .u64 0] (N * 1)).toList = _
    rw [toList_madeCells_one, Nat.mul_one]
    simp [U]
  simp only [Int.toNat_natCast]
  rw [e]
theorem run_rows (w : World) (N : Nat) (h : N ≤ 20) : (Instr.makeSlice 27 (.int .i64 (N : Int)) (.int .i64 (N : Int))).run Try.prog w = .ok (.slice (some ⟨w.heap.size, 0, none⟩) N N) (w.alloc (Obj.cells (List.replicate N (Value.slice none 0 0)).toArray 32)) := by
  obtain ⟨i0, hi, hz0, hz1, hz2⟩ := info_parts info32
  have := run_make (P := Try.prog) w 27 32 i0 (.slice none 0 0) Try.underlying27 hi hz0 .i64 .i64 N N (by omega) (Int.le_refl _) (by rw [hz2]; omega) (by omega)
  rw [this, hz1]
  have e : madeCells (Value.slice none 0 0).cells (N * 1) = (List.replicate N (Value.slice none 0 0)).toArray := by
    apply Array.toList_inj.1
    show (madeCells #[Value.slice none 0 0] (N * 1)).toList = _
    rw [toList_madeCells_one, Nat.mul_one]
  simp only [Int.toNat_natCast]
  rw [e]
theorem off20 (x : Int) : ∃ (t u v : Int) (N : Nat), x.tmod 20 = t ∧ RowKit.wrap64 (t + 20) = u ∧ u.tmod 20 = v ∧ RowKit.wrap64 (v + 1) = (N : Int) ∧ 1 ≤ N ∧ N ≤ 20 := by
  have h1 := Int.tmod_lt_of_pos x (show (0 : Int) < 20 by omega)
  have h2 := Int.lt_tmod_of_pos x (show (0 : Int) < 20 by omega)
  have e : RowKit.wrap64 (x.tmod 20 + 20) = x.tmod 20 + 20 := by unfold RowKit.wrap64; omega
  refine ⟨_, _, _, ((x.tmod 20 + 20).tmod 20 + 1).toNat, rfl, rfl, rfl, ?_, ?_⟩
  · rw [e, Int.tmod_eq_emod_of_nonneg (by omega)]; unfold RowKit.wrap64; omega
  · rw [Int.tmod_eq_emod_of_nonneg (by omega)]; omega
set_option maxHeartbeats 8000000 in
theorem runs_many (n : Int) (A : Option Addr) (l c : Nat) (w : World) (hm : 200 < l) :
    Calls Try.prog 3 #[.int .i64 n, .slice A l c] w fun e w' => e = .returned (.bool true) ∧ Below w.heap.size w w' := by
  have B := Lib.hid fit_any
  have h200 : (200 : Int) < l := by omega
  obtain ⟨t, u, v, N, e1, e2, e3, e4, N1, N20⟩ := off20 n
  go_enter Try.func3, Try.ntmps3
  go_wp2_with fail
  refine (B.out _).mono ?_; rintro e w1 ⟨rfl, hb⟩
  have HB := Lib.hid hb
  clear hb
  go_wp2_with fail
  go_ret
  exact ⟨rfl, HB.out⟩
set_option maxHeartbeats 8000000 in
theorem runs_all (n : Int) (A : Option Addr) (l c : Nat) (xs : List Cl) (w : World) (hn : xs.length = l) (hm : l ≤ 200) (hr : Cls w A xs) (n1 : -9223372036854775808 ≤ n) (n2 : n ≤ 9223372036854775807) :
    Calls Try.prog 3 #[.int .i64 n, .slice A l c] w fun e w' => e = .returned (.bool true) ∧ Below w.heap.size w w' := by
  have B := Lib.hid fit_any
  have h200 : ¬ (200 : Int) < l := by omega
  obtain ⟨t, u, v, N, e1, e2, e3, e4, N1, N20⟩ := off20 n
  have XR := Lib.hid hr
  have HN := Lib.hid (And.intro hn hm)
  clear hr hn hm n1 n2
  go_enter Try.func3, Try.ntmps3
  go_wp2_with fail
  refine (B.out _).mono ?_; rintro e w1 ⟨rfl, hb⟩
  have HB := Lib.hid hb
  have NW := Lib.hid (new_st N w w1 [] N1 (by omega) hb (by simp))
  clear hb
  go_wp2_with fail
  refine NW.out.mono ?_; rintro e w2 ⟨R, ds, rfl, hs, _⟩
  have HS := Lib.hid hs
  clear hs NW
  obtain ⟨OBo, hOB⟩ : ∃ OB, Obj.cells (U (List.replicate N 0)).toArray 31 = OB := ⟨_, rfl⟩
  obtain ⟨OBr, hRB⟩ : ∃ OB, Obj.cells (List.replicate N (Value.slice none 0 0)).toArray 32 = OB := ⟨_, rfl⟩
  have OW := Lib.hid (fun wx : World => run_owners wx N N20)
  have RW := Lib.hid (fun wx : World => run_rows wx N N20)
  rw [hOB] at OW
  rw [hRB] at RW
  have sz : ∀ (x : World) (o : Obj), (x.alloc o).heap.size = x.heap.size + 1 := fun x o => by simp
  have Pa := Lib.hid (show PM w R (w2.heap.size + 1 + 1) (w2.heap.size + 1) w2.heap.size N (((w2.alloc OBr).alloc OBo).alloc (Obj.cells #[.slice (some ⟨w2.heap.size, 0, none⟩) N N, .slice (some ⟨w2.heap.size + 1, 0, none⟩) N N] 30)) from by
    refine pm_new HS.out ((((Below.refl _ _).alloc (Nat.le_refl _) _).alloc (by simp) _).alloc (by simp; omega) _) (List.replicate N (Value.slice none 0 0)) (by simp) ?_ ?_ ?_ (by omega) (by omega) (by omega)
    · have := heap_alloc_new ((w2.alloc OBr).alloc OBo) (Obj.cells #[.slice (some ⟨w2.heap.size, 0, none⟩) N N, .slice (some ⟨w2.heap.size + 1, 0, none⟩) N N] 30)
      rw [sz, sz] at this; exact this
    · rw [Below.heap_alloc _ _ _ (by rw [sz, sz]; omega), hOB]; exact heap_alloc2_new _ _ _
    · rw [Below.heap_alloc _ _ _ (by rw [sz, sz]; omega), hRB]; exact heap_alloc2_old _ _ _)
  have Pb := Lib.hid (show PM w R (w2.heap.size + 1 + 1) w2.heap.size (w2.heap.size + 1) N (((w2.alloc OBo).alloc OBr).alloc (Obj.cells #[.slice (some ⟨w2.heap.size + 1, 0, none⟩) N N, .slice (some ⟨w2.heap.size, 0, none⟩) N N] 30)) from by
    refine pm_new HS.out ((((Below.refl _ _).alloc (Nat.le_refl _) _).alloc (by simp) _).alloc (by simp; omega) _) (List.replicate N (Value.slice none 0 0)) (by simp) ?_ ?_ ?_ (by omega) (by omega) (by omega)
    · have := heap_alloc_new ((w2.alloc OBo).alloc OBr) (Obj.cells #[.slice (some ⟨w2.heap.size + 1, 0, none⟩) N N, .slice (some ⟨w2.heap.size, 0, none⟩) N N] 30)
      rw [sz, sz] at this; exact this
    · rw [Below.heap_alloc _ _ _ (by rw [sz, sz]; omega), hOB]; exact heap_alloc2_old _ _ _
    · rw [Below.heap_alloc _ _ _ (by rw [sz, sz]; omega), hRB]; exact heap_alloc2_new _ _ _)
  clear hOB hRB sz
  go_upto_region 7 with fail
  go_cut [6] (fun s6 wx => ∃ M O D : Nat, s6 = .pointer (some ⟨M, 0, none⟩) ∧ Hid (PM w R M O D N wx))
  case first =>
   as_aux_lemma =>
    refine wp_region_held_drew (S := fun w' => True) (by kernel_rfl) (trivial) (fun hHeld => ?_)
    refine wpAnyH_take (i := 0) (oi := { dst := some 21, op := Op.move (Operand.tmp 0), type := 3, pos := "law.go:93", after := #[], guard := none }) (v := ?vv1) rfl (by kernel_rfl) (by kernel_rfl) (by kernel_rfl) (fun _ _ _ h => h) (Or.inl ⟨by rfl, ?hy1⟩) hHeld ?rest1
    case hy1 => (intro wS hSw; (try dsimp only at hSw); go_simp; try with_reducible rfl)
    simp only [Act.put, List.setIfInBounds_toArray, List.set_cons_zero, List.set_cons_succ]
    refine wpAnyH_take (i := 2) (oi := { dst := some 23, op := Op.move (Operand.tmp 0), type := 3, pos := "law.go:93", after := #[], guard := none }) (v := ?vv2) rfl (by kernel_rfl) (by kernel_rfl) (by kernel_rfl) (fun _ _ _ h => h) (Or.inl ⟨by rfl, ?hy2⟩) hHeld ?rest2
    case hy2 => (intro wS hSw; (try dsimp only at hSw); go_simp; try with_reducible rfl)
    simp only [Act.put, List.setIfInBounds_toArray, List.set_cons_zero, List.set_cons_succ]
    refine wpAnyH_ready (rs := [1, 3]) (by kernel_rfl) (by simp) ?_
    refine AllReadyH.cons (o := { dst := some 22, op := Op.makeSlice 27 (Operand.tmp 21) (Operand.tmp 21), type := 27, pos := "law.go:93", after := #[{ on := 0, ground := Ground.data }, { on := 0, ground := Ground.data }], guard := none }) rfl (fun K hK => ?_) ?_
    · skip
      have mk := RW.out
      go_simp
      clear mk
      clear hHeld
      refine hK.out _ _ (trivial) (fun hHeld => ?_)
      clear hK K
      try simp only [Act.put, List.setIfInBounds_toArray, List.set_cons_zero, List.set_cons_succ]
      refine wpAnyH_ready (rs := [3]) (by kernel_rfl) (by simp) ?_
      refine AllReadyH.cons (o := { dst := some 24, op := Op.makeSlice 28 (Operand.tmp 23) (Operand.tmp 23), type := 28, pos := "law.go:93", after := #[{ on := 2, ground := Ground.data }, { on := 2, ground := Ground.data }], guard := none }) rfl (fun K hK => ?_) AllReadyH.nil
      have mk := OW.out
      go_simp
      clear mk
      clear hHeld
      refine hK.out _ _ (trivial) (fun hHeld => ?_)
      clear hK K
      try simp only [Act.put, List.setIfInBounds_toArray, List.set_cons_zero, List.set_cons_succ]
      refine wpAnyH_take (i := 4) (oi := { dst := some 25, op := Op.build 30 #[(0, Operand.tmp 22), (1, Operand.tmp 24)], type := 30, pos := "law.go:93", after := #[{ on := 1, ground := Ground.data }, { on := 3, ground := Ground.data }], guard := none }) (v := ?vv3) rfl (by kernel_rfl) (by kernel_rfl) (by kernel_rfl) (fun _ _ _ h => h) (Or.inl ⟨by rfl, ?hy3⟩) hHeld ?rest3
      case hy3 => (intro wS hSw; (try dsimp only at hSw); go_simp; try with_reducible rfl)
      simp only [Act.put, List.setIfInBounds_toArray, List.set_cons_zero, List.set_cons_succ]
      refine wpAnyH_ready (rs := [5]) (by kernel_rfl) (by simp) ?_
      refine AllReadyH.cons (o := { dst := some 26, op := Op.box 30 (Operand.tmp 25), type := 26, pos := "law.go:93", after := #[{ on := 4, ground := Ground.data }], guard := none }) rfl (fun K hK => ?_) AllReadyH.nil
      go_simp
      clear hHeld
      refine hK.out _ _ (trivial) (fun hHeld => ?_)
      clear hK K
      try simp only [Act.put, List.setIfInBounds_toArray, List.set_cons_zero, List.set_cons_succ]
      refine wpAnyH_take (i := 6) (oi := { dst := some 6, op := Op.assign (Operand.tmp 26), type := 26, pos := "law.go:93", after := #[{ on := 5, ground := Ground.data }, { on := 0, ground := Ground.phase }, { on := 1, ground := Ground.phase }, { on := 2, ground := Ground.phase }, { on := 3, ground := Ground.phase }, { on := 4, ground := Ground.phase }, { on := 5, ground := Ground.phase }], guard := none }) (v := ?vv4) rfl (by kernel_rfl) (by kernel_rfl) (by kernel_rfl) (fun _ _ _ h => h) (Or.inl ⟨by rfl, ?hy4⟩) hHeld ?rest4
      case hy4 => (intro wS hSw; (try dsimp only at hSw); go_simp; try with_reducible rfl)
      simp only [Act.put, List.setIfInBounds_toArray, List.set_cons_zero, List.set_cons_succ]
      refine wpAnyH_done (by kernel_rfl) ?_ _
      go_wp2_with fail
      go_meet
      exact ⟨_, _, _, rfl, Lib.hid (PM.drew Pa.out)⟩
    refine AllReadyH.cons (o := { dst := some 24, op := Op.makeSlice 28 (Operand.tmp 23) (Operand.tmp 23), type := 28, pos := "law.go:93", after := #[{ on := 2, ground := Ground.data }, { on := 2, ground := Ground.data }], guard := none }) rfl (fun K hK => ?_) AllReadyH.nil
    have mk := OW.out
    go_simp
    clear mk
    clear hHeld
    refine hK.out _ _ (trivial) (fun hHeld => ?_)
    clear hK K
    try simp only [Act.put, List.setIfInBounds_toArray, List.set_cons_zero, List.set_cons_succ]
    refine wpAnyH_ready (rs := [1]) (by kernel_rfl) (by simp) ?_
    refine AllReadyH.cons (o := { dst := some 22, op := Op.makeSlice 27 (Operand.tmp 21) (Operand.tmp 21), type := 27, pos := "law.go:93", after := #[{ on := 0, ground := Ground.data }, { on := 0, ground := Ground.data }], guard := none }) rfl (fun K hK => ?_) AllReadyH.nil
    have mk := RW.out
    go_simp
    clear mk
    clear hHeld
    refine hK.out _ _ (trivial) (fun hHeld => ?_)
    clear hK K
    try simp only [Act.put, List.setIfInBounds_toArray, List.set_cons_zero, List.set_cons_succ]
    refine wpAnyH_take (i := 4) (oi := { dst := some 25, op := Op.build 30 #[(0, Operand.tmp 22), (1, Operand.tmp 24)], type := 30, pos := "law.go:93", after := #[{ on := 1, ground := Ground.data }, { on := 3, ground := Ground.data }], guard := none }) (v := ?vv5) rfl (by kernel_rfl) (by kernel_rfl) (by kernel_rfl) (fun _ _ _ h => h) (Or.inl ⟨by rfl, ?hy5⟩) hHeld ?rest5
    case hy5 => (intro wS hSw; (try dsimp only at hSw); go_simp; try with_reducible rfl)
    simp only [Act.put, List.setIfInBounds_toArray, List.set_cons_zero, List.set_cons_succ]
    refine wpAnyH_ready (rs := [5]) (by kernel_rfl) (by simp) ?_
    refine AllReadyH.cons (o := { dst := some 26, op := Op.box 30 (Operand.tmp 25), type := 26, pos := "law.go:93", after := #[{ on := 4, ground := Ground.data }], guard := none }) rfl (fun K hK => ?_) AllReadyH.nil
    go_simp
    clear hHeld
    refine hK.out _ _ (trivial) (fun hHeld => ?_)
    clear hK K
    try simp only [Act.put, List.setIfInBounds_toArray, List.set_cons_zero, List.set_cons_succ]
    refine wpAnyH_take (i := 6) (oi := { dst := some 6, op := Op.assign (Operand.tmp 26), type := 26, pos := "law.go:93", after := #[{ on := 5, ground := Ground.data }, { on := 0, ground := Ground.phase }, { on := 1, ground := Ground.phase }, { on := 2, ground := Ground.phase }, { on := 3, ground := Ground.phase }, { on := 4, ground := Ground.phase }, { on := 5, ground := Ground.phase }], guard := none }) (v := ?vv6) rfl (by kernel_rfl) (by kernel_rfl) (by kernel_rfl) (fun _ _ _ h => h) (Or.inl ⟨by rfl, ?hy6⟩) hHeld ?rest6
    case hy6 => (intro wS hSw; (try dsimp only at hSw); go_simp; try with_reducible rfl)
    simp only [Act.put, List.setIfInBounds_toArray, List.set_cons_zero, List.set_cons_succ]
    refine wpAnyH_done (by kernel_rfl) ?_ _
    go_wp2_with fail
    go_meet
    exact ⟨_, _, _, rfl, Lib.hid (PM.drew Pb.out)⟩
  case rest =>
    obtain ⟨M, O, D, rfl, HP⟩ := hcut
    clear Pa Pb OW RW HS
    go_wp2_with fail
    go_loopg [29] l (fun g i wr => ∃ j : Nat, j ≤ l ∧ g = l - j ∧ i = .int .i64 j ∧ Hid (PM w R M O D N wr))
    case atStart => exact ⟨0, by omega, by omega, rfl, HP⟩
    case round =>
      obtain ⟨j, hj, hg, rfl, hI⟩ := hrel
      by_cases hlt : j < l
      · obtain ⟨x, hx⟩ : ∃ x, xs[j]? = some x := ⟨_, List.getElem?_eq_getElem (by rw [HN.out.1]; exact hlt)⟩
        obtain ⟨hok, b, of, rfl, hb, hc0, hc1, hc2, hc3, hc4, hc5⟩ := XR.out j x hx
        obtain ⟨xk, xf, xo, xn, xw, xA, xl, xc⟩ := x
        dsimp only at hc0 hc1 hc2 hc3 hc4 hc5
        have tr : ∀ (i : Nat) (v : Value), w.cell? ⟨b, i, none⟩ = some v → wr.cell? ⟨b, i, none⟩ = some v := fun i v h => by rw [hI.out.b.cell (p := ⟨b, _, none⟩) hb]; exact h
        have c0 := tr _ _ hc0
        have c1 := tr _ _ hc1
        have c2 := tr _ _ hc2
        have c3 := tr _ _ hc3
        have c4 := tr _ _ hc4
        have c5 := tr _ _ hc5
        have HK := Lib.hid hok
        have HG := Lib.hid (And.intro hj hg)
        have i1 : IntKind.i64.wrap ((j : Int) + 1) = ((j + 1 : Nat) : Int) := by simp [IntKind.wrap, IntKind.bits, IntKind.signed]; have := HG.out; have := HN.out; omega
        have jl : (j : Int) < l := by omega
        have HB1 := Lib.hid hb
        have HI2 := Lib.hid (fun o : Obj => PM.below hI.out (below_alloc1 wr o))
        clear tr hc0 hc1 hc2 hc3 hc4 hc5 hok hb hx hj hg
        by_cases hbig : 200 < xl
        · have hb2 : (200 : Int) < xl := by omega
          clear hbig
          go_wp2_with fail
          go_ret
          exact ⟨rfl, (HI2.out _).b⟩
        · have hb2 : ¬ (200 : Int) < xl := by omega
          obtain ⟨T, os, ds, bl, p1, p2, p3, p4⟩ := HI2.out (Obj.cells #[.int .i64 xk, .int .i64 xf, .int .i64 xo, .int .i64 xn, .int .u64 (xw : Int), .slice xA xl xc] 34)
          obtain ⟨⟨k1, k2⟩, ⟨f1, f2⟩, ⟨o1, o2⟩, ⟨n1, n2⟩, ho, bs, q1, q2, q3, q4⟩ := HK.out
          have PL := Lib.hid (play_all w T R M O D N os ds bl xk xf xo xn xw xA xl xc bs _ p1 p2 p3 p4 N20 k1 k2 f1 f2 o1 o2 n1 n2 ho q1 (by omega) q2 q3 q4)
          clear hbig p1 p2 p3 p4 k1 k2 f1 f2 o1 o2 n1 n2 ho q1 q2 q3 q4
          go_wp2_with fail
          refine PL.out.mono ?_; rintro e wq ⟨rfl, hq⟩
          have HQ := Lib.hid hq
          clear hq PL HI2 hI
          go_wp2_with fail
          go_roundg (l - (j + 1))
          case rel => exact ⟨j + 1, by omega, rfl, by first | rfl | go_num, HQ⟩
          case measure => have := HG.out; omega
      · clear hg
        go_wp2_with fail
        go_ret
        exact ⟨rfl, hI.out.b⟩
end Go.Proofs.Ytnhfjipakhgjcaa
