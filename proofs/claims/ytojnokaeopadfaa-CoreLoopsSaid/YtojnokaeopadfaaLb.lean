/- A program counts down, and adds as often. -/
import Derived.Test.YtojnokaeopadfaaLm
import Derived.Test.YtojnokaeopadfaaKc
set_option linter.unusedVariables false
set_option linter.unusedSimpArgs false
namespace Go.Proofs.Ytojnokaeopadfaa
open Go.RowKit

theorem i64_and63 (n : Int) : bits .and .i64 n 63 = ((n % 64).toNat : Nat) := by
  have h127 : (BitVec.ofInt 64 63).toNat = 2 ^ 6 - 1 := by decide
  have key : (BitVec.ofInt 64 n &&& BitVec.ofInt 64 63).toNat = (n % ((2 ^ 64 : Nat) : Int)).toNat % 2 ^ 6 := by
    rw [BitVec.toNat_and, BitVec.toNat_ofInt, h127, Nat.and_two_pow_sub_one_eq_mod]
  show IntKind.i64.wrap ((BitVec.ofInt 64 n &&& BitVec.ofInt 64 63).toNat : Nat) = _
  rw [key, IntKind.wrap_i64]
  omega
theorem t_eq (n t : Nat) (h : 1 + 3 * n = t) : 1 + 3 * (n : Int) = (t : Nat) := by omega
theorem w_add (add : Int) (h1 : -2147483648 ≤ add) (h2 : add ≤ 2147483647) : IntKind.i64.wrap add = add := IntWalk.i64_in _ (by omega)
theorem w_zi (z : Int) (h1 : -274877906944 ≤ z) (h2 : z ≤ 274877906944) : IntKind.i64.wrap z = z := IntWalk.i64_in _ (by omega)
theorem hz_in (n : Nat) (add z : Int) (h0 : n ≤ 64) (h1 : -2147483648 ≤ add) (h2 : add ≤ 2147483647) (ez : (n : Int) * add = z) : -274877906944 ≤ z ∧ z ≤ 274877906944 := by
  rw [← ez]
  have g1 : (n : Int) * add ≤ (n : Int) * 2147483647 := Int.mul_le_mul_of_nonneg_left h2 (by omega)
  have g2 : (n : Int) * (-2147483648) ≤ (n : Int) * add := Int.mul_le_mul_of_nonneg_left h1 (by omega)
  omega
theorem w_3 (n : Nat) (h : n ≤ 64) : RowKit.wrap64 (3 * (n : Int)) = 3 * (n : Int) := by unfold RowKit.wrap64; omega
theorem w_1_3 (n t : Nat) (h : 1 + 3 * n = t) (h2 : n ≤ 64) : RowKit.wrap64 (1 + 3 * (n : Int)) = (t : Nat) := by unfold RowKit.wrap64; omega
theorem w_z (z : Int) (h1 : -274877906944 ≤ z) (h2 : z ≤ 274877906944) : RowKit.wrap64 z = z := by unfold RowKit.wrap64; omega
theorem w_u (z : Int) (v : Nat) (h : (z % 18446744073709551616).toNat = v) : IntKind.u64.wrap z = (v : Nat) := by rw [wrap64, ← h]; omega
/-- The five instructions in block B. -/
def IB (w : World) (B n : Nat) (add : Int) : Prop := B < w.heap.size ∧ ∀ k, k < 5 → w.cell? ⟨B, k * 5, none⟩ = some (.int .i64 ((Cor.ins n add k).o : Nat)) ∧ w.cell? ⟨B, k * 5 + 1, none⟩ = some (.int .i64 ((Cor.ins n add k).a : Nat)) ∧ w.cell? ⟨B, k * 5 + 2, none⟩ = some (.int .i64 ((Cor.ins n add k).b : Nat)) ∧
  w.cell? ⟨B, k * 5 + 3, none⟩ = some (.int .i64 0) ∧ w.cell? ⟨B, k * 5 + 4, none⟩ = some (.int .i32 (Cor.ins n add k).m)
theorem IB.nr {w w' : World} {B n : Nat} {add : Int} (h : IB w B n add) (hb : Nr [] w w') : IB w' B n add := by
  have e := hb.block B h.1 (by simp)
  refine ⟨Nat.lt_of_lt_of_le h.1 hb.size, fun k hk => ?_⟩
  obtain ⟨c0, c1, c2, c3, c4⟩ := h.2 k hk
  exact ⟨by rw [World.cell?_of_block (w := w) e]; exact c0, by rw [World.cell?_of_block (w := w) e]; exact c1, by rw [World.cell?_of_block (w := w) e]; exact c2, by rw [World.cell?_of_block (w := w) e]; exact c3, by rw [World.cell?_of_block (w := w) e]; exact c4⟩
theorem ib_made (w : World) (n : Nat) (add : Int) : IB (w.alloc (Obj.cells #[.int .i64 2, .int .i64 1, .int .i64 0, .int .i64 0, .int .i32 (n : Nat), .int .i64 18, .int .i64 2, .int .i64 2, .int .i64 0, .int .i32 add, .int .i64 18, .int .i64 1, .int .i64 1, .int .i64 0, .int .i32 (-1), .int .i64 26, .int .i64 1, .int .i64 0, .int .i64 0, .int .i32 (-2), .int .i64 1, .int .i64 0, .int .i64 0, .int .i64 0, .int .i32 0] 27)) w.heap.size n add := by
  have h := heap_alloc_new w (Obj.cells #[.int .i64 2, .int .i64 1, .int .i64 0, .int .i64 0, .int .i32 (n : Nat), .int .i64 18, .int .i64 2, .int .i64 2, .int .i64 0, .int .i32 add, .int .i64 18, .int .i64 1, .int .i64 1, .int .i64 0, .int .i32 (-1), .int .i64 26, .int .i64 1, .int .i64 0, .int .i64 0, .int .i32 (-2), .int .i64 1, .int .i64 0, .int .i64 0, .int .i64 0, .int .i32 0] 27)
  refine ⟨by show w.heap.size < (w.heap.push _).size; simp, fun k hk => ?_⟩
  simp only [cell_of_row _ _ _ _ 27 (0, 0) h]
  match k, hk with
  | 0, _ => exact ⟨rfl, rfl, rfl, rfl, rfl⟩
  | 1, _ => exact ⟨rfl, rfl, rfl, rfl, rfl⟩
  | 2, _ => exact ⟨rfl, rfl, rfl, rfl, rfl⟩
  | 3, _ => exact ⟨rfl, rfl, rfl, rfl, rfl⟩
  | 4, _ => exact ⟨rfl, rfl, rfl, rfl, rfl⟩
set_option maxRecDepth 100000 in
set_option maxHeartbeats 8000000 in
theorem loops_all (x add : Int) (w : World) (i1 : -2147483648 ≤ add) (i2 : add ≤ 2147483647) : Calls Try.prog 5 #[.int .i64 x, .int .i32 add] w fun e w' => e = .returned (.bool true) ∧ Nr [] w w' := by
  have F := Lib.hid (fun (W : World) => fit_any W)
  have a1 := i64_and63 x
  obtain ⟨k0, ek⟩ : ∃ k0, (x % 64).toNat = k0 := ⟨_, rfl⟩
  rw [ek] at a1
  obtain ⟨n, en⟩ : ∃ n : Nat, k0 + 1 = n := ⟨_, rfl⟩
  have a2 : (k0 : Int) + 1 = (n : Nat) := by omega
  have b1 : k0 < 64 := by omega
  have b2 : n ≤ 64 := by omega
  have b3 : 1 ≤ n := by omega
  have a3 : wrap32 (n : Int) = n := by unfold wrap32; omega
  have HA := Lib.hid (show 1 ≤ n ∧ n ≤ 64 ∧ -2147483648 ≤ add ∧ add ≤ 2147483647 by omega)
  clear ek en i1 i2
  go_enter Try.func5, Try.ntmps5
  go_wp2_with fail
  refine (F.out _).mono ?_; rintro e w1 ⟨rfl, hf⟩
  have hmk := run_bytes w1 128 (by omega)
  rw [show ((128 : Nat) : Int) = 128 from rfl] at hmk
  have hm := ms_made w1 128 (by omega) 0
  obtain ⟨W0, e0⟩ : ∃ W0, w1.alloc (Obj.cells (Y (List.replicate 128 0)).toArray 5) = W0 := ⟨_, rfl⟩
  obtain ⟨y, ey⟩ : ∃ y, w1.heap.size = y := ⟨_, rfl⟩
  have eg : W0.heap.size = y + 1 := by rw [← e0, World.size_alloc, ey]
  rw [e0, ey] at hm hmk
  obtain ⟨W3, e3⟩ : ∃ W3, W0.alloc (Obj.cells #[.slice (some ⟨y, 0, none⟩) 128 128, .int .i64 0] 31) = W3 := ⟨_, rfl⟩
  rw [e3] at hm
  have hn : Nr [] w W3 := by rw [← e3, ← e0]; exact (hf.alloc _).alloc _
  have hib := ib_made W3 n add
  obtain ⟨B, eB⟩ : ∃ B, W3.heap.size = B := ⟨_, rfl⟩
  obtain ⟨W4, e4⟩ : ∃ W4, W3.alloc (Obj.cells #[.int .i64 2, .int .i64 1, .int .i64 0, .int .i64 0, .int .i32 (n : Nat), .int .i64 18, .int .i64 2, .int .i64 2, .int .i64 0, .int .i32 add, .int .i64 18, .int .i64 1, .int .i64 1, .int .i64 0, .int .i32 (-1), .int .i64 26, .int .i64 1, .int .i64 0, .int .i64 0, .int .i32 (-2), .int .i64 1, .int .i64 0, .int .i64 0, .int .i64 0, .int .i32 0] 27) = W4 := ⟨_, rfl⟩
  rw [e4, eB] at hib
  have hm4 : MS W4 (y + 1) y 128 0 (Cor.fl n add 0) := by rw [← e4]; exact hm.below (below_alloc1 _ _)
  have hn4 : Nr [] w W4 := by rw [← e4]; exact hn.alloc _
  have hy := Lib.hid (show w.heap.size ≤ y by have := hf.size; omega)
  have hBy : B ≠ y := by
    have : y < W3.heap.size := hm.lt.2
    omega
  have HL := Lib.hid (And.intro hib (And.intro hm4 hn4))
  clear F hf hm hn hib hm4 hn4
  go_wp2_with fail
  clear hmk e0 eg e3 e4 a1 a2 a3 ey eB
  have h0 : (((0 : Nat) : Int)) = 0 := rfl
  go_loopg [6, 7, 28] 5 (fun gh s6 s7 i wr => ∃ k : Nat, k ≤ 5 ∧ gh = 5 - k ∧ i = .int .i64 k ∧ Hid (IB wr B n add ∧ MS wr (y + 1) y 128 0 (Cor.fl n add k) ∧ Nr [] w wr))
  case atStart => exact ⟨0, by omega, by omega, rfl, HL⟩
  case round =>
    obtain ⟨k, hk, hg, rfl, hI⟩ := hrel
    clear HL
    by_cases hlt : k < 5
    · as_aux_lemma =>
        obtain ⟨c0, c1, c2, c3, c4⟩ := hI.out.1.2 k hlt
        obtain ⟨o, eo⟩ : ∃ o, (Cor.ins n add k).o = o := ⟨_, rfl⟩
        obtain ⟨a, ea⟩ : ∃ a, (Cor.ins n add k).a = a := ⟨_, rfl⟩
        obtain ⟨b, eb⟩ : ∃ b, (Cor.ins n add k).b = b := ⟨_, rfl⟩
        obtain ⟨m, em⟩ : ∃ m, (Cor.ins n add k).m = m := ⟨_, rfl⟩
        have hfl : Cor.fl n add (k + 1) = Cor.lay (Cor.fl n add k) (8 * k) (Isa.enc o a b 0 m) := by
          rw [← eo, ← ea, ← eb, ← em]; rfl
        rw [eo] at c0
        rw [ea] at c1
        rw [eb] at c2
        rw [em] at c4
        obtain ⟨q, eq⟩ : ∃ q, 8 * k = q := ⟨_, rfl⟩
        rw [eq] at hfl
        have q1 : 8 * (k : Int) = (q : Nat) := by omega
        have q2 : q + 8 ≤ 128 := by omega
        have q3 : (0 : Int) ≤ (q : Int) := by omega
        have q4 : (q : Int) ≤ 128 := by omega
        have HF := Lib.hid hfl
        clear eq
        obtain ⟨W6, e6⟩ : ∃ W6, wr.alloc (Obj.cells #[.int .i64 (o : Nat), .int .i64 (a : Nat), .int .i64 (b : Nat), .int .i64 0, .int .i32 m] 27) = W6 := ⟨_, rfl⟩
        obtain ⟨X, eX⟩ : ∃ X, wr.heap.size = X := ⟨_, rfl⟩
        have hx6 : XS W6 X o a b 0 m := by rw [← e6, ← eX]; exact heap_alloc_new wr _
        have hb6 : Below wr.heap.size wr W6 := by rw [← e6]; exact below_alloc1 wr _
        have hm6 := hI.out.2.1.below hb6
        have hn6 := hI.out.2.2.next (Nr.of_below hb6)
        have hi6 := hI.out.1.nr (Nr.of_below hb6)
        have hyX : X ≠ y := by have := hI.out.2.1.lt; omega
        have C := Lib.hid (fun (W : World) => encode_any o a b 0 m W)
        have HM := Lib.hid (And.intro hm6 (And.intro hn6 hi6))
        have HX := Lib.hid hx6
        obtain ⟨cap, k1, _, hcap, _⟩ := hm6.cells
        have KD := Lib.hid (fun (W : World) (h : Below W6.heap.size W6 W) => (show W.cell? ⟨X, 0, none⟩ = some (.int .i64 (o : Nat)) ∧ W.cell? ⟨X, 1, none⟩ = some (.int .i64 (a : Nat)) ∧ W.cell? ⟨X, 2, none⟩ = some (.int .i64 (b : Nat)) ∧ W.cell? ⟨X, 3, none⟩ = some (.int .i64 0) ∧ W.cell? ⟨X, 4, none⟩ = some (.int .i32 m) ∧ W.cell? ⟨y + 1, 0, none⟩ = some (.slice (some ⟨y, 0, none⟩) 128 cap) from by
          obtain ⟨x0, x1, x2, x3, x4⟩ := (HX.out.nr (Nr.of_below (S := []) h) (by simp)).cells
          exact ⟨x0, x1, x2, x3, x4, by rw [h.cell (block_lt_of_cell k1)]; exact k1⟩))
        have hcall := Lib.hid ((Below.refl W6.heap.size W6).drew)
        have q5 : ¬ cap = q := by omega
        have q6 : IntKind.i64.wrap (q : Int) = q := IntWalk.i64_in _ (by omega)
        clear hx6 hb6 hm6 hn6 hi6 hI hfl eo ea eb em
        go_upto_region 8 with fail
        clear c0 c1 c2 c3 c4 e6 eX
        refine wp_region_held_drew (S := fun w' => w'.cell? ⟨X, 0, none⟩ = some (.int .i64 (o : Nat)) ∧ w'.cell? ⟨X, 1, none⟩ = some (.int .i64 (a : Nat)) ∧ w'.cell? ⟨X, 2, none⟩ = some (.int .i64 (b : Nat)) ∧ w'.cell? ⟨X, 3, none⟩ = some (.int .i64 0) ∧ w'.cell? ⟨X, 4, none⟩ = some (.int .i32 m) ∧ w'.cell? ⟨y + 1, 0, none⟩ = some (.slice (some ⟨y, 0, none⟩) 128 cap)) (by kernel_rfl) (KD.out _ hcall.out) (fun hHeld => ?_)
        refine wpAnyH_take (i := 0) (oi := _) (v := ?vv0) rfl (by kernel_rfl) (by kernel_rfl) (by kernel_rfl) (fun _ _ _ h => h) (Or.inl ⟨by rfl, ?hy0⟩) hHeld ?rest0
        case hy0 => (intro wS hSw; (try dsimp only at hSw); go_simp; try with_reducible rfl)
        simp only [Act.put, List.setIfInBounds_toArray, List.set_cons_zero, List.set_cons_succ]
        refine wpAnyH_take (i := 1) (oi := _) (v := ?vv1) rfl (by kernel_rfl) (by kernel_rfl) (by kernel_rfl) (fun _ _ _ h => h) (Or.inl ⟨by rfl, ?hy1⟩) hHeld ?rest1
        case hy1 => (intro wS hSw; (try dsimp only at hSw); go_simp; try with_reducible rfl)
        simp only [Act.put, List.setIfInBounds_toArray, List.set_cons_zero, List.set_cons_succ]
        refine wpAnyH_take (i := 2) (oi := _) (v := ?vv2) rfl (by kernel_rfl) (by kernel_rfl) (by kernel_rfl) (fun _ _ _ h => h) (Or.inl ⟨by rfl, ?hy2⟩) hHeld ?rest2
        case hy2 => (intro wS hSw; (try dsimp only at hSw); go_simp; try with_reducible rfl)
        simp only [Act.put, List.setIfInBounds_toArray, List.set_cons_zero, List.set_cons_succ]
        refine wpAnyH_take (i := 3) (oi := _) (v := ?vv3) rfl (by kernel_rfl) (by kernel_rfl) (by kernel_rfl) (fun _ _ _ h => h) (Or.inl ⟨by rfl, ?hy3⟩) hHeld ?rest3
        case hy3 => (intro wS hSw; (try dsimp only at hSw); go_simp; try with_reducible rfl)
        simp only [Act.put, List.setIfInBounds_toArray, List.set_cons_zero, List.set_cons_succ]
        refine wpAnyH_take (i := 4) (oi := _) (v := ?vv4) rfl (by kernel_rfl) (by kernel_rfl) (by kernel_rfl) (fun _ _ _ h => h) (Or.inl ⟨by rfl, ?hy4⟩) hHeld ?rest4
        case hy4 => (intro wS hSw; (try dsimp only at hSw); go_simp; try with_reducible rfl)
        simp only [Act.put, List.setIfInBounds_toArray, List.set_cons_zero, List.set_cons_succ]
        refine wpAnyH_take (i := 5) (oi := _) (v := ?vv5) rfl (by kernel_rfl) (by kernel_rfl) (by kernel_rfl) (fun _ _ _ h => h) (Or.inl ⟨by rfl, ?hy5⟩) hHeld ?rest5
        case hy5 => (intro wS hSw; (try dsimp only at hSw); go_simp; try with_reducible rfl)
        simp only [Act.put, List.setIfInBounds_toArray, List.set_cons_zero, List.set_cons_succ]
        refine wpAnyH_take (i := 6) (oi := _) (v := .slice (some ⟨y, q, none⟩) (128 - q) (cap - q)) rfl (by kernel_rfl) (by kernel_rfl) (by kernel_rfl) (fun _ _ _ h => h) (Or.inl ⟨by rfl, ?hy6⟩) hHeld ?rest6
        case hy6 => (intro wS hSw; (try dsimp only at hSw); go_simp; try with_reducible rfl)
        simp only [Act.put, List.setIfInBounds_toArray, List.set_cons_zero, List.set_cons_succ]
        refine wpAnyH_take (i := 7) (oi := _) (v := ?vv7) rfl (by kernel_rfl) (by kernel_rfl) (by kernel_rfl) (fun _ _ _ h => h) (Or.inl ⟨by rfl, ?hy7⟩) hHeld ?rest7
        case hy7 => (intro wS hSw; (try dsimp only at hSw); go_simp; try with_reducible rfl)
        simp only [Act.put, List.setIfInBounds_toArray, List.set_cons_zero, List.set_cons_succ]
        refine wpAnyH_ready (rs := [8]) (by kernel_rfl) (by simp) ?_
        refine AllReadyH.cons (o := _) rfl (fun K hK => ?_) AllReadyH.nil
        go_simp
        refine (C.out _).mono ?_; rintro e wq ⟨z, rfl, hbr, hb⟩
        replace hcall := Lib.hid (hcall.out.trans (hb.mono hcall.out.size))
        have HBR := Lib.hid hbr
        clear hbr hb hHeld
        refine hK.out _ _ (KD.out _ hcall.out) (fun hHeld => ?_)
        clear hK K
        try simp only [Act.put, List.setIfInBounds_toArray, List.set_cons_zero, List.set_cons_succ]
        refine wpAnyH_ready (rs := [9]) (by kernel_rfl) (by simp) ?_
        refine AllReadyH.cons (o := _) rfl (fun K hK => ?_) AllReadyH.nil
        obtain ⟨w2, hrun, hms, htn⟩ := copy_ms (HM.out.1.below hcall.out) 3 q (128 - q) (cap - q) _ _ rfl (by omega) (by omega) HBR.out
        refine step_copy rfl (.tmp 39) (.tmp 41) 25 25 rfl _ _ _ rfl rfl w2 hrun ?_
        have hfin := Lib.hid (And.intro hms (And.intro ((HM.out.2.1.next (Nr.of_below hcall.out)).trans (Nr.of_turn htn) (by simpa using hy.out)) (And.intro (show IB w2 B n add from by
          have hib := HM.out.2.2.nr (Nr.of_below hcall.out)
          have e := htn.block B hib.1 (by simpa using hBy)
          refine ⟨Nat.lt_of_lt_of_le hib.1 htn.size, fun k hk => ?_⟩
          obtain ⟨c0, c1, c2, c3, c4⟩ := hib.2 k hk
          exact ⟨by rw [World.cell?_of_block (w := wq) e]; exact c0, by rw [World.cell?_of_block (w := wq) e]; exact c1, by rw [World.cell?_of_block (w := wq) e]; exact c2, by rw [World.cell?_of_block (w := wq) e]; exact c3, by rw [World.cell?_of_block (w := wq) e]; exact c4⟩) (show w2.cell? ⟨X, 0, none⟩ = some (.int .i64 (o : Nat)) ∧ w2.cell? ⟨X, 1, none⟩ = some (.int .i64 (a : Nat)) ∧ w2.cell? ⟨X, 2, none⟩ = some (.int .i64 (b : Nat)) ∧ w2.cell? ⟨X, 3, none⟩ = some (.int .i64 0) ∧ w2.cell? ⟨X, 4, none⟩ = some (.int .i32 m) ∧ w2.cell? ⟨y + 1, 0, none⟩ = some (.slice (some ⟨y, 0, none⟩) 128 cap) from by
          obtain ⟨x0, x1, x2, x3, x4⟩ := ((HX.out.nr (Nr.of_below (S := []) hcall.out) (by simp)).nr (Nr.of_turn htn) (by simpa using hyX)).cells
          exact ⟨x0, x1, x2, x3, x4, by
            rw [World.cell?_of_block (w := wq) (htn.block (y + 1) (Nat.lt_of_lt_of_le (block_lt_of_cell k1) hcall.out.size) (by simp))]; exact (KD.out _ hcall.out).2.2.2.2.2⟩))))
        clear hms htn hrun
        clear hHeld
        refine hK.out _ _ hfin.out.2.2.2 (fun hHeld => ?_)
        clear hK K
        try simp only [Act.put, List.setIfInBounds_toArray, List.set_cons_zero, List.set_cons_succ]
        refine wpAnyH_done (by kernel_rfl) ?_ _
        all_goals
          clear hHeld
          have HE := Lib.hid (show IB w2 B n add ∧ MS w2 (y + 1) y 128 0 (Cor.fl n add (k + 1)) ∧ Nr [] w w2 from ⟨hfin.out.2.2.1, by rw [HF.out]; exact hfin.out.1, hfin.out.2.1⟩)
          clear hfin hcall KD HM HX
          go_wp2_with fail
          go_roundg (5 - (k + 1))
          case rel => exact ⟨k + 1, by omega, rfl, by simp, HE⟩
          case measure => first | omega | (simp; omega)
    · as_aux_lemma =>
        obtain rfl : k = 5 := by omega
        obtain ⟨W7, e7⟩ : ∃ W7, wr.alloc (Obj.cells (rl (fun _ => 0) 0).toArray 35) = W7 := ⟨_, rfl⟩
        obtain ⟨c, ec⟩ : ∃ c, wr.heap.size = c := ⟨_, rfl⟩
        have hc7 : CS W7 c 35 (fun _ => 0) 0 := by rw [← e7, ← ec]; exact heap_alloc_new wr _
        have hm7 := hI.out.2.1.below (show Below wr.heap.size wr W7 by rw [← e7]; exact below_alloc1 wr _)
        have hn7 : Nr [] w W7 := by rw [← e7]; exact hI.out.2.2.alloc _
        have hcw : w.heap.size ≤ c := by rw [← ec]; exact hI.out.2.2.size
        have hcg : c ≠ y + 1 := by have := hI.out.2.1.lt; omega
        have hcy : c ≠ y := by have := hI.out.2.1.lt; omega
        replace e7 : wr.alloc (Obj.cells #[.int .u64 0, .int .u64 0, .int .u64 0, .int .u64 0, .int .u64 0, .int .u64 0, .int .u64 0, .int .u64 0, .int .u64 0, .int .u64 0, .int .u64 0, .int .u64 0, .int .u64 0, .int .u64 0, .int .u64 0, .int .u64 0, .int .u64 0] 35) = W7 := e7
        obtain ⟨T, eT⟩ : ∃ T, 1 + 3 * n = T := ⟨_, rfl⟩
        have T1 : T ≤ 193 := by have := HA.out; omega
        have HL := Lib.hid (show CS W7 c 35 (Cor.run n add 0).R (Cor.run n add 0).pc ∧ MS W7 (y + 1) y 128 0 (Cor.run n add 0).f ∧ Nr [] w W7 from ⟨hc7, hm7, hn7⟩)
        have ET := Lib.hid eT
        clear hI hc7 hm7 hn7 eT hlt hk hg
        go_wp2_with fail
        clear e7 ec
        go_loopg [9] T (fun gh st wr => ∃ t : Nat, t ≤ T ∧ gh = T - t ∧ st = .int .i64 t ∧ Hid (CS wr c 35 (Cor.run n add t).R (Cor.run n add t).pc ∧ MS wr (y + 1) y 128 0 (Cor.run n add t).f ∧ Nr [] w wr))
        case atStart => exact ⟨0, by omega, by omega, rfl, HL⟩
        case round =>
          obtain ⟨t, ht, hg, rfl, hI⟩ := hrel
          clear HL
          have ST := Lib.hid (step_any (s := Cor.run n add t) _ hI.out.1 hI.out.2.1 (Cor.run_f n add t) hcg hcy)
          unfold IV at ST
          by_cases hlt : t < T
          · as_aux_lemma =>
              have hr := Cor.run_ran n add HA.out.1 HA.out.2.1 HA.out.2.2.1 HA.out.2.2.2 t (by have := ET.out; omega)
              obtain ⟨s2, r, hs⟩ : ∃ s2 r, Cor.stp 128 0 (Cor.run n add t) = (s2, r) := ⟨_, _, rfl⟩
              have hnx : Cor.run n add (t + 1) = s2 := by show (Cor.stp 128 0 (Cor.run n add t)).1 = s2; rw [hs]
              rw [hs] at hr ST
              dsimp only at hr
              subst hr
              have HNX := Lib.hid hnx
              clear hs hnx
              go_wp2_with fail
              refine ST.out.mono ?_; rintro e w8 ⟨rfl, h5, h6, h7⟩
              dsimp only at h5 h6
              have HE := Lib.hid (show CS w8 c 35 (Cor.run n add (t + 1)).R (Cor.run n add (t + 1)).pc ∧ MS w8 (y + 1) y 128 0 (Cor.run n add (t + 1)).f ∧ Nr [] w w8 from by
                rw [HNX.out]
                exact ⟨h5, h6, hI.out.2.2.trans h7 (by intro x hx; simp only [List.mem_cons, List.mem_nil_iff, or_false] at hx; rcases hx with rfl | rfl; exact .inr hcw; exact .inr hy.out)⟩)
              clear h5 h6 h7 ST hI
              go_wp2_with fail
              go_roundg (T - (t + 1))
              case rel => exact ⟨t + 1, by omega, rfl, by simp, HE⟩
              case measure => first | omega | (simp; omega)
          · as_aux_lemma =>
              obtain rfl : t = T := by omega
              have he := Cor.run_end n add HA.out.1 HA.out.2.1 HA.out.2.2.1 HA.out.2.2.2
              rw [ET.out] at he
              rw [he.2] at ST
              go_wp2_with fail
              refine ST.out.mono ?_; rintro e w8 ⟨rfl, h5, h6, h7⟩
              dsimp only at h5
              have HN := Lib.hid (hI.out.2.2.trans h7 (by intro x hx; simp only [List.mem_cons, List.mem_nil_iff, or_false] at hx; rcases hx with rfl | rfl; exact .inr hcw; exact .inr hy.out))
              have p1 : w8.cell? ⟨c, 1, none⟩ = some (.int .u64 0) := h5.cell (k := 1) (by decide)
              have p2 : w8.cell? ⟨c, 2, none⟩ = some (.int .u64 (Cor.sm add n : Nat)) := h5.cell (k := 2) (by decide)
              have p16 : w8.cell? ⟨c, 16, none⟩ = some (.int .u64 32) := h5.next
              obtain ⟨v, ev⟩ : ∃ v, Cor.sm add n = v := ⟨_, rfl⟩
              rw [ev] at p2
              have t7 := t_eq n t ET.out
              have t1 := w_add add HA.out.2.2.1 HA.out.2.2.2
              obtain ⟨z, ez⟩ : ∃ z : Int, (n : Int) * add = z := ⟨_, rfl⟩
              have hz := hz_in n add z HA.out.2.1 HA.out.2.2.1 HA.out.2.2.2 ez
              have t2 := w_zi z hz.1 hz.2
              have t3 := w_u z v (by rw [← ev]; unfold Cor.sm; rw [ez])
              clear he h5 h6 h7 ST hI ev
              have hz1 := hz.1
              have hz2 := hz.2
              clear hz
              go_wp2_with fail
              go_ret
              exact ⟨by simp, HN.out⟩
end Go.Proofs.Ytojnokaeopadfaa
