/- What ends a program badly changes nothing. -/
import Derived.Test.YtojnokaeopadfaaKc
import Derived.BigRegion
import Derived.Deep.MidRow
set_option linter.unusedVariables false
set_option linter.unusedSimpArgs false
namespace Go.Proofs.Ytojnokaeopadfaa
open Go.RowKit

set_option maxRecDepth 100000 in
set_option maxHeartbeats 2000000 in
theorem ends_all (op a b d m : Int) (A : Option Addr) (n cp : Nat) (us : List Nat) (pc : Nat) (w : World) (hn : us.length = n) (h16 : n ≤ 16) (hu : ∀ x ∈ us, x < 18446744073709551616) (hr : UR w A us) (hpc : pc < 18446744073709551616) :
    Calls Try.prog 4 #[.agg #[.int .i64 op, .int .i64 a, .int .i64 b, .int .i64 d, .int .i32 m], .slice A n cp, .int .u64 (pc : Nat)] w fun e w' => e = .returned (.bool true) ∧ Nr [] w w' := by
  have F := Lib.hid (fun (W : World) => fit_any W)
  obtain ⟨X, eX⟩ : ∃ X, w.heap.size = X := ⟨_, rfl⟩
  obtain ⟨W1, e1⟩ : ∃ W1, w.alloc (Obj.cells #[.int .i64 op, .int .i64 a, .int .i64 b, .int .i64 d, .int .i32 m] 27) = W1 := ⟨_, rfl⟩
  have hx1 : W1.heap[X]? = some (Obj.cells #[.int .i64 op, .int .i64 a, .int .i64 b, .int .i64 d, .int .i32 m] 27) := by rw [← e1, ← eX]; exact heap_alloc_new w _
  have hn1 : Nr [] w W1 := by rw [← e1]; exact (Nr.refl _ _).alloc _
  have HH := Lib.hid (And.intro hx1 hn1)
  have HU := Lib.hid (And.intro hn (And.intro hu hr))
  have HP := Lib.hid hpc
  have hgt : ¬ ((n : Int) > 16) := by omega
  have a1 := i64_and15 a
  have a2 := i64_and15 b
  have a3 := i64_and15 d
  obtain ⟨ra, ea⟩ : ∃ ra, (a % 16).toNat = ra := ⟨_, rfl⟩
  obtain ⟨rb, eb⟩ : ∃ rb, (b % 16).toNat = rb := ⟨_, rfl⟩
  obtain ⟨rd, ed⟩ : ∃ rd, (d % 16).toNat = rd := ⟨_, rfl⟩
  rw [ea] at a1
  rw [eb] at a2
  rw [ed] at a3
  clear hx1 hn1 hn hu hr hpc ea eb ed
  go_enter Try.func4, Try.ntmps4
  go_wp2_with fail
  refine (F.out _).mono ?_; rintro e w1 ⟨rfl, hf⟩
  have hx := (hf.block X (Array.getElem?_eq_some_iff.1 HH.out.1).1 (by simp)).trans HH.out.1
  have HN1 := Lib.hid (HH.out.2.next hf)
  have q1 := cell_of_row _ _ 1 _ 27 (0, 0) hx
  have q2 := cell_of_row _ _ 2 _ 27 (0, 0) hx
  have q3 := cell_of_row _ _ 3 _ 27 (0, 0) hx
  have f1 := frozen_of_row _ _ 1 _ 27 hx
  have f2 := frozen_of_row _ _ 2 _ 27 hx
  have f3 := frozen_of_row _ _ 3 _ 27 hx
  simp only [List.getElem?_toArray, List.getElem?_cons_zero, List.getElem?_cons_succ] at q1 q2 q3
  have HX := Lib.hid hx
  clear F hf HH hx e1
  go_upto_region 6 with fail
  obtain ⟨W2, e2⟩ : ∃ W2, (((w1.setCell ⟨X, 1, none⟩ (.int .i64 (ra : Nat))).setCell ⟨X, 2, none⟩ (.int .i64 (rb : Nat))).setCell ⟨X, 3, none⟩ (.int .i64 (rd : Nat))) = W2 := ⟨_, rfl⟩
  have hx2 : XS W2 X op ra rb rd m := by
    rw [← e2]
    exact heap_setCell_same _ _ 3 _ 27 (.int .i64 (rd : Nat)) (heap_setCell_same _ _ 2 _ 27 (.int .i64 (rb : Nat)) (heap_setCell_same _ _ 1 _ 27 (.int .i64 (ra : Nat)) HX.out))
  have hn2 : Nr [] w W2 := by
    rw [← e2]
    exact ((HN1.out.set (b := X) (.inr (by omega)) 1 _).set (b := X) (.inr (by omega)) 2 _).set (b := X) (.inr (by omega)) 3 _
  rw [e2]
  have hmk := run_bytes W2 128 (by omega)
  rw [show ((128 : Nat) : Int) = 128 from rfl] at hmk
  have hm := ms_made W2 128 (by omega) 0
  obtain ⟨W0, e0⟩ : ∃ W0, W2.alloc (Obj.cells (Y (List.replicate 128 0)).toArray 5) = W0 := ⟨_, rfl⟩
  obtain ⟨y, ey⟩ : ∃ y, W2.heap.size = y := ⟨_, rfl⟩
  have eg : W0.heap.size = y + 1 := by rw [← e0, World.size_alloc, ey]
  rw [e0, ey] at hm hmk
  obtain ⟨W3, e3⟩ : ∃ W3, W0.alloc (Obj.cells #[.slice (some ⟨y, 0, none⟩) 128 128, .int .i64 0] 31) = W3 := ⟨_, rfl⟩
  rw [e3] at hm
  have hn : Nr [] w W3 := by rw [← e3, ← e0]; exact (hn2.alloc _).alloc _
  have hx3 : XS W3 X op ra rb rd m := by rw [← e3, ← e0]; exact hx2.nr (((Nr.refl [] W2).alloc _).alloc _) (by simp)
  have C := Lib.hid (fun (W : World) => encode_any op ra rb rd m W)
  have hyX : X ≠ y := by have := hx2.lt; omega
  have HM := Lib.hid (And.intro hm hn)
  obtain ⟨cap, k0, _, hcap, _⟩ := hm.cells
  have hy := Lib.hid (show w.heap.size ≤ y by have := hn2.size; omega)
  have HX3 := Lib.hid hx3
  have KD := Lib.hid (fun (W : World) (h : Below W3.heap.size W3 W) => (show W.cell? ⟨X, 0, none⟩ = some (.int .i64 op) ∧ W.cell? ⟨X, 1, none⟩ = some (.int .i64 (ra : Nat)) ∧ W.cell? ⟨X, 2, none⟩ = some (.int .i64 (rb : Nat)) ∧ W.cell? ⟨X, 3, none⟩ = some (.int .i64 (rd : Nat)) ∧ W.cell? ⟨X, 4, none⟩ = some (.int .i32 m) ∧ W.cell? ⟨y + 1, 0, none⟩ = some (.slice (some ⟨y, 0, none⟩) 128 cap) from
    by
      obtain ⟨x0, x1, x2, x3, x4⟩ := (HX3.out.nr (Nr.of_below (S := []) h) (by simp)).cells
      exact ⟨x0, x1, x2, x3, x4, by rw [h.cell (block_lt_of_cell k0)]; exact k0⟩))
  have hcall := Lib.hid ((Below.refl W3.heap.size W3).drew)
  have HB := Lib.hid (byte_enc op ra rb rd m)
  clear hx2 hn2 hm hn hx3 HX HN1 a1 a2 a3 q1 q2 q3 f1 f2 f3 e2
  go_upto_region 7 with fail
  clear hmk e0 e3 eg ey
  go_region_held3 (fun w' => w'.cell? ⟨X, 0, none⟩ = some (.int .i64 op) ∧ w'.cell? ⟨X, 1, none⟩ = some (.int .i64 (ra : Nat)) ∧ w'.cell? ⟨X, 2, none⟩ = some (.int .i64 (rb : Nat)) ∧ w'.cell? ⟨X, 3, none⟩ = some (.int .i64 (rd : Nat)) ∧ w'.cell? ⟨X, 4, none⟩ = some (.int .i32 m) ∧ w'.cell? ⟨y + 1, 0, none⟩ = some (.slice (some ⟨y, 0, none⟩) 128 cap))
    (first | exact KD.out _ hcall.out | exact hfin.out.2.2)
    (first
      | (go_at_call 8; refine (C.out _).mono ?_; rintro e wq ⟨z, rfl, hbr, hb⟩; replace hcall := Lib.hid (hcall.out.trans (hb.mono hcall.out.size)); have HBR := Lib.hid hbr; clear hbr hb)
      | (obtain ⟨w2, hrun, hms, htn⟩ := copy_ms (HM.out.1.below hcall.out) 3 64 64 (cap - 64) _ _ rfl (by omega) (by omega) HBR.out
         refine step_copy rfl (.tmp 36) (.tmp 38) 25 25 rfl _ _ _ rfl rfl w2 hrun ?_
         have hfin := Lib.hid (And.intro hms (And.intro ((HM.out.2.next (Nr.of_below hcall.out)).trans (Nr.of_turn htn) (by simpa using hy.out)) (show w2.cell? ⟨X, 0, none⟩ = some (.int .i64 op) ∧ w2.cell? ⟨X, 1, none⟩ = some (.int .i64 (ra : Nat)) ∧ w2.cell? ⟨X, 2, none⟩ = some (.int .i64 (rb : Nat)) ∧ w2.cell? ⟨X, 3, none⟩ = some (.int .i64 (rd : Nat)) ∧ w2.cell? ⟨X, 4, none⟩ = some (.int .i32 m) ∧ w2.cell? ⟨y + 1, 0, none⟩ = some (.slice (some ⟨y, 0, none⟩) 128 cap) from
           by
             obtain ⟨x0, x1, x2, x3, x4⟩ := ((HX3.out.nr (Nr.of_below (S := []) hcall.out) (by simp)).nr (Nr.of_turn htn) (by simpa using hyX)).cells
             exact ⟨x0, x1, x2, x3, x4, by
               rw [World.cell?_of_block (w := wq) (htn.block (y + 1) (Nat.lt_of_lt_of_le (block_lt_of_cell k0) hcall.out.size) (by simp))]; exact (KD.out _ hcall.out).2.2.2.2.2⟩)))
         clear hms htn hrun))
  all_goals
    as_aux_lemma =>
      have HM2 := Lib.hid (And.intro hfin.out.1 hfin.out.2.1)
      clear hfin hcall KD HM HX3 hyX k0
      obtain ⟨W4, e4⟩ : ∃ W4, w2.alloc (Obj.cells (rl (fun _ => 0) 64).toArray 35) = W4 := ⟨_, rfl⟩
      obtain ⟨c, ec⟩ : ∃ c, w2.heap.size = c := ⟨_, rfl⟩
      have hc4 : CS W4 c 35 (fun _ => 0) 64 := by rw [← e4, ← ec]; exact heap_alloc_new w2 _
      have hm4 := HM2.out.1.below (show Below w2.heap.size w2 W4 by rw [← e4]; exact below_alloc1 w2 _)
      have hn4 : Nr [] w W4 := by rw [← e4]; exact HM2.out.2.alloc _
      have hcw : w.heap.size ≤ c := by rw [← ec]; exact HM2.out.2.size
      have hcg : c ≠ y + 1 := by have := HM2.out.1.lt; omega
      have hcy : c ≠ y := by have := HM2.out.1.lt; omega
      replace e4 : w2.alloc (Obj.cells #[.int .u64 0, .int .u64 0, .int .u64 0, .int .u64 0, .int .u64 0, .int .u64 0, .int .u64 0, .int .u64 0, .int .u64 0, .int .u64 0, .int .u64 0, .int .u64 0, .int .u64 0, .int .u64 0, .int .u64 0, .int .u64 0, .int .u64 64] 35) = W4 := e4
      have kn := hc4.next
      have kf := hc4.free 16
      have HC4 := Lib.hid hc4
      have HMN := Lib.hid (And.intro hm4 hn4)
      clear hc4 hm4 hn4 HM2
      go_upto_if 43 with fail
      go_cut [] (fun wx => ∃ p5 : Nat, Hid (p5 < 18446744073709551616 ∧ CS wx c 35 (fun _ => 0) p5 ∧ MS wx (y + 1) y 128 0 (Cor.lay (fun _ => 0) 64 (Isa.enc op ra rb rd m)) ∧ Nr [] w wx))
      case first =>
        have HE := Lib.hid (And.intro (HC4.out.go pc) (And.intro (HMN.out.1.nr (Nr.of_turn (Turn.set W4 c 16 (.int .u64 (pc : Nat)))) (by simpa using fun e => hcg e.symm) (by simpa using fun e => hcy e.symm)) (HMN.out.2.set (b := c) (.inr hcw) 16 (.int .u64 (pc : Nat)))))
        go_wp2_with fail
        · go_meet
          exact ⟨pc, Lib.hid ⟨HP.out, HE.out⟩⟩
        · go_meet
          exact ⟨64, Lib.hid ⟨by omega, HC4.out, HMN.out⟩⟩
      case rest =>
        clear HC4 HMN kn kf e4
        obtain ⟨p5, h5⟩ := hcut
        have HP5 := Lib.hid h5.out.1
        have hc5 := h5.out.2.1
        have hm5 := h5.out.2.2.1
        have hn5 := h5.out.2.2.2
        clear h5
        obtain ⟨w6, hrun6, hc6, ht6⟩ := copy_core hc5 3 A n cp us HU.out.1 h16 (HU.out.2.2.nr hn5)
        have hm6 := hm5.nr (Nr.of_turn ht6) (by simpa using fun e => hcg e.symm) (by simpa using fun e => hcy e.symm)
        have hn6 := hn5.trans (Nr.of_turn ht6) (by simpa using hcw)
        have H6 := Lib.hid (And.intro hc6 (And.intro hm6 hn6))
        clear hc5 hm5 hn5 hc6 ht6 hm6 hn6
        go_upto_region 12 with fail
        clear hrun6
        obtain ⟨Q, eQ⟩ : ∃ Q, Cor.fill us (fun _ => 0) = Q := ⟨_, rfl⟩
        have hQ : ∀ i, Q i < 18446744073709551616 := by rw [← eQ]; exact Cor.fill_lt (fun _ => Nat.zero_lt_succ _) HU.out.2.1
        obtain ⟨G, eG⟩ : ∃ G, Cor.lay (fun _ => 0) 64 (Isa.enc op ra rb rd m) = G := ⟨_, rfl⟩
        have hG : ∀ i, G i < 256 := by rw [← eG]; exact Cor.lay_lt (fun _ => Nat.zero_lt_succ _) 64 HB.out
        rw [eQ, eG] at H6
        have HQG := Lib.hid (And.intro hQ hG)
        clear eQ eG hQ hG
        obtain ⟨cap2, j0, _, hcap2, _⟩ := H6.out.2.1.cells
        obtain ⟨ST, eS⟩ : ∃ ST, Str ((List.range 128).map G) = ST := ⟨_, rfl⟩
        have HS := Lib.hid eS
        have KS := Lib.hid (fun (W : World) (h : Nr [] w6 W) => (show W.rangeAt c 0 (rl Q p5) ∧ W.cell? ⟨y + 1, 0, none⟩ = some (.slice (some ⟨y, 0, none⟩) 128 cap2) ∧ (convert 25 9 (.slice (some ⟨y, 0, none⟩) 128 cap2)).run Try.prog W = .ok (.string ST) W from by
          exact ⟨(H6.out.1.nr h (by simp)).range, by rw [World.cell?_of_block (w := w6) (h.block (y + 1) (block_lt_of_cell j0) (by simp))]; exact j0,
            by rw [← eS]; exact conv_bytes W (some ⟨y, 0, none⟩) 128 cap2 ((List.range 128).map G) (by simp) (H6.out.2.1.nr h (by simp) (by simp)).bk.br⟩))
        clear j0 eS
        as_aux_lemma =>
          refine wp_region_held_drew (S := fun w' => w'.rangeAt c 0 (rl Q p5) ∧ w'.cell? ⟨y + 1, 0, none⟩ = some (.slice (some ⟨y, 0, none⟩) 128 cap2) ∧ (convert 25 9 (.slice (some ⟨y, 0, none⟩) 128 cap2)).run Try.prog w' = .ok (.string ST) w') (by kernel_rfl) (KS.out _ (Nr.refl _ _).drew) (fun hHeld => ?_)
          refine wpAnyH_take (i := 0) (oi := _) (v := .agg #[.int .u64 (Q 0 : Nat), .int .u64 (Q 1 : Nat), .int .u64 (Q 2 : Nat), .int .u64 (Q 3 : Nat), .int .u64 (Q 4 : Nat), .int .u64 (Q 5 : Nat), .int .u64 (Q 6 : Nat), .int .u64 (Q 7 : Nat), .int .u64 (Q 8 : Nat), .int .u64 (Q 9 : Nat), .int .u64 (Q 10 : Nat), .int .u64 (Q 11 : Nat), .int .u64 (Q 12 : Nat), .int .u64 (Q 13 : Nat), .int .u64 (Q 14 : Nat), .int .u64 (Q 15 : Nat), .int .u64 (p5 : Nat)]) rfl (by kernel_rfl) (by kernel_rfl) (by kernel_rfl) (fun _ _ _ h => h) (yieldsIf_load_mid (by rfl) 35 (.tmp 8) rfl c 0 rfl (rl Q p5) _ (fun w hw => hw.1) Try.underlying35 rfl size35) hHeld ?_
          simp only [Act.put, List.setIfInBounds_toArray, List.set_cons_zero, List.set_cons_succ]
          refine wpAnyH_take (i := 1) (oi := _) (v := ?vv1) rfl (by kernel_rfl) (by kernel_rfl) (by kernel_rfl) (fun _ _ _ h => h) (Or.inl ⟨by rfl, ?hy1⟩) hHeld ?rest1
          case hy1 => (intro wS hSw; (try dsimp only at hSw); go_simp; try with_reducible rfl)
          simp only [Act.put, List.setIfInBounds_toArray, List.set_cons_zero, List.set_cons_succ]
          refine wpAnyH_take (i := 2) (oi := _) (v := ?vv2) rfl (by kernel_rfl) (by kernel_rfl) (by kernel_rfl) (fun _ _ _ h => h) (Or.inl ⟨by rfl, ?hy2⟩) hHeld ?rest2
          case hy2 => (intro wS hSw; (try dsimp only at hSw); go_simp; try with_reducible rfl)
          simp only [Act.put, List.setIfInBounds_toArray, List.set_cons_zero, List.set_cons_succ]
          refine wpAnyH_take (i := 3) (oi := _) (v := ?vv3) rfl (by kernel_rfl) (by kernel_rfl) (by kernel_rfl) (fun _ _ _ h => h) (Or.inl ⟨by rfl, ?hy3⟩) hHeld ?rest3
          case hy3 => (intro wS hSw; (try dsimp only at hSw); go_simp; try with_reducible rfl)
          simp only [Act.put, List.setIfInBounds_toArray, List.set_cons_zero, List.set_cons_succ]
          refine wpAnyH_take (i := 4) (oi := _) (v := ?vv4) rfl (by kernel_rfl) (by kernel_rfl) (by kernel_rfl) (fun _ _ _ h => h) (Or.inl ⟨by rfl, ?hy4⟩) hHeld ?rest4
          case hy4 => (intro wS hSw; (try dsimp only at hSw); go_simp; try with_reducible rfl)
          simp only [Act.put, List.setIfInBounds_toArray, List.set_cons_zero, List.set_cons_succ]
          refine wpAnyH_take (i := 5) (oi := _) (v := ?vv5) rfl (by kernel_rfl) (by kernel_rfl) (by kernel_rfl) (fun _ _ _ h => h) (Or.inl ⟨by rfl, ?hy5⟩) hHeld ?rest5
          case hy5 => (intro wS hSw; (try dsimp only at hSw); go_simp; try with_reducible rfl)
          simp only [Act.put, List.setIfInBounds_toArray, List.set_cons_zero, List.set_cons_succ]
          refine wpAnyH_ready (rs := [6]) (by kernel_rfl) (by simp) ?_
          refine AllReadyH.cons (o := _) rfl (fun K hK => ?_) AllReadyH.nil
          go_simp
          clear hHeld
          refine hK.out _ _ (KS.out _ ((Nr.refl _ _).drew.alloc _)) (fun hHeld => ?_)
          clear hK K
          try simp only [Act.put, List.setIfInBounds_toArray, List.set_cons_zero, List.set_cons_succ]
          refine wpAnyH_ready (rs := [7]) (by kernel_rfl) (by simp) ?_
          refine AllReadyH.cons (o := _) rfl (fun K hK => ?_) AllReadyH.nil
          go_simp
          clear hHeld
          refine hK.out _ _ (KS.out _ ((Nr.refl _ _).alloc _).drew) (fun hHeld => ?_)
          clear hK K
          try simp only [Act.put, List.setIfInBounds_toArray, List.set_cons_zero, List.set_cons_succ]
          refine wpAnyH_take (i := 8) (oi := _) (v := ?vv8) rfl (by kernel_rfl) (by kernel_rfl) (by kernel_rfl) (fun _ _ _ h => h) (Or.inl ⟨by rfl, ?hy8⟩) hHeld ?rest8
          case hy8 => (intro wS hSw; (try dsimp only at hSw); go_simp; try with_reducible rfl)
          simp only [Act.put, List.setIfInBounds_toArray, List.set_cons_zero, List.set_cons_succ]
          refine wpAnyH_done (by kernel_rfl) ?_ _
          as_aux_lemma =>
            obtain ⟨W7, e7⟩ : ∃ W7, (w6.alloc (Obj.cells #[.int .u64 (Q 0 : Nat), .int .u64 (Q 1 : Nat), .int .u64 (Q 2 : Nat), .int .u64 (Q 3 : Nat), .int .u64 (Q 4 : Nat), .int .u64 (Q 5 : Nat), .int .u64 (Q 6 : Nat), .int .u64 (Q 7 : Nat), .int .u64 (Q 8 : Nat), .int .u64 (Q 9 : Nat), .int .u64 (Q 10 : Nat), .int .u64 (Q 11 : Nat), .int .u64 (Q 12 : Nat), .int .u64 (Q 13 : Nat), .int .u64 (Q 14 : Nat), .int .u64 (Q 15 : Nat), .int .u64 (p5 : Nat)] 35)).drew = W7 := ⟨_, rfl⟩
            have hn7 : Nr [] w6 W7 := by rw [← e7]; exact ((Nr.refl _ _).alloc _).drew
            obtain ⟨c2, ec2⟩ : ∃ c2, w6.heap.size = c2 := ⟨_, rfl⟩
            have ho7 : CS W7 c2 35 Q p5 := by rw [← e7, ← ec2]; exact heap_alloc_new w6 _
            have hc7 := H6.out.1.nr hn7 (by simp)
            have hm7 := H6.out.2.1.nr hn7 (by simp) (by simp)
            have hcc : c2 ≠ c := by have := H6.out.1.lt; omega
            have hc2y : c2 ≠ y := by have := H6.out.2.1.lt; omega
            have ST7 := Lib.hid (step_any (s := ⟨Q, p5, G⟩) W7 hc7 hm7 ⟨HQG.out.1, HP5.out, HQG.out.2⟩ hcg hcy)
            have hw7 := H6.out.2.2.next hn7
            obtain ⟨s2, r, hr⟩ : ∃ s2 r, Cor.stp 128 0 ⟨Q, p5, G⟩ = (s2, r) := ⟨_, _, rfl⟩
            have hbad := Cor.stp_bad 128 0 ⟨Q, p5, G⟩
            rw [hr] at ST7 hbad
            dsimp only at hbad
            have HBAD := Lib.hid hbad
            have HO7 := Lib.hid (And.intro ho7 hw7)
            unfold IV at ST7
            rw [e7]
            clear hHeld hn7 ho7 hc7 hm7 hw7 hr hbad KS e7
            go_wp2_with fail
            refine ST7.out.mono ?_; rintro e w8 ⟨rfl, h5, h6, h7⟩
            have HN8 := Lib.hid (HO7.out.2.trans h7 (by intro x hx; simp only [List.mem_cons, List.mem_nil_iff, or_false] at hx; rcases hx with rfl | rfl; exact .inr hcw; exact .inr hy.out))
            have H8 := Lib.hid (And.intro h5 (And.intro h6 (HO7.out.1.nr h7 (by simp [hcc, hc2y]))))
            dsimp only at H8
            clear h5 h6 h7 ST7
            by_cases hle : r ≤ 1
            · clear H8 HBAD
              go_wp2_with fail
              go_ret
              exact ⟨rfl, HN8.out⟩
            · as_aux_lemma =>
                have hs2 := HBAD.out (by omega)
                subst hs2
                dsimp only at H8
                obtain ⟨p0, p1, p2, p3, p4, p5, p6, p7, p8, p9, p10, p11, p12, p13, p14, p15, p16⟩ := H8.out.1.all
                obtain ⟨o0, o1, o2, o3, o4, o5, o6, o7, o8, o9, o10, o11, o12, o13, o14, o15, o16⟩ := H8.out.2.2.all
                obtain ⟨cap3, j3, _⟩ := H8.out.2.1.cells
                have cv : (convert 25 9 (.slice (some ⟨y, 0, none⟩) 128 cap3)).run Try.prog w8 = .ok (.string ST) w8 := by rw [← HS.out]; exact conv_bytes w8 (some ⟨y, 0, none⟩) 128 cap3 ((List.range 128).map G) (by simp) H8.out.2.1.bk.br
                have eqc : (Op.equalIn 9999 33 (.agg #[.int .u64 (Q 0 : Nat), .int .u64 (Q 1 : Nat), .int .u64 (Q 2 : Nat), .int .u64 (Q 3 : Nat), .int .u64 (Q 4 : Nat), .int .u64 (Q 5 : Nat), .int .u64 (Q 6 : Nat), .int .u64 (Q 7 : Nat), .int .u64 (Q 8 : Nat), .int .u64 (Q 9 : Nat), .int .u64 (Q 10 : Nat), .int .u64 (Q 11 : Nat), .int .u64 (Q 12 : Nat), .int .u64 (Q 13 : Nat), .int .u64 (Q 14 : Nat), .int .u64 (Q 15 : Nat)]) (.agg #[.int .u64 (Q 0 : Nat), .int .u64 (Q 1 : Nat), .int .u64 (Q 2 : Nat), .int .u64 (Q 3 : Nat), .int .u64 (Q 4 : Nat), .int .u64 (Q 5 : Nat), .int .u64 (Q 6 : Nat), .int .u64 (Q 7 : Nat), .int .u64 (Q 8 : Nat), .int .u64 (Q 9 : Nat), .int .u64 (Q 10 : Nat), .int .u64 (Q 11 : Nat), .int .u64 (Q 12 : Nat), .int .u64 (Q 13 : Nat), .int .u64 (Q 14 : Nat), .int .u64 (Q 15 : Nat)])).run Try.prog w8 = .ok true w8 := equal_arr Q HQG.out.1 w8 9995
                clear H8 HBAD HQG HU HB
                go_wp2_with fail
                skip
                go_ret
                exact ⟨by simp, HN8.out⟩
end Go.Proofs.Ytojnokaeopadfaa
