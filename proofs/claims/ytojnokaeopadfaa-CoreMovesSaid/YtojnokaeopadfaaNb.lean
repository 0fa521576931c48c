/- What is stored is loaded again. -/
import Derived.Test.YtojnokaeopadfaaLn
import Derived.Test.YtojnokaeopadfaaKb
set_option linter.unusedVariables false
set_option linter.unusedSimpArgs false
namespace Go.Proofs.Ytojnokaeopadfaa
open Go.RowKit

theorem str_size (bs : List Nat) : (Str bs).size = bs.length := by
  unfold Str strOfNums
  simp [ByteArray.size]
theorem str_part (bs : List Nat) (i j : Nat) : (Str bs).extract i j = Str ((bs.drop i).take (j - i)) := by
  apply ByteArray.ext
  rw [ByteArray.data_extract]
  apply Array.ext'
  unfold Str strOfNums
  simp [Array.toList_extract, List.extract_eq_take_drop]
theorem br_part {w : World} {b off : Nat} {L : List Nat} (h : BR w (some ⟨b, off, none⟩) L) (i k : Nat) : BR w (some ⟨b, off + i, none⟩) ((L.drop i).take k) := fun j x hx => by
  have hj : j < k := by
    have := (List.getElem?_eq_some_iff.1 hx).1
    rw [List.length_take] at this; omega
  rw [List.getElem?_take_of_lt hj, List.getElem?_drop] at hx
  obtain ⟨b', o', e, h1, h2⟩ := h (i + j) x hx
  injection e with e
  injection e with e1 e2
  subst e1 e2
  exact ⟨_, _, rfl, h1, by rw [Nat.add_assoc]; exact h2⟩
theorem part_same (n i k : Nat) (f g : Nat → Nat) (h : ∀ j, i ≤ j → j < i + k → f j = g j) : (((List.range n).map f).drop i).take k = (((List.range n).map g).drop i).take k := by
  refine List.ext_getElem? fun j => ?_
  by_cases hj : j < k
  · rw [List.getElem?_take_of_lt hj, List.getElem?_take_of_lt hj, List.getElem?_drop, List.getElem?_drop, List.getElem?_map, List.getElem?_map]
    by_cases hn : i + j < n
    · rw [List.getElem?_range hn]
      show some (f (i + j)) = some (g (i + j))
      rw [h _ (by omega) (by omega)]
    · rw [List.getElem?_eq_none (by simpa using hn)]
      rfl
  · rw [List.getElem?_eq_none (by rw [List.length_take]; omega), List.getElem?_eq_none (by rw [List.length_take]; omega)]
theorem part_len (n i k : Nat) (f : Nat → Nat) (h : i + k ≤ n) : ((((List.range n).map f).drop i).take k).length = k := by
  rw [List.length_take, List.length_drop, List.length_map, List.length_range]; omega
theorem and_u8 (q : Nat) (hq : q < 18446744073709551616) : bits .and .u64 (q : Int) 255 = ((q % 256 : Nat) : Int) := by
  have h127 : (BitVec.ofInt 64 255).toNat = 2 ^ 8 - 1 := by decide
  have key : (BitVec.ofInt 64 (q : Int) &&& BitVec.ofInt 64 255).toNat = q % 2 ^ 8 := by
    rw [BitVec.toNat_and, BitVec.toNat_ofInt, h127, Nat.and_two_pow_sub_one_eq_mod]
    omega
  show IntKind.u64.wrap ((BitVec.ofInt 64 (q : Int) &&& BitVec.ofInt 64 255).toNat : Nat) = _
  rw [key, wrap64]
  omega
theorem and_u32 (q : Nat) (hq : q < 18446744073709551616) : bits .and .u64 (q : Int) 4294967295 = ((q % 4294967296 : Nat) : Int) := by
  have h127 : (BitVec.ofInt 64 4294967295).toNat = 2 ^ 32 - 1 := by decide
  have key : (BitVec.ofInt 64 (q : Int) &&& BitVec.ofInt 64 4294967295).toNat = q % 2 ^ 32 := by
    rw [BitVec.toNat_and, BitVec.toNat_ofInt, h127, Nat.and_two_pow_sub_one_eq_mod]
    omega
  show IntKind.u64.wrap ((BitVec.ofInt 64 (q : Int) &&& BitVec.ofInt 64 4294967295).toNat : Nat) = _
  rw [key, wrap64]
  omega
theorem w_small (n : Nat) (h : n ≤ 1000) : RowKit.wrap64 (n : Int) = n := by unfold RowKit.wrap64; omega
theorem w_slot (u d z v : Nat) (h1 : u ≤ 127) (h2 : (u : Int) * (d : Int) = (z : Nat)) (h3 : z ≤ 127) (h4 : (z : Int) + 64 = (v : Nat)) (h5 : v ≤ 191) : RowKit.wrap64 (RowKit.wrap64 (RowKit.wrap64 (u : Int) * (d : Int)) + 64) = (v : Nat) := by
  rw [w_small u (by omega), h2, w_small z (by omega), h4, w_small v (by omega)]
theorem i64_and127 (n : Int) : bits .and .i64 n 127 = ((n % 128).toNat : Nat) := by
  have h127 : (BitVec.ofInt 64 127).toNat = 2 ^ 7 - 1 := by decide
  have key : (BitVec.ofInt 64 n &&& BitVec.ofInt 64 127).toNat = (n % ((2 ^ 64 : Nat) : Int)).toNat % 2 ^ 7 := by
    rw [BitVec.toNat_and, BitVec.toNat_ofInt, h127, Nat.and_two_pow_sub_one_eq_mod]
  show IntKind.i64.wrap ((BitVec.ofInt 64 n &&& BitVec.ofInt 64 127).toNat : Nat) = _
  rw [key, IntKind.wrap_i64]
  omega
theorem wid_at (w : World) (h : Nat) (hh : h < 3) : (w.alloc (Obj.cells #[.int .i64 8, .int .i64 4, .int .i64 1] 3)).cell? ⟨w.heap.size, h, none⟩ = some (.int .i64 (Cor.wd h : Nat)) := by
  rw [cell_of_row _ _ _ _ 3 (0, 0) (heap_alloc_new w _)]
  match h, hh with
  | 0, _ => rfl
  | 1, _ => rfl
  | 2, _ => rfl
theorem rem3 (n : Int) : -3 < n.tmod 3 ∧ n.tmod 3 < 3 := by
  rcases Int.le_total 0 n with h | h
  · rw [Int.tmod_eq_emod_of_nonneg h]; omega
  · obtain ⟨k, rfl⟩ : ∃ k : Nat, n = -(k : Int) := ⟨n.natAbs, by omega⟩
    rw [Int.neg_tmod, Int.tmod_eq_emod_of_nonneg (by omega)]; omega
theorem at_in (q d : Nat) (hd : d = 1 ∨ d = 4 ∨ d = 8) (hq : q < 128) : q / d * d ≤ 127 ∧ (q / d * d + 64) % d = 0 ∧ q / d * d + 64 + d ≤ 256 ∧ ((q : Int).tdiv (d : Int) = ((q / d : Nat) : Int)) := by
  refine ⟨?_, ?_, ?_, ?_⟩
  · rcases hd with rfl | rfl | rfl <;> omega
  · rcases hd with rfl | rfl | rfl <;> omega
  · rcases hd with rfl | rfl | rfl <;> omega
  · rw [Int.tdiv_eq_ediv_of_nonneg (by omega)]; rfl
set_option maxRecDepth 100000 in
set_option maxHeartbeats 8000000 in
theorem moves_all (x : Nat) (pos how : Int) (w : World) (hx : x < 18446744073709551616) : Calls Try.prog 6 #[.int .u64 (x : Nat), .int .i64 pos, .int .i64 how] w fun e w' => e = .returned (.bool true) ∧ Nr [] w w' := by
  have F := Lib.hid (fun (W : World) => fit_any W)
  have HX0 := Lib.hid hx
  clear hx
  obtain ⟨r, er⟩ : ∃ r, how.tmod 3 = r := ⟨_, rfl⟩
  have r1 : -3 < r := by rw [← er]; exact (rem3 how).1
  have r2 : r < 3 := by rw [← er]; exact (rem3 how).2
  obtain ⟨h, eh⟩ : ∃ h : Nat, (r + 3).tmod 3 = (h : Int) := ⟨((r + 3) % 3).toNat, by rw [Int.tmod_eq_emod_of_nonneg (by omega)]; omega⟩
  have h3 : (h : Int) < 3 := by rw [← eh]; exact (rem3 (r + 3)).2
  have hh : h < 3 := by omega
  obtain ⟨d, ed⟩ : ∃ d, Cor.wd h = d := ⟨_, rfl⟩
  have hd := Cor.wd_in h
  rw [ed] at hd
  have a1 := i64_and127 pos
  obtain ⟨q, eq⟩ : ∃ q, (pos % 128).toNat = q := ⟨_, rfl⟩
  have hq : q < 128 := by omega
  rw [eq] at a1
  obtain ⟨z1, z2, z3, z4⟩ := at_in q d hd hq
  obtain ⟨u, eu⟩ : ∃ u, q / d = u := ⟨_, rfl⟩
  rw [eu] at z1 z2 z3 z4
  have wu : u ≤ 127 := by rw [← eu]; exact Nat.le_trans (Nat.div_le_self _ _) (by omega)
  obtain ⟨z, ez⟩ : ∃ z, u * d = z := ⟨_, rfl⟩
  have z5 : (u : Int) * (d : Int) = (z : Nat) := by rw [← ez]; simp
  rw [ez] at z1 z2 z3
  obtain ⟨v, ev⟩ : ∃ v, z + 64 = v := ⟨_, rfl⟩
  have z6 : (z : Int) + 64 = (v : Nat) := by omega
  rw [ev] at z2 z3
  have z7 : 64 ≤ v := by omega
  have d0 : ((d : Int) == 0) = false := by rcases hd with rfl | rfl | rfl <;> rfl
  have d1 : ¬ (d : Int) = 0 := by rcases hd with rfl | rfl | rfl <;> decide
  have HV := Lib.hid (And.intro z2 (And.intro z3 (And.intro hd (And.intro ed z7))))
  have v1 : v ≤ 191 := by omega
  have HW := Lib.hid (w_slot u d z v wu z5 z1 z6 v1)
  clear wu
  clear eq z2 ez eu ev hd ed hq
  go_enter Try.func6, Try.ntmps6
  go_wp2_with fail
  refine (F.out _).mono ?_; rintro e w1 ⟨rfl, hf⟩
  have hib := wid_at w1 h hh
  rw [HV.out.2.2.2.1] at hib
  obtain ⟨B, eB⟩ : ∃ B, w1.heap.size = B := ⟨_, rfl⟩
  obtain ⟨W2, e2⟩ : ∃ W2, w1.alloc (Obj.cells #[.int .i64 8, .int .i64 4, .int .i64 1] 3) = W2 := ⟨_, rfl⟩
  rw [e2, eB] at hib
  have hn2 : Nr [] w W2 := by rw [← e2]; exact hf.alloc _
  have hmk := run_bytes W2 256 (by decide)
  rw [show ((256 : Nat) : Int) = 256 from rfl] at hmk
  have hm := ms_made W2 256 (by decide) 0
  obtain ⟨W0, e0⟩ : ∃ W0, W2.alloc (Obj.cells (Y (List.replicate 256 0)).toArray 5) = W0 := ⟨_, rfl⟩
  obtain ⟨y, ey⟩ : ∃ y, W2.heap.size = y := ⟨_, rfl⟩
  have eg : W0.heap.size = y + 1 := by rw [← e0, World.size_alloc, ey]
  rw [e0, ey] at hm hmk
  obtain ⟨W3, e3⟩ : ∃ W3, W0.alloc (Obj.cells #[.slice (some ⟨y, 0, none⟩) 256 256, .int .i64 0] 31) = W3 := ⟨_, rfl⟩
  rw [e3] at hm
  have hn3 : Nr [] w W3 := by rw [← e3, ← e0]; exact (hn2.alloc _).alloc _
  have hy := Lib.hid (show w.heap.size ≤ y by have := hn2.size; omega)
  obtain ⟨cap, k0, _, hcap, _⟩ := hm.cells
  have HL := Lib.hid (show MS W3 (y + 1) y 256 0 (Cor.g0 0) ∧ Nr [] w W3 from ⟨by rw [Cor.g0_zero]; exact hm, hn3⟩)
  clear F hf hm hn2 hn3
  go_upto_region 6 with fail
  rw [HW.out]
  go_wp2_with fail
  clear hmk e0 eg e2 e3 eB ey k0 a1 z1 z3 z4 z5 z6 er eh hib
  have h0 : (((0 : Nat) : Int)) = 0 := rfl
  go_loopg [9, 39] 192 (fun gh s9 i wr => ∃ k : Nat, k ≤ 192 ∧ gh = 192 - k ∧ i = .int .i64 k ∧ Hid (MS wr (y + 1) y 256 0 (Cor.g0 k) ∧ Nr [] w wr))
  case atStart => exact ⟨0, by omega, by omega, rfl, HL⟩
  case round =>
    obtain ⟨k, hk, hg, rfl, hI⟩ := hrel
    clear HL
    by_cases hlt : k < 192
    · as_aux_lemma =>
        obtain ⟨cap2, j0, _, hcap2, _, kb, kf⟩ := hI.out.1.cells
        have c0 := kb (64 + k) (by omega)
        have c1 := kf (64 + k)
        clear kb kf
        have HP := Lib.hid (show MS (wr.setCell ⟨y, 64 + k, none⟩ (.int .u8 (k : Int))) (y + 1) y 256 0 (Cor.g0 (k + 1)) ∧ Nr [] w (wr.setCell ⟨y, 64 + k, none⟩ (.int .u8 (k : Int))) from
          ⟨by
            exact hI.out.1.put (by omega) k (fun j _ => by rw [Cor.g0_next k j, Nat.mod_eq_of_lt (by omega : k < 256)]), hI.out.2.set (b := y) (.inr hy.out) _ _⟩)
        clear hI
        go_wp2_with fail
        go_roundg (192 - (k + 1))
        case rel => exact ⟨k + 1, by omega, rfl, by simp, HP⟩
        case measure => first | omega | (simp; omega)
    · as_aux_lemma =>
        obtain rfl : k = 192 := by omega
        obtain ⟨cap2, j0, _, hcap2, _⟩ := hI.out.1.cells
        have cv : (convert 25 9 (.slice (some ⟨y, 0, none⟩) 256 cap2)).run Try.prog wr = .ok (.string (Str ((List.range 256).map (Cor.g0 192)))) wr := conv_bytes wr (some ⟨y, 0, none⟩) 256 cap2 ((List.range 256).map (Cor.g0 192)) (by simp) hI.out.1.bk.br
        obtain ⟨ST, eS⟩ : ∃ ST, Str ((List.range 256).map (Cor.g0 192)) = ST := ⟨_, rfl⟩
        rw [eS] at cv
        have HS := Lib.hid eS
        clear eS
        have e22 : IntKind.i64.wrap (22 + (h : Int)) = ((22 + h : Nat) : Int) := by rw [IntWalk.i64_in _ (by omega)]; omega
        have e19 : IntKind.i64.wrap (19 + (h : Int)) = ((19 + h : Nat) : Int) := by rw [IntWalk.i64_in _ (by omega)]; omega
        have e33 : IntKind.i32.wrap (v : Int) = v := by rw [IntKind.wrap_i32]; omega
        have e32 : wrap32 (v : Int) = v := by unfold wrap32; omega
        have HVV := Lib.hid (And.intro z7 (And.intro v1 hh))
        go_upto_region 13 with fail
        clear cv j0 r1 r2 h3 hh d0 d1 z7 v1 h0 hg hk hlt
        obtain ⟨cp13, kc13, _, hcp13, _⟩ := hI.out.1.cells
        have C13 := Lib.hid (fun (W : World) => encode_any ((22 + h : Nat) : Int) 3 4 0 (v : Nat) W)
        have KD13 := Lib.hid (fun (W : World) (hb : Below (wr).heap.size wr W) => (show W.cell? ⟨y + 1, 0, none⟩ = some (.slice (some ⟨y, 0, none⟩) 256 cp13) by rw [hb.cell (block_lt_of_cell kc13)]; exact kc13))
        have hcall := Lib.hid ((Below.refl (wr).heap.size wr).drew)
        refine wp_region_held_drew (S := fun w' => w'.cell? ⟨y + 1, 0, none⟩ = some (.slice (some ⟨y, 0, none⟩) 256 cp13)) (by kernel_rfl) (KD13.out _ hcall.out) (fun hHeld => ?_)
        refine wpAnyH_take (i := 0) (oi := _) (v := ?vp0) rfl (by kernel_rfl) (by kernel_rfl) (by kernel_rfl) (fun _ _ _ h => h) (Or.inl ⟨by rfl, ?hp0⟩) hHeld ?rp0
        case hp0 => (intro wS hSw; (try dsimp only at hSw); go_simp; try with_reducible rfl)
        simp only [Act.put, List.getElem_toArray, List.getElem_cons_zero, List.getElem_cons_succ, List.setIfInBounds_toArray, List.set_cons_zero, List.set_cons_succ]
        refine wpAnyH_take (i := 1) (oi := _) (v := ?vp1) rfl (by kernel_rfl) (by kernel_rfl) (by kernel_rfl) (fun _ _ _ h => h) (Or.inl ⟨by rfl, ?hp1⟩) hHeld ?rp1
        case hp1 => (intro wS hSw; (try dsimp only at hSw); go_simp; try with_reducible rfl)
        simp only [Act.put, List.getElem_toArray, List.getElem_cons_zero, List.getElem_cons_succ, List.setIfInBounds_toArray, List.set_cons_zero, List.set_cons_succ]
        refine wpAnyH_take (i := 2) (oi := _) (v := ?vp2) rfl (by kernel_rfl) (by kernel_rfl) (by kernel_rfl) (fun _ _ _ h => h) (Or.inl ⟨by rfl, ?hp2⟩) hHeld ?rp2
        case hp2 => (intro wS hSw; (try dsimp only at hSw); go_simp; try with_reducible rfl)
        simp only [Act.put, List.getElem_toArray, List.getElem_cons_zero, List.getElem_cons_succ, List.setIfInBounds_toArray, List.set_cons_zero, List.set_cons_succ]
        refine wpAnyH_take (i := 3) (oi := _) (v := ?vp3) rfl (by kernel_rfl) (by kernel_rfl) (by kernel_rfl) (fun _ _ _ h => h) (Or.inl ⟨by rfl, ?hp3⟩) hHeld ?rp3
        case hp3 => (intro wS hSw; (try dsimp only at hSw); go_simp; try with_reducible rfl)
        simp only [Act.put, List.getElem_toArray, List.getElem_cons_zero, List.getElem_cons_succ, List.setIfInBounds_toArray, List.set_cons_zero, List.set_cons_succ]
        refine wpAnyH_take (i := 4) (oi := _) (v := ?vp4) rfl (by kernel_rfl) (by kernel_rfl) (by kernel_rfl) (fun _ _ _ h => h) (Or.inl ⟨by rfl, ?hp4⟩) hHeld ?rp4
        case hp4 => (intro wS hSw; (try dsimp only at hSw); go_simp; try with_reducible rfl)
        simp only [Act.put, List.getElem_toArray, List.getElem_cons_zero, List.getElem_cons_succ, List.setIfInBounds_toArray, List.set_cons_zero, List.set_cons_succ]
        refine wpAnyH_take (i := 5) (oi := _) (v := ?vp5) rfl (by kernel_rfl) (by kernel_rfl) (by kernel_rfl) (fun _ _ _ h => h) (Or.inl ⟨by rfl, ?hp5⟩) hHeld ?rp5
        case hp5 => (intro wS hSw; (try dsimp only at hSw); go_simp; try with_reducible rfl)
        simp only [Act.put, List.getElem_toArray, List.getElem_cons_zero, List.getElem_cons_succ, List.setIfInBounds_toArray, List.set_cons_zero, List.set_cons_succ]
        refine wpAnyH_take (i := 6) (oi := _) (v := ?vp6) rfl (by kernel_rfl) (by kernel_rfl) (by kernel_rfl) (fun _ _ _ h => h) (Or.inl ⟨by rfl, ?hp6⟩) hHeld ?rp6
        case hp6 => (intro wS hSw; (try dsimp only at hSw); go_simp; try with_reducible rfl)
        simp only [Act.put, List.getElem_toArray, List.getElem_cons_zero, List.getElem_cons_succ, List.setIfInBounds_toArray, List.set_cons_zero, List.set_cons_succ]
        refine wpAnyH_take (i := 7) (oi := _) (v := ?vp7) rfl (by kernel_rfl) (by kernel_rfl) (by kernel_rfl) (fun _ _ _ h => h) (Or.inl ⟨by rfl, ?hp7⟩) hHeld ?rp7
        case hp7 => (intro wS hSw; (try dsimp only at hSw); go_simp; try with_reducible rfl)
        simp only [Act.put, List.getElem_toArray, List.getElem_cons_zero, List.getElem_cons_succ, List.setIfInBounds_toArray, List.set_cons_zero, List.set_cons_succ]
        refine wpAnyH_take (i := 8) (oi := _) (v := ?vp8) rfl (by kernel_rfl) (by kernel_rfl) (by kernel_rfl) (fun _ _ _ h => h) (Or.inl ⟨by rfl, ?hp8⟩) hHeld ?rp8
        case hp8 => (intro wS hSw; (try dsimp only at hSw); go_simp; try with_reducible rfl)
        simp only [Act.put, List.getElem_toArray, List.getElem_cons_zero, List.getElem_cons_succ, List.setIfInBounds_toArray, List.set_cons_zero, List.set_cons_succ]
        refine wpAnyH_ready (rs := [9]) (by kernel_rfl) (by simp) ?_
        refine AllReadyH.cons (o := _) rfl (fun K hK => ?_) AllReadyH.nil
        go_simp
        refine (C13.out _).mono ?_
        rintro e wq ⟨z, rfl, hbr, hb⟩
        replace hcall := Lib.hid (hcall.out.trans (hb.mono hcall.out.size))
        have HBR := Lib.hid hbr
        clear hbr hb
        clear hHeld
        refine hK.out _ _ (KD13.out _ hcall.out) (fun hHeld => ?_)
        clear hK K
        try simp only [Act.put, List.getElem_toArray, List.getElem_cons_zero, List.getElem_cons_succ, List.setIfInBounds_toArray, List.set_cons_zero, List.set_cons_succ]
        refine wpAnyH_ready (rs := [10]) (by kernel_rfl) (by simp) ?_
        refine AllReadyH.cons (o := _) rfl (fun K hK => ?_) AllReadyH.nil
        obtain ⟨W5, hrun, hms, htn⟩ := copy_ms (hI.out.1.below hcall.out) 3 0 256 cp13 _ _ rfl (by omega) (by omega) HBR.out
        refine step_copy rfl (.tmp 60) (.tmp 66) 25 25 rfl _ _ _ rfl rfl W5 hrun ?_
        have hfin := Lib.hid (And.intro hms (And.intro ((hI.out.2.next (Nr.of_below hcall.out)).trans (Nr.of_turn htn) (by simpa using hy.out)) (show W5.cell? ⟨y + 1, 0, none⟩ = some (.slice (some ⟨y, 0, none⟩) 256 cp13) by
          rw [World.cell?_of_block (w := wq) (htn.block (y + 1) (Nat.lt_of_lt_of_le (block_lt_of_cell kc13) hcall.out.size) (by simp))]; exact KD13.out _ hcall.out)))
        clear hms htn hrun
        clear hHeld
        refine hK.out _ _ hfin.out.2.2 (fun hHeld => ?_)
        clear hK K
        try simp only [Act.put, List.getElem_toArray, List.getElem_cons_zero, List.getElem_cons_succ, List.setIfInBounds_toArray, List.set_cons_zero, List.set_cons_succ]
        refine wpAnyH_done (by kernel_rfl) ?_ _
        clear hHeld
        have H13 := Lib.hid (show MS W5 (y + 1) y 256 0 (Cor.g1 h v) ∧ Nr [] w W5 from ⟨hfin.out.1, hfin.out.2.1⟩)
        clear hfin hcall KD13 C13 kc13 HBR
        obtain ⟨cp14, kc14, _, hcp14, _⟩ := H13.out.1.cells
        have q14 : ¬ cp14 = 8 := by clear e22 e19 e33 e32; omega
        have C14 := Lib.hid (fun (W : World) => encode_any ((19 + h : Nat) : Int) 5 4 0 (v : Nat) W)
        have KD14 := Lib.hid (fun (W : World) (hb : Below (W5).heap.size W5 W) => (show W.cell? ⟨y + 1, 0, none⟩ = some (.slice (some ⟨y, 0, none⟩) 256 cp14) by rw [hb.cell (block_lt_of_cell kc14)]; exact kc14))
        have hcall := Lib.hid ((Below.refl (W5).heap.size W5).drew)
        go_upto_region 14 with fail
        refine wp_region_held_drew (S := fun w' => w'.cell? ⟨y + 1, 0, none⟩ = some (.slice (some ⟨y, 0, none⟩) 256 cp14)) (by kernel_rfl) (KD14.out _ hcall.out) (fun hHeld => ?_)
        refine wpAnyH_take (i := 0) (oi := _) (v := ?vs0) rfl (by kernel_rfl) (by kernel_rfl) (by kernel_rfl) (fun _ _ _ h => h) (Or.inl ⟨by rfl, ?hs0⟩) hHeld ?rs0
        case hs0 => (intro wS hSw; (try dsimp only at hSw); go_simp; try with_reducible rfl)
        simp only [Act.put, List.getElem_toArray, List.getElem_cons_zero, List.getElem_cons_succ, List.setIfInBounds_toArray, List.set_cons_zero, List.set_cons_succ]
        refine wpAnyH_take (i := 1) (oi := _) (v := ?vs1) rfl (by kernel_rfl) (by kernel_rfl) (by kernel_rfl) (fun _ _ _ h => h) (Or.inl ⟨by rfl, ?hs1⟩) hHeld ?rs1
        case hs1 => (intro wS hSw; (try dsimp only at hSw); go_simp; try with_reducible rfl)
        simp only [Act.put, List.getElem_toArray, List.getElem_cons_zero, List.getElem_cons_succ, List.setIfInBounds_toArray, List.set_cons_zero, List.set_cons_succ]
        refine wpAnyH_take (i := 2) (oi := _) (v := ?vs2) rfl (by kernel_rfl) (by kernel_rfl) (by kernel_rfl) (fun _ _ _ h => h) (Or.inl ⟨by rfl, ?hs2⟩) hHeld ?rs2
        case hs2 => (intro wS hSw; (try dsimp only at hSw); go_simp; try with_reducible rfl)
        simp only [Act.put, List.getElem_toArray, List.getElem_cons_zero, List.getElem_cons_succ, List.setIfInBounds_toArray, List.set_cons_zero, List.set_cons_succ]
        refine wpAnyH_take (i := 3) (oi := _) (v := ?vs3) rfl (by kernel_rfl) (by kernel_rfl) (by kernel_rfl) (fun _ _ _ h => h) (Or.inl ⟨by rfl, ?hs3⟩) hHeld ?rs3
        case hs3 => (intro wS hSw; (try dsimp only at hSw); go_simp; try with_reducible rfl)
        simp only [Act.put, List.getElem_toArray, List.getElem_cons_zero, List.getElem_cons_succ, List.setIfInBounds_toArray, List.set_cons_zero, List.set_cons_succ]
        refine wpAnyH_take (i := 4) (oi := _) (v := .slice (some ⟨y, 8, none⟩) 248 (cp14 - 8)) rfl (by kernel_rfl) (by kernel_rfl) (by kernel_rfl) (fun _ _ _ h => h) (Or.inl ⟨by rfl, ?hs4⟩) hHeld ?rs4
        case hs4 => (intro wS hSw; (try dsimp only at hSw); go_simp; try with_reducible rfl)
        simp only [Act.put, List.getElem_toArray, List.getElem_cons_zero, List.getElem_cons_succ, List.setIfInBounds_toArray, List.set_cons_zero, List.set_cons_succ]
        refine wpAnyH_take (i := 5) (oi := _) (v := ?vs5) rfl (by kernel_rfl) (by kernel_rfl) (by kernel_rfl) (fun _ _ _ h => h) (Or.inl ⟨by rfl, ?hs5⟩) hHeld ?rs5
        case hs5 => (intro wS hSw; (try dsimp only at hSw); go_simp; try with_reducible rfl)
        simp only [Act.put, List.getElem_toArray, List.getElem_cons_zero, List.getElem_cons_succ, List.setIfInBounds_toArray, List.set_cons_zero, List.set_cons_succ]
        refine wpAnyH_take (i := 6) (oi := _) (v := ?vs6) rfl (by kernel_rfl) (by kernel_rfl) (by kernel_rfl) (fun _ _ _ h => h) (Or.inl ⟨by rfl, ?hs6⟩) hHeld ?rs6
        case hs6 => (intro wS hSw; (try dsimp only at hSw); go_simp; try with_reducible rfl)
        simp only [Act.put, List.getElem_toArray, List.getElem_cons_zero, List.getElem_cons_succ, List.setIfInBounds_toArray, List.set_cons_zero, List.set_cons_succ]
        refine wpAnyH_take (i := 7) (oi := _) (v := ?vs7) rfl (by kernel_rfl) (by kernel_rfl) (by kernel_rfl) (fun _ _ _ h => h) (Or.inl ⟨by rfl, ?hs7⟩) hHeld ?rs7
        case hs7 => (intro wS hSw; (try dsimp only at hSw); go_simp; try with_reducible rfl)
        simp only [Act.put, List.getElem_toArray, List.getElem_cons_zero, List.getElem_cons_succ, List.setIfInBounds_toArray, List.set_cons_zero, List.set_cons_succ]
        refine wpAnyH_take (i := 8) (oi := _) (v := ?vs8) rfl (by kernel_rfl) (by kernel_rfl) (by kernel_rfl) (fun _ _ _ h => h) (Or.inl ⟨by rfl, ?hs8⟩) hHeld ?rs8
        case hs8 => (intro wS hSw; (try dsimp only at hSw); go_simp; try with_reducible rfl)
        simp only [Act.put, List.getElem_toArray, List.getElem_cons_zero, List.getElem_cons_succ, List.setIfInBounds_toArray, List.set_cons_zero, List.set_cons_succ]
        refine wpAnyH_take (i := 9) (oi := _) (v := ?vs9) rfl (by kernel_rfl) (by kernel_rfl) (by kernel_rfl) (fun _ _ _ h => h) (Or.inl ⟨by rfl, ?hs9⟩) hHeld ?rs9
        case hs9 => (intro wS hSw; (try dsimp only at hSw); go_simp; try with_reducible rfl)
        simp only [Act.put, List.getElem_toArray, List.getElem_cons_zero, List.getElem_cons_succ, List.setIfInBounds_toArray, List.set_cons_zero, List.set_cons_succ]
        refine wpAnyH_ready (rs := [10]) (by kernel_rfl) (by simp) ?_
        refine AllReadyH.cons (o := _) rfl (fun K hK => ?_) AllReadyH.nil
        go_simp
        refine (C14.out _).mono ?_
        rintro e wq ⟨z, rfl, hbr, hb⟩
        replace hcall := Lib.hid (hcall.out.trans (hb.mono hcall.out.size))
        have HBR := Lib.hid hbr
        clear hbr hb
        clear hHeld
        refine hK.out _ _ (KD14.out _ hcall.out) (fun hHeld => ?_)
        clear hK K
        try simp only [Act.put, List.getElem_toArray, List.getElem_cons_zero, List.getElem_cons_succ, List.setIfInBounds_toArray, List.set_cons_zero, List.set_cons_succ]
        refine wpAnyH_ready (rs := [11]) (by kernel_rfl) (by simp) ?_
        refine AllReadyH.cons (o := _) rfl (fun K hK => ?_) AllReadyH.nil
        obtain ⟨W6, hrun, hms, htn⟩ := copy_ms (H13.out.1.below hcall.out) 3 8 248 (cp14 - 8) _ _ rfl (by omega) (by omega) HBR.out
        refine step_copy rfl (.tmp 72) (.tmp 78) 25 25 rfl _ _ _ rfl rfl W6 hrun ?_
        have hfin := Lib.hid (And.intro hms (And.intro ((H13.out.2.next (Nr.of_below hcall.out)).trans (Nr.of_turn htn) (by simpa using hy.out)) (show W6.cell? ⟨y + 1, 0, none⟩ = some (.slice (some ⟨y, 0, none⟩) 256 cp14) by
          rw [World.cell?_of_block (w := wq) (htn.block (y + 1) (Nat.lt_of_lt_of_le (block_lt_of_cell kc14) hcall.out.size) (by simp))]; exact KD14.out _ hcall.out)))
        clear hms htn hrun
        clear hHeld
        refine hK.out _ _ hfin.out.2.2 (fun hHeld => ?_)
        clear hK K
        try simp only [Act.put, List.getElem_toArray, List.getElem_cons_zero, List.getElem_cons_succ, List.setIfInBounds_toArray, List.set_cons_zero, List.set_cons_succ]
        refine wpAnyH_done (by kernel_rfl) ?_ _
        clear hHeld
        have H14 := Lib.hid (show MS W6 (y + 1) y 256 0 (Cor.g2 h v) ∧ Nr [] w W6 from ⟨hfin.out.1, hfin.out.2.1⟩)
        clear hfin hcall KD14 C14 kc14 HBR
        as_aux_lemma =>
          clear e22 e19 e33 e32 q14
          obtain ⟨W7, e7⟩ : ∃ W7, W6.alloc (Obj.cells (rl (fun _ => 0) 0).toArray 35) = W7 := ⟨_, rfl⟩
          obtain ⟨c, ec⟩ : ∃ c, W6.heap.size = c := ⟨_, rfl⟩
          have hc7 : CS W7 c 35 (fun _ => 0) 0 := by rw [← e7, ← ec]; exact heap_alloc_new W6 _
          have hm7 := H14.out.1.below (show Below W6.heap.size W6 W7 by rw [← e7]; exact below_alloc1 W6 _)
          have hn7 : Nr [] w W7 := by rw [← e7]; exact H14.out.2.alloc _
          have hcw : w.heap.size ≤ c := by rw [← ec]; exact H14.out.2.size
          have hcg : c ≠ y + 1 := by have := H14.out.1.lt; omega
          have hcy : c ≠ y := by have := H14.out.1.lt; omega
          replace e7 : W6.alloc (Obj.cells #[.int .u64 0, .int .u64 0, .int .u64 0, .int .u64 0, .int .u64 0, .int .u64 0, .int .u64 0, .int .u64 0, .int .u64 0, .int .u64 0, .int .u64 0, .int .u64 0, .int .u64 0, .int .u64 0, .int .u64 0, .int .u64 0, .int .u64 0] 35) = W7 := e7
          have kf := hc7.free 3
          have kc := hc7.cell (k := 3) (by decide)
          have HC := Lib.hid (And.intro hc7 (And.intro hm7 hn7))
          have HG := Lib.hid (And.intro hcw (And.intro hcg hcy))
          clear hc7 hm7 hn7 H14 hI H13 hcw hcg hcy
          go_upto_region 17 with fail
          obtain ⟨W8, e8⟩ : ∃ W8, W7.setCell ⟨c, 3, none⟩ (.int .u64 (x : Nat)) = W8 := ⟨_, rfl⟩
          have H8 := Lib.hid (show CS W8 c 35 (Cor.put (fun _ => 0) 3 x) 0 ∧ MS W8 (y + 1) y 256 0 (Cor.g2 h v) ∧ Nr [] w W8 from by
            rw [← e8]
            exact ⟨HC.out.1.put (by decide) x, HC.out.2.1.nr (Nr.of_turn (Turn.set W7 c 3 _)) (by simpa using fun e => HG.out.2.1 e.symm) (by simpa using fun e => HG.out.2.2 e.symm), HC.out.2.2.set (b := c) (.inr HG.out.1) 3 _⟩)
          rw [e8]
          clear e8 e7 ec kf kc HC
          have S1 := Lib.hid (step_any (s := ⟨Cor.put (fun _ => 0) 3 x, 0, Cor.g2 h v⟩) W8 H8.out.1 H8.out.2.1 ⟨Cor.put_lt (fun _ => Nat.zero_lt_succ _) 3 HX0.out, Nat.zero_lt_succ _, Cor.g2_lt h v⟩ HG.out.2.1 HG.out.2.2)
          rw [Cor.moves_1 h v x HVV.out.2.2 HVV.out.1 (by rw [HV.out.2.2.2.1]; exact HV.out.2.1) (by rw [HV.out.2.2.2.1]; exact HV.out.1)] at S1
          unfold IV at S1
          go_wp2_with fail
          refine S1.out.mono ?_; rintro e w9 ⟨rfl, a1, a2, a3⟩
          dsimp only at a1 a2
          have S2 := Lib.hid (step_any (s := ⟨Cor.put (fun _ => 0) 3 x, 8, Cor.g3 h v x⟩) w9 a1 a2 ⟨Cor.put_lt (fun _ => Nat.zero_lt_succ _) 3 HX0.out, (by decide : (8 : Nat) < 18446744073709551616), Cor.sti_lt (Cor.g2_lt h v) _ _ _ _⟩ HG.out.2.1 HG.out.2.2)
          rw [Cor.moves_2 h v x HVV.out.2.2 HVV.out.1 (by rw [HV.out.2.2.2.1]; exact HV.out.2.1) (by rw [HV.out.2.2.2.1]; exact HV.out.1)] at S2
          have N9 := Lib.hid (H8.out.2.2.trans a3 (by intro x hx; simp only [List.mem_cons, List.mem_nil_iff, or_false] at hx; rcases hx with rfl | rfl; exact .inr HG.out.1; exact .inr hy.out))
          unfold IV at S2
          clear S1 a1 a2 a3 H8
          dsimp only
          go_wp2_with fail
          refine S2.out.mono ?_; rintro e w10 ⟨rfl, b1, b2, b3⟩
          dsimp only at b1 b2
          rw [HV.out.2.2.2.1] at b1
          have H10 := Lib.hid (And.intro b1 (And.intro b2 (N9.out.trans b3 (by intro x hx; simp only [List.mem_cons, List.mem_nil_iff, or_false] at hx; rcases hx with rfl | rfl; exact .inr HG.out.1; exact .inr hy.out))))
          clear S2 b1 b2 b3 N9
          dsimp only
          go_upto_if 95 with fail
          go_cut [12] (fun s12 wx => w10 = wx ∧ s12 = .int .u64 (Cor.low x d : Nat))
          case first =>
            have l1 : bits .and .u64 (x : Int) 255 = ((Cor.low x 1 : Nat) : Int) := by rw [and_u8 x HX0.out]; rfl
            have l4 : bits .and .u64 (x : Int) 4294967295 = ((Cor.low x 4 : Nat) : Int) := by rw [and_u32 x HX0.out]; rfl
            have l8 : Cor.low x 8 = x := Nat.mod_eq_of_lt HX0.out
            have hd := HV.out.2.2.1
            clear H10
            rcases hd with rfl | rfl | rfl
            · as_aux_lemma =>
                clear l4 l8
                go_wp2_with fail
                go_meet
                exact ⟨rfl, rfl⟩
            · as_aux_lemma =>
                clear l1 l8
                go_wp2_with fail
                go_meet
                exact ⟨rfl, rfl⟩
            · as_aux_lemma =>
                clear l1 l4
                go_wp2_with fail
                go_meet
                exact ⟨rfl, by rw [l8]⟩
          case rest =>
            obtain ⟨rfl, rfl⟩ := hcut
            obtain ⟨t, et⟩ : ∃ t, v + d = t := ⟨_, rfl⟩
            have t1 : (v : Int) + (d : Int) = (t : Nat) := by omega
            have t2 : t ≤ 256 := by have := HV.out.2.1; omega
            have v64 : 64 ≤ v := HVV.out.1
            have v191 : v ≤ 191 := HVV.out.2.1
            obtain ⟨SA, eA⟩ : ∃ SA, Str ((((List.range 256).map (Cor.g0 192)).drop 64).take (v - 64)) = SA := ⟨_, rfl⟩
            obtain ⟨SB, eB⟩ : ∃ SB, Str ((((List.range 256).map (Cor.g0 192)).drop t).take (256 - t)) = SB := ⟨_, rfl⟩
            have zs : ST.size = 256 := by rw [← HS.out, str_size]; simp
            have xA : ST.extract 64 v = SA := by rw [← HS.out, str_part, eA]
            have xB : ST.extract t 256 = SB := by rw [← HS.out, str_part, eB]
            obtain ⟨capz, km, _, hcapz, _⟩ := H10.out.2.1.cells
            have k5 : w10.cell? ⟨c, 5, none⟩ = some (.int .u64 (Cor.low x d : Nat)) := by
              have := H10.out.1.cell (k := 5) (by decide)
              rw [Cor.put_same] at this
              exact this
            have n5 : ∀ p : Nearby w10, p.W.cell? ⟨c, 5, none⟩ = some (.int .u64 (Cor.low x d : Nat)) := fun p => by rw [World.cell?_of_block (w := w10) (p.near.block c (block_lt_of_cell k5) (by simp))]; exact k5
            have nm : ∀ p : Nearby w10, p.W.cell? ⟨y + 1, 0, none⟩ = some (.slice (some ⟨y, 0, none⟩) 256 capz) := fun p => by rw [World.cell?_of_block (w := w10) (p.near.block (y + 1) (block_lt_of_cell km) (by simp))]; exact km
            have hsame : ∀ j, 64 ≤ j → (j < v ∨ t ≤ j) → Cor.g0 192 j = Cor.g3 h v x j := fun j h1 h2 => (Cor.g3_at h v x j (by omega) (by rw [HV.out.2.2.2.1]; omega)).symm
            have cA : ∀ p : Nearby w10, (convert 25 9 (.slice (some ⟨y, 64, none⟩) (v - 64) (capz - 64))).run Try.prog p.W = .ok (.string SA) p.W := fun p => by
              rw [← eA, part_same 256 64 (v - 64) (Cor.g0 192) (Cor.g3 h v x) (fun j h1 h2 => hsame j h1 (by omega))]
              exact conv_bytes p.W (some ⟨y, 64, none⟩) (v - 64) (capz - 64) _ (part_len _ _ _ _ (by omega)) (by have := br_part (H10.out.2.1.nr p.near (by simp) (by simp)).bk.br 64 (v - 64); rw [Nat.zero_add] at this; exact this)
            have cB : ∀ p : Nearby w10, (convert 25 9 (.slice (some ⟨y, t, none⟩) (256 - t) (capz - t))).run Try.prog p.W = .ok (.string SB) p.W := fun p => by
              rw [← eB, part_same 256 t (256 - t) (Cor.g0 192) (Cor.g3 h v x) (fun j h1 h2 => hsame j (by omega) (.inr h1))]
              exact conv_bytes p.W (some ⟨y, t, none⟩) (256 - t) (capz - t) _ (part_len _ _ _ _ (by omega)) (by have := br_part (H10.out.2.1.nr p.near (by simp) (by simp)).bk.br t (256 - t); rw [Nat.zero_add] at this; exact this)
            have hv0 : (0 : Int) ≤ (v : Int) := by omega
            have hv1 : (64 : Int) ≤ (v : Int) := by omega
            have hv2 : (v : Int) ≤ (capz : Int) := by omega
            have hv3 : (v : Int) ≤ 256 := by omega
            have hv4 : ¬ capz = 64 := by omega
            by_cases qe : capz = t
            · as_aux_lemma =>
                have cB0 : ∀ p : Nearby w10, (convert 25 9 (.slice (some ⟨y, 0, none⟩) (256 - t) 0)).run Try.prog p.W = .ok (.string SB) p.W := fun p => by
                  have ht : t = 256 := by omega
                  have e : (((List.range 256).map (Cor.g0 192)).drop t).take (256 - t) = [] := by rw [ht]; rfl
                  rw [← eB, e, ht]
                  exact conv_bytes p.W (some ⟨y, 0, none⟩) 0 0 [] rfl (fun i x hi => by simp at hi)
                clear cB
                have cB := cB0
                have cB2 : ∀ p : Nearby w10, (convert 25 9 (.slice (some ⟨y, 0, none⟩) 0 0)).run Try.prog p.W = .ok (.string SB) p.W := fun p => by have h := cB0 p; rw [show 256 - t = 0 by omega] at h; exact h
                have HN := Lib.hid H10.out.2.2
                have qt : IntKind.i64.wrap (t : Int) = t := IntWalk.i64_in _ (by omega)
                have qt0 : (0 : Int) ≤ (t : Int) := by omega
                have qt1 : (t : Int) ≤ 256 := by omega
                subst qe
                clear eA eB km k5 H10 hsame HV HW HX0 HG HVV et cB0
                go_upto_region 22 with fail
                refine wp_region_near (by kernel_rfl) (by kernel_rfl) ?_
                repeat (quiet_step (fail))
                refine wpQuiet_nil ?_
                intro _ hw'
                obtain ⟨p, hw''⟩ := hw'
                subst hw''
                obtain ⟨W12, hp⟩ := p
                have HE := Lib.hid (HN.out.next hp)
                dsimp only
                clear HN hp n5 nm cA cB cB2
                go_wp2_with fail
                go_ret
                exact ⟨by simp, HE.out⟩
            · as_aux_lemma =>
                have HN := Lib.hid H10.out.2.2
                have qt : IntKind.i64.wrap (t : Int) = t := IntWalk.i64_in _ (by omega)
                have qt0 : (0 : Int) ≤ (t : Int) := by omega
                have qt1 : (t : Int) ≤ 256 := by omega
                clear eA eB km k5 H10 hsame HV HW HX0 HG HVV et
                go_upto_region 22 with fail
                refine wp_region_near (by kernel_rfl) (by kernel_rfl) ?_
                repeat (quiet_step (fail))
                refine wpQuiet_nil ?_
                intro _ hw'
                obtain ⟨p, hw''⟩ := hw'
                subst hw''
                obtain ⟨W12, hp⟩ := p
                have HE := Lib.hid (HN.out.next hp)
                dsimp only
                clear HN hp n5 nm cA cB
                go_wp2_with fail
                go_ret
                exact ⟨by simp, HE.out⟩
end Go.Proofs.Ytojnokaeopadfaa
