/- The reference does an instruction. Written by genJb.py. -/
import Derived.Test.YtojnokaeopadfaaJb
import Derived.Test.YtojnokaeopadfaaHi
import Derived.StillTailTactics
set_option linter.unusedVariables false
set_option linter.unusedSimpArgs false
namespace Go.Proofs.Ytojnokaeopadfaa
open Go.RowKit

set_option maxRecDepth 100000 in
set_option maxHeartbeats 1000000 in
theorem do_b25 {c : Nat} {s : Cor.S} (a b d : Nat) (m : Int) (L : Nat) (w : World) (h : CS w c 36 s.R s.pc) (hs : Cor.Ok s) (ha : a < 16) (hb : b < 16) (hd : d < 16) (i1 : -2147483648 ≤ m) (i2 : m ≤ 2147483647) :
    Calls Try.prog 20 #[.pointer (some ⟨c, 0, none⟩), .agg #[.int .i64 25, .int .i64 (a : Nat), .int .i64 (b : Nat), .int .i64 (d : Nat), .int .i32 m], .int .u64 (L : Nat)] w fun e w' => DOut c (Cor.doing 25 a b d m L s) w e w' := by
  obtain ⟨R, pc, f⟩ := s
  obtain ⟨hR, hpc, hf⟩ := hs
  dsimp only at h hR hpc hf ⊢
  obtain ⟨W1, e1⟩ : ∃ W1, w.alloc (Obj.cells #[.int .i64 25, .int .i64 (a : Nat), .int .i64 (b : Nat), .int .i64 (d : Nat), .int .i32 m] 27) = W1 := ⟨_, rfl⟩
  obtain ⟨X, eX⟩ : ∃ X, w.heap.size = X := ⟨_, rfl⟩
  have hx1 : XS W1 X 25 a b d m := by rw [← e1, ← eX]; exact heap_alloc_new w _
  have hn1 : Nr [c] w W1 := by rw [← e1]; exact (Nr.refl _ _).alloc _
  have hc1 : CS W1 c 36 R pc := h.below (by rw [← e1]; exact below_alloc1 w _)
  have hcX : X ≠ c := by have := h.lt; omega
  have kx : ∀ p : Nearby W1, p.W.cell? ⟨X, 4, none⟩ = some (.int .i32 m) ∧ p.W.cell? ⟨c, 16, none⟩ = some (.int .u64 (pc : Nat)) := fun p => by
    obtain ⟨x0, x1, x2, x3, x4⟩ := (hx1.nr p.near (by simp)).cells
    exact ⟨x4, (hc1.nr p.near (by simp)).next⟩
  have k4 := fun p => (kx p).1
  have kp := fun p => (kx p).2
  have kw := hc1.next
  have hb' : (b : Int) < 16 := by omega
  have ha' : (a : Int) < 16 := by omega
  have hd' : (d : Int) < 16 := by omega
  have z1 : IntKind.i64.wrap m = m := IntWalk.i64_in _ (by omega)
  have z2 := Cor.ext_wrap m
  have z3 : IntKind.u64.wrap ((pc : Int) + 8) = (Cor.nxt pc : Nat) := by rw [wrap64]; unfold Cor.nxt; omega
  have z4 : IntKind.u64.wrap (8 * (Cor.ext m : Int)) = ((8 * Cor.ext m % 18446744073709551616 : Nat) : Int) := by rw [wrap64]; omega
  have z5 : IntKind.u64.wrap ((pc : Int) + ((8 * Cor.ext m % 18446744073709551616 : Nat) : Int)) = (Cor.far pc m : Nat) := by rw [wrap64]; unfold Cor.far; omega
  generalize hE : Cor.ext m = E at z2 z4 z5
  generalize 8 * E % 18446744073709551616 = E8 at z4 z5
  generalize hN : Cor.nxt pc = N at z3
  generalize hF : Cor.far pc m = F at z5
  have HG := Lib.hid (And.intro hE (And.intro hN hF))
  have HH := Lib.hid (And.intro hx1 (And.intro hn1 hc1))
  have HI := Lib.hid (And.intro hR (And.intro hpc hf))
  have HJ := Lib.hid (And.intro i1 i2)
  clear kx hR hpc h hx1 hn1 hc1 hf i1 i2 hE hN hF
  obtain ⟨tk, et⟩ : ∃ tk, Alu.takes 25 (R a) (R b) = tk := ⟨_, rfl⟩
  have C := Lib.hid (fun (W : World) => rtakes_any 25 (R a) (R b) W (HI.out.1 a) (HI.out.1 b))
  rw [et] at C
  have he : Cor.doing 25 a b d m L ⟨R, pc, f⟩ = (⟨R, if tk = true then F else N, f⟩, 0) := by rw [← HG.out.2.1, ← HG.out.2.2, ← et]; rfl
  rw [he]
  clear et he
  go_enter Try.func20, Try.ntmps20
  go_upto_region 2 with fail
  refine wp_region_near (by kernel_rfl) (by kernel_rfl) ?_
  repeat (quiet_step (fail))
  refine wpQuiet_nil ?_
  intro _ hw'
  obtain ⟨p, hw''⟩ := hw'
  subst hw''
  obtain ⟨W3, hp⟩ := p
  have HC := Lib.hid (HH.out.2.2.nr hp (by simp))
  have HX := Lib.hid (HH.out.1.nr hp (by simp))
  have HN := Lib.hid (HH.out.2.1.next hp)
  dsimp only
  clear HH kp hp z3 z4 z5 kw k4
  have k0 := HX.out.cells.1
  have Q := Lib.hid (fun p : Nearby W3 => Calls.near_of ((C.out p.W).mono fun e w'' h => ⟨h.1, h.2 ▸ Nr.refl [] p.W⟩))
  have kxp : ∀ p : Nearby W3, p.W.cell? ⟨X, 0, none⟩ = some (.int .i64 25) ∧ p.W.cell? ⟨X, 1, none⟩ = some (.int .i64 (a : Nat)) ∧ p.W.cell? ⟨X, 2, none⟩ = some (.int .i64 (b : Nat)) := fun p => by
    obtain ⟨x0, x1, x2, x3, x4⟩ := (HX.out.nr p.near (by simp)).cells
    exact ⟨x0, x1, x2⟩
  have k0p := fun p => (kxp p).1
  have k1p := fun p => (kxp p).2.1
  have k2p := fun p => (kxp p).2.2
  have kap : ∀ p : Nearby W3, p.W.cell? ⟨c, a, none⟩ = some (.int .u64 (R a : Nat)) := fun p => (HC.out.nr p.near (by simp)).cell ha
  have kbp : ∀ p : Nearby W3, p.W.cell? ⟨c, b, none⟩ = some (.int .u64 (R b : Nat)) := fun p => (HC.out.nr p.near (by simp)).cell hb
  clear kxp C
  go_upto_region 22 with fail
  refine wp_region_near (by kernel_rfl) (by kernel_rfl) ?_
  repeat (quiet_step (first | with_reducible exact Q.out _))
  refine wpQuiet_nil ?_
  intro _ hw'
  obtain ⟨p, hw''⟩ := hw'
  subst hw''
  obtain ⟨W4, hp⟩ := p
  have HC4 := Lib.hid (HC.out.nr hp (by simp))
  have HX4 := Lib.hid (HX.out.nr hp (by simp))
  have HN4 := Lib.hid (HN.out.next hp)
  dsimp only
  clear HC HX HN k0 k0p k1p k2p kap kbp Q hp
  have kn := HC4.out.next
  have kf := HC4.out.free 16
  have HE := Lib.hid (fun v : Nat => And.intro (HC4.out.go v) (HN4.out.set (b := c) (.inl (by simp)) 16 (.int .u64 (v : Nat))))
  cases tk
  · go_wp2_with fail
    go_ret
    exact ⟨rfl, HE.out N⟩
  · go_wp2_with fail
    go_ret
    exact ⟨rfl, HE.out F⟩
set_option maxRecDepth 100000 in
set_option maxHeartbeats 1000000 in
theorem do_b26 {c : Nat} {s : Cor.S} (a b d : Nat) (m : Int) (L : Nat) (w : World) (h : CS w c 36 s.R s.pc) (hs : Cor.Ok s) (ha : a < 16) (hb : b < 16) (hd : d < 16) (i1 : -2147483648 ≤ m) (i2 : m ≤ 2147483647) :
    Calls Try.prog 20 #[.pointer (some ⟨c, 0, none⟩), .agg #[.int .i64 26, .int .i64 (a : Nat), .int .i64 (b : Nat), .int .i64 (d : Nat), .int .i32 m], .int .u64 (L : Nat)] w fun e w' => DOut c (Cor.doing 26 a b d m L s) w e w' := by
  obtain ⟨R, pc, f⟩ := s
  obtain ⟨hR, hpc, hf⟩ := hs
  dsimp only at h hR hpc hf ⊢
  obtain ⟨W1, e1⟩ : ∃ W1, w.alloc (Obj.cells #[.int .i64 26, .int .i64 (a : Nat), .int .i64 (b : Nat), .int .i64 (d : Nat), .int .i32 m] 27) = W1 := ⟨_, rfl⟩
  obtain ⟨X, eX⟩ : ∃ X, w.heap.size = X := ⟨_, rfl⟩
  have hx1 : XS W1 X 26 a b d m := by rw [← e1, ← eX]; exact heap_alloc_new w _
  have hn1 : Nr [c] w W1 := by rw [← e1]; exact (Nr.refl _ _).alloc _
  have hc1 : CS W1 c 36 R pc := h.below (by rw [← e1]; exact below_alloc1 w _)
  have hcX : X ≠ c := by have := h.lt; omega
  have kx : ∀ p : Nearby W1, p.W.cell? ⟨X, 4, none⟩ = some (.int .i32 m) ∧ p.W.cell? ⟨c, 16, none⟩ = some (.int .u64 (pc : Nat)) := fun p => by
    obtain ⟨x0, x1, x2, x3, x4⟩ := (hx1.nr p.near (by simp)).cells
    exact ⟨x4, (hc1.nr p.near (by simp)).next⟩
  have k4 := fun p => (kx p).1
  have kp := fun p => (kx p).2
  have kw := hc1.next
  have hb' : (b : Int) < 16 := by omega
  have ha' : (a : Int) < 16 := by omega
  have hd' : (d : Int) < 16 := by omega
  have z1 : IntKind.i64.wrap m = m := IntWalk.i64_in _ (by omega)
  have z2 := Cor.ext_wrap m
  have z3 : IntKind.u64.wrap ((pc : Int) + 8) = (Cor.nxt pc : Nat) := by rw [wrap64]; unfold Cor.nxt; omega
  have z4 : IntKind.u64.wrap (8 * (Cor.ext m : Int)) = ((8 * Cor.ext m % 18446744073709551616 : Nat) : Int) := by rw [wrap64]; omega
  have z5 : IntKind.u64.wrap ((pc : Int) + ((8 * Cor.ext m % 18446744073709551616 : Nat) : Int)) = (Cor.far pc m : Nat) := by rw [wrap64]; unfold Cor.far; omega
  generalize hE : Cor.ext m = E at z2 z4 z5
  generalize 8 * E % 18446744073709551616 = E8 at z4 z5
  generalize hN : Cor.nxt pc = N at z3
  generalize hF : Cor.far pc m = F at z5
  have HG := Lib.hid (And.intro hE (And.intro hN hF))
  have HH := Lib.hid (And.intro hx1 (And.intro hn1 hc1))
  have HI := Lib.hid (And.intro hR (And.intro hpc hf))
  have HJ := Lib.hid (And.intro i1 i2)
  clear kx hR hpc h hx1 hn1 hc1 hf i1 i2 hE hN hF
  obtain ⟨tk, et⟩ : ∃ tk, Alu.takes 26 (R a) (R b) = tk := ⟨_, rfl⟩
  have C := Lib.hid (fun (W : World) => rtakes_any 26 (R a) (R b) W (HI.out.1 a) (HI.out.1 b))
  rw [et] at C
  have he : Cor.doing 26 a b d m L ⟨R, pc, f⟩ = (⟨R, if tk = true then F else N, f⟩, 0) := by rw [← HG.out.2.1, ← HG.out.2.2, ← et]; rfl
  rw [he]
  clear et he
  go_enter Try.func20, Try.ntmps20
  go_upto_region 2 with fail
  refine wp_region_near (by kernel_rfl) (by kernel_rfl) ?_
  repeat (quiet_step (fail))
  refine wpQuiet_nil ?_
  intro _ hw'
  obtain ⟨p, hw''⟩ := hw'
  subst hw''
  obtain ⟨W3, hp⟩ := p
  have HC := Lib.hid (HH.out.2.2.nr hp (by simp))
  have HX := Lib.hid (HH.out.1.nr hp (by simp))
  have HN := Lib.hid (HH.out.2.1.next hp)
  dsimp only
  clear HH kp hp z3 z4 z5 kw k4
  have k0 := HX.out.cells.1
  have Q := Lib.hid (fun p : Nearby W3 => Calls.near_of ((C.out p.W).mono fun e w'' h => ⟨h.1, h.2 ▸ Nr.refl [] p.W⟩))
  have kxp : ∀ p : Nearby W3, p.W.cell? ⟨X, 0, none⟩ = some (.int .i64 26) ∧ p.W.cell? ⟨X, 1, none⟩ = some (.int .i64 (a : Nat)) ∧ p.W.cell? ⟨X, 2, none⟩ = some (.int .i64 (b : Nat)) := fun p => by
    obtain ⟨x0, x1, x2, x3, x4⟩ := (HX.out.nr p.near (by simp)).cells
    exact ⟨x0, x1, x2⟩
  have k0p := fun p => (kxp p).1
  have k1p := fun p => (kxp p).2.1
  have k2p := fun p => (kxp p).2.2
  have kap : ∀ p : Nearby W3, p.W.cell? ⟨c, a, none⟩ = some (.int .u64 (R a : Nat)) := fun p => (HC.out.nr p.near (by simp)).cell ha
  have kbp : ∀ p : Nearby W3, p.W.cell? ⟨c, b, none⟩ = some (.int .u64 (R b : Nat)) := fun p => (HC.out.nr p.near (by simp)).cell hb
  clear kxp C
  go_upto_region 22 with fail
  refine wp_region_near (by kernel_rfl) (by kernel_rfl) ?_
  repeat (quiet_step (first | with_reducible exact Q.out _))
  refine wpQuiet_nil ?_
  intro _ hw'
  obtain ⟨p, hw''⟩ := hw'
  subst hw''
  obtain ⟨W4, hp⟩ := p
  have HC4 := Lib.hid (HC.out.nr hp (by simp))
  have HX4 := Lib.hid (HX.out.nr hp (by simp))
  have HN4 := Lib.hid (HN.out.next hp)
  dsimp only
  clear HC HX HN k0 k0p k1p k2p kap kbp Q hp
  have kn := HC4.out.next
  have kf := HC4.out.free 16
  have HE := Lib.hid (fun v : Nat => And.intro (HC4.out.go v) (HN4.out.set (b := c) (.inl (by simp)) 16 (.int .u64 (v : Nat))))
  cases tk
  · go_wp2_with fail
    go_ret
    exact ⟨rfl, HE.out N⟩
  · go_wp2_with fail
    go_ret
    exact ⟨rfl, HE.out F⟩
set_option maxRecDepth 100000 in
set_option maxHeartbeats 1000000 in
theorem do_b27 {c : Nat} {s : Cor.S} (a b d : Nat) (m : Int) (L : Nat) (w : World) (h : CS w c 36 s.R s.pc) (hs : Cor.Ok s) (ha : a < 16) (hb : b < 16) (hd : d < 16) (i1 : -2147483648 ≤ m) (i2 : m ≤ 2147483647) :
    Calls Try.prog 20 #[.pointer (some ⟨c, 0, none⟩), .agg #[.int .i64 27, .int .i64 (a : Nat), .int .i64 (b : Nat), .int .i64 (d : Nat), .int .i32 m], .int .u64 (L : Nat)] w fun e w' => DOut c (Cor.doing 27 a b d m L s) w e w' := by
  obtain ⟨R, pc, f⟩ := s
  obtain ⟨hR, hpc, hf⟩ := hs
  dsimp only at h hR hpc hf ⊢
  obtain ⟨W1, e1⟩ : ∃ W1, w.alloc (Obj.cells #[.int .i64 27, .int .i64 (a : Nat), .int .i64 (b : Nat), .int .i64 (d : Nat), .int .i32 m] 27) = W1 := ⟨_, rfl⟩
  obtain ⟨X, eX⟩ : ∃ X, w.heap.size = X := ⟨_, rfl⟩
  have hx1 : XS W1 X 27 a b d m := by rw [← e1, ← eX]; exact heap_alloc_new w _
  have hn1 : Nr [c] w W1 := by rw [← e1]; exact (Nr.refl _ _).alloc _
  have hc1 : CS W1 c 36 R pc := h.below (by rw [← e1]; exact below_alloc1 w _)
  have hcX : X ≠ c := by have := h.lt; omega
  have kx : ∀ p : Nearby W1, p.W.cell? ⟨X, 4, none⟩ = some (.int .i32 m) ∧ p.W.cell? ⟨c, 16, none⟩ = some (.int .u64 (pc : Nat)) := fun p => by
    obtain ⟨x0, x1, x2, x3, x4⟩ := (hx1.nr p.near (by simp)).cells
    exact ⟨x4, (hc1.nr p.near (by simp)).next⟩
  have k4 := fun p => (kx p).1
  have kp := fun p => (kx p).2
  have kw := hc1.next
  have hb' : (b : Int) < 16 := by omega
  have ha' : (a : Int) < 16 := by omega
  have hd' : (d : Int) < 16 := by omega
  have z1 : IntKind.i64.wrap m = m := IntWalk.i64_in _ (by omega)
  have z2 := Cor.ext_wrap m
  have z3 : IntKind.u64.wrap ((pc : Int) + 8) = (Cor.nxt pc : Nat) := by rw [wrap64]; unfold Cor.nxt; omega
  have z4 : IntKind.u64.wrap (8 * (Cor.ext m : Int)) = ((8 * Cor.ext m % 18446744073709551616 : Nat) : Int) := by rw [wrap64]; omega
  have z5 : IntKind.u64.wrap ((pc : Int) + ((8 * Cor.ext m % 18446744073709551616 : Nat) : Int)) = (Cor.far pc m : Nat) := by rw [wrap64]; unfold Cor.far; omega
  generalize hE : Cor.ext m = E at z2 z4 z5
  generalize 8 * E % 18446744073709551616 = E8 at z4 z5
  generalize hN : Cor.nxt pc = N at z3
  generalize hF : Cor.far pc m = F at z5
  have HG := Lib.hid (And.intro hE (And.intro hN hF))
  have HH := Lib.hid (And.intro hx1 (And.intro hn1 hc1))
  have HI := Lib.hid (And.intro hR (And.intro hpc hf))
  have HJ := Lib.hid (And.intro i1 i2)
  clear kx hR hpc h hx1 hn1 hc1 hf i1 i2 hE hN hF
  obtain ⟨tk, et⟩ : ∃ tk, Alu.takes 27 (R a) (R b) = tk := ⟨_, rfl⟩
  have C := Lib.hid (fun (W : World) => rtakes_any 27 (R a) (R b) W (HI.out.1 a) (HI.out.1 b))
  rw [et] at C
  have he : Cor.doing 27 a b d m L ⟨R, pc, f⟩ = (⟨R, if tk = true then F else N, f⟩, 0) := by rw [← HG.out.2.1, ← HG.out.2.2, ← et]; rfl
  rw [he]
  clear et he
  go_enter Try.func20, Try.ntmps20
  go_upto_region 2 with fail
  refine wp_region_near (by kernel_rfl) (by kernel_rfl) ?_
  repeat (quiet_step (fail))
  refine wpQuiet_nil ?_
  intro _ hw'
  obtain ⟨p, hw''⟩ := hw'
  subst hw''
  obtain ⟨W3, hp⟩ := p
  have HC := Lib.hid (HH.out.2.2.nr hp (by simp))
  have HX := Lib.hid (HH.out.1.nr hp (by simp))
  have HN := Lib.hid (HH.out.2.1.next hp)
  dsimp only
  clear HH kp hp z3 z4 z5 kw k4
  have k0 := HX.out.cells.1
  have Q := Lib.hid (fun p : Nearby W3 => Calls.near_of ((C.out p.W).mono fun e w'' h => ⟨h.1, h.2 ▸ Nr.refl [] p.W⟩))
  have kxp : ∀ p : Nearby W3, p.W.cell? ⟨X, 0, none⟩ = some (.int .i64 27) ∧ p.W.cell? ⟨X, 1, none⟩ = some (.int .i64 (a : Nat)) ∧ p.W.cell? ⟨X, 2, none⟩ = some (.int .i64 (b : Nat)) := fun p => by
    obtain ⟨x0, x1, x2, x3, x4⟩ := (HX.out.nr p.near (by simp)).cells
    exact ⟨x0, x1, x2⟩
  have k0p := fun p => (kxp p).1
  have k1p := fun p => (kxp p).2.1
  have k2p := fun p => (kxp p).2.2
  have kap : ∀ p : Nearby W3, p.W.cell? ⟨c, a, none⟩ = some (.int .u64 (R a : Nat)) := fun p => (HC.out.nr p.near (by simp)).cell ha
  have kbp : ∀ p : Nearby W3, p.W.cell? ⟨c, b, none⟩ = some (.int .u64 (R b : Nat)) := fun p => (HC.out.nr p.near (by simp)).cell hb
  clear kxp C
  go_upto_region 22 with fail
  refine wp_region_near (by kernel_rfl) (by kernel_rfl) ?_
  repeat (quiet_step (first | with_reducible exact Q.out _))
  refine wpQuiet_nil ?_
  intro _ hw'
  obtain ⟨p, hw''⟩ := hw'
  subst hw''
  obtain ⟨W4, hp⟩ := p
  have HC4 := Lib.hid (HC.out.nr hp (by simp))
  have HX4 := Lib.hid (HX.out.nr hp (by simp))
  have HN4 := Lib.hid (HN.out.next hp)
  dsimp only
  clear HC HX HN k0 k0p k1p k2p kap kbp Q hp
  have kn := HC4.out.next
  have kf := HC4.out.free 16
  have HE := Lib.hid (fun v : Nat => And.intro (HC4.out.go v) (HN4.out.set (b := c) (.inl (by simp)) 16 (.int .u64 (v : Nat))))
  cases tk
  · go_wp2_with fail
    go_ret
    exact ⟨rfl, HE.out N⟩
  · go_wp2_with fail
    go_ret
    exact ⟨rfl, HE.out F⟩
set_option maxRecDepth 100000 in
set_option maxHeartbeats 1000000 in
theorem do_b28 {c : Nat} {s : Cor.S} (a b d : Nat) (m : Int) (L : Nat) (w : World) (h : CS w c 36 s.R s.pc) (hs : Cor.Ok s) (ha : a < 16) (hb : b < 16) (hd : d < 16) (i1 : -2147483648 ≤ m) (i2 : m ≤ 2147483647) :
    Calls Try.prog 20 #[.pointer (some ⟨c, 0, none⟩), .agg #[.int .i64 28, .int .i64 (a : Nat), .int .i64 (b : Nat), .int .i64 (d : Nat), .int .i32 m], .int .u64 (L : Nat)] w fun e w' => DOut c (Cor.doing 28 a b d m L s) w e w' := by
  obtain ⟨R, pc, f⟩ := s
  obtain ⟨hR, hpc, hf⟩ := hs
  dsimp only at h hR hpc hf ⊢
  obtain ⟨W1, e1⟩ : ∃ W1, w.alloc (Obj.cells #[.int .i64 28, .int .i64 (a : Nat), .int .i64 (b : Nat), .int .i64 (d : Nat), .int .i32 m] 27) = W1 := ⟨_, rfl⟩
  obtain ⟨X, eX⟩ : ∃ X, w.heap.size = X := ⟨_, rfl⟩
  have hx1 : XS W1 X 28 a b d m := by rw [← e1, ← eX]; exact heap_alloc_new w _
  have hn1 : Nr [c] w W1 := by rw [← e1]; exact (Nr.refl _ _).alloc _
  have hc1 : CS W1 c 36 R pc := h.below (by rw [← e1]; exact below_alloc1 w _)
  have hcX : X ≠ c := by have := h.lt; omega
  have kx : ∀ p : Nearby W1, p.W.cell? ⟨X, 4, none⟩ = some (.int .i32 m) ∧ p.W.cell? ⟨c, 16, none⟩ = some (.int .u64 (pc : Nat)) := fun p => by
    obtain ⟨x0, x1, x2, x3, x4⟩ := (hx1.nr p.near (by simp)).cells
    exact ⟨x4, (hc1.nr p.near (by simp)).next⟩
  have k4 := fun p => (kx p).1
  have kp := fun p => (kx p).2
  have kw := hc1.next
  have hb' : (b : Int) < 16 := by omega
  have ha' : (a : Int) < 16 := by omega
  have hd' : (d : Int) < 16 := by omega
  have z1 : IntKind.i64.wrap m = m := IntWalk.i64_in _ (by omega)
  have z2 := Cor.ext_wrap m
  have z3 : IntKind.u64.wrap ((pc : Int) + 8) = (Cor.nxt pc : Nat) := by rw [wrap64]; unfold Cor.nxt; omega
  have z4 : IntKind.u64.wrap (8 * (Cor.ext m : Int)) = ((8 * Cor.ext m % 18446744073709551616 : Nat) : Int) := by rw [wrap64]; omega
  have z5 : IntKind.u64.wrap ((pc : Int) + ((8 * Cor.ext m % 18446744073709551616 : Nat) : Int)) = (Cor.far pc m : Nat) := by rw [wrap64]; unfold Cor.far; omega
  generalize hE : Cor.ext m = E at z2 z4 z5
  generalize 8 * E % 18446744073709551616 = E8 at z4 z5
  generalize hN : Cor.nxt pc = N at z3
  generalize hF : Cor.far pc m = F at z5
  have HG := Lib.hid (And.intro hE (And.intro hN hF))
  have HH := Lib.hid (And.intro hx1 (And.intro hn1 hc1))
  have HI := Lib.hid (And.intro hR (And.intro hpc hf))
  have HJ := Lib.hid (And.intro i1 i2)
  clear kx hR hpc h hx1 hn1 hc1 hf i1 i2 hE hN hF
  obtain ⟨tk, et⟩ : ∃ tk, Alu.takes 28 (R a) (R b) = tk := ⟨_, rfl⟩
  have C := Lib.hid (fun (W : World) => rtakes_any 28 (R a) (R b) W (HI.out.1 a) (HI.out.1 b))
  rw [et] at C
  have he : Cor.doing 28 a b d m L ⟨R, pc, f⟩ = (⟨R, if tk = true then F else N, f⟩, 0) := by rw [← HG.out.2.1, ← HG.out.2.2, ← et]; rfl
  rw [he]
  clear et he
  go_enter Try.func20, Try.ntmps20
  go_upto_region 2 with fail
  refine wp_region_near (by kernel_rfl) (by kernel_rfl) ?_
  repeat (quiet_step (fail))
  refine wpQuiet_nil ?_
  intro _ hw'
  obtain ⟨p, hw''⟩ := hw'
  subst hw''
  obtain ⟨W3, hp⟩ := p
  have HC := Lib.hid (HH.out.2.2.nr hp (by simp))
  have HX := Lib.hid (HH.out.1.nr hp (by simp))
  have HN := Lib.hid (HH.out.2.1.next hp)
  dsimp only
  clear HH kp hp z3 z4 z5 kw k4
  have k0 := HX.out.cells.1
  have Q := Lib.hid (fun p : Nearby W3 => Calls.near_of ((C.out p.W).mono fun e w'' h => ⟨h.1, h.2 ▸ Nr.refl [] p.W⟩))
  have kxp : ∀ p : Nearby W3, p.W.cell? ⟨X, 0, none⟩ = some (.int .i64 28) ∧ p.W.cell? ⟨X, 1, none⟩ = some (.int .i64 (a : Nat)) ∧ p.W.cell? ⟨X, 2, none⟩ = some (.int .i64 (b : Nat)) := fun p => by
    obtain ⟨x0, x1, x2, x3, x4⟩ := (HX.out.nr p.near (by simp)).cells
    exact ⟨x0, x1, x2⟩
  have k0p := fun p => (kxp p).1
  have k1p := fun p => (kxp p).2.1
  have k2p := fun p => (kxp p).2.2
  have kap : ∀ p : Nearby W3, p.W.cell? ⟨c, a, none⟩ = some (.int .u64 (R a : Nat)) := fun p => (HC.out.nr p.near (by simp)).cell ha
  have kbp : ∀ p : Nearby W3, p.W.cell? ⟨c, b, none⟩ = some (.int .u64 (R b : Nat)) := fun p => (HC.out.nr p.near (by simp)).cell hb
  clear kxp C
  go_upto_region 22 with fail
  refine wp_region_near (by kernel_rfl) (by kernel_rfl) ?_
  repeat (quiet_step (first | with_reducible exact Q.out _))
  refine wpQuiet_nil ?_
  intro _ hw'
  obtain ⟨p, hw''⟩ := hw'
  subst hw''
  obtain ⟨W4, hp⟩ := p
  have HC4 := Lib.hid (HC.out.nr hp (by simp))
  have HX4 := Lib.hid (HX.out.nr hp (by simp))
  have HN4 := Lib.hid (HN.out.next hp)
  dsimp only
  clear HC HX HN k0 k0p k1p k2p kap kbp Q hp
  have kn := HC4.out.next
  have kf := HC4.out.free 16
  have HE := Lib.hid (fun v : Nat => And.intro (HC4.out.go v) (HN4.out.set (b := c) (.inl (by simp)) 16 (.int .u64 (v : Nat))))
  cases tk
  · go_wp2_with fail
    go_ret
    exact ⟨rfl, HE.out N⟩
  · go_wp2_with fail
    go_ret
    exact ⟨rfl, HE.out F⟩
set_option maxRecDepth 100000 in
set_option maxHeartbeats 1000000 in
theorem do_jal {c : Nat} {s : Cor.S} (a b d : Nat) (m : Int) (L : Nat) (w : World) (h : CS w c 36 s.R s.pc) (hs : Cor.Ok s) (ha : a < 16) (hb : b < 16) (hd : d < 16) (i1 : -2147483648 ≤ m) (i2 : m ≤ 2147483647) :
    Calls Try.prog 20 #[.pointer (some ⟨c, 0, none⟩), .agg #[.int .i64 29, .int .i64 (a : Nat), .int .i64 (b : Nat), .int .i64 (d : Nat), .int .i32 m], .int .u64 (L : Nat)] w fun e w' => DOut c (Cor.doing 29 a b d m L s) w e w' := by
  obtain ⟨R, pc, f⟩ := s
  obtain ⟨hR, hpc, hf⟩ := hs
  dsimp only at h hR hpc hf ⊢
  obtain ⟨W1, e1⟩ : ∃ W1, w.alloc (Obj.cells #[.int .i64 29, .int .i64 (a : Nat), .int .i64 (b : Nat), .int .i64 (d : Nat), .int .i32 m] 27) = W1 := ⟨_, rfl⟩
  obtain ⟨X, eX⟩ : ∃ X, w.heap.size = X := ⟨_, rfl⟩
  have hx1 : XS W1 X 29 a b d m := by rw [← e1, ← eX]; exact heap_alloc_new w _
  have hn1 : Nr [c] w W1 := by rw [← e1]; exact (Nr.refl _ _).alloc _
  have hc1 : CS W1 c 36 R pc := h.below (by rw [← e1]; exact below_alloc1 w _)
  have hcX : X ≠ c := by have := h.lt; omega
  have kx : ∀ p : Nearby W1, p.W.cell? ⟨X, 4, none⟩ = some (.int .i32 m) ∧ p.W.cell? ⟨c, 16, none⟩ = some (.int .u64 (pc : Nat)) := fun p => by
    obtain ⟨x0, x1, x2, x3, x4⟩ := (hx1.nr p.near (by simp)).cells
    exact ⟨x4, (hc1.nr p.near (by simp)).next⟩
  have k4 := fun p => (kx p).1
  have kp := fun p => (kx p).2
  have kw := hc1.next
  have hb' : (b : Int) < 16 := by omega
  have ha' : (a : Int) < 16 := by omega
  have hd' : (d : Int) < 16 := by omega
  have z1 : IntKind.i64.wrap m = m := IntWalk.i64_in _ (by omega)
  have z2 := Cor.ext_wrap m
  have z3 : IntKind.u64.wrap ((pc : Int) + 8) = (Cor.nxt pc : Nat) := by rw [wrap64]; unfold Cor.nxt; omega
  have z4 : IntKind.u64.wrap (8 * (Cor.ext m : Int)) = ((8 * Cor.ext m % 18446744073709551616 : Nat) : Int) := by rw [wrap64]; omega
  have z5 : IntKind.u64.wrap ((pc : Int) + ((8 * Cor.ext m % 18446744073709551616 : Nat) : Int)) = (Cor.far pc m : Nat) := by rw [wrap64]; unfold Cor.far; omega
  generalize hE : Cor.ext m = E at z2 z4 z5
  generalize 8 * E % 18446744073709551616 = E8 at z4 z5
  generalize hN : Cor.nxt pc = N at z3
  generalize hF : Cor.far pc m = F at z5
  have HG := Lib.hid (And.intro hE (And.intro hN hF))
  have HH := Lib.hid (And.intro hx1 (And.intro hn1 hc1))
  have HI := Lib.hid (And.intro hR (And.intro hpc hf))
  have HJ := Lib.hid (And.intro i1 i2)
  clear kx hR hpc h hx1 hn1 hc1 hf i1 i2 hE hN hF
  go_enter Try.func20, Try.ntmps20
  go_upto_region 2 with fail
  refine wp_region_near (by kernel_rfl) (by kernel_rfl) ?_
  repeat (quiet_step (fail))
  refine wpQuiet_nil ?_
  intro _ hw'
  obtain ⟨p, hw''⟩ := hw'
  subst hw''
  obtain ⟨W3, hp⟩ := p
  have HC := Lib.hid (HH.out.2.2.nr hp (by simp))
  have HX := Lib.hid (HH.out.1.nr hp (by simp))
  have HN := Lib.hid (HH.out.2.1.next hp)
  dsimp only
  clear HH kp hp z3 z4 z5 kw k4
  have k0 := HX.out.cells.1
  obtain ⟨W4, e4⟩ : ∃ W4, W3.drew = W4 := ⟨_, rfl⟩
  have hx4 : XS W4 X 29 a b d m := by rw [← e4]; exact HX.out
  have hc4 : CS W4 c 36 R pc := by rw [← e4]; exact HC.out
  have hn4 : Nr [c] w W4 := by rw [← e4]; exact HN.out.drew
  obtain ⟨x0, x1, x2, x3, x4⟩ := hx4.cells
  have ca := hc4.cell ha
  have cb := hc4.cell hb
  have kg := hc4.free a
  have hc5 := hc4.put ha (N)
  have hn5 := hn4.set (b := c) (.inl (by simp)) a (.int .u64 ((N : Nat) : Int))
  have kn5 := hc5.next
  have kf5 := hc5.free 16
  have HE := Lib.hid (And.intro (hc5.go F) (hn5.set (b := c) (.inl (by simp)) 16 (.int .u64 (F : Nat))))
  clear hc5 hn5 hc4 hx4 hn4
  go_upto_region 25 with fail
  refine wp_region_still_tail 7 (by kernel_rfl) (by kernel_rfl) ?_
  rw [show ({ W3 with drawn := W3.drawn + 1 } : World) = W4 from e4]
  simp only [List.take_succ_cons, List.take_zero, List.drop_succ_cons, List.drop_zero]
  clear e4
  repeat still_step
  refine wpStill_nil ?_
  go_wp2_with fail
  go_ret
  have e : Cor.doing 29 a b d m L ⟨R, pc, f⟩ = (⟨Cor.put R a N, F, f⟩, 0) := by rw [← HG.out.2.1, ← HG.out.2.2]; rfl
  rw [e]
  exact ⟨rfl, HE.out⟩
set_option maxRecDepth 100000 in
set_option maxHeartbeats 1000000 in
theorem do_jr {c : Nat} {s : Cor.S} (a b d : Nat) (m : Int) (L : Nat) (w : World) (h : CS w c 36 s.R s.pc) (hs : Cor.Ok s) (ha : a < 16) (hb : b < 16) (hd : d < 16) (i1 : -2147483648 ≤ m) (i2 : m ≤ 2147483647) :
    Calls Try.prog 20 #[.pointer (some ⟨c, 0, none⟩), .agg #[.int .i64 30, .int .i64 (a : Nat), .int .i64 (b : Nat), .int .i64 (d : Nat), .int .i32 m], .int .u64 (L : Nat)] w fun e w' => DOut c (Cor.doing 30 a b d m L s) w e w' := by
  obtain ⟨R, pc, f⟩ := s
  obtain ⟨hR, hpc, hf⟩ := hs
  dsimp only at h hR hpc hf ⊢
  obtain ⟨W1, e1⟩ : ∃ W1, w.alloc (Obj.cells #[.int .i64 30, .int .i64 (a : Nat), .int .i64 (b : Nat), .int .i64 (d : Nat), .int .i32 m] 27) = W1 := ⟨_, rfl⟩
  obtain ⟨X, eX⟩ : ∃ X, w.heap.size = X := ⟨_, rfl⟩
  have hx1 : XS W1 X 30 a b d m := by rw [← e1, ← eX]; exact heap_alloc_new w _
  have hn1 : Nr [c] w W1 := by rw [← e1]; exact (Nr.refl _ _).alloc _
  have hc1 : CS W1 c 36 R pc := h.below (by rw [← e1]; exact below_alloc1 w _)
  have hcX : X ≠ c := by have := h.lt; omega
  have kx : ∀ p : Nearby W1, p.W.cell? ⟨X, 4, none⟩ = some (.int .i32 m) ∧ p.W.cell? ⟨c, 16, none⟩ = some (.int .u64 (pc : Nat)) := fun p => by
    obtain ⟨x0, x1, x2, x3, x4⟩ := (hx1.nr p.near (by simp)).cells
    exact ⟨x4, (hc1.nr p.near (by simp)).next⟩
  have k4 := fun p => (kx p).1
  have kp := fun p => (kx p).2
  have kw := hc1.next
  have hb' : (b : Int) < 16 := by omega
  have ha' : (a : Int) < 16 := by omega
  have hd' : (d : Int) < 16 := by omega
  have z1 : IntKind.i64.wrap m = m := IntWalk.i64_in _ (by omega)
  have z2 := Cor.ext_wrap m
  have z3 : IntKind.u64.wrap ((pc : Int) + 8) = (Cor.nxt pc : Nat) := by rw [wrap64]; unfold Cor.nxt; omega
  have z4 : IntKind.u64.wrap (8 * (Cor.ext m : Int)) = ((8 * Cor.ext m % 18446744073709551616 : Nat) : Int) := by rw [wrap64]; omega
  have z5 : IntKind.u64.wrap ((pc : Int) + ((8 * Cor.ext m % 18446744073709551616 : Nat) : Int)) = (Cor.far pc m : Nat) := by rw [wrap64]; unfold Cor.far; omega
  generalize hE : Cor.ext m = E at z2 z4 z5
  generalize 8 * E % 18446744073709551616 = E8 at z4 z5
  generalize hN : Cor.nxt pc = N at z3
  generalize hF : Cor.far pc m = F at z5
  have HG := Lib.hid (And.intro hE (And.intro hN hF))
  have HH := Lib.hid (And.intro hx1 (And.intro hn1 hc1))
  have HI := Lib.hid (And.intro hR (And.intro hpc hf))
  have HJ := Lib.hid (And.intro i1 i2)
  clear kx hR hpc h hx1 hn1 hc1 hf i1 i2 hE hN hF
  have he : Cor.doing 30 a b d m L ⟨R, pc, f⟩ = (⟨R, R a, f⟩, 0) := rfl
  rw [he]
  clear he
  go_enter Try.func20, Try.ntmps20
  go_upto_region 2 with fail
  refine wp_region_near (by kernel_rfl) (by kernel_rfl) ?_
  repeat (quiet_step (fail))
  refine wpQuiet_nil ?_
  intro _ hw'
  obtain ⟨p, hw''⟩ := hw'
  subst hw''
  obtain ⟨W3, hp⟩ := p
  have HC := Lib.hid (HH.out.2.2.nr hp (by simp))
  have HX := Lib.hid (HH.out.1.nr hp (by simp))
  have HN := Lib.hid (HH.out.2.1.next hp)
  dsimp only
  clear HH kp hp z3 z4 z5 kw k4
  have k0 := HX.out.cells.1
  have Q := Lib.hid trivial
  have k1p : ∀ p : Nearby W3, p.W.cell? ⟨X, 1, none⟩ = some (.int .i64 (a : Nat)) := fun p => (HX.out.nr p.near (by simp)).cells.2.1
  have kap : ∀ p : Nearby W3, p.W.cell? ⟨c, a, none⟩ = some (.int .u64 (R a : Nat)) := fun p => (HC.out.nr p.near (by simp)).cell ha
  go_upto_region 28 with fail
  refine wp_region_near (by kernel_rfl) (by kernel_rfl) ?_
  repeat (quiet_step (fail))
  refine wpQuiet_nil ?_
  intro _ hw'
  obtain ⟨p, hw''⟩ := hw'
  subst hw''
  obtain ⟨W4, hp⟩ := p
  have HC4 := Lib.hid (HC.out.nr hp (by simp))
  have HX4 := Lib.hid (HX.out.nr hp (by simp))
  have HN4 := Lib.hid (HN.out.next hp)
  dsimp only
  clear HC HX HN k0 k1p kap Q hp
  have kn := HC4.out.next
  have kf := HC4.out.free 16
  have HE := Lib.hid (And.intro (HC4.out.go (R a)) (HN4.out.set (b := c) (.inl (by simp)) 16 (.int .u64 (R a : Nat))))
  go_wp2_with fail
  go_ret
  exact ⟨rfl, HE.out⟩
set_option maxRecDepth 100000 in
set_option maxHeartbeats 1000000 in
theorem do_low {c : Nat} {s : Cor.S} (a b d : Nat) (m : Int) (L : Nat) (w : World) (h : CS w c 36 s.R s.pc) (hs : Cor.Ok s) (ha : a < 16) (hb : b < 16) (hd : d < 16) (i1 : -2147483648 ≤ m) (i2 : m ≤ 2147483647) (op : Int) (lo : 4 ≤ op) (up : op ≤ 17) :
    Calls Try.prog 20 #[.pointer (some ⟨c, 0, none⟩), .agg #[.int .i64 op, .int .i64 (a : Nat), .int .i64 (b : Nat), .int .i64 (d : Nat), .int .i32 m], .int .u64 (L : Nat)] w fun e w' => DOut c (Cor.doing op a b d m L s) w e w' := by
  have he : Cor.doing op a b d m L s = if (Alu.rk op (s.R b) (s.R d)).2 = true then (⟨Cor.put s.R a (Alu.rk op (s.R b) (s.R d)).1, Cor.nxt s.pc, s.f⟩, 0) else (s, 5) := by
    unfold Cor.doing Cor.plain
    rw [if_neg (by omega), if_neg (by omega), if_neg (by omega), if_neg (by omega), if_neg (by omega), if_neg (by omega), if_neg (by omega), if_neg (by omega), if_neg (by omega), if_neg (by omega)]
  rw [he]
  have b1 : (op == 1) = false := by simp; omega
  have b43 : (op == 43) = false := by simp; omega
  have b2 : (op == 2) = false := by simp; omega
  have b3 : (op == 3) = false := by simp; omega
  have b18 : (op == 18) = false := by simp; omega
  have b29 : (op == 29) = false := by simp; omega
  have b30 : (op == 30) = false := by simp; omega
  have g1 : ¬ 19 ≤ op := by omega
  have g2 : ¬ 22 ≤ op := by omega
  have g3 : ¬ 25 ≤ op := by omega
  clear he lo up
  obtain ⟨R, pc, f⟩ := s
  obtain ⟨hR, hpc, hf⟩ := hs
  dsimp only at h hR hpc hf ⊢
  obtain ⟨W1, e1⟩ : ∃ W1, w.alloc (Obj.cells #[.int .i64 op, .int .i64 (a : Nat), .int .i64 (b : Nat), .int .i64 (d : Nat), .int .i32 m] 27) = W1 := ⟨_, rfl⟩
  obtain ⟨X, eX⟩ : ∃ X, w.heap.size = X := ⟨_, rfl⟩
  have hx1 : XS W1 X op a b d m := by rw [← e1, ← eX]; exact heap_alloc_new w _
  have hn1 : Nr [c] w W1 := by rw [← e1]; exact (Nr.refl _ _).alloc _
  have hc1 : CS W1 c 36 R pc := h.below (by rw [← e1]; exact below_alloc1 w _)
  have hcX : X ≠ c := by have := h.lt; omega
  have kx : ∀ p : Nearby W1, p.W.cell? ⟨X, 4, none⟩ = some (.int .i32 m) ∧ p.W.cell? ⟨c, 16, none⟩ = some (.int .u64 (pc : Nat)) := fun p => by
    obtain ⟨x0, x1, x2, x3, x4⟩ := (hx1.nr p.near (by simp)).cells
    exact ⟨x4, (hc1.nr p.near (by simp)).next⟩
  have k4 := fun p => (kx p).1
  have kp := fun p => (kx p).2
  have kw := hc1.next
  have hb' : (b : Int) < 16 := by omega
  have ha' : (a : Int) < 16 := by omega
  have hd' : (d : Int) < 16 := by omega
  have z1 : IntKind.i64.wrap m = m := IntWalk.i64_in _ (by omega)
  have z2 := Cor.ext_wrap m
  have z3 : IntKind.u64.wrap ((pc : Int) + 8) = (Cor.nxt pc : Nat) := by rw [wrap64]; unfold Cor.nxt; omega
  have z4 : IntKind.u64.wrap (8 * (Cor.ext m : Int)) = ((8 * Cor.ext m % 18446744073709551616 : Nat) : Int) := by rw [wrap64]; omega
  have z5 : IntKind.u64.wrap ((pc : Int) + ((8 * Cor.ext m % 18446744073709551616 : Nat) : Int)) = (Cor.far pc m : Nat) := by rw [wrap64]; unfold Cor.far; omega
  generalize hE : Cor.ext m = E at z2 z4 z5
  generalize 8 * E % 18446744073709551616 = E8 at z4 z5
  generalize hN : Cor.nxt pc = N at z3
  generalize hF : Cor.far pc m = F at z5
  have HG := Lib.hid (And.intro hE (And.intro hN hF))
  have HH := Lib.hid (And.intro hx1 (And.intro hn1 hc1))
  have HI := Lib.hid (And.intro hR (And.intro hpc hf))
  have HJ := Lib.hid (And.intro i1 i2)
  clear kx hR hpc h hx1 hn1 hc1 hf i1 i2 hE hN hF
  obtain ⟨v, o, hv⟩ : ∃ v o, Alu.rk op (R b) (R d) = (v, o) := ⟨_, _, rfl⟩
  rw [hv]
  dsimp only
  have C := Lib.hid (fun (W : World) => reck_any op (R b) (R d) W (HI.out.1 b) (HI.out.1 d))
  rw [hv] at C
  unfold Two at C
  dsimp only at C
  clear hv
  go_enter Try.func20, Try.ntmps20
  go_upto_region 2 with fail
  refine wp_region_near (by kernel_rfl) (by kernel_rfl) ?_
  repeat (quiet_step (fail))
  refine wpQuiet_nil ?_
  intro _ hw'
  obtain ⟨p, hw''⟩ := hw'
  subst hw''
  obtain ⟨W3, hp⟩ := p
  have HC := Lib.hid (HH.out.2.2.nr hp (by simp))
  have HX := Lib.hid (HH.out.1.nr hp (by simp))
  have HN := Lib.hid (HH.out.2.1.next hp)
  dsimp only
  clear HH kp hp z3 z4 z5 kw k4
  have k0 := HX.out.cells.1
  have Q := Lib.hid (fun p : Nearby W3 => Calls.near_of ((C.out p.W).mono fun e w'' h => ⟨h.1, Nr.of_grown h.2⟩))
  have kxp : ∀ p : Nearby W3, p.W.cell? ⟨X, 0, none⟩ = some (.int .i64 op) ∧ p.W.cell? ⟨X, 2, none⟩ = some (.int .i64 (b : Nat)) ∧ p.W.cell? ⟨X, 3, none⟩ = some (.int .i64 (d : Nat)) := fun p => by
    obtain ⟨x0, x1, x2, x3, x4⟩ := (HX.out.nr p.near (by simp)).cells
    exact ⟨x0, x2, x3⟩
  have k0p := fun p => (kxp p).1
  have k2p := fun p => (kxp p).2.1
  have k3p := fun p => (kxp p).2.2
  have kbp : ∀ p : Nearby W3, p.W.cell? ⟨c, b, none⟩ = some (.int .u64 (R b : Nat)) := fun p => (HC.out.nr p.near (by simp)).cell hb
  have kdp : ∀ p : Nearby W3, p.W.cell? ⟨c, d, none⟩ = some (.int .u64 (R d : Nat)) := fun p => (HC.out.nr p.near (by simp)).cell hd
  clear kxp C
  go_upto_region 3 with fail
  refine wp_region_near (by kernel_rfl) (by kernel_rfl) ?_
  repeat (quiet_step (first | with_reducible exact Q.out _))
  refine wpQuiet_nil ?_
  intro _ hw'
  obtain ⟨p, hw''⟩ := hw'
  subst hw''
  obtain ⟨W4, hp⟩ := p
  have HC4 := Lib.hid (HC.out.nr hp (by simp))
  have HX4 := Lib.hid (HX.out.nr hp (by simp))
  have HN4 := Lib.hid (HN.out.next hp)
  dsimp only
  clear HC HX HN k0 k0p k2p k3p kbp kdp Q hp
  cases o
  · go_wp2_with fail
    go_ret
    exact ⟨rfl, HC4.out, HN4.out⟩
  · obtain ⟨W5, e4⟩ : ∃ W5, W4.drew = W5 := ⟨_, rfl⟩
    have hx4 : XS W5 X op a b d m := by rw [← e4]; exact HX4.out
    have hc4 : CS W5 c 36 R pc := by rw [← e4]; exact HC4.out
    have hn4 : Nr [c] w W5 := by rw [← e4]; exact HN4.out.drew
    have x1 := hx4.cells.2.1
    have ca := hc4.cell ha
    have kg := hc4.free a
    have hc5 := hc4.put ha v
    have hn5 := hn4.set (b := c) (.inl (by simp)) a (.int .u64 (v : Nat))
    have kn5 := hc5.next
    have kf5 := hc5.free 16
    have HE := Lib.hid (And.intro (hc5.go N) (hn5.set (b := c) (.inl (by simp)) 16 (.int .u64 (N : Nat))))
    clear hc5 hn5 hc4 hx4 hn4
    go_upto_region 6 with fail
    refine wp_region_still_tail 7 (by kernel_rfl) (by kernel_rfl) ?_
    rw [show ({ W4 with drawn := W4.drawn + 1 } : World) = W5 from e4]
    simp only [List.take_succ_cons, List.take_zero, List.drop_succ_cons, List.drop_zero]
    clear e4
    repeat still_step
    refine wpStill_nil ?_
    go_wp2_with fail
    go_ret
    exact ⟨rfl, HE.out⟩
set_option maxRecDepth 100000 in
set_option maxHeartbeats 1000000 in
theorem do_high {c : Nat} {s : Cor.S} (a b d : Nat) (m : Int) (L : Nat) (w : World) (h : CS w c 36 s.R s.pc) (hs : Cor.Ok s) (ha : a < 16) (hb : b < 16) (hd : d < 16) (i1 : -2147483648 ≤ m) (i2 : m ≤ 2147483647) (op : Int) (lo : 31 ≤ op) (up : op ≤ 42) :
    Calls Try.prog 20 #[.pointer (some ⟨c, 0, none⟩), .agg #[.int .i64 op, .int .i64 (a : Nat), .int .i64 (b : Nat), .int .i64 (d : Nat), .int .i32 m], .int .u64 (L : Nat)] w fun e w' => DOut c (Cor.doing op a b d m L s) w e w' := by
  have he : Cor.doing op a b d m L s = if (Alu.rk op (s.R b) (s.R d)).2 = true then (⟨Cor.put s.R a (Alu.rk op (s.R b) (s.R d)).1, Cor.nxt s.pc, s.f⟩, 0) else (s, 5) := by
    unfold Cor.doing Cor.plain
    rw [if_neg (by omega), if_neg (by omega), if_neg (by omega), if_neg (by omega), if_neg (by omega), if_neg (by omega), if_neg (by omega), if_neg (by omega), if_neg (by omega), if_neg (by omega)]
  rw [he]
  have b1 : (op == 1) = false := by simp; omega
  have b43 : (op == 43) = false := by simp; omega
  have b2 : (op == 2) = false := by simp; omega
  have b3 : (op == 3) = false := by simp; omega
  have b18 : (op == 18) = false := by simp; omega
  have b29 : (op == 29) = false := by simp; omega
  have b30 : (op == 30) = false := by simp; omega
  have g1 : 19 ≤ op := by omega
  have g2 : 22 ≤ op := by omega
  have g3 : 25 ≤ op := by omega
  have f1 : ¬ op ≤ 21 := by omega
  have f2 : ¬ op ≤ 24 := by omega
  have f3 : ¬ op ≤ 28 := by omega
  clear he lo up
  obtain ⟨R, pc, f⟩ := s
  obtain ⟨hR, hpc, hf⟩ := hs
  dsimp only at h hR hpc hf ⊢
  obtain ⟨W1, e1⟩ : ∃ W1, w.alloc (Obj.cells #[.int .i64 op, .int .i64 (a : Nat), .int .i64 (b : Nat), .int .i64 (d : Nat), .int .i32 m] 27) = W1 := ⟨_, rfl⟩
  obtain ⟨X, eX⟩ : ∃ X, w.heap.size = X := ⟨_, rfl⟩
  have hx1 : XS W1 X op a b d m := by rw [← e1, ← eX]; exact heap_alloc_new w _
  have hn1 : Nr [c] w W1 := by rw [← e1]; exact (Nr.refl _ _).alloc _
  have hc1 : CS W1 c 36 R pc := h.below (by rw [← e1]; exact below_alloc1 w _)
  have hcX : X ≠ c := by have := h.lt; omega
  have kx : ∀ p : Nearby W1, p.W.cell? ⟨X, 4, none⟩ = some (.int .i32 m) ∧ p.W.cell? ⟨c, 16, none⟩ = some (.int .u64 (pc : Nat)) := fun p => by
    obtain ⟨x0, x1, x2, x3, x4⟩ := (hx1.nr p.near (by simp)).cells
    exact ⟨x4, (hc1.nr p.near (by simp)).next⟩
  have k4 := fun p => (kx p).1
  have kp := fun p => (kx p).2
  have kw := hc1.next
  have hb' : (b : Int) < 16 := by omega
  have ha' : (a : Int) < 16 := by omega
  have hd' : (d : Int) < 16 := by omega
  have z1 : IntKind.i64.wrap m = m := IntWalk.i64_in _ (by omega)
  have z2 := Cor.ext_wrap m
  have z3 : IntKind.u64.wrap ((pc : Int) + 8) = (Cor.nxt pc : Nat) := by rw [wrap64]; unfold Cor.nxt; omega
  have z4 : IntKind.u64.wrap (8 * (Cor.ext m : Int)) = ((8 * Cor.ext m % 18446744073709551616 : Nat) : Int) := by rw [wrap64]; omega
  have z5 : IntKind.u64.wrap ((pc : Int) + ((8 * Cor.ext m % 18446744073709551616 : Nat) : Int)) = (Cor.far pc m : Nat) := by rw [wrap64]; unfold Cor.far; omega
  generalize hE : Cor.ext m = E at z2 z4 z5
  generalize 8 * E % 18446744073709551616 = E8 at z4 z5
  generalize hN : Cor.nxt pc = N at z3
  generalize hF : Cor.far pc m = F at z5
  have HG := Lib.hid (And.intro hE (And.intro hN hF))
  have HH := Lib.hid (And.intro hx1 (And.intro hn1 hc1))
  have HI := Lib.hid (And.intro hR (And.intro hpc hf))
  have HJ := Lib.hid (And.intro i1 i2)
  clear kx hR hpc h hx1 hn1 hc1 hf i1 i2 hE hN hF
  obtain ⟨v, o, hv⟩ : ∃ v o, Alu.rk op (R b) (R d) = (v, o) := ⟨_, _, rfl⟩
  rw [hv]
  dsimp only
  have C := Lib.hid (fun (W : World) => reck_any op (R b) (R d) W (HI.out.1 b) (HI.out.1 d))
  rw [hv] at C
  unfold Two at C
  dsimp only at C
  clear hv
  go_enter Try.func20, Try.ntmps20
  go_upto_region 2 with fail
  refine wp_region_near (by kernel_rfl) (by kernel_rfl) ?_
  repeat (quiet_step (fail))
  refine wpQuiet_nil ?_
  intro _ hw'
  obtain ⟨p, hw''⟩ := hw'
  subst hw''
  obtain ⟨W3, hp⟩ := p
  have HC := Lib.hid (HH.out.2.2.nr hp (by simp))
  have HX := Lib.hid (HH.out.1.nr hp (by simp))
  have HN := Lib.hid (HH.out.2.1.next hp)
  dsimp only
  clear HH kp hp z3 z4 z5 kw k4
  have k0 := HX.out.cells.1
  have Q := Lib.hid (fun p : Nearby W3 => Calls.near_of ((C.out p.W).mono fun e w'' h => ⟨h.1, Nr.of_grown h.2⟩))
  have kxp : ∀ p : Nearby W3, p.W.cell? ⟨X, 0, none⟩ = some (.int .i64 op) ∧ p.W.cell? ⟨X, 2, none⟩ = some (.int .i64 (b : Nat)) ∧ p.W.cell? ⟨X, 3, none⟩ = some (.int .i64 (d : Nat)) := fun p => by
    obtain ⟨x0, x1, x2, x3, x4⟩ := (HX.out.nr p.near (by simp)).cells
    exact ⟨x0, x2, x3⟩
  have k0p := fun p => (kxp p).1
  have k2p := fun p => (kxp p).2.1
  have k3p := fun p => (kxp p).2.2
  have kbp : ∀ p : Nearby W3, p.W.cell? ⟨c, b, none⟩ = some (.int .u64 (R b : Nat)) := fun p => (HC.out.nr p.near (by simp)).cell hb
  have kdp : ∀ p : Nearby W3, p.W.cell? ⟨c, d, none⟩ = some (.int .u64 (R d : Nat)) := fun p => (HC.out.nr p.near (by simp)).cell hd
  clear kxp C
  go_upto_region 3 with fail
  refine wp_region_near (by kernel_rfl) (by kernel_rfl) ?_
  repeat (quiet_step (first | with_reducible exact Q.out _))
  refine wpQuiet_nil ?_
  intro _ hw'
  obtain ⟨p, hw''⟩ := hw'
  subst hw''
  obtain ⟨W4, hp⟩ := p
  have HC4 := Lib.hid (HC.out.nr hp (by simp))
  have HX4 := Lib.hid (HX.out.nr hp (by simp))
  have HN4 := Lib.hid (HN.out.next hp)
  dsimp only
  clear HC HX HN k0 k0p k2p k3p kbp kdp Q hp
  cases o
  · go_wp2_with fail
    go_ret
    exact ⟨rfl, HC4.out, HN4.out⟩
  · obtain ⟨W5, e4⟩ : ∃ W5, W4.drew = W5 := ⟨_, rfl⟩
    have hx4 : XS W5 X op a b d m := by rw [← e4]; exact HX4.out
    have hc4 : CS W5 c 36 R pc := by rw [← e4]; exact HC4.out
    have hn4 : Nr [c] w W5 := by rw [← e4]; exact HN4.out.drew
    have x1 := hx4.cells.2.1
    have ca := hc4.cell ha
    have kg := hc4.free a
    have hc5 := hc4.put ha v
    have hn5 := hn4.set (b := c) (.inl (by simp)) a (.int .u64 (v : Nat))
    have kn5 := hc5.next
    have kf5 := hc5.free 16
    have HE := Lib.hid (And.intro (hc5.go N) (hn5.set (b := c) (.inl (by simp)) 16 (.int .u64 (N : Nat))))
    clear hc5 hn5 hc4 hx4 hn4
    go_upto_region 6 with fail
    refine wp_region_still_tail 7 (by kernel_rfl) (by kernel_rfl) ?_
    rw [show ({ W4 with drawn := W4.drawn + 1 } : World) = W5 from e4]
    simp only [List.take_succ_cons, List.take_zero, List.drop_succ_cons, List.drop_zero]
    clear e4
    repeat still_step
    refine wpStill_nil ?_
    go_wp2_with fail
    go_ret
    exact ⟨rfl, HE.out⟩
theorem do_any {c : Nat} {s : Cor.S} (a b d : Nat) (m : Int) (L : Nat) (w : World) (h : CS w c 36 s.R s.pc) (hs : Cor.Ok s) (ha : a < 16) (hb : b < 16) (hd : d < 16) (i1 : -2147483648 ≤ m) (i2 : m ≤ 2147483647) (op : Int) (lo : 1 ≤ op) (up : op ≤ 43) :
    Calls Try.prog 20 #[.pointer (some ⟨c, 0, none⟩), .agg #[.int .i64 op, .int .i64 (a : Nat), .int .i64 (b : Nat), .int .i64 (d : Nat), .int .i32 m], .int .u64 (L : Nat)] w fun e w' => DOut c (Cor.doing op a b d m L s) w e w' := by
  by_cases n1 : op = 1
  · subst n1; exact do_halt a b d m L w h hs ha hb hd i1 i2
  by_cases n2 : op = 2
  · subst n2; exact do_li a b d m L w h hs ha hb hd i1 i2
  by_cases n3 : op = 3
  · subst n3; exact do_hi a b d m L w h hs ha hb hd i1 i2
  by_cases n18 : op = 18
  · subst n18; exact do_addi a b d m L w h hs ha hb hd i1 i2
  by_cases n19 : op = 19
  · subst n19; exact do_l19 a b d m L w h hs ha hb hd i1 i2
  by_cases n20 : op = 20
  · subst n20; exact do_l20 a b d m L w h hs ha hb hd i1 i2
  by_cases n21 : op = 21
  · subst n21; exact do_l21 a b d m L w h hs ha hb hd i1 i2
  by_cases n22 : op = 22
  · subst n22; exact do_s22 a b d m L w h hs ha hb hd i1 i2
  by_cases n23 : op = 23
  · subst n23; exact do_s23 a b d m L w h hs ha hb hd i1 i2
  by_cases n24 : op = 24
  · subst n24; exact do_s24 a b d m L w h hs ha hb hd i1 i2
  by_cases n25 : op = 25
  · subst n25; exact do_b25 a b d m L w h hs ha hb hd i1 i2
  by_cases n26 : op = 26
  · subst n26; exact do_b26 a b d m L w h hs ha hb hd i1 i2
  by_cases n27 : op = 27
  · subst n27; exact do_b27 a b d m L w h hs ha hb hd i1 i2
  by_cases n28 : op = 28
  · subst n28; exact do_b28 a b d m L w h hs ha hb hd i1 i2
  by_cases n29 : op = 29
  · subst n29; exact do_jal a b d m L w h hs ha hb hd i1 i2
  by_cases n30 : op = 30
  · subst n30; exact do_jr a b d m L w h hs ha hb hd i1 i2
  by_cases n43 : op = 43
  · subst n43; exact do_trap a b d m L w h hs ha hb hd i1 i2
  by_cases hl : op ≤ 17
  · exact do_low a b d m L w h hs ha hb hd i1 i2 op (by omega) hl
  · exact do_high a b d m L w h hs ha hb hd i1 i2 op (by omega) (by omega)
end Go.Proofs.Ytojnokaeopadfaa
