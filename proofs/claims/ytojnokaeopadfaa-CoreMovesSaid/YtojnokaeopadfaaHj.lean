/- A core executes branches, loads, stores, and what is reckoned. Written by genHi.py. -/
import Derived.Test.YtojnokaeopadfaaHi
set_option linter.unusedVariables false
set_option linter.unusedSimpArgs false
namespace Go.Proofs.Ytojnokaeopadfaa
open Go.RowKit

theorem takes_25c (a b : Nat) (w : World) (ha : a < 18446744073709551616) (hb : b < 18446744073709551616) : Calls Try.prog 23 #[.int .i64 25, .int .u64 a, .int .u64 b] w fun e w' => e = .returned (.bool (Alu.takes 25 a b)) ∧ w = w' := takes_25 a b w ha hb
theorem takes_26c (a b : Nat) (w : World) (ha : a < 18446744073709551616) (hb : b < 18446744073709551616) : Calls Try.prog 23 #[.int .i64 26, .int .u64 a, .int .u64 b] w fun e w' => e = .returned (.bool (Alu.takes 26 a b)) ∧ w = w' := takes_26 a b w ha hb
theorem takes_27c (a b : Nat) (w : World) (ha : a < 18446744073709551616) (hb : b < 18446744073709551616) : Calls Try.prog 23 #[.int .i64 27, .int .u64 a, .int .u64 b] w fun e w' => e = .returned (.bool (Alu.takes 27 a b)) ∧ w = w' := takes_27 a b w ha hb
theorem takes_28c (a b : Nat) (w : World) (ha : a < 18446744073709551616) (hb : b < 18446744073709551616) : Calls Try.prog 23 #[.int .i64 28, .int .u64 a, .int .u64 b] w fun e w' => e = .returned (.bool (Alu.takes 28 a b)) ∧ w = w' := takes_28 a b w ha hb
set_option maxRecDepth 100000 in
set_option maxHeartbeats 1000000 in
theorem ex_b25 {c g y n : Nat} {hole : Int} {s : Cor.S} (a b d : Nat) (m : Int) (w : World) (h : CS w c 35 s.R s.pc) (hm : MS w g y n hole s.f) (hs : Cor.Ok s) (hcg : c ≠ g) (hcy : c ≠ y) (ha : a < 16) (hb : b < 16) (hd : d < 16) (i1 : -2147483648 ≤ m) (i2 : m ≤ 2147483647) :
    Calls Try.prog 14 #[.pointer (some ⟨c, 0, none⟩), .agg #[.int .i64 25, .int .i64 (a : Nat), .int .i64 (b : Nat), .int .i64 (d : Nat), .int .i32 m], IV g] w fun e w' => EO 35 c g y n hole (Cor.exec n hole 25 a b d m s) w e w' := by
  obtain ⟨R, pc, f⟩ := s
  obtain ⟨hR, hpc, hf⟩ := hs
  dsimp only at h hm hR hpc hf ⊢
  obtain ⟨W1, e1⟩ : ∃ W1, w.alloc (Obj.cells #[.int .i64 25, .int .i64 (a : Nat), .int .i64 (b : Nat), .int .i64 (d : Nat), .int .i32 m] 27) = W1 := ⟨_, rfl⟩
  obtain ⟨X, eX⟩ : ∃ X, w.heap.size = X := ⟨_, rfl⟩
  have hx1 : XS W1 X 25 a b d m := by rw [← e1, ← eX]; exact heap_alloc_new w _
  have hn1 : Nr [c, y] w W1 := by rw [← e1]; exact (Nr.refl _ _).alloc _
  have hc1 : CS W1 c 35 R pc := h.below (by rw [← e1]; exact below_alloc1 w _)
  have hm1 : MS W1 g y n hole f := hm.below (by rw [← e1]; exact below_alloc1 w _)
  have hcX : X ≠ c := by have := h.lt; omega
  have kx : ∀ p : Nearby W1, p.W.cell? ⟨X, 1, none⟩ = some (.int .i64 (a : Nat)) ∧ p.W.cell? ⟨X, 2, none⟩ = some (.int .i64 (b : Nat)) ∧ p.W.cell? ⟨X, 4, none⟩ = some (.int .i32 m) ∧ p.W.cell? ⟨c, 16, none⟩ = some (.int .u64 (pc : Nat)) ∧ p.W.cell? ⟨c, b, none⟩ = some (.int .u64 (R b : Nat)) := fun p => by
    obtain ⟨x0, x1, x2, x3, x4⟩ := (hx1.nr p.near (by simp)).cells
    exact ⟨x1, x2, x4, (hc1.nr p.near (by simp)).next, (hc1.nr p.near (by simp)).cell hb⟩
  have k1 := fun p => (kx p).1
  have k2 := fun p => (kx p).2.1
  have k4 := fun p => (kx p).2.2.1
  have kp := fun p => (kx p).2.2.2.1
  have kb := fun p => (kx p).2.2.2.2
  have hb' : (b : Int) < 16 := by omega
  have ha' : (a : Int) < 16 := by omega
  have z1 : IntKind.i64.wrap m = m := IntWalk.i64_in _ (by omega)
  have z2 := Cor.ext_wrap m
  have z3 : IntKind.u64.wrap ((pc : Int) + 8) = (Cor.nxt pc : Nat) := by rw [wrap64]; unfold Cor.nxt; omega
  have z4 : IntKind.u64.wrap (8 * (Cor.ext m : Int)) = ((8 * Cor.ext m % 18446744073709551616 : Nat) : Int) := by rw [wrap64]; omega
  have z5 : IntKind.u64.wrap ((pc : Int) + ((8 * Cor.ext m % 18446744073709551616 : Nat) : Int)) = (Cor.far pc m : Nat) := by rw [wrap64]; unfold Cor.far; omega
  generalize hE : Cor.ext m = E at z2 z4 z5
  generalize 8 * E % 18446744073709551616 = E8 at z4 z5
  generalize hN : Cor.nxt pc = N at z3
  generalize hF : Cor.far pc m = F at z5
  have HG := Lib.hid (And.intro hE (And.intro hN hF))
  have HH := Lib.hid (And.intro hx1 (And.intro hn1 (And.intro hc1 hm1)))
  have HI := Lib.hid (And.intro hR (And.intro hpc hf))
  have HJ := Lib.hid (And.intro i1 i2)
  clear kx hR hpc h hx1 hn1 hc1 hf hm hm1 i1 i2 hE hN hF
  unfold IV
  go_enter Try.func14, Try.ntmps14
  go_upto_region 1 with fail
  refine wp_region_near (by kernel_rfl) (by kernel_rfl) ?_
  repeat (quiet_step (fail))
  refine wpQuiet_nil ?_
  intro _ hw'
  obtain ⟨p, hw''⟩ := hw'
  subst hw''
  obtain ⟨W2, hp⟩ := p
  have hc2 := HH.out.2.2.1.nr hp (by simp)
  have hm2 := HH.out.2.2.2.nr hp (by simp) (by simp)
  have hx2 := HH.out.1.nr hp (by simp)
  have hn2 := HH.out.2.1.next hp
  dsimp only
  clear HH kb k1 k2 k4 kp hp e1
  have kp : ∀ p : Nearby W2, p.W.cell? ⟨c, 16, none⟩ = some (.int .u64 (pc : Nat)) := fun p => (hc2.nr p.near (by simp)).next
  have HH := Lib.hid (And.intro hx2 (And.intro hn2 (And.intro hc2 hm2)))
  clear hx2 hn2 hc2 hm2
  go_upto_region 2 with fail
  refine wp_region_near (by kernel_rfl) (by kernel_rfl) ?_
  repeat (quiet_step (fail))
  refine wpQuiet_nil ?_
  intro _ hw'
  obtain ⟨p, hw''⟩ := hw'
  subst hw''
  obtain ⟨W3, hp⟩ := p
  have HC := Lib.hid (HH.out.2.2.1.nr hp (by simp))
  have HM := Lib.hid (HH.out.2.2.2.nr hp (by simp) (by simp))
  have HX := Lib.hid (HH.out.1.nr hp (by simp))
  have HN := Lib.hid (HH.out.2.1.next hp)
  dsimp only
  clear HH kp hp z1 z2 z3 z4 z5
  have k0 := HX.out.cells.1
  obtain ⟨tk, et⟩ : ∃ tk, Alu.takes 25 (R a) (R b) = tk := ⟨_, rfl⟩
  have C := Lib.hid (fun (W : World) => takes_25c (R a) (R b) W (HI.out.1 a) (HI.out.1 b))
  rw [et] at C
  have Q := Lib.hid (fun p : Nearby W3 => Calls.near_of ((C.out p.W).mono fun e w'' h => ⟨h.1, h.2 ▸ Nr.refl [] p.W⟩))
  have he : Cor.exec n hole 25 a b d m ⟨R, pc, f⟩ = (⟨R, if tk = true then F else N, f⟩, 0) := by rw [← HG.out.2.1, ← HG.out.2.2, ← et]; rfl
  have EX := Lib.hid he
  have k0p : ∀ p : Nearby W3, p.W.cell? ⟨X, 0, none⟩ = some (.int .i64 25) := fun p => (HX.out.nr p.near (by simp)).cells.1
  have kap : ∀ p : Nearby W3, p.W.cell? ⟨c, a, none⟩ = some (.int .u64 (R a : Nat)) := fun p => (HC.out.nr p.near (by simp)).cell ha
  clear et he C
  go_upto_region 24 with fail
  refine wp_region_near (by kernel_rfl) (by kernel_rfl) ?_
  repeat (quiet_step (first | with_reducible exact Q.out _))
  refine wpQuiet_nil ?_
  intro _ hw'
  obtain ⟨p, hw''⟩ := hw'
  subst hw''
  obtain ⟨W4, hp⟩ := p
  have HC4 := Lib.hid (HC.out.nr hp (by simp))
  have HM4 := Lib.hid (HM.out.nr hp (by simp) (by simp))
  have HN4 := Lib.hid (HN.out.next hp)
  dsimp only
  clear HC HM HX HN k0 k0p kap Q hp
  have kn := HC4.out.next
  have kf := HC4.out.free 16
  have HE := Lib.hid (fun (v : Nat) => And.intro (HC4.out.go v) (And.intro (HM4.out.nr (Nr.of_turn (Turn.set W4 c 16 (.int .u64 (v : Nat)))) (by simpa using fun e => hcg e.symm) (by simpa using fun e => hcy e.symm)) (HN4.out.set (b := c) (.inl (by simp)) 16 (.int .u64 (v : Nat)))))
  cases tk
  · go_wp2_with fail
    go_ret
    rw [EX.out]
    exact ⟨rfl, HE.out N⟩
  · go_wp2_with fail
    go_ret
    rw [EX.out]
    exact ⟨rfl, HE.out F⟩
set_option maxRecDepth 100000 in
set_option maxHeartbeats 1000000 in
theorem ex_b26 {c g y n : Nat} {hole : Int} {s : Cor.S} (a b d : Nat) (m : Int) (w : World) (h : CS w c 35 s.R s.pc) (hm : MS w g y n hole s.f) (hs : Cor.Ok s) (hcg : c ≠ g) (hcy : c ≠ y) (ha : a < 16) (hb : b < 16) (hd : d < 16) (i1 : -2147483648 ≤ m) (i2 : m ≤ 2147483647) :
    Calls Try.prog 14 #[.pointer (some ⟨c, 0, none⟩), .agg #[.int .i64 26, .int .i64 (a : Nat), .int .i64 (b : Nat), .int .i64 (d : Nat), .int .i32 m], IV g] w fun e w' => EO 35 c g y n hole (Cor.exec n hole 26 a b d m s) w e w' := by
  obtain ⟨R, pc, f⟩ := s
  obtain ⟨hR, hpc, hf⟩ := hs
  dsimp only at h hm hR hpc hf ⊢
  obtain ⟨W1, e1⟩ : ∃ W1, w.alloc (Obj.cells #[.int .i64 26, .int .i64 (a : Nat), .int .i64 (b : Nat), .int .i64 (d : Nat), .int .i32 m] 27) = W1 := ⟨_, rfl⟩
  obtain ⟨X, eX⟩ : ∃ X, w.heap.size = X := ⟨_, rfl⟩
  have hx1 : XS W1 X 26 a b d m := by rw [← e1, ← eX]; exact heap_alloc_new w _
  have hn1 : Nr [c, y] w W1 := by rw [← e1]; exact (Nr.refl _ _).alloc _
  have hc1 : CS W1 c 35 R pc := h.below (by rw [← e1]; exact below_alloc1 w _)
  have hm1 : MS W1 g y n hole f := hm.below (by rw [← e1]; exact below_alloc1 w _)
  have hcX : X ≠ c := by have := h.lt; omega
  have kx : ∀ p : Nearby W1, p.W.cell? ⟨X, 1, none⟩ = some (.int .i64 (a : Nat)) ∧ p.W.cell? ⟨X, 2, none⟩ = some (.int .i64 (b : Nat)) ∧ p.W.cell? ⟨X, 4, none⟩ = some (.int .i32 m) ∧ p.W.cell? ⟨c, 16, none⟩ = some (.int .u64 (pc : Nat)) ∧ p.W.cell? ⟨c, b, none⟩ = some (.int .u64 (R b : Nat)) := fun p => by
    obtain ⟨x0, x1, x2, x3, x4⟩ := (hx1.nr p.near (by simp)).cells
    exact ⟨x1, x2, x4, (hc1.nr p.near (by simp)).next, (hc1.nr p.near (by simp)).cell hb⟩
  have k1 := fun p => (kx p).1
  have k2 := fun p => (kx p).2.1
  have k4 := fun p => (kx p).2.2.1
  have kp := fun p => (kx p).2.2.2.1
  have kb := fun p => (kx p).2.2.2.2
  have hb' : (b : Int) < 16 := by omega
  have ha' : (a : Int) < 16 := by omega
  have z1 : IntKind.i64.wrap m = m := IntWalk.i64_in _ (by omega)
  have z2 := Cor.ext_wrap m
  have z3 : IntKind.u64.wrap ((pc : Int) + 8) = (Cor.nxt pc : Nat) := by rw [wrap64]; unfold Cor.nxt; omega
  have z4 : IntKind.u64.wrap (8 * (Cor.ext m : Int)) = ((8 * Cor.ext m % 18446744073709551616 : Nat) : Int) := by rw [wrap64]; omega
  have z5 : IntKind.u64.wrap ((pc : Int) + ((8 * Cor.ext m % 18446744073709551616 : Nat) : Int)) = (Cor.far pc m : Nat) := by rw [wrap64]; unfold Cor.far; omega
  generalize hE : Cor.ext m = E at z2 z4 z5
  generalize 8 * E % 18446744073709551616 = E8 at z4 z5
  generalize hN : Cor.nxt pc = N at z3
  generalize hF : Cor.far pc m = F at z5
  have HG := Lib.hid (And.intro hE (And.intro hN hF))
  have HH := Lib.hid (And.intro hx1 (And.intro hn1 (And.intro hc1 hm1)))
  have HI := Lib.hid (And.intro hR (And.intro hpc hf))
  have HJ := Lib.hid (And.intro i1 i2)
  clear kx hR hpc h hx1 hn1 hc1 hf hm hm1 i1 i2 hE hN hF
  unfold IV
  go_enter Try.func14, Try.ntmps14
  go_upto_region 1 with fail
  refine wp_region_near (by kernel_rfl) (by kernel_rfl) ?_
  repeat (quiet_step (fail))
  refine wpQuiet_nil ?_
  intro _ hw'
  obtain ⟨p, hw''⟩ := hw'
  subst hw''
  obtain ⟨W2, hp⟩ := p
  have hc2 := HH.out.2.2.1.nr hp (by simp)
  have hm2 := HH.out.2.2.2.nr hp (by simp) (by simp)
  have hx2 := HH.out.1.nr hp (by simp)
  have hn2 := HH.out.2.1.next hp
  dsimp only
  clear HH kb k1 k2 k4 kp hp e1
  have kp : ∀ p : Nearby W2, p.W.cell? ⟨c, 16, none⟩ = some (.int .u64 (pc : Nat)) := fun p => (hc2.nr p.near (by simp)).next
  have HH := Lib.hid (And.intro hx2 (And.intro hn2 (And.intro hc2 hm2)))
  clear hx2 hn2 hc2 hm2
  go_upto_region 2 with fail
  refine wp_region_near (by kernel_rfl) (by kernel_rfl) ?_
  repeat (quiet_step (fail))
  refine wpQuiet_nil ?_
  intro _ hw'
  obtain ⟨p, hw''⟩ := hw'
  subst hw''
  obtain ⟨W3, hp⟩ := p
  have HC := Lib.hid (HH.out.2.2.1.nr hp (by simp))
  have HM := Lib.hid (HH.out.2.2.2.nr hp (by simp) (by simp))
  have HX := Lib.hid (HH.out.1.nr hp (by simp))
  have HN := Lib.hid (HH.out.2.1.next hp)
  dsimp only
  clear HH kp hp z1 z2 z3 z4 z5
  have k0 := HX.out.cells.1
  obtain ⟨tk, et⟩ : ∃ tk, Alu.takes 26 (R a) (R b) = tk := ⟨_, rfl⟩
  have C := Lib.hid (fun (W : World) => takes_26c (R a) (R b) W (HI.out.1 a) (HI.out.1 b))
  rw [et] at C
  have Q := Lib.hid (fun p : Nearby W3 => Calls.near_of ((C.out p.W).mono fun e w'' h => ⟨h.1, h.2 ▸ Nr.refl [] p.W⟩))
  have he : Cor.exec n hole 26 a b d m ⟨R, pc, f⟩ = (⟨R, if tk = true then F else N, f⟩, 0) := by rw [← HG.out.2.1, ← HG.out.2.2, ← et]; rfl
  have EX := Lib.hid he
  have k0p : ∀ p : Nearby W3, p.W.cell? ⟨X, 0, none⟩ = some (.int .i64 26) := fun p => (HX.out.nr p.near (by simp)).cells.1
  have kap : ∀ p : Nearby W3, p.W.cell? ⟨c, a, none⟩ = some (.int .u64 (R a : Nat)) := fun p => (HC.out.nr p.near (by simp)).cell ha
  clear et he C
  go_upto_region 24 with fail
  refine wp_region_near (by kernel_rfl) (by kernel_rfl) ?_
  repeat (quiet_step (first | with_reducible exact Q.out _))
  refine wpQuiet_nil ?_
  intro _ hw'
  obtain ⟨p, hw''⟩ := hw'
  subst hw''
  obtain ⟨W4, hp⟩ := p
  have HC4 := Lib.hid (HC.out.nr hp (by simp))
  have HM4 := Lib.hid (HM.out.nr hp (by simp) (by simp))
  have HN4 := Lib.hid (HN.out.next hp)
  dsimp only
  clear HC HM HX HN k0 k0p kap Q hp
  have kn := HC4.out.next
  have kf := HC4.out.free 16
  have HE := Lib.hid (fun (v : Nat) => And.intro (HC4.out.go v) (And.intro (HM4.out.nr (Nr.of_turn (Turn.set W4 c 16 (.int .u64 (v : Nat)))) (by simpa using fun e => hcg e.symm) (by simpa using fun e => hcy e.symm)) (HN4.out.set (b := c) (.inl (by simp)) 16 (.int .u64 (v : Nat)))))
  cases tk
  · go_wp2_with fail
    go_ret
    rw [EX.out]
    exact ⟨rfl, HE.out N⟩
  · go_wp2_with fail
    go_ret
    rw [EX.out]
    exact ⟨rfl, HE.out F⟩
set_option maxRecDepth 100000 in
set_option maxHeartbeats 1000000 in
theorem ex_b27 {c g y n : Nat} {hole : Int} {s : Cor.S} (a b d : Nat) (m : Int) (w : World) (h : CS w c 35 s.R s.pc) (hm : MS w g y n hole s.f) (hs : Cor.Ok s) (hcg : c ≠ g) (hcy : c ≠ y) (ha : a < 16) (hb : b < 16) (hd : d < 16) (i1 : -2147483648 ≤ m) (i2 : m ≤ 2147483647) :
    Calls Try.prog 14 #[.pointer (some ⟨c, 0, none⟩), .agg #[.int .i64 27, .int .i64 (a : Nat), .int .i64 (b : Nat), .int .i64 (d : Nat), .int .i32 m], IV g] w fun e w' => EO 35 c g y n hole (Cor.exec n hole 27 a b d m s) w e w' := by
  obtain ⟨R, pc, f⟩ := s
  obtain ⟨hR, hpc, hf⟩ := hs
  dsimp only at h hm hR hpc hf ⊢
  obtain ⟨W1, e1⟩ : ∃ W1, w.alloc (Obj.cells #[.int .i64 27, .int .i64 (a : Nat), .int .i64 (b : Nat), .int .i64 (d : Nat), .int .i32 m] 27) = W1 := ⟨_, rfl⟩
  obtain ⟨X, eX⟩ : ∃ X, w.heap.size = X := ⟨_, rfl⟩
  have hx1 : XS W1 X 27 a b d m := by rw [← e1, ← eX]; exact heap_alloc_new w _
  have hn1 : Nr [c, y] w W1 := by rw [← e1]; exact (Nr.refl _ _).alloc _
  have hc1 : CS W1 c 35 R pc := h.below (by rw [← e1]; exact below_alloc1 w _)
  have hm1 : MS W1 g y n hole f := hm.below (by rw [← e1]; exact below_alloc1 w _)
  have hcX : X ≠ c := by have := h.lt; omega
  have kx : ∀ p : Nearby W1, p.W.cell? ⟨X, 1, none⟩ = some (.int .i64 (a : Nat)) ∧ p.W.cell? ⟨X, 2, none⟩ = some (.int .i64 (b : Nat)) ∧ p.W.cell? ⟨X, 4, none⟩ = some (.int .i32 m) ∧ p.W.cell? ⟨c, 16, none⟩ = some (.int .u64 (pc : Nat)) ∧ p.W.cell? ⟨c, b, none⟩ = some (.int .u64 (R b : Nat)) := fun p => by
    obtain ⟨x0, x1, x2, x3, x4⟩ := (hx1.nr p.near (by simp)).cells
    exact ⟨x1, x2, x4, (hc1.nr p.near (by simp)).next, (hc1.nr p.near (by simp)).cell hb⟩
  have k1 := fun p => (kx p).1
  have k2 := fun p => (kx p).2.1
  have k4 := fun p => (kx p).2.2.1
  have kp := fun p => (kx p).2.2.2.1
  have kb := fun p => (kx p).2.2.2.2
  have hb' : (b : Int) < 16 := by omega
  have ha' : (a : Int) < 16 := by omega
  have z1 : IntKind.i64.wrap m = m := IntWalk.i64_in _ (by omega)
  have z2 := Cor.ext_wrap m
  have z3 : IntKind.u64.wrap ((pc : Int) + 8) = (Cor.nxt pc : Nat) := by rw [wrap64]; unfold Cor.nxt; omega
  have z4 : IntKind.u64.wrap (8 * (Cor.ext m : Int)) = ((8 * Cor.ext m % 18446744073709551616 : Nat) : Int) := by rw [wrap64]; omega
  have z5 : IntKind.u64.wrap ((pc : Int) + ((8 * Cor.ext m % 18446744073709551616 : Nat) : Int)) = (Cor.far pc m : Nat) := by rw [wrap64]; unfold Cor.far; omega
  generalize hE : Cor.ext m = E at z2 z4 z5
  generalize 8 * E % 18446744073709551616 = E8 at z4 z5
  generalize hN : Cor.nxt pc = N at z3
  generalize hF : Cor.far pc m = F at z5
  have HG := Lib.hid (And.intro hE (And.intro hN hF))
  have HH := Lib.hid (And.intro hx1 (And.intro hn1 (And.intro hc1 hm1)))
  have HI := Lib.hid (And.intro hR (And.intro hpc hf))
  have HJ := Lib.hid (And.intro i1 i2)
  clear kx hR hpc h hx1 hn1 hc1 hf hm hm1 i1 i2 hE hN hF
  unfold IV
  go_enter Try.func14, Try.ntmps14
  go_upto_region 1 with fail
  refine wp_region_near (by kernel_rfl) (by kernel_rfl) ?_
  repeat (quiet_step (fail))
  refine wpQuiet_nil ?_
  intro _ hw'
  obtain ⟨p, hw''⟩ := hw'
  subst hw''
  obtain ⟨W2, hp⟩ := p
  have hc2 := HH.out.2.2.1.nr hp (by simp)
  have hm2 := HH.out.2.2.2.nr hp (by simp) (by simp)
  have hx2 := HH.out.1.nr hp (by simp)
  have hn2 := HH.out.2.1.next hp
  dsimp only
  clear HH kb k1 k2 k4 kp hp e1
  have kp : ∀ p : Nearby W2, p.W.cell? ⟨c, 16, none⟩ = some (.int .u64 (pc : Nat)) := fun p => (hc2.nr p.near (by simp)).next
  have HH := Lib.hid (And.intro hx2 (And.intro hn2 (And.intro hc2 hm2)))
  clear hx2 hn2 hc2 hm2
  go_upto_region 2 with fail
  refine wp_region_near (by kernel_rfl) (by kernel_rfl) ?_
  repeat (quiet_step (fail))
  refine wpQuiet_nil ?_
  intro _ hw'
  obtain ⟨p, hw''⟩ := hw'
  subst hw''
  obtain ⟨W3, hp⟩ := p
  have HC := Lib.hid (HH.out.2.2.1.nr hp (by simp))
  have HM := Lib.hid (HH.out.2.2.2.nr hp (by simp) (by simp))
  have HX := Lib.hid (HH.out.1.nr hp (by simp))
  have HN := Lib.hid (HH.out.2.1.next hp)
  dsimp only
  clear HH kp hp z1 z2 z3 z4 z5
  have k0 := HX.out.cells.1
  obtain ⟨tk, et⟩ : ∃ tk, Alu.takes 27 (R a) (R b) = tk := ⟨_, rfl⟩
  have C := Lib.hid (fun (W : World) => takes_27c (R a) (R b) W (HI.out.1 a) (HI.out.1 b))
  rw [et] at C
  have Q := Lib.hid (fun p : Nearby W3 => Calls.near_of ((C.out p.W).mono fun e w'' h => ⟨h.1, h.2 ▸ Nr.refl [] p.W⟩))
  have he : Cor.exec n hole 27 a b d m ⟨R, pc, f⟩ = (⟨R, if tk = true then F else N, f⟩, 0) := by rw [← HG.out.2.1, ← HG.out.2.2, ← et]; rfl
  have EX := Lib.hid he
  have k0p : ∀ p : Nearby W3, p.W.cell? ⟨X, 0, none⟩ = some (.int .i64 27) := fun p => (HX.out.nr p.near (by simp)).cells.1
  have kap : ∀ p : Nearby W3, p.W.cell? ⟨c, a, none⟩ = some (.int .u64 (R a : Nat)) := fun p => (HC.out.nr p.near (by simp)).cell ha
  clear et he C
  go_upto_region 24 with fail
  refine wp_region_near (by kernel_rfl) (by kernel_rfl) ?_
  repeat (quiet_step (first | with_reducible exact Q.out _))
  refine wpQuiet_nil ?_
  intro _ hw'
  obtain ⟨p, hw''⟩ := hw'
  subst hw''
  obtain ⟨W4, hp⟩ := p
  have HC4 := Lib.hid (HC.out.nr hp (by simp))
  have HM4 := Lib.hid (HM.out.nr hp (by simp) (by simp))
  have HN4 := Lib.hid (HN.out.next hp)
  dsimp only
  clear HC HM HX HN k0 k0p kap Q hp
  have kn := HC4.out.next
  have kf := HC4.out.free 16
  have HE := Lib.hid (fun (v : Nat) => And.intro (HC4.out.go v) (And.intro (HM4.out.nr (Nr.of_turn (Turn.set W4 c 16 (.int .u64 (v : Nat)))) (by simpa using fun e => hcg e.symm) (by simpa using fun e => hcy e.symm)) (HN4.out.set (b := c) (.inl (by simp)) 16 (.int .u64 (v : Nat)))))
  cases tk
  · go_wp2_with fail
    go_ret
    rw [EX.out]
    exact ⟨rfl, HE.out N⟩
  · go_wp2_with fail
    go_ret
    rw [EX.out]
    exact ⟨rfl, HE.out F⟩
set_option maxRecDepth 100000 in
set_option maxHeartbeats 1000000 in
theorem ex_b28 {c g y n : Nat} {hole : Int} {s : Cor.S} (a b d : Nat) (m : Int) (w : World) (h : CS w c 35 s.R s.pc) (hm : MS w g y n hole s.f) (hs : Cor.Ok s) (hcg : c ≠ g) (hcy : c ≠ y) (ha : a < 16) (hb : b < 16) (hd : d < 16) (i1 : -2147483648 ≤ m) (i2 : m ≤ 2147483647) :
    Calls Try.prog 14 #[.pointer (some ⟨c, 0, none⟩), .agg #[.int .i64 28, .int .i64 (a : Nat), .int .i64 (b : Nat), .int .i64 (d : Nat), .int .i32 m], IV g] w fun e w' => EO 35 c g y n hole (Cor.exec n hole 28 a b d m s) w e w' := by
  obtain ⟨R, pc, f⟩ := s
  obtain ⟨hR, hpc, hf⟩ := hs
  dsimp only at h hm hR hpc hf ⊢
  obtain ⟨W1, e1⟩ : ∃ W1, w.alloc (Obj.cells #[.int .i64 28, .int .i64 (a : Nat), .int .i64 (b : Nat), .int .i64 (d : Nat), .int .i32 m] 27) = W1 := ⟨_, rfl⟩
  obtain ⟨X, eX⟩ : ∃ X, w.heap.size = X := ⟨_, rfl⟩
  have hx1 : XS W1 X 28 a b d m := by rw [← e1, ← eX]; exact heap_alloc_new w _
  have hn1 : Nr [c, y] w W1 := by rw [← e1]; exact (Nr.refl _ _).alloc _
  have hc1 : CS W1 c 35 R pc := h.below (by rw [← e1]; exact below_alloc1 w _)
  have hm1 : MS W1 g y n hole f := hm.below (by rw [← e1]; exact below_alloc1 w _)
  have hcX : X ≠ c := by have := h.lt; omega
  have kx : ∀ p : Nearby W1, p.W.cell? ⟨X, 1, none⟩ = some (.int .i64 (a : Nat)) ∧ p.W.cell? ⟨X, 2, none⟩ = some (.int .i64 (b : Nat)) ∧ p.W.cell? ⟨X, 4, none⟩ = some (.int .i32 m) ∧ p.W.cell? ⟨c, 16, none⟩ = some (.int .u64 (pc : Nat)) ∧ p.W.cell? ⟨c, b, none⟩ = some (.int .u64 (R b : Nat)) := fun p => by
    obtain ⟨x0, x1, x2, x3, x4⟩ := (hx1.nr p.near (by simp)).cells
    exact ⟨x1, x2, x4, (hc1.nr p.near (by simp)).next, (hc1.nr p.near (by simp)).cell hb⟩
  have k1 := fun p => (kx p).1
  have k2 := fun p => (kx p).2.1
  have k4 := fun p => (kx p).2.2.1
  have kp := fun p => (kx p).2.2.2.1
  have kb := fun p => (kx p).2.2.2.2
  have hb' : (b : Int) < 16 := by omega
  have ha' : (a : Int) < 16 := by omega
  have z1 : IntKind.i64.wrap m = m := IntWalk.i64_in _ (by omega)
  have z2 := Cor.ext_wrap m
  have z3 : IntKind.u64.wrap ((pc : Int) + 8) = (Cor.nxt pc : Nat) := by rw [wrap64]; unfold Cor.nxt; omega
  have z4 : IntKind.u64.wrap (8 * (Cor.ext m : Int)) = ((8 * Cor.ext m % 18446744073709551616 : Nat) : Int) := by rw [wrap64]; omega
  have z5 : IntKind.u64.wrap ((pc : Int) + ((8 * Cor.ext m % 18446744073709551616 : Nat) : Int)) = (Cor.far pc m : Nat) := by rw [wrap64]; unfold Cor.far; omega
  generalize hE : Cor.ext m = E at z2 z4 z5
  generalize 8 * E % 18446744073709551616 = E8 at z4 z5
  generalize hN : Cor.nxt pc = N at z3
  generalize hF : Cor.far pc m = F at z5
  have HG := Lib.hid (And.intro hE (And.intro hN hF))
  have HH := Lib.hid (And.intro hx1 (And.intro hn1 (And.intro hc1 hm1)))
  have HI := Lib.hid (And.intro hR (And.intro hpc hf))
  have HJ := Lib.hid (And.intro i1 i2)
  clear kx hR hpc h hx1 hn1 hc1 hf hm hm1 i1 i2 hE hN hF
  unfold IV
  go_enter Try.func14, Try.ntmps14
  go_upto_region 1 with fail
  refine wp_region_near (by kernel_rfl) (by kernel_rfl) ?_
  repeat (quiet_step (fail))
  refine wpQuiet_nil ?_
  intro _ hw'
  obtain ⟨p, hw''⟩ := hw'
  subst hw''
  obtain ⟨W2, hp⟩ := p
  have hc2 := HH.out.2.2.1.nr hp (by simp)
  have hm2 := HH.out.2.2.2.nr hp (by simp) (by simp)
  have hx2 := HH.out.1.nr hp (by simp)
  have hn2 := HH.out.2.1.next hp
  dsimp only
  clear HH kb k1 k2 k4 kp hp e1
  have kp : ∀ p : Nearby W2, p.W.cell? ⟨c, 16, none⟩ = some (.int .u64 (pc : Nat)) := fun p => (hc2.nr p.near (by simp)).next
  have HH := Lib.hid (And.intro hx2 (And.intro hn2 (And.intro hc2 hm2)))
  clear hx2 hn2 hc2 hm2
  go_upto_region 2 with fail
  refine wp_region_near (by kernel_rfl) (by kernel_rfl) ?_
  repeat (quiet_step (fail))
  refine wpQuiet_nil ?_
  intro _ hw'
  obtain ⟨p, hw''⟩ := hw'
  subst hw''
  obtain ⟨W3, hp⟩ := p
  have HC := Lib.hid (HH.out.2.2.1.nr hp (by simp))
  have HM := Lib.hid (HH.out.2.2.2.nr hp (by simp) (by simp))
  have HX := Lib.hid (HH.out.1.nr hp (by simp))
  have HN := Lib.hid (HH.out.2.1.next hp)
  dsimp only
  clear HH kp hp z1 z2 z3 z4 z5
  have k0 := HX.out.cells.1
  obtain ⟨tk, et⟩ : ∃ tk, Alu.takes 28 (R a) (R b) = tk := ⟨_, rfl⟩
  have C := Lib.hid (fun (W : World) => takes_28c (R a) (R b) W (HI.out.1 a) (HI.out.1 b))
  rw [et] at C
  have Q := Lib.hid (fun p : Nearby W3 => Calls.near_of ((C.out p.W).mono fun e w'' h => ⟨h.1, h.2 ▸ Nr.refl [] p.W⟩))
  have he : Cor.exec n hole 28 a b d m ⟨R, pc, f⟩ = (⟨R, if tk = true then F else N, f⟩, 0) := by rw [← HG.out.2.1, ← HG.out.2.2, ← et]; rfl
  have EX := Lib.hid he
  have k0p : ∀ p : Nearby W3, p.W.cell? ⟨X, 0, none⟩ = some (.int .i64 28) := fun p => (HX.out.nr p.near (by simp)).cells.1
  have kap : ∀ p : Nearby W3, p.W.cell? ⟨c, a, none⟩ = some (.int .u64 (R a : Nat)) := fun p => (HC.out.nr p.near (by simp)).cell ha
  clear et he C
  go_upto_region 24 with fail
  refine wp_region_near (by kernel_rfl) (by kernel_rfl) ?_
  repeat (quiet_step (first | with_reducible exact Q.out _))
  refine wpQuiet_nil ?_
  intro _ hw'
  obtain ⟨p, hw''⟩ := hw'
  subst hw''
  obtain ⟨W4, hp⟩ := p
  have HC4 := Lib.hid (HC.out.nr hp (by simp))
  have HM4 := Lib.hid (HM.out.nr hp (by simp) (by simp))
  have HN4 := Lib.hid (HN.out.next hp)
  dsimp only
  clear HC HM HX HN k0 k0p kap Q hp
  have kn := HC4.out.next
  have kf := HC4.out.free 16
  have HE := Lib.hid (fun (v : Nat) => And.intro (HC4.out.go v) (And.intro (HM4.out.nr (Nr.of_turn (Turn.set W4 c 16 (.int .u64 (v : Nat)))) (by simpa using fun e => hcg e.symm) (by simpa using fun e => hcy e.symm)) (HN4.out.set (b := c) (.inl (by simp)) 16 (.int .u64 (v : Nat)))))
  cases tk
  · go_wp2_with fail
    go_ret
    rw [EX.out]
    exact ⟨rfl, HE.out N⟩
  · go_wp2_with fail
    go_ret
    rw [EX.out]
    exact ⟨rfl, HE.out F⟩
end Go.Proofs.Ytojnokaeopadfaa
