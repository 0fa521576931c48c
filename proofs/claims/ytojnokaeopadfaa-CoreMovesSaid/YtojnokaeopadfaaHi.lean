/- A core executes an instruction. Written by genHi.py. -/
import Derived.Test.YtojnokaeopadfaaHh
set_option linter.unusedVariables false
set_option linter.unusedSimpArgs false
namespace Cor
theorem ext_wrap (m : Int) : Go.IntKind.u64.wrap m = (ext m : Int) := by
  unfold ext
  rw [Go.Proofs.Ytojnokaeopadfaa.wrap64]
  omega
end Cor
namespace Go.Proofs.Ytojnokaeopadfaa
open Go.RowKit

set_option maxRecDepth 100000 in
set_option maxHeartbeats 1000000 in
theorem ex_halt {c g y n : Nat} {hole : Int} {s : Cor.S} (a b d : Nat) (m : Int) (w : World) (h : CS w c 35 s.R s.pc) (hm : MS w g y n hole s.f) (hs : Cor.Ok s) (hcg : c ≠ g) (hcy : c ≠ y) (ha : a < 16) (hb : b < 16) (hd : d < 16) (i1 : -2147483648 ≤ m) (i2 : m ≤ 2147483647) :
    Calls Try.prog 14 #[.pointer (some ⟨c, 0, none⟩), .agg #[.int .i64 1, .int .i64 (a : Nat), .int .i64 (b : Nat), .int .i64 (d : Nat), .int .i32 m], IV g] w fun e w' => EO 35 c g y n hole (Cor.exec n hole 1 a b d m s) w e w' := by
  obtain ⟨R, pc, f⟩ := s
  obtain ⟨hR, hpc, hf⟩ := hs
  dsimp only at h hm hR hpc hf ⊢
  obtain ⟨W1, e1⟩ : ∃ W1, w.alloc (Obj.cells #[.int .i64 1, .int .i64 (a : Nat), .int .i64 (b : Nat), .int .i64 (d : Nat), .int .i32 m] 27) = W1 := ⟨_, rfl⟩
  obtain ⟨X, eX⟩ : ∃ X, w.heap.size = X := ⟨_, rfl⟩
  have hx1 : XS W1 X 1 a b d m := by rw [← e1, ← eX]; exact heap_alloc_new w _
  have hn1 : Nr [c, y] w W1 := by rw [← e1]; exact (Nr.refl _ _).alloc _
  have hc1 : CS W1 c 35 R pc := h.below (by rw [← e1]; exact below_alloc1 w _)
  have hm1 : MS W1 g y n hole f := hm.below (by rw [← e1]; exact below_alloc1 w _)
  have hcX : X ≠ c := by have := h.lt; omega
  have kx : ∀ p : Nearby W1, p.W.cell? ⟨X, 1, none⟩ = some (.int .i64 (a : Nat)) ∧ p.W.cell? ⟨X, 2, none⟩ = some (.int .i64 (b : Nat)) ∧ p.W.cell? ⟨X, 4, none⟩ = some (.int .i32 m) ∧ p.W.cell? ⟨c, 16, none⟩ = some (.int .u64 (pc : Nat)) ∧ p.W.cell? ⟨c, b, none⟩ = some (.int .u64 (R b : Nat)) := fun p => by
    obtain ⟨x0, x1, x2, x3, x4⟩ := (hx1.nr p.near (by simp)).cells
    exact ⟨x1, x2, x4, (hc1.nr p.near (by simp)).next, (hc1.nr p.near (by simp)).cell hb⟩
  have k1 := fun p => (kx p).1
  have k2 := fun p => (kx p).2.1
  have k4 := fun p => (kx p).2.2.1
  have kp := fun p => (kx p).2.2.2.1
  have kb := fun p => (kx p).2.2.2.2
  have hb' : (b : Int) < 16 := by omega
  have ha' : (a : Int) < 16 := by omega
  have z1 : IntKind.i64.wrap m = m := IntWalk.i64_in _ (by omega)
  have z2 := Cor.ext_wrap m
  have z3 : IntKind.u64.wrap ((pc : Int) + 8) = (Cor.nxt pc : Nat) := by rw [wrap64]; unfold Cor.nxt; omega
  have z4 : IntKind.u64.wrap (8 * (Cor.ext m : Int)) = ((8 * Cor.ext m % 18446744073709551616 : Nat) : Int) := by rw [wrap64]; omega
  have z5 : IntKind.u64.wrap ((pc : Int) + ((8 * Cor.ext m % 18446744073709551616 : Nat) : Int)) = (Cor.far pc m : Nat) := by rw [wrap64]; unfold Cor.far; omega
  generalize hE : Cor.ext m = E at z2 z4 z5
  generalize 8 * E % 18446744073709551616 = E8 at z4 z5
  generalize hN : Cor.nxt pc = N at z3
  generalize hF : Cor.far pc m = F at z5
  have HG := Lib.hid (And.intro hE (And.intro hN hF))
  have HH := Lib.hid (And.intro hx1 (And.intro hn1 (And.intro hc1 hm1)))
  have HI := Lib.hid (And.intro hR (And.intro hpc hf))
  have HJ := Lib.hid (And.intro i1 i2)
  clear kx hR hpc h hx1 hn1 hc1 hf hm hm1 i1 i2 hE hN hF
  unfold IV
  go_enter Try.func14, Try.ntmps14
  go_upto_region 1 with fail
  refine wp_region_near (by kernel_rfl) (by kernel_rfl) ?_
  repeat (quiet_step (fail))
  refine wpQuiet_nil ?_
  intro _ hw'
  obtain ⟨p, hw''⟩ := hw'
  subst hw''
  obtain ⟨W2, hp⟩ := p
  have hc2 := HH.out.2.2.1.nr hp (by simp)
  have hm2 := HH.out.2.2.2.nr hp (by simp) (by simp)
  have hx2 := HH.out.1.nr hp (by simp)
  have hn2 := HH.out.2.1.next hp
  dsimp only
  clear HH kb k1 k2 k4 kp hp e1
  have kp : ∀ p : Nearby W2, p.W.cell? ⟨c, 16, none⟩ = some (.int .u64 (pc : Nat)) := fun p => (hc2.nr p.near (by simp)).next
  have HH := Lib.hid (And.intro hx2 (And.intro hn2 (And.intro hc2 hm2)))
  clear hx2 hn2 hc2 hm2
  go_upto_region 2 with fail
  refine wp_region_near (by kernel_rfl) (by kernel_rfl) ?_
  repeat (quiet_step (fail))
  refine wpQuiet_nil ?_
  intro _ hw'
  obtain ⟨p, hw''⟩ := hw'
  subst hw''
  obtain ⟨W3, hp⟩ := p
  have HC := Lib.hid (HH.out.2.2.1.nr hp (by simp))
  have HM := Lib.hid (HH.out.2.2.2.nr hp (by simp) (by simp))
  have HX := Lib.hid (HH.out.1.nr hp (by simp))
  have HN := Lib.hid (HH.out.2.1.next hp)
  dsimp only
  clear HH kp hp z1 z2 z3 z4 z5
  have k0 := HX.out.cells.1
  go_wp2_with fail
  go_ret
  exact ⟨rfl, HC.out, HM.out, HN.out⟩
set_option maxRecDepth 100000 in
set_option maxHeartbeats 1000000 in
theorem ex_trap {c g y n : Nat} {hole : Int} {s : Cor.S} (a b d : Nat) (m : Int) (w : World) (h : CS w c 35 s.R s.pc) (hm : MS w g y n hole s.f) (hs : Cor.Ok s) (hcg : c ≠ g) (hcy : c ≠ y) (ha : a < 16) (hb : b < 16) (hd : d < 16) (i1 : -2147483648 ≤ m) (i2 : m ≤ 2147483647) :
    Calls Try.prog 14 #[.pointer (some ⟨c, 0, none⟩), .agg #[.int .i64 43, .int .i64 (a : Nat), .int .i64 (b : Nat), .int .i64 (d : Nat), .int .i32 m], IV g] w fun e w' => EO 35 c g y n hole (Cor.exec n hole 43 a b d m s) w e w' := by
  obtain ⟨R, pc, f⟩ := s
  obtain ⟨hR, hpc, hf⟩ := hs
  dsimp only at h hm hR hpc hf ⊢
  obtain ⟨W1, e1⟩ : ∃ W1, w.alloc (Obj.cells #[.int .i64 43, .int .i64 (a : Nat), .int .i64 (b : Nat), .int .i64 (d : Nat), .int .i32 m] 27) = W1 := ⟨_, rfl⟩
  obtain ⟨X, eX⟩ : ∃ X, w.heap.size = X := ⟨_, rfl⟩
  have hx1 : XS W1 X 43 a b d m := by rw [← e1, ← eX]; exact heap_alloc_new w _
  have hn1 : Nr [c, y] w W1 := by rw [← e1]; exact (Nr.refl _ _).alloc _
  have hc1 : CS W1 c 35 R pc := h.below (by rw [← e1]; exact below_alloc1 w _)
  have hm1 : MS W1 g y n hole f := hm.below (by rw [← e1]; exact below_alloc1 w _)
  have hcX : X ≠ c := by have := h.lt; omega
  have kx : ∀ p : Nearby W1, p.W.cell? ⟨X, 1, none⟩ = some (.int .i64 (a : Nat)) ∧ p.W.cell? ⟨X, 2, none⟩ = some (.int .i64 (b : Nat)) ∧ p.W.cell? ⟨X, 4, none⟩ = some (.int .i32 m) ∧ p.W.cell? ⟨c, 16, none⟩ = some (.int .u64 (pc : Nat)) ∧ p.W.cell? ⟨c, b, none⟩ = some (.int .u64 (R b : Nat)) := fun p => by
    obtain ⟨x0, x1, x2, x3, x4⟩ := (hx1.nr p.near (by simp)).cells
    exact ⟨x1, x2, x4, (hc1.nr p.near (by simp)).next, (hc1.nr p.near (by simp)).cell hb⟩
  have k1 := fun p => (kx p).1
  have k2 := fun p => (kx p).2.1
  have k4 := fun p => (kx p).2.2.1
  have kp := fun p => (kx p).2.2.2.1
  have kb := fun p => (kx p).2.2.2.2
  have hb' : (b : Int) < 16 := by omega
  have ha' : (a : Int) < 16 := by omega
  have z1 : IntKind.i64.wrap m = m := IntWalk.i64_in _ (by omega)
  have z2 := Cor.ext_wrap m
  have z3 : IntKind.u64.wrap ((pc : Int) + 8) = (Cor.nxt pc : Nat) := by rw [wrap64]; unfold Cor.nxt; omega
  have z4 : IntKind.u64.wrap (8 * (Cor.ext m : Int)) = ((8 * Cor.ext m % 18446744073709551616 : Nat) : Int) := by rw [wrap64]; omega
  have z5 : IntKind.u64.wrap ((pc : Int) + ((8 * Cor.ext m % 18446744073709551616 : Nat) : Int)) = (Cor.far pc m : Nat) := by rw [wrap64]; unfold Cor.far; omega
  generalize hE : Cor.ext m = E at z2 z4 z5
  generalize 8 * E % 18446744073709551616 = E8 at z4 z5
  generalize hN : Cor.nxt pc = N at z3
  generalize hF : Cor.far pc m = F at z5
  have HG := Lib.hid (And.intro hE (And.intro hN hF))
  have HH := Lib.hid (And.intro hx1 (And.intro hn1 (And.intro hc1 hm1)))
  have HI := Lib.hid (And.intro hR (And.intro hpc hf))
  have HJ := Lib.hid (And.intro i1 i2)
  clear kx hR hpc h hx1 hn1 hc1 hf hm hm1 i1 i2 hE hN hF
  unfold IV
  go_enter Try.func14, Try.ntmps14
  go_upto_region 1 with fail
  refine wp_region_near (by kernel_rfl) (by kernel_rfl) ?_
  repeat (quiet_step (fail))
  refine wpQuiet_nil ?_
  intro _ hw'
  obtain ⟨p, hw''⟩ := hw'
  subst hw''
  obtain ⟨W2, hp⟩ := p
  have hc2 := HH.out.2.2.1.nr hp (by simp)
  have hm2 := HH.out.2.2.2.nr hp (by simp) (by simp)
  have hx2 := HH.out.1.nr hp (by simp)
  have hn2 := HH.out.2.1.next hp
  dsimp only
  clear HH kb k1 k2 k4 kp hp e1
  have kp : ∀ p : Nearby W2, p.W.cell? ⟨c, 16, none⟩ = some (.int .u64 (pc : Nat)) := fun p => (hc2.nr p.near (by simp)).next
  have HH := Lib.hid (And.intro hx2 (And.intro hn2 (And.intro hc2 hm2)))
  clear hx2 hn2 hc2 hm2
  go_upto_region 2 with fail
  refine wp_region_near (by kernel_rfl) (by kernel_rfl) ?_
  repeat (quiet_step (fail))
  refine wpQuiet_nil ?_
  intro _ hw'
  obtain ⟨p, hw''⟩ := hw'
  subst hw''
  obtain ⟨W3, hp⟩ := p
  have HC := Lib.hid (HH.out.2.2.1.nr hp (by simp))
  have HM := Lib.hid (HH.out.2.2.2.nr hp (by simp) (by simp))
  have HX := Lib.hid (HH.out.1.nr hp (by simp))
  have HN := Lib.hid (HH.out.2.1.next hp)
  dsimp only
  clear HH kp hp z1 z2 z3 z4 z5
  have k0 := HX.out.cells.1
  have kn := HC.out.next
  have kf := HC.out.free 16
  have HE := Lib.hid (And.intro (HC.out.go N) (And.intro (HM.out.nr (Nr.of_turn (Turn.set W3 c 16 (.int .u64 (N : Nat)))) (by simpa using fun e => hcg e.symm) (by simpa using fun e => hcy e.symm)) (HN.out.set (b := c) (.inl (by simp)) 16 (.int .u64 (N : Nat)))))
  go_wp2_with fail
  go_ret
  have e : Cor.exec n hole 43 a b d m ⟨R, pc, f⟩ = (⟨R, N, f⟩, 1) := by rw [← HG.out.2.1]; rfl
  rw [e]
  exact ⟨rfl, HE.out⟩
set_option maxRecDepth 100000 in
set_option maxHeartbeats 1000000 in
theorem ex_li {c g y n : Nat} {hole : Int} {s : Cor.S} (a b d : Nat) (m : Int) (w : World) (h : CS w c 35 s.R s.pc) (hm : MS w g y n hole s.f) (hs : Cor.Ok s) (hcg : c ≠ g) (hcy : c ≠ y) (ha : a < 16) (hb : b < 16) (hd : d < 16) (i1 : -2147483648 ≤ m) (i2 : m ≤ 2147483647) :
    Calls Try.prog 14 #[.pointer (some ⟨c, 0, none⟩), .agg #[.int .i64 2, .int .i64 (a : Nat), .int .i64 (b : Nat), .int .i64 (d : Nat), .int .i32 m], IV g] w fun e w' => EO 35 c g y n hole (Cor.exec n hole 2 a b d m s) w e w' := by
  obtain ⟨R, pc, f⟩ := s
  obtain ⟨hR, hpc, hf⟩ := hs
  dsimp only at h hm hR hpc hf ⊢
  obtain ⟨W1, e1⟩ : ∃ W1, w.alloc (Obj.cells #[.int .i64 2, .int .i64 (a : Nat), .int .i64 (b : Nat), .int .i64 (d : Nat), .int .i32 m] 27) = W1 := ⟨_, rfl⟩
  obtain ⟨X, eX⟩ : ∃ X, w.heap.size = X := ⟨_, rfl⟩
  have hx1 : XS W1 X 2 a b d m := by rw [← e1, ← eX]; exact heap_alloc_new w _
  have hn1 : Nr [c, y] w W1 := by rw [← e1]; exact (Nr.refl _ _).alloc _
  have hc1 : CS W1 c 35 R pc := h.below (by rw [← e1]; exact below_alloc1 w _)
  have hm1 : MS W1 g y n hole f := hm.below (by rw [← e1]; exact below_alloc1 w _)
  have hcX : X ≠ c := by have := h.lt; omega
  have kx : ∀ p : Nearby W1, p.W.cell? ⟨X, 1, none⟩ = some (.int .i64 (a : Nat)) ∧ p.W.cell? ⟨X, 2, none⟩ = some (.int .i64 (b : Nat)) ∧ p.W.cell? ⟨X, 4, none⟩ = some (.int .i32 m) ∧ p.W.cell? ⟨c, 16, none⟩ = some (.int .u64 (pc : Nat)) ∧ p.W.cell? ⟨c, b, none⟩ = some (.int .u64 (R b : Nat)) := fun p => by
    obtain ⟨x0, x1, x2, x3, x4⟩ := (hx1.nr p.near (by simp)).cells
    exact ⟨x1, x2, x4, (hc1.nr p.near (by simp)).next, (hc1.nr p.near (by simp)).cell hb⟩
  have k1 := fun p => (kx p).1
  have k2 := fun p => (kx p).2.1
  have k4 := fun p => (kx p).2.2.1
  have kp := fun p => (kx p).2.2.2.1
  have kb := fun p => (kx p).2.2.2.2
  have hb' : (b : Int) < 16 := by omega
  have ha' : (a : Int) < 16 := by omega
  have z1 : IntKind.i64.wrap m = m := IntWalk.i64_in _ (by omega)
  have z2 := Cor.ext_wrap m
  have z3 : IntKind.u64.wrap ((pc : Int) + 8) = (Cor.nxt pc : Nat) := by rw [wrap64]; unfold Cor.nxt; omega
  have z4 : IntKind.u64.wrap (8 * (Cor.ext m : Int)) = ((8 * Cor.ext m % 18446744073709551616 : Nat) : Int) := by rw [wrap64]; omega
  have z5 : IntKind.u64.wrap ((pc : Int) + ((8 * Cor.ext m % 18446744073709551616 : Nat) : Int)) = (Cor.far pc m : Nat) := by rw [wrap64]; unfold Cor.far; omega
  generalize hE : Cor.ext m = E at z2 z4 z5
  generalize 8 * E % 18446744073709551616 = E8 at z4 z5
  generalize hN : Cor.nxt pc = N at z3
  generalize hF : Cor.far pc m = F at z5
  have HG := Lib.hid (And.intro hE (And.intro hN hF))
  have HH := Lib.hid (And.intro hx1 (And.intro hn1 (And.intro hc1 hm1)))
  have HI := Lib.hid (And.intro hR (And.intro hpc hf))
  have HJ := Lib.hid (And.intro i1 i2)
  clear kx hR hpc h hx1 hn1 hc1 hf hm hm1 i1 i2 hE hN hF
  unfold IV
  go_enter Try.func14, Try.ntmps14
  go_upto_region 1 with fail
  refine wp_region_near (by kernel_rfl) (by kernel_rfl) ?_
  repeat (quiet_step (fail))
  refine wpQuiet_nil ?_
  intro _ hw'
  obtain ⟨p, hw''⟩ := hw'
  subst hw''
  obtain ⟨W2, hp⟩ := p
  have hc2 := HH.out.2.2.1.nr hp (by simp)
  have hm2 := HH.out.2.2.2.nr hp (by simp) (by simp)
  have hx2 := HH.out.1.nr hp (by simp)
  have hn2 := HH.out.2.1.next hp
  dsimp only
  clear HH kb k1 k2 k4 kp hp e1
  have kp : ∀ p : Nearby W2, p.W.cell? ⟨c, 16, none⟩ = some (.int .u64 (pc : Nat)) := fun p => (hc2.nr p.near (by simp)).next
  have HH := Lib.hid (And.intro hx2 (And.intro hn2 (And.intro hc2 hm2)))
  clear hx2 hn2 hc2 hm2
  go_upto_region 2 with fail
  refine wp_region_near (by kernel_rfl) (by kernel_rfl) ?_
  repeat (quiet_step (fail))
  refine wpQuiet_nil ?_
  intro _ hw'
  obtain ⟨p, hw''⟩ := hw'
  subst hw''
  obtain ⟨W3, hp⟩ := p
  have HC := Lib.hid (HH.out.2.2.1.nr hp (by simp))
  have HM := Lib.hid (HH.out.2.2.2.nr hp (by simp) (by simp))
  have HX := Lib.hid (HH.out.1.nr hp (by simp))
  have HN := Lib.hid (HH.out.2.1.next hp)
  dsimp only
  clear HH kp hp z1 z2 z3 z4 z5
  have k0 := HX.out.cells.1
  have kn := HC.out.next
  have kf := HC.out.free 16
  have ka := HC.out.cell ha
  have kg := HC.out.free a
  have hc4 := HC.out.put ha (E)
  have hm4 := HM.out.nr (Nr.of_turn (Turn.set W3 c a (.int .u64 ((E : Nat) : Int)))) (by simpa using fun e => hcg e.symm) (by simpa using fun e => hcy e.symm)
  have hn4 := HN.out.set (b := c) (.inl (by simp)) a (.int .u64 ((E : Nat) : Int))
  have kn4 := hc4.next
  have kf4 := hc4.free 16
  have HE := Lib.hid (And.intro (hc4.go N) (And.intro (hm4.nr (Nr.of_turn (Turn.set _ c 16 (.int .u64 (N : Nat)))) (by simpa using fun e => hcg e.symm) (by simpa using fun e => hcy e.symm)) (hn4.set (b := c) (.inl (by simp)) 16 (.int .u64 (N : Nat)))))
  clear hc4 hm4 hn4
  go_wp2_with fail
  go_ret
  have e : Cor.exec n hole 2 a b d m ⟨R, pc, f⟩ = (⟨Cor.put R a E, N, f⟩, 0) := by rw [← HG.out.1, ← HG.out.2.1]; rfl
  rw [e]
  exact ⟨rfl, HE.out⟩
set_option maxRecDepth 100000 in
set_option maxHeartbeats 1000000 in
theorem ex_hi {c g y n : Nat} {hole : Int} {s : Cor.S} (a b d : Nat) (m : Int) (w : World) (h : CS w c 35 s.R s.pc) (hm : MS w g y n hole s.f) (hs : Cor.Ok s) (hcg : c ≠ g) (hcy : c ≠ y) (ha : a < 16) (hb : b < 16) (hd : d < 16) (i1 : -2147483648 ≤ m) (i2 : m ≤ 2147483647) :
    Calls Try.prog 14 #[.pointer (some ⟨c, 0, none⟩), .agg #[.int .i64 3, .int .i64 (a : Nat), .int .i64 (b : Nat), .int .i64 (d : Nat), .int .i32 m], IV g] w fun e w' => EO 35 c g y n hole (Cor.exec n hole 3 a b d m s) w e w' := by
  obtain ⟨R, pc, f⟩ := s
  obtain ⟨hR, hpc, hf⟩ := hs
  dsimp only at h hm hR hpc hf ⊢
  obtain ⟨W1, e1⟩ : ∃ W1, w.alloc (Obj.cells #[.int .i64 3, .int .i64 (a : Nat), .int .i64 (b : Nat), .int .i64 (d : Nat), .int .i32 m] 27) = W1 := ⟨_, rfl⟩
  obtain ⟨X, eX⟩ : ∃ X, w.heap.size = X := ⟨_, rfl⟩
  have hx1 : XS W1 X 3 a b d m := by rw [← e1, ← eX]; exact heap_alloc_new w _
  have hn1 : Nr [c, y] w W1 := by rw [← e1]; exact (Nr.refl _ _).alloc _
  have hc1 : CS W1 c 35 R pc := h.below (by rw [← e1]; exact below_alloc1 w _)
  have hm1 : MS W1 g y n hole f := hm.below (by rw [← e1]; exact below_alloc1 w _)
  have hcX : X ≠ c := by have := h.lt; omega
  have kx : ∀ p : Nearby W1, p.W.cell? ⟨X, 1, none⟩ = some (.int .i64 (a : Nat)) ∧ p.W.cell? ⟨X, 2, none⟩ = some (.int .i64 (b : Nat)) ∧ p.W.cell? ⟨X, 4, none⟩ = some (.int .i32 m) ∧ p.W.cell? ⟨c, 16, none⟩ = some (.int .u64 (pc : Nat)) ∧ p.W.cell? ⟨c, b, none⟩ = some (.int .u64 (R b : Nat)) := fun p => by
    obtain ⟨x0, x1, x2, x3, x4⟩ := (hx1.nr p.near (by simp)).cells
    exact ⟨x1, x2, x4, (hc1.nr p.near (by simp)).next, (hc1.nr p.near (by simp)).cell hb⟩
  have k1 := fun p => (kx p).1
  have k2 := fun p => (kx p).2.1
  have k4 := fun p => (kx p).2.2.1
  have kp := fun p => (kx p).2.2.2.1
  have kb := fun p => (kx p).2.2.2.2
  have hb' : (b : Int) < 16 := by omega
  have ha' : (a : Int) < 16 := by omega
  have z1 : IntKind.i64.wrap m = m := IntWalk.i64_in _ (by omega)
  have z2 := Cor.ext_wrap m
  have z3 : IntKind.u64.wrap ((pc : Int) + 8) = (Cor.nxt pc : Nat) := by rw [wrap64]; unfold Cor.nxt; omega
  have z4 : IntKind.u64.wrap (8 * (Cor.ext m : Int)) = ((8 * Cor.ext m % 18446744073709551616 : Nat) : Int) := by rw [wrap64]; omega
  have z5 : IntKind.u64.wrap ((pc : Int) + ((8 * Cor.ext m % 18446744073709551616 : Nat) : Int)) = (Cor.far pc m : Nat) := by rw [wrap64]; unfold Cor.far; omega
  generalize hE : Cor.ext m = E at z2 z4 z5
  generalize 8 * E % 18446744073709551616 = E8 at z4 z5
  generalize hN : Cor.nxt pc = N at z3
  generalize hF : Cor.far pc m = F at z5
  have HG := Lib.hid (And.intro hE (And.intro hN hF))
  have HH := Lib.hid (And.intro hx1 (And.intro hn1 (And.intro hc1 hm1)))
  have HI := Lib.hid (And.intro hR (And.intro hpc hf))
  have HJ := Lib.hid (And.intro i1 i2)
  clear kx hR hpc h hx1 hn1 hc1 hf hm hm1 i1 i2 hE hN hF
  unfold IV
  go_enter Try.func14, Try.ntmps14
  go_upto_region 1 with fail
  refine wp_region_near (by kernel_rfl) (by kernel_rfl) ?_
  repeat (quiet_step (fail))
  refine wpQuiet_nil ?_
  intro _ hw'
  obtain ⟨p, hw''⟩ := hw'
  subst hw''
  obtain ⟨W2, hp⟩ := p
  have hc2 := HH.out.2.2.1.nr hp (by simp)
  have hm2 := HH.out.2.2.2.nr hp (by simp) (by simp)
  have hx2 := HH.out.1.nr hp (by simp)
  have hn2 := HH.out.2.1.next hp
  dsimp only
  clear HH kb k1 k2 k4 kp hp e1
  have kp : ∀ p : Nearby W2, p.W.cell? ⟨c, 16, none⟩ = some (.int .u64 (pc : Nat)) := fun p => (hc2.nr p.near (by simp)).next
  have HH := Lib.hid (And.intro hx2 (And.intro hn2 (And.intro hc2 hm2)))
  clear hx2 hn2 hc2 hm2
  go_upto_region 2 with fail
  refine wp_region_near (by kernel_rfl) (by kernel_rfl) ?_
  repeat (quiet_step (fail))
  refine wpQuiet_nil ?_
  intro _ hw'
  obtain ⟨p, hw''⟩ := hw'
  subst hw''
  obtain ⟨W3, hp⟩ := p
  have HC := Lib.hid (HH.out.2.2.1.nr hp (by simp))
  have HM := Lib.hid (HH.out.2.2.2.nr hp (by simp) (by simp))
  have HX := Lib.hid (HH.out.1.nr hp (by simp))
  have HN := Lib.hid (HH.out.2.1.next hp)
  dsimp only
  clear HH kp hp z1 z2 z3 z4 z5
  have k0 := HX.out.cells.1
  have hRa := HI.out.1 a
  obtain ⟨U, eU⟩ : ∃ U, (m % 4294967296).toNat * 4294967296 = U := ⟨_, rfl⟩
  obtain ⟨V, eV⟩ : ∃ V, R a % 4294967296 + U = V := ⟨_, rfl⟩
  have y1 : IntKind.u64.wrap ((E : Int) * 4294967296) = (U : Nat) := by
    have := HG.out.1
    unfold Cor.ext at this
    rw [wrap64]; omega
  have y2 : bits .and .u64 (R a : Int) 4294967295 = ((R a % 4294967296 : Nat) : Int) := by
    have := Alu.and_u64 (R a) 4294967295 hRa (by omega)
    rw [show (4294967295 : Nat) = 2 ^ 32 - 1 from rfl, Nat.and_two_pow_sub_one_eq_mod] at this
    exact this
  have y3 : bits .or .u64 (U : Int) ((R a % 4294967296 : Nat) : Int) = (V : Nat) := by
    have h1 := Alu.or_u64 U (R a % 4294967296) (by omega) (by omega)
    have h2 := Nat.shiftLeft_add_eq_or_of_lt (i := 32) (b := R a % 4294967296) (by omega) ((m % 4294967296).toNat)
    rw [Nat.shiftLeft_eq, show (2 : Nat) ^ 32 = 4294967296 from rfl, eU] at h2
    rw [h1, ← h2, Nat.add_comm, eV]
  have hV := Lib.hid (And.intro eU eV)
  clear hRa eU eV
  generalize hL : R a % 4294967296 = L at y2 y3 hV
  have HL := Lib.hid hL
  clear hL
  have kn := HC.out.next
  have kf := HC.out.free 16
  have ka := HC.out.cell ha
  have kg := HC.out.free a
  have hc4 := HC.out.put ha (V)
  have hm4 := HM.out.nr (Nr.of_turn (Turn.set W3 c a (.int .u64 ((V : Nat) : Int)))) (by simpa using fun e => hcg e.symm) (by simpa using fun e => hcy e.symm)
  have hn4 := HN.out.set (b := c) (.inl (by simp)) a (.int .u64 ((V : Nat) : Int))
  have kn4 := hc4.next
  have kf4 := hc4.free 16
  have HE := Lib.hid (And.intro (hc4.go N) (And.intro (hm4.nr (Nr.of_turn (Turn.set _ c 16 (.int .u64 (N : Nat)))) (by simpa using fun e => hcg e.symm) (by simpa using fun e => hcy e.symm)) (hn4.set (b := c) (.inl (by simp)) 16 (.int .u64 (N : Nat)))))
  clear hc4 hm4 hn4
  go_wp2_with fail
  go_ret
  have e : Cor.exec n hole 3 a b d m ⟨R, pc, f⟩ = (⟨Cor.put R a V, N, f⟩, 0) := by rw [← HG.out.2.1, ← hV.out.2, ← hV.out.1, ← HL.out]; rfl
  rw [e]
  exact ⟨rfl, HE.out⟩
set_option maxRecDepth 100000 in
set_option maxHeartbeats 1000000 in
theorem ex_addi {c g y n : Nat} {hole : Int} {s : Cor.S} (a b d : Nat) (m : Int) (w : World) (h : CS w c 35 s.R s.pc) (hm : MS w g y n hole s.f) (hs : Cor.Ok s) (hcg : c ≠ g) (hcy : c ≠ y) (ha : a < 16) (hb : b < 16) (hd : d < 16) (i1 : -2147483648 ≤ m) (i2 : m ≤ 2147483647) :
    Calls Try.prog 14 #[.pointer (some ⟨c, 0, none⟩), .agg #[.int .i64 18, .int .i64 (a : Nat), .int .i64 (b : Nat), .int .i64 (d : Nat), .int .i32 m], IV g] w fun e w' => EO 35 c g y n hole (Cor.exec n hole 18 a b d m s) w e w' := by
  obtain ⟨R, pc, f⟩ := s
  obtain ⟨hR, hpc, hf⟩ := hs
  dsimp only at h hm hR hpc hf ⊢
  obtain ⟨W1, e1⟩ : ∃ W1, w.alloc (Obj.cells #[.int .i64 18, .int .i64 (a : Nat), .int .i64 (b : Nat), .int .i64 (d : Nat), .int .i32 m] 27) = W1 := ⟨_, rfl⟩
  obtain ⟨X, eX⟩ : ∃ X, w.heap.size = X := ⟨_, rfl⟩
  have hx1 : XS W1 X 18 a b d m := by rw [← e1, ← eX]; exact heap_alloc_new w _
  have hn1 : Nr [c, y] w W1 := by rw [← e1]; exact (Nr.refl _ _).alloc _
  have hc1 : CS W1 c 35 R pc := h.below (by rw [← e1]; exact below_alloc1 w _)
  have hm1 : MS W1 g y n hole f := hm.below (by rw [← e1]; exact below_alloc1 w _)
  have hcX : X ≠ c := by have := h.lt; omega
  have kx : ∀ p : Nearby W1, p.W.cell? ⟨X, 1, none⟩ = some (.int .i64 (a : Nat)) ∧ p.W.cell? ⟨X, 2, none⟩ = some (.int .i64 (b : Nat)) ∧ p.W.cell? ⟨X, 4, none⟩ = some (.int .i32 m) ∧ p.W.cell? ⟨c, 16, none⟩ = some (.int .u64 (pc : Nat)) ∧ p.W.cell? ⟨c, b, none⟩ = some (.int .u64 (R b : Nat)) := fun p => by
    obtain ⟨x0, x1, x2, x3, x4⟩ := (hx1.nr p.near (by simp)).cells
    exact ⟨x1, x2, x4, (hc1.nr p.near (by simp)).next, (hc1.nr p.near (by simp)).cell hb⟩
  have k1 := fun p => (kx p).1
  have k2 := fun p => (kx p).2.1
  have k4 := fun p => (kx p).2.2.1
  have kp := fun p => (kx p).2.2.2.1
  have kb := fun p => (kx p).2.2.2.2
  have hb' : (b : Int) < 16 := by omega
  have ha' : (a : Int) < 16 := by omega
  have z1 : IntKind.i64.wrap m = m := IntWalk.i64_in _ (by omega)
  have z2 := Cor.ext_wrap m
  have z3 : IntKind.u64.wrap ((pc : Int) + 8) = (Cor.nxt pc : Nat) := by rw [wrap64]; unfold Cor.nxt; omega
  have z4 : IntKind.u64.wrap (8 * (Cor.ext m : Int)) = ((8 * Cor.ext m % 18446744073709551616 : Nat) : Int) := by rw [wrap64]; omega
  have z5 : IntKind.u64.wrap ((pc : Int) + ((8 * Cor.ext m % 18446744073709551616 : Nat) : Int)) = (Cor.far pc m : Nat) := by rw [wrap64]; unfold Cor.far; omega
  generalize hE : Cor.ext m = E at z2 z4 z5
  generalize 8 * E % 18446744073709551616 = E8 at z4 z5
  generalize hN : Cor.nxt pc = N at z3
  generalize hF : Cor.far pc m = F at z5
  have HG := Lib.hid (And.intro hE (And.intro hN hF))
  have HH := Lib.hid (And.intro hx1 (And.intro hn1 (And.intro hc1 hm1)))
  have HI := Lib.hid (And.intro hR (And.intro hpc hf))
  have HJ := Lib.hid (And.intro i1 i2)
  clear kx hR hpc h hx1 hn1 hc1 hf hm hm1 i1 i2 hE hN hF
  unfold IV
  go_enter Try.func14, Try.ntmps14
  go_upto_region 1 with fail
  refine wp_region_near (by kernel_rfl) (by kernel_rfl) ?_
  repeat (quiet_step (fail))
  refine wpQuiet_nil ?_
  intro _ hw'
  obtain ⟨p, hw''⟩ := hw'
  subst hw''
  obtain ⟨W2, hp⟩ := p
  have hc2 := HH.out.2.2.1.nr hp (by simp)
  have hm2 := HH.out.2.2.2.nr hp (by simp) (by simp)
  have hx2 := HH.out.1.nr hp (by simp)
  have hn2 := HH.out.2.1.next hp
  dsimp only
  clear HH kb k1 k2 k4 kp hp e1
  have kp : ∀ p : Nearby W2, p.W.cell? ⟨c, 16, none⟩ = some (.int .u64 (pc : Nat)) := fun p => (hc2.nr p.near (by simp)).next
  have HH := Lib.hid (And.intro hx2 (And.intro hn2 (And.intro hc2 hm2)))
  clear hx2 hn2 hc2 hm2
  go_upto_region 2 with fail
  refine wp_region_near (by kernel_rfl) (by kernel_rfl) ?_
  repeat (quiet_step (fail))
  refine wpQuiet_nil ?_
  intro _ hw'
  obtain ⟨p, hw''⟩ := hw'
  subst hw''
  obtain ⟨W3, hp⟩ := p
  have HC := Lib.hid (HH.out.2.2.1.nr hp (by simp))
  have HM := Lib.hid (HH.out.2.2.2.nr hp (by simp) (by simp))
  have HX := Lib.hid (HH.out.1.nr hp (by simp))
  have HN := Lib.hid (HH.out.2.1.next hp)
  dsimp only
  clear HH kp hp z1 z2 z3 z4 z5
  have k0 := HX.out.cells.1
  obtain ⟨V, eV⟩ : ∃ V, (R b + Cor.ext m) % 18446744073709551616 = V := ⟨_, rfl⟩
  have y1 : IntKind.u64.wrap ((R b : Int) + (E : Int)) = (V : Nat) := by rw [wrap64, ← HG.out.1, ← eV]; omega
  have hV := Lib.hid eV
  clear eV
  have kn := HC.out.next
  have kf := HC.out.free 16
  have ka := HC.out.cell ha
  have kg := HC.out.free a
  have hc4 := HC.out.put ha (V)
  have hm4 := HM.out.nr (Nr.of_turn (Turn.set W3 c a (.int .u64 ((V : Nat) : Int)))) (by simpa using fun e => hcg e.symm) (by simpa using fun e => hcy e.symm)
  have hn4 := HN.out.set (b := c) (.inl (by simp)) a (.int .u64 ((V : Nat) : Int))
  have kn4 := hc4.next
  have kf4 := hc4.free 16
  have HE := Lib.hid (And.intro (hc4.go N) (And.intro (hm4.nr (Nr.of_turn (Turn.set _ c 16 (.int .u64 (N : Nat)))) (by simpa using fun e => hcg e.symm) (by simpa using fun e => hcy e.symm)) (hn4.set (b := c) (.inl (by simp)) 16 (.int .u64 (N : Nat)))))
  clear hc4 hm4 hn4
  go_wp2_with fail
  go_ret
  have e : Cor.exec n hole 18 a b d m ⟨R, pc, f⟩ = (⟨Cor.put R a V, N, f⟩, 0) := by rw [← HG.out.2.1, ← hV.out]; rfl
  rw [e]
  exact ⟨rfl, HE.out⟩
set_option maxRecDepth 100000 in
set_option maxHeartbeats 1000000 in
theorem ex_jal {c g y n : Nat} {hole : Int} {s : Cor.S} (a b d : Nat) (m : Int) (w : World) (h : CS w c 35 s.R s.pc) (hm : MS w g y n hole s.f) (hs : Cor.Ok s) (hcg : c ≠ g) (hcy : c ≠ y) (ha : a < 16) (hb : b < 16) (hd : d < 16) (i1 : -2147483648 ≤ m) (i2 : m ≤ 2147483647) :
    Calls Try.prog 14 #[.pointer (some ⟨c, 0, none⟩), .agg #[.int .i64 29, .int .i64 (a : Nat), .int .i64 (b : Nat), .int .i64 (d : Nat), .int .i32 m], IV g] w fun e w' => EO 35 c g y n hole (Cor.exec n hole 29 a b d m s) w e w' := by
  obtain ⟨R, pc, f⟩ := s
  obtain ⟨hR, hpc, hf⟩ := hs
  dsimp only at h hm hR hpc hf ⊢
  obtain ⟨W1, e1⟩ : ∃ W1, w.alloc (Obj.cells #[.int .i64 29, .int .i64 (a : Nat), .int .i64 (b : Nat), .int .i64 (d : Nat), .int .i32 m] 27) = W1 := ⟨_, rfl⟩
  obtain ⟨X, eX⟩ : ∃ X, w.heap.size = X := ⟨_, rfl⟩
  have hx1 : XS W1 X 29 a b d m := by rw [← e1, ← eX]; exact heap_alloc_new w _
  have hn1 : Nr [c, y] w W1 := by rw [← e1]; exact (Nr.refl _ _).alloc _
  have hc1 : CS W1 c 35 R pc := h.below (by rw [← e1]; exact below_alloc1 w _)
  have hm1 : MS W1 g y n hole f := hm.below (by rw [← e1]; exact below_alloc1 w _)
  have hcX : X ≠ c := by have := h.lt; omega
  have kx : ∀ p : Nearby W1, p.W.cell? ⟨X, 1, none⟩ = some (.int .i64 (a : Nat)) ∧ p.W.cell? ⟨X, 2, none⟩ = some (.int .i64 (b : Nat)) ∧ p.W.cell? ⟨X, 4, none⟩ = some (.int .i32 m) ∧ p.W.cell? ⟨c, 16, none⟩ = some (.int .u64 (pc : Nat)) ∧ p.W.cell? ⟨c, b, none⟩ = some (.int .u64 (R b : Nat)) := fun p => by
    obtain ⟨x0, x1, x2, x3, x4⟩ := (hx1.nr p.near (by simp)).cells
    exact ⟨x1, x2, x4, (hc1.nr p.near (by simp)).next, (hc1.nr p.near (by simp)).cell hb⟩
  have k1 := fun p => (kx p).1
  have k2 := fun p => (kx p).2.1
  have k4 := fun p => (kx p).2.2.1
  have kp := fun p => (kx p).2.2.2.1
  have kb := fun p => (kx p).2.2.2.2
  have hb' : (b : Int) < 16 := by omega
  have ha' : (a : Int) < 16 := by omega
  have z1 : IntKind.i64.wrap m = m := IntWalk.i64_in _ (by omega)
  have z2 := Cor.ext_wrap m
  have z3 : IntKind.u64.wrap ((pc : Int) + 8) = (Cor.nxt pc : Nat) := by rw [wrap64]; unfold Cor.nxt; omega
  have z4 : IntKind.u64.wrap (8 * (Cor.ext m : Int)) = ((8 * Cor.ext m % 18446744073709551616 : Nat) : Int) := by rw [wrap64]; omega
  have z5 : IntKind.u64.wrap ((pc : Int) + ((8 * Cor.ext m % 18446744073709551616 : Nat) : Int)) = (Cor.far pc m : Nat) := by rw [wrap64]; unfold Cor.far; omega
  generalize hE : Cor.ext m = E at z2 z4 z5
  generalize 8 * E % 18446744073709551616 = E8 at z4 z5
  generalize hN : Cor.nxt pc = N at z3
  generalize hF : Cor.far pc m = F at z5
  have HG := Lib.hid (And.intro hE (And.intro hN hF))
  have HH := Lib.hid (And.intro hx1 (And.intro hn1 (And.intro hc1 hm1)))
  have HI := Lib.hid (And.intro hR (And.intro hpc hf))
  have HJ := Lib.hid (And.intro i1 i2)
  clear kx hR hpc h hx1 hn1 hc1 hf hm hm1 i1 i2 hE hN hF
  unfold IV
  go_enter Try.func14, Try.ntmps14
  go_upto_region 1 with fail
  refine wp_region_near (by kernel_rfl) (by kernel_rfl) ?_
  repeat (quiet_step (fail))
  refine wpQuiet_nil ?_
  intro _ hw'
  obtain ⟨p, hw''⟩ := hw'
  subst hw''
  obtain ⟨W2, hp⟩ := p
  have hc2 := HH.out.2.2.1.nr hp (by simp)
  have hm2 := HH.out.2.2.2.nr hp (by simp) (by simp)
  have hx2 := HH.out.1.nr hp (by simp)
  have hn2 := HH.out.2.1.next hp
  dsimp only
  clear HH kb k1 k2 k4 kp hp e1
  have kp : ∀ p : Nearby W2, p.W.cell? ⟨c, 16, none⟩ = some (.int .u64 (pc : Nat)) := fun p => (hc2.nr p.near (by simp)).next
  have HH := Lib.hid (And.intro hx2 (And.intro hn2 (And.intro hc2 hm2)))
  clear hx2 hn2 hc2 hm2
  go_upto_region 2 with fail
  refine wp_region_near (by kernel_rfl) (by kernel_rfl) ?_
  repeat (quiet_step (fail))
  refine wpQuiet_nil ?_
  intro _ hw'
  obtain ⟨p, hw''⟩ := hw'
  subst hw''
  obtain ⟨W3, hp⟩ := p
  have HC := Lib.hid (HH.out.2.2.1.nr hp (by simp))
  have HM := Lib.hid (HH.out.2.2.2.nr hp (by simp) (by simp))
  have HX := Lib.hid (HH.out.1.nr hp (by simp))
  have HN := Lib.hid (HH.out.2.1.next hp)
  dsimp only
  clear HH kp hp z1 z2 z3 z4 z5
  have k0 := HX.out.cells.1
  have kn := HC.out.next
  have kf := HC.out.free 16
  have ka := HC.out.cell ha
  have kg := HC.out.free a
  have hc4 := HC.out.put ha (N)
  have hm4 := HM.out.nr (Nr.of_turn (Turn.set W3 c a (.int .u64 ((N : Nat) : Int)))) (by simpa using fun e => hcg e.symm) (by simpa using fun e => hcy e.symm)
  have hn4 := HN.out.set (b := c) (.inl (by simp)) a (.int .u64 ((N : Nat) : Int))
  have kn4 := hc4.next
  have kf4 := hc4.free 16
  have HE := Lib.hid (And.intro (hc4.go F) (And.intro (hm4.nr (Nr.of_turn (Turn.set _ c 16 (.int .u64 (F : Nat)))) (by simpa using fun e => hcg e.symm) (by simpa using fun e => hcy e.symm)) (hn4.set (b := c) (.inl (by simp)) 16 (.int .u64 (F : Nat)))))
  clear hc4 hm4 hn4
  go_wp2_with fail
  go_ret
  have e : Cor.exec n hole 29 a b d m ⟨R, pc, f⟩ = (⟨Cor.put R a N, F, f⟩, 0) := by rw [← HG.out.2.1, ← HG.out.2.2]; rfl
  rw [e]
  exact ⟨rfl, HE.out⟩
set_option maxRecDepth 100000 in
set_option maxHeartbeats 1000000 in
theorem ex_jr {c g y n : Nat} {hole : Int} {s : Cor.S} (a b d : Nat) (m : Int) (w : World) (h : CS w c 35 s.R s.pc) (hm : MS w g y n hole s.f) (hs : Cor.Ok s) (hcg : c ≠ g) (hcy : c ≠ y) (ha : a < 16) (hb : b < 16) (hd : d < 16) (i1 : -2147483648 ≤ m) (i2 : m ≤ 2147483647) :
    Calls Try.prog 14 #[.pointer (some ⟨c, 0, none⟩), .agg #[.int .i64 30, .int .i64 (a : Nat), .int .i64 (b : Nat), .int .i64 (d : Nat), .int .i32 m], IV g] w fun e w' => EO 35 c g y n hole (Cor.exec n hole 30 a b d m s) w e w' := by
  obtain ⟨R, pc, f⟩ := s
  obtain ⟨hR, hpc, hf⟩ := hs
  dsimp only at h hm hR hpc hf ⊢
  obtain ⟨W1, e1⟩ : ∃ W1, w.alloc (Obj.cells #[.int .i64 30, .int .i64 (a : Nat), .int .i64 (b : Nat), .int .i64 (d : Nat), .int .i32 m] 27) = W1 := ⟨_, rfl⟩
  obtain ⟨X, eX⟩ : ∃ X, w.heap.size = X := ⟨_, rfl⟩
  have hx1 : XS W1 X 30 a b d m := by rw [← e1, ← eX]; exact heap_alloc_new w _
  have hn1 : Nr [c, y] w W1 := by rw [← e1]; exact (Nr.refl _ _).alloc _
  have hc1 : CS W1 c 35 R pc := h.below (by rw [← e1]; exact below_alloc1 w _)
  have hm1 : MS W1 g y n hole f := hm.below (by rw [← e1]; exact below_alloc1 w _)
  have hcX : X ≠ c := by have := h.lt; omega
  have kx : ∀ p : Nearby W1, p.W.cell? ⟨X, 1, none⟩ = some (.int .i64 (a : Nat)) ∧ p.W.cell? ⟨X, 2, none⟩ = some (.int .i64 (b : Nat)) ∧ p.W.cell? ⟨X, 4, none⟩ = some (.int .i32 m) ∧ p.W.cell? ⟨c, 16, none⟩ = some (.int .u64 (pc : Nat)) ∧ p.W.cell? ⟨c, b, none⟩ = some (.int .u64 (R b : Nat)) := fun p => by
    obtain ⟨x0, x1, x2, x3, x4⟩ := (hx1.nr p.near (by simp)).cells
    exact ⟨x1, x2, x4, (hc1.nr p.near (by simp)).next, (hc1.nr p.near (by simp)).cell hb⟩
  have k1 := fun p => (kx p).1
  have k2 := fun p => (kx p).2.1
  have k4 := fun p => (kx p).2.2.1
  have kp := fun p => (kx p).2.2.2.1
  have kb := fun p => (kx p).2.2.2.2
  have hb' : (b : Int) < 16 := by omega
  have ha' : (a : Int) < 16 := by omega
  have z1 : IntKind.i64.wrap m = m := IntWalk.i64_in _ (by omega)
  have z2 := Cor.ext_wrap m
  have z3 : IntKind.u64.wrap ((pc : Int) + 8) = (Cor.nxt pc : Nat) := by rw [wrap64]; unfold Cor.nxt; omega
  have z4 : IntKind.u64.wrap (8 * (Cor.ext m : Int)) = ((8 * Cor.ext m % 18446744073709551616 : Nat) : Int) := by rw [wrap64]; omega
  have z5 : IntKind.u64.wrap ((pc : Int) + ((8 * Cor.ext m % 18446744073709551616 : Nat) : Int)) = (Cor.far pc m : Nat) := by rw [wrap64]; unfold Cor.far; omega
  generalize hE : Cor.ext m = E at z2 z4 z5
  generalize 8 * E % 18446744073709551616 = E8 at z4 z5
  generalize hN : Cor.nxt pc = N at z3
  generalize hF : Cor.far pc m = F at z5
  have HG := Lib.hid (And.intro hE (And.intro hN hF))
  have HH := Lib.hid (And.intro hx1 (And.intro hn1 (And.intro hc1 hm1)))
  have HI := Lib.hid (And.intro hR (And.intro hpc hf))
  have HJ := Lib.hid (And.intro i1 i2)
  clear kx hR hpc h hx1 hn1 hc1 hf hm hm1 i1 i2 hE hN hF
  unfold IV
  go_enter Try.func14, Try.ntmps14
  go_upto_region 1 with fail
  refine wp_region_near (by kernel_rfl) (by kernel_rfl) ?_
  repeat (quiet_step (fail))
  refine wpQuiet_nil ?_
  intro _ hw'
  obtain ⟨p, hw''⟩ := hw'
  subst hw''
  obtain ⟨W2, hp⟩ := p
  have hc2 := HH.out.2.2.1.nr hp (by simp)
  have hm2 := HH.out.2.2.2.nr hp (by simp) (by simp)
  have hx2 := HH.out.1.nr hp (by simp)
  have hn2 := HH.out.2.1.next hp
  dsimp only
  clear HH kb k1 k2 k4 kp hp e1
  have kp : ∀ p : Nearby W2, p.W.cell? ⟨c, 16, none⟩ = some (.int .u64 (pc : Nat)) := fun p => (hc2.nr p.near (by simp)).next
  have HH := Lib.hid (And.intro hx2 (And.intro hn2 (And.intro hc2 hm2)))
  clear hx2 hn2 hc2 hm2
  go_upto_region 2 with fail
  refine wp_region_near (by kernel_rfl) (by kernel_rfl) ?_
  repeat (quiet_step (fail))
  refine wpQuiet_nil ?_
  intro _ hw'
  obtain ⟨p, hw''⟩ := hw'
  subst hw''
  obtain ⟨W3, hp⟩ := p
  have HC := Lib.hid (HH.out.2.2.1.nr hp (by simp))
  have HM := Lib.hid (HH.out.2.2.2.nr hp (by simp) (by simp))
  have HX := Lib.hid (HH.out.1.nr hp (by simp))
  have HN := Lib.hid (HH.out.2.1.next hp)
  dsimp only
  clear HH kp hp z1 z2 z3 z4 z5
  have k0 := HX.out.cells.1
  have ka := HC.out.cell ha
  have kn := HC.out.next
  have kf := HC.out.free 16
  have HE := Lib.hid (fun (v : Nat) => And.intro (HC.out.go v) (And.intro (HM.out.nr (Nr.of_turn (Turn.set W3 c 16 (.int .u64 (v : Nat)))) (by simpa using fun e => hcg e.symm) (by simpa using fun e => hcy e.symm)) (HN.out.set (b := c) (.inl (by simp)) 16 (.int .u64 (v : Nat)))))
  go_wp2_with fail
  go_ret
  have e : Cor.exec n hole 30 a b d m ⟨R, pc, f⟩ = (⟨R, R a, f⟩, 0) := rfl
  rw [e]
  exact ⟨rfl, HE.out _⟩
end Go.Proofs.Ytojnokaeopadfaa
