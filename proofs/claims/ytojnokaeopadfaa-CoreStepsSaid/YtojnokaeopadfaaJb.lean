/- The reference does an instruction. Written by genJb.py. -/
import Derived.Test.YtojnokaeopadfaaJa
import Derived.Test.YtojnokaeopadfaaHi
import Derived.StillTailTactics
set_option linter.unusedVariables false
set_option linter.unusedSimpArgs false
namespace Cor
/-- What an instruction does beside the memory; L was loaded. -/
def doing (op : Int) (a b c : Nat) (m : Int) (L : Nat) (s : S) : S × Int :=
  if op = 19 ∨ op = 20 ∨ op = 21 then ({s with R := put s.R a L, pc := nxt s.pc}, 0)
  else if op = 22 ∨ op = 23 ∨ op = 24 then ({s with pc := nxt s.pc}, 0)
  else plain op a b c m s
end Cor
namespace Go.Proofs.Ytojnokaeopadfaa
open Go.RowKit

/-- How it ended, the reference's core in block c. -/
def DOut (c : Nat) (r : Cor.S × Int) (w : World) (e : Ending) (w' : World) : Prop :=
  e = .returned (.int .i64 r.2) ∧ CS w' c 36 r.1.R r.1.pc ∧ Nr [c] w w'
set_option maxRecDepth 100000 in
set_option maxHeartbeats 1000000 in
theorem do_halt {c : Nat} {s : Cor.S} (a b d : Nat) (m : Int) (L : Nat) (w : World) (h : CS w c 36 s.R s.pc) (hs : Cor.Ok s) (ha : a < 16) (hb : b < 16) (hd : d < 16) (i1 : -2147483648 ≤ m) (i2 : m ≤ 2147483647) :
    Calls Try.prog 20 #[.pointer (some ⟨c, 0, none⟩), .agg #[.int .i64 1, .int .i64 (a : Nat), .int .i64 (b : Nat), .int .i64 (d : Nat), .int .i32 m], .int .u64 (L : Nat)] w fun e w' => DOut c (Cor.doing 1 a b d m L s) w e w' := by
  obtain ⟨R, pc, f⟩ := s
  obtain ⟨hR, hpc, hf⟩ := hs
  dsimp only at h hR hpc hf ⊢
  obtain ⟨W1, e1⟩ : ∃ W1, w.alloc (Obj.cells #[.int .i64 1, .int .i64 (a : Nat), .int .i64 (b : Nat), .int .i64 (d : Nat), .int .i32 m] 27) = W1 := ⟨_, rfl⟩
  obtain ⟨X, eX⟩ : ∃ X, w.heap.size = X := ⟨_, rfl⟩
  have hx1 : XS W1 X 1 a b d m := by rw [← e1, ← eX]; exact heap_alloc_new w _
  have hn1 : Nr [c] w W1 := by rw [← e1]; exact (Nr.refl _ _).alloc _
  have hc1 : CS W1 c 36 R pc := h.below (by rw [← e1]; exact below_alloc1 w _)
  have hcX : X ≠ c := by have := h.lt; omega
  have kx : ∀ p : Nearby W1, p.W.cell? ⟨X, 4, none⟩ = some (.int .i32 m) ∧ p.W.cell? ⟨c, 16, none⟩ = some (.int .u64 (pc : Nat)) := fun p => by
    obtain ⟨x0, x1, x2, x3, x4⟩ := (hx1.nr p.near (by simp)).cells
    exact ⟨x4, (hc1.nr p.near (by simp)).next⟩
  have k4 := fun p => (kx p).1
  have kp := fun p => (kx p).2
  have kw := hc1.next
  have hb' : (b : Int) < 16 := by omega
  have ha' : (a : Int) < 16 := by omega
  have hd' : (d : Int) < 16 := by omega
  have z1 : IntKind.i64.wrap m = m := IntWalk.i64_in _ (by omega)
  have z2 := Cor.ext_wrap m
  have z3 : IntKind.u64.wrap ((pc : Int) + 8) = (Cor.nxt pc : Nat) := by rw [wrap64]; unfold Cor.nxt; omega
  have z4 : IntKind.u64.wrap (8 * (Cor.ext m : Int)) = ((8 * Cor.ext m % 18446744073709551616 : Nat) : Int) := by rw [wrap64]; omega
  have z5 : IntKind.u64.wrap ((pc : Int) + ((8 * Cor.ext m % 18446744073709551616 : Nat) : Int)) = (Cor.far pc m : Nat) := by rw [wrap64]; unfold Cor.far; omega
  generalize hE : Cor.ext m = E at z2 z4 z5
  generalize 8 * E % 18446744073709551616 = E8 at z4 z5
  generalize hN : Cor.nxt pc = N at z3
  generalize hF : Cor.far pc m = F at z5
  have HG := Lib.hid (And.intro hE (And.intro hN hF))
  have HH := Lib.hid (And.intro hx1 (And.intro hn1 hc1))
  have HI := Lib.hid (And.intro hR (And.intro hpc hf))
  have HJ := Lib.hid (And.intro i1 i2)
  clear kx hR hpc h hx1 hn1 hc1 hf i1 i2 hE hN hF
  go_enter Try.func20, Try.ntmps20
  go_upto_region 2 with fail
  refine wp_region_near (by kernel_rfl) (by kernel_rfl) ?_
  repeat (quiet_step (fail))
  refine wpQuiet_nil ?_
  intro _ hw'
  obtain ⟨p, hw''⟩ := hw'
  subst hw''
  obtain ⟨W3, hp⟩ := p
  have HC := Lib.hid (HH.out.2.2.nr hp (by simp))
  have HX := Lib.hid (HH.out.1.nr hp (by simp))
  have HN := Lib.hid (HH.out.2.1.next hp)
  dsimp only
  clear HH kp hp z3 z4 z5 kw k4
  have k0 := HX.out.cells.1
  go_wp2_with fail
  go_ret
  exact ⟨rfl, HC.out, HN.out⟩
set_option maxRecDepth 100000 in
set_option maxHeartbeats 1000000 in
theorem do_trap {c : Nat} {s : Cor.S} (a b d : Nat) (m : Int) (L : Nat) (w : World) (h : CS w c 36 s.R s.pc) (hs : Cor.Ok s) (ha : a < 16) (hb : b < 16) (hd : d < 16) (i1 : -2147483648 ≤ m) (i2 : m ≤ 2147483647) :
    Calls Try.prog 20 #[.pointer (some ⟨c, 0, none⟩), .agg #[.int .i64 43, .int .i64 (a : Nat), .int .i64 (b : Nat), .int .i64 (d : Nat), .int .i32 m], .int .u64 (L : Nat)] w fun e w' => DOut c (Cor.doing 43 a b d m L s) w e w' := by
  obtain ⟨R, pc, f⟩ := s
  obtain ⟨hR, hpc, hf⟩ := hs
  dsimp only at h hR hpc hf ⊢
  obtain ⟨W1, e1⟩ : ∃ W1, w.alloc (Obj.cells #[.int .i64 43, .int .i64 (a : Nat), .int .i64 (b : Nat), .int .i64 (d : Nat), .int .i32 m] 27) = W1 := ⟨_, rfl⟩
  obtain ⟨X, eX⟩ : ∃ X, w.heap.size = X := ⟨_, rfl⟩
  have hx1 : XS W1 X 43 a b d m := by rw [← e1, ← eX]; exact heap_alloc_new w _
  have hn1 : Nr [c] w W1 := by rw [← e1]; exact (Nr.refl _ _).alloc _
  have hc1 : CS W1 c 36 R pc := h.below (by rw [← e1]; exact below_alloc1 w _)
  have hcX : X ≠ c := by have := h.lt; omega
  have kx : ∀ p : Nearby W1, p.W.cell? ⟨X, 4, none⟩ = some (.int .i32 m) ∧ p.W.cell? ⟨c, 16, none⟩ = some (.int .u64 (pc : Nat)) := fun p => by
    obtain ⟨x0, x1, x2, x3, x4⟩ := (hx1.nr p.near (by simp)).cells
    exact ⟨x4, (hc1.nr p.near (by simp)).next⟩
  have k4 := fun p => (kx p).1
  have kp := fun p => (kx p).2
  have kw := hc1.next
  have hb' : (b : Int) < 16 := by omega
  have ha' : (a : Int) < 16 := by omega
  have hd' : (d : Int) < 16 := by omega
  have z1 : IntKind.i64.wrap m = m := IntWalk.i64_in _ (by omega)
  have z2 := Cor.ext_wrap m
  have z3 : IntKind.u64.wrap ((pc : Int) + 8) = (Cor.nxt pc : Nat) := by rw [wrap64]; unfold Cor.nxt; omega
  have z4 : IntKind.u64.wrap (8 * (Cor.ext m : Int)) = ((8 * Cor.ext m % 18446744073709551616 : Nat) : Int) := by rw [wrap64]; omega
  have z5 : IntKind.u64.wrap ((pc : Int) + ((8 * Cor.ext m % 18446744073709551616 : Nat) : Int)) = (Cor.far pc m : Nat) := by rw [wrap64]; unfold Cor.far; omega
  generalize hE : Cor.ext m = E at z2 z4 z5
  generalize 8 * E % 18446744073709551616 = E8 at z4 z5
  generalize hN : Cor.nxt pc = N at z3
  generalize hF : Cor.far pc m = F at z5
  have HG := Lib.hid (And.intro hE (And.intro hN hF))
  have HH := Lib.hid (And.intro hx1 (And.intro hn1 hc1))
  have HI := Lib.hid (And.intro hR (And.intro hpc hf))
  have HJ := Lib.hid (And.intro i1 i2)
  clear kx hR hpc h hx1 hn1 hc1 hf i1 i2 hE hN hF
  go_enter Try.func20, Try.ntmps20
  go_upto_region 2 with fail
  refine wp_region_near (by kernel_rfl) (by kernel_rfl) ?_
  repeat (quiet_step (fail))
  refine wpQuiet_nil ?_
  intro _ hw'
  obtain ⟨p, hw''⟩ := hw'
  subst hw''
  obtain ⟨W3, hp⟩ := p
  have HC := Lib.hid (HH.out.2.2.nr hp (by simp))
  have HX := Lib.hid (HH.out.1.nr hp (by simp))
  have HN := Lib.hid (HH.out.2.1.next hp)
  dsimp only
  clear HH kp hp z3 z4 z5 kw k4
  have k0 := HX.out.cells.1
  have kn := HC.out.next
  have kf := HC.out.free 16
  have HE := Lib.hid (And.intro (HC.out.go N) (HN.out.set (b := c) (.inl (by simp)) 16 (.int .u64 (N : Nat))))
  go_wp2_with fail
  go_ret
  have e : Cor.doing 43 a b d m L ⟨R, pc, f⟩ = (⟨R, N, f⟩, 1) := by rw [← HG.out.2.1]; rfl
  rw [e]
  exact ⟨rfl, HE.out⟩
set_option maxRecDepth 100000 in
set_option maxHeartbeats 1000000 in
theorem do_li {c : Nat} {s : Cor.S} (a b d : Nat) (m : Int) (L : Nat) (w : World) (h : CS w c 36 s.R s.pc) (hs : Cor.Ok s) (ha : a < 16) (hb : b < 16) (hd : d < 16) (i1 : -2147483648 ≤ m) (i2 : m ≤ 2147483647) :
    Calls Try.prog 20 #[.pointer (some ⟨c, 0, none⟩), .agg #[.int .i64 2, .int .i64 (a : Nat), .int .i64 (b : Nat), .int .i64 (d : Nat), .int .i32 m], .int .u64 (L : Nat)] w fun e w' => DOut c (Cor.doing 2 a b d m L s) w e w' := by
  obtain ⟨R, pc, f⟩ := s
  obtain ⟨hR, hpc, hf⟩ := hs
  dsimp only at h hR hpc hf ⊢
  obtain ⟨W1, e1⟩ : ∃ W1, w.alloc (Obj.cells #[.int .i64 2, .int .i64 (a : Nat), .int .i64 (b : Nat), .int .i64 (d : Nat), .int .i32 m] 27) = W1 := ⟨_, rfl⟩
  obtain ⟨X, eX⟩ : ∃ X, w.heap.size = X := ⟨_, rfl⟩
  have hx1 : XS W1 X 2 a b d m := by rw [← e1, ← eX]; exact heap_alloc_new w _
  have hn1 : Nr [c] w W1 := by rw [← e1]; exact (Nr.refl _ _).alloc _
  have hc1 : CS W1 c 36 R pc := h.below (by rw [← e1]; exact below_alloc1 w _)
  have hcX : X ≠ c := by have := h.lt; omega
  have kx : ∀ p : Nearby W1, p.W.cell? ⟨X, 4, none⟩ = some (.int .i32 m) ∧ p.W.cell? ⟨c, 16, none⟩ = some (.int .u64 (pc : Nat)) := fun p => by
    obtain ⟨x0, x1, x2, x3, x4⟩ := (hx1.nr p.near (by simp)).cells
    exact ⟨x4, (hc1.nr p.near (by simp)).next⟩
  have k4 := fun p => (kx p).1
  have kp := fun p => (kx p).2
  have kw := hc1.next
  have hb' : (b : Int) < 16 := by omega
  have ha' : (a : Int) < 16 := by omega
  have hd' : (d : Int) < 16 := by omega
  have z1 : IntKind.i64.wrap m = m := IntWalk.i64_in _ (by omega)
  have z2 := Cor.ext_wrap m
  have z3 : IntKind.u64.wrap ((pc : Int) + 8) = (Cor.nxt pc : Nat) := by rw [wrap64]; unfold Cor.nxt; omega
  have z4 : IntKind.u64.wrap (8 * (Cor.ext m : Int)) = ((8 * Cor.ext m % 18446744073709551616 : Nat) : Int) := by rw [wrap64]; omega
  have z5 : IntKind.u64.wrap ((pc : Int) + ((8 * Cor.ext m % 18446744073709551616 : Nat) : Int)) = (Cor.far pc m : Nat) := by rw [wrap64]; unfold Cor.far; omega
  generalize hE : Cor.ext m = E at z2 z4 z5
  generalize 8 * E % 18446744073709551616 = E8 at z4 z5
  generalize hN : Cor.nxt pc = N at z3
  generalize hF : Cor.far pc m = F at z5
  have HG := Lib.hid (And.intro hE (And.intro hN hF))
  have HH := Lib.hid (And.intro hx1 (And.intro hn1 hc1))
  have HI := Lib.hid (And.intro hR (And.intro hpc hf))
  have HJ := Lib.hid (And.intro i1 i2)
  clear kx hR hpc h hx1 hn1 hc1 hf i1 i2 hE hN hF
  go_enter Try.func20, Try.ntmps20
  go_upto_region 2 with fail
  refine wp_region_near (by kernel_rfl) (by kernel_rfl) ?_
  repeat (quiet_step (fail))
  refine wpQuiet_nil ?_
  intro _ hw'
  obtain ⟨p, hw''⟩ := hw'
  subst hw''
  obtain ⟨W3, hp⟩ := p
  have HC := Lib.hid (HH.out.2.2.nr hp (by simp))
  have HX := Lib.hid (HH.out.1.nr hp (by simp))
  have HN := Lib.hid (HH.out.2.1.next hp)
  dsimp only
  clear HH kp hp z3 z4 z5 kw k4
  have k0 := HX.out.cells.1
  obtain ⟨W4, e4⟩ : ∃ W4, W3.drew = W4 := ⟨_, rfl⟩
  have hx4 : XS W4 X 2 a b d m := by rw [← e4]; exact HX.out
  have hc4 : CS W4 c 36 R pc := by rw [← e4]; exact HC.out
  have hn4 : Nr [c] w W4 := by rw [← e4]; exact HN.out.drew
  obtain ⟨x0, x1, x2, x3, x4⟩ := hx4.cells
  have ca := hc4.cell ha
  have cb := hc4.cell hb
  have kg := hc4.free a
  have hc5 := hc4.put ha (E)
  have hn5 := hn4.set (b := c) (.inl (by simp)) a (.int .u64 ((E : Nat) : Int))
  have kn5 := hc5.next
  have kf5 := hc5.free 16
  have HE := Lib.hid (And.intro (hc5.go N) (hn5.set (b := c) (.inl (by simp)) 16 (.int .u64 (N : Nat))))
  clear hc5 hn5 hc4 hx4 hn4
  go_upto_region 13 with fail
  refine wp_region_still_tail 10 (by kernel_rfl) (by kernel_rfl) ?_
  rw [show ({ W3 with drawn := W3.drawn + 1 } : World) = W4 from e4]
  simp only [List.take_succ_cons, List.take_zero, List.drop_succ_cons, List.drop_zero]
  clear e4
  repeat still_step
  refine wpStill_nil ?_
  go_wp2_with fail
  go_ret
  have e : Cor.doing 2 a b d m L ⟨R, pc, f⟩ = (⟨Cor.put R a E, N, f⟩, 0) := by rw [← HG.out.1, ← HG.out.2.1]; rfl
  rw [e]
  exact ⟨rfl, HE.out⟩
set_option maxRecDepth 100000 in
set_option maxHeartbeats 1000000 in
theorem do_hi {c : Nat} {s : Cor.S} (a b d : Nat) (m : Int) (L : Nat) (w : World) (h : CS w c 36 s.R s.pc) (hs : Cor.Ok s) (ha : a < 16) (hb : b < 16) (hd : d < 16) (i1 : -2147483648 ≤ m) (i2 : m ≤ 2147483647) :
    Calls Try.prog 20 #[.pointer (some ⟨c, 0, none⟩), .agg #[.int .i64 3, .int .i64 (a : Nat), .int .i64 (b : Nat), .int .i64 (d : Nat), .int .i32 m], .int .u64 (L : Nat)] w fun e w' => DOut c (Cor.doing 3 a b d m L s) w e w' := by
  obtain ⟨R, pc, f⟩ := s
  obtain ⟨hR, hpc, hf⟩ := hs
  dsimp only at h hR hpc hf ⊢
  obtain ⟨W1, e1⟩ : ∃ W1, w.alloc (Obj.cells #[.int .i64 3, .int .i64 (a : Nat), .int .i64 (b : Nat), .int .i64 (d : Nat), .int .i32 m] 27) = W1 := ⟨_, rfl⟩
  obtain ⟨X, eX⟩ : ∃ X, w.heap.size = X := ⟨_, rfl⟩
  have hx1 : XS W1 X 3 a b d m := by rw [← e1, ← eX]; exact heap_alloc_new w _
  have hn1 : Nr [c] w W1 := by rw [← e1]; exact (Nr.refl _ _).alloc _
  have hc1 : CS W1 c 36 R pc := h.below (by rw [← e1]; exact below_alloc1 w _)
  have hcX : X ≠ c := by have := h.lt; omega
  have kx : ∀ p : Nearby W1, p.W.cell? ⟨X, 4, none⟩ = some (.int .i32 m) ∧ p.W.cell? ⟨c, 16, none⟩ = some (.int .u64 (pc : Nat)) := fun p => by
    obtain ⟨x0, x1, x2, x3, x4⟩ := (hx1.nr p.near (by simp)).cells
    exact ⟨x4, (hc1.nr p.near (by simp)).next⟩
  have k4 := fun p => (kx p).1
  have kp := fun p => (kx p).2
  have kw := hc1.next
  have hb' : (b : Int) < 16 := by omega
  have ha' : (a : Int) < 16 := by omega
  have hd' : (d : Int) < 16 := by omega
  have z1 : IntKind.i64.wrap m = m := IntWalk.i64_in _ (by omega)
  have z2 := Cor.ext_wrap m
  have z3 : IntKind.u64.wrap ((pc : Int) + 8) = (Cor.nxt pc : Nat) := by rw [wrap64]; unfold Cor.nxt; omega
  have z4 : IntKind.u64.wrap (8 * (Cor.ext m : Int)) = ((8 * Cor.ext m % 18446744073709551616 : Nat) : Int) := by rw [wrap64]; omega
  have z5 : IntKind.u64.wrap ((pc : Int) + ((8 * Cor.ext m % 18446744073709551616 : Nat) : Int)) = (Cor.far pc m : Nat) := by rw [wrap64]; unfold Cor.far; omega
  generalize hE : Cor.ext m = E at z2 z4 z5
  generalize 8 * E % 18446744073709551616 = E8 at z4 z5
  generalize hN : Cor.nxt pc = N at z3
  generalize hF : Cor.far pc m = F at z5
  have HG := Lib.hid (And.intro hE (And.intro hN hF))
  have HH := Lib.hid (And.intro hx1 (And.intro hn1 hc1))
  have HI := Lib.hid (And.intro hR (And.intro hpc hf))
  have HJ := Lib.hid (And.intro i1 i2)
  clear kx hR hpc h hx1 hn1 hc1 hf i1 i2 hE hN hF
  go_enter Try.func20, Try.ntmps20
  go_upto_region 2 with fail
  refine wp_region_near (by kernel_rfl) (by kernel_rfl) ?_
  repeat (quiet_step (fail))
  refine wpQuiet_nil ?_
  intro _ hw'
  obtain ⟨p, hw''⟩ := hw'
  subst hw''
  obtain ⟨W3, hp⟩ := p
  have HC := Lib.hid (HH.out.2.2.nr hp (by simp))
  have HX := Lib.hid (HH.out.1.nr hp (by simp))
  have HN := Lib.hid (HH.out.2.1.next hp)
  dsimp only
  clear HH kp hp z3 z4 z5 kw k4
  have k0 := HX.out.cells.1
  have hRa := HI.out.1 a
  obtain ⟨Q, eQ⟩ : ∃ Q, (m % 4294967296).toNat = Q := ⟨_, rfl⟩
  have y0 : m % 4294967296 = (Q : Nat) := by omega
  have hQ : Q < 4294967296 := by omega
  have y9 : IntKind.u64.wrap (Q : Int) = (Q : Nat) := by rw [wrap64]; omega
  obtain ⟨U, eU⟩ : ∃ U, Q * 4294967296 = U := ⟨_, rfl⟩
  obtain ⟨V, eV⟩ : ∃ V, R a % 4294967296 + U = V := ⟨_, rfl⟩
  have y1 : IntKind.u64.wrap ((Q : Int) * 4294967296) = (U : Nat) := by rw [wrap64]; omega
  have y2 : (R a : Int).tmod 4294967296 = ((R a % 4294967296 : Nat) : Int) := by rw [Int.tmod_eq_emod_of_nonneg (by omega)]; omega
  have y3 : IntKind.u64.wrap (((R a % 4294967296 : Nat) : Int) + (U : Int)) = (V : Nat) := by rw [wrap64]; omega
  have hV := Lib.hid (And.intro eQ (And.intro eU eV))
  clear hRa eU eV eQ hQ
  generalize hL : R a % 4294967296 = K at y2 y3 hV
  have HL := Lib.hid hL
  clear hL
  obtain ⟨W4, e4⟩ : ∃ W4, W3.drew = W4 := ⟨_, rfl⟩
  have hx4 : XS W4 X 3 a b d m := by rw [← e4]; exact HX.out
  have hc4 : CS W4 c 36 R pc := by rw [← e4]; exact HC.out
  have hn4 : Nr [c] w W4 := by rw [← e4]; exact HN.out.drew
  obtain ⟨x0, x1, x2, x3, x4⟩ := hx4.cells
  have ca := hc4.cell ha
  have cb := hc4.cell hb
  have kg := hc4.free a
  have hc5 := hc4.put ha (V)
  have hn5 := hn4.set (b := c) (.inl (by simp)) a (.int .u64 ((V : Nat) : Int))
  have kn5 := hc5.next
  have kf5 := hc5.free 16
  have HE := Lib.hid (And.intro (hc5.go N) (hn5.set (b := c) (.inl (by simp)) 16 (.int .u64 (N : Nat))))
  clear hc5 hn5 hc4 hx4 hn4
  go_upto_region 15 with fail
  refine wp_region_still_tail 20 (by kernel_rfl) (by kernel_rfl) ?_
  rw [show ({ W3 with drawn := W3.drawn + 1 } : World) = W4 from e4]
  simp only [List.take_succ_cons, List.take_zero, List.drop_succ_cons, List.drop_zero]
  clear e4
  repeat still_step
  refine wpStill_nil ?_
  go_wp2_with fail
  go_ret
  have e : Cor.doing 3 a b d m L ⟨R, pc, f⟩ = (⟨Cor.put R a V, N, f⟩, 0) := by rw [← HG.out.2.1, ← hV.out.2.2, ← hV.out.2.1, ← hV.out.1, ← HL.out]; rfl
  rw [e]
  exact ⟨rfl, HE.out⟩
set_option maxRecDepth 100000 in
set_option maxHeartbeats 1000000 in
theorem do_addi {c : Nat} {s : Cor.S} (a b d : Nat) (m : Int) (L : Nat) (w : World) (h : CS w c 36 s.R s.pc) (hs : Cor.Ok s) (ha : a < 16) (hb : b < 16) (hd : d < 16) (i1 : -2147483648 ≤ m) (i2 : m ≤ 2147483647) :
    Calls Try.prog 20 #[.pointer (some ⟨c, 0, none⟩), .agg #[.int .i64 18, .int .i64 (a : Nat), .int .i64 (b : Nat), .int .i64 (d : Nat), .int .i32 m], .int .u64 (L : Nat)] w fun e w' => DOut c (Cor.doing 18 a b d m L s) w e w' := by
  obtain ⟨R, pc, f⟩ := s
  obtain ⟨hR, hpc, hf⟩ := hs
  dsimp only at h hR hpc hf ⊢
  obtain ⟨W1, e1⟩ : ∃ W1, w.alloc (Obj.cells #[.int .i64 18, .int .i64 (a : Nat), .int .i64 (b : Nat), .int .i64 (d : Nat), .int .i32 m] 27) = W1 := ⟨_, rfl⟩
  obtain ⟨X, eX⟩ : ∃ X, w.heap.size = X := ⟨_, rfl⟩
  have hx1 : XS W1 X 18 a b d m := by rw [← e1, ← eX]; exact heap_alloc_new w _
  have hn1 : Nr [c] w W1 := by rw [← e1]; exact (Nr.refl _ _).alloc _
  have hc1 : CS W1 c 36 R pc := h.below (by rw [← e1]; exact below_alloc1 w _)
  have hcX : X ≠ c := by have := h.lt; omega
  have kx : ∀ p : Nearby W1, p.W.cell? ⟨X, 4, none⟩ = some (.int .i32 m) ∧ p.W.cell? ⟨c, 16, none⟩ = some (.int .u64 (pc : Nat)) := fun p => by
    obtain ⟨x0, x1, x2, x3, x4⟩ := (hx1.nr p.near (by simp)).cells
    exact ⟨x4, (hc1.nr p.near (by simp)).next⟩
  have k4 := fun p => (kx p).1
  have kp := fun p => (kx p).2
  have kw := hc1.next
  have hb' : (b : Int) < 16 := by omega
  have ha' : (a : Int) < 16 := by omega
  have hd' : (d : Int) < 16 := by omega
  have z1 : IntKind.i64.wrap m = m := IntWalk.i64_in _ (by omega)
  have z2 := Cor.ext_wrap m
  have z3 : IntKind.u64.wrap ((pc : Int) + 8) = (Cor.nxt pc : Nat) := by rw [wrap64]; unfold Cor.nxt; omega
  have z4 : IntKind.u64.wrap (8 * (Cor.ext m : Int)) = ((8 * Cor.ext m % 18446744073709551616 : Nat) : Int) := by rw [wrap64]; omega
  have z5 : IntKind.u64.wrap ((pc : Int) + ((8 * Cor.ext m % 18446744073709551616 : Nat) : Int)) = (Cor.far pc m : Nat) := by rw [wrap64]; unfold Cor.far; omega
  generalize hE : Cor.ext m = E at z2 z4 z5
  generalize 8 * E % 18446744073709551616 = E8 at z4 z5
  generalize hN : Cor.nxt pc = N at z3
  generalize hF : Cor.far pc m = F at z5
  have HG := Lib.hid (And.intro hE (And.intro hN hF))
  have HH := Lib.hid (And.intro hx1 (And.intro hn1 hc1))
  have HI := Lib.hid (And.intro hR (And.intro hpc hf))
  have HJ := Lib.hid (And.intro i1 i2)
  clear kx hR hpc h hx1 hn1 hc1 hf i1 i2 hE hN hF
  go_enter Try.func20, Try.ntmps20
  go_upto_region 2 with fail
  refine wp_region_near (by kernel_rfl) (by kernel_rfl) ?_
  repeat (quiet_step (fail))
  refine wpQuiet_nil ?_
  intro _ hw'
  obtain ⟨p, hw''⟩ := hw'
  subst hw''
  obtain ⟨W3, hp⟩ := p
  have HC := Lib.hid (HH.out.2.2.nr hp (by simp))
  have HX := Lib.hid (HH.out.1.nr hp (by simp))
  have HN := Lib.hid (HH.out.2.1.next hp)
  dsimp only
  clear HH kp hp z3 z4 z5 kw k4
  have k0 := HX.out.cells.1
  obtain ⟨V, eV⟩ : ∃ V, (R b + Cor.ext m) % 18446744073709551616 = V := ⟨_, rfl⟩
  have y1 : IntKind.u64.wrap ((R b : Int) + (E : Int)) = (V : Nat) := by rw [wrap64, ← HG.out.1, ← eV]; omega
  have hV := Lib.hid eV
  clear eV
  obtain ⟨W4, e4⟩ : ∃ W4, W3.drew = W4 := ⟨_, rfl⟩
  have hx4 : XS W4 X 18 a b d m := by rw [← e4]; exact HX.out
  have hc4 : CS W4 c 36 R pc := by rw [← e4]; exact HC.out
  have hn4 : Nr [c] w W4 := by rw [← e4]; exact HN.out.drew
  obtain ⟨x0, x1, x2, x3, x4⟩ := hx4.cells
  have ca := hc4.cell ha
  have cb := hc4.cell hb
  have kg := hc4.free a
  have hc5 := hc4.put ha (V)
  have hn5 := hn4.set (b := c) (.inl (by simp)) a (.int .u64 ((V : Nat) : Int))
  have kn5 := hc5.next
  have kf5 := hc5.free 16
  have HE := Lib.hid (And.intro (hc5.go N) (hn5.set (b := c) (.inl (by simp)) 16 (.int .u64 (N : Nat))))
  clear hc5 hn5 hc4 hx4 hn4
  go_upto_region 17 with fail
  refine wp_region_still_tail 18 (by kernel_rfl) (by kernel_rfl) ?_
  rw [show ({ W3 with drawn := W3.drawn + 1 } : World) = W4 from e4]
  simp only [List.take_succ_cons, List.take_zero, List.drop_succ_cons, List.drop_zero]
  clear e4
  repeat still_step
  refine wpStill_nil ?_
  go_wp2_with fail
  go_ret
  have e : Cor.doing 18 a b d m L ⟨R, pc, f⟩ = (⟨Cor.put R a V, N, f⟩, 0) := by rw [← HG.out.2.1, ← hV.out]; rfl
  rw [e]
  exact ⟨rfl, HE.out⟩
set_option maxRecDepth 100000 in
set_option maxHeartbeats 1000000 in
theorem do_l19 {c : Nat} {s : Cor.S} (a b d : Nat) (m : Int) (L : Nat) (w : World) (h : CS w c 36 s.R s.pc) (hs : Cor.Ok s) (ha : a < 16) (hb : b < 16) (hd : d < 16) (i1 : -2147483648 ≤ m) (i2 : m ≤ 2147483647) :
    Calls Try.prog 20 #[.pointer (some ⟨c, 0, none⟩), .agg #[.int .i64 19, .int .i64 (a : Nat), .int .i64 (b : Nat), .int .i64 (d : Nat), .int .i32 m], .int .u64 (L : Nat)] w fun e w' => DOut c (Cor.doing 19 a b d m L s) w e w' := by
  obtain ⟨R, pc, f⟩ := s
  obtain ⟨hR, hpc, hf⟩ := hs
  dsimp only at h hR hpc hf ⊢
  obtain ⟨W1, e1⟩ : ∃ W1, w.alloc (Obj.cells #[.int .i64 19, .int .i64 (a : Nat), .int .i64 (b : Nat), .int .i64 (d : Nat), .int .i32 m] 27) = W1 := ⟨_, rfl⟩
  obtain ⟨X, eX⟩ : ∃ X, w.heap.size = X := ⟨_, rfl⟩
  have hx1 : XS W1 X 19 a b d m := by rw [← e1, ← eX]; exact heap_alloc_new w _
  have hn1 : Nr [c] w W1 := by rw [← e1]; exact (Nr.refl _ _).alloc _
  have hc1 : CS W1 c 36 R pc := h.below (by rw [← e1]; exact below_alloc1 w _)
  have hcX : X ≠ c := by have := h.lt; omega
  have kx : ∀ p : Nearby W1, p.W.cell? ⟨X, 4, none⟩ = some (.int .i32 m) ∧ p.W.cell? ⟨c, 16, none⟩ = some (.int .u64 (pc : Nat)) := fun p => by
    obtain ⟨x0, x1, x2, x3, x4⟩ := (hx1.nr p.near (by simp)).cells
    exact ⟨x4, (hc1.nr p.near (by simp)).next⟩
  have k4 := fun p => (kx p).1
  have kp := fun p => (kx p).2
  have kw := hc1.next
  have hb' : (b : Int) < 16 := by omega
  have ha' : (a : Int) < 16 := by omega
  have hd' : (d : Int) < 16 := by omega
  have z1 : IntKind.i64.wrap m = m := IntWalk.i64_in _ (by omega)
  have z2 := Cor.ext_wrap m
  have z3 : IntKind.u64.wrap ((pc : Int) + 8) = (Cor.nxt pc : Nat) := by rw [wrap64]; unfold Cor.nxt; omega
  have z4 : IntKind.u64.wrap (8 * (Cor.ext m : Int)) = ((8 * Cor.ext m % 18446744073709551616 : Nat) : Int) := by rw [wrap64]; omega
  have z5 : IntKind.u64.wrap ((pc : Int) + ((8 * Cor.ext m % 18446744073709551616 : Nat) : Int)) = (Cor.far pc m : Nat) := by rw [wrap64]; unfold Cor.far; omega
  generalize hE : Cor.ext m = E at z2 z4 z5
  generalize 8 * E % 18446744073709551616 = E8 at z4 z5
  generalize hN : Cor.nxt pc = N at z3
  generalize hF : Cor.far pc m = F at z5
  have HG := Lib.hid (And.intro hE (And.intro hN hF))
  have HH := Lib.hid (And.intro hx1 (And.intro hn1 hc1))
  have HI := Lib.hid (And.intro hR (And.intro hpc hf))
  have HJ := Lib.hid (And.intro i1 i2)
  clear kx hR hpc h hx1 hn1 hc1 hf i1 i2 hE hN hF
  go_enter Try.func20, Try.ntmps20
  go_upto_region 2 with fail
  refine wp_region_near (by kernel_rfl) (by kernel_rfl) ?_
  repeat (quiet_step (fail))
  refine wpQuiet_nil ?_
  intro _ hw'
  obtain ⟨p, hw''⟩ := hw'
  subst hw''
  obtain ⟨W3, hp⟩ := p
  have HC := Lib.hid (HH.out.2.2.nr hp (by simp))
  have HX := Lib.hid (HH.out.1.nr hp (by simp))
  have HN := Lib.hid (HH.out.2.1.next hp)
  dsimp only
  clear HH kp hp z3 z4 z5 kw k4
  have k0 := HX.out.cells.1
  obtain ⟨W4, e4⟩ : ∃ W4, W3.drew = W4 := ⟨_, rfl⟩
  have hx4 : XS W4 X 19 a b d m := by rw [← e4]; exact HX.out
  have hc4 : CS W4 c 36 R pc := by rw [← e4]; exact HC.out
  have hn4 : Nr [c] w W4 := by rw [← e4]; exact HN.out.drew
  obtain ⟨x0, x1, x2, x3, x4⟩ := hx4.cells
  have ca := hc4.cell ha
  have cb := hc4.cell hb
  have kg := hc4.free a
  have hc5 := hc4.put ha (L)
  have hn5 := hn4.set (b := c) (.inl (by simp)) a (.int .u64 ((L : Nat) : Int))
  have kn5 := hc5.next
  have kf5 := hc5.free 16
  have HE := Lib.hid (And.intro (hc5.go N) (hn5.set (b := c) (.inl (by simp)) 16 (.int .u64 (N : Nat))))
  clear hc5 hn5 hc4 hx4 hn4
  go_upto_region 19 with fail
  refine wp_region_still_tail 7 (by kernel_rfl) (by kernel_rfl) ?_
  rw [show ({ W3 with drawn := W3.drawn + 1 } : World) = W4 from e4]
  simp only [List.take_succ_cons, List.take_zero, List.drop_succ_cons, List.drop_zero]
  clear e4
  repeat still_step
  refine wpStill_nil ?_
  go_wp2_with fail
  go_ret
  have e : Cor.doing 19 a b d m L ⟨R, pc, f⟩ = (⟨Cor.put R a L, N, f⟩, 0) := by rw [← HG.out.2.1]; rfl
  rw [e]
  exact ⟨rfl, HE.out⟩
set_option maxRecDepth 100000 in
set_option maxHeartbeats 1000000 in
theorem do_l20 {c : Nat} {s : Cor.S} (a b d : Nat) (m : Int) (L : Nat) (w : World) (h : CS w c 36 s.R s.pc) (hs : Cor.Ok s) (ha : a < 16) (hb : b < 16) (hd : d < 16) (i1 : -2147483648 ≤ m) (i2 : m ≤ 2147483647) :
    Calls Try.prog 20 #[.pointer (some ⟨c, 0, none⟩), .agg #[.int .i64 20, .int .i64 (a : Nat), .int .i64 (b : Nat), .int .i64 (d : Nat), .int .i32 m], .int .u64 (L : Nat)] w fun e w' => DOut c (Cor.doing 20 a b d m L s) w e w' := by
  obtain ⟨R, pc, f⟩ := s
  obtain ⟨hR, hpc, hf⟩ := hs
  dsimp only at h hR hpc hf ⊢
  obtain ⟨W1, e1⟩ : ∃ W1, w.alloc (Obj.cells #[.int .i64 20, .int .i64 (a : Nat), .int .i64 (b : Nat), .int .i64 (d : Nat), .int .i32 m] 27) = W1 := ⟨_, rfl⟩
  obtain ⟨X, eX⟩ : ∃ X, w.heap.size = X := ⟨_, rfl⟩
  have hx1 : XS W1 X 20 a b d m := by rw [← e1, ← eX]; exact heap_alloc_new w _
  have hn1 : Nr [c] w W1 := by rw [← e1]; exact (Nr.refl _ _).alloc _
  have hc1 : CS W1 c 36 R pc := h.below (by rw [← e1]; exact below_alloc1 w _)
  have hcX : X ≠ c := by have := h.lt; omega
  have kx : ∀ p : Nearby W1, p.W.cell? ⟨X, 4, none⟩ = some (.int .i32 m) ∧ p.W.cell? ⟨c, 16, none⟩ = some (.int .u64 (pc : Nat)) := fun p => by
    obtain ⟨x0, x1, x2, x3, x4⟩ := (hx1.nr p.near (by simp)).cells
    exact ⟨x4, (hc1.nr p.near (by simp)).next⟩
  have k4 := fun p => (kx p).1
  have kp := fun p => (kx p).2
  have kw := hc1.next
  have hb' : (b : Int) < 16 := by omega
  have ha' : (a : Int) < 16 := by omega
  have hd' : (d : Int) < 16 := by omega
  have z1 : IntKind.i64.wrap m = m := IntWalk.i64_in _ (by omega)
  have z2 := Cor.ext_wrap m
  have z3 : IntKind.u64.wrap ((pc : Int) + 8) = (Cor.nxt pc : Nat) := by rw [wrap64]; unfold Cor.nxt; omega
  have z4 : IntKind.u64.wrap (8 * (Cor.ext m : Int)) = ((8 * Cor.ext m % 18446744073709551616 : Nat) : Int) := by rw [wrap64]; omega
  have z5 : IntKind.u64.wrap ((pc : Int) + ((8 * Cor.ext m % 18446744073709551616 : Nat) : Int)) = (Cor.far pc m : Nat) := by rw [wrap64]; unfold Cor.far; omega
  generalize hE : Cor.ext m = E at z2 z4 z5
  generalize 8 * E % 18446744073709551616 = E8 at z4 z5
  generalize hN : Cor.nxt pc = N at z3
  generalize hF : Cor.far pc m = F at z5
  have HG := Lib.hid (And.intro hE (And.intro hN hF))
  have HH := Lib.hid (And.intro hx1 (And.intro hn1 hc1))
  have HI := Lib.hid (And.intro hR (And.intro hpc hf))
  have HJ := Lib.hid (And.intro i1 i2)
  clear kx hR hpc h hx1 hn1 hc1 hf i1 i2 hE hN hF
  go_enter Try.func20, Try.ntmps20
  go_upto_region 2 with fail
  refine wp_region_near (by kernel_rfl) (by kernel_rfl) ?_
  repeat (quiet_step (fail))
  refine wpQuiet_nil ?_
  intro _ hw'
  obtain ⟨p, hw''⟩ := hw'
  subst hw''
  obtain ⟨W3, hp⟩ := p
  have HC := Lib.hid (HH.out.2.2.nr hp (by simp))
  have HX := Lib.hid (HH.out.1.nr hp (by simp))
  have HN := Lib.hid (HH.out.2.1.next hp)
  dsimp only
  clear HH kp hp z3 z4 z5 kw k4
  have k0 := HX.out.cells.1
  obtain ⟨W4, e4⟩ : ∃ W4, W3.drew = W4 := ⟨_, rfl⟩
  have hx4 : XS W4 X 20 a b d m := by rw [← e4]; exact HX.out
  have hc4 : CS W4 c 36 R pc := by rw [← e4]; exact HC.out
  have hn4 : Nr [c] w W4 := by rw [← e4]; exact HN.out.drew
  obtain ⟨x0, x1, x2, x3, x4⟩ := hx4.cells
  have ca := hc4.cell ha
  have cb := hc4.cell hb
  have kg := hc4.free a
  have hc5 := hc4.put ha (L)
  have hn5 := hn4.set (b := c) (.inl (by simp)) a (.int .u64 ((L : Nat) : Int))
  have kn5 := hc5.next
  have kf5 := hc5.free 16
  have HE := Lib.hid (And.intro (hc5.go N) (hn5.set (b := c) (.inl (by simp)) 16 (.int .u64 (N : Nat))))
  clear hc5 hn5 hc4 hx4 hn4
  go_upto_region 19 with fail
  refine wp_region_still_tail 7 (by kernel_rfl) (by kernel_rfl) ?_
  rw [show ({ W3 with drawn := W3.drawn + 1 } : World) = W4 from e4]
  simp only [List.take_succ_cons, List.take_zero, List.drop_succ_cons, List.drop_zero]
  clear e4
  repeat still_step
  refine wpStill_nil ?_
  go_wp2_with fail
  go_ret
  have e : Cor.doing 20 a b d m L ⟨R, pc, f⟩ = (⟨Cor.put R a L, N, f⟩, 0) := by rw [← HG.out.2.1]; rfl
  rw [e]
  exact ⟨rfl, HE.out⟩
set_option maxRecDepth 100000 in
set_option maxHeartbeats 1000000 in
theorem do_l21 {c : Nat} {s : Cor.S} (a b d : Nat) (m : Int) (L : Nat) (w : World) (h : CS w c 36 s.R s.pc) (hs : Cor.Ok s) (ha : a < 16) (hb : b < 16) (hd : d < 16) (i1 : -2147483648 ≤ m) (i2 : m ≤ 2147483647) :
    Calls Try.prog 20 #[.pointer (some ⟨c, 0, none⟩), .agg #[.int .i64 21, .int .i64 (a : Nat), .int .i64 (b : Nat), .int .i64 (d : Nat), .int .i32 m], .int .u64 (L : Nat)] w fun e w' => DOut c (Cor.doing 21 a b d m L s) w e w' := by
  obtain ⟨R, pc, f⟩ := s
  obtain ⟨hR, hpc, hf⟩ := hs
  dsimp only at h hR hpc hf ⊢
  obtain ⟨W1, e1⟩ : ∃ W1, w.alloc (Obj.cells #[.int .i64 21, .int .i64 (a : Nat), .int .i64 (b : Nat), .int .i64 (d : Nat), .int .i32 m] 27) = W1 := ⟨_, rfl⟩
  obtain ⟨X, eX⟩ : ∃ X, w.heap.size = X := ⟨_, rfl⟩
  have hx1 : XS W1 X 21 a b d m := by rw [← e1, ← eX]; exact heap_alloc_new w _
  have hn1 : Nr [c] w W1 := by rw [← e1]; exact (Nr.refl _ _).alloc _
  have hc1 : CS W1 c 36 R pc := h.below (by rw [← e1]; exact below_alloc1 w _)
  have hcX : X ≠ c := by have := h.lt; omega
  have kx : ∀ p : Nearby W1, p.W.cell? ⟨X, 4, none⟩ = some (.int .i32 m) ∧ p.W.cell? ⟨c, 16, none⟩ = some (.int .u64 (pc : Nat)) := fun p => by
    obtain ⟨x0, x1, x2, x3, x4⟩ := (hx1.nr p.near (by simp)).cells
    exact ⟨x4, (hc1.nr p.near (by simp)).next⟩
  have k4 := fun p => (kx p).1
  have kp := fun p => (kx p).2
  have kw := hc1.next
  have hb' : (b : Int) < 16 := by omega
  have ha' : (a : Int) < 16 := by omega
  have hd' : (d : Int) < 16 := by omega
  have z1 : IntKind.i64.wrap m = m := IntWalk.i64_in _ (by omega)
  have z2 := Cor.ext_wrap m
  have z3 : IntKind.u64.wrap ((pc : Int) + 8) = (Cor.nxt pc : Nat) := by rw [wrap64]; unfold Cor.nxt; omega
  have z4 : IntKind.u64.wrap (8 * (Cor.ext m : Int)) = ((8 * Cor.ext m % 18446744073709551616 : Nat) : Int) := by rw [wrap64]; omega
  have z5 : IntKind.u64.wrap ((pc : Int) + ((8 * Cor.ext m % 18446744073709551616 : Nat) : Int)) = (Cor.far pc m : Nat) := by rw [wrap64]; unfold Cor.far; omega
  generalize hE : Cor.ext m = E at z2 z4 z5
  generalize 8 * E % 18446744073709551616 = E8 at z4 z5
  generalize hN : Cor.nxt pc = N at z3
  generalize hF : Cor.far pc m = F at z5
  have HG := Lib.hid (And.intro hE (And.intro hN hF))
  have HH := Lib.hid (And.intro hx1 (And.intro hn1 hc1))
  have HI := Lib.hid (And.intro hR (And.intro hpc hf))
  have HJ := Lib.hid (And.intro i1 i2)
  clear kx hR hpc h hx1 hn1 hc1 hf i1 i2 hE hN hF
  go_enter Try.func20, Try.ntmps20
  go_upto_region 2 with fail
  refine wp_region_near (by kernel_rfl) (by kernel_rfl) ?_
  repeat (quiet_step (fail))
  refine wpQuiet_nil ?_
  intro _ hw'
  obtain ⟨p, hw''⟩ := hw'
  subst hw''
  obtain ⟨W3, hp⟩ := p
  have HC := Lib.hid (HH.out.2.2.nr hp (by simp))
  have HX := Lib.hid (HH.out.1.nr hp (by simp))
  have HN := Lib.hid (HH.out.2.1.next hp)
  dsimp only
  clear HH kp hp z3 z4 z5 kw k4
  have k0 := HX.out.cells.1
  obtain ⟨W4, e4⟩ : ∃ W4, W3.drew = W4 := ⟨_, rfl⟩
  have hx4 : XS W4 X 21 a b d m := by rw [← e4]; exact HX.out
  have hc4 : CS W4 c 36 R pc := by rw [← e4]; exact HC.out
  have hn4 : Nr [c] w W4 := by rw [← e4]; exact HN.out.drew
  obtain ⟨x0, x1, x2, x3, x4⟩ := hx4.cells
  have ca := hc4.cell ha
  have cb := hc4.cell hb
  have kg := hc4.free a
  have hc5 := hc4.put ha (L)
  have hn5 := hn4.set (b := c) (.inl (by simp)) a (.int .u64 ((L : Nat) : Int))
  have kn5 := hc5.next
  have kf5 := hc5.free 16
  have HE := Lib.hid (And.intro (hc5.go N) (hn5.set (b := c) (.inl (by simp)) 16 (.int .u64 (N : Nat))))
  clear hc5 hn5 hc4 hx4 hn4
  go_upto_region 19 with fail
  refine wp_region_still_tail 7 (by kernel_rfl) (by kernel_rfl) ?_
  rw [show ({ W3 with drawn := W3.drawn + 1 } : World) = W4 from e4]
  simp only [List.take_succ_cons, List.take_zero, List.drop_succ_cons, List.drop_zero]
  clear e4
  repeat still_step
  refine wpStill_nil ?_
  go_wp2_with fail
  go_ret
  have e : Cor.doing 21 a b d m L ⟨R, pc, f⟩ = (⟨Cor.put R a L, N, f⟩, 0) := by rw [← HG.out.2.1]; rfl
  rw [e]
  exact ⟨rfl, HE.out⟩
set_option maxRecDepth 100000 in
set_option maxHeartbeats 1000000 in
theorem do_s22 {c : Nat} {s : Cor.S} (a b d : Nat) (m : Int) (L : Nat) (w : World) (h : CS w c 36 s.R s.pc) (hs : Cor.Ok s) (ha : a < 16) (hb : b < 16) (hd : d < 16) (i1 : -2147483648 ≤ m) (i2 : m ≤ 2147483647) :
    Calls Try.prog 20 #[.pointer (some ⟨c, 0, none⟩), .agg #[.int .i64 22, .int .i64 (a : Nat), .int .i64 (b : Nat), .int .i64 (d : Nat), .int .i32 m], .int .u64 (L : Nat)] w fun e w' => DOut c (Cor.doing 22 a b d m L s) w e w' := by
  obtain ⟨R, pc, f⟩ := s
  obtain ⟨hR, hpc, hf⟩ := hs
  dsimp only at h hR hpc hf ⊢
  obtain ⟨W1, e1⟩ : ∃ W1, w.alloc (Obj.cells #[.int .i64 22, .int .i64 (a : Nat), .int .i64 (b : Nat), .int .i64 (d : Nat), .int .i32 m] 27) = W1 := ⟨_, rfl⟩
  obtain ⟨X, eX⟩ : ∃ X, w.heap.size = X := ⟨_, rfl⟩
  have hx1 : XS W1 X 22 a b d m := by rw [← e1, ← eX]; exact heap_alloc_new w _
  have hn1 : Nr [c] w W1 := by rw [← e1]; exact (Nr.refl _ _).alloc _
  have hc1 : CS W1 c 36 R pc := h.below (by rw [← e1]; exact below_alloc1 w _)
  have hcX : X ≠ c := by have := h.lt; omega
  have kx : ∀ p : Nearby W1, p.W.cell? ⟨X, 4, none⟩ = some (.int .i32 m) ∧ p.W.cell? ⟨c, 16, none⟩ = some (.int .u64 (pc : Nat)) := fun p => by
    obtain ⟨x0, x1, x2, x3, x4⟩ := (hx1.nr p.near (by simp)).cells
    exact ⟨x4, (hc1.nr p.near (by simp)).next⟩
  have k4 := fun p => (kx p).1
  have kp := fun p => (kx p).2
  have kw := hc1.next
  have hb' : (b : Int) < 16 := by omega
  have ha' : (a : Int) < 16 := by omega
  have hd' : (d : Int) < 16 := by omega
  have z1 : IntKind.i64.wrap m = m := IntWalk.i64_in _ (by omega)
  have z2 := Cor.ext_wrap m
  have z3 : IntKind.u64.wrap ((pc : Int) + 8) = (Cor.nxt pc : Nat) := by rw [wrap64]; unfold Cor.nxt; omega
  have z4 : IntKind.u64.wrap (8 * (Cor.ext m : Int)) = ((8 * Cor.ext m % 18446744073709551616 : Nat) : Int) := by rw [wrap64]; omega
  have z5 : IntKind.u64.wrap ((pc : Int) + ((8 * Cor.ext m % 18446744073709551616 : Nat) : Int)) = (Cor.far pc m : Nat) := by rw [wrap64]; unfold Cor.far; omega
  generalize hE : Cor.ext m = E at z2 z4 z5
  generalize 8 * E % 18446744073709551616 = E8 at z4 z5
  generalize hN : Cor.nxt pc = N at z3
  generalize hF : Cor.far pc m = F at z5
  have HG := Lib.hid (And.intro hE (And.intro hN hF))
  have HH := Lib.hid (And.intro hx1 (And.intro hn1 hc1))
  have HI := Lib.hid (And.intro hR (And.intro hpc hf))
  have HJ := Lib.hid (And.intro i1 i2)
  clear kx hR hpc h hx1 hn1 hc1 hf i1 i2 hE hN hF
  go_enter Try.func20, Try.ntmps20
  go_upto_region 2 with fail
  refine wp_region_near (by kernel_rfl) (by kernel_rfl) ?_
  repeat (quiet_step (fail))
  refine wpQuiet_nil ?_
  intro _ hw'
  obtain ⟨p, hw''⟩ := hw'
  subst hw''
  obtain ⟨W3, hp⟩ := p
  have HC := Lib.hid (HH.out.2.2.nr hp (by simp))
  have HX := Lib.hid (HH.out.1.nr hp (by simp))
  have HN := Lib.hid (HH.out.2.1.next hp)
  dsimp only
  clear HH kp hp z3 z4 z5 kw k4
  have k0 := HX.out.cells.1
  have kn := HC.out.next
  have kf := HC.out.free 16
  have HE := Lib.hid (And.intro (HC.out.go N) (HN.out.set (b := c) (.inl (by simp)) 16 (.int .u64 (N : Nat))))
  go_wp2_with fail
  go_ret
  have e : Cor.doing 22 a b d m L ⟨R, pc, f⟩ = (⟨R, N, f⟩, 0) := by rw [← HG.out.2.1]; rfl
  rw [e]
  exact ⟨rfl, HE.out⟩
set_option maxRecDepth 100000 in
set_option maxHeartbeats 1000000 in
theorem do_s23 {c : Nat} {s : Cor.S} (a b d : Nat) (m : Int) (L : Nat) (w : World) (h : CS w c 36 s.R s.pc) (hs : Cor.Ok s) (ha : a < 16) (hb : b < 16) (hd : d < 16) (i1 : -2147483648 ≤ m) (i2 : m ≤ 2147483647) :
    Calls Try.prog 20 #[.pointer (some ⟨c, 0, none⟩), .agg #[.int .i64 23, .int .i64 (a : Nat), .int .i64 (b : Nat), .int .i64 (d : Nat), .int .i32 m], .int .u64 (L : Nat)] w fun e w' => DOut c (Cor.doing 23 a b d m L s) w e w' := by
  obtain ⟨R, pc, f⟩ := s
  obtain ⟨hR, hpc, hf⟩ := hs
  dsimp only at h hR hpc hf ⊢
  obtain ⟨W1, e1⟩ : ∃ W1, w.alloc (Obj.cells #[.int .i64 23, .int .i64 (a : Nat), .int .i64 (b : Nat), .int .i64 (d : Nat), .int .i32 m] 27) = W1 := ⟨_, rfl⟩
  obtain ⟨X, eX⟩ : ∃ X, w.heap.size = X := ⟨_, rfl⟩
  have hx1 : XS W1 X 23 a b d m := by rw [← e1, ← eX]; exact heap_alloc_new w _
  have hn1 : Nr [c] w W1 := by rw [← e1]; exact (Nr.refl _ _).alloc _
  have hc1 : CS W1 c 36 R pc := h.below (by rw [← e1]; exact below_alloc1 w _)
  have hcX : X ≠ c := by have := h.lt; omega
  have kx : ∀ p : Nearby W1, p.W.cell? ⟨X, 4, none⟩ = some (.int .i32 m) ∧ p.W.cell? ⟨c, 16, none⟩ = some (.int .u64 (pc : Nat)) := fun p => by
    obtain ⟨x0, x1, x2, x3, x4⟩ := (hx1.nr p.near (by simp)).cells
    exact ⟨x4, (hc1.nr p.near (by simp)).next⟩
  have k4 := fun p => (kx p).1
  have kp := fun p => (kx p).2
  have kw := hc1.next
  have hb' : (b : Int) < 16 := by omega
  have ha' : (a : Int) < 16 := by omega
  have hd' : (d : Int) < 16 := by omega
  have z1 : IntKind.i64.wrap m = m := IntWalk.i64_in _ (by omega)
  have z2 := Cor.ext_wrap m
  have z3 : IntKind.u64.wrap ((pc : Int) + 8) = (Cor.nxt pc : Nat) := by rw [wrap64]; unfold Cor.nxt; omega
  have z4 : IntKind.u64.wrap (8 * (Cor.ext m : Int)) = ((8 * Cor.ext m % 18446744073709551616 : Nat) : Int) := by rw [wrap64]; omega
  have z5 : IntKind.u64.wrap ((pc : Int) + ((8 * Cor.ext m % 18446744073709551616 : Nat) : Int)) = (Cor.far pc m : Nat) := by rw [wrap64]; unfold Cor.far; omega
  generalize hE : Cor.ext m = E at z2 z4 z5
  generalize 8 * E % 18446744073709551616 = E8 at z4 z5
  generalize hN : Cor.nxt pc = N at z3
  generalize hF : Cor.far pc m = F at z5
  have HG := Lib.hid (And.intro hE (And.intro hN hF))
  have HH := Lib.hid (And.intro hx1 (And.intro hn1 hc1))
  have HI := Lib.hid (And.intro hR (And.intro hpc hf))
  have HJ := Lib.hid (And.intro i1 i2)
  clear kx hR hpc h hx1 hn1 hc1 hf i1 i2 hE hN hF
  go_enter Try.func20, Try.ntmps20
  go_upto_region 2 with fail
  refine wp_region_near (by kernel_rfl) (by kernel_rfl) ?_
  repeat (quiet_step (fail))
  refine wpQuiet_nil ?_
  intro _ hw'
  obtain ⟨p, hw''⟩ := hw'
  subst hw''
  obtain ⟨W3, hp⟩ := p
  have HC := Lib.hid (HH.out.2.2.nr hp (by simp))
  have HX := Lib.hid (HH.out.1.nr hp (by simp))
  have HN := Lib.hid (HH.out.2.1.next hp)
  dsimp only
  clear HH kp hp z3 z4 z5 kw k4
  have k0 := HX.out.cells.1
  have kn := HC.out.next
  have kf := HC.out.free 16
  have HE := Lib.hid (And.intro (HC.out.go N) (HN.out.set (b := c) (.inl (by simp)) 16 (.int .u64 (N : Nat))))
  go_wp2_with fail
  go_ret
  have e : Cor.doing 23 a b d m L ⟨R, pc, f⟩ = (⟨R, N, f⟩, 0) := by rw [← HG.out.2.1]; rfl
  rw [e]
  exact ⟨rfl, HE.out⟩
set_option maxRecDepth 100000 in
set_option maxHeartbeats 1000000 in
theorem do_s24 {c : Nat} {s : Cor.S} (a b d : Nat) (m : Int) (L : Nat) (w : World) (h : CS w c 36 s.R s.pc) (hs : Cor.Ok s) (ha : a < 16) (hb : b < 16) (hd : d < 16) (i1 : -2147483648 ≤ m) (i2 : m ≤ 2147483647) :
    Calls Try.prog 20 #[.pointer (some ⟨c, 0, none⟩), .agg #[.int .i64 24, .int .i64 (a : Nat), .int .i64 (b : Nat), .int .i64 (d : Nat), .int .i32 m], .int .u64 (L : Nat)] w fun e w' => DOut c (Cor.doing 24 a b d m L s) w e w' := by
  obtain ⟨R, pc, f⟩ := s
  obtain ⟨hR, hpc, hf⟩ := hs
  dsimp only at h hR hpc hf ⊢
  obtain ⟨W1, e1⟩ : ∃ W1, w.alloc (Obj.cells #[.int .i64 24, .int .i64 (a : Nat), .int .i64 (b : Nat), .int .i64 (d : Nat), .int .i32 m] 27) = W1 := ⟨_, rfl⟩
  obtain ⟨X, eX⟩ : ∃ X, w.heap.size = X := ⟨_, rfl⟩
  have hx1 : XS W1 X 24 a b d m := by rw [← e1, ← eX]; exact heap_alloc_new w _
  have hn1 : Nr [c] w W1 := by rw [← e1]; exact (Nr.refl _ _).alloc _
  have hc1 : CS W1 c 36 R pc := h.below (by rw [← e1]; exact below_alloc1 w _)
  have hcX : X ≠ c := by have := h.lt; omega
  have kx : ∀ p : Nearby W1, p.W.cell? ⟨X, 4, none⟩ = some (.int .i32 m) ∧ p.W.cell? ⟨c, 16, none⟩ = some (.int .u64 (pc : Nat)) := fun p => by
    obtain ⟨x0, x1, x2, x3, x4⟩ := (hx1.nr p.near (by simp)).cells
    exact ⟨x4, (hc1.nr p.near (by simp)).next⟩
  have k4 := fun p => (kx p).1
  have kp := fun p => (kx p).2
  have kw := hc1.next
  have hb' : (b : Int) < 16 := by omega
  have ha' : (a : Int) < 16 := by omega
  have hd' : (d : Int) < 16 := by omega
  have z1 : IntKind.i64.wrap m = m := IntWalk.i64_in _ (by omega)
  have z2 := Cor.ext_wrap m
  have z3 : IntKind.u64.wrap ((pc : Int) + 8) = (Cor.nxt pc : Nat) := by rw [wrap64]; unfold Cor.nxt; omega
  have z4 : IntKind.u64.wrap (8 * (Cor.ext m : Int)) = ((8 * Cor.ext m % 18446744073709551616 : Nat) : Int) := by rw [wrap64]; omega
  have z5 : IntKind.u64.wrap ((pc : Int) + ((8 * Cor.ext m % 18446744073709551616 : Nat) : Int)) = (Cor.far pc m : Nat) := by rw [wrap64]; unfold Cor.far; omega
  generalize hE : Cor.ext m = E at z2 z4 z5
  generalize 8 * E % 18446744073709551616 = E8 at z4 z5
  generalize hN : Cor.nxt pc = N at z3
  generalize hF : Cor.far pc m = F at z5
  have HG := Lib.hid (And.intro hE (And.intro hN hF))
  have HH := Lib.hid (And.intro hx1 (And.intro hn1 hc1))
  have HI := Lib.hid (And.intro hR (And.intro hpc hf))
  have HJ := Lib.hid (And.intro i1 i2)
  clear kx hR hpc h hx1 hn1 hc1 hf i1 i2 hE hN hF
  go_enter Try.func20, Try.ntmps20
  go_upto_region 2 with fail
  refine wp_region_near (by kernel_rfl) (by kernel_rfl) ?_
  repeat (quiet_step (fail))
  refine wpQuiet_nil ?_
  intro _ hw'
  obtain ⟨p, hw''⟩ := hw'
  subst hw''
  obtain ⟨W3, hp⟩ := p
  have HC := Lib.hid (HH.out.2.2.nr hp (by simp))
  have HX := Lib.hid (HH.out.1.nr hp (by simp))
  have HN := Lib.hid (HH.out.2.1.next hp)
  dsimp only
  clear HH kp hp z3 z4 z5 kw k4
  have k0 := HX.out.cells.1
  have kn := HC.out.next
  have kf := HC.out.free 16
  have HE := Lib.hid (And.intro (HC.out.go N) (HN.out.set (b := c) (.inl (by simp)) 16 (.int .u64 (N : Nat))))
  go_wp2_with fail
  go_ret
  have e : Cor.doing 24 a b d m L ⟨R, pc, f⟩ = (⟨R, N, f⟩, 0) := by rw [← HG.out.2.1]; rfl
  rw [e]
  exact ⟨rfl, HE.out⟩
end Go.Proofs.Ytojnokaeopadfaa
