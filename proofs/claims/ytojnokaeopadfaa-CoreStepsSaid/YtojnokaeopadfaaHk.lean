/- A core executes loads and stores. Written by genHi.py. -/
import Derived.Test.YtojnokaeopadfaaHi
set_option linter.unusedVariables false
set_option linter.unusedSimpArgs false
namespace Cor
/-- What a load or a store ends with. -/
theorem move_end (n : Nat) (hole : Int) (op : Int) (a b : Nat) (m : Int) (s : S) : ((move n hole op a b m s).2 = 0 ∧ (move n hole op a b m s).1.pc = nxt s.pc) ∨ (((move n hole op a b m s).2 = 3 ∨ (move n hole op a b m s).2 = 6) ∧ (move n hole op a b m s).1 = s) := by
  unfold move
  split
  · exact .inr ⟨.inr rfl, rfl⟩
  split
  · exact .inr ⟨.inl rfl, rfl⟩
  split
  · exact .inl ⟨rfl, rfl⟩
  · exact .inl ⟨rfl, rfl⟩
end Cor
namespace Go.Proofs.Ytojnokaeopadfaa
open Go.RowKit

set_option maxRecDepth 100000 in
set_option maxHeartbeats 1000000 in
theorem ex_m19 {c g y n : Nat} {hole : Int} {s : Cor.S} (a b d : Nat) (m : Int) (w : World) (h : CS w c 35 s.R s.pc) (hm : MS w g y n hole s.f) (hs : Cor.Ok s) (hcg : c ≠ g) (hcy : c ≠ y) (ha : a < 16) (hb : b < 16) (hd : d < 16) (i1 : -2147483648 ≤ m) (i2 : m ≤ 2147483647) :
    Calls Try.prog 14 #[.pointer (some ⟨c, 0, none⟩), .agg #[.int .i64 19, .int .i64 (a : Nat), .int .i64 (b : Nat), .int .i64 (d : Nat), .int .i32 m], IV g] w fun e w' => EO 35 c g y n hole (Cor.exec n hole 19 a b d m s) w e w' := by
  obtain ⟨R, pc, f⟩ := s
  obtain ⟨hR, hpc, hf⟩ := hs
  dsimp only at h hm hR hpc hf ⊢
  obtain ⟨W1, e1⟩ : ∃ W1, w.alloc (Obj.cells #[.int .i64 19, .int .i64 (a : Nat), .int .i64 (b : Nat), .int .i64 (d : Nat), .int .i32 m] 27) = W1 := ⟨_, rfl⟩
  obtain ⟨X, eX⟩ : ∃ X, w.heap.size = X := ⟨_, rfl⟩
  have hx1 : XS W1 X 19 a b d m := by rw [← e1, ← eX]; exact heap_alloc_new w _
  have hn1 : Nr [c, y] w W1 := by rw [← e1]; exact (Nr.refl _ _).alloc _
  have hc1 : CS W1 c 35 R pc := h.below (by rw [← e1]; exact below_alloc1 w _)
  have hm1 : MS W1 g y n hole f := hm.below (by rw [← e1]; exact below_alloc1 w _)
  have hcX : X ≠ c := by have := h.lt; omega
  have kx : ∀ p : Nearby W1, p.W.cell? ⟨X, 1, none⟩ = some (.int .i64 (a : Nat)) ∧ p.W.cell? ⟨X, 2, none⟩ = some (.int .i64 (b : Nat)) ∧ p.W.cell? ⟨X, 4, none⟩ = some (.int .i32 m) ∧ p.W.cell? ⟨c, 16, none⟩ = some (.int .u64 (pc : Nat)) ∧ p.W.cell? ⟨c, b, none⟩ = some (.int .u64 (R b : Nat)) := fun p => by
    obtain ⟨x0, x1, x2, x3, x4⟩ := (hx1.nr p.near (by simp)).cells
    exact ⟨x1, x2, x4, (hc1.nr p.near (by simp)).next, (hc1.nr p.near (by simp)).cell hb⟩
  have k1 := fun p => (kx p).1
  have k2 := fun p => (kx p).2.1
  have k4 := fun p => (kx p).2.2.1
  have kp := fun p => (kx p).2.2.2.1
  have kb := fun p => (kx p).2.2.2.2
  have hb' : (b : Int) < 16 := by omega
  have ha' : (a : Int) < 16 := by omega
  have z1 : IntKind.i64.wrap m = m := IntWalk.i64_in _ (by omega)
  have z2 := Cor.ext_wrap m
  have z3 : IntKind.u64.wrap ((pc : Int) + 8) = (Cor.nxt pc : Nat) := by rw [wrap64]; unfold Cor.nxt; omega
  have z4 : IntKind.u64.wrap (8 * (Cor.ext m : Int)) = ((8 * Cor.ext m % 18446744073709551616 : Nat) : Int) := by rw [wrap64]; omega
  have z5 : IntKind.u64.wrap ((pc : Int) + ((8 * Cor.ext m % 18446744073709551616 : Nat) : Int)) = (Cor.far pc m : Nat) := by rw [wrap64]; unfold Cor.far; omega
  generalize hE : Cor.ext m = E at z2 z4 z5
  generalize 8 * E % 18446744073709551616 = E8 at z4 z5
  generalize hN : Cor.nxt pc = N at z3
  generalize hF : Cor.far pc m = F at z5
  have HG := Lib.hid (And.intro hE (And.intro hN hF))
  have HH := Lib.hid (And.intro hx1 (And.intro hn1 (And.intro hc1 hm1)))
  have HI := Lib.hid (And.intro hR (And.intro hpc hf))
  have HJ := Lib.hid (And.intro i1 i2)
  clear kx hR hpc h hx1 hn1 hc1 hf hm hm1 i1 i2 hE hN hF
  unfold IV
  have he : Cor.exec n hole 19 a b d m ⟨R, pc, f⟩ = Cor.move n hole 19 a b m ⟨R, pc, f⟩ := rfl
  have hend := Cor.move_end n hole 19 a b m ⟨R, pc, f⟩
  rw [he]
  obtain ⟨s2, r, hr⟩ : ∃ s2 r, Cor.move n hole 19 a b m ⟨R, pc, f⟩ = (s2, r) := ⟨_, _, rfl⟩
  rw [hr] at hend ⊢
  dsimp only at hend ⊢
  rw [HG.out.2.1] at hend
  have HD := Lib.hid hend
  have HR := Lib.hid hr
  clear he hr hend
  go_enter Try.func14, Try.ntmps14
  go_upto_region 1 with fail
  refine wp_region_near (by kernel_rfl) (by kernel_rfl) ?_
  repeat (quiet_step (fail))
  refine wpQuiet_nil ?_
  intro _ hw'
  obtain ⟨p, hw''⟩ := hw'
  subst hw''
  obtain ⟨W2, hp⟩ := p
  have hc2 := HH.out.2.2.1.nr hp (by simp)
  have hm2 := HH.out.2.2.2.nr hp (by simp) (by simp)
  have hx2 := HH.out.1.nr hp (by simp)
  have hn2 := HH.out.2.1.next hp
  dsimp only
  clear HH kb k1 k2 k4 kp hp e1
  have kp : ∀ p : Nearby W2, p.W.cell? ⟨c, 16, none⟩ = some (.int .u64 (pc : Nat)) := fun p => (hc2.nr p.near (by simp)).next
  have HH := Lib.hid (And.intro hx2 (And.intro hn2 (And.intro hc2 hm2)))
  clear hx2 hn2 hc2 hm2
  go_upto_region 2 with fail
  refine wp_region_near (by kernel_rfl) (by kernel_rfl) ?_
  repeat (quiet_step (fail))
  refine wpQuiet_nil ?_
  intro _ hw'
  obtain ⟨p, hw''⟩ := hw'
  subst hw''
  obtain ⟨W3, hp⟩ := p
  have HC := Lib.hid (HH.out.2.2.1.nr hp (by simp))
  have HM := Lib.hid (HH.out.2.2.2.nr hp (by simp) (by simp))
  have HX := Lib.hid (HH.out.1.nr hp (by simp))
  have HN := Lib.hid (HH.out.2.1.next hp)
  dsimp only
  clear HH kp hp z1 z2 z3 z4 z5
  have k0 := HX.out.cells.1
  have M := Lib.hid (move_core (s := ⟨R, pc, f⟩) 19 a b d m W3 HC.out HM.out ⟨HI.out.1, HI.out.2.1, HI.out.2.2⟩ hcg hcy ha hb (by decide) (by decide) HJ.out.1 HJ.out.2)
  rw [HR.out] at M
  dsimp only at M
  have x0 := HX.out
  unfold XS at x0
  have x1 := HX.out.cells
  obtain ⟨x1, x2, x3, x4, x5⟩ := x1
  unfold IV at M
  rcases HD.out with ⟨rfl, h2⟩ | ⟨h1, h2⟩
  · have H2 := Lib.hid h2
    clear h2
    go_wp2_with fail
    refine M.out.mono ?_; rintro e w5 ⟨rfl, h5, h6, h7⟩
    dsimp only at h5 h6
    have kn := h5.next
    have kf := h5.free 16
    have HE := Lib.hid (And.intro (h5.go N) (And.intro (h6.nr (Nr.of_turn (Turn.set w5 c 16 (.int .u64 (N : Nat)))) (by simpa using fun e => hcg e.symm) (by simpa using fun e => hcy e.symm)) ((HN.out.trans h7 (fun x hx => .inl hx)).set (b := c) (.inl (by simp)) 16 (.int .u64 (N : Nat)))))
    clear h5 h6 h7 M
    go_wp2_with fail
    go_ret
    refine ⟨rfl, ?_⟩
    dsimp only
    rw [H2.out]
    exact HE.out
  · subst h2
    rcases h1 with rfl | rfl
    · go_wp2_with fail
      refine M.out.mono ?_; rintro e w5 ⟨rfl, h5, h6, h7⟩
      have HE := Lib.hid (And.intro h5 (And.intro h6 (HN.out.trans h7 (fun x hx => .inl hx))))
      clear h5 h6 h7 M
      go_wp2_with fail
      go_ret
      exact ⟨rfl, HE.out⟩
    · go_wp2_with fail
      refine M.out.mono ?_; rintro e w5 ⟨rfl, h5, h6, h7⟩
      have HE := Lib.hid (And.intro h5 (And.intro h6 (HN.out.trans h7 (fun x hx => .inl hx))))
      clear h5 h6 h7 M
      go_wp2_with fail
      go_ret
      exact ⟨rfl, HE.out⟩
set_option maxRecDepth 100000 in
set_option maxHeartbeats 1000000 in
theorem ex_m20 {c g y n : Nat} {hole : Int} {s : Cor.S} (a b d : Nat) (m : Int) (w : World) (h : CS w c 35 s.R s.pc) (hm : MS w g y n hole s.f) (hs : Cor.Ok s) (hcg : c ≠ g) (hcy : c ≠ y) (ha : a < 16) (hb : b < 16) (hd : d < 16) (i1 : -2147483648 ≤ m) (i2 : m ≤ 2147483647) :
    Calls Try.prog 14 #[.pointer (some ⟨c, 0, none⟩), .agg #[.int .i64 20, .int .i64 (a : Nat), .int .i64 (b : Nat), .int .i64 (d : Nat), .int .i32 m], IV g] w fun e w' => EO 35 c g y n hole (Cor.exec n hole 20 a b d m s) w e w' := by
  obtain ⟨R, pc, f⟩ := s
  obtain ⟨hR, hpc, hf⟩ := hs
  dsimp only at h hm hR hpc hf ⊢
  obtain ⟨W1, e1⟩ : ∃ W1, w.alloc (Obj.cells #[.int .i64 20, .int .i64 (a : Nat), .int .i64 (b : Nat), .int .i64 (d : Nat), .int .i32 m] 27) = W1 := ⟨_, rfl⟩
  obtain ⟨X, eX⟩ : ∃ X, w.heap.size = X := ⟨_, rfl⟩
  have hx1 : XS W1 X 20 a b d m := by rw [← e1, ← eX]; exact heap_alloc_new w _
  have hn1 : Nr [c, y] w W1 := by rw [← e1]; exact (Nr.refl _ _).alloc _
  have hc1 : CS W1 c 35 R pc := h.below (by rw [← e1]; exact below_alloc1 w _)
  have hm1 : MS W1 g y n hole f := hm.below (by rw [← e1]; exact below_alloc1 w _)
  have hcX : X ≠ c := by have := h.lt; omega
  have kx : ∀ p : Nearby W1, p.W.cell? ⟨X, 1, none⟩ = some (.int .i64 (a : Nat)) ∧ p.W.cell? ⟨X, 2, none⟩ = some (.int .i64 (b : Nat)) ∧ p.W.cell? ⟨X, 4, none⟩ = some (.int .i32 m) ∧ p.W.cell? ⟨c, 16, none⟩ = some (.int .u64 (pc : Nat)) ∧ p.W.cell? ⟨c, b, none⟩ = some (.int .u64 (R b : Nat)) := fun p => by
    obtain ⟨x0, x1, x2, x3, x4⟩ := (hx1.nr p.near (by simp)).cells
    exact ⟨x1, x2, x4, (hc1.nr p.near (by simp)).next, (hc1.nr p.near (by simp)).cell hb⟩
  have k1 := fun p => (kx p).1
  have k2 := fun p => (kx p).2.1
  have k4 := fun p => (kx p).2.2.1
  have kp := fun p => (kx p).2.2.2.1
  have kb := fun p => (kx p).2.2.2.2
  have hb' : (b : Int) < 16 := by omega
  have ha' : (a : Int) < 16 := by omega
  have z1 : IntKind.i64.wrap m = m := IntWalk.i64_in _ (by omega)
  have z2 := Cor.ext_wrap m
  have z3 : IntKind.u64.wrap ((pc : Int) + 8) = (Cor.nxt pc : Nat) := by rw [wrap64]; unfold Cor.nxt; omega
  have z4 : IntKind.u64.wrap (8 * (Cor.ext m : Int)) = ((8 * Cor.ext m % 18446744073709551616 : Nat) : Int) := by rw [wrap64]; omega
  have z5 : IntKind.u64.wrap ((pc : Int) + ((8 * Cor.ext m % 18446744073709551616 : Nat) : Int)) = (Cor.far pc m : Nat) := by rw [wrap64]; unfold Cor.far; omega
  generalize hE : Cor.ext m = E at z2 z4 z5
  generalize 8 * E % 18446744073709551616 = E8 at z4 z5
  generalize hN : Cor.nxt pc = N at z3
  generalize hF : Cor.far pc m = F at z5
  have HG := Lib.hid (And.intro hE (And.intro hN hF))
  have HH := Lib.hid (And.intro hx1 (And.intro hn1 (And.intro hc1 hm1)))
  have HI := Lib.hid (And.intro hR (And.intro hpc hf))
  have HJ := Lib.hid (And.intro i1 i2)
  clear kx hR hpc h hx1 hn1 hc1 hf hm hm1 i1 i2 hE hN hF
  unfold IV
  have he : Cor.exec n hole 20 a b d m ⟨R, pc, f⟩ = Cor.move n hole 20 a b m ⟨R, pc, f⟩ := rfl
  have hend := Cor.move_end n hole 20 a b m ⟨R, pc, f⟩
  rw [he]
  obtain ⟨s2, r, hr⟩ : ∃ s2 r, Cor.move n hole 20 a b m ⟨R, pc, f⟩ = (s2, r) := ⟨_, _, rfl⟩
  rw [hr] at hend ⊢
  dsimp only at hend ⊢
  rw [HG.out.2.1] at hend
  have HD := Lib.hid hend
  have HR := Lib.hid hr
  clear he hr hend
  go_enter Try.func14, Try.ntmps14
  go_upto_region 1 with fail
  refine wp_region_near (by kernel_rfl) (by kernel_rfl) ?_
  repeat (quiet_step (fail))
  refine wpQuiet_nil ?_
  intro _ hw'
  obtain ⟨p, hw''⟩ := hw'
  subst hw''
  obtain ⟨W2, hp⟩ := p
  have hc2 := HH.out.2.2.1.nr hp (by simp)
  have hm2 := HH.out.2.2.2.nr hp (by simp) (by simp)
  have hx2 := HH.out.1.nr hp (by simp)
  have hn2 := HH.out.2.1.next hp
  dsimp only
  clear HH kb k1 k2 k4 kp hp e1
  have kp : ∀ p : Nearby W2, p.W.cell? ⟨c, 16, none⟩ = some (.int .u64 (pc : Nat)) := fun p => (hc2.nr p.near (by simp)).next
  have HH := Lib.hid (And.intro hx2 (And.intro hn2 (And.intro hc2 hm2)))
  clear hx2 hn2 hc2 hm2
  go_upto_region 2 with fail
  refine wp_region_near (by kernel_rfl) (by kernel_rfl) ?_
  repeat (quiet_step (fail))
  refine wpQuiet_nil ?_
  intro _ hw'
  obtain ⟨p, hw''⟩ := hw'
  subst hw''
  obtain ⟨W3, hp⟩ := p
  have HC := Lib.hid (HH.out.2.2.1.nr hp (by simp))
  have HM := Lib.hid (HH.out.2.2.2.nr hp (by simp) (by simp))
  have HX := Lib.hid (HH.out.1.nr hp (by simp))
  have HN := Lib.hid (HH.out.2.1.next hp)
  dsimp only
  clear HH kp hp z1 z2 z3 z4 z5
  have k0 := HX.out.cells.1
  have M := Lib.hid (move_core (s := ⟨R, pc, f⟩) 20 a b d m W3 HC.out HM.out ⟨HI.out.1, HI.out.2.1, HI.out.2.2⟩ hcg hcy ha hb (by decide) (by decide) HJ.out.1 HJ.out.2)
  rw [HR.out] at M
  dsimp only at M
  have x0 := HX.out
  unfold XS at x0
  have x1 := HX.out.cells
  obtain ⟨x1, x2, x3, x4, x5⟩ := x1
  unfold IV at M
  rcases HD.out with ⟨rfl, h2⟩ | ⟨h1, h2⟩
  · have H2 := Lib.hid h2
    clear h2
    go_wp2_with fail
    refine M.out.mono ?_; rintro e w5 ⟨rfl, h5, h6, h7⟩
    dsimp only at h5 h6
    have kn := h5.next
    have kf := h5.free 16
    have HE := Lib.hid (And.intro (h5.go N) (And.intro (h6.nr (Nr.of_turn (Turn.set w5 c 16 (.int .u64 (N : Nat)))) (by simpa using fun e => hcg e.symm) (by simpa using fun e => hcy e.symm)) ((HN.out.trans h7 (fun x hx => .inl hx)).set (b := c) (.inl (by simp)) 16 (.int .u64 (N : Nat)))))
    clear h5 h6 h7 M
    go_wp2_with fail
    go_ret
    refine ⟨rfl, ?_⟩
    dsimp only
    rw [H2.out]
    exact HE.out
  · subst h2
    rcases h1 with rfl | rfl
    · go_wp2_with fail
      refine M.out.mono ?_; rintro e w5 ⟨rfl, h5, h6, h7⟩
      have HE := Lib.hid (And.intro h5 (And.intro h6 (HN.out.trans h7 (fun x hx => .inl hx))))
      clear h5 h6 h7 M
      go_wp2_with fail
      go_ret
      exact ⟨rfl, HE.out⟩
    · go_wp2_with fail
      refine M.out.mono ?_; rintro e w5 ⟨rfl, h5, h6, h7⟩
      have HE := Lib.hid (And.intro h5 (And.intro h6 (HN.out.trans h7 (fun x hx => .inl hx))))
      clear h5 h6 h7 M
      go_wp2_with fail
      go_ret
      exact ⟨rfl, HE.out⟩
set_option maxRecDepth 100000 in
set_option maxHeartbeats 1000000 in
theorem ex_m21 {c g y n : Nat} {hole : Int} {s : Cor.S} (a b d : Nat) (m : Int) (w : World) (h : CS w c 35 s.R s.pc) (hm : MS w g y n hole s.f) (hs : Cor.Ok s) (hcg : c ≠ g) (hcy : c ≠ y) (ha : a < 16) (hb : b < 16) (hd : d < 16) (i1 : -2147483648 ≤ m) (i2 : m ≤ 2147483647) :
    Calls Try.prog 14 #[.pointer (some ⟨c, 0, none⟩), .agg #[.int .i64 21, .int .i64 (a : Nat), .int .i64 (b : Nat), .int .i64 (d : Nat), .int .i32 m], IV g] w fun e w' => EO 35 c g y n hole (Cor.exec n hole 21 a b d m s) w e w' := by
  obtain ⟨R, pc, f⟩ := s
  obtain ⟨hR, hpc, hf⟩ := hs
  dsimp only at h hm hR hpc hf ⊢
  obtain ⟨W1, e1⟩ : ∃ W1, w.alloc (Obj.cells #[.int .i64 21, .int .i64 (a : Nat), .int .i64 (b : Nat), .int .i64 (d : Nat), .int .i32 m] 27) = W1 := ⟨_, rfl⟩
  obtain ⟨X, eX⟩ : ∃ X, w.heap.size = X := ⟨_, rfl⟩
  have hx1 : XS W1 X 21 a b d m := by rw [← e1, ← eX]; exact heap_alloc_new w _
  have hn1 : Nr [c, y] w W1 := by rw [← e1]; exact (Nr.refl _ _).alloc _
  have hc1 : CS W1 c 35 R pc := h.below (by rw [← e1]; exact below_alloc1 w _)
  have hm1 : MS W1 g y n hole f := hm.below (by rw [← e1]; exact below_alloc1 w _)
  have hcX : X ≠ c := by have := h.lt; omega
  have kx : ∀ p : Nearby W1, p.W.cell? ⟨X, 1, none⟩ = some (.int .i64 (a : Nat)) ∧ p.W.cell? ⟨X, 2, none⟩ = some (.int .i64 (b : Nat)) ∧ p.W.cell? ⟨X, 4, none⟩ = some (.int .i32 m) ∧ p.W.cell? ⟨c, 16, none⟩ = some (.int .u64 (pc : Nat)) ∧ p.W.cell? ⟨c, b, none⟩ = some (.int .u64 (R b : Nat)) := fun p => by
    obtain ⟨x0, x1, x2, x3, x4⟩ := (hx1.nr p.near (by simp)).cells
    exact ⟨x1, x2, x4, (hc1.nr p.near (by simp)).next, (hc1.nr p.near (by simp)).cell hb⟩
  have k1 := fun p => (kx p).1
  have k2 := fun p => (kx p).2.1
  have k4 := fun p => (kx p).2.2.1
  have kp := fun p => (kx p).2.2.2.1
  have kb := fun p => (kx p).2.2.2.2
  have hb' : (b : Int) < 16 := by omega
  have ha' : (a : Int) < 16 := by omega
  have z1 : IntKind.i64.wrap m = m := IntWalk.i64_in _ (by omega)
  have z2 := Cor.ext_wrap m
  have z3 : IntKind.u64.wrap ((pc : Int) + 8) = (Cor.nxt pc : Nat) := by rw [wrap64]; unfold Cor.nxt; omega
  have z4 : IntKind.u64.wrap (8 * (Cor.ext m : Int)) = ((8 * Cor.ext m % 18446744073709551616 : Nat) : Int) := by rw [wrap64]; omega
  have z5 : IntKind.u64.wrap ((pc : Int) + ((8 * Cor.ext m % 18446744073709551616 : Nat) : Int)) = (Cor.far pc m : Nat) := by rw [wrap64]; unfold Cor.far; omega
  generalize hE : Cor.ext m = E at z2 z4 z5
  generalize 8 * E % 18446744073709551616 = E8 at z4 z5
  generalize hN : Cor.nxt pc = N at z3
  generalize hF : Cor.far pc m = F at z5
  have HG := Lib.hid (And.intro hE (And.intro hN hF))
  have HH := Lib.hid (And.intro hx1 (And.intro hn1 (And.intro hc1 hm1)))
  have HI := Lib.hid (And.intro hR (And.intro hpc hf))
  have HJ := Lib.hid (And.intro i1 i2)
  clear kx hR hpc h hx1 hn1 hc1 hf hm hm1 i1 i2 hE hN hF
  unfold IV
  have he : Cor.exec n hole 21 a b d m ⟨R, pc, f⟩ = Cor.move n hole 21 a b m ⟨R, pc, f⟩ := rfl
  have hend := Cor.move_end n hole 21 a b m ⟨R, pc, f⟩
  rw [he]
  obtain ⟨s2, r, hr⟩ : ∃ s2 r, Cor.move n hole 21 a b m ⟨R, pc, f⟩ = (s2, r) := ⟨_, _, rfl⟩
  rw [hr] at hend ⊢
  dsimp only at hend ⊢
  rw [HG.out.2.1] at hend
  have HD := Lib.hid hend
  have HR := Lib.hid hr
  clear he hr hend
  go_enter Try.func14, Try.ntmps14
  go_upto_region 1 with fail
  refine wp_region_near (by kernel_rfl) (by kernel_rfl) ?_
  repeat (quiet_step (fail))
  refine wpQuiet_nil ?_
  intro _ hw'
  obtain ⟨p, hw''⟩ := hw'
  subst hw''
  obtain ⟨W2, hp⟩ := p
  have hc2 := HH.out.2.2.1.nr hp (by simp)
  have hm2 := HH.out.2.2.2.nr hp (by simp) (by simp)
  have hx2 := HH.out.1.nr hp (by simp)
  have hn2 := HH.out.2.1.next hp
  dsimp only
  clear HH kb k1 k2 k4 kp hp e1
  have kp : ∀ p : Nearby W2, p.W.cell? ⟨c, 16, none⟩ = some (.int .u64 (pc : Nat)) := fun p => (hc2.nr p.near (by simp)).next
  have HH := Lib.hid (And.intro hx2 (And.intro hn2 (And.intro hc2 hm2)))
  clear hx2 hn2 hc2 hm2
  go_upto_region 2 with fail
  refine wp_region_near (by kernel_rfl) (by kernel_rfl) ?_
  repeat (quiet_step (fail))
  refine wpQuiet_nil ?_
  intro _ hw'
  obtain ⟨p, hw''⟩ := hw'
  subst hw''
  obtain ⟨W3, hp⟩ := p
  have HC := Lib.hid (HH.out.2.2.1.nr hp (by simp))
  have HM := Lib.hid (HH.out.2.2.2.nr hp (by simp) (by simp))
  have HX := Lib.hid (HH.out.1.nr hp (by simp))
  have HN := Lib.hid (HH.out.2.1.next hp)
  dsimp only
  clear HH kp hp z1 z2 z3 z4 z5
  have k0 := HX.out.cells.1
  have M := Lib.hid (move_core (s := ⟨R, pc, f⟩) 21 a b d m W3 HC.out HM.out ⟨HI.out.1, HI.out.2.1, HI.out.2.2⟩ hcg hcy ha hb (by decide) (by decide) HJ.out.1 HJ.out.2)
  rw [HR.out] at M
  dsimp only at M
  have x0 := HX.out
  unfold XS at x0
  have x1 := HX.out.cells
  obtain ⟨x1, x2, x3, x4, x5⟩ := x1
  unfold IV at M
  rcases HD.out with ⟨rfl, h2⟩ | ⟨h1, h2⟩
  · have H2 := Lib.hid h2
    clear h2
    go_wp2_with fail
    refine M.out.mono ?_; rintro e w5 ⟨rfl, h5, h6, h7⟩
    dsimp only at h5 h6
    have kn := h5.next
    have kf := h5.free 16
    have HE := Lib.hid (And.intro (h5.go N) (And.intro (h6.nr (Nr.of_turn (Turn.set w5 c 16 (.int .u64 (N : Nat)))) (by simpa using fun e => hcg e.symm) (by simpa using fun e => hcy e.symm)) ((HN.out.trans h7 (fun x hx => .inl hx)).set (b := c) (.inl (by simp)) 16 (.int .u64 (N : Nat)))))
    clear h5 h6 h7 M
    go_wp2_with fail
    go_ret
    refine ⟨rfl, ?_⟩
    dsimp only
    rw [H2.out]
    exact HE.out
  · subst h2
    rcases h1 with rfl | rfl
    · go_wp2_with fail
      refine M.out.mono ?_; rintro e w5 ⟨rfl, h5, h6, h7⟩
      have HE := Lib.hid (And.intro h5 (And.intro h6 (HN.out.trans h7 (fun x hx => .inl hx))))
      clear h5 h6 h7 M
      go_wp2_with fail
      go_ret
      exact ⟨rfl, HE.out⟩
    · go_wp2_with fail
      refine M.out.mono ?_; rintro e w5 ⟨rfl, h5, h6, h7⟩
      have HE := Lib.hid (And.intro h5 (And.intro h6 (HN.out.trans h7 (fun x hx => .inl hx))))
      clear h5 h6 h7 M
      go_wp2_with fail
      go_ret
      exact ⟨rfl, HE.out⟩
set_option maxRecDepth 100000 in
set_option maxHeartbeats 1000000 in
theorem ex_m22 {c g y n : Nat} {hole : Int} {s : Cor.S} (a b d : Nat) (m : Int) (w : World) (h : CS w c 35 s.R s.pc) (hm : MS w g y n hole s.f) (hs : Cor.Ok s) (hcg : c ≠ g) (hcy : c ≠ y) (ha : a < 16) (hb : b < 16) (hd : d < 16) (i1 : -2147483648 ≤ m) (i2 : m ≤ 2147483647) :
    Calls Try.prog 14 #[.pointer (some ⟨c, 0, none⟩), .agg #[.int .i64 22, .int .i64 (a : Nat), .int .i64 (b : Nat), .int .i64 (d : Nat), .int .i32 m], IV g] w fun e w' => EO 35 c g y n hole (Cor.exec n hole 22 a b d m s) w e w' := by
  obtain ⟨R, pc, f⟩ := s
  obtain ⟨hR, hpc, hf⟩ := hs
  dsimp only at h hm hR hpc hf ⊢
  obtain ⟨W1, e1⟩ : ∃ W1, w.alloc (Obj.cells #[.int .i64 22, .int .i64 (a : Nat), .int .i64 (b : Nat), .int .i64 (d : Nat), .int .i32 m] 27) = W1 := ⟨_, rfl⟩
  obtain ⟨X, eX⟩ : ∃ X, w.heap.size = X := ⟨_, rfl⟩
  have hx1 : XS W1 X 22 a b d m := by rw [← e1, ← eX]; exact heap_alloc_new w _
  have hn1 : Nr [c, y] w W1 := by rw [← e1]; exact (Nr.refl _ _).alloc _
  have hc1 : CS W1 c 35 R pc := h.below (by rw [← e1]; exact below_alloc1 w _)
  have hm1 : MS W1 g y n hole f := hm.below (by rw [← e1]; exact below_alloc1 w _)
  have hcX : X ≠ c := by have := h.lt; omega
  have kx : ∀ p : Nearby W1, p.W.cell? ⟨X, 1, none⟩ = some (.int .i64 (a : Nat)) ∧ p.W.cell? ⟨X, 2, none⟩ = some (.int .i64 (b : Nat)) ∧ p.W.cell? ⟨X, 4, none⟩ = some (.int .i32 m) ∧ p.W.cell? ⟨c, 16, none⟩ = some (.int .u64 (pc : Nat)) ∧ p.W.cell? ⟨c, b, none⟩ = some (.int .u64 (R b : Nat)) := fun p => by
    obtain ⟨x0, x1, x2, x3, x4⟩ := (hx1.nr p.near (by simp)).cells
    exact ⟨x1, x2, x4, (hc1.nr p.near (by simp)).next, (hc1.nr p.near (by simp)).cell hb⟩
  have k1 := fun p => (kx p).1
  have k2 := fun p => (kx p).2.1
  have k4 := fun p => (kx p).2.2.1
  have kp := fun p => (kx p).2.2.2.1
  have kb := fun p => (kx p).2.2.2.2
  have hb' : (b : Int) < 16 := by omega
  have ha' : (a : Int) < 16 := by omega
  have z1 : IntKind.i64.wrap m = m := IntWalk.i64_in _ (by omega)
  have z2 := Cor.ext_wrap m
  have z3 : IntKind.u64.wrap ((pc : Int) + 8) = (Cor.nxt pc : Nat) := by rw [wrap64]; unfold Cor.nxt; omega
  have z4 : IntKind.u64.wrap (8 * (Cor.ext m : Int)) = ((8 * Cor.ext m % 18446744073709551616 : Nat) : Int) := by rw [wrap64]; omega
  have z5 : IntKind.u64.wrap ((pc : Int) + ((8 * Cor.ext m % 18446744073709551616 : Nat) : Int)) = (Cor.far pc m : Nat) := by rw [wrap64]; unfold Cor.far; omega
  generalize hE : Cor.ext m = E at z2 z4 z5
  generalize 8 * E % 18446744073709551616 = E8 at z4 z5
  generalize hN : Cor.nxt pc = N at z3
  generalize hF : Cor.far pc m = F at z5
  have HG := Lib.hid (And.intro hE (And.intro hN hF))
  have HH := Lib.hid (And.intro hx1 (And.intro hn1 (And.intro hc1 hm1)))
  have HI := Lib.hid (And.intro hR (And.intro hpc hf))
  have HJ := Lib.hid (And.intro i1 i2)
  clear kx hR hpc h hx1 hn1 hc1 hf hm hm1 i1 i2 hE hN hF
  unfold IV
  have he : Cor.exec n hole 22 a b d m ⟨R, pc, f⟩ = Cor.move n hole 22 a b m ⟨R, pc, f⟩ := rfl
  have hend := Cor.move_end n hole 22 a b m ⟨R, pc, f⟩
  rw [he]
  obtain ⟨s2, r, hr⟩ : ∃ s2 r, Cor.move n hole 22 a b m ⟨R, pc, f⟩ = (s2, r) := ⟨_, _, rfl⟩
  rw [hr] at hend ⊢
  dsimp only at hend ⊢
  rw [HG.out.2.1] at hend
  have HD := Lib.hid hend
  have HR := Lib.hid hr
  clear he hr hend
  go_enter Try.func14, Try.ntmps14
  go_upto_region 1 with fail
  refine wp_region_near (by kernel_rfl) (by kernel_rfl) ?_
  repeat (quiet_step (fail))
  refine wpQuiet_nil ?_
  intro _ hw'
  obtain ⟨p, hw''⟩ := hw'
  subst hw''
  obtain ⟨W2, hp⟩ := p
  have hc2 := HH.out.2.2.1.nr hp (by simp)
  have hm2 := HH.out.2.2.2.nr hp (by simp) (by simp)
  have hx2 := HH.out.1.nr hp (by simp)
  have hn2 := HH.out.2.1.next hp
  dsimp only
  clear HH kb k1 k2 k4 kp hp e1
  have kp : ∀ p : Nearby W2, p.W.cell? ⟨c, 16, none⟩ = some (.int .u64 (pc : Nat)) := fun p => (hc2.nr p.near (by simp)).next
  have HH := Lib.hid (And.intro hx2 (And.intro hn2 (And.intro hc2 hm2)))
  clear hx2 hn2 hc2 hm2
  go_upto_region 2 with fail
  refine wp_region_near (by kernel_rfl) (by kernel_rfl) ?_
  repeat (quiet_step (fail))
  refine wpQuiet_nil ?_
  intro _ hw'
  obtain ⟨p, hw''⟩ := hw'
  subst hw''
  obtain ⟨W3, hp⟩ := p
  have HC := Lib.hid (HH.out.2.2.1.nr hp (by simp))
  have HM := Lib.hid (HH.out.2.2.2.nr hp (by simp) (by simp))
  have HX := Lib.hid (HH.out.1.nr hp (by simp))
  have HN := Lib.hid (HH.out.2.1.next hp)
  dsimp only
  clear HH kp hp z1 z2 z3 z4 z5
  have k0 := HX.out.cells.1
  have M := Lib.hid (move_core (s := ⟨R, pc, f⟩) 22 a b d m W3 HC.out HM.out ⟨HI.out.1, HI.out.2.1, HI.out.2.2⟩ hcg hcy ha hb (by decide) (by decide) HJ.out.1 HJ.out.2)
  rw [HR.out] at M
  dsimp only at M
  have x0 := HX.out
  unfold XS at x0
  have x1 := HX.out.cells
  obtain ⟨x1, x2, x3, x4, x5⟩ := x1
  unfold IV at M
  rcases HD.out with ⟨rfl, h2⟩ | ⟨h1, h2⟩
  · have H2 := Lib.hid h2
    clear h2
    go_wp2_with fail
    refine M.out.mono ?_; rintro e w5 ⟨rfl, h5, h6, h7⟩
    dsimp only at h5 h6
    have kn := h5.next
    have kf := h5.free 16
    have HE := Lib.hid (And.intro (h5.go N) (And.intro (h6.nr (Nr.of_turn (Turn.set w5 c 16 (.int .u64 (N : Nat)))) (by simpa using fun e => hcg e.symm) (by simpa using fun e => hcy e.symm)) ((HN.out.trans h7 (fun x hx => .inl hx)).set (b := c) (.inl (by simp)) 16 (.int .u64 (N : Nat)))))
    clear h5 h6 h7 M
    go_wp2_with fail
    go_ret
    refine ⟨rfl, ?_⟩
    dsimp only
    rw [H2.out]
    exact HE.out
  · subst h2
    rcases h1 with rfl | rfl
    · go_wp2_with fail
      refine M.out.mono ?_; rintro e w5 ⟨rfl, h5, h6, h7⟩
      have HE := Lib.hid (And.intro h5 (And.intro h6 (HN.out.trans h7 (fun x hx => .inl hx))))
      clear h5 h6 h7 M
      go_wp2_with fail
      go_ret
      exact ⟨rfl, HE.out⟩
    · go_wp2_with fail
      refine M.out.mono ?_; rintro e w5 ⟨rfl, h5, h6, h7⟩
      have HE := Lib.hid (And.intro h5 (And.intro h6 (HN.out.trans h7 (fun x hx => .inl hx))))
      clear h5 h6 h7 M
      go_wp2_with fail
      go_ret
      exact ⟨rfl, HE.out⟩
set_option maxRecDepth 100000 in
set_option maxHeartbeats 1000000 in
theorem ex_m23 {c g y n : Nat} {hole : Int} {s : Cor.S} (a b d : Nat) (m : Int) (w : World) (h : CS w c 35 s.R s.pc) (hm : MS w g y n hole s.f) (hs : Cor.Ok s) (hcg : c ≠ g) (hcy : c ≠ y) (ha : a < 16) (hb : b < 16) (hd : d < 16) (i1 : -2147483648 ≤ m) (i2 : m ≤ 2147483647) :
    Calls Try.prog 14 #[.pointer (some ⟨c, 0, none⟩), .agg #[.int .i64 23, .int .i64 (a : Nat), .int .i64 (b : Nat), .int .i64 (d : Nat), .int .i32 m], IV g] w fun e w' => EO 35 c g y n hole (Cor.exec n hole 23 a b d m s) w e w' := by
  obtain ⟨R, pc, f⟩ := s
  obtain ⟨hR, hpc, hf⟩ := hs
  dsimp only at h hm hR hpc hf ⊢
  obtain ⟨W1, e1⟩ : ∃ W1, w.alloc (Obj.cells #[.int .i64 23, .int .i64 (a : Nat), .int .i64 (b : Nat), .int .i64 (d : Nat), .int .i32 m] 27) = W1 := ⟨_, rfl⟩
  obtain ⟨X, eX⟩ : ∃ X, w.heap.size = X := ⟨_, rfl⟩
  have hx1 : XS W1 X 23 a b d m := by rw [← e1, ← eX]; exact heap_alloc_new w _
  have hn1 : Nr [c, y] w W1 := by rw [← e1]; exact (Nr.refl _ _).alloc _
  have hc1 : CS W1 c 35 R pc := h.below (by rw [← e1]; exact below_alloc1 w _)
  have hm1 : MS W1 g y n hole f := hm.below (by rw [← e1]; exact below_alloc1 w _)
  have hcX : X ≠ c := by have := h.lt; omega
  have kx : ∀ p : Nearby W1, p.W.cell? ⟨X, 1, none⟩ = some (.int .i64 (a : Nat)) ∧ p.W.cell? ⟨X, 2, none⟩ = some (.int .i64 (b : Nat)) ∧ p.W.cell? ⟨X, 4, none⟩ = some (.int .i32 m) ∧ p.W.cell? ⟨c, 16, none⟩ = some (.int .u64 (pc : Nat)) ∧ p.W.cell? ⟨c, b, none⟩ = some (.int .u64 (R b : Nat)) := fun p => by
    obtain ⟨x0, x1, x2, x3, x4⟩ := (hx1.nr p.near (by simp)).cells
    exact ⟨x1, x2, x4, (hc1.nr p.near (by simp)).next, (hc1.nr p.near (by simp)).cell hb⟩
  have k1 := fun p => (kx p).1
  have k2 := fun p => (kx p).2.1
  have k4 := fun p => (kx p).2.2.1
  have kp := fun p => (kx p).2.2.2.1
  have kb := fun p => (kx p).2.2.2.2
  have hb' : (b : Int) < 16 := by omega
  have ha' : (a : Int) < 16 := by omega
  have z1 : IntKind.i64.wrap m = m := IntWalk.i64_in _ (by omega)
  have z2 := Cor.ext_wrap m
  have z3 : IntKind.u64.wrap ((pc : Int) + 8) = (Cor.nxt pc : Nat) := by rw [wrap64]; unfold Cor.nxt; omega
  have z4 : IntKind.u64.wrap (8 * (Cor.ext m : Int)) = ((8 * Cor.ext m % 18446744073709551616 : Nat) : Int) := by rw [wrap64]; omega
  have z5 : IntKind.u64.wrap ((pc : Int) + ((8 * Cor.ext m % 18446744073709551616 : Nat) : Int)) = (Cor.far pc m : Nat) := by rw [wrap64]; unfold Cor.far; omega
  generalize hE : Cor.ext m = E at z2 z4 z5
  generalize 8 * E % 18446744073709551616 = E8 at z4 z5
  generalize hN : Cor.nxt pc = N at z3
  generalize hF : Cor.far pc m = F at z5
  have HG := Lib.hid (And.intro hE (And.intro hN hF))
  have HH := Lib.hid (And.intro hx1 (And.intro hn1 (And.intro hc1 hm1)))
  have HI := Lib.hid (And.intro hR (And.intro hpc hf))
  have HJ := Lib.hid (And.intro i1 i2)
  clear kx hR hpc h hx1 hn1 hc1 hf hm hm1 i1 i2 hE hN hF
  unfold IV
  have he : Cor.exec n hole 23 a b d m ⟨R, pc, f⟩ = Cor.move n hole 23 a b m ⟨R, pc, f⟩ := rfl
  have hend := Cor.move_end n hole 23 a b m ⟨R, pc, f⟩
  rw [he]
  obtain ⟨s2, r, hr⟩ : ∃ s2 r, Cor.move n hole 23 a b m ⟨R, pc, f⟩ = (s2, r) := ⟨_, _, rfl⟩
  rw [hr] at hend ⊢
  dsimp only at hend ⊢
  rw [HG.out.2.1] at hend
  have HD := Lib.hid hend
  have HR := Lib.hid hr
  clear he hr hend
  go_enter Try.func14, Try.ntmps14
  go_upto_region 1 with fail
  refine wp_region_near (by kernel_rfl) (by kernel_rfl) ?_
  repeat (quiet_step (fail))
  refine wpQuiet_nil ?_
  intro _ hw'
  obtain ⟨p, hw''⟩ := hw'
  subst hw''
  obtain ⟨W2, hp⟩ := p
  have hc2 := HH.out.2.2.1.nr hp (by simp)
  have hm2 := HH.out.2.2.2.nr hp (by simp) (by simp)
  have hx2 := HH.out.1.nr hp (by simp)
  have hn2 := HH.out.2.1.next hp
  dsimp only
  clear HH kb k1 k2 k4 kp hp e1
  have kp : ∀ p : Nearby W2, p.W.cell? ⟨c, 16, none⟩ = some (.int .u64 (pc : Nat)) := fun p => (hc2.nr p.near (by simp)).next
  have HH := Lib.hid (And.intro hx2 (And.intro hn2 (And.intro hc2 hm2)))
  clear hx2 hn2 hc2 hm2
  go_upto_region 2 with fail
  refine wp_region_near (by kernel_rfl) (by kernel_rfl) ?_
  repeat (quiet_step (fail))
  refine wpQuiet_nil ?_
  intro _ hw'
  obtain ⟨p, hw''⟩ := hw'
  subst hw''
  obtain ⟨W3, hp⟩ := p
  have HC := Lib.hid (HH.out.2.2.1.nr hp (by simp))
  have HM := Lib.hid (HH.out.2.2.2.nr hp (by simp) (by simp))
  have HX := Lib.hid (HH.out.1.nr hp (by simp))
  have HN := Lib.hid (HH.out.2.1.next hp)
  dsimp only
  clear HH kp hp z1 z2 z3 z4 z5
  have k0 := HX.out.cells.1
  have M := Lib.hid (move_core (s := ⟨R, pc, f⟩) 23 a b d m W3 HC.out HM.out ⟨HI.out.1, HI.out.2.1, HI.out.2.2⟩ hcg hcy ha hb (by decide) (by decide) HJ.out.1 HJ.out.2)
  rw [HR.out] at M
  dsimp only at M
  have x0 := HX.out
  unfold XS at x0
  have x1 := HX.out.cells
  obtain ⟨x1, x2, x3, x4, x5⟩ := x1
  unfold IV at M
  rcases HD.out with ⟨rfl, h2⟩ | ⟨h1, h2⟩
  · have H2 := Lib.hid h2
    clear h2
    go_wp2_with fail
    refine M.out.mono ?_; rintro e w5 ⟨rfl, h5, h6, h7⟩
    dsimp only at h5 h6
    have kn := h5.next
    have kf := h5.free 16
    have HE := Lib.hid (And.intro (h5.go N) (And.intro (h6.nr (Nr.of_turn (Turn.set w5 c 16 (.int .u64 (N : Nat)))) (by simpa using fun e => hcg e.symm) (by simpa using fun e => hcy e.symm)) ((HN.out.trans h7 (fun x hx => .inl hx)).set (b := c) (.inl (by simp)) 16 (.int .u64 (N : Nat)))))
    clear h5 h6 h7 M
    go_wp2_with fail
    go_ret
    refine ⟨rfl, ?_⟩
    dsimp only
    rw [H2.out]
    exact HE.out
  · subst h2
    rcases h1 with rfl | rfl
    · go_wp2_with fail
      refine M.out.mono ?_; rintro e w5 ⟨rfl, h5, h6, h7⟩
      have HE := Lib.hid (And.intro h5 (And.intro h6 (HN.out.trans h7 (fun x hx => .inl hx))))
      clear h5 h6 h7 M
      go_wp2_with fail
      go_ret
      exact ⟨rfl, HE.out⟩
    · go_wp2_with fail
      refine M.out.mono ?_; rintro e w5 ⟨rfl, h5, h6, h7⟩
      have HE := Lib.hid (And.intro h5 (And.intro h6 (HN.out.trans h7 (fun x hx => .inl hx))))
      clear h5 h6 h7 M
      go_wp2_with fail
      go_ret
      exact ⟨rfl, HE.out⟩
set_option maxRecDepth 100000 in
set_option maxHeartbeats 1000000 in
theorem ex_m24 {c g y n : Nat} {hole : Int} {s : Cor.S} (a b d : Nat) (m : Int) (w : World) (h : CS w c 35 s.R s.pc) (hm : MS w g y n hole s.f) (hs : Cor.Ok s) (hcg : c ≠ g) (hcy : c ≠ y) (ha : a < 16) (hb : b < 16) (hd : d < 16) (i1 : -2147483648 ≤ m) (i2 : m ≤ 2147483647) :
    Calls Try.prog 14 #[.pointer (some ⟨c, 0, none⟩), .agg #[.int .i64 24, .int .i64 (a : Nat), .int .i64 (b : Nat), .int .i64 (d : Nat), .int .i32 m], IV g] w fun e w' => EO 35 c g y n hole (Cor.exec n hole 24 a b d m s) w e w' := by
  obtain ⟨R, pc, f⟩ := s
  obtain ⟨hR, hpc, hf⟩ := hs
  dsimp only at h hm hR hpc hf ⊢
  obtain ⟨W1, e1⟩ : ∃ W1, w.alloc (Obj.cells #[.int .i64 24, .int .i64 (a : Nat), .int .i64 (b : Nat), .int .i64 (d : Nat), .int .i32 m] 27) = W1 := ⟨_, rfl⟩
  obtain ⟨X, eX⟩ : ∃ X, w.heap.size = X := ⟨_, rfl⟩
  have hx1 : XS W1 X 24 a b d m := by rw [← e1, ← eX]; exact heap_alloc_new w _
  have hn1 : Nr [c, y] w W1 := by rw [← e1]; exact (Nr.refl _ _).alloc _
  have hc1 : CS W1 c 35 R pc := h.below (by rw [← e1]; exact below_alloc1 w _)
  have hm1 : MS W1 g y n hole f := hm.below (by rw [← e1]; exact below_alloc1 w _)
  have hcX : X ≠ c := by have := h.lt; omega
  have kx : ∀ p : Nearby W1, p.W.cell? ⟨X, 1, none⟩ = some (.int .i64 (a : Nat)) ∧ p.W.cell? ⟨X, 2, none⟩ = some (.int .i64 (b : Nat)) ∧ p.W.cell? ⟨X, 4, none⟩ = some (.int .i32 m) ∧ p.W.cell? ⟨c, 16, none⟩ = some (.int .u64 (pc : Nat)) ∧ p.W.cell? ⟨c, b, none⟩ = some (.int .u64 (R b : Nat)) := fun p => by
    obtain ⟨x0, x1, x2, x3, x4⟩ := (hx1.nr p.near (by simp)).cells
    exact ⟨x1, x2, x4, (hc1.nr p.near (by simp)).next, (hc1.nr p.near (by simp)).cell hb⟩
  have k1 := fun p => (kx p).1
  have k2 := fun p => (kx p).2.1
  have k4 := fun p => (kx p).2.2.1
  have kp := fun p => (kx p).2.2.2.1
  have kb := fun p => (kx p).2.2.2.2
  have hb' : (b : Int) < 16 := by omega
  have ha' : (a : Int) < 16 := by omega
  have z1 : IntKind.i64.wrap m = m := IntWalk.i64_in _ (by omega)
  have z2 := Cor.ext_wrap m
  have z3 : IntKind.u64.wrap ((pc : Int) + 8) = (Cor.nxt pc : Nat) := by rw [wrap64]; unfold Cor.nxt; omega
  have z4 : IntKind.u64.wrap (8 * (Cor.ext m : Int)) = ((8 * Cor.ext m % 18446744073709551616 : Nat) : Int) := by rw [wrap64]; omega
  have z5 : IntKind.u64.wrap ((pc : Int) + ((8 * Cor.ext m % 18446744073709551616 : Nat) : Int)) = (Cor.far pc m : Nat) := by rw [wrap64]; unfold Cor.far; omega
  generalize hE : Cor.ext m = E at z2 z4 z5
  generalize 8 * E % 18446744073709551616 = E8 at z4 z5
  generalize hN : Cor.nxt pc = N at z3
  generalize hF : Cor.far pc m = F at z5
  have HG := Lib.hid (And.intro hE (And.intro hN hF))
  have HH := Lib.hid (And.intro hx1 (And.intro hn1 (And.intro hc1 hm1)))
  have HI := Lib.hid (And.intro hR (And.intro hpc hf))
  have HJ := Lib.hid (And.intro i1 i2)
  clear kx hR hpc h hx1 hn1 hc1 hf hm hm1 i1 i2 hE hN hF
  unfold IV
  have he : Cor.exec n hole 24 a b d m ⟨R, pc, f⟩ = Cor.move n hole 24 a b m ⟨R, pc, f⟩ := rfl
  have hend := Cor.move_end n hole 24 a b m ⟨R, pc, f⟩
  rw [he]
  obtain ⟨s2, r, hr⟩ : ∃ s2 r, Cor.move n hole 24 a b m ⟨R, pc, f⟩ = (s2, r) := ⟨_, _, rfl⟩
  rw [hr] at hend ⊢
  dsimp only at hend ⊢
  rw [HG.out.2.1] at hend
  have HD := Lib.hid hend
  have HR := Lib.hid hr
  clear he hr hend
  go_enter Try.func14, Try.ntmps14
  go_upto_region 1 with fail
  refine wp_region_near (by kernel_rfl) (by kernel_rfl) ?_
  repeat (quiet_step (fail))
  refine wpQuiet_nil ?_
  intro _ hw'
  obtain ⟨p, hw''⟩ := hw'
  subst hw''
  obtain ⟨W2, hp⟩ := p
  have hc2 := HH.out.2.2.1.nr hp (by simp)
  have hm2 := HH.out.2.2.2.nr hp (by simp) (by simp)
  have hx2 := HH.out.1.nr hp (by simp)
  have hn2 := HH.out.2.1.next hp
  dsimp only
  clear HH kb k1 k2 k4 kp hp e1
  have kp : ∀ p : Nearby W2, p.W.cell? ⟨c, 16, none⟩ = some (.int .u64 (pc : Nat)) := fun p => (hc2.nr p.near (by simp)).next
  have HH := Lib.hid (And.intro hx2 (And.intro hn2 (And.intro hc2 hm2)))
  clear hx2 hn2 hc2 hm2
  go_upto_region 2 with fail
  refine wp_region_near (by kernel_rfl) (by kernel_rfl) ?_
  repeat (quiet_step (fail))
  refine wpQuiet_nil ?_
  intro _ hw'
  obtain ⟨p, hw''⟩ := hw'
  subst hw''
  obtain ⟨W3, hp⟩ := p
  have HC := Lib.hid (HH.out.2.2.1.nr hp (by simp))
  have HM := Lib.hid (HH.out.2.2.2.nr hp (by simp) (by simp))
  have HX := Lib.hid (HH.out.1.nr hp (by simp))
  have HN := Lib.hid (HH.out.2.1.next hp)
  dsimp only
  clear HH kp hp z1 z2 z3 z4 z5
  have k0 := HX.out.cells.1
  have M := Lib.hid (move_core (s := ⟨R, pc, f⟩) 24 a b d m W3 HC.out HM.out ⟨HI.out.1, HI.out.2.1, HI.out.2.2⟩ hcg hcy ha hb (by decide) (by decide) HJ.out.1 HJ.out.2)
  rw [HR.out] at M
  dsimp only at M
  have x0 := HX.out
  unfold XS at x0
  have x1 := HX.out.cells
  obtain ⟨x1, x2, x3, x4, x5⟩ := x1
  unfold IV at M
  rcases HD.out with ⟨rfl, h2⟩ | ⟨h1, h2⟩
  · have H2 := Lib.hid h2
    clear h2
    go_wp2_with fail
    refine M.out.mono ?_; rintro e w5 ⟨rfl, h5, h6, h7⟩
    dsimp only at h5 h6
    have kn := h5.next
    have kf := h5.free 16
    have HE := Lib.hid (And.intro (h5.go N) (And.intro (h6.nr (Nr.of_turn (Turn.set w5 c 16 (.int .u64 (N : Nat)))) (by simpa using fun e => hcg e.symm) (by simpa using fun e => hcy e.symm)) ((HN.out.trans h7 (fun x hx => .inl hx)).set (b := c) (.inl (by simp)) 16 (.int .u64 (N : Nat)))))
    clear h5 h6 h7 M
    go_wp2_with fail
    go_ret
    refine ⟨rfl, ?_⟩
    dsimp only
    rw [H2.out]
    exact HE.out
  · subst h2
    rcases h1 with rfl | rfl
    · go_wp2_with fail
      refine M.out.mono ?_; rintro e w5 ⟨rfl, h5, h6, h7⟩
      have HE := Lib.hid (And.intro h5 (And.intro h6 (HN.out.trans h7 (fun x hx => .inl hx))))
      clear h5 h6 h7 M
      go_wp2_with fail
      go_ret
      exact ⟨rfl, HE.out⟩
    · go_wp2_with fail
      refine M.out.mono ?_; rintro e w5 ⟨rfl, h5, h6, h7⟩
      have HE := Lib.hid (And.intro h5 (And.intro h6 (HN.out.trans h7 (fun x hx => .inl hx))))
      clear h5 h6 h7 M
      go_wp2_with fail
      go_ret
      exact ⟨rfl, HE.out⟩
end Go.Proofs.Ytojnokaeopadfaa
