/- A core executes what is reckoned; any instruction. Written by genHi.py. -/
import Derived.Test.YtojnokaeopadfaaHi
import Derived.Test.YtojnokaeopadfaaHj
import Derived.Test.YtojnokaeopadfaaHk
set_option linter.unusedVariables false
set_option linter.unusedSimpArgs false
namespace Go.Proofs.Ytojnokaeopadfaa
open Go.RowKit

set_option maxRecDepth 100000 in
set_option maxHeartbeats 1000000 in
theorem ex_rest {c g y n : Nat} {hole : Int} {s : Cor.S} (a b d : Nat) (m : Int) (w : World) (h : CS w c 35 s.R s.pc) (hm : MS w g y n hole s.f) (hs : Cor.Ok s) (hcg : c ≠ g) (hcy : c ≠ y) (ha : a < 16) (hb : b < 16) (hd : d < 16) (i1 : -2147483648 ≤ m) (i2 : m ≤ 2147483647) (op : Int) (n1 : op ≠ 1) (n43 : op ≠ 43) (n2 : op ≠ 2) (n3 : op ≠ 3) (n18 : op ≠ 18) (n29 : op ≠ 29) (n30 : op ≠ 30) (n25 : op ≠ 25) (n26 : op ≠ 26) (n27 : op ≠ 27) (n28 : op ≠ 28) (n19 : op ≠ 19) (n20 : op ≠ 20) (n21 : op ≠ 21) (n22 : op ≠ 22) (n23 : op ≠ 23) (n24 : op ≠ 24) :
    Calls Try.prog 14 #[.pointer (some ⟨c, 0, none⟩), .agg #[.int .i64 op, .int .i64 (a : Nat), .int .i64 (b : Nat), .int .i64 (d : Nat), .int .i32 m], IV g] w fun e w' => EO 35 c g y n hole (Cor.exec n hole op a b d m s) w e w' := by
  have b1 : (op == 1) = false := by simp [n1]
  have b43 : (op == 43) = false := by simp [n43]
  have b2 : (op == 2) = false := by simp [n2]
  have b3 : (op == 3) = false := by simp [n3]
  have b18 : (op == 18) = false := by simp [n18]
  have b29 : (op == 29) = false := by simp [n29]
  have b30 : (op == 30) = false := by simp [n30]
  have b25 : (op == 25) = false := by simp [n25]
  have b26 : (op == 26) = false := by simp [n26]
  have b27 : (op == 27) = false := by simp [n27]
  have b28 : (op == 28) = false := by simp [n28]
  have b19 : (op == 19) = false := by simp [n19]
  have b20 : (op == 20) = false := by simp [n20]
  have b21 : (op == 21) = false := by simp [n21]
  have b22 : (op == 22) = false := by simp [n22]
  have b23 : (op == 23) = false := by simp [n23]
  have b24 : (op == 24) = false := by simp [n24]
  have he : Cor.exec n hole op a b d m s = if (Alu.rk op (s.R b) (s.R d)).2 = true then (⟨Cor.put s.R a (Alu.rk op (s.R b) (s.R d)).1, Cor.nxt s.pc, s.f⟩, 0) else (s, 5) := by
    have hi : Cor.isMove op = false := by unfold Cor.isMove; exact decide_eq_false (by omega)
    unfold Cor.exec Cor.plain
    simp only [hi, n1, n43, n2, n3, n18, n29, n30, n25, n26, n27, n28, or_self, if_false, Bool.false_eq_true]
  rw [he]
  have hrd : ∀ i, s.R i < 18446744073709551616 := hs.R
  clear he n1 n43 n2 n3 n18 n29 n30 n25 n26 n27 n28 n19 n20 n21 n22 n23 n24
  obtain ⟨R, pc, f⟩ := s
  obtain ⟨hR, hpc, hf⟩ := hs
  dsimp only at h hm hR hpc hf ⊢
  obtain ⟨W1, e1⟩ : ∃ W1, w.alloc (Obj.cells #[.int .i64 op, .int .i64 (a : Nat), .int .i64 (b : Nat), .int .i64 (d : Nat), .int .i32 m] 27) = W1 := ⟨_, rfl⟩
  obtain ⟨X, eX⟩ : ∃ X, w.heap.size = X := ⟨_, rfl⟩
  have hx1 : XS W1 X op a b d m := by rw [← e1, ← eX]; exact heap_alloc_new w _
  have hn1 : Nr [c, y] w W1 := by rw [← e1]; exact (Nr.refl _ _).alloc _
  have hc1 : CS W1 c 35 R pc := h.below (by rw [← e1]; exact below_alloc1 w _)
  have hm1 : MS W1 g y n hole f := hm.below (by rw [← e1]; exact below_alloc1 w _)
  have hcX : X ≠ c := by have := h.lt; omega
  have kx : ∀ p : Nearby W1, p.W.cell? ⟨X, 1, none⟩ = some (.int .i64 (a : Nat)) ∧ p.W.cell? ⟨X, 2, none⟩ = some (.int .i64 (b : Nat)) ∧ p.W.cell? ⟨X, 4, none⟩ = some (.int .i32 m) ∧ p.W.cell? ⟨c, 16, none⟩ = some (.int .u64 (pc : Nat)) ∧ p.W.cell? ⟨c, b, none⟩ = some (.int .u64 (R b : Nat)) := fun p => by
    obtain ⟨x0, x1, x2, x3, x4⟩ := (hx1.nr p.near (by simp)).cells
    exact ⟨x1, x2, x4, (hc1.nr p.near (by simp)).next, (hc1.nr p.near (by simp)).cell hb⟩
  have k1 := fun p => (kx p).1
  have k2 := fun p => (kx p).2.1
  have k4 := fun p => (kx p).2.2.1
  have kp := fun p => (kx p).2.2.2.1
  have kb := fun p => (kx p).2.2.2.2
  have hb' : (b : Int) < 16 := by omega
  have ha' : (a : Int) < 16 := by omega
  have z1 : IntKind.i64.wrap m = m := IntWalk.i64_in _ (by omega)
  have z2 := Cor.ext_wrap m
  have z3 : IntKind.u64.wrap ((pc : Int) + 8) = (Cor.nxt pc : Nat) := by rw [wrap64]; unfold Cor.nxt; omega
  have z4 : IntKind.u64.wrap (8 * (Cor.ext m : Int)) = ((8 * Cor.ext m % 18446744073709551616 : Nat) : Int) := by rw [wrap64]; omega
  have z5 : IntKind.u64.wrap ((pc : Int) + ((8 * Cor.ext m % 18446744073709551616 : Nat) : Int)) = (Cor.far pc m : Nat) := by rw [wrap64]; unfold Cor.far; omega
  generalize hE : Cor.ext m = E at z2 z4 z5
  generalize 8 * E % 18446744073709551616 = E8 at z4 z5
  generalize hN : Cor.nxt pc = N at z3
  generalize hF : Cor.far pc m = F at z5
  have HG := Lib.hid (And.intro hE (And.intro hN hF))
  have HH := Lib.hid (And.intro hx1 (And.intro hn1 (And.intro hc1 hm1)))
  have HI := Lib.hid (And.intro hR (And.intro hpc hf))
  have HJ := Lib.hid (And.intro i1 i2)
  clear kx hR hpc h hx1 hn1 hc1 hf hm hm1 i1 i2 hE hN hF
  unfold IV
  obtain ⟨v, o, hv⟩ : ∃ v o, Alu.rk op (R b) (R d) = (v, o) := ⟨_, _, rfl⟩
  rw [hv]
  dsimp only
  have HV := Lib.hid hv
  have HB := Lib.hid hrd
  clear hv hrd
  go_enter Try.func14, Try.ntmps14
  go_upto_region 1 with fail
  refine wp_region_near (by kernel_rfl) (by kernel_rfl) ?_
  repeat (quiet_step (fail))
  refine wpQuiet_nil ?_
  intro _ hw'
  obtain ⟨p, hw''⟩ := hw'
  subst hw''
  obtain ⟨W2, hp⟩ := p
  have hc2 := HH.out.2.2.1.nr hp (by simp)
  have hm2 := HH.out.2.2.2.nr hp (by simp) (by simp)
  have hx2 := HH.out.1.nr hp (by simp)
  have hn2 := HH.out.2.1.next hp
  dsimp only
  clear HH kb k1 k2 k4 kp hp e1
  have kp : ∀ p : Nearby W2, p.W.cell? ⟨c, 16, none⟩ = some (.int .u64 (pc : Nat)) := fun p => (hc2.nr p.near (by simp)).next
  have HH := Lib.hid (And.intro hx2 (And.intro hn2 (And.intro hc2 hm2)))
  clear hx2 hn2 hc2 hm2
  go_upto_region 2 with fail
  refine wp_region_near (by kernel_rfl) (by kernel_rfl) ?_
  repeat (quiet_step (fail))
  refine wpQuiet_nil ?_
  intro _ hw'
  obtain ⟨p, hw''⟩ := hw'
  subst hw''
  obtain ⟨W3, hp⟩ := p
  have HC := Lib.hid (HH.out.2.2.1.nr hp (by simp))
  have HM := Lib.hid (HH.out.2.2.2.nr hp (by simp) (by simp))
  have HX := Lib.hid (HH.out.1.nr hp (by simp))
  have HN := Lib.hid (HH.out.2.1.next hp)
  dsimp only
  clear HH kp hp z1 z2 z3 z4 z5
  have k0 := HX.out.cells.1
  have M := Lib.hid (reck_core op a b d m W3 HC.out HB.out ha hb hd)
  rw [HV.out] at M
  dsimp only at M
  have x0 := HX.out
  unfold XS at x0
  obtain ⟨x1, x2, x3, x4, x5⟩ := HX.out.cells
  cases o
  · rw [if_neg (by decide)] at M
    rw [if_neg (by decide)] at M
    go_wp2_with fail
    refine M.out.mono ?_; rintro e w5 ⟨rfl, h5, h7⟩
    have HE := Lib.hid (And.intro h5 (And.intro (HM.out.nr h7 (by simpa using fun e => hcg e.symm) (by simpa using fun e => hcy e.symm)) (HN.out.trans h7 (fun x hx => .inl (by simpa using .inl (by simpa using hx))))))
    clear h5 h7 M
    go_wp2_with fail
    go_ret
    exact ⟨rfl, HE.out⟩
  · rw [if_pos rfl] at M
    rw [if_pos rfl] at M
    go_wp2_with fail
    refine M.out.mono ?_; rintro e w5 ⟨rfl, h5, h7⟩
    have h6 := HM.out.nr h7 (by simpa using fun e => hcg e.symm) (by simpa using fun e => hcy e.symm)
    have kn := h5.next
    have kf := h5.free 16
    have HE := Lib.hid (And.intro (h5.go N) (And.intro (h6.nr (Nr.of_turn (Turn.set w5 c 16 (.int .u64 (N : Nat)))) (by simpa using fun e => hcg e.symm) (by simpa using fun e => hcy e.symm)) ((HN.out.trans h7 (fun x hx => .inl (by simpa using .inl (by simpa using hx)))).set (b := c) (.inl (by simp)) 16 (.int .u64 (N : Nat)))))
    clear h5 h6 h7 M
    go_wp2_with fail
    go_ret
    refine ⟨rfl, ?_⟩
    dsimp only
    exact HE.out
theorem exec_any {c g y n : Nat} {hole : Int} {s : Cor.S} (a b d : Nat) (m : Int) (w : World) (h : CS w c 35 s.R s.pc) (hm : MS w g y n hole s.f) (hs : Cor.Ok s) (hcg : c ≠ g) (hcy : c ≠ y) (ha : a < 16) (hb : b < 16) (hd : d < 16) (i1 : -2147483648 ≤ m) (i2 : m ≤ 2147483647) (op : Int) :
    Calls Try.prog 14 #[.pointer (some ⟨c, 0, none⟩), .agg #[.int .i64 op, .int .i64 (a : Nat), .int .i64 (b : Nat), .int .i64 (d : Nat), .int .i32 m], IV g] w fun e w' => EO 35 c g y n hole (Cor.exec n hole op a b d m s) w e w' := by
  by_cases n1 : op = 1
  · subst n1; exact ex_halt a b d m w h hm hs hcg hcy ha hb hd i1 i2
  by_cases n43 : op = 43
  · subst n43; exact ex_trap a b d m w h hm hs hcg hcy ha hb hd i1 i2
  by_cases n2 : op = 2
  · subst n2; exact ex_li a b d m w h hm hs hcg hcy ha hb hd i1 i2
  by_cases n3 : op = 3
  · subst n3; exact ex_hi a b d m w h hm hs hcg hcy ha hb hd i1 i2
  by_cases n18 : op = 18
  · subst n18; exact ex_addi a b d m w h hm hs hcg hcy ha hb hd i1 i2
  by_cases n29 : op = 29
  · subst n29; exact ex_jal a b d m w h hm hs hcg hcy ha hb hd i1 i2
  by_cases n30 : op = 30
  · subst n30; exact ex_jr a b d m w h hm hs hcg hcy ha hb hd i1 i2
  by_cases n25 : op = 25
  · subst n25; exact ex_b25 a b d m w h hm hs hcg hcy ha hb hd i1 i2
  by_cases n26 : op = 26
  · subst n26; exact ex_b26 a b d m w h hm hs hcg hcy ha hb hd i1 i2
  by_cases n27 : op = 27
  · subst n27; exact ex_b27 a b d m w h hm hs hcg hcy ha hb hd i1 i2
  by_cases n28 : op = 28
  · subst n28; exact ex_b28 a b d m w h hm hs hcg hcy ha hb hd i1 i2
  by_cases n19 : op = 19
  · subst n19; exact ex_m19 a b d m w h hm hs hcg hcy ha hb hd i1 i2
  by_cases n20 : op = 20
  · subst n20; exact ex_m20 a b d m w h hm hs hcg hcy ha hb hd i1 i2
  by_cases n21 : op = 21
  · subst n21; exact ex_m21 a b d m w h hm hs hcg hcy ha hb hd i1 i2
  by_cases n22 : op = 22
  · subst n22; exact ex_m22 a b d m w h hm hs hcg hcy ha hb hd i1 i2
  by_cases n23 : op = 23
  · subst n23; exact ex_m23 a b d m w h hm hs hcg hcy ha hb hd i1 i2
  by_cases n24 : op = 24
  · subst n24; exact ex_m24 a b d m w h hm hs hcg hcy ha hb hd i1 i2
  exact ex_rest a b d m w h hm hs hcg hcy ha hb hd i1 i2 op n1 n43 n2 n3 n18 n29 n30 n25 n26 n27 n28 n19 n20 n21 n22 n23 n24
end Go.Proofs.Ytojnokaeopadfaa
