/- The law's own step. Written by genJd.py. -/
import Derived.Test.YtojnokaeopadfaaJc
import Derived.Test.YtojnokaeopadfaaHl
set_option linter.unusedVariables false
set_option linter.unusedSimpArgs false
namespace Cor
theorem plain_f (op : Int) (a b c : Nat) (m : Int) (s : S) : (plain op a b c m s).1.f = s.f := by
  unfold plain
  refine iteP (P := fun x : S × Int => x.1.f = s.f) rfl ?_
  refine iteP (P := fun x : S × Int => x.1.f = s.f) rfl ?_
  refine iteP (P := fun x : S × Int => x.1.f = s.f) rfl ?_
  refine iteP (P := fun x : S × Int => x.1.f = s.f) rfl ?_
  refine iteP (P := fun x : S × Int => x.1.f = s.f) rfl ?_
  refine iteP (P := fun x : S × Int => x.1.f = s.f) rfl ?_
  refine iteP (P := fun x : S × Int => x.1.f = s.f) rfl ?_
  refine iteP (P := fun x : S × Int => x.1.f = s.f) rfl ?_
  exact iteP (P := fun x : S × Int => x.1.f = s.f) rfl rfl
theorem im_in' (bs : List Nat) : -2147483648 ≤ Isa.im bs ∧ Isa.im bs ≤ 2147483647 := by unfold Isa.im Go.RowKit.wrap32; omega
/-- The bytes of a number that was loaded. -/
theorem ldf_parts {f : Nat → Nat} (h : ∀ i, f i < 256) (va : Nat) : ldf f va 8 < 18446744073709551616 ∧ ldf f va 8 / 72057594037927936 = f va ∧ ldf f va 8 / 281474976710656 % 256 = f (va + 1) ∧ ldf f va 8 / 1099511627776 % 256 = f (va + 2) ∧ ldf f va 8 / 4294967296 % 256 = f (va + 3) ∧
    Go.RowKit.wrap32 (ldf f va 8 : Nat) = Isa.im [f (va + 4), f (va + 5), f (va + 6), f (va + 7)] := by
  have h0 := h va
  have h1 := h (va + 1)
  have h2 := h (va + 2)
  have h3 := h (va + 3)
  have h4 := h (va + 4)
  have h5 := h (va + 5)
  have h6 := h (va + 6)
  have h7 := h (va + 7)
  have e : ldf f va 8 = (((((((f va * 256 + f (va + 1)) * 256 + f (va + 2)) * 256 + f (va + 3)) * 256 + f (va + 4)) * 256 + f (va + 5)) * 256 + f (va + 6)) * 256 + f (va + 7)) := by
    simp only [ldf, Nat.zero_mul, Nat.zero_add, Nat.add_zero]
  have e2 : Isa.im [f (va + 4), f (va + 5), f (va + 6), f (va + 7)] = Go.RowKit.wrap32 ((((f (va + 4) * 256 + f (va + 5)) * 256 + f (va + 6)) * 256 + f (va + 7) : Nat) : Int) := by
    unfold Isa.im Isa.num
    simp only [List.foldl, Nat.zero_mul, Nat.zero_add]
  rw [e, e2]
  generalize f va = x0 at *
  generalize f (va + 1) = x1 at *
  generalize f (va + 2) = x2 at *
  generalize f (va + 3) = x3 at *
  generalize f (va + 4) = x4 at *
  generalize f (va + 5) = x5 at *
  generalize f (va + 6) = x6 at *
  generalize f (va + 7) = x7 at *
  clear e e2
  refine ⟨by omega, by omega, by omega, by omega, by omega, ?_⟩
  unfold Go.RowKit.wrap32
  omega
end Cor
namespace Go.Proofs.Ytojnokaeopadfaa
open Go.RowKit

set_option maxRecDepth 100000 in
set_option maxHeartbeats 1000000 in
theorem ls_far {c g y n : Nat} {hole : Int} {s : Cor.S} (w : World) (h : CS w c 36 s.R s.pc) (hm : MS w g y n hole s.f) (hs : Cor.Ok s) (hcg : c ≠ g) (hcy : c ≠ y) (hp : 262144 ≤ s.pc) :
    Calls Try.prog 10 #[.pointer (some ⟨c, 0, none⟩), .pointer (some ⟨g, 0, none⟩)] w fun e w' => EO 36 c g y n hole (s, 6) w e w' := by
  have kn := h.next
  have g1 : 262144 ≤ (s.pc : Int) := by omega
  have HC := Lib.hid (And.intro h hm)
  clear h hm hs hp
  go_enter Try.func10, Try.ntmps10
  go_wp2_with fail
  go_ret
  exact ⟨rfl, HC.out.1, HC.out.2, Nr.refl _ _⟩
set_option maxRecDepth 100000 in
set_option maxHeartbeats 1000000 in
theorem ls_odd {c g y n : Nat} {hole : Int} {s : Cor.S} (w : World) (h : CS w c 36 s.R s.pc) (hm : MS w g y n hole s.f) (hs : Cor.Ok s) (hcg : c ≠ g) (hcy : c ≠ y) (hp : s.pc < 262144) (ho : s.pc % 8 ≠ 0) :
    Calls Try.prog 10 #[.pointer (some ⟨c, 0, none⟩), .pointer (some ⟨g, 0, none⟩)] w fun e w' => EO 36 c g y n hole (s, 6) w e w' := by
  have kn := h.next
  have g1 : ¬ 262144 ≤ (s.pc : Int) := by omega
  obtain ⟨q, eq⟩ : ∃ q, s.pc % 8 = q := ⟨_, rfl⟩
  have p2 : (s.pc : Int).tmod 8 = (q : Int) := by rw [Int.tmod_eq_emod_of_nonneg (by omega)]; omega
  have g2 : ((q : Int) == 0) = false := by simp; omega
  have HC := Lib.hid (And.intro h hm)
  clear h hm hs hp eq ho
  go_enter Try.func10, Try.ntmps10
  go_wp2_with fail
  go_ret
  exact ⟨rfl, HC.out.1, HC.out.2, Nr.refl _ _⟩
set_option maxRecDepth 100000 in
set_option maxHeartbeats 1000000 in
theorem ls_none {c g y n : Nat} {hole : Int} {s : Cor.S} (w : World) (h : CS w c 36 s.R s.pc) (hm : MS w g y n hole s.f) (hs : Cor.Ok s) (hcg : c ≠ g) (hcy : c ≠ y) (hp : s.pc < 262144) (ho : s.pc % 8 = 0) (hok : Cor.ok n hole s.pc 8 = false) :
    Calls Try.prog 10 #[.pointer (some ⟨c, 0, none⟩), .pointer (some ⟨g, 0, none⟩)] w fun e w' => EO 36 c g y n hole (s, 3) w e w' := by
  have kn := h.next
  have g1 : ¬ 262144 ≤ (s.pc : Int) := by omega
  have p1 : IntKind.i64.wrap (s.pc : Int) = s.pc := IntWalk.i64_in _ (by omega)
  have p2 : (s.pc : Int).tmod 8 = 0 := by rw [Int.tmod_eq_emod_of_nonneg (by omega)]; omega
  have M := Lib.hid (mload_any s.pc 8 w hm (by omega) hs.f (.inr (.inr rfl)))
  rw [hok, show ((8 : Nat) : Int) = 8 from rfl] at M
  have HC := Lib.hid (And.intro h hm)
  clear h hm hs hp ho hok
  go_enter Try.func10, Try.ntmps10
  go_wp2_with fail
  refine M.out.mono ?_; rintro e w1 ⟨rfl, rfl⟩
  go_wp2_with fail
  go_ret
  exact ⟨rfl, HC.out.1, HC.out.2, Nr.refl _ _⟩
set_option maxRecDepth 100000 in
set_option maxHeartbeats 1000000 in
theorem ls_bad {c g y n : Nat} {hole : Int} {s : Cor.S} (w : World) (h : CS w c 36 s.R s.pc) (hm : MS w g y n hole s.f) (hs : Cor.Ok s) (hcg : c ≠ g) (hcy : c ≠ y) (hp : s.pc < 262144) (ho : s.pc % 8 = 0) (hok : Cor.ok n hole s.pc 8 = true) (o a b d : Nat) (m : Int) (v0 : s.f s.pc = o) (v1 : s.f (s.pc + 1) = a) (v2 : s.f (s.pc + 2) = b) (v3 : s.f (s.pc + 3) = d) (v4 : Isa.im [s.f (s.pc + 4), s.f (s.pc + 5), s.f (s.pc + 6), s.f (s.pc + 7)] = m) (hr : decide (Isa.Right o a b d) = false) :
    Calls Try.prog 10 #[.pointer (some ⟨c, 0, none⟩), .pointer (some ⟨g, 0, none⟩)] w fun e w' => EO 36 c g y n hole (s, 4) w e w' := by
  have kn := h.next
  have g1 : ¬ 262144 ≤ (s.pc : Int) := by omega
  have p1 : IntKind.i64.wrap (s.pc : Int) = s.pc := IntWalk.i64_in _ (by omega)
  have p2 : (s.pc : Int).tmod 8 = 0 := by rw [Int.tmod_eq_emod_of_nonneg (by omega)]; omega
  have M := Lib.hid (mload_any s.pc 8 w hm (by omega) hs.f (.inr (.inr rfl)))
  rw [hok, show ((8 : Nat) : Int) = 8 from rfl] at M
  obtain ⟨lx, l0, l1, l2, l3, l4⟩ := Cor.ldf_parts hs.f s.pc
  simp only [if_true] at M
  obtain ⟨x, ex⟩ : ∃ x, Cor.ldf s.f s.pc 8 = x := ⟨_, rfl⟩
  rw [ex] at lx l0 l1 l2 l3 l4 M
  rw [v0] at l0
  rw [v1] at l1
  rw [v2] at l2
  rw [v3] at l3
  rw [v4] at l4
  have D := Lib.hid (fun (W : World) => rdec_any x W lx o a b d m l0 l1 l2 l3 l4 false hr)
  have HC := Lib.hid (And.intro h hm)
  have HS := Lib.hid hs
  clear h hm hs hp ho hok lx l0 l1 l2 l3 l4 ex v0 v1 v2 v3 v4 hr
  go_enter Try.func10, Try.ntmps10
  go_wp2_with fail
  refine M.out.mono ?_; rintro e w1 ⟨rfl, rfl⟩
  go_wp2_with fail
  refine (D.out _).mono ?_; rintro e w2 ⟨rfl, hb2⟩
  have HXN := Lib.hid (fun o : Obj => And.intro ((HC.out.1.below hb2).below (below_alloc1 w2 o)) (And.intro ((HC.out.2.below hb2).below (below_alloc1 w2 o)) ((Nr.of_below (S := [c, y]) hb2).alloc o)))
  clear hb2 D M
  go_wp2_with fail
  go_ret
  exact ⟨rfl, HXN.out _⟩
set_option maxRecDepth 100000 in
set_option maxHeartbeats 1000000 in
theorem ls_plain {c g y n : Nat} {hole : Int} {s : Cor.S} (w : World) (h : CS w c 36 s.R s.pc) (hm : MS w g y n hole s.f) (hs : Cor.Ok s) (hcg : c ≠ g) (hcy : c ≠ y) (hp : s.pc < 262144) (ho : s.pc % 8 = 0) (hok : Cor.ok n hole s.pc 8 = true) (o a b d : Nat) (m : Int) (v0 : s.f s.pc = o) (v1 : s.f (s.pc + 1) = a) (v2 : s.f (s.pc + 2) = b) (v3 : s.f (s.pc + 3) = d) (v4 : Isa.im [s.f (s.pc + 4), s.f (s.pc + 5), s.f (s.pc + 6), s.f (s.pc + 7)] = m) (hr : decide (Isa.Right o a b d) = true) (hmv : Cor.isMove o = false) :
    Calls Try.prog 10 #[.pointer (some ⟨c, 0, none⟩), .pointer (some ⟨g, 0, none⟩)] w fun e w' => EO 36 c g y n hole (Cor.exec n hole o a b d m s) w e w' := by
  have hri : Isa.Right o a b d := of_decide_eq_true hr
  have ho1 : (1 : Int) ≤ o := by unfold Isa.Right at hri; omega
  have ho2 : (o : Int) ≤ 43 := by unfold Isa.Right at hri; omega
  have ha : a < 16 := by unfold Isa.Right at hri; omega
  have hb : b < 16 := by unfold Isa.Right at hri; omega
  have hd : d < 16 := by unfold Isa.Right at hri; omega
  have i1 : -2147483648 ≤ m := by rw [← v4]; exact (Cor.im_in' _).1
  have i2 : m ≤ 2147483647 := by rw [← v4]; exact (Cor.im_in' _).2
  have DO := Lib.hid (fun (L : Nat) (W : World) (h : CS W c 36 s.R s.pc) => do_any a b d m L W h hs ha hb hd i1 i2 o ho1 ho2)
  have kn := h.next
  have g1 : ¬ 262144 ≤ (s.pc : Int) := by omega
  have p1 : IntKind.i64.wrap (s.pc : Int) = s.pc := IntWalk.i64_in _ (by omega)
  have p2 : (s.pc : Int).tmod 8 = 0 := by rw [Int.tmod_eq_emod_of_nonneg (by omega)]; omega
  have M := Lib.hid (mload_any s.pc 8 w hm (by omega) hs.f (.inr (.inr rfl)))
  rw [hok, show ((8 : Nat) : Int) = 8 from rfl] at M
  obtain ⟨lx, l0, l1, l2, l3, l4⟩ := Cor.ldf_parts hs.f s.pc
  simp only [if_true] at M
  obtain ⟨x, ex⟩ : ∃ x, Cor.ldf s.f s.pc 8 = x := ⟨_, rfl⟩
  rw [ex] at lx l0 l1 l2 l3 l4 M
  rw [v0] at l0
  rw [v1] at l1
  rw [v2] at l2
  rw [v3] at l3
  rw [v4] at l4
  have D := Lib.hid (fun (W : World) => rdec_any x W lx o a b d m l0 l1 l2 l3 l4 true hr)
  have HC := Lib.hid (And.intro h hm)
  have HS := Lib.hid hs
  have ed : Cor.doing o a b d m 0 s = Cor.exec n hole o a b d m s := by
    have h1 : ¬ (19 ≤ (o : Int) ∧ (o : Int) ≤ 24) := by unfold Cor.isMove at hmv; simpa using hmv
    unfold Cor.doing Cor.exec
    rw [if_neg (by omega), if_neg (by omega), hmv, if_neg (by decide)]
  have N := Lib.hid (fun (W : World) => need_none (c := c) 36 o a b d m W hmv)
  rw [← ed]
  have ef : (Cor.doing o a b d m 0 s).1.f = s.f := by rw [ed]; unfold Cor.exec; rw [hmv, if_neg (by decide)]; exact Cor.plain_f o a b d m s
  have EF := Lib.hid ef
  clear h hm hs hp ho hok lx l0 l1 l2 l3 l4 ex v0 v1 v2 v3 v4 hr hri ho1 ho2 ha hb hd i1 i2 ed hmv ef
  go_enter Try.func10, Try.ntmps10
  go_wp2_with fail
  refine M.out.mono ?_; rintro e w1 ⟨rfl, rfl⟩
  clear g1 p1 p2 kn
  go_wp2_with fail
  refine (D.out _).mono ?_; rintro e w2 ⟨rfl, hb2⟩
  clear D M
  obtain ⟨W3, e3⟩ : ∃ W3, w2.alloc (Obj.cells #[.int .i64 (o : Nat), .int .i64 (a : Nat), .int .i64 (b : Nat), .int .i64 (d : Nat), .int .i32 m] 27) = W3 := ⟨_, rfl⟩
  obtain ⟨X, eX⟩ : ∃ X, w2.heap.size = X := ⟨_, rfl⟩
  have hx3 : XS W3 X o a b d m := by rw [← e3, ← eX]; exact heap_alloc_new w2 _
  have hb3 : Below w.heap.size w W3 := by rw [← e3]; exact hb2.alloc hb2.size _
  have hXc : c ≠ X := by have := HC.out.1.lt; have := hb2.size; omega
  have hXy : y ≠ X := by have := HC.out.2.lt.2; have := hb2.size; omega
  have HX := Lib.hid hx3
  have H3 := Lib.hid (And.intro (HC.out.1.below hb3) (And.intro (HC.out.2.below hb3) (Nr.of_below (S := [c, y]) hb3)))
  clear hx3 hb3 hb2
  obtain ⟨x0, x1, x2, x3, x4⟩ := HX.out.cells
  have xr := HX.out
  unfold XS at xr
  go_wp2_with fail
  refine (N.out _).mono ?_; rintro e w4 ⟨rfl, h4⟩
  have HX4 := HX.out.nr h4 (by simp)
  have H4 := Lib.hid (And.intro (H3.out.1.nr h4 (by simp)) (And.intro (H3.out.2.1.nr h4 (by simp) (by simp)) (H3.out.2.2.next h4)))
  clear N xr x0 x1 x2 x3 x4 h4
  have xr := HX4
  unfold XS at xr
  obtain ⟨x0, x1, x2, x3, x4⟩ := HX4.cells
  clear HX4
  go_wp2_with fail
  have h0 : (((0 : Nat) : Int)) = 0 := rfl
  refine (DO.out 0 _ H4.out.1).mono ?_; rintro e w5 ⟨rfl, h5, h6⟩
  have HE := Lib.hid (And.intro h5 (And.intro (H4.out.2.1.nr h6 (by simpa using fun e => hcg e.symm) (by simpa using fun e => hcy e.symm)) (H4.out.2.2.trans h6 (fun x hx => .inl (by simpa using .inl (by simpa using hx))))))
  clear h5 h6 DO
  go_wp2_with fail
  go_ret
  refine ⟨rfl, HE.out.1, ?_, HE.out.2.2⟩
  rw [EF.out]
  exact HE.out.2.1
end Go.Proofs.Ytojnokaeopadfaa
