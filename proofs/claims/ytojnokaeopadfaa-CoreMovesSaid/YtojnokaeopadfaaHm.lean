/- A core's step. -/
import Derived.Test.YtojnokaeopadfaaHl
set_option linter.unusedVariables false
set_option linter.unusedSimpArgs false
namespace Cor
theorem place_pc (pc : Nat) (h : pc < 18446744073709551616) : Alu.place pc 0 8 = if 262144 ≤ pc ∨ pc % 8 ≠ 0 then (0, false) else ((pc : Int), true) := by
  have e : ((pc : Int) + 0) % 18446744073709551616 = pc := by omega
  unfold Alu.place
  rw [e]
  by_cases h1 : 262144 ≤ pc ∨ pc % 8 ≠ 0
  · rw [if_pos h1, if_pos (by omega)]
  · rw [if_neg h1, if_neg (by omega)]
theorem im_in (bs : List Nat) : -2147483648 ≤ Isa.im bs ∧ Isa.im bs ≤ 2147483647 := by unfold Isa.im Go.RowKit.wrap32; omega
end Cor
namespace Go.Proofs.Ytojnokaeopadfaa
open Go.RowKit

theorem iface_not_nil (a : Option Addr) (w : World) : (binOp .eql 48 (.iface 29 (.pointer a)) .nilIface).run Try.prog w = .ok (.bool false) w := by kernel_rfl
set_option maxRecDepth 100000 in
theorem step_any {c g y n : Nat} {hole : Int} {s : Cor.S} (w : World) (h : CS w c 35 s.R s.pc) (hm : MS w g y n hole s.f) (hs : Cor.Ok s) (hcg : c ≠ g) (hcy : c ≠ y) :
    Calls Try.prog 9 #[.pointer (some ⟨c, 0, none⟩), IV g] w fun e w' => EO 35 c g y n hole (Cor.stp n hole s) w e w' := by
  have P := Lib.hid (fun (W : World) => place_core s.pc 0 8 W (.inr (.inr rfl)) hs.pc (by decide) (by decide))
  have ep := Cor.place_pc s.pc hs.pc
  have kn := h.next
  have hst : Cor.stp n hole s = if 262144 ≤ s.pc ∨ s.pc % 8 ≠ 0 then (s, 6) else if Cor.ok n hole s.pc 8 = false then (s, 3) else if Isa.Right (s.f s.pc : Nat) (s.f (s.pc + 1) : Nat) (s.f (s.pc + 2) : Nat) (s.f (s.pc + 3) : Nat) then Cor.exec n hole (s.f s.pc : Nat) (s.f (s.pc + 1)) (s.f (s.pc + 2)) (s.f (s.pc + 3)) (Isa.im [s.f (s.pc + 4), s.f (s.pc + 5), s.f (s.pc + 6), s.f (s.pc + 7)]) s else (s, 4) := rfl
  rw [show ((8 : Nat) : Int) = 8 from rfl] at P
  rw [hst]
  clear hst
  by_cases hpc : 262144 ≤ s.pc ∨ s.pc % 8 ≠ 0
  · rw [if_pos hpc] at ep
    rw [if_pos hpc]
    rw [ep] at P
    have HC := Lib.hid (And.intro h hm)
    clear h hm hs hpc ep
    unfold IV
    go_enter Try.func9, Try.ntmps9
    go_wp2_with fail
    refine (P.out _).mono ?_; rintro e w1 ⟨rfl, rfl⟩
    go_wp2_with fail
    go_ret
    exact ⟨rfl, HC.out.1, HC.out.2, Nr.refl _ _⟩
  · rw [if_neg hpc] at ep
    rw [if_neg hpc]
    rw [ep] at P
    have F := Lib.hid (fetch_any s.pc w hm (by omega) hs.f)
    have qn := iface_not_nil (some ⟨g, 0, none⟩)
    cases hok : Cor.ok n hole s.pc 8
    · rw [hok] at F
      rw [if_pos rfl]
      have HC := Lib.hid (And.intro h hm)
      clear h hm hs hpc ep hok
      unfold IV at F ⊢
      go_enter Try.func9, Try.ntmps9
      go_wp2_with fail
      refine (P.out _).mono ?_; rintro e w1 ⟨rfl, rfl⟩
      go_wp2_with fail
      refine F.out.mono ?_; rintro e w1 ⟨z, rfl, _, hb⟩
      have HB := Lib.hid hb
      clear hb F
      go_wp2_with fail
      go_ret
      exact ⟨rfl, HC.out.1.below HB.out, HC.out.2.below HB.out, Nr.of_below HB.out⟩
    · rw [hok] at F
      rw [if_neg (by decide)]
      have hf := hs.f
      have D := Lib.hid (fun (z : Nat) (W : World) (m : Int) (hm) (r : Bool) (hr) (v : Value) (hv) (hb) => decode_in z 0 8 (s.f s.pc) (s.f (s.pc + 1)) (s.f (s.pc + 2)) (s.f (s.pc + 3)) (s.f (s.pc + 4)) (s.f (s.pc + 5)) (s.f (s.pc + 6)) (s.f (s.pc + 7)) W (by omega) hb
        (by intro y hy; simp only [List.mem_cons, List.mem_nil_iff, or_false] at hy; rcases hy with rfl | rfl | rfl | rfl | rfl | rfl | rfl | rfl <;> exact hf _) m hm r hr v hv)
      obtain ⟨m, em⟩ : ∃ m, Isa.im [s.f (s.pc + 4), s.f (s.pc + 5), s.f (s.pc + 6), s.f (s.pc + 7)] = m := ⟨_, rfl⟩
      have i := Cor.im_in [s.f (s.pc + 4), s.f (s.pc + 5), s.f (s.pc + 6), s.f (s.pc + 7)]
      rw [em] at i ⊢
      by_cases hr : Isa.Right (s.f s.pc : Nat) (s.f (s.pc + 1) : Nat) (s.f (s.pc + 2) : Nat) (s.f (s.pc + 3) : Nat)
      · rw [if_pos hr]
        have D2 := Lib.hid (fun (z : Nat) (W : World) (hb) => D.out z W m em true (decide_eq_true hr) _ rfl hb)
        have E := Lib.hid (fun (W : World) (h : CS W c 35 s.R s.pc) (hm : MS W g y n hole s.f) => exec_any (s := s) (n := n) (hole := hole) (s.f (s.pc + 1)) (s.f (s.pc + 2)) (s.f (s.pc + 3)) m W h hm hs hcg hcy (by unfold Isa.Right at hr; omega) (by unfold Isa.Right at hr; omega) (by unfold Isa.Right at hr; omega) i.1 i.2 (s.f s.pc : Nat))
        have HC := Lib.hid (And.intro h hm)
        clear h hm hs hpc ep hok D hr em i hf
        generalize s.f s.pc = f0 at D2 E F ⊢
        unfold IV at F E ⊢
        go_enter Try.func9, Try.ntmps9
        go_wp2_with fail
        refine (P.out _).mono ?_; rintro e w1 ⟨rfl, rfl⟩
        go_wp2_with fail
        refine F.out.mono ?_; rintro e w1 ⟨z, rfl, hbr, hb⟩
        have HB := Lib.hid (And.intro hb (hbr (by first | rfl | trivial)))
        clear hb F hbr
        go_wp2_with fail
        refine (D2.out z w1 HB.out.2).mono ?_; rintro e w2 ⟨rfl, hb2⟩
        have HB2 := Lib.hid (hb2.mono HB.out.1.size |> HB.out.1.trans)
        clear hb2 D2
        simp only [if_true]
        have HC2 := Lib.hid (And.intro (HC.out.1.below HB2.out) (And.intro (HC.out.2.below HB2.out) (Nr.of_below (S := [c, y]) HB2.out)))
        clear HB HB2
        have HXN := Lib.hid (fun o : Obj => And.intro (HC2.out.1.below (below_alloc1 w2 o)) (And.intro (HC2.out.2.1.below (below_alloc1 w2 o)) (HC2.out.2.2.alloc o)))
        go_wp2_with fail
        refine (E.out _ (HXN.out _).1 (HXN.out _).2.1).mono ?_; rintro e w3 ⟨rfl, h3, h4, h5⟩
        have HE := Lib.hid (And.intro h3 (And.intro h4 ((HXN.out _).2.2.trans h5 (fun x hx => .inl hx))))
        clear h3 h4 h5 E
        go_wp2_with fail
        go_ret
        exact ⟨rfl, HE.out⟩
      · rw [if_neg hr]
        have D2 := Lib.hid (fun (z : Nat) (W : World) (hb) => D.out z W m em false (decide_eq_false hr) _ rfl hb)
        have HC := Lib.hid (And.intro h hm)
        clear h hm hs hpc ep hok D hr em i hf
        unfold IV at F ⊢
        go_enter Try.func9, Try.ntmps9
        go_wp2_with fail
        refine (P.out _).mono ?_; rintro e w1 ⟨rfl, rfl⟩
        go_wp2_with fail
        refine F.out.mono ?_; rintro e w1 ⟨z, rfl, hbr, hb⟩
        have HB := Lib.hid (And.intro hb (hbr (by first | rfl | trivial)))
        clear hb F hbr
        go_wp2_with fail
        refine (D2.out z w1 HB.out.2).mono ?_; rintro e w2 ⟨rfl, hb2⟩
        have HB2 := Lib.hid (hb2.mono HB.out.1.size |> HB.out.1.trans)
        clear hb2 D2
        simp only [Bool.false_eq_true, if_false]
        unfold zeroV
        have HC2 := Lib.hid (And.intro (HC.out.1.below HB2.out) (And.intro (HC.out.2.below HB2.out) (Nr.of_below (S := [c, y]) HB2.out)))
        clear HB HB2
        have HXN := Lib.hid (fun o : Obj => And.intro (HC2.out.1.below (below_alloc1 w2 o)) (And.intro (HC2.out.2.1.below (below_alloc1 w2 o)) (HC2.out.2.2.alloc o)))
        go_wp2_with fail
        go_ret
        exact ⟨rfl, HXN.out _⟩
end Go.Proofs.Ytojnokaeopadfaa
