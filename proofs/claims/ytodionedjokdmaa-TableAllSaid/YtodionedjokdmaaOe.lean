/- What is read of tables: Len, container, kid, runsOn, In; New. -/
import Derived.Test.YtodionedjokdmaaOd
set_option linter.unusedVariables false
set_option linter.unusedSimpArgs false
namespace Go.Proofs.Ytodionedjokdmaa
open Go.RowKit
set_option linter.unusedVariables false
set_option linter.unusedSimpArgs false
section
variable {W w w' : World} {T T' : List Nat} {t : Nat} {M : Option Nat} {ns : List Nat} {G : Nat → Option Ob} {n c hm : Nat}
theorem len_nil (w : World) : (Builtin.len_ #[90] 3 #[.map none]).run Try.prog w = .ok (.int .i64 0) w := by kernel_rfl
theorem len_any (h : TS W T t M ns G w) : Calls Try.prog 23 #[.pointer (some ⟨t, 0, none⟩)] w fun e w' => e = .returned (.int .i64 (ns.length : Int)) ∧ w' = w := by
  have c0 := h.cell
  obtain ⟨l, el⟩ : ∃ l : Int, (ns.length : Int) = l := ⟨_, rfl⟩
  rw [el]
  rcases h.mp with ⟨rfl, rfl, _⟩ | ⟨m, rfl, _, h3⟩
  · obtain rfl : l = 0 := by rw [← el]; rfl
    have hl := len_nil w
    clear h el
    go_enter Try.func23, Try.ntmps23
    go_wp2_with fail
    go_ret
    exact ⟨rfl, rfl⟩
  · have hl := h3.len Try.underlying90 3
    rw [el] at hl
    clear h h3 el
    go_enter Try.func23, Try.ntmps23
    go_wp2_with fail
    go_ret
    exact ⟨rfl, rfl⟩
/-- A container. -/
def ctr (G : Nat → Option Ob) (n : Nat) : Option Ob := (G n).filter fun o => o.kd == 1
set_option maxHeartbeats 1000000 in
theorem cont_any (h : TS W T t M ns G w) (hn : U64 n) : Calls Try.prog 25 #[.pointer (some ⟨t, 0, none⟩), .int .u64 (n : Int)] w fun e w' => e = .returned (pb (ctr G n)) ∧ w' = w := by
  have C := Lib.hid (get_any h hn)
  cases hG : G n with
  | none =>
    have HR := Lib.hid (show pb (ctr G n) = .pointer none by unfold ctr; rw [hG]; rfl)
    rw [hG, show pb none = .pointer none from rfl] at C
    clear h hn hG
    go_enter Try.func25, Try.ntmps25
    go_wp2_with fail
    refine C.out.mono ?_; rintro e w1 ⟨rfl, rfl⟩
    go_wp2_with fail
    go_ret
    exact ⟨by rw [HR.out]; rfl, rfl⟩
  | some o =>
    obtain ⟨b, kd, hm, ks, th, on⟩ := o
    have hc := (h.ob n _ hG).cells.2.1
    simp only at hc
    rw [hG, show pb (some ⟨b, kd, hm, ks, th, on⟩) = .pointer (some ⟨b, 0, none⟩) from rfl] at C
    by_cases hk : kd = 1
    · have HR := Lib.hid (show pb (ctr G n) = .pointer (some ⟨b, 0, none⟩) by unfold ctr; rw [hG, hk]; rfl)
      subst hk
      clear h hn hG
      go_enter Try.func25, Try.ntmps25
      go_wp2_with fail
      refine C.out.mono ?_; rintro e w1 ⟨rfl, rfl⟩
      go_wp2_with fail
      go_ret
      exact ⟨by rw [HR.out]; rfl, rfl⟩
    · have HR := Lib.hid (show pb (ctr G n) = .pointer none by unfold ctr; rw [hG, Option.filter_some, if_neg (by simpa using hk)]; rfl)
      have q : (kd != 1) = true := by simpa using hk
      clear h hn hG hk
      go_enter Try.func25, Try.ntmps25
      go_wp2_with fail
      refine C.out.mono ?_; rintro e w1 ⟨rfl, rfl⟩
      go_wp2_with fail
      go_ret
      exact ⟨by rw [HR.out]; rfl, rfl⟩
/-- One of a container's. -/
def kdd (G : Nat → Option Ob) (hm n : Nat) : Option Ob := (G n).filter fun o => o.hm == hm
set_option maxHeartbeats 1000000 in
theorem kid_any (h : TS W T t M ns G w) (hn : U64 n) : Calls Try.prog 27 #[.pointer (some ⟨t, 0, none⟩), .int .u64 (hm : Int), .int .u64 (n : Int)] w fun e w' => e = .returned (pb (kdd G hm n)) ∧ w' = w := by
  have C := Lib.hid (get_any h hn)
  cases hG : G n with
  | none =>
    have HR := Lib.hid (show pb (kdd G hm n) = .pointer none by unfold kdd; rw [hG]; rfl)
    rw [hG, show pb none = .pointer none from rfl] at C
    clear h hn hG
    go_enter Try.func27, Try.ntmps27
    go_wp2_with fail
    refine C.out.mono ?_; rintro e w1 ⟨rfl, rfl⟩
    go_wp2_with fail
    go_ret
    exact ⟨by rw [HR.out]; rfl, rfl⟩
  | some o =>
    obtain ⟨b, kd, hm', ks, th, on⟩ := o
    have hc := (h.ob n _ hG).cells.2.2.1
    unfold inU at hc
    simp only at hc
    rw [hG, show pb (some ⟨b, kd, hm', ks, th, on⟩) = .pointer (some ⟨b, 0, none⟩) from rfl] at C
    by_cases hk : hm' = hm
    · have HR := Lib.hid (show pb (kdd G hm n) = .pointer (some ⟨b, 0, none⟩) by unfold kdd; rw [hG, hk]; simp [Option.filter]; rfl)
      subst hk
      clear h hn hG
      go_enter Try.func27, Try.ntmps27
      go_wp2_with fail
      refine C.out.mono ?_; rintro e w1 ⟨rfl, rfl⟩
      go_wp2_with fail
      go_ret
      exact ⟨by rw [HR.out]; rfl, rfl⟩
    · have HR := Lib.hid (show pb (kdd G hm n) = .pointer none by unfold kdd; rw [hG, Option.filter_some, if_neg (by simpa using hk)]; rfl)
      have q : ((hm' : Int) != (hm : Int)) = true := by simp; omega
      clear h hn hG hk
      go_enter Try.func27, Try.ntmps27
      go_wp2_with fail
      refine C.out.mono ?_; rintro e w1 ⟨rfl, rfl⟩
      go_wp2_with fail
      go_ret
      exact ⟨by rw [HR.out]; rfl, rfl⟩
/-- Is it a thread of that core? -/
def runs (o : Ob) (c : Int) : Bool := o.kd == 3 && (o.t.isSome && o.on == c)
set_option maxHeartbeats 1000000 in
theorem runs_any {own : Nat → Prop} {o : Ob} (h : OB own w n o) (c : Int) : Calls Try.prog 28 #[.pointer (some ⟨o.b, 0, none⟩), .int .i64 c] w fun e w' => e = .returned (.bool (runs o c)) ∧ w' = w := by
  obtain ⟨b, kd, hm', ks, th, on⟩ := o
  obtain ⟨_, c1, _, c2, _⟩ := h.cells
  have ht := h.2.2.2
  unfold runs
  simp only at c1 c2 ht ⊢
  by_cases hk : kd = 3
  · subst hk
    cases th with
    | none =>
      unfold vP at c2
      simp only [Option.map_none] at c2
      clear h ht
      go_enter Try.func28, Try.ntmps28
      go_wp2_with fail
      go_ret
      exact ⟨rfl, rfl⟩
    | some tb =>
      obtain ⟨_, cs, k1, k2⟩ := ht tb rfl
      have c3 : w.cell? ⟨tb, 21, none⟩ = some (.int .i64 on) := by rw [cell_of_row _ _ _ _ _ (0, 0) k1]; exact k2
      unfold vP at c2
      simp only [Option.map_some] at c2
      clear h ht k1 k2
      go_enter Try.func28, Try.ntmps28
      go_wp2_with fail
      go_ret
      exact ⟨by simp, rfl⟩
  · have q : (kd == 3) = false := by simpa using hk
    clear h ht hk
    rw [q]
    go_enter Try.func28, Try.ntmps28
    go_wp2_with fail
    go_ret
    exact ⟨rfl, rfl⟩
/-- In: so many homes are looked at. -/
def inT (G : Nat → Option Ob) (c : Nat) : Nat → Nat → Bool
  | 0, _ => false
  | f + 1, n => match G n with
    | none => false
    | some o => if n = c then true else inT G c f o.hm
theorem inT_succ (G : Nat → Option Ob) (c f n : Nat) : inT G c (f + 1) n = match G n with
    | none => false
    | some o => if n = c then true else inT G c f o.hm := rfl
set_option maxHeartbeats 1000000 in
theorem in_any (h : TS W T t M ns G w) (hn : U64 n) (hl : ns.length ≤ 100000) : Calls Try.prog 12 #[.pointer (some ⟨t, 0, none⟩), .int .u64 (n : Int), .int .u64 (c : Int)] w fun e w' => e = .returned (.bool (inT G c ns.length n)) ∧ w' = w := by
  have CL := Lib.hid (len_any h)
  have CG := Lib.hid (fun k hk => get_any (n := k) h hk)
  have HO := Lib.hid h.ob
  have HU := Lib.hid hn
  obtain ⟨L, eL⟩ : ∃ L, ns.length = L := ⟨_, rfl⟩
  rw [eL] at CL ⊢
  rw [eL] at hl
  have HL := Lib.hid hl
  clear h hn eL hl
  go_enter Try.func12, Try.ntmps12
  go_wp2_with fail
  refine CL.out.mono ?_; rintro e w1 ⟨rfl, rfl⟩
  clear CL
  go_wp2_with fail
  go_loopg [1, 10] L (fun gh v1 v10 wr => ∃ (k j : Nat), j ≤ L ∧ L - j ≤ gh ∧ v1 = .int .u64 k ∧ v10 = .int .i64 j ∧ wr = w1 ∧ Hid (U64 k) ∧ Hid (inT G c L n = inT G c (L - j) k))
  case atStart => exact ⟨n, 0, Nat.zero_le _, by omega, rfl, rfl, rfl, HU, Lib.hid rfl⟩
  case round =>
    obtain ⟨k, j, hj, hg, rfl, rfl, rfl, hk, hI⟩ := hrel
    have hLL := HL.out
    by_cases hlt : j < L
    · have l1 : (j : Int) < L := by omega
      have i1 : IntKind.i64.wrap ((j : Int) + 1) = ((j + 1 : Nat) : Int) := by rw [IntKind.wrap_i64]; omega
      have C := Lib.hid (CG.out k hk.out)
      obtain ⟨f, ef⟩ : ∃ f, L - j = f + 1 := ⟨L - j - 1, by omega⟩
      have hI' := hI.out
      rw [ef] at hI'
      rw [inT_succ] at hI'
      cases hG : G k with
      | none =>
        rw [hG] at C hI'
        simp only at hI'
        have HE := Lib.hid hI'
        rw [show pb none = .pointer none from rfl] at C
        clear hG hI' ef hg hj hLL
        go_wp2_with fail
        refine C.out.mono ?_; rintro e w2 ⟨rfl, rfl⟩
        go_wp2_with fail
        go_ret
        exact ⟨by rw [HE.out]; rfl, rfl⟩
      | some o =>
        have hcs := (HO.out k o hG).cells.2.2.1
        have hu := (HO.out k o hG).2.1.2.1
        obtain ⟨b, kd, hm', ks, th, on⟩ := o
        unfold inU at hcs
        simp only at hcs hu
        rw [hG] at C hI'
        simp only at hI'
        rw [show pb (some ⟨b, kd, hm', ks, th, on⟩) = .pointer (some ⟨b, 0, none⟩) from rfl] at C
        by_cases hkc : k = c
        · rw [if_pos hkc] at hI'
          have HE := Lib.hid hI'
          subst hkc
          clear hG hI' ef hg hj hLL hu
          go_wp2_with fail
          refine C.out.mono ?_; rintro e w2 ⟨rfl, rfl⟩
          go_wp2_with fail
          go_ret
          exact ⟨by rw [HE.out]; rfl, rfl⟩
        · rw [if_neg hkc] at hI'
          have q : ¬ (k : Int) = (c : Int) := by omega
          have HE : Hid (inT G c L n = inT G c (L - (j + 1)) hm') := Lib.hid (by rw [hI']; congr 1; omega)
          have HU2 := Lib.hid hu
          have HG := Lib.hid (show j + 1 ≤ L by omega)
          clear hG hI' ef hj hLL hkc hu
          go_wp2_with fail
          refine C.out.mono ?_; rintro e w2 ⟨rfl, rfl⟩
          go_wp2_with fail
          go_roundg (L - (j + 1))
          case rel => exact ⟨hm', j + 1, HG.out, Nat.le_refl _, rfl, by first | rfl | simp, rfl, HU2, HE⟩
          case measure => have := HG.out; omega
    · obtain rfl : j = L := by omega
      have hI' := hI.out
      rw [Nat.sub_self] at hI'
      have HE := Lib.hid (hI'.trans rfl)
      clear hlt hI' hLL
      go_wp2_with fail
      go_ret
      exact ⟨by rw [HE.out]; rfl, rfl⟩
/-- New. -/
theorem new_any (w : World) : Calls Try.prog 9 #[] w fun e w' => e = .returned (.pointer (some ⟨w.heap.size, 0, none⟩)) ∧ w' = w.alloc (Obj.cells #[.map none] 92) := by
  go_enter Try.func9, Try.ntmps9
  go_wp2_with fail
  go_ret
  exact ⟨rfl, rfl⟩
theorem TS.new (hb : Below W.heap.size W w) (hT : ∀ b ∈ T, b < w.heap.size) : TS W T w.heap.size none [] (fun _ => none) (w.alloc (Obj.cells #[.map none] 92)) :=
  ⟨hb.alloc hb.size _, fun b hm => by have := hT b hm; simp; omega, heap_alloc_new w _, ⟨hb.size, fun hm => by have := hT _ hm; omega⟩, .inl ⟨rfl, rfl, fun _ => rfl⟩, fun n o h => by cases h⟩
end
end Go.Proofs.Ytodionedjokdmaa
