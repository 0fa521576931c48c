/- SlotsAlike. -/
import Derived.Test.YtjmdgmlpecjolaaCd
set_option linter.unusedVariables false
set_option linter.unusedSimpArgs false
namespace Go.Proofs.Ytjmdgmlpecjolaa
open Go.RowKit
set_option linter.unusedVariables false
set_option linter.unusedSimpArgs false
variable {W w w' : World} {B off n cp ba bb q s b b2 : Nat} {ys : List Sl} {l nn : Int} {tb : Nat → Int} {c c' : Ck}
theorem KS.other (h : KS W B off n cp ys b c w) (ht : Turn [b2] w w') (hW : W.heap.size ≤ b2) (hne : b ≠ b2) (hB : B ≠ b2) : KS W B off n cp ys b c w' :=
  ⟨below_turn h.hw ht (fun x hx => by simp at hx; subst hx; exact hW), h.ht.turn ht (by simpa using hB), h.hv.turn ht (by simpa using hne), h.hb, h.ne⟩
/-- Two clocks of the same ticks; of one of them there were no turns. -/
structure AL (W : World) (B off n cp : Nat) (ys : List Sl) (ba bb q s : Nat) (l nn : Int) (tb : Nat → Int) (w : World) : Prop where
  a : KS W B off n cp ys ba ⟨s, l, nn, fun _ => 0⟩ w
  b : KS W B off n cp ys bb ⟨s, l, nn, tb⟩ w
  ne : ba ≠ bb
  oa : Kok ys ⟨s, l, nn, fun _ => 0⟩
  hn : 0 ≤ nn ∧ nn ≤ q
  ht : ∀ i, 0 ≤ tb i ∧ tb i ≤ q
theorem AL.ob (h : AL W B off n cp ys ba bb q s l nn tb w) : Kok ys ⟨s, l, nn, tb⟩ := ⟨h.oa.s, h.oa.l⟩
theorem AL.s8 (h : AL W B off n cp ys ba bb q s l nn tb w) : s < 8 := by have := h.oa.s; have := h.a.ht.l; have := h.a.ht.h8; simp only at *; omega
/-- A turn of the other one. -/
theorem AL.turn (h : AL W B off n cp ys ba bb q s l nn tb w) (hq : q ≤ 10000) : Calls Try.prog 11 #[.pointer (some ⟨bb, 0, none⟩)] w fun e w' => e = .returned (.tuple #[]) ∧ ∃ tb', AL W B off n cp ys ba bb (q + 1) s l nn tb' w' :=
  (h.b.next h.ob (by have := h.ht s; show 0 ≤ tb s ∧ tb s ≤ 1000000; omega)).mono fun e w' ⟨e1, e2, e3⟩ => ⟨e1, updT tb s (tb s + 1), h.a.other e3 h.b.hb h.ne h.b.ne, e2, h.ne, h.oa, by have := h.hn; omega, fun i => by
    have := h.ht i
    have := h.ht s
    unfold updT
    split <;> omega⟩
/-- A tick of the first: the other is behind. -/
theorem AL.tick1 (h : AL W B off n cp ys ba bb q s l nn tb w) (hq : q ≤ 10000) : Calls Try.prog 10 #[.pointer (some ⟨ba, 0, none⟩), .slice (some ⟨B, off, none⟩) n cp] w fun e w' => e = .returned (.bool (decide (l ≤ 1))) ∧
    Calls Try.prog 10 #[.pointer (some ⟨bb, 0, none⟩), .slice (some ⟨B, off, none⟩) n cp] w' fun e w'' => e = .returned (.bool (decide (l ≤ 1))) ∧ ∃ s' l', AL W B off n cp ys ba bb (q + 1) s' l' (nn + 1) tb w'' := by
  refine (h.a.tick h.oa (by have := h.hn; simp only; omega)).mono fun e w1 ⟨e1, e2, e3⟩ => ⟨e1, ?_⟩
  have hb := h.b.other e3 h.a.hb (Ne.symm h.ne) h.a.ne
  refine (hb.tick h.ob (by have := h.hn; simp only; omega)).mono fun e w2 ⟨f1, f2, f3⟩ => ⟨f1, ?_⟩
  have ha := e2.other f3 h.b.hb h.ne h.b.ne
  have hok := h.oa.tick h.a.ht
  by_cases hl : l > 1
  · have t1 : tick ys ⟨s, l, nn, fun _ => 0⟩ = ⟨s, l - 1, nn + 1, fun _ => 0⟩ := by unfold tick; simp only; rw [if_pos hl]
    have t2 : tick ys ⟨s, l, nn, tb⟩ = ⟨s, l - 1, nn + 1, tb⟩ := by unfold tick; simp only; rw [if_pos hl]
    rw [t1] at ha hok
    rw [t2] at f2
    exact ⟨s, l - 1, ha, f2, h.ne, hok, by have := h.hn; omega, fun i => by have := h.ht i; omega⟩
  · have t1 : tick ys ⟨s, l, nn, fun _ => 0⟩ = ⟨nxt ys s, tk ys (nxt ys s), nn + 1, fun _ => 0⟩ := by unfold tick; simp only; rw [if_neg hl]
    have t2 : tick ys ⟨s, l, nn, tb⟩ = ⟨nxt ys s, tk ys (nxt ys s), nn + 1, tb⟩ := by unfold tick; simp only; rw [if_neg hl]
    rw [t1] at ha hok
    rw [t2] at f2
    exact ⟨_, _, ha, f2, h.ne, hok, by have := h.hn; omega, fun i => by have := h.ht i; omega⟩
theorem AL.start {x : Int} (ht : TW w B off n cp ys) (hw : Below W.heap.size W w) (hx : x = tk ys 0) (ba bb : Nat) (h1 : ba = w.heap.size) (h2 : bb = w.heap.size + 1) (hT : Turn [] w w') (ha : CV w' ba (ck0 x)) (hb : CV w' bb (ck0 x)) :
    AL W B off n cp ys ba bb 0 0 x 0 (fun _ => 0) w' := by
  have hlt := ht.lt
  have hs := hw.size
  refine ⟨⟨below_up hw hT.nil, ht.below hT.nil, ha, by omega, by omega⟩, ⟨below_up hw hT.nil, ht.below hT.nil, hb, by omega, by omega⟩, by omega, ?_, by omega, fun i => by simp⟩
  rw [hx]
  exact Kok.new ht
set_option maxRecDepth 100000 in
set_option maxHeartbeats 4000000 in
theorem alike_all (A1 A2 : Option Addr) (n1 c1 n2 c2 : Nat) (a0 : Int) (xs1 xs2 : List Int) (w : World) (hc1 : n1 ≤ c1) (hcm1 : c1 ≤ maxLen) (hl1 : xs1.length = n1) (hr1 : LR inI w A1 xs1)
    (hc2 : n2 ≤ c2) (hcm2 : c2 ≤ maxLen) (hl2 : xs2.length = n2) (hr2 : LR inI w A2 xs2) :
    Calls Try.prog 6 #[.slice A1 n1 c1, .int .i64 a0, .slice A2 n2 c2] w fun e w' => e = .returned (.bool true) ∧ Below w.heap.size w w' := by
  have B0 := Lib.hid (fit_any w)
  have HR1 := Lib.hid (And.intro hl1 hr1)
  have HR2 := Lib.hid (And.intro hl2 hr2)
  clear hl1 hr1 hl2 hr2
  have hcm1' : c1 ≤ 9223372036854775807 := hcm1
  have hcm2' : c2 ≤ 9223372036854775807 := hcm2
  by_cases hb1 : 50 < n1
  · have k1 : (n1 : Int) > 50 := by omega
    have k2 : (50 : Int) < n1 := by omega
    go_enter Try.func6, Try.ntmps6
    go_wp2_with fail
    refine B0.out.mono ?_; rintro e w1 ⟨rfl, hb⟩
    go_wp2_with fail
    go_ret
    exact ⟨rfl, hb⟩
  have k1 : ¬ (n1 : Int) > 50 := by omega
  have k2 : ¬ (50 : Int) < n1 := by omega
  have k3 : decide ((n1 : Int) > 50) = false := decide_eq_false k1
  have k3' : decide ((50 : Int) < n1) = false := decide_eq_false k2
  by_cases hb2 : 200 < n2
  · have g1 : (n2 : Int) > 200 := by omega
    have g2 : (200 : Int) < n2 := by omega
    go_enter Try.func6, Try.ntmps6
    go_wp2_with fail
    refine B0.out.mono ?_; rintro e w1 ⟨rfl, hb⟩
    go_wp2_with fail
    go_ret
    exact ⟨rfl, hb⟩
  have g1 : ¬ (n2 : Int) > 200 := by omega
  have g2 : ¬ (200 : Int) < n2 := by omega
  have g3 : decide ((n2 : Int) > 200) = false := decide_eq_false g1
  have g3' : decide ((200 : Int) < n2) = false := decide_eq_false g2
  obtain ⟨tq, et, ht255⟩ := and255 a0
  go_enter Try.func6, Try.ntmps6
  go_wp2_with fail
  refine B0.out.mono ?_; rintro e w1 ⟨rfl, hb⟩
  have B1 := Lib.hid hb
  clear hb B0
  go_wp2_with fail
  refine (table_any hc1 hcm1 HR1.out.1 (HR1.out.2.below B1.out) (by omega)).mono ?_; rintro e w2 ⟨v, rfl, B, off, m, cp, ys, rfl, ht, hb, hB⟩
  have HT2 := Lib.hid (And.intro ht (below_up B1.out hb))
  clear ht hb hB B1 et
  go_wp2_with fail
  refine (new_any HT2.out.1).mono ?_; rintro e w3 ⟨rfl, hb⟩
  have HT3 := Lib.hid (And.intro (HT2.out.1.below hb) (below_up HT2.out.2 hb))
  clear hb HT2
  go_wp2_with fail
  refine (new_any HT3.out.1).mono ?_; rintro e w4 ⟨rfl, hb⟩
  have HT4 := Lib.hid (And.intro (HT3.out.1.below hb) (below_up HT3.out.2 hb))
  clear hb HT3
  have hcpm := HT4.out.1.c
  have hcpm' : cp ≤ 9223372036854775807 := HT4.out.1.m
  have ha1 := below_alloc1 w4 (Obj.cells #[.int .i64 0, .int .i64 (tk ys 0), .int .u64 0, .int .u64 0, .int .u64 0, .int .u64 0, .int .u64 0, .int .u64 0, .int .u64 0, .int .u64 0, .int .u64 0] 29)
  have ha2 := below_alloc1 (w4.alloc (Obj.cells #[.int .i64 0, .int .i64 (tk ys 0), .int .u64 0, .int .u64 0, .int .u64 0, .int .u64 0, .int .u64 0, .int .u64 0, .int .u64 0, .int .u64 0, .int .u64 0] 29)) (Obj.cells #[.int .i64 0, .int .i64 (tk ys 0), .int .u64 0, .int .u64 0, .int .u64 0, .int .u64 0, .int .u64 0, .int .u64 0, .int .u64 0, .int .u64 0, .int .u64 0] 29)
  have hv1 : CV (w4.alloc (Obj.cells #[.int .i64 0, .int .i64 (tk ys 0), .int .u64 0, .int .u64 0, .int .u64 0, .int .u64 0, .int .u64 0, .int .u64 0, .int .u64 0, .int .u64 0, .int .u64 0] 29)) w4.heap.size (ck0 (tk ys 0)) := heap_alloc_new w4 _
  have hv2 : CV ((w4.alloc (Obj.cells #[.int .i64 0, .int .i64 (tk ys 0), .int .u64 0, .int .u64 0, .int .u64 0, .int .u64 0, .int .u64 0, .int .u64 0, .int .u64 0, .int .u64 0, .int .u64 0] 29)).alloc (Obj.cells #[.int .i64 0, .int .i64 (tk ys 0), .int .u64 0, .int .u64 0, .int .u64 0, .int .u64 0, .int .u64 0, .int .u64 0, .int .u64 0, .int .u64 0, .int .u64 0] 29)) (w4.heap.size + 1) (ck0 (tk ys 0)) := by
    have := heap_alloc_new (w4.alloc (Obj.cells #[.int .i64 0, .int .i64 (tk ys 0), .int .u64 0, .int .u64 0, .int .u64 0, .int .u64 0, .int .u64 0, .int .u64 0, .int .u64 0, .int .u64 0, .int .u64 0] 29)) (Obj.cells #[.int .i64 0, .int .i64 (tk ys 0), .int .u64 0, .int .u64 0, .int .u64 0, .int .u64 0, .int .u64 0, .int .u64 0, .int .u64 0, .int .u64 0, .int .u64 0] 29)
    rw [World.size_alloc] at this
    exact this
  have HA := Lib.hid (AL.start HT4.out.1 HT4.out.2 rfl w4.heap.size (w4.heap.size + 1) rfl rfl (Turn.of_below (below_up ha1 ha2)) (hv1.below ha2) hv2)
  obtain ⟨ba, eba⟩ : ∃ ba, w4.heap.size = ba := ⟨_, rfl⟩
  obtain ⟨bb, ebb⟩ : ∃ bb, w4.heap.size + 1 = bb := ⟨_, rfl⟩
  have HE := Lib.hid (And.intro eba ebb)
  rw [ebb, eba] at HA
  clear ha1 ha2 hv1 hv2 eba ebb HT4
  go_wp2_with fail
  rw [HE.out.2, HE.out.1]
  clear HE
  go_loopg [30] tq (fun gh vi wr => ∃ k : Nat, k ≤ tq ∧ gh = tq - k ∧ vi = .int .i64 k ∧ Hid (∃ s l nn tb, AL w B off m cp ys ba bb (8 * k) s l nn tb wr))
  case atStart => exact ⟨0, by omega, by omega, rfl, Lib.hid ⟨_, _, _, _, HA.out⟩⟩
  case round =>
    clear HA
    obtain ⟨k, hk, hg, rfl, hI⟩ := hrel
    by_cases hlt : k < tq
    · have i1 : IntKind.i64.wrap ((k : Int) + 1) = (k : Int) + 1 := by rw [IntKind.wrap_i64]; omega
      have l1 : (k : Int) < tq := by omega
      have HK := Lib.hid (And.intro hk (And.intro ht255 hlt))
      clear hk ht255
      go_upto_if 36 with fail
      go_cut [] from 31 to 51 (fun wx => Hid (∃ q s l nn tb, q ≤ 8 * k + 7 ∧ AL w B off m cp ys ba bb q s l nn tb wx))
      case first =>
        by_cases hk2 : k < n2
        · have l2 : (k : Int) < n2 := by omega
          obtain ⟨y, hy⟩ : ∃ y, xs2[k]? = some y := ⟨_, List.getElem?_eq_getElem (by rw [HR2.out.1]; exact hk2)⟩
          obtain ⟨ab, ao, rfl, hab, hcell⟩ := HR2.out.2 k y hy
          obtain ⟨s, l, nn, tb, hA⟩ := hI.out
          have d1 : wr.cell? ⟨ab, ao + k, none⟩ = some (.int .i64 y) := by rw [hA.a.hw.cell (p := ⟨ab, ao + k, none⟩) hab]; exact hcell
          obtain ⟨N, eN, hN⟩ := and7 y
          have HA := Lib.hid hA
          clear hy hab hcell hI hA
          rw [decide_eq_true hk2]
          go_wp2_with fail
          clear d1 eN
          go_loopg [42] N (fun gh vj wx => ∃ j : Nat, j ≤ N ∧ gh = N - j ∧ vj = .int .i64 j ∧ Hid (∃ tb, AL w B off m cp ys ba bb (8 * k + j) s l nn tb wx))
          case atStart => exact ⟨0, by omega, by omega, rfl, Lib.hid ⟨_, HA.out⟩⟩
          case round =>
            clear HA
            obtain ⟨j, hj, hgj, rfl, hJ⟩ := hrel
            by_cases hjl : j < N
            · obtain ⟨tb2, hA⟩ := hJ.out
              have C := Lib.hid (hA.turn (by have := HK.out; omega))
              have i2 : IntKind.i64.wrap ((j : Int) + 1) = (j : Int) + 1 := by rw [IntKind.wrap_i64]; omega
              have l3 : (j : Int) < N := by omega
              clear hA hJ
              go_wp2_with fail
              refine C.out.mono ?_; rintro e w6 ⟨rfl, hR⟩
              have HJ := Lib.hid hR
              clear hR C
              go_wp2_with fail
              go_roundg (N - (j + 1))
              case rel => exact ⟨j + 1, by omega, rfl, by simp, HJ⟩
              case measure => first | omega | (simp; omega)
            · obtain rfl : j = N := by omega
              have HJ := Lib.hid (show ∃ q s l nn tb, q ≤ 8 * k + 7 ∧ AL w B off m cp ys ba bb q s l nn tb wr from hJ.out.elim fun tb h => ⟨_, _, _, _, _, by omega, h⟩)
              clear hJ hjl hj
              go_wp2_with fail
              go_meet
              exact HJ
        · have l2 : ¬ (k : Int) < n2 := by omega
          have HJ := Lib.hid (show ∃ q s l nn tb, q ≤ 8 * k + 7 ∧ AL w B off m cp ys ba bb q s l nn tb wr from hI.out.elim fun s h => h.elim fun l h => h.elim fun nn h => h.elim fun tb h => ⟨_, _, _, _, _, by omega, h⟩)
          clear hI
          go_wp2_with fail
          go_meet
          exact HJ
      case rest =>
        clear hI
        obtain ⟨q, s, l, nn, tb, hq, hA⟩ := hcut.out
        have C := hA.tick1 (by have := HK.out; omega)
        obtain ⟨d, ed⟩ : ∃ d, decide (l ≤ 1) = d := ⟨_, rfl⟩
        simp only [ed] at C
        have C := Lib.hid C
        have HQ := Lib.hid hq
        clear hcut hA ed hq
        go_wp2_with fail
        refine C.out.mono ?_; rintro e w6 ⟨rfl, hC⟩
        have C2 := Lib.hid hC
        clear C hC
        go_wp2_with fail
        refine C2.out.mono ?_; rintro e w7 ⟨rfl, hR⟩
        have HJ := Lib.hid (show ∃ s l nn tb, AL w B off m cp ys ba bb (8 * (k + 1)) s l nn tb w7 from hR.elim fun s h => h.elim fun l h => ⟨s, l, _, tb, h.a, h.b, h.ne, h.oa, by have := h.hn; have := HQ.out; omega, fun i => by have := h.ht i; have := HQ.out; omega⟩)
        clear hR C2
        go_wp2_with fail
        go_roundg (tq - (k + 1))
        case rel => exact ⟨k + 1, by have := HK.out; omega, rfl, by simp, HJ⟩
        case measure => first | omega | (simp; omega)
    · obtain rfl : k = tq := by omega
      obtain ⟨s, l, nn, tb, hA⟩ := hI.out
      have hs := hA.s8
      obtain ⟨T, eT⟩ : ∃ T : Nat, tb s = (T : Int) := ⟨(tb s).toNat, by have := hA.ht s; omega⟩
      have HA := Lib.hid hA
      have HC1 := Lib.hid (fun W' (hv : CV W' ba ⟨s, l, nn, fun _ => 0⟩) => turn_any hv hs 1 (by omega) (by omega) 0 rfl 0 rfl)
      have HC2 := Lib.hid (fun W' (hv : CV W' bb ⟨s, l, nn, tb⟩) => turn_any hv hs 1 (by omega) (by omega) T eT 0 (Nat.mod_one T))
      clear hA hI hlt hk hg hs eT
      go_wp2_with fail
      refine (slot_any HA.out.a.hv).mono ?_; rintro e w5 ⟨rfl, rfl⟩
      go_wp2_with fail
      refine (slot_any HA.out.b.hv).mono ?_; rintro e w5 ⟨rfl, rfl⟩
      go_wp2_with fail
      refine (now_any HA.out.a.hv).mono ?_; rintro e w5 ⟨rfl, rfl⟩
      go_wp2_with fail
      refine (now_any HA.out.b.hv).mono ?_; rintro e w5 ⟨rfl, rfl⟩
      go_wp2_with fail
      refine (HC1.out _ HA.out.a.hv).mono ?_; rintro e w5 ⟨rfl, hb⟩
      have HB5 := Lib.hid hb
      clear hb
      go_wp2_with fail
      refine (HC2.out _ (HA.out.b.hv.below HB5.out)).mono ?_; rintro e w6 ⟨rfl, hb⟩
      have HB6 := Lib.hid (below_up (below_up HA.out.a.hw HB5.out) hb)
      clear hb
      go_wp2_with fail
      go_ret
      exact ⟨rfl, HB6.out⟩
end Go.Proofs.Ytjmdgmlpecjolaa
