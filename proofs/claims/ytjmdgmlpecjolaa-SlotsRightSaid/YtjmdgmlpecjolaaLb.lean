/- SlotsRuns. -/
import Derived.Test.YtjmdgmlpecjolaaLa
set_option linter.unusedVariables false
set_option linter.unusedSimpArgs false
namespace Go.Proofs.Ytjmdgmlpecjolaa
open Go.RowKit
set_option linter.unusedVariables false
set_option linter.unusedSimpArgs false
set_option maxRecDepth 100000 in
set_option maxHeartbeats 4000000 in
theorem runs_all (A1 A2 : Option Addr) (n1 c1 n2 c2 : Nat) (xs1 xs2 : List Int) (w : World) (hc1 : n1 ≤ c1) (hcm1 : c1 ≤ maxLen) (hl1 : xs1.length = n1) (hr1 : LR inI w A1 xs1)
    (hc2 : n2 ≤ c2) (hcm2 : c2 ≤ maxLen) (hl2 : xs2.length = n2) (hr2 : LR inI w A2 xs2) :
    Calls Try.prog 3 #[.slice A1 n1 c1, .slice A2 n2 c2] w fun e w' => e = .returned (.bool true) ∧ Below w.heap.size w w' := by
  have B0 := Lib.hid (fit_any w)
  have HR1 := Lib.hid (And.intro hl1 hr1)
  have HR2 := Lib.hid (And.intro hl2 hr2)
  clear hl1 hr1 hl2 hr2
  have hcm1' : c1 ≤ 9223372036854775807 := hcm1
  have hcm2' : c2 ≤ 9223372036854775807 := hcm2
  by_cases hb2 : 500 < n2
  · have g1 : (n2 : Int) > 500 := by omega
    have g2 : (500 : Int) < n2 := by omega
    go_enter Try.func3, Try.ntmps3
    go_wp2_with fail
    refine B0.out.mono ?_; rintro e w1 ⟨rfl, hb⟩
    go_wp2_with fail
    go_ret
    exact ⟨rfl, hb⟩
  have g1 : ¬ (n2 : Int) > 500 := by omega
  have g2 : ¬ (500 : Int) < n2 := by omega
  have g3 : decide ((n2 : Int) > 500) = false := decide_eq_false g1
  have g3' : decide ((500 : Int) < n2) = false := decide_eq_false g2
  by_cases hb1 : 50 < n1
  · have k1 : (n1 : Int) > 50 := by omega
    have k2 : (50 : Int) < n1 := by omega
    go_enter Try.func3, Try.ntmps3
    go_wp2_with fail
    refine B0.out.mono ?_; rintro e w1 ⟨rfl, hb⟩
    go_wp2_with fail
    go_ret
    exact ⟨rfl, hb⟩
  have k1 : ¬ (n1 : Int) > 50 := by omega
  have k2 : ¬ (50 : Int) < n1 := by omega
  have k3 : decide ((n1 : Int) > 50) = false := decide_eq_false k1
  have k3' : decide ((50 : Int) < n1) = false := decide_eq_false k2
  go_enter Try.func3, Try.ntmps3
  go_wp2_with fail
  refine B0.out.mono ?_; rintro e w1 ⟨rfl, hb⟩
  have B1 := Lib.hid hb
  clear hb B0
  go_wp2_with fail
  refine (table_any hc1 hcm1 HR1.out.1 (HR1.out.2.below B1.out) (by omega)).mono ?_; rintro e w2 ⟨v, rfl, B, off, m, cp, ys, rfl, ht, hb, hB⟩
  have HT2 := Lib.hid (And.intro ht (below_up B1.out hb))
  clear ht hb hB B1
  go_wp2_with fail
  refine (new_any HT2.out.1).mono ?_; rintro e w3 ⟨rfl, hb⟩
  have K3 := Lib.hid (KS.new (x := tk ys 0) (HT2.out.1.below hb) (below_up HT2.out.2 hb))
  have O3 := Lib.hid (Kok.new HT2.out.1)
  have cX := tk_cell K3.out.ht (i := 0) HT2.out.1.h0
  obtain ⟨w4, e4⟩ : ∃ w4, w3.alloc (Obj.cells #[.int .i64 0, .int .i64 (tk ys 0), .int .u64 0, .int .u64 0, .int .u64 0, .int .u64 0, .int .u64 0, .int .u64 0, .int .u64 0, .int .u64 0, .int .u64 0] 29) = w4 := ⟨_, rfl⟩
  obtain ⟨b, eb⟩ : ∃ b, w3.heap.size = b := ⟨_, rfl⟩
  have HE := Lib.hid (And.intro e4 eb)
  have hsz : w4.heap.size = b + 1 := by rw [← e4, World.size_alloc, eb]
  have HSZ := Lib.hid hsz
  rw [e4, eb] at K3
  rw [e4] at cX
  have hq0 : 0 < m := HT2.out.1.h0
  have hq0' : (0 : Int) < m := by omega
  have hcpm := HT2.out.1.c
  have hcpm' : cp ≤ 9223372036854775807 := HT2.out.1.m
  simp only [Nat.zero_mul, Nat.add_zero] at cX
  clear hb e4 eb hsz HT2
  go_upto_region 7 with fail
  rw [HE.out.1, HE.out.2]
  go_quiet (fail)
  rename_i nq
  have HR : Hid (RN w B off m cp ys b w4.heap.size 0 0 (tk ys 0) 0 (fun _ => 0) ((w4.drewN nq).alloc (Obj.cells #[.int .i64 0, .int .i64 0, .int .i64 0, .int .i64 0, .int .i64 0, .int .i64 0, .int .i64 0, .int .i64 0] 33))) := Lib.hid (RN.start K3.out O3.out (by have := HSZ.out; omega) nq)
  obtain ⟨T, eT⟩ : ∃ T, w4.heap.size = T := ⟨_, rfl⟩
  have HT := Lib.hid eT
  rw [eT] at HR
  clear cX K3 O3 HSZ HE eT
  go_wp2_with fail
  rw [HT.out]
  clear HT
  go_loopg [7, 8, 9, 36] n2 (fun gh vs vl vn vi wr => ∃ k : Nat, k ≤ n2 ∧ gh = n2 - k ∧ vi = .int .i64 k ∧ ∃ (s : Nat) (l nn : Int) (tn : Nat → Nat), vs = .int .i64 s ∧ vl = .int .i64 l ∧ vn = .int .u64 nn ∧ Hid (RN w B off m cp ys b T k s l nn tn wr))
  case atStart => exact ⟨0, by omega, by omega, rfl, 0, tk ys 0, 0, fun _ => 0, rfl, rfl, rfl, HR⟩
  case round =>
    clear HR
    obtain ⟨k, hk, hg, rfl, s, l, nn, tn, rfl, rfl, rfl, hI⟩ := hrel
    by_cases hlt : k < n2
    · obtain ⟨y, hy⟩ : ∃ y, xs2[k]? = some y := ⟨_, List.getElem?_eq_getElem (by rw [HR2.out.1]; exact hlt)⟩
      obtain ⟨ab, ao, rfl, hab, hcell⟩ := HR2.out.2 k y hy
      have d1 : wr.cell? ⟨ab, ao + k, none⟩ = some (.int .i64 y) := by rw [hI.out.ks.hw.cell (p := ⟨ab, ao + k, none⟩) hab]; exact hcell
      have i1 : IntKind.i64.wrap ((k : Int) + 1) = (k : Int) + 1 := by rw [IntKind.wrap_i64]; omega
      have l1 : (k : Int) < n2 := by omega
      have HK := Lib.hid (And.intro hk (show k + 1 ≤ 500 by omega))
      clear hy hab hcell hk
      obtain ⟨m1, em1, hm1⟩ := and1 y
      go_upto_if 42 with fail
      go_cut [7, 8, 9, 13] from 37 to 100 (fun vs vl vn vx wx => ∃ (s2 : Nat) (l2 nn2 : Int) (tn2 : Nat → Nat), vs = .int .i64 s2 ∧ vl = .int .i64 l2 ∧ vn = .int .u64 nn2 ∧ Hid (RN w B off m cp ys b T (k + 1) s2 l2 nn2 tn2 wx))
      case first =>
        clear em1 d1
        by_cases hm : m1 = 0
        · subst hm
          have i2 : IntKind.u64.wrap (nn + 1) = nn + 1 := by have := hI.out.hn; have := HK.out.2; rw [IntKind.wrap_u64]; omega
          have hl := hI.out.ok.l
          have hl16 := tk_le hI.out.ks.ht hI.out.sn
          simp only at hl
          have i3 : IntKind.i64.wrap (l - 1) = l - 1 := by rw [IntKind.wrap_i64]; omega
          by_cases hz : l - 1 = 0
          · have C := Lib.hid (fun W' => hI.out.next (w' := W') (by have := HK.out.2; omega) hz)
            have hzb : (l - 1 == 0) = true := by simp [hz]
            have HS := Lib.hid hI.out.sn
            have i4 : IntKind.i64.wrap ((s : Int) + 1) = (s : Int) + 1 := by have := hI.out.s8; rw [IntKind.wrap_i64]; omega
            have i5 := nxt_rem hI.out.ks.ht HS.out
            have hx := nxt_lt hI.out.ks.ht s
            have c3 := tk_cell hI.out.ks.ht hx
            obtain ⟨z, ez⟩ : ∃ z, nxt ys s = z := ⟨_, rfl⟩
            rw [ez] at i5 hx c3 C
            have l2 : (z : Int) < m := by omega
            have hm0 : ¬ (m : Int) = 0 := by omega
            have hz2 : l - 1 = 0 := hz
            clear hl hl16 hI ez hx hz
            go_wp2_with fail
            refine (C.out wr (Turn.refl _ _)).mono ?_; rintro e w5 ⟨rfl, hR⟩
            have HI := Lib.hid hR
            clear hR C c3 i5
            go_wp2_with fail
            go_meet
            exact ⟨z, _, _, _, rfl, rfl, rfl, HI⟩
          · have C := Lib.hid (fun W' => hI.out.stay (w' := W') (by have := HK.out.2; omega) hz)
            have hzb : (l - 1 == 0) = false := by simp [hz]
            clear hl hl16 hI
            go_wp2_with fail
            refine (C.out wr (Turn.refl _ _)).mono ?_; rintro e w5 ⟨rfl, hR⟩
            have HI := Lib.hid hR
            clear hR C
            go_wp2_with fail
            go_meet
            exact ⟨s, _, _, _, rfl, rfl, rfl, HI⟩
        · obtain rfl : m1 = 1 := by omega
          have C := hI.out.turn (by have := HK.out.2; omega)
          have hs := hI.out.s8
          have hq := hI.out.ht s
          obtain ⟨q, eq⟩ : ∃ q, tn s = q := ⟨_, rfl⟩
          rw [eq] at C hq
          have i2 : IntKind.i64.wrap ((q : Int) + 1) = ((q + 1 : Nat) : Int) := by have := HK.out.2; rw [IntKind.wrap_i64]; omega
          have s8 : (s : Int) < 8 := by omega
          have HQ := Lib.hid eq
          have C := Lib.hid C
          clear hI hq hm eq
          go_wp2_with fail
          refine C.out.mono ?_; rintro e w5 ⟨rfl, hav, hR⟩
          have q0 := hav.cell hs
          have q1 := hav.f s
          rw [HQ.out] at q0
          have HI := Lib.hid hR
          clear hR C hav
          go_wp2_with fail
          go_meet
          exact ⟨s, _, _, _, rfl, rfl, rfl, HI⟩
      case rest =>
        clear hI d1 em1 hm1
        obtain ⟨s2, l2, nn2, tn2, rfl, rfl, rfl, hJ⟩ := hcut
        obtain ⟨N, eN, hN⟩ := and7 (y / 2)
        have c0 := hJ.out.ks.hv
        have hs := hJ.out.s8
        have q0 := hJ.out.av.cell hs
        by_cases hN0 : N = 0
        · subst hN0
          simp only [show ((0 : Nat) : Int) = 0 from rfl] at eN
          clear q0 hs
          have HV := Lib.hid c0
          clear c0
          go_wp2_with fail
          refine (slot_any HV.out).mono ?_; rintro e w6 ⟨rfl, rfl⟩
          go_wp2_with fail
          refine (now_any HV.out).mono ?_; rintro e w6 ⟨rfl, rfl⟩
          go_wp2_with fail
          refine (turn_none 0 (by omega) _ _).mono ?_; rintro e w6 ⟨rfl, rfl⟩
          go_wp2_with fail
          refine (turn_none 0 (by omega) _ _).mono ?_; rintro e w6 ⟨rfl, rfl⟩
          go_wp2_with fail
          go_roundg (n2 - (k + 1))
          case rel => exact ⟨k + 1, by have := HK.out.1; omega, rfl, by simp, s2, l2, nn2, tn2, rfl, rfl, rfl, hJ⟩
          case measure => first | omega | (simp; omega)
        · obtain ⟨r, er⟩ : ∃ r, tn2 s2 % N = r := ⟨_, rfl⟩
          have C := Lib.hid (turn_any c0 hs N (by omega) (by omega) (tn2 s2) rfl r er)
          have hrN : r < N := by rw [← er]; exact Nat.mod_lt _ (by omega)
          have e1 : (tn2 s2 : Int).tmod N = r := by rw [Int.tmod_eq_emod_of_nonneg (by omega), ← er]; rfl
          obtain ⟨q, eq⟩ : ∃ q, tn2 s2 = q := ⟨_, rfl⟩
          rw [eq] at q0 e1
          have n1' : ¬ (N : Int) = 0 := by omega
          have n2' : (N : Int) > 0 := by omega
          have n3' : (0 : Int) < N := by omega
          have s8 : (s2 : Int) < 8 := by omega
          have i2 : IntKind.i64.wrap (-(N : Int)) = -(N : Int) := by rw [IntKind.wrap_i64]; omega
          have HV := Lib.hid c0
          clear c0 er eq hs hN0
          go_wp2_with fail
          refine (slot_any HV.out).mono ?_; rintro e w6 ⟨rfl, rfl⟩
          go_wp2_with fail
          refine (now_any HV.out).mono ?_; rintro e w6 ⟨rfl, rfl⟩
          go_wp2_with fail
          refine C.out.mono ?_; rintro e w6 ⟨rfl, hb⟩
          have HJ := Lib.hid (hJ.out.below hb)
          clear C hb q0 hJ HV
          go_wp2_with fail
          refine (turn_none (-(N : Int)) (by omega) _ _).mono ?_; rintro e w7 ⟨rfl, rfl⟩
          go_wp2_with fail
          go_roundg (n2 - (k + 1))
          case rel => exact ⟨k + 1, by have := HK.out.1; omega, rfl, by simp, s2, l2, nn2, tn2, rfl, rfl, rfl, HJ⟩
          case measure => first | omega | (simp; omega)
    · obtain rfl : k = n2 := by omega
      have HW := Lib.hid hI.out.ks.hw
      clear hI hlt hk hg
      go_wp2_with fail
      go_ret
      exact ⟨rfl, HW.out⟩
end Go.Proofs.Ytjmdgmlpecjolaa
