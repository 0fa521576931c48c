/- BytesNums. -/
import Derived.Test.YtkpdgjmeeeddhaaBn
set_option linter.unusedVariables false
set_option linter.unusedSimpArgs false
namespace Go.Proofs.Ytkpdgjmeeeddhaa
open Go.RowKit
set_option linter.unusedVariables false
set_option linter.unusedSimpArgs false
set_option maxHeartbeats 2000000 in
set_option maxRecDepth 100000 in
theorem nums_all (x : Nat) (a l : Int) (w : World) (hx : x < 18446744073709551616) : Calls Try.prog 5 #[.int .u64 (x : Int), .int .i64 a, .int .i64 l] w fun e w' => e = .returned (.bool true) ∧ Below w.heap.size w w' := by
  have CF := Lib.hid (fit_any w)
  obtain ⟨t1, u1, off, e1, e2, e3, hoff⟩ := place180 a
  obtain ⟨t2, u2, k0, e4, e5, e6, hk0⟩ := place8 l
  obtain ⟨k, e7, hk8⟩ := succ8 hk0
  have HK := Lib.hid hk8
  have HO := Lib.hid hoff
  clear hk8 hk0 hoff
  have HEE := Lib.hid (And.intro e1 (And.intro e2 (And.intro e3 (And.intro e4 (And.intro e5 (And.intro e6 e7))))))
  go_enter Try.func5, Try.ntmps5
  go_wp2_with fail
  refine CF.out.mono ?_
  rintro e w1 ⟨rfl, hb1⟩
  have CN := Lib.hid (new_lw (W := w) (w := w1) 8 (by omega) (by omega) hb1)
  clear CF hb1
  go_wp2_with fail
  refine CN.out.mono ?_
  rintro e w2 ⟨R, ds, rfl, hL, hb⟩
  have hL1 := hL.below (below_alloc1 w2 (Obj.cells #[.slice none 0 0] 37))
  have CR := Lib.hid (resize_st (n := 3) hL1 (SV.new w2) (own_none 8 1 (by omega)) hL.1.size (by omega) (by omega) (by simp))
  clear CN hL hb hL1
  go_wp2_with fail
  refine CR.out.mono ?_
  rintro e w3 ⟨rfl, v', os', ds', fs', hL, hs, ho, hl, _, hcont, _, _, _⟩
  have hk := HK.out
  have hO := HO.out
  have CP := Lib.hid (put_st (off := off) (k := k) (y := x) hL hs ho (by omega) hk.1 hk.2 hx)
  have hcl := Sg.cont_len hL.dw (fun f hf => ho.lt hf)
  have H3 := Lib.hid (And.intro hs (And.intro ho (And.intro hl hcl)))
  obtain ⟨q0, eq0⟩ : ∃ q0, w2.heap.size = q0 := ⟨_, rfl⟩
  rw [eq0] at CP H3 ⊢
  clear CR hL hs ho hl hcont eq0 hk hO hcl
  go_wp2_with fail
  refine CP.out.mono ?_
  rintro e w4 ⟨rfl, ds4, hL, hkp, hc4, _⟩
  obtain ⟨hs, ho, hl, hcl⟩ := H3.out
  have hs4 := hs.kp hkp
  have hk := HK.out
  have hO := HO.out
  have hrd : ((Sg.cont ds4 fs').drop off).take k = Pk.enc k x := by rw [hc4]; exact lay_read (Pk.enc_len k x) (by omega)
  obtain ⟨S, hp, hS⟩ := hL.2
  have C1 := num_in hs4 hp ho.live (off := off) (k := k) (by omega) hk.1 hk.2
  rw [hrd, Pk.num_enc] at C1
  have C2 := read_lw hL hs4 ho (off := off) (n := k) (by omega)
  obtain ⟨q, eq⟩ : ∃ q, x % 256 ^ k = q := ⟨_, rfl⟩
  rw [eq] at C1
  have C1 := Lib.hid C1
  have C2 := Lib.hid (fun (W : World) (hb : Below w4.heap.size w4 W) => read_lw (hL.below hb) (hs4.below hb) ho (off := off) (n := k) (by omega))
  rw [hrd] at C2
  have HB := Lib.hid hL.1
  have HQ := Lib.hid eq
  clear CP H3 hL hkp hc4 hs ho hl hcl hs4 hk hO hrd hp hS eq
  go_upto_if 41 with fail
  clear e1 e2 e3 e4 e5 e6 e7
  go_cut [9] from 41 to 48 (fun x9 wx => x9 = .int .u64 (q : Int) ∧ w4 = wx)
  case first =>
    have hk := HK.out
    by_cases h8 : k = 8
    · have hq : x = q := by
        have := HQ.out
        rw [h8, Nat.mod_eq_of_lt (by omega)] at this
        exact this
      have l1 : ¬ (k : Int) < 8 := by omega
      have HX := Lib.hid hq
      clear hq hk h8
      go_wp2_with fail
      go_meet
      exact ⟨by rw [HX.out], rfl⟩
    · have l1 : (k : Int) < 8 := by omega
      clear hk h8
      have HX := Lib.hid (u64_low (k := k) (x := x) (by omega) hx)
      rw [HQ.out] at HX
      go_wp2_with fail
      go_meet
      exact ⟨by rw [HX.out], rfl⟩
  case rest =>
    obtain ⟨rfl, rfl⟩ := hcut
    go_wp2_with fail
    refine C1.out.mono ?_
    rintro e w5 ⟨rfl, hb5⟩
    have C3 := Lib.hid (C2.out w5 hb5)
    have HB5 := Lib.hid (HB.out.trans (hb5.mono HB.out.size))
    clear hb5 C1 C2
    go_wp2_with fail
    refine C3.out.mono ?_
    rintro e w6 ⟨v6, rfl, hbw, hb6⟩
    obtain ⟨A, c, rfl, hc1, hc2, hr, _, _⟩ := hbw.form
    rw [Pk.enc_len] at hc1 ⊢
    have HR := Lib.hid hr
    have HB6 := Lib.hid (HB5.out.trans (hb6.mono HB5.out.size))
    clear hbw hb6 hr hc1 hc2 C3 HB5
    go_wp2_with fail
    go_loopg [14, 15, 65] k (fun gh x14 x15 i wx => ∃ j : Nat, j ≤ k ∧ gh = k - j ∧ i = .int .i64 j ∧ w6 = wx)
    case atStart => exact ⟨0, Nat.zero_le _, rfl, rfl, rfl⟩
    case round =>
      obtain ⟨j, hj, hg, rfl, rfl⟩ := hrel
      by_cases hlt : j < k
      · obtain ⟨b, off', rfl, hb, hcell⟩ := HR.out j _ (enc_get k x j hlt)
        have hk := HK.out
        have l1 : (j : Int) < (k : Int) := by omega
        have i1 : RowKit.wrap64 ((j : Int) + 1) = (j : Int) + 1 := by unfold RowKit.wrap64; omega
        obtain ⟨d, ed⟩ : ∃ d, k - 1 - j = d := ⟨_, rfl⟩
        have i2 : RowKit.wrap64 ((k : Int) - 1) = (k : Int) - 1 := by unfold RowKit.wrap64; omega
        have i3 : RowKit.wrap64 ((k : Int) - 1 - (j : Int)) = (d : Int) := by unfold RowKit.wrap64; omega
        obtain ⟨y, ey⟩ : ∃ y, x / 256 ^ (k - 1 - j) % 256 = y := ⟨_, rfl⟩
        rw [ey] at hcell
        have HD := Lib.hid (And.intro ed ey)
        clear hb hk ed ey
        go_upto_if 80 with fail
        rw [same_byte hlt HK.out.2 HD.out.1 HQ.out HD.out.2]
        clear i2 i3
        go_wp2_with fail
        go_roundg (k - (j + 1))
        case rel => exact ⟨j + 1, hlt, rfl, by rw [i1]; rfl, rfl⟩
        case measure => omega
      · obtain rfl : j = k := by omega
        clear hj hg hlt
        go_wp2_with fail
        go_ret
        exact ⟨rfl, HB6.out⟩
end Go.Proofs.Ytkpdgjmeeeddhaa
