/- SlotsFair. -/
import Derived.Test.YtjmdgmlpecjolaaLd
set_option linter.unusedVariables false
set_option linter.unusedSimpArgs false
namespace Go.Proofs.Ytjmdgmlpecjolaa
open Go.RowKit Go.Maps
set_option linter.unusedVariables false
set_option linter.unusedSimpArgs false
variable {W w w' : World} {B off n cp b b2 G k q s : Nat} {c c' : Ck} {ys : List Sl} {x : Int} {f : Int → Int}
/-- A clock that may be, behind at most q ticks and turns. -/
structure FB (ys : List Sl) (c : Ck) (q : Nat) : Prop where
  k : Kok ys c
  n : 0 ≤ c.n ∧ c.n ≤ q
  t : ∀ i, 0 ≤ c.t i ∧ c.t i ≤ q
theorem tick_nt (ys : List Sl) (c : Ck) : (tick ys c).n = c.n + 1 ∧ (tick ys c).t = c.t := by
  unfold tick; split <;> exact ⟨rfl, rfl⟩
theorem FB.tick (h : FB ys c q) (ht : TW w B off n cp ys) : FB ys (tick ys c) (q + 1) := by
  obtain ⟨e1, e2⟩ := tick_nt ys c
  refine ⟨h.k.tick ht, by rw [e1]; have := h.n; omega, fun i => ?_⟩
  rw [e2]; have := h.t i; omega
theorem FB.turn (h : FB ys c q) : FB ys c.turn (q + 1) := by
  refine ⟨⟨h.k.s, h.k.l⟩, by have := h.n; show 0 ≤ c.n ∧ c.n ≤ ((q + 1 : Nat) : Int); omega, fun i => ?_⟩
  have := h.t i
  have := h.t c.s
  show 0 ≤ updT c.t c.s (c.t c.s + 1) i ∧ updT c.t c.s (c.t c.s + 1) i ≤ ((q + 1 : Nat) : Int)
  unfold updT
  split <;> omega
theorem FB.new (h : TW w B off n cp ys) : FB ys (ck0 (tk ys 0)) 0 := ⟨Kok.new h, by show (0 : Int) ≤ 0 ∧ (0 : Int) ≤ ((0 : Nat) : Int); omega, fun i => by show (0 : Int) ≤ 0 ∧ (0 : Int) ≤ ((0 : Nat) : Int); omega⟩
/-- A clock, and a law's own map. -/
structure KM (W : World) (B off n cp : Nat) (ys : List Sl) (b : Nat) (c : Ck) (G s : Nat) (f : Int → Int) (w : World) : Prop where
  ks : KS W B off n cp ys b c w
  m : MapI w G s s f
  hG : W.heap.size ≤ G
  ne : G ≠ b
  neB : B ≠ G
theorem KM.below (h : KM W B off n cp ys b c G s f w) (hb : Below w.heap.size w w') : KM W B off n cp ys b c G s f w' := ⟨h.ks.below hb, h.m.same (hb.block G h.m.lt), h.hG, h.ne, h.neB⟩
theorem KM.step (h : KM W B off n cp ys b c G s f w) (hk : KS W B off n cp ys b c' w') (ht : Turn [b] w w') : KM W B off n cp ys b c' G s f w' := ⟨hk, h.m.same (ht.block G h.m.lt (by simpa using h.ne)), h.hG, h.ne, h.neB⟩
theorem KM.new (h : KS W B off n cp ys b c w) : KM W B off n cp ys b c w.heap.size 0 (fun _ => 0) (w.alloc (.map #[] 0)) :=
  ⟨h.below (below_alloc1 _ _), MapI.new w, h.hw.size, by have := h.hv.lt; omega, by have := h.ht.lt; omega⟩
theorem KM.store (h : KM W B off n cp ys b c G s f w) {j : Nat} (hs : s ≤ 100000) (hj : j ≤ 100000) (hf : f j = 0) :
    ∃ w', (Instr.mapUpdate 40 (.map (some G)) (.int .i64 (j : Int)) (.int .i64 1)).run Try.prog w = .ok () w' ∧ KM W B off n cp ys b c G (s + 1) (updF f j 1) w' := by
  obtain ⟨w', hrun, hm, hT⟩ := h.m.store (x := 1) (j := (j : Int)) (by unfold maxLen; omega) (by omega) (by omega) (by omega)
  rw [if_pos hf] at hm
  exact ⟨w', hrun, ⟨below_turn h.ks.hw hT (fun x hx => by simp at hx; subst hx; exact h.hG), h.ks.ht.turn hT (by simpa using h.neB), h.ks.hv.turn hT (by simpa using Ne.symm h.ne), h.ks.hb, h.ks.ne⟩, hm, h.hG, h.ne, h.neB⟩
set_option maxRecDepth 100000 in
set_option maxHeartbeats 4000000 in
theorem fair_all (A1 : Option Addr) (n1 c1 : Nat) (a1 a2 : Int) (xs1 : List Int) (w : World) (hc1 : n1 ≤ c1) (hcm1 : c1 ≤ maxLen) (hl1 : xs1.length = n1) (hr1 : LR inI w A1 xs1) :
    Calls Try.prog 4 #[.slice A1 n1 c1, .int .i64 a1, .int .i64 a2] w fun e w' => e = .returned (.bool true) ∧ Below w.heap.size w w' := by
  have B0 := Lib.hid (fit_any w)
  have HR1 := Lib.hid (And.intro hl1 hr1)
  clear hl1 hr1
  have hcm1' : c1 ≤ 9223372036854775807 := hcm1
  by_cases hb1 : 50 < n1
  · have k1 : (n1 : Int) > 50 := by omega
    have k2 : (50 : Int) < n1 := by omega
    go_enter Try.func4, Try.ntmps4
    go_wp2_with fail
    refine B0.out.mono ?_; rintro e w1 ⟨rfl, hb⟩
    go_wp2_with fail
    go_ret
    exact ⟨rfl, hb⟩
  have k1 : ¬ (n1 : Int) > 50 := by omega
  have k2 : ¬ (50 : Int) < n1 := by omega
  obtain ⟨N1, eN, hN1⟩ := and15 a1
  obtain ⟨F, eF, hF⟩ := and255 a2
  have iN : IntKind.i64.wrap ((N1 : Int) + 1) = ((N1 + 1 : Nat) : Int) := by rw [IntKind.wrap_i64]; omega
  have hmm := @run_makeMap Try.prog
  obtain ⟨N, eNN⟩ : ∃ N, N1 + 1 = N := ⟨_, rfl⟩
  have HN := Lib.hid (show 0 < N ∧ N ≤ 16 by omega)
  rw [eNN] at iN
  clear eNN
  go_enter Try.func4, Try.ntmps4
  go_wp2_with fail
  refine B0.out.mono ?_; rintro e w1 ⟨rfl, hb⟩
  have B1 := Lib.hid hb
  clear hb B0
  go_wp2_with fail
  refine (table_any hc1 hcm1 HR1.out.1 (HR1.out.2.below B1.out) (by omega)).mono ?_; rintro e w2 ⟨v, rfl, B, off, m, cp, ys, rfl, ht, hb, hB⟩
  have HT2 := Lib.hid (And.intro ht (below_up B1.out hb))
  clear ht hb hB B1 eN eF
  go_wp2_with fail
  refine (new_any HT2.out.1).mono ?_; rintro e w3 ⟨rfl, hb⟩
  have K3 := Lib.hid (KS.new (x := tk ys 0) (HT2.out.1.below hb) (below_up HT2.out.2 hb))
  have O3 := Lib.hid (FB.new HT2.out.1)
  obtain ⟨w4, e4⟩ : ∃ w4, w3.alloc (Obj.cells #[.int .i64 0, .int .i64 (tk ys 0), .int .u64 0, .int .u64 0, .int .u64 0, .int .u64 0, .int .u64 0, .int .u64 0, .int .u64 0, .int .u64 0, .int .u64 0] 29) = w4 := ⟨_, rfl⟩
  obtain ⟨b, eb⟩ : ∃ b, w3.heap.size = b := ⟨_, rfl⟩
  have HE := Lib.hid (And.intro e4 eb)
  rw [e4, eb] at K3
  have hq0 : 0 < m := HT2.out.1.h0
  have hcpm := HT2.out.1.c
  have hcpm' : cp ≤ 9223372036854775807 := HT2.out.1.m
  have HM8 := Lib.hid HT2.out.1.h8
  clear hb e4 eb HT2
  go_wp2_with fail
  rw [HE.out.1, HE.out.2]
  clear HE
  go_loopg [9, 32] m (fun gh vall vi wr => ∃ k : Nat, k ≤ m ∧ gh = m - k ∧ vi = .int .i64 k ∧ vall = .int .i64 (st ys k) ∧ Hid (KS w B off m cp ys b (ck0 (tk ys 0)) wr))
  case atStart => exact ⟨0, by omega, by omega, rfl, rfl, K3⟩
  case round =>
    clear K3
    obtain ⟨k, hk, hg, rfl, rfl, hI⟩ := hrel
    by_cases hlt : k < m
    · have i1 : IntKind.i64.wrap ((k : Int) + 1) = (k : Int) + 1 := by have := HM8.out; rw [IntKind.wrap_i64]; omega
      have l1 : (k : Int) < m := by omega
      obtain ⟨cc, hx⟩ := tk_at (xs := ys) (i := k) (by rw [hI.out.ht.l]; exact hlt)
      have d0 : wr.cell? ⟨B, off + k * 2, none⟩ = some (.int .u64 cc) := hI.out.ht.r.at_ hx (j := 0) rfl
      have d1 : wr.cell? ⟨B, off + k * 2 + 1, none⟩ = some (.int .i64 (tk ys k)) := hI.out.ht.r.at_ hx (j := 1) rfl
      have i2 : IntKind.i64.wrap (st ys k + tk ys k) = st ys (k + 1) := by
        have h1 := st_bound hI.out.ht (k := k) hk
        have h2 := tk_le hI.out.ht hlt
        have := HM8.out
        simp only [st]
        rw [IntKind.wrap_i64]; omega
      have HJ := Lib.hid (hI.out.below (below_alloc1 wr (Obj.cells #[.int .u64 cc, .int .i64 (tk ys k)] 32)))
      clear hx hI
      go_wp2_with fail
      go_roundg (m - (k + 1))
      case rel => exact ⟨k + 1, by omega, rfl, by simp, rfl, HJ⟩
      case measure => first | omega | (simp; omega)
    · obtain rfl : k = m := by omega
      clear hlt hk hg
      go_wp2_with fail
      go_loopg [42] F (fun gh vi wx => ∃ q : Nat, q ≤ F ∧ gh = F - q ∧ vi = .int .i64 q ∧ Hid (∃ c, KS w B off k cp ys b c wx ∧ FB ys c (2 * q)))
      case atStart => exact ⟨0, by omega, by omega, rfl, Lib.hid ⟨_, hI.out, O3.out⟩⟩
      case round =>
        clear hI O3
        obtain ⟨q, hq, hg, rfl, hI⟩ := hrel
        by_cases hlt : q < F
        · have i1 : IntKind.i64.wrap ((q : Int) + 1) = (q : Int) + 1 := by rw [IntKind.wrap_i64]; omega
          have l1 : (q : Int) < F := by omega
          obtain ⟨c, hK, hB⟩ := hI.out
          have C := Lib.hid (hK.tick hB.k (by have := hB.n; omega))
          have HF := Lib.hid (And.intro (hB.tick hK.ht) (show q < 256 by omega))
          clear hI hK hB
          go_wp2_with fail
          refine C.out.mono ?_; rintro e w5 ⟨rfl, hK, hT⟩
          have C2 := Lib.hid (hK.next HF.out.1.k (by have := HF.out.1.t (tick ys c).s; have := HF.out.2; omega))
          clear hK hT C
          go_wp2_with fail
          refine C2.out.mono ?_; rintro e w6 ⟨rfl, hK, hT⟩
          have HJ := Lib.hid (show ∃ c, KS w B off k cp ys b c w6 ∧ FB ys c (2 * (q + 1)) from ⟨_, hK, HF.out.1.turn⟩)
          clear hK hT C2
          go_wp2_with fail
          go_roundg (F - (q + 1))
          case rel => exact ⟨q + 1, by omega, rfl, by simp, HJ⟩
          case measure => first | omega | (simp; omega)
        · obtain rfl : q = F := by omega
          clear hlt hq hg
          obtain ⟨c, hK, hB⟩ := hI.out
          have HM := Lib.hid (And.intro (KM.new hK) hB)
          clear hI hK hB
          obtain ⟨G, eG⟩ : ∃ G, wr.heap.size = G := ⟨_, rfl⟩
          obtain ⟨T, eT⟩ : ∃ T : Nat, c.t c.s = (T : Int) := ⟨(c.t c.s).toNat, by have := HM.out.2.t c.s; omega⟩
          have HTE := Lib.hid eT
          have HGE := Lib.hid eG
          rw [eG] at HM
          clear eG eT
          go_wp2_with fail
          rw [HGE.out]
          clear HGE
          go_loopg [50] N (fun gh vi wx => ∃ j : Nat, j ≤ N ∧ gh = N - j ∧ vi = .int .i64 j ∧ Hid (∃ c f, KM w B off k cp ys b c G j f wx ∧ FB ys c (2 * q + j) ∧ c.t c.s = ((T + j : Nat) : Int) ∧ SE (T % N) N j f))
          case atStart => exact ⟨0, by omega, by omega, rfl, Lib.hid ⟨_, _, HM.out.1, HM.out.2, HTE.out, SE.start (Nat.mod_lt _ HN.out.1)⟩⟩
          case round =>
            clear HM HTE
            obtain ⟨j, hj, hg, rfl, hI⟩ := hrel
            by_cases hlt : j < N
            · have i1 : IntKind.i64.wrap ((j : Int) + 1) = (j : Int) + 1 := by have := HN.out; rw [IntKind.wrap_i64]; omega
              have l1 : (j : Int) < N := by omega
              obtain ⟨c, f, hK, hB, hT, hS⟩ := hI.out
              obtain ⟨r, er⟩ : ∃ r, (T + j) % N = r := ⟨_, rfl⟩
              have hr16 : r < 16 := by have := Nat.mod_lt (T + j) HN.out.1; have := HN.out.2; omega
              have hs8 : c.s < 8 := by have := hB.k.s; have := hK.ks.ht.l; have := HM8.out; omega
              have C := Lib.hid (turn_any hK.ks.hv hs8 N HN.out.1 (by have := HN.out.2; omega) (T + j) hT r er)
              have hS2 := hS.step hlt er
              have HF := Lib.hid (And.intro hK (And.intro hB (And.intro hT (And.intro hS2 (And.intro hr16 (show j < 16 by have := HN.out.2; omega))))))
              clear hI hK hB hT hS er hr16 hs8 hS2
              go_wp2_with fail
              refine C.out.mono ?_; rintro e w5 ⟨rfl, hb⟩
              have h5 := HF.out.1.below hb
              have hlk := h5.m.at_ (j := (r : Int)) (by omega) (by have := HF.out.2.2.2.2.1; omega)
              rw [HF.out.2.2.2.1.1] at hlk
              obtain ⟨w6, hrun, h6⟩ := h5.store (j := r) (by have := HF.out.2.2.2.2.2; omega) (by have := HF.out.2.2.2.2.1; omega) HF.out.2.2.2.1.1
              have C2 := Lib.hid (h6.ks.next HF.out.2.1.k (by have := HF.out.2.1.t c.s; have := HF.out.2.2.2.2.2; have := hF; omega))
              have H6 := Lib.hid h6
              clear hb h5 h6 C
              go_wp2_with fail
              refine C2.out.mono ?_; rintro e w7 ⟨rfl, hK, hT⟩
              have HJ := Lib.hid (show ∃ c f, KM w B off k cp ys b c G (j + 1) f w7 ∧ FB ys c (2 * q + (j + 1)) ∧ c.t c.s = ((T + (j + 1) : Nat) : Int) ∧ SE (T % N) N (j + 1) f from
                ⟨_, _, H6.out.step hK hT, HF.out.2.1.turn, by
                  have := HF.out.2.2.1
                  show updT c.t c.s (c.t c.s + 1) c.s = _
                  unfold updT
                  rw [if_pos rfl, this]
                  omega, HF.out.2.2.2.1.2⟩)
              clear hK hT C2 hlk hrun
              go_wp2_with fail
              go_roundg (N - (j + 1))
              case rel => exact ⟨j + 1, by omega, rfl, by simp, HJ⟩
              case measure => first | omega | (simp; omega)
            · obtain rfl : j = N := by omega
              clear hlt hj hg
              obtain ⟨c, f, hK, hB, hT, hS⟩ := hI.out
              have HS := Lib.hid (And.intro hB hS)
              have HK := Lib.hid hK
              clear hI hK hB hT hS
              go_wp2_with fail
              go_loopg [60] j (fun gh vi wx => ∃ i : Nat, i ≤ j ∧ gh = j - i ∧ vi = .int .i64 i ∧ Hid (KM w B off k cp ys b c G j f wx))
              case atStart => exact ⟨0, by omega, by omega, rfl, HK⟩
              case round =>
                clear HK
                obtain ⟨i, hi, hg, rfl, hI⟩ := hrel
                by_cases hlt : i < j
                · have i1 : IntKind.i64.wrap ((i : Int) + 1) = (i : Int) + 1 := by have := HN.out; rw [IntKind.wrap_i64]; omega
                  have l1 : (i : Int) < j := by omega
                  have hlk := hI.out.m.at_ (j := (i : Int)) (by omega) (by have := HN.out; omega)
                  rw [HS.out.2.done (Nat.mod_lt _ HN.out.1) hlt] at hlk
                  go_wp2_with fail
                  go_roundg (j - (i + 1))
                  case rel => exact ⟨i + 1, by omega, rfl, by simp, hI⟩
                  case measure => first | omega | (simp; omega)
                · obtain rfl : i = j := by omega
                  clear hlt hi hg
                  have HM := Lib.hid (And.intro (KM.new hI.out.ks) (And.intro HS.out.1 (BG.start hI.out.ks.ht HS.out.1.k)))
                  obtain ⟨P, eP⟩ : ∃ P, st ys c.s + (tk ys c.s - c.l) = P := ⟨_, rfl⟩
                  obtain ⟨A, eA⟩ : ∃ A : Nat, st ys k = (A : Int) := ⟨(st ys k).toNat, by have := st_bound hI.out.ks.ht (k := k) (Nat.le_refl _); omega⟩
                  have HA := Lib.hid (And.intro eA (show A ≤ 128 by have := st_bound hI.out.ks.ht (k := k) (Nat.le_refl _); have := HM8.out; omega))
                  rw [eP] at HM
                  clear HS eP eA hI
                  obtain ⟨G2, eG⟩ : ∃ G2, wr.heap.size = G2 := ⟨_, rfl⟩
                  have HGE := Lib.hid eG
                  rw [eG] at HM
                  clear eG
                  rw [HA.out.1]
                  go_wp2_with fail
                  rw [HGE.out]
                  clear HGE
                  go_loopg [70] A (fun gh vi wx => ∃ j : Nat, j ≤ A ∧ gh = A - j ∧ vi = .int .i64 j ∧ Hid (∃ c f s, KM w B off k cp ys b c G2 s f wx ∧ FB ys c (2 * q + i + j) ∧ BG ys k P j c f s))
                  case atStart => exact ⟨0, by omega, by omega, rfl, Lib.hid ⟨_, _, _, HM.out.1, HM.out.2.1, HM.out.2.2⟩⟩
                  case round =>
                    clear HM
                    obtain ⟨j, hj, hg, rfl, hI⟩ := hrel
                    by_cases hlt : j < A
                    · have i1 : IntKind.i64.wrap ((j : Int) + 1) = (j : Int) + 1 := by have := HA.out.2; rw [IntKind.wrap_i64]; omega
                      have l1 : (j : Int) < A := by omega
                      obtain ⟨c, f, s, hK, hB, hG⟩ := hI.out
                      have C := hK.ks.tick hB.k (by have := hB.n; have := HN.out; have := HA.out.2; have := hF; omega)
                      by_cases hl : c.l > 1
                      · have hd : decide (c.l ≤ 1) = false := decide_eq_false (by omega)
                        rw [hd] at C
                        have C := Lib.hid C
                        have HF := Lib.hid (And.intro hK (And.intro (hB.tick hK.ks.ht) (hG.stay hK.ks.ht hB.k hl)))
                        clear hI hK hB hG hd hl
                        go_wp2_with fail
                        refine C.out.mono ?_; rintro e w5 ⟨rfl, hK, hT⟩
                        have HJ := Lib.hid (show ∃ c f s, KM w B off k cp ys b c G2 s f w5 ∧ FB ys c (2 * q + i + (j + 1)) ∧ BG ys k P (j + 1) c f s from ⟨_, _, _, HF.out.1.step hK hT, HF.out.2.1, HF.out.2.2⟩)
                        clear hK hT C
                        go_wp2_with fail
                        go_roundg (A - (j + 1))
                        case rel => exact ⟨j + 1, by omega, rfl, by simp, HJ⟩
                        case measure => first | omega | (simp; omega)
                      · have hd : decide (c.l ≤ 1) = true := decide_eq_true (by omega)
                        rw [hd] at C
                        have C := Lib.hid C
                        have hbg := hG.begin hK.ks.ht hB.k hl (by have := HA.out.1; omega)
                        have hz := nxt_lt hK.ks.ht c.s
                        have hcz : (tick ys c).s = nxt ys c.s := by unfold tick; rw [if_neg hl]
                        obtain ⟨z, ez⟩ : ∃ z, nxt ys c.s = z := ⟨_, rfl⟩
                        rw [ez] at hbg hz hcz
                        have hs8 : s ≤ 8 := by have := hG.cnt; have := cntF_le f k; have := HM8.out; omega
                        have HF := Lib.hid (And.intro hK (And.intro (hB.tick hK.ks.ht) (And.intro hbg (And.intro hcz (And.intro hs8 (show z < 8 by have := HM8.out; omega))))))
                        clear hI hK hB hG hd hl hbg hz hcz ez hs8
                        go_wp2_with fail
                        refine C.out.mono ?_; rintro e w5 ⟨rfl, hK, hT⟩
                        have h5 := HF.out.1.step hK hT
                        have CS := slot_any h5.ks.hv
                        rw [HF.out.2.2.2.1] at CS
                        have CS := Lib.hid CS
                        have hlk := h5.m.at_ (j := (z : Int)) (by omega) (by have := HF.out.2.2.2.2.2; omega)
                        rw [HF.out.2.2.1.1] at hlk
                        obtain ⟨w6, hrun, h6⟩ := h5.store (j := z) (by have := HF.out.2.2.2.2.1; omega) (by have := HF.out.2.2.2.2.2; omega) HF.out.2.2.1.1
                        have HJ := Lib.hid (show ∃ c f s, KM w B off k cp ys b c G2 s f w6 ∧ FB ys c (2 * q + i + (j + 1)) ∧ BG ys k P (j + 1) c f s from ⟨_, _, _, h6, HF.out.2.1, HF.out.2.2.1.2⟩)
                        clear hK hT h5 h6 C
                        go_wp2_with fail
                        refine CS.out.mono ?_; rintro e w7 ⟨rfl, rfl⟩
                        clear CS
                        go_wp2_with fail
                        go_roundg (A - (j + 1))
                        case rel => exact ⟨j + 1, by omega, rfl, by simp, HJ⟩
                        case measure => first | omega | (simp; omega)
                    · obtain rfl : j = A := by omega
                      clear hlt hj hg
                      obtain ⟨c, f, s, hK, hB, hG⟩ := hI.out
                      obtain ⟨hone, hsz⟩ := hG.done hK.ks.ht HA.out.1.symm
                      subst hsz
                      have HK := Lib.hid hK
                      have HO := Lib.hid hone
                      clear hI hK hB hG hone
                      go_wp2_with fail
                      go_loopg [81] s (fun gh vi wx => ∃ i : Nat, i ≤ s ∧ gh = s - i ∧ vi = .int .i64 i ∧ Hid (KM w B off s cp ys b c G2 s f wx))
                      case atStart => exact ⟨0, by omega, by omega, rfl, HK⟩
                      case round =>
                        clear HK
                        obtain ⟨i2, hi, hg, rfl, hI⟩ := hrel
                        by_cases hlt : i2 < s
                        · have i1 : IntKind.i64.wrap ((i2 : Int) + 1) = (i2 : Int) + 1 := by have := HM8.out; rw [IntKind.wrap_i64]; omega
                          have l1 : (i2 : Int) < s := by omega
                          have hlk := hI.out.m.at_ (j := (i2 : Int)) (by omega) (by have := HM8.out; omega)
                          rw [HO.out i2 hlt] at hlk
                          go_wp2_with fail
                          go_roundg (s - (i2 + 1))
                          case rel => exact ⟨i2 + 1, by omega, rfl, by simp, hI⟩
                          case measure => first | omega | (simp; omega)
                        · obtain rfl : i2 = s := by omega
                          clear hlt hi hg
                          have hln := fun ty => hI.out.m.len ty
                          have HW := Lib.hid hI.out.ks.hw
                          clear hI
                          go_wp2_with fail
                          go_ret
                          exact ⟨by simp, HW.out⟩
end Go.Proofs.Ytjmdgmlpecjolaa
