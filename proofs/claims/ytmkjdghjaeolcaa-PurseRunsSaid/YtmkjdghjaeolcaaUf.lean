/- PurseTree. -/
import Derived.Test.YtmkjdghjaeolcaaUe
import Derived.Test.YtmkjdghjaeolcaaUd
import Derived.Lib.QuietBelow
set_option linter.unusedVariables false
set_option linter.unusedSimpArgs false
namespace Go.Proofs.Ytmkjdghjaeolcaa
open Go.RowKit
set_option linter.unusedVariables false
set_option linter.unusedSimpArgs false
variable {W w w' : World} {v v' : Value} {ps : List Pu} {b o c n i : Nat} {p q : Pu} {L x : Int}
/-- The law's row of purses. -/
structure TS (W : World) (v : Value) (ps : List Pu) (L : Int) (w : World) : Prop where
  b : Below W.heap.size W w
  r : PR (fun b => W.heap.size ≤ b) w v ps
  ok : ∀ p ∈ ps, p.ok ∧ p.l ≤ 1073741824
  s : ts ps = L
theorem TS.below (h : TS W v ps L w) (hb : Below w.heap.size w w') : TS W v ps L w' := ⟨below_up h.b hb, h.r.below hb, h.ok, h.s⟩
theorem TS.drew (h : TS W v ps L w) : TS W v ps L w.drew := ⟨h.b.drew, h.r, h.ok, h.s⟩
theorem TS.put {j : Nat} (h : TS W (.slice (some ⟨b, o, none⟩) n c) ps L w) (hi : ps[i]? = some p) (hj : j < 3) (hq : encP q = (encP p).set j (.int .i64 x)) (hk : q.ok ∧ q.l ≤ 1073741824) (hb : Below w.heap.size (w.setCell ⟨b, o + i * 3 + j, none⟩ (.int .i64 x)) w') :
    TS W (.slice (some ⟨b, o, none⟩) n c) (ps.set i q) (L - (p.l - p.g) + (q.l - q.g)) w' :=
  ⟨below_put h.b h.r.lt.1 hb, h.r.put hi hj hq hb, fun r hr => by
    rcases List.mem_or_eq_of_mem_set hr with h1 | rfl
    · exact h.ok r h1
    · exact hk, by rw [ts_set hi, h.s]⟩
theorem TS.snoc (h : TS W v ps L w) (hk : q.ok ∧ q.l ≤ 1073741824) {S : List Nat} (hr : PR (fun b => W.heap.size ≤ b ∨ w.heap.size ≤ b) w' v' (ps ++ [q])) (hT : Turn S w w') (hS : ∀ b ∈ S, W.heap.size ≤ b) :
    TS W v' (ps ++ [q]) (L + (q.l - q.g)) w' :=
  ⟨h.b.trans (hT.below h.b.size hS), hr.keep fun b cur hb _ => ⟨by rcases hb with e | e; exact e; exact Nat.le_trans h.b.size e, rfl⟩, fun r hr => by
    rcases List.mem_append.1 hr with h1 | h1
    · exact h.ok r h1
    · rw [List.mem_singleton.1 h1]; exact hk, by rw [ts_append, h.s]; simp [ts]⟩
set_option maxRecDepth 100000 in
set_option maxHeartbeats 4000000 in
theorem tree_all (a0 : Int) (A1 A2 : Option Addr) (n1 c1 n2 c2 : Nat) (xs ys : List Int) (w : World) (hc1 : n1 ≤ c1) (hm1 : c1 ≤ maxLen) (hl1 : xs.length = n1) (hr1 : LR inI w A1 xs) (hc2 : n2 ≤ c2) (hm2 : c2 ≤ maxLen) (hl2 : ys.length = n2) (hr2 : LR inI w A2 ys) :
    Calls Try.prog 6 #[.int .i64 a0, .slice A1 n1 c1, .slice A2 n2 c2] w fun e w' => e = .returned (.bool true) ∧ Below w.heap.size w w' := by
  have B := Lib.hid (fit_any w)
  have HR := Lib.hid (And.intro hr1 hr2)
  have HL := Lib.hid (And.intro hl1 hl2)
  obtain ⟨L, eL, hL0, hL⟩ := and30 a0
  have HLB := Lib.hid (And.intro hL0 hL)
  clear hr1 hr2 hl1 hl2 hL0 hL
  have hm1' : c1 ≤ 9223372036854775807 := hm1
  have hm2' : c2 ≤ 9223372036854775807 := hm2
  by_cases hbig : 30 < n1
  · have g1 : (n1 : Int) > 30 := by omega
    have g2 : (30 : Int) < n1 := by omega
    go_enter Try.func6, Try.ntmps6
    go_wp2_with fail
    refine B.out.mono ?_; rintro e w1 ⟨rfl, hb⟩
    go_wp2_with fail
    go_ret
    exact ⟨rfl, hb⟩
  have g1 : ¬ (n1 : Int) > 30 := by omega
  have g2 : ¬ (30 : Int) < n1 := by omega
  by_cases hbig2 : 60 < n2
  · have g3 : (n2 : Int) > 60 := by omega
    have g4 : (60 : Int) < n2 := by omega
    go_enter Try.func6, Try.ntmps6
    go_wp2_with fail
    refine B.out.mono ?_; rintro e w1 ⟨rfl, hb⟩
    go_wp2_with fail
    go_ret
    exact ⟨rfl, hb⟩
  have g3 : ¬ (n2 : Int) > 60 := by omega
  have g4 : ¬ (60 : Int) < n2 := by omega
  go_enter Try.func6, Try.ntmps6
  go_wp2_with fail
  refine B.out.mono ?_; rintro e w1 ⟨rfl, hb⟩
  have HT : Hid (TS w (.slice (some ⟨w1.heap.size, 0, none⟩) 1 1) [⟨L, 0, 0⟩] L (w1.alloc (Obj.cells #[.int .i64 L, .int .i64 0, .int .i64 0] 26))) := Lib.hid ⟨below_up hb (below_alloc1 _ _), PR.one w1 ⟨L, 0, 0⟩ hb.size, fun p hp => by
    obtain rfl := List.mem_singleton.1 hp
    have := HLB.out
    refine ⟨?_, ?_⟩
    · show Ok L 0 0
      unfold Ok; omega
    · show L ≤ _
      omega, by simp [ts]⟩
  clear B hb
  go_wp2_with fail
  go_loopg [7, 38] n1 (fun gh va i wr => ∃ k : Nat, k ≤ n1 ∧ gh = n1 - k ∧ i = .int .i64 k ∧ Hid (∃ ps, TS w va ps L wr ∧ ps.length = k + 1))
  case atStart => exact ⟨0, by omega, by omega, rfl, Lib.hid ⟨_, HT.out, rfl⟩⟩
  case round =>
    clear HT
    obtain ⟨k, hk, hg, rfl, hI⟩ := hrel
    by_cases hlt : k < n1
    · obtain ⟨ps, ht, hlen⟩ := hI.out
      obtain ⟨x, hx⟩ : ∃ x, xs[k]? = some x := ⟨_, List.getElem?_eq_getElem (by rw [HL.out.1]; exact hlt)⟩
      obtain ⟨b, off, rfl, hb, hcell⟩ := HR.out.1 k x hx
      have c1 : wr.cell? ⟨b, off + k, none⟩ = some (.int .i64 x) := by rw [ht.b.cell (p := ⟨b, off + k, none⟩) hb]; exact hcell
      obtain ⟨g, eg, hg0, hg1⟩ := and30 x
      obtain ⟨B, o, c, rfl, hc, hcm, hB, hBl⟩ := ht.r.form (by omega)
      obtain ⟨p, hp⟩ : ∃ p, ps[k]? = some p := ⟨_, List.getElem?_eq_getElem (by omega)⟩
      have hpv := ht.r.pv hp
      have hok := ht.ok p (List.mem_of_getElem? hp)
      obtain ⟨O, eO'⟩ : ∃ O, o + k * 3 = O := ⟨_, rfl⟩
      rw [eO'] at hpv
      obtain ⟨q0, q1, q2, _, _, _⟩ := hpv
      have i1 : IntKind.i64.wrap ((k : Int) + 1) = (k : Int) + 1 := by rw [IntKind.wrap_i64]; omega
      have l1 : (k : Int) < n1 := by omega
      obtain ⟨m, em⟩ : ∃ m, ps.length = m := ⟨_, rfl⟩
      have eO : o + (m - 1) * 3 = O := by rw [← eO', ← em, hlen]; rfl
      have l2 : (k : Int) < m := by omega
      have hcm' : c ≤ 9223372036854775807 := hcm
      have CL := Lib.hid (fun W => left_ok hok.1 W)
      have HH := Lib.hid (And.intro ht (And.intro hlen (And.intro hp (And.intro hok (And.intro hg0 (And.intro hg1 (And.intro em eO')))))))
      rw [em] at hc ⊢
      clear ht hlen hp hok hg0 hg1 em eO' hI hb hcell hx
      obtain ⟨r, er⟩ : ∃ r, p.l - p.u - p.g = r := ⟨_, rfl⟩
      rw [er] at CL
      obtain ⟨y, ey⟩ : ∃ y, min g r = y := ⟨_, rfl⟩
      have HY : Hid (0 ≤ y ∧ y ≤ r ∧ p.l - p.u - p.g = r ∧ y ≤ 1073741824) := Lib.hid (by
        have h := HH.out
        have hk := h.2.2.2.1.1
        unfold Pu.ok Ok at hk
        omega)
      clear er
      go_wp2_with fail
      refine (CL.out _).mono ?_; rintro e w2 ⟨rfl, hb⟩
      have H2 := Lib.hid (HH.out.1.below hb)
      clear hb q0 q1 q2 CL
      have hpv : PV w2 B O p.l p.u p.g := by have := H2.out.r.pv HH.out.2.2.1; rw [HH.out.2.2.2.2.2.2.2] at this; exact this
      have C := Lib.hid (give_ok y HH.out.2.2.2.1.1 hpv (tk0 HY.out.1 (by have := HY.out; omega)))
      clear hpv
      go_wp2_with fail
      refine C.out.mono ?_; rintro e w3 ⟨rfl, hb⟩
      have hq : (⟨p.l, p.u, p.g + y⟩ : Pu).ok ∧ p.l ≤ 1073741824 := ⟨by
        have h := HY.out
        have hk := HH.out.2.2.2.1.1
        unfold Pu.ok Ok at hk ⊢
        show 0 ≤ p.u ∧ 0 ≤ p.g + y ∧ p.u + (p.g + y) ≤ p.l ∧ p.l ≤ _
        omega, HH.out.2.2.2.1.2⟩
      have h3 := H2.out.put (j := 2) (q := ⟨p.l, p.u, p.g + y⟩) (x := p.g + y) HH.out.2.2.1 (by omega) rfl hq (by rw [HH.out.2.2.2.2.2.2.2]; exact hb)
      have b4 := below_alloc1 w3 (Obj.cells #[.int .i64 y, .int .i64 0, .int .i64 0] 26)
      have h4 := h3.below b4
      have hqy : (⟨y, 0, 0⟩ : Pu).ok ∧ y ≤ 1073741824 := ⟨by
        have h := HY.out
        unfold Pu.ok Ok
        show 0 ≤ (0 : Int) ∧ 0 ≤ (0 : Int) ∧ (0 : Int) + 0 ≤ y ∧ y ≤ _
        omega, HY.out.2.2.2⟩
      obtain ⟨va', W5, hrun, hr5, S, hT, hS⟩ := append_p (p := ⟨y, 0, 0⟩) 27 h4.r (by rw [List.length_set, HH.out.2.1]; omega)
      have h5 := h4.snoc hqy hr5 hT (fun b hb => (hS b hb).1)
      have H5 : Hid (TS w va' (ps.set k ⟨p.l, p.u, p.g + y⟩ ++ [⟨y, 0, 0⟩]) L W5) := Lib.hid (by
        have e : L - (p.l - p.g) + (p.l - (p.g + y)) + (y - 0) = L := by omega
        rw [← e]; exact h5)
      simp only [World.size_alloc] at hrun
      rw [HH.out.2.2.2.2.2.2.1] at hrun
      have HX := Lib.hid hrun
      clear hb hq h3 b4 h4 hqy hrun hr5 hT hS h5 C H2
      go_wp2_with (at_builtin; refine wpList_append_by rfl (.tmp 62) (.tmp 64) _ _ rfl _ _ _ rfl rfl W5 HX.out ?_)
      go_wp2_with fail
      go_roundg (n1 - (k + 1))
      case rel => exact ⟨k + 1, by omega, rfl, by simp, Lib.hid ⟨_, H5.out, by rw [List.length_append, List.length_set, HH.out.2.1]; rfl⟩⟩
      case measure => first | omega | (simp; omega)
    · obtain rfl : k = n1 := by omega
      clear hlt hk hg
      obtain ⟨ps, ht, hlen⟩ := hI.out
      obtain ⟨B, o, c, rfl, hc, hcm, hB, hBl⟩ := ht.r.form (by omega)
      obtain ⟨m, em⟩ : ∃ m, ps.length = m := ⟨_, rfl⟩
      rw [em] at hc ht hlen ⊢
      have HM := Lib.hid (And.intro hlen (And.intro hB hBl))
      have HT := Lib.hid (And.intro ht em)
      have hcm' : c ≤ 9223372036854775807 := hcm
      clear hI ht em hlen hB hBl
      go_wp2_with fail
      go_loopg [69] n2 (fun gh i wr => ∃ j : Nat, j ≤ n2 ∧ gh = n2 - j ∧ i = .int .i64 j ∧ Hid (∃ ps', TS w (.slice (some ⟨B, o, none⟩) m c) ps' L wr ∧ ps'.length = m))
      case atStart => exact ⟨0, by omega, by omega, rfl, Lib.hid ⟨_, HT.out⟩⟩
      case round =>
        clear HT
        obtain ⟨j, hj, hg, rfl, hI⟩ := hrel
        by_cases hlt : j < n2
        · obtain ⟨ps, ht, hlen⟩ := hI.out
          obtain ⟨y, hy⟩ : ∃ y, ys[j]? = some y := ⟨_, List.getElem?_eq_getElem (by rw [HL.out.2]; exact hlt)⟩
          obtain ⟨b, off, rfl, hb, hcell⟩ := HR.out.2 j y hy
          have c1 : wr.cell? ⟨b, off + j, none⟩ = some (.int .i64 y) := by rw [ht.b.cell (p := ⟨b, off + j, none⟩) hb]; exact hcell
          have hm0 : 0 < m := by have := HM.out.1; omega
          obtain ⟨q, eq, hq⟩ : ∃ q : Nat, (j : Int).tmod (m : Int) = (q : Int) ∧ q < m := ⟨j % m, by rw [Int.tmod_eq_emod_of_nonneg (by omega)]; rfl, Nat.mod_lt _ hm0⟩
          obtain ⟨p, hp⟩ : ∃ p, ps[q]? = some p := ⟨_, List.getElem?_eq_getElem (by omega)⟩
          have hpv := ht.r.pv hp
          have hok := ht.ok p (List.mem_of_getElem? hp)
          obtain ⟨O, eO⟩ : ∃ O, o + q * 3 = O := ⟨_, rfl⟩
          rw [eO] at hpv
          have HP := Lib.hid hpv
          obtain ⟨q0, q1, q2, _, _, _⟩ := hpv
          have i1 : IntKind.i64.wrap ((j : Int) + 1) = (j : Int) + 1 := by rw [IntKind.wrap_i64]; omega
          have l1 : (j : Int) < n2 := by omega
          have l2 : (q : Int) < m := by omega
          have l3 : ¬ (m : Int) = 0 := by omega
          have CL := Lib.hid (fun W => left_ok hok.1 W)
          obtain ⟨r, er⟩ : ∃ r, p.l - p.u - p.g = r := ⟨_, rfl⟩
          rw [er] at CL
          have HH := Lib.hid (And.intro ht (And.intro hlen (And.intro hp (And.intro hok (And.intro er eO)))))
          clear ht hlen hp hok er hI hb hcell hy
          go_wp2_with fail
          refine (CL.out _).mono ?_; rintro e w2 ⟨rfl, hb⟩
          have H2 := Lib.hid (HH.out.1.below hb)
          have HP2 := Lib.hid (HP.out.below hb)
          clear hb q0 q1 q2 CL HP
          by_cases hy0 : y < 0
          · have C := Lib.hid (take_bad y HH.out.2.2.2.1.1 HP2.out (by unfold tk; rw [if_pos hy0]; omega))
            have et : Hid (tk p.l p.u p.g y = 1) := Lib.hid (by unfold tk; rw [if_pos hy0])
            rw [et.out] at C
            have hy1 : ¬ y ≥ 0 := by omega
            clear et
            go_wp2_with fail
            refine C.out.mono ?_; rintro e w3 ⟨rfl, hb⟩
            have H3 := Lib.hid (H2.out.below hb)
            clear hb C H2 HP2
            go_wp2_with fail
            go_roundg (n2 - (j + 1))
            case rel => exact ⟨j + 1, by omega, rfl, by simp, Lib.hid ⟨_, H3.out, HH.out.2.1⟩⟩
            case measure => first | omega | (simp; omega)
          · have hy1 : y ≥ 0 := by omega
            by_cases hyr : y ≤ r
            · have C := Lib.hid (take_ok y HH.out.2.2.2.1.1 HP2.out (tk0 hy1 (by rw [HH.out.2.2.2.2.1]; exact hyr)))
              go_wp2_with fail
              refine C.out.mono ?_; rintro e w3 ⟨rfl, hb⟩
              have hq2 : (⟨p.l, p.u + y, p.g⟩ : Pu).ok ∧ p.l ≤ 1073741824 := ⟨by
                have hk := HH.out.2.2.2.1.1
                have er := HH.out.2.2.2.2.1
                unfold Pu.ok Ok at hk ⊢
                show 0 ≤ p.u + y ∧ 0 ≤ p.g ∧ p.u + y + p.g ≤ p.l ∧ p.l ≤ _
                omega, HH.out.2.2.2.1.2⟩
              have h3 := H2.out.put (j := 1) (q := ⟨p.l, p.u + y, p.g⟩) (x := p.u + y) HH.out.2.2.1 (by omega) rfl hq2 (by rw [HH.out.2.2.2.2.2]; exact hb)
              have H3 : Hid (TS w (.slice (some ⟨B, o, none⟩) m c) (ps.set q ⟨p.l, p.u + y, p.g⟩) L w3) := Lib.hid (by
                have e : L - (p.l - p.g) + (p.l - p.g) = L := by omega
                rw [← e]; exact h3)
              clear hb C H2 HP2 h3 hq2
              go_wp2_with fail
              go_roundg (n2 - (j + 1))
              case rel => exact ⟨j + 1, by omega, rfl, by simp, Lib.hid ⟨_, H3.out, by rw [List.length_set]; exact HH.out.2.1⟩⟩
              case measure => first | omega | (simp; omega)
            · have et : Hid (tk p.l p.u p.g y = 5) := Lib.hid (tk5 hy1 (by rw [HH.out.2.2.2.2.1]; omega))
              have C := Lib.hid (take_bad y HH.out.2.2.2.1.1 HP2.out (by rw [et.out]; omega))
              rw [et.out] at C
              clear et
              go_wp2_with fail
              refine C.out.mono ?_; rintro e w3 ⟨rfl, hb⟩
              have H3 := Lib.hid (H2.out.below hb)
              clear hb C H2 HP2
              go_wp2_with fail
              go_roundg (n2 - (j + 1))
              case rel => exact ⟨j + 1, by omega, rfl, by simp, Lib.hid ⟨_, H3.out, HH.out.2.1⟩⟩
              case measure => first | omega | (simp; omega)
        · obtain rfl : j = n2 := by omega
          clear hlt hj hg
          obtain ⟨ps, ht, hlen⟩ := hI.out
          have hb30 : ∀ p ∈ ps, 0 ≤ p.l - p.g ∧ p.l - p.g ≤ 1073741824 := fun p hp => by
            have h := ht.ok p hp
            have hk := h.1
            unfold Pu.ok Ok at hk
            omega
          have HT := Lib.hid (And.intro ht (And.intro hlen hb30))
          clear hI ht hlen hb30
          go_wp2_with fail
          go_loopg [18, 100] m (fun gh va i wr => ∃ k : Nat, k ≤ m ∧ gh = m - k ∧ i = .int .i64 k ∧ va = .int .i64 (ts (ps.take k)) ∧ Hid (TS w (.slice (some ⟨B, o, none⟩) m c) ps L wr))
          case atStart => exact ⟨0, by omega, by omega, rfl, by simp [ts], Lib.hid HT.out.1⟩
          case round =>
            obtain ⟨k', hk, hg, rfl, rfl, hI⟩ := hrel
            by_cases hlt : k' < m
            · obtain ⟨p, hp⟩ : ∃ p, ps[k']? = some p := ⟨_, List.getElem?_eq_getElem (by rw [HT.out.2.1]; exact hlt)⟩
              have hpv := hI.out.r.pv hp
              have hok := hI.out.ok p (List.mem_of_getElem? hp)
              obtain ⟨q0, q1, q2, _, _, _⟩ := hpv
              have i1 : IntKind.i64.wrap ((k' : Int) + 1) = (k' : Int) + 1 := by have := HM.out.1; rw [IntKind.wrap_i64]; omega
              have l1 : (k' : Int) < m := by omega
              have CR := Lib.hid (fun W => right_ok hok.1 W)
              have CL := Lib.hid (fun W => left_ok hok.1 W)
              have hbs := ts_le HT.out.2.2 k'
              have hbs2 := hbs.2 (by rw [HT.out.2.1]; omega)
              have htk := ts_take hp
              obtain ⟨r, er⟩ : ∃ r, p.l - p.u - p.g = r := ⟨_, rfl⟩
              rw [er] at CL
              obtain ⟨s, es⟩ : ∃ s, ts (ps.take k') = s := ⟨_, rfl⟩
              have hk31 : (k' : Int) ≤ 100 := by have := HM.out.1; omega
              obtain ⟨t, et⟩ : ∃ t, p.u + r = t := ⟨_, rfl⟩
              have HE : Hid (RowKit.wrap64 (p.u + r) = t ∧ RowKit.wrap64 (s + t) = ts (ps.take (k' + 1))) := Lib.hid (by
                have hk := hok.1
                unfold Pu.ok Ok at hk
                have h30 := HT.out.2.2 p (List.mem_of_getElem? hp)
                rw [es] at hbs hbs2 htk
                rw [htk]
                unfold RowKit.wrap64
                have : (k' : Int) * 1073741824 ≤ 100 * 1073741824 := Int.mul_le_mul_of_nonneg_right hk31 (by omega)
                omega)
              obtain ⟨s', es'⟩ : ∃ s', ts (ps.take (k' + 1)) = s' := ⟨_, rfl⟩
              rw [es'] at HE
              rw [es]
              have HS := Lib.hid (And.intro er (And.intro es es'))
              have B1 := Lib.hid (hI.out.below (below_alloc1 wr (Obj.cells #[.int .i64 p.l, .int .i64 p.u, .int .i64 p.g] 26)))
              have N1 := Lib.hid (PV.new wr p.l p.u p.g)
              clear hp hok hbs hbs2 htk er es et es' hI hk31
              go_wp2_with fail
              refine (CR.out _).mono ?_; rintro e w2 ⟨rfl, hb⟩
              have B2 := Lib.hid (B1.out.below hb)
              have N2 := Lib.hid (N1.out.below hb)
              clear hb q0 q1 q2 CR B1 N1
              go_upto_region 32 with fail
              obtain ⟨N, eN⟩ : ∃ N, wr.heap.size = N := ⟨_, rfl⟩
              rw [eN] at N2
              rw [eN]
              clear eN
              have k0 := cell_regrown N2.out.c0
              have k1 := cell_regrown N2.out.c1
              have k2 := cell_regrown N2.out.c2
              have Q1 : Hid (∀ d os, Calls Try.prog 14 #[.agg #[.int .i64 p.l, .int .i64 p.u, .int .i64 p.g]] (Sort.grow (redrawn w2 d) os) fun e w'' => e = .returned (.int .i64 r) ∧ ∃ p : Regrown, w'' = Sort.grow (redrawn w2 p.d) p.os) := Lib.hid (fun d os => Calls.regrown_of (CL.out _))
              have e1 : RowKit.wrap64 (p.u + r) = t := HE.out.1
              have e2 : RowKit.wrap64 (s + t) = s' := HE.out.2
              clear CL
              refine wp_region_quiet_below (by kernel_rfl) (by kernel_rfl) ?_
              repeat (quiet_step (first | with_reducible exact Q1.out _ _))
              refine wpQuiet_nil ?_
              intro _ hw'
              obtain ⟨⟨dq, osq⟩, hw''⟩ := hw'
              subst hw''
              go_wp2_with fail
              go_roundg (m - (k' + 1))
              case rel => exact ⟨k' + 1, by omega, rfl, by simp, by rw [HS.out.2.2]; exact congrArg (Value.int .i64) (by have h := HE.out; simp only [IntKind.wrap_i64, RowKit.wrap64] at h ⊢; rw [h.1]; exact h.2), Lib.hid (B2.out.below (below_regrown w2 dq osq))⟩
              case measure => first | omega | (simp; omega)
            · obtain rfl : k' = m := by omega
              clear hlt hk hg
              have es : ts (ps.take k') = L := by
                rw [List.take_of_length_le (by rw [HT.out.2.1]; exact Nat.le_refl _)]; exact HT.out.1.s
              rw [es]
              have HB := Lib.hid hI.out.b
              clear hI es
              go_wp2_with fail
              go_ret
              exact ⟨by simp, HB.out⟩
end Go.Proofs.Ytmkjdghjaeolcaa
