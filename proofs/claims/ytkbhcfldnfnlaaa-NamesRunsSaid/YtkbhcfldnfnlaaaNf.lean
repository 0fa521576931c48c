/- NamesApart. -/
import Derived.Test.YtkbhcfldnfnlaaaNe
import Derived.Test.YtkbhcfldnfnlaaaNc
set_option linter.unusedVariables false
set_option linter.unusedSimpArgs false
namespace Go.Proofs.Ytkbhcfldnfnlaaa
open Go.RowKit
set_option linter.unusedVariables false
set_option linter.unusedSimpArgs false
set_option maxRecDepth 100000 in
set_option maxHeartbeats 4000000 in
theorem apart_all (a0 : Int) (A : Option Addr) (n c : Nat) (xs : List Int) (w : World) (hc : n ≤ c) (hcm : c ≤ maxLen) (hl : xs.length = n) (hr : LR inI w A xs) :
    Calls Try.prog 6 #[.int .i64 a0, .slice A n c] w fun e w' => e = .returned (.bool true) ∧ Below w.heap.size w w' := by
  have B0 := Lib.hid (fit_any w)
  have HR := Lib.hid (And.intro hl hr)
  clear hl hr
  obtain ⟨t, u, N, e1, e2, e3, hN⟩ : ∃ (t u : Int) (i : Nat), a0.tmod 200 = t ∧ RowKit.wrap64 (t + 200) = u ∧ u.tmod 200 = (i : Int) ∧ i < 200 := place_of a0 200 (by omega) (by omega)
  have hcm' : c ≤ 9223372036854775807 := hcm
  by_cases hbig : 30 < n
  · have g1 : (n : Int) > 30 := by omega
    have g2 : (30 : Int) < n := by omega
    go_enter Try.func6, Try.ntmps6
    go_wp2_with fail
    refine B0.out.mono ?_; rintro e w1 ⟨rfl, hb⟩
    go_wp2_with fail
    go_ret
    exact ⟨rfl, hb⟩
  have hmm := @run_makeMap Try.prog
  have g1 : ¬ (n : Int) > 30 := by omega
  have g2 : ¬ (30 : Int) < n := by omega
  have CN := Lib.hid (fun W => new_ok (l := 5) (k := (N : Int)) (by unfold nw; omega) W)
  obtain ⟨N5, eN5⟩ : ∃ N5, 5 + (N : Int) = N5 := ⟨_, rfl⟩
  rw [eN5] at CN
  have HE := Lib.hid eN5
  clear eN5
  go_enter Try.func6, Try.ntmps6
  go_wp2_with fail
  refine B0.out.mono ?_; rintro e w1 ⟨rfl, hb⟩
  have B1 := Lib.hid hb
  clear hb B0
  go_wp2_with fail
  refine (CN.out _).mono ?_; rintro e w2 ⟨rfl, hb⟩
  have B2 := Lib.hid (below_up (below_up B1.out hb) (below_alloc1 w2 (Obj.cells #[.int .u64 5, .int .u64 5, .int .u64 N5] 26)))
  have N2 := Lib.hid (PV.new w2 5 5 N5)
  have hT : NS w (.slice (some ⟨w2.heap.size + 1, 0, none⟩) 1 1) [⟨5, 5, N5⟩] ((w2.alloc (Obj.cells #[.int .u64 5, .int .u64 5, .int .u64 N5] 26)).alloc (Obj.cells #[.int .u64 5, .int .u64 5, .int .u64 N5] 26)) := by
    have r := RR.one (own := fun b => w.heap.size ≤ b) (w2.alloc (Obj.cells #[.int .u64 5, .int .u64 5, .int .u64 N5] 26)) ⟨5, 5, N5⟩ B2.out.size
    rw [World.size_alloc] at r
    exact ⟨below_up B2.out (below_alloc1 _ _), r, fun p hp => by
      obtain rfl := List.mem_singleton.1 hp
      have := HE.out
      show Ok 5 5 N5
      unfold Ok; omega⟩
  have HT := Lib.hid (And.intro hT (show Cov N [⟨5, 5, N5⟩] by rw [← HE.out]; exact Cov.one N))
  clear hb B1 CN B2 hT
  obtain ⟨c0, c1, c2, _, _, _⟩ := N2.out
  go_wp2_with fail
  clear c0 c1 c2 N2 e1 e2 e3
  go_loopg [7, 35] n (fun gh va i wr => ∃ k : Nat, k ≤ n ∧ gh = n - k ∧ i = .int .i64 k ∧ Hid (∃ rs, NS w va rs wr ∧ Cov N rs ∧ rs.length ≤ k + 1 ∧ 0 < rs.length))
  case atStart => exact ⟨0, by omega, by omega, rfl, Lib.hid ⟨_, HT.out.1, HT.out.2, by simp, by simp⟩⟩
  case round =>
    clear HT
    obtain ⟨k, hk, hg, rfl, hI⟩ := hrel
    by_cases hlt : k < n
    · obtain ⟨rs, ht, hcov, hlen, hpos⟩ := hI.out
      obtain ⟨y, hy⟩ : ∃ y, xs[k]? = some y := ⟨_, List.getElem?_eq_getElem (by rw [HR.out.1]; exact hlt)⟩
      obtain ⟨b, off, rfl, hb, hcell⟩ := HR.out.2 k y hy
      have c1 : wr.cell? ⟨b, off + k, none⟩ = some (.int .i64 y) := by rw [ht.b.cell (p := ⟨b, off + k, none⟩) hb]; exact hcell
      obtain ⟨B, o, c3, rfl, hc3, hcm3, hB, hBl⟩ := ht.r.form hpos
      obtain ⟨m, em⟩ : ∃ m, rs.length = m := ⟨_, rfl⟩
      have hm0 : 0 < m := by omega
      obtain ⟨q, eq, hq⟩ : ∃ q : Nat, (k : Int).tmod (m : Int) = (q : Int) ∧ q < m := ⟨k % m, by rw [Int.tmod_eq_emod_of_nonneg (by omega)]; rfl, Nat.mod_lt _ hm0⟩
      obtain ⟨⟨pl, pn, pu⟩, hp⟩ : ∃ p, rs[q]? = some p := ⟨_, List.getElem?_eq_getElem (by omega)⟩
      have hpv := ht.r.pv hp
      have hok : Ok pl pn pu := ht.ok _ (List.mem_of_getElem? hp)
      obtain ⟨O, eO⟩ : ∃ O, o + q * 3 = O := ⟨_, rfl⟩
      rw [eO] at hpv
      have HP := Lib.hid hpv
      obtain ⟨t5, e5⟩ : ∃ t5, y.tmod 50 = t5 := ⟨_, rfl⟩
      obtain ⟨x, e6, hx0, hx1⟩ := and5 t5
      have i1 : IntKind.i64.wrap ((k : Int) + 1) = (k : Int) + 1 := by rw [IntKind.wrap_i64]; omega
      have l1 : (k : Int) < n := by omega
      have l2 : (q : Int) < m := by omega
      have l3 : ¬ (m : Int) = 0 := by omega
      have hcm3' : c3 ≤ 9223372036854775807 := hcm3
      have HX := Lib.hid hx0
      rw [em] at hc3 ht ⊢
      have HH := Lib.hid (And.intro ht (And.intro hcov (And.intro hlen (And.intro em (And.intro hp (And.intro hok eO))))))
      clear ht hcov hlen hpos hB hBl hy hb hcell em hm0 hp hok hpv hI hx0 hx1
      by_cases hxr : x ≤ pu - pn
      · have C := Lib.hid (split_ok (k := x) HH.out.2.2.2.2.2.1 (And.intro HX.out hxr) HP.out)
        obtain ⟨z, ez⟩ : ∃ z, pu - x = z := ⟨_, rfl⟩
        rw [ez] at C
        go_wp2_with fail
        refine C.out.mono ?_; rintro e w3 ⟨rfl, hb⟩
        have hsp := split_right HH.out.2.2.2.2.2.1 HX.out hxr
        have hcv := HH.out.2.1.split HH.out.2.2.2.2.1 HX.out hxr
        rw [ez] at hsp hcv
        have h3 := HH.out.1.put (j := 2) (q := ⟨pl, pn, z⟩) (x := z) HH.out.2.2.2.2.1 (by omega) rfl hsp.1 (by rw [HH.out.2.2.2.2.2.2]; exact hb)
        have h4 := h3.below (below_alloc1 w3 (Obj.cells #[.int .u64 z, .int .u64 z, .int .u64 pu] 26))
        obtain ⟨va', W5, hrun, hr5, S, hT, hS⟩ := append_r (p := ⟨z, z, pu⟩) 29 h4.r (by rw [List.length_set, HH.out.2.2.2.1]; have := HH.out.2.2.1; have := HH.out.2.2.2.1; omega)
        have h5 := h4.snoc (show Rg.ok ⟨z, z, pu⟩ from hsp.2) hr5 hT (fun b hb => (hS b hb).1)
        have H5 := Lib.hid (And.intro h5 hcv)
        simp only [World.size_alloc] at hrun
        obtain ⟨c0, c1', c2, _, _, _⟩ := PV.new w3 z z pu
        have HXX := Lib.hid hrun
        clear hb C hsp hcv h3 h4 hrun hr5 hT hS h5
        go_wp2_with (at_builtin; refine wpList_append_by rfl (.tmp 55) (.tmp 57) _ _ rfl _ _ _ rfl rfl W5 HXX.out ?_)
        go_wp2_with fail
        go_roundg (n - (k + 1))
        case rel => exact ⟨k + 1, by omega, rfl, by simp, Lib.hid ⟨_, H5.out.1, H5.out.2, by rw [List.length_append, List.length_set]; have := HH.out.2.2.1; simp; omega, by rw [List.length_append, List.length_set]; simp⟩⟩
        case measure => first | omega | (simp; omega)
      · have C := Lib.hid (split_bad (k := x) HH.out.2.2.2.2.2.1 (Or.inr (by omega)) HP.out)
        go_wp2_with fail
        refine C.out.mono ?_; rintro e w3 ⟨rfl, hb⟩
        have h3 := Lib.hid ((HH.out.1.below hb).below (below_alloc1 w3 (Obj.cells #[.int .u64 0, .int .u64 0, .int .u64 0] 26)))
        clear hb C
        go_wp2_with fail
        go_roundg (n - (k + 1))
        case rel => exact ⟨k + 1, by omega, rfl, by simp, Lib.hid ⟨_, h3.out, HH.out.2.1, by have := HH.out.2.2.1; omega, by have := HH.out.2.2.2.1; omega⟩⟩
        case measure => first | omega | (simp; omega)
    · obtain rfl : k = n := by omega
      clear hlt hk hg
      obtain ⟨rs, ht, hcov, hlen, hpos⟩ := hI.out
      obtain ⟨B, o, c3, rfl, hc3, hcm3, hB, hBl⟩ := ht.r.form hpos
      obtain ⟨m, em⟩ : ∃ m, rs.length = m := ⟨_, rfl⟩
      rw [em] at hc3 ht hlen ⊢
      have hcm3' : c3 ≤ 9223372036854775807 := hcm3
      have hT : NM w (.slice (some ⟨B, o, none⟩) m c3) wr.heap.size rs 0 (fun _ => 0) (wr.alloc (.map #[] 0)) := ⟨ht.below (below_alloc1 _ _), ht.b.size, MapI.new wr⟩
      have HT := Lib.hid (And.intro hT (And.intro (Sn.none hcov) em))
      have HM := Lib.hid hlen
      clear hI ht hcov em hlen hpos hB hBl hT
      go_wp2_with fail
      obtain ⟨G, eG⟩ : ∃ G, wr.heap.size = G := ⟨_, rfl⟩
      rw [eG] at HT ⊢
      clear eG
      go_loopg [63] m (fun gh i wx => ∃ j : Nat, j ≤ m ∧ gh = m - j ∧ i = .int .i64 j ∧ Hid (∃ rs s f, NM w (.slice (some ⟨B, o, none⟩) m c3) G rs s f wx ∧ Sn N rs s f ∧ rs.length = m ∧ ∀ (i' : Nat) (p : Rg), i' < j → rs[i']? = some p → p.n = p.u))
      case atStart => exact ⟨0, by omega, by omega, rfl, Lib.hid ⟨_, _, _, HT.out.1, HT.out.2.1, HT.out.2.2, fun i' p h => by omega⟩⟩
      case round =>
        clear HT
        obtain ⟨j, hj, hg, rfl, hI⟩ := hrel
        by_cases hlt : j < m
        · obtain ⟨rs, s, f, ht, hsn, hlen, hem⟩ := hI.out
          have i1 : IntKind.i64.wrap ((j : Int) + 1) = (j : Int) + 1 := by have := HM.out; rw [IntKind.wrap_i64]; omega
          have l1 : (j : Int) < m := by omega
          obtain ⟨p0, hp0⟩ : ∃ p, rs[j]? = some p := ⟨_, List.getElem?_eq_getElem (by omega)⟩
          have HS := Lib.hid (And.intro ht (And.intro hsn (And.intro hlen (And.intro hem hp0))))
          clear ht hsn hlen hem hp0 hI
          go_wp2_with fail
          obtain ⟨M, eM⟩ : ∃ M, (p0.u - p0.n).toNat = M := ⟨_, rfl⟩
          go_loopg [] M (fun gh wx => ∃ rs s f p, NM w (.slice (some ⟨B, o, none⟩) m c3) G rs s f wx ∧ Sn N rs s f ∧ rs.length = m ∧ (∀ (i' : Nat) (p : Rg), i' < j → rs[i']? = some p → p.n = p.u) ∧ rs[j]? = some p ∧ gh = (p.u - p.n).toNat)
          case atStart => exact ⟨_, _, _, _, HS.out.1, HS.out.2.1, HS.out.2.2.1, HS.out.2.2.2.1, HS.out.2.2.2.2, eM.symm⟩
          case round =>
            clear HS eM
            obtain ⟨rs, s, f, ⟨pl, pn, pu⟩, ht, hsn, hlen, hem, hp, hg2⟩ := hrel
            have hpv := ht.ns.r.pv hp
            have hok : Ok pl pn pu := ht.ns.ok _ (List.mem_of_getElem? hp)
            obtain ⟨O, eO⟩ : ∃ O, o + j * 3 = O := ⟨_, rfl⟩
            rw [eO] at hpv
            have HH := Lib.hid (And.intro ht (And.intro hsn (And.intro hlen (And.intro hem (And.intro hp (And.intro hok (And.intro eO hg2)))))))
            by_cases hlt2 : pn < pu
            · have C := Lib.hid (take_ok hok hlt2 hpv)
              have htk := hsn.take hp hlt2
              have hok2 : Ok pl (pn + 1) pu := by unfold Ok at *; omega
              have HK := Lib.hid (And.intro htk hok2)
              have CG := Lib.hid (fun W => given_is (l := pl) (n := pn + 1) (u := pu) (x := pn) (r := true) (by rw [decide_eq_true (show pl ≤ pn from hok.2.1), decide_eq_true (show pn < pn + 1 by omega)]; rfl) W)
              obtain ⟨m1, em1⟩ : ∃ m1, pn + 1 = m1 := ⟨_, rfl⟩
              have hne : ¬ pn = 0 := by unfold Ok at hok; omega
              have HB := Lib.hid (show (0 : Int) ≤ pn ∧ pn ≤ 18446744073709551615 ∧ m1 = pn + 1 from by unfold Ok at hok; omega)
              rw [em1] at C HK CG
              clear em1 ht hsn hlen hem hp hok hpv hg2 htk hok2
              go_wp2_with fail
              refine C.out.mono ?_; rintro e w3 ⟨rfl, hb⟩
              have h3 := HH.out.1.put (j := 1) (q := ⟨pl, m1, pu⟩) (x := m1) HH.out.2.2.2.2.1 (by omega) rfl HK.out.2 (by rw [HH.out.2.2.2.2.2.2.1]; exact hb)
              have hpv3 := h3.ns.r.pv (i := j) (p := ⟨pl, m1, pu⟩) (by rw [List.getElem?_set, if_pos rfl, if_pos (List.getElem?_eq_some_iff.1 HH.out.2.2.2.2.1).1])
              rw [HH.out.2.2.2.2.2.2.1] at hpv3
              obtain ⟨c0, c1, c2, _, _, _⟩ := hpv3
              have H3 := Lib.hid h3
              clear hb C h3
              go_wp2_with fail
              refine (CG.out _).mono ?_; rintro e w4 ⟨rfl, hb⟩
              have h4 := H3.out.below hb
              have hs : s < maxLen := by
                have h1 := h4.m
                have h2 := HK.out.1.2.2.2
                have h3 : ∀ rs : List Rg, (∀ p ∈ rs, p.ok) → 0 ≤ sz rs := fun rs => by
                  induction rs with
                  | nil => intro _; simp [sz]
                  | cons y r ih =>
                    intro h
                    have h1 := ih (fun p hp => h p (List.mem_cons_of_mem _ hp))
                    have h2 : Ok y.l y.n y.u := h y (List.mem_cons_self ..)
                    unfold Ok at h2
                    simp only [sz]; omega
                have h4 := h3 _ h4.ns.ok
                unfold maxLen; omega
              obtain ⟨w5, hrun, h5⟩ := h4.store (j := pn) hs HB.out.1 HB.out.2.1 HK.out.1.1
              have hlk := h4.m.at_ HB.out.1 HB.out.2.1
              rw [HK.out.1.1] at hlk
              have H5 := Lib.hid h5
              clear hb h4 hs h5 c0 c1 c2 CG
              go_wp2_with fail
              go_roundg ((pu - m1).toNat)
              case rel => exact ⟨_, _, _, ⟨pl, m1, pu⟩, H5.out, HK.out.1.2, by rw [List.length_set]; exact HH.out.2.2.1, fun i' p h1 h2 => HH.out.2.2.2.1 i' p h1 (by rw [List.getElem?_set, if_neg (by omega)] at h2; exact h2), by rw [List.getElem?_set, if_pos rfl, if_pos (List.getElem?_eq_some_iff.1 HH.out.2.2.2.2.1).1], rfl⟩
              case measure => have h1 := HH.out.2.2.2.2.2.2.2; have h2 := HB.out.2.2; first | omega | (show _ < _; omega)
            · have C := Lib.hid (take_none hlt2 hpv)
              clear ht hsn hlen hem hp hok hpv hg2
              go_wp2_with fail
              refine C.out.mono ?_; rintro e w3 ⟨rfl, hb⟩
              have h3 := Lib.hid (HH.out.1.below hb)
              clear hb C
              go_wp2_with fail
              go_roundg (m - (j + 1))
              case rel => exact ⟨j + 1, by omega, rfl, by simp, Lib.hid ⟨_, _, _, h3.out, HH.out.2.1, HH.out.2.2.1, fun i' p h1 h2 => by
                by_cases e : i' = j
                · subst e
                  have h4 := HH.out.2.2.2.2.1
                  rw [h2] at h4
                  injection h4 with h4
                  have h5 : Ok pl pn pu := HH.out.2.2.2.2.2.1
                  unfold Ok at h5
                  rw [h4]
                  show pn = pu
                  omega
                · exact HH.out.2.2.2.1 i' p (by omega) h2⟩⟩
              case measure => first | omega | (simp; omega)
        · obtain rfl : j = m := by omega
          clear hlt hj hg
          obtain ⟨rs, s, f, ht, hsn, hlen, hem⟩ := hI.out
          have hall := hsn.all (fun i' p h => hem i' p (by have := (List.getElem?_eq_some_iff.1 h).1; omega) h)
          have HS := Lib.hid (And.intro ht hall)
          clear ht hsn hlen hem hI hall
          go_wp2_with fail
          go_loopg [85] N (fun gh i wx => ∃ q : Nat, q ≤ N ∧ gh = N - q ∧ i = .int .i64 q ∧ Hid (MapI wx G s s f ∧ Below w.heap.size w wx))
          case atStart => exact ⟨0, by omega, by omega, rfl, Lib.hid ⟨HS.out.1.m, HS.out.1.ns.b⟩⟩
          case round =>
            obtain ⟨q, hq, hg, rfl, hI⟩ := hrel
            by_cases hlt : q < N
            · have i1 : IntKind.i64.wrap ((q : Int) + 1) = (q : Int) + 1 := by rw [IntKind.wrap_i64]; omega
              obtain ⟨y, ey⟩ : ∃ y, 5 + (q : Int) = y := ⟨_, rfl⟩
              have i2 : IntKind.i64.wrap (5 + (q : Int)) = y := by rw [IntKind.wrap_i64]; omega
              have i3 : IntKind.u64.wrap y = y := by rw [IntKind.wrap_u64]; omega
              have l1 : (q : Int) < N := by omega
              have hlk := hI.out.1.at_ (j := y) (by omega) (by omega)
              rw [HS.out.2.2 y (by omega) (by omega)] at hlk
              clear ey
              go_wp2_with fail
              go_roundg (N - (q + 1))
              case rel => exact ⟨q + 1, by omega, rfl, by simp, hI⟩
              case measure => first | omega | (simp; omega)
            · obtain rfl : q = N := by omega
              clear hlt hq hg
              have hln := fun ty => hI.out.1.len ty
              rw [HS.out.2.1] at hln
              go_wp2_with fail
              go_ret
              exact ⟨by simp, hI.out.2⟩
end Go.Proofs.Ytkbhcfldnfnlaaa
