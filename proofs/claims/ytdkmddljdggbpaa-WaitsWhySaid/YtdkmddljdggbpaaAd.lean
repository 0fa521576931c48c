/- WaitsAlerts. -/
import Derived.Test.YtdkmddljdggbpaaAc
set_option linter.unusedVariables false
set_option linter.unusedSimpArgs false
namespace Go.Proofs.Ytdkmddljdggbpaa
open Go.RowKit
set_option linter.unusedVariables false
set_option linter.unusedSimpArgs false
theorem RW.first {α : Type} {e : TypeId} {enc : α → Value} {own : Nat → Prop} {w : World} {A : Option Addr} {n c : Nat} {x : α} {xs : List α} (h : RW own e enc w (.slice A n c) (x :: xs)) : ∃ g o, A = some ⟨g, o, none⟩ ∧ w.cell? ⟨g, o, none⟩ = some (enc x) ∧ n = xs.length + 1 ∧ n ≤ c ∧ c ≤ maxLen := by
  rcases h with ⟨h, _⟩ | ⟨g, o, cap, cur, h1, h2, h3, h4, h5, h6, h7⟩
  · cases h
  · injection h1 with e1 e2 e3
    subst e1 e2 e3
    exact ⟨g, o, rfl, by rw [cell_of_row _ _ _ _ _ (0, 0) h3]; exact h7 0 x rfl, by simp, h5, h6⟩
set_option maxRecDepth 100000 in
set_option maxHeartbeats 4000000 in
theorem alerts_all (A : Option Addr) (l c : Nat) (us : List Nat) (w : World) (hc : l ≤ c) (hcm : c ≤ maxLen) (hl : us.length = l) (hr : LR inU w A us) :
    Calls Try.prog 4 #[.slice A l c] w fun e w' => e = .returned (.bool true) ∧ Below w.heap.size w w' := by
  have B0 := Lib.hid (fit_any w)
  have HR := Lib.hid (And.intro hl hr)
  have hcm' : c ≤ 9223372036854775807 := hcm
  clear hl hr
  by_cases hbig : 300 < l
  · have g1 : (l : Int) > 300 := by omega
    have g2 : (300 : Int) < l := by omega
    go_enter Try.func4, Try.ntmps4
    go_wp2_with fail
    refine B0.out.mono ?_; rintro e w1 ⟨rfl, hb⟩
    go_wp2_with fail
    go_ret
    exact ⟨rfl, hb⟩
  have g1 : ¬ (l : Int) > 300 := by omega
  have g2 : ¬ (300 : Int) < l := by omega
  go_enter Try.func4, Try.ntmps4
  go_wp2_with fail
  refine B0.out.mono ?_; rintro e w1 ⟨rfl, hb⟩
  have HN := Lib.hid (⟨below_up hb (below_alloc1 _ _), hb.size, AV.new w1, RW.nil _ _⟩ : WS w w1.heap.size [] [] (.slice none 0 0) _)
  clear hb B0
  go_wp2_with fail
  obtain ⟨b, eb⟩ : ∃ b, w1.heap.size = b := ⟨_, rfl⟩
  rw [eb] at HN ⊢
  clear eb
  go_loopg [4, 19] l (fun gh v i wr => ∃ k : Nat, k ≤ l ∧ gh = l - k ∧ i = .int .i64 k ∧ ∃ q, Hid (WS w b q q v wr))
  case atStart => exact ⟨0, by omega, by omega, rfl, [], HN⟩
  case round =>
    clear HN
    obtain ⟨k, hk, hg, rfl, q, hI⟩ := hrel
    by_cases hlt : k < l
    · obtain ⟨y, hy⟩ : ∃ y, us[k]? = some y := ⟨_, List.getElem?_eq_getElem (by rw [HR.out.1]; exact hlt)⟩
      obtain ⟨ab, ao, rfl, hab, hcell⟩ := HR.out.2 k y hy
      have d1 : wr.cell? ⟨ab, ao + k, none⟩ = some (.int .u64 (y : Int)) := by rw [hI.out.hw.cell (p := ⟨ab, ao + k, none⟩) hab]; exact hcell
      have i1 : IntKind.i64.wrap ((k : Int) + 1) = (k : Int) + 1 := by rw [IntKind.wrap_i64]; omega
      have l1 : (k : Int) < l := by omega
      obtain ⟨m1, em1, hm1⟩ := uand1 (y : Int)
      have HK := Lib.hid hk
      clear hy hab hcell hk
      go_upto_if 25 with fail
      go_cut [4, 7, 8, 9] from 20 to 105 (fun v v7 v8 v9 wx => ∃ q2, Hid (WS w b q2 q2 v wx))
      case first =>
        clear em1 d1
        obtain ⟨Av, cv, ev, hcv, hcm2, _⟩ := hI.out.hl.form
        have hI2 := hI.out
        have hq4 := hI2.ha.2
        subst ev
        clear hI
        by_cases hm : m1 = 0
        · subst hm
          simp only [show ((0 : Nat) : Int) = 0 from rfl]
          by_cases hf : q.length = 4
          · have C := Lib.hid (push_full hI2.ha hf y)
            rw [hf] at hI2 ⊢
            have HI := Lib.hid hI2
            clear hI2 hf hq4 hcv
            go_wp2_with fail
            refine C.out.mono ?_; rintro e w5 ⟨rfl, rfl⟩
            clear C
            go_wp2_with fail
            go_meet
            exact ⟨q, HI⟩
          · have hf4 : q.length < 4 := by omega
            have C := Lib.hid (push_any hI2.ha hf4 y)
            obtain ⟨n, en⟩ : ∃ n, q.length = n := ⟨_, rfl⟩
            rw [en] at hI2 hcv hf4 ⊢
            have n4 : (n : Int) < 4 := by omega
            have HI := Lib.hid hI2
            have EN := Lib.hid en
            clear hI2 hf hq4 hf4 en
            go_wp2_with fail
            refine C.out.mono ?_; rintro e w5 ⟨rfl, ht, ha⟩
            have h5 := HI.out.turn ht ha
            have h6 := h5.below (below_alloc1 w5 (Obj.cells #[.int .u64 (y : Int)] 22))
            have hr6 : LR inU (w5.alloc (Obj.cells #[.int .u64 (y : Int)] 22)) (some ⟨w5.heap.size, 0, none⟩) [y] := fun i x hx => ⟨_, _, rfl, by simp, by
              rw [cell_of_row _ _ _ _ _ (0, 0) (heap_alloc_new w5 _)]
              match i with
              | 0 => obtain rfl : y = x := by simpa using hx
                     rfl
              | i + 1 => simp at hx⟩
            obtain ⟨w6, e6⟩ : ∃ w6, w5.alloc (Obj.cells #[.int .u64 (y : Int)] 22) = w6 := ⟨_, rfl⟩
            rw [e6] at h6 hr6
            obtain ⟨v', w7, hrun, hu, S, hT, hS⟩ := append_u 30 h6.hl (ys := [y]) (by simp; have := EN.out; omega) (some ⟨w5.heap.size, 0, none⟩) 1 1 rfl (by simp) hr6
            have H7 : Hid (WS w b (q ++ [y]) (q ++ [y]) v' w7) := Lib.hid (h6.list hT hS hu)
            obtain ⟨A7, c7, ev7, _⟩ := hu.form
            obtain ⟨m7, em7⟩ : ∃ m, (q ++ [y]).length = m := ⟨_, rfl⟩
            rw [em7] at ev7
            have HR7 := Lib.hid hrun
            subst ev7
            clear em7
            clear C ht ha h5 h6 hr6 hrun hu hT hS HI hcv
            go_wp2_with (at_builtin; refine wpList_append_by rfl (.tmp 44) (.tmp 46) _ _ rfl _ _ _ rfl rfl w7 HR7.out ?_)
            go_wp2_with fail
            go_meet
            exact ⟨_, H7⟩
        · obtain rfl : m1 = 1 := by omega
          simp only [show ((1 : Nat) : Int) = 1 from rfl]
          clear hm
          cases q with
          | nil =>
            have C := Lib.hid (pop_none hI2.ha)
            simp only [List.length_nil] at hI2 ⊢
            have HI := Lib.hid hI2
            clear hI2 hq4 hcv
            go_wp2_with fail
            refine C.out.mono ?_; rintro e w5 ⟨rfl, rfl⟩
            clear C
            go_wp2_with fail
            go_meet
            exact ⟨[], HI⟩
          | cons x r =>
            have C := Lib.hid (pop_any hI2.ha)
            obtain ⟨n, en⟩ : ∃ n, (x :: r).length = n := ⟨_, rfl⟩
            rw [en] at hI2 hcv ⊢
            have n0 : ¬ (n : Int) = 0 := by simp at en; omega
            have n1 : (0 : Int) < n := by simp at en; omega
            have n2 : (1 : Int) ≤ n := by omega
            have HI := Lib.hid hI2
            clear hI2 hq4 en
            go_wp2_with fail
            refine C.out.mono ?_; rintro e w5 ⟨rfl, ht, ha⟩
            have h5 := HI.out.turn ht ha
            obtain ⟨g, o, rfl, hcell, hn, _⟩ := h5.hl.first
            unfold inU at hcell
            by_cases h1 : cv = 1
            · subst h1
              have H7 : Hid (WS w b r r (.slice (some ⟨g, o, none⟩) 0 0) w5) := Lib.hid ⟨h5.hw, h5.hb, h5.ha, by have := h5.hl.tail; rw [show n - 1 = 0 by omega] at this; simpa using this⟩
              clear C ht ha h5 HI hn
              go_wp2_with fail
              go_meet
              exact ⟨r, H7⟩
            · have H7 : Hid (WS w b r r (.slice (some ⟨g, o + 1, none⟩) (n - 1) (cv - 1)) w5) := Lib.hid ⟨h5.hw, h5.hb, h5.ha, by have := h5.hl.tail; rw [if_neg h1, Option.map_some, addr_add] at this; exact this⟩
              clear C ht ha h5 HI hn
              go_wp2_with fail
              go_meet
              exact ⟨r, H7⟩
      case rest =>
        clear hI d1 em1 hm1 l1
        obtain ⟨q2, hJ⟩ := hcut
        obtain ⟨Av, cv, ev, hcv, hcm2, _⟩ := hJ.out.hl.form
        have C := Lib.hid (list_any hJ.out.ha)
        have hJ2 := hJ.out
        have hq4 := hJ2.ha.2
        subst ev
        clear hJ
        obtain ⟨n, en⟩ : ∃ n, q2.length = n := ⟨_, rfl⟩
        rw [en] at hJ2 hcv hq4 ⊢
        have HJ := Lib.hid hJ2
        have EN := Lib.hid en
        have hcv' : cv ≤ 9223372036854775807 := hcm2
        clear hJ2
        go_wp2_with fail
        refine C.out.mono ?_; rintro e w5 ⟨v, rfl, hv, hb⟩
        obtain ⟨Ag, cg, ev, hcg, hcmg, _⟩ := hv.form
        subst ev
        have HG := Lib.hid (GS.start HJ.out hb hv)
        have D := Lib.hid (len_any HG.out.ha)
        rw [en] at D hcg ⊢
        have hcg' : cg ≤ 9223372036854775807 := hcmg
        clear hb hv C HJ en
        go_wp2_with fail
        refine D.out.mono ?_; rintro e w6 ⟨rfl, rfl⟩
        clear D
        go_wp2_with fail
        go_loopg [86] n (fun gh vi wy => ∃ j : Nat, j ≤ n ∧ gh = n - j ∧ vi = .int .i64 j ∧ Hid (GS w b q2 (.slice Av n cv) Ag j wy))
        case atStart => exact ⟨0, by omega, by omega, rfl, HG⟩
        case round =>
          clear HG
          obtain ⟨j, hj, hgj, rfl, hL⟩ := hrel
          by_cases hjn : j < n
          · obtain ⟨x, hx⟩ : ∃ x, q2[j]? = some x := ⟨_, List.getElem?_eq_getElem (by rw [EN.out]; exact hjn)⟩
            obtain ⟨G, o, rfl, p1, p2⟩ := hL.out.at_ hx
            obtain ⟨Av', cv', ev, _, _, lr⟩ := hL.out.hl.form
            obtain ⟨g, o2, rfl, _, p3⟩ := lr j x hx
            injection ev with ev eb ec
            clear eb ec
            subst ev
            unfold inU at p3
            have HX := Lib.hid hx
            have j1 : (j : Int) < n := by omega
            have i2 : IntKind.i64.wrap ((j : Int) + 1) = (j : Int) + 1 := by rw [IntKind.wrap_i64]; omega
            have HL2 := hL
            have J := Lib.hid (And.intro hj hgj)
            clear lr hx hL hj hgj hjn
            go_upto_region 29 with fail
            go_quiet (fail)
            rename_i nq
            have hL3 := HL2.out.below (show Below wr.heap.size wr (wr.drewN nq) from ⟨rfl, rfl, rfl, Nat.le_refl _, fun _ _ => rfl⟩)
            obtain ⟨wq, eq⟩ : ∃ wq, wr.drewN nq = wq := ⟨_, rfl⟩
            rw [eq] at hL3 ⊢
            clear p1 p2 p3 HL2 eq
            obtain ⟨G', o', e1, p1, p2⟩ := hL3.at_ HX.out
            injection e1 with e1
            injection e1 with e1 e2
            subst e1 e2
            obtain ⟨z, ez⟩ : ∃ z, IntKind.u64.wrap ((x : Int) + 1) = z := ⟨_, rfl⟩
            have HS := Lib.hid (hL3.step HX.out (.int .u64 z))
            clear hL3 HX
            go_wp2_with fail
            go_roundg (n - (j + 1))
            case rel => exact ⟨j + 1, by have := J.out.1; omega, rfl, by simp, HS⟩
            case measure => have := J.out.2; first | omega | (simp; omega)
          · obtain rfl : j = n := by omega
            have HB := Lib.hid hL.out.back
            clear hL hj hjn hgj
            go_wp2_with fail
            go_roundg (l - (k + 1))
            case rel => exact ⟨k + 1, by have := HK.out; omega, rfl, by simp, q2, HB⟩
            case measure => first | omega | (simp; omega)
    · obtain rfl : k = l := by omega
      have HW := Lib.hid hI.out.hw
      clear hI hlt hk hg
      go_wp2_with fail
      go_ret
      exact ⟨rfl, HW.out⟩
end Go.Proofs.Ytdkmddljdggbpaa
