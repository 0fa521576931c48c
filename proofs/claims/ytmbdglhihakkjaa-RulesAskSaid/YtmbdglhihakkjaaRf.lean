import Derived.Test.YtmbdglhihakkjaaRa
import Derived.Deep.RegionLaw
namespace Go.Proofs.Ytmbdglhihakkjaa
open Go.RowKit
set_option linter.unusedVariables false
set_option linter.unusedSimpArgs false

/-- What stands behind the joining of two labels' pairs. -/
def AllOf (w : World) (D1 D2 : Int) (L1 L2 : Value) (qs : List (Nat × Int)) (s6 : Value) (wx : World) : Prop :=
  wx.ownsRow (w.heap.size + 2) 61 2 s6 qs.length (F qs) ∧ Below (w.heap.size + 2) ((w.alloc (.cells #[.int .i64 D1, L1] 29)).alloc (.cells #[.int .i64 D2, L2] 29)) wx
theorem news_far {w wx : World} {b off : Nat} {ps : List (Nat × Int)} {A B : Obj} (h : Hid (∀ j u, (F ps)[j]? = some u → w.cell? ((⟨b, off, none⟩ : Addr).add j) = some u)) (hb : b < w.heap.size)
   (hx : Below (w.heap.size + 2) ((w.alloc A).alloc B) wx) : ∀ j u, (F ps)[j]? = some u → wx.cell? ((⟨b, off, none⟩ : Addr).add j) = some u := by
  intro j u hu
  have := h.out j u hu
  rw [addr_add] at this ⊢
  rw [hx.cell (p := ⟨b, _, none⟩) (by simp; omega), World.cell?_alloc_old _ _ _ (by simp; omega), World.cell?_alloc_old _ _ _ (by simp; omega)]
  exact this
set_option maxRecDepth 100000 in
set_option maxHeartbeats 3200000 in
theorem cats_any (v1 v2 : Value) (ps qs : List (Nat × Int)) (D1 D2 : Int) (w : World) (hn : ps.length + qs.length ≤ 8796093022208) (r1 : Reads w v1 ps) (r2 : Reads w v2 qs)
    (hpos : ∀ c ∈ (ps ++ qs).map (·.1), 1 ≤ c) :
    Calls Try.prog 66 #[.agg #[.int .i64 D1, v1], .agg #[.int .i64 D2, v2]] w fun e w' =>
      ∃ v cs, e = .returned v ∧ Lab.CatsOf ((ps ++ qs).map (·.1)) cs ∧ w'.ownsRow w.heap.size 42 1 v cs.length (U cs) ∧ Below w.heap.size w w' := by
  obtain ⟨i0, hi, hz0, hz1, hz2⟩ := info_parts info47
  have R1 := Lib.hid r1
  have R2 := Lib.hid r2
  clear r1 r2
  have HP := Lib.hid hpos
  clear hpos
  go_enter Try.func66, Try.ntmps66
  go_upto_region 2 with fail
  go_cut [6] (fun s6 wx => AllOf w D1 D2 v1 v2 (ps ++ qs) s6 wx)
  case first =>
    rcases R1.out with ⟨rfl, z1⟩ | ⟨b1, o1, c1, rfl, hb1, _, hc1⟩ <;> rcases R2.out with ⟨rfl, z2⟩ | ⟨b2, o2, c2, rfl, hb2, _, hc2⟩
    · have Z1 := Lib.hid z1
      clear z1
      have Z2 := Lib.hid z2
      clear z2
      have hS : ∀ wx : World, Below (w.heap.size + 2) ((w.alloc (Obj.cells #[.int .i64 D1, (.slice none 0 0)] 29)).alloc (Obj.cells #[.int .i64 D2, (.slice none 0 0)] 29)) wx →
          wx.cell? ⟨w.heap.size, 1, none⟩ = some (.slice none 0 0) ∧ wx.cell? ⟨w.heap.size + 1, 1, none⟩ = some (.slice none 0 0) := by
        intro wx hx
        rw [hx.cell (p := ⟨w.heap.size, 1, none⟩) (by simp), hx.cell (p := ⟨w.heap.size + 1, 1, none⟩) (by simp)]
        constructor <;> simp
      have HS := Lib.hid hS
      clear hS
      go_region_held_law (fun w' => w'.cell? ⟨w.heap.size, 1, none⟩ = some (.slice none 0 0) ∧ w'.cell? ⟨w.heap.size + 1, 1, none⟩ = some (.slice none 0 0))
        (first
          | go_keep)
        (first
          | (refine step_append_none _ (by rfl) _ _ _ (by rfl) (w.heap.size + 2) 61 i0 2 Try.underlying27 hi (.slice none 0 0) 0 [] (by rfl) (World.ownsRow_nil _ _ _ _) (by rfl) (some 12) (by rfl) ?_)
          | (refine step_append_none _ (by rfl) _ _ _ (by rfl) (w.heap.size + 2) 61 i0 2 Try.underlying27 hi (.slice none 0 0) 0 [] (by rfl) (World.ownsRow_nil _ _ _ _) (by rfl) (some 15) (by rfl) ?_))
      all_goals (go_wp2_with fail; go_meet; refine ⟨?_, (Below.refl _ _).drew⟩; rw [Z1.out, Z2.out]; exact World.ownsRow_nil _ _ _ _)
    · have Z1 := Lib.hid z1
      clear z1
      have N2 := Lib.hid (news_of hc2)
      clear hc2
      have hS : ∀ wx : World, Below (w.heap.size + 2) ((w.alloc (Obj.cells #[.int .i64 D1, (.slice none 0 0)] 29)).alloc (Obj.cells #[.int .i64 D2, (.slice (some ⟨b2, o2, none⟩) qs.length c2)] 29)) wx →
          wx.cell? ⟨w.heap.size, 1, none⟩ = some (.slice none 0 0) ∧ wx.cell? ⟨w.heap.size + 1, 1, none⟩ = some (.slice (some ⟨b2, o2, none⟩) qs.length c2) := by
        intro wx hx
        rw [hx.cell (p := ⟨w.heap.size, 1, none⟩) (by simp), hx.cell (p := ⟨w.heap.size + 1, 1, none⟩) (by simp)]
        constructor <;> simp
      have HS := Lib.hid hS
      clear hS
      go_region_held_law (fun w' => w'.cell? ⟨w.heap.size, 1, none⟩ = some (.slice none 0 0) ∧ w'.cell? ⟨w.heap.size + 1, 1, none⟩ = some (.slice (some ⟨b2, o2, none⟩) qs.length c2))
        (first
          | go_keep
          | exact HS.out _ hbel2.out)
        (first
          | (refine step_append_none _ (by rfl) _ _ _ (by rfl) (w.heap.size + 2) 61 i0 2 Try.underlying27 hi (.slice none 0 0) 0 [] (by rfl) (World.ownsRow_nil _ _ _ _) (by rfl) (some 12) (by rfl) ?_)
          | (refine step_append_own _ (by rfl) _ _ _ (by rfl) (w.heap.size + 2) 61 i0 _ 2 16 Try.underlying27 hi hz0 hz1 hz2 rfl (by omega) (.slice none 0 0) 0 [] (by rfl) (World.ownsRow_nil _ _ _ _)
              ⟨b2, o2, none⟩ qs.length c2 (F qs) (by rfl) (F_len qs) (news_far N2 hb2 ((Below.refl _ _).drew)) (F_one qs) (by unfold maxLen; omega) (by omega) (by simp) ?_
             intro v2 w2 hown2 hgrow2 _
             have hbel2 := Lib.hid (((Below.refl (w.heap.size + 2) _).drew).grown hgrow2 (by simp) (fun k hk => by cases hk))
             replace hown2 := Lib.hid hown2
             clear hgrow2))
      all_goals (go_wp2_with fail; go_meet; refine ⟨?_, hbel2.out⟩; rw [Z1.out, List.nil_append]; have h := hown2.out; rw [Nat.zero_add, List.nil_append] at h; exact h)
    · have N1 := Lib.hid (news_of hc1)
      clear hc1
      have Z2 := Lib.hid z2
      clear z2
      have hS : ∀ wx : World, Below (w.heap.size + 2) ((w.alloc (Obj.cells #[.int .i64 D1, (.slice (some ⟨b1, o1, none⟩) ps.length c1)] 29)).alloc (Obj.cells #[.int .i64 D2, (.slice none 0 0)] 29)) wx →
          wx.cell? ⟨w.heap.size, 1, none⟩ = some (.slice (some ⟨b1, o1, none⟩) ps.length c1) ∧ wx.cell? ⟨w.heap.size + 1, 1, none⟩ = some (.slice none 0 0) := by
        intro wx hx
        rw [hx.cell (p := ⟨w.heap.size, 1, none⟩) (by simp), hx.cell (p := ⟨w.heap.size + 1, 1, none⟩) (by simp)]
        constructor <;> simp
      have HS := Lib.hid hS
      clear hS
      go_region_held_law (fun w' => w'.cell? ⟨w.heap.size, 1, none⟩ = some (.slice (some ⟨b1, o1, none⟩) ps.length c1) ∧ w'.cell? ⟨w.heap.size + 1, 1, none⟩ = some (.slice none 0 0))
        (first
          | go_keep
          | exact HS.out _ hbel1.out)
        (first
          | (refine step_append_own _ (by rfl) _ _ _ (by rfl) (w.heap.size + 2) 61 i0 _ 2 16 Try.underlying27 hi hz0 hz1 hz2 rfl (by omega) (.slice none 0 0) 0 [] (by rfl) (World.ownsRow_nil _ _ _ _)
              ⟨b1, o1, none⟩ ps.length c1 (F ps) (by rfl) (F_len ps) (news_far N1 hb1 ((Below.refl _ _).drew)) (F_one ps) (by unfold maxLen; omega) (by omega) (by simp) ?_
             intro v1 w1 hown1 hgrow1 _
             have hbel1 := Lib.hid (((Below.refl (w.heap.size + 2) _).drew).grown hgrow1 (by simp) (fun k hk => by cases hk))
             replace hown1 := Lib.hid hown1
             clear hgrow1)
          | (refine step_append_none _ (by rfl) _ _ _ (by rfl) (w.heap.size + 2) 61 i0 2 Try.underlying27 hi v1 _ _ (by rfl) hown1.out (by rfl) (some 15) (by rfl) ?_))
      all_goals (go_wp2_with fail; go_meet; refine ⟨?_, hbel1.out⟩; rw [Z2.out, List.append_nil]; have h := hown1.out; rw [Nat.zero_add, List.nil_append] at h; exact h)
    · have N1 := Lib.hid (news_of hc1)
      clear hc1
      have N2 := Lib.hid (news_of hc2)
      clear hc2
      have hS : ∀ wx : World, Below (w.heap.size + 2) ((w.alloc (Obj.cells #[.int .i64 D1, (.slice (some ⟨b1, o1, none⟩) ps.length c1)] 29)).alloc (Obj.cells #[.int .i64 D2, (.slice (some ⟨b2, o2, none⟩) qs.length c2)] 29)) wx →
          wx.cell? ⟨w.heap.size, 1, none⟩ = some (.slice (some ⟨b1, o1, none⟩) ps.length c1) ∧ wx.cell? ⟨w.heap.size + 1, 1, none⟩ = some (.slice (some ⟨b2, o2, none⟩) qs.length c2) := by
        intro wx hx
        rw [hx.cell (p := ⟨w.heap.size, 1, none⟩) (by simp), hx.cell (p := ⟨w.heap.size + 1, 1, none⟩) (by simp)]
        constructor <;> simp
      have HS := Lib.hid hS
      clear hS
      go_region_held_law (fun w' => w'.cell? ⟨w.heap.size, 1, none⟩ = some (.slice (some ⟨b1, o1, none⟩) ps.length c1) ∧ w'.cell? ⟨w.heap.size + 1, 1, none⟩ = some (.slice (some ⟨b2, o2, none⟩) qs.length c2))
        (first
          | go_keep
          | exact HS.out _ hbel1.out
          | exact HS.out _ hbel2.out)
        (first
          | (refine step_append_own _ (by rfl) _ _ _ (by rfl) (w.heap.size + 2) 61 i0 _ 2 16 Try.underlying27 hi hz0 hz1 hz2 rfl (by omega) (.slice none 0 0) 0 [] (by rfl) (World.ownsRow_nil _ _ _ _)
              ⟨b1, o1, none⟩ ps.length c1 (F ps) (by rfl) (F_len ps) (news_far N1 hb1 ((Below.refl _ _).drew)) (F_one ps) (by unfold maxLen; omega) (by omega) (by simp) ?_
             intro v1 w1 hown1 hgrow1 _
             have hbel1 := Lib.hid (((Below.refl (w.heap.size + 2) _).drew).grown hgrow1 (by simp) (fun k hk => by cases hk))
             replace hown1 := Lib.hid hown1
             clear hgrow1)
          | (refine step_append_own _ (by rfl) _ _ _ (by rfl) (w.heap.size + 2) 61 i0 _ 2 16 Try.underlying27 hi hz0 hz1 hz2 rfl (by omega) v1 _ _ (by rfl) hown1.out
              ⟨b2, o2, none⟩ qs.length c2 (F qs) (by rfl) (F_len qs) (news_far N2 hb2 hbel1.out) (F_one qs) (by unfold maxLen; omega) (by omega) (by have := hbel1.out.size; simp at this; omega) ?_
             intro v2 w2 hown2 hgrow2 _
             have hbel2 := Lib.hid (hbel1.out.grown hgrow2 (by have := hbel1.out.size; simp at this; omega) (fun k hk => (hown1.out.lt k hk).1))
             replace hown2 := Lib.hid hown2
             clear hgrow2))
      all_goals (go_wp2_with fail; go_meet; refine ⟨?_, hbel2.out⟩; rw [List.length_append, F_append]; have h := hown2.out; rw [Nat.zero_add, List.nil_append] at h; exact h)
  case rest =>
    obtain ⟨n1, e1⟩ : ∃ n, ps.length = n := ⟨_, rfl⟩
    obtain ⟨n2, e2⟩ : ∃ n, qs.length = n := ⟨_, rfl⟩
    rw [e1, e2] at hn
    have E1 := Lib.hid e1
    have E2 := Lib.hid e2
    clear e1 e2
    obtain ⟨hall, hbel⟩ := hcut
    have hlen : (ps ++ qs).length = n1 + n2 := by rw [List.length_append, E1.out, E2.out]
    have HR := Lib.hid (reads_of_owns hall (by rw [hlen]; omega))
    have HB := Lib.hid hbel
    have hsz : w.heap.size + 2 ≤ wc.heap.size := by have := hbel.size; simp at this; omega
    obtain ⟨rs, ers⟩ : ∃ rs, ps ++ qs = rs := ⟨_, rfl⟩
    rw [ers] at HP HR hlen
    have ERS := Lib.hid ers
    have HL := Lib.hid hlen
    clear hall hbel ers hlen
    rcases HR.out with ⟨rfl, h0⟩ | ⟨b, off, cap, rfl, h2, h3, h4⟩
    · have H0 := Lib.hid h0
      clear h0
      go_wp2_with fail
      go_loopg [5] 1 (fun g o wr => o = .slice none 0 0 ∧ wr = wc)
      case atStart => exact ⟨rfl, rfl⟩
      case round =>
        obtain ⟨rfl, rfl⟩ := hrel
        go_wp2_with fail
        go_loopg [7, 8] 1 (fun g s7 s8 wr' => s7 = .int .u32 0 ∧ s8 = .int .i64 0 ∧ wr' = wr)
        case atStart => exact ⟨rfl, rfl, rfl⟩
        case round =>
          obtain ⟨rfl, rfl, rfl⟩ := hrel
          go_wp2_with fail
          go_ret
          refine ⟨_, [], rfl, ?_, World.ownsRow_nil _ _ _ _, ⟨HB.out.os, HB.out.tape, HB.out.output, by have := HB.out.size; simp at this; omega, fun i hi => ?_⟩⟩
          · rw [ERS.out, H0.out]; exact ⟨List.Pairwise.nil, by simp, by simp⟩
          · rw [HB.out.block i (by omega), Below.heap_alloc _ _ _ (by simp; omega), Below.heap_alloc _ _ _ hi]
    · have HC := Lib.hid h4
      clear h4
      obtain ⟨n, en⟩ : ∃ n, rs.length = n := ⟨_, rfl⟩
      rw [en] at h3 ⊢
      have EN := Lib.hid en
      have HNN := Lib.hid (show n = n1 + n2 by rw [← HL.out, EN.out])
      have hn8 : n ≤ 8796093022208 := by rw [HNN.out]; exact hn
      clear en
      obtain ⟨xs, exs⟩ : ∃ xs, rs.map (·.1) = xs := ⟨_, rfl⟩
      have EX := Lib.hid exs
      rw [exs] at HP
      clear exs
      go_wp2_with fail
      have hcell : ∀ wr : World, Below wc.heap.size wc wr → ∀ k, k < n → ∃ c : Nat, wr.cell? ⟨b, off + k * 2, none⟩ = some (.int .u32 c) ∧ xs[k]? = some c ∧ 1 ≤ c := by
        intro wr hbel k hk
        obtain ⟨p, hp⟩ : ∃ p, rs[k]? = some p := ⟨_, List.getElem?_eq_getElem (by rw [EN.out]; exact hk)⟩
        have hx : xs[k]? = some p.1 := by rw [← EX.out, List.getElem?_map, hp]; rfl
        refine ⟨p.1, ?_, hx, HP.out p.1 (List.mem_of_getElem? hx)⟩
        rw [hbel.cell (p := ⟨b, _, none⟩) h2]
        exact (HC.out k p hp).1
      have HCELL := Lib.hid hcell
      clear hcell
      go_loopg [5] (Lab.above 0 xs) (fun g o wr => ∃ (cs : List Nat) (N : Nat), Hid (Lab.Gathered xs cs ∧ g = Lab.above (Lab.last cs) xs ∧ wr.ownsRow wc.heap.size 42 1 o cs.length (U cs) ∧ Below wc.heap.size wc wr) ∧ Hid (cs.length = N) ∧ (o = .slice none 0 0 ∧ N = 0 ∨ ∃ g' cap', o = .slice (some ⟨g', 0, none⟩) N cap' ∧ 0 < N))
      case atStart => exact ⟨[], 0, Lib.hid ⟨Lab.gathered_nil xs, rfl, World.ownsRow_nil _ _ _ _, Below.refl _ _⟩, Lib.hid rfl, .inl ⟨rfl, rfl⟩⟩
      case round =>
        obtain ⟨cs, N, HH, HN, hform⟩ := hrel
        go_upto_block 2 with fail
        go_cut [7] (fun s7 wx => wr = wx ∧ ∃ bb : Nat, Hid (bb = Lab.best (Lab.last cs) xs) ∧ s7 = .int .u32 bb)
        case first =>
          rcases hform with ⟨rfl, hcs⟩ | ⟨g', cap', rfl, hcs⟩
          · have HCS := Lib.hid (List.eq_nil_of_length_eq_zero (HN.out.trans hcs))
            clear hcs
            go_wp2_with fail
            go_loopg [7, 8] n (fun g s7 s8 wr' => ∃ k bb : Nat, k ≤ n ∧ Hid (g = n - k) ∧ Hid (bb = Lab.best (Lab.last cs) (xs.take k)) ∧ s7 = .int .u32 bb ∧ s8 = .int .i64 k ∧ wr' = wr)
            case atStart => exact ⟨0, 0, by omega, Lib.hid (by omega), Lib.hid (by simp [Lab.best]), rfl, rfl, rfl⟩
            case round =>
              obtain ⟨k, bb, hk, hg, hb, rfl, rfl, rfl⟩ := hrel
              by_cases hlt : k < n
              · obtain ⟨c, x1, hx, hc1⟩ := HCELL.out wr HH.out.2.2.2 k hlt
                have hst := Lib.hid (Lab.best_snoc (l := Lab.last cs) hx)
                have hl0 : Lab.last cs = 0 := by rw [HCS.out]; rfl
                by_cases e : bb = 0
                · have t1 : ((bb : Int) == 0) = true := by rw [beq_iff_eq]; omega
                  have hv := Lib.hid (show Lab.look (Lab.last cs) bb c = c by unfold Lab.look; rw [if_pos]; exact ⟨by omega, .inl e⟩)
                  clear hx hc1 hl0 e
                  go_wp2
                  go_roundg (n - (k + 1))
                  case measure => rw [hg.out]; omega
                  case rel => exact ⟨k + 1, c, by omega, Lib.hid rfl, Lib.hid (by rw [hst.out, ← hb.out, hv.out]), rfl, by go_num, rfl⟩
                · have t1 : ((bb : Int) == 0) = false := by rw [beq_eq_false_iff_ne]; omega
                  by_cases e2 : c < bb
                  · have hv := Lib.hid (show Lab.look (Lab.last cs) bb c = c by unfold Lab.look; rw [if_pos]; exact ⟨by omega, .inr e2⟩)
                    clear hx hc1 hl0 e
                    go_wp2
                    go_roundg (n - (k + 1))
                    case measure => rw [hg.out]; omega
                    case rel => exact ⟨k + 1, c, by omega, Lib.hid rfl, Lib.hid (by rw [hst.out, ← hb.out, hv.out]), rfl, by go_num, rfl⟩
                  · have hv := Lib.hid (show Lab.look (Lab.last cs) bb c = bb by unfold Lab.look; rw [if_neg]; omega)
                    clear hx hc1 hl0 e
                    go_wp2
                    go_roundg (n - (k + 1))
                    case measure => rw [hg.out]; omega
                    case rel => exact ⟨k + 1, bb, by omega, Lib.hid rfl, Lib.hid (by rw [hst.out, ← hb.out, hv.out]), rfl, by go_num, rfl⟩
              · go_wp2_with fail
                go_meet
                exact ⟨rfl, bb, Lib.hid (by rw [hb.out, List.take_of_length_le]; rw [← EX.out, List.length_map, EN.out]; omega), rfl⟩
          · have eN := HN.out
            obtain ⟨L, eL⟩ : ∃ L, Lab.last cs = L := ⟨_, rfl⟩
            obtain ⟨m, em⟩ : ∃ m, N = m + 1 := ⟨N - 1, by omega⟩
            have yL : wr.cell? ⟨g', m, none⟩ = some (.int .u32 (L : Nat)) := by
              have ho := HH.out.2.2.1
              rw [eN] at ho
              rw [ho.cellAt m (by omega)]
              unfold U
              rw [List.getElem?_map, show m = cs.length - 1 from by omega, Lab.last_get (by omega), eL]; rfl
            have hNn : N ≤ n := by have := HH.out.1.2.2.2; rw [← EX.out, List.length_map, EN.out] at this; omega
            have EL := Lib.hid eL
            have t0 : ((N : Int) == 0) = false := by rw [beq_eq_false_iff_ne]; omega
            have hw : IntKind.i64.wrap ((N : Int) - 1) = (m : Int) := by rw [em]; rw [show ((m + 1 : Nat) : Int) - 1 = (m : Int) from by omega]; exact IntWalk.i64_in _ (by omega)
            have hm : (m : Int) < (N : Int) := by omega
            have EM := Lib.hid em
            clear eN eL em
            go_wp2_with fail
            go_loopg [7, 8] n (fun g s7 s8 wr' => ∃ k bb : Nat, k ≤ n ∧ Hid (g = n - k) ∧ Hid (bb = Lab.best (Lab.last cs) (xs.take k)) ∧ s7 = .int .u32 bb ∧ s8 = .int .i64 k ∧ wr' = wr)
            case atStart => exact ⟨0, 0, by omega, Lib.hid (by omega), Lib.hid (by simp [Lab.best]), rfl, rfl, rfl⟩
            case round =>
              obtain ⟨k, bb, hk, hg, hb, rfl, rfl, rfl⟩ := hrel
              by_cases hlt : k < n
              · obtain ⟨c, x1, hx, hc1⟩ := HCELL.out wr HH.out.2.2.2 k hlt
                have hst := Lib.hid (Lab.best_snoc (l := Lab.last cs) hx)
                by_cases eo : L < c
                · by_cases e : bb = 0
                  · have t1 : ((bb : Int) == 0) = true := by rw [beq_iff_eq]; omega
                    have hv := Lib.hid (show Lab.look (Lab.last cs) bb c = c by rw [EL.out]; unfold Lab.look; rw [if_pos]; exact ⟨by omega, .inl e⟩)
                    clear hx hc1 e
                    go_wp2
                    go_roundg (n - (k + 1))
                    case measure => rw [hg.out]; omega
                    case rel => exact ⟨k + 1, c, by omega, Lib.hid rfl, Lib.hid (by rw [hst.out, ← hb.out, hv.out]), rfl, by go_num, rfl⟩
                  · have t1 : ((bb : Int) == 0) = false := by rw [beq_eq_false_iff_ne]; omega
                    by_cases e2 : c < bb
                    · have hv := Lib.hid (show Lab.look (Lab.last cs) bb c = c by rw [EL.out]; unfold Lab.look; rw [if_pos]; exact ⟨by omega, .inr e2⟩)
                      clear hx hc1 e
                      go_wp2
                      go_roundg (n - (k + 1))
                      case measure => rw [hg.out]; omega
                      case rel => exact ⟨k + 1, c, by omega, Lib.hid rfl, Lib.hid (by rw [hst.out, ← hb.out, hv.out]), rfl, by go_num, rfl⟩
                    · have hv := Lib.hid (show Lab.look (Lab.last cs) bb c = bb by rw [EL.out]; unfold Lab.look; rw [if_neg]; omega)
                      clear hx hc1 e
                      go_wp2
                      go_roundg (n - (k + 1))
                      case measure => rw [hg.out]; omega
                      case rel => exact ⟨k + 1, bb, by omega, Lib.hid rfl, Lib.hid (by rw [hst.out, ← hb.out, hv.out]), rfl, by go_num, rfl⟩
                · have hv := Lib.hid (show Lab.look (Lab.last cs) bb c = bb by rw [EL.out]; unfold Lab.look; rw [if_neg]; omega)
                  clear hx hc1
                  go_wp2
                  go_roundg (n - (k + 1))
                  case measure => rw [hg.out]; omega
                  case rel => exact ⟨k + 1, bb, by omega, Lib.hid rfl, Lib.hid (by rw [hst.out, ← hb.out, hv.out]), rfl, by go_num, rfl⟩
              · go_wp2_with fail
                go_meet
                exact ⟨rfl, bb, Lib.hid (by rw [hb.out, List.take_of_length_le]; rw [← EX.out, List.length_map, EN.out]; omega), rfl⟩
        case rest =>
          obtain ⟨rfl, bb, hb, rfl⟩ := hcut
          have hwz : wc.heap.size ≤ wr.heap.size := HH.out.2.2.2.size
          have hNn : cs.length ≤ n := by have := HH.out.1.2.2.2; rw [← EX.out, List.length_map, EN.out] at this; omega
          by_cases e : bb = 0
          · have t1 : ((bb : Int) == 0) = true := by rw [beq_iff_eq]; omega
            have he := Lib.hid (show Lab.best (Lab.last cs) xs = 0 by rw [← hb.out]; exact e)
            clear e
            go_wp2_with fail
            go_ret
            refine ⟨_, cs, rfl, ?_, owns_mono HH.out.2.2.1 (by omega), ?_⟩
            · rw [ERS.out, EX.out]; exact Lab.gathered_end HH.out.1 HP.out he.out
            · have hB2 := (HB.out.trans (HH.out.2.2.2.mono hsz))
              exact ⟨hB2.os, hB2.tape, hB2.output, by have := hB2.size; simp at this; omega, fun i hi => by rw [hB2.block i (by omega), Below.heap_alloc _ _ _ (by simp; omega), Below.heap_alloc _ _ _ hi]⟩
          · have t1 : ((bb : Int) == 0) = false := by rw [beq_eq_false_iff_ne]; omega
            have hs := Lib.hid (Lab.gathered_snoc HH.out.1 (by rw [← hb.out]; exact e))
            obtain ⟨j0, hj, hy0, hy1, hy2⟩ := info_parts info37
            clear e
            go_wp2_with (at_builtin; refine wpList_append_own _ rfl _ _ 55 rfl wc.heap.size 42 j0 (.int .u32 0) 1 4 Try.underlying55 hj hy0 hy1 hy2 rfl (by decide) _ _ _ rfl (HH.out.2.2.1.alloc _) ⟨wr.heap.size, 0, none⟩ 1 1 [.int .u32 bb] rfl rfl (one_new _ _ _) (one_u32 bb) ?c3 ?c4 ?c5 ?_)
            case c3 => unfold maxLen; omega
            case c4 => omega
            case c5 => simp; omega
            intro v' w1 hown' hgrow hnil
            have HB' := Lib.hid ((HH.out.2.2.2.alloc hwz (.cells #[.int .u32 bb] 42)).grown hgrow (by simp; omega) (fun k hk => (HH.out.2.2.1.lt k hk).1))
            obtain ⟨g'', cap'', rfl, _, _⟩ := hown'.form (by omega)
            have HO' := Lib.hid hown'
            have hN := HN.out
            clear hown' hgrow hnil
            go_wp2_with fail
            go_roundg (Lab.above (Lab.last (cs ++ [bb])) xs)
            case measure => rw [HH.out.2.1, hb.out]; have := hs.out.2; omega
            case rel => 
              refine ⟨cs ++ [bb], cs.length + 1, Lib.hid ⟨?_, rfl, ?_, HB'.out⟩, Lib.hid (by simp), .inr ⟨g'', cap'', rfl, by omega⟩⟩
              · rw [hb.out]; exact hs.out.1
              · rw [U_snoc, List.length_append]; exact HO'.out
end Go.Proofs.Ytmbdglhihakkjaa
-- with Rg
namespace Go.Proofs.Ytmbdglhihakkjaa
open Go.RowKit
set_option linter.unusedVariables false
set_option linter.unusedSimpArgs false

theorem one_any (j : Bool) (x y : Int) (w : World) :
    Calls Try.prog 68 #[.int .i64 x, .int .i64 y, .int .u8 (if j then 106 else 109)] w fun e w' => e = .returned (.int .i64 (Lab.one j x y)) ∧ w = w' := by
  by_cases h : y < x
  · cases j
    · have hv : Lab.one false x y = y := by simp [Lab.one, h]
      have HV := Lib.hid hv
      clear hv
      go_enter Try.func68, Try.ntmps68
      go_wp2
      go_ret
      exact ⟨by rw [HV.out]; rfl, rfl⟩
    · have hv : Lab.one true x y = x := by simp [Lab.one, h]
      have HV := Lib.hid hv
      clear hv
      go_enter Try.func68, Try.ntmps68
      go_wp2
      go_ret
      exact ⟨by rw [HV.out]; rfl, rfl⟩
  · cases j
    · have hv : Lab.one false x y = x := by simp [Lab.one, h]
      have HV := Lib.hid hv
      clear hv
      go_enter Try.func68, Try.ntmps68
      go_wp2
      go_ret
      exact ⟨by rw [HV.out]; rfl, rfl⟩
    · have hv : Lab.one true x y = y := by simp [Lab.one, h]
      have HV := Lib.hid hv
      clear hv
      go_enter Try.func68, Try.ntmps68
      go_wp2
      go_ret
      exact ⟨by rw [HV.out]; rfl, rfl⟩
end Go.Proofs.Ytmbdglhihakkjaa
-- with Rh
namespace Go.Proofs.Ytmbdglhihakkjaa
open Go.RowKit
set_option linter.unusedVariables false
set_option linter.unusedSimpArgs false

/-- A slice of single cells reads as a list of values. -/
def ReadsV (w : World) (v : Value) (us : List Value) : Prop :=
  (v = .slice none 0 0 ∧ us = []) ∨ ∃ b off cap, v = .slice (some ⟨b, off, none⟩) us.length cap ∧ b < w.heap.size ∧ us.length ≤ 140737488351232 ∧
    ∀ i u, us[i]? = some u → w.cell? ⟨b, off + i, none⟩ = some u
theorem ReadsV.below {w w' : World} {v : Value} {us : List Value} (h : ReadsV w v us) (hb : Below w.heap.size w w') : ReadsV w' v us := by
  rcases h with h | ⟨b, off, cap, h1, h2, h3, h4⟩
  · exact .inl h
  · refine .inr ⟨b, off, cap, h1, Nat.lt_of_lt_of_le h2 hb.size, h3, fun i p hp => ?_⟩
    rw [hb.cell (p := ⟨b, _, none⟩) h2]
    exact h4 i p hp
theorem readsV_of_owns {w : World} {base : Nat} {e : TypeId} {v : Value} {us : List Value} {n : Nat} (h : w.ownsRow base e 1 v n us) (hn : n ≤ 140737488351232) : ReadsV w v us := by
  have hl : us.length = n := by have := h.1; omega
  by_cases h0 : n = 0
  · rcases h.2 with ⟨rfl, _⟩ | ⟨g, cap, cur, hv, hb, hg, _⟩
    · exact .inl ⟨rfl, List.eq_nil_of_length_eq_zero (by omega)⟩
    · have hu : us = [] := List.eq_nil_of_length_eq_zero (by omega)
      refine .inr ⟨g, 0, cap, by rw [hl]; exact hv, (Array.getElem?_eq_some_iff.1 hg).1, by omega, fun i p hp => ?_⟩
      rw [hu] at hp; simp at hp
  · obtain ⟨g, cap, rfl, hb, hg⟩ := h.form (by omega)
    refine .inr ⟨g, 0, cap, by rw [hl], hg, by omega, fun i p hp => ?_⟩
    have hi : i < us.length := (List.getElem?_eq_some_iff.1 hp).1
    rw [h.cellAt (0 + i) (by omega), Nat.zero_add]
    exact hp
theorem info24 : (Try.prog.info? 29).map (·.size) = some 2 := by kernel_rfl
/-- Levels, as cells. -/
def V (ls : List Int) : List Value := ls.map (fun (n : Int) => Value.int .i64 n)
theorem owns_set {w : World} {base : Nat} {e : TypeId} {size : Nat} {v : Value} {n : Nat} {xs : List Value} (h : w.ownsRow base e size v n xs) (a : Addr) (u : Value) (hne : some a.block ≠ v.ownBlock) : (w.setCell a u).ownsRow base e size v n xs :=
  h.kept (row := some a.block) ⟨rfl, rfl, rfl, by simp, fun k _ hk => heap_setCell_other w a k u (fun e => hk (by simp [e]))⟩ (.inr fun e => hne e.symm)
/-- What holds while a label is made. -/
def Making (w : World) (D : Int) (m : List (Nat × Int)) (v : Value) (wr : World) : Prop :=
  wr.ownsRow (w.heap.size + 2) 61 2 v m.length (F m) ∧ wr.heap[w.heap.size + 1]? = some (.cells #[.int .i64 D, v] 29) ∧ wr.heap[w.heap.size]? = some (.cells #[.int .i64 0, .slice none 0 0] 29) ∧
    Below w.heap.size w wr ∧ w.heap.size + 2 ≤ wr.heap.size
theorem making_start (w : World) (D : Int) : Making w D [] (.slice none 0 0) ((w.alloc (.cells #[.int .i64 0, .slice none 0 0] 29)).alloc (.cells #[.int .i64 D, .slice none 0 0] 29)) := by
  refine ⟨World.ownsRow_nil _ _ _ _, ?_, ?_, ((Below.refl _ _).alloc (Nat.le_refl _) _).alloc (by simp) _, by simp⟩
  · have := heap_alloc_new (w.alloc (.cells #[.int .i64 0, .slice none 0 0] 29)) (.cells #[.int .i64 D, .slice none 0 0] 29)
    simpa using this
  · rw [Below.heap_alloc _ _ _ (by simp)]; exact heap_alloc_new w _
theorem Making.l {w wr : World} {D : Int} {m : List (Nat × Int)} {v : Value} (h : Making w D m v wr) : wr.cell? ⟨w.heap.size + 1, 1, none⟩ = some v := by
  rw [cell_of_row wr (w.heap.size + 1) 1 _ 29 (0, 0) h.2.1]; rfl
theorem Making.apart {w wr : World} {D : Int} {m : List (Nat × Int)} {v : Value} (h : Making w D m v wr) : some (w.heap.size + 1) ≠ v.ownBlock ∧ some w.heap.size ≠ v.ownBlock := by
  constructor
  · intro e; have := (h.1.lt _ e.symm).1; omega
  · intro e; have := (h.1.lt _ e.symm).1; omega
theorem Making.grown {w wr w1 : World} {D : Int} {m : List (Nat × Int)} {v : Value} {o : Obj} (h : Making w D m v wr) (hg : (wr.alloc o).drew.grownBy w1 v.ownBlock) :
    w1.heap[w.heap.size + 1]? = some (.cells #[.int .i64 D, v] 29) ∧ w1.heap[w.heap.size]? = some (.cells #[.int .i64 0, .slice none 0 0] 29) ∧ Below w.heap.size w w1 ∧ w.heap.size + 2 ≤ w1.heap.size := by
  obtain ⟨h1, h2, h3, h4, h5⟩ := h
  have ap := Making.apart ⟨h1, h2, h3, h4, h5⟩
  refine ⟨?_, ?_, ((h4.alloc (by omega) o).drew).grown hg (by simp; omega) (fun k hk => by have := (h1.lt k hk).1; omega), by have := hg.size; simp at this; omega⟩
  · rw [hg.block _ (by simp; omega) ap.1]; show (wr.alloc o).heap[_]? = _; rw [Below.heap_alloc _ _ _ (by omega)]; exact h2
  · rw [hg.block _ (by simp; omega) ap.2]; show (wr.alloc o).heap[_]? = _; rw [Below.heap_alloc _ _ _ (by omega)]; exact h3
theorem Making.push {w wr w1 : World} {D : Int} {m : List (Nat × Int)} {v v' : Value} {o : Obj} (h : Making w D m v wr) (c : Nat) (l : Int) (hg : (wr.alloc o).drew.grownBy w1 v.ownBlock)
   (hown : w1.ownsRow (w.heap.size + 2) 61 2 v' (m.length + 1) (F m ++ [.int .u32 (c : Int), .int .i64 l])) : Making w D (m ++ [(c, l)]) v' (w1.setCell ⟨w.heap.size + 1, 1, none⟩ v') := by
  obtain ⟨g1, g2, g3, g4⟩ := h.grown hg
  have hs := heap_setCell_same w1 (w.heap.size + 1) 1 _ 29 v' g1
  refine ⟨?_, ?_, ?_, ?_, by simpa using g4⟩
  · rw [List.length_append, F_snoc]
    refine hown.kept (row := some (w.heap.size + 1)) ⟨rfl, rfl, rfl, by simp, fun k _ hk => heap_setCell_other w1 ⟨w.heap.size + 1, 1, none⟩ k v' (fun e => hk (by simp [e]))⟩ ?_
    right; intro e; have := (hown.lt _ e).1; omega
  · simpa using hs
  · rw [heap_setCell_other w1 ⟨w.heap.size + 1, 1, none⟩ _ v' (by simp)]; exact g2
  · exact g3.setCell (by simp) v'
set_option maxHeartbeats 3200000 in
theorem make_some (b1 o1 c1 b2 o2 c2 : Nat) (cs : List Nat) (ls : List Int) (D : Int) (w : World) (hl : ls.length = cs.length) (hn : cs.length ≤ 8796093022207) (hb1 : b1 < w.heap.size) (hb2 : b2 < w.heap.size)
   (hc1 : ∀ i u, (U cs)[i]? = some u → w.cell? ⟨b1, o1 + i, none⟩ = some u) (hc2 : ∀ i u, (V ls)[i]? = some u → w.cell? ⟨b2, o2 + i, none⟩ = some u) :
    Calls Try.prog 69 #[.int .i64 D, .slice (some ⟨b1, o1, none⟩) cs.length c1, .slice (some ⟨b2, o2, none⟩) cs.length c2] w fun e w' =>
      ∃ v, e = .returned (.agg #[.int .i64 D, v]) ∧ w'.ownsRow w.heap.size 61 2 v (Lab.make D cs ls).length (F (Lab.make D cs ls)) ∧ Below w.heap.size w w' := by
  obtain ⟨i0, hi, hz0, hz1, hz2⟩ := info_parts info47
  have HC1 := Lib.hid hc1
  have HC2 := Lib.hid hc2
  obtain ⟨n, en⟩ : ∃ n, cs.length = n := ⟨_, rfl⟩
  rw [en] at hn hl ⊢
  have EN := Lib.hid en
  have EL := Lib.hid hl
  clear hc1 hc2 en hl
  go_enter Try.func69, Try.ntmps69
  go_wp2
  go_loopg [8] n (fun g i wr => ∃ (k : Nat) (v : Value), k ≤ n ∧ Hid (g = n - k) ∧ i = .int .i64 k ∧ Hid (Making w D (((cs.zip ls).take k).filter (fun p => p.2 != D)) v wr))
  case atStart => exact ⟨0, _, by omega, Lib.hid (by omega), rfl, Lib.hid (making_start w D)⟩
  case round =>
    obtain ⟨k, v, hk, hg, rfl, hm⟩ := hrel
    have hL := hm.out.l
    have hsz := hm.out.2.2.2.2
    by_cases hlt : k < n
    · obtain ⟨c, hc⟩ : ∃ c, cs[k]? = some c := ⟨_, List.getElem?_eq_getElem (by rw [EN.out]; exact hlt)⟩
      obtain ⟨l, hl⟩ : ∃ l, ls[k]? = some l := ⟨_, List.getElem?_eq_getElem (by rw [EL.out]; exact hlt)⟩
      have x1 : wr.cell? ⟨b1, o1 + k, none⟩ = some (.int .u32 (c : Nat)) := by
        rw [hm.out.2.2.2.1.cell (p := ⟨b1, _, none⟩) hb1]; exact HC1.out k _ (by unfold U; rw [List.getElem?_map, hc]; rfl)
      have x2 : wr.cell? ⟨b2, o2 + k, none⟩ = some (.int .i64 l) := by
        rw [hm.out.2.2.2.1.cell (p := ⟨b2, _, none⟩) hb2]; exact HC2.out k _ (by unfold V; rw [List.getElem?_map, hl]; rfl)
      by_cases e : l = D
      · have hv := Lib.hid (Lab.make_miss hc hl e)
        have t1 : (l != D) = false := by simp [e]
        clear hc hl e
        go_wp2
        go_roundg (n - (k + 1))
        case measure => rw [hg.out]; omega
        case rel => exact ⟨k + 1, v, by omega, Lib.hid rfl, by go_num, Lib.hid (by rw [hv.out]; exact hm.out)⟩
      · have hv := Lib.hid (Lab.make_hit hc hl e)
        have t1 : (l != D) = true := by simp [e]
        clear hc hl e
        go_upto_region 6 with fail
        have hlen := Lab.make_len D cs ls k
        obtain ⟨m, em⟩ : ∃ m, ((cs.zip ls).take k).filter (fun p => p.2 != D) = m := ⟨_, rfl⟩
        rw [em] at hlen hm
        have EM := Lib.hid em
        clear em
        have hne : ¬ w.heap.size + 1 = wr.heap.size := by omega
        have hLA : (wr.alloc (Obj.cells #[.int .u32 (c : Int), .int .i64 l] 61)).cell? ⟨w.heap.size + 1, 1, none⟩ = some v := by
          rw [World.cell?_alloc_old _ _ _ (by simp; omega)]; exact hL
        have hLB : (wr.alloc (Obj.cells #[.int .u32 (c : Int), .int .i64 l] 61)).drew.cell? ⟨w.heap.size + 1, 1, none⟩ = some v := hLA
        have hLC : (wr.drew.alloc (Obj.cells #[.int .u32 (c : Int), .int .i64 l] 61)).cell? ⟨w.heap.size + 1, 1, none⟩ = some v := hLA
        go_region_law (first
          | (refine step_append_own _ (by rfl) _ _ _ (by rfl) (w.heap.size + 2) 61 i0 _ 2 16 Try.underlying27 hi hz0 hz1 hz2 rfl (by omega) v _ _ (by rfl) ((hm.out.1.alloc _).drew)
              ⟨wr.heap.size, 0, none⟩ 1 1 [.int .u32 (c : Int), .int .i64 l] (by rfl) (by rfl) (World.news_of_block (cs := #[.int .u32 (c : Int), .int .i64 l]) (t := 61) (fr := (0, 0)) (heap_alloc_new wr _)) (by simp [Value.oneCell']) (by unfold maxLen; omega) (by omega) (by simp; omega) ?_
             intro v' w1 hown1 hgrow1 _
             obtain ⟨g', cap', rfl, _, _⟩ := hown1.form (by omega)
             have hpush := Lib.hid (hm.out.push c l hgrow1 hown1)
             have hL1 := cell_of_row w1 (w.heap.size + 1) 1 _ 29 (0, 0) (hm.out.grown hgrow1).1
             have hF1 := frozen_of_row w1 (w.heap.size + 1) 1 _ 29 (hm.out.grown hgrow1).1
             replace hown1 := Lib.hid hown1
             clear hgrow1))
        all_goals
          go_wp2_with fail
          go_roundg (n - (k + 1))
          case measure => rw [hg.out]; omega
          case rel => exact ⟨k + 1, _, by omega, Lib.hid rfl, by go_num, Lib.hid (by rw [hv.out, EM.out]; exact hpush.out)⟩
    · have hform : v = .slice none 0 0 ∨ ∃ g' n' cap', v = .slice (some ⟨g', 0, none⟩) n' cap' := by
        rcases hm.out.1.2 with ⟨h, _⟩ | ⟨g', cap', cur, h, _⟩
        · exact .inl h
        · exact .inr ⟨_, _, _, h⟩
      have hL0 : wr.cell? ⟨w.heap.size + 1, 0, none⟩ = some (.int .i64 D) := by rw [cell_of_row wr _ 0 _ 29 (0, 0) hm.out.2.1]; rfl
      have hR0 : wr.cell? ⟨w.heap.size, 0, none⟩ = some (.int .i64 0) := by rw [cell_of_row wr _ 0 _ 29 (0, 0) hm.out.2.2.1]; rfl
      have hR1 : wr.cell? ⟨w.heap.size, 1, none⟩ = some (.slice none 0 0) := by rw [cell_of_row wr _ 1 _ 29 (0, 0) hm.out.2.2.1]; rfl
      have hF0 : wr.frozen? ⟨w.heap.size, 0, none⟩ = false := frozen_of_row wr _ 0 _ 29 hm.out.2.2.1
      have hF1 : wr.frozen? ⟨w.heap.size, 1, none⟩ = false := frozen_of_row wr _ 1 _ 29 hm.out.2.2.1
      have hread : ∀ w2 : World, Below (w.heap.size) w w2 → w2.ownsRow (w.heap.size + 2) 61 2 v (((cs.zip ls).take k).filter (fun p => p.2 != D)).length (F (((cs.zip ls).take k).filter (fun p => p.2 != D))) → w2.ownsRow w.heap.size 61 2 v (Lab.make D cs ls).length (F (Lab.make D cs ls)) := by
        intro w2 _ ho
        have hmk : ((cs.zip ls).take k).filter (fun p => p.2 != D) = Lab.make D cs ls := by
          unfold Lab.make; rw [List.take_of_length_le]; rw [List.length_zip, EN.out, EL.out]; omega
        rw [hmk] at ho
        exact owns_mono ho (by omega)
      have HR := Lib.hid hread
      clear hread
      rcases hform with rfl | ⟨g', n', cap', rfl⟩
      · go_wp2
        have hblk : ((wr.setCell ⟨w.heap.size, 0, none⟩ (.int .i64 D)).setCell ⟨w.heap.size, 1, none⟩ (.slice none 0 0)).heap[w.heap.size]? = some (.cells #[.int .i64 D, .slice none 0 0] 29) := by
          have e1 := heap_setCell_same wr w.heap.size 0 _ 29 (.int .i64 D) hm.out.2.2.1
          have e2 := heap_setCell_same _ w.heap.size 1 _ 29 (.slice none 0 0) e1
          simpa using e2
        refine bodyPost_ret (results_cell_row (by rfl) _ _ w.heap.size 29 _ (0, 0) _ (by rfl) hblk Try.underlying29 rfl info24) rfl ⟨_, rfl, HR.out _ ((hm.out.2.2.2.1.setCell (by simp) _).setCell (by simp) _) ?_, (hm.out.2.2.2.1.setCell (by simp) _).setCell (by simp) _⟩
        exact owns_set (owns_set hm.out.1 _ _ hm.out.apart.2) _ _ hm.out.apart.2
      · go_wp2
        have hblk : ((wr.setCell ⟨w.heap.size, 0, none⟩ (.int .i64 D)).setCell ⟨w.heap.size, 1, none⟩ (.slice (some ⟨g', 0, none⟩) n' cap')).heap[w.heap.size]? = some (.cells #[.int .i64 D, (.slice (some ⟨g', 0, none⟩) n' cap')] 29) := by
          have e1 := heap_setCell_same wr w.heap.size 0 _ 29 (.int .i64 D) hm.out.2.2.1
          have e2 := heap_setCell_same _ w.heap.size 1 _ 29 (.slice (some ⟨g', 0, none⟩) n' cap') e1
          simpa using e2
        refine bodyPost_ret (results_cell_row (by rfl) _ _ w.heap.size 29 _ (0, 0) _ (by rfl) hblk Try.underlying29 rfl info24) rfl ⟨_, rfl, HR.out _ ((hm.out.2.2.2.1.setCell (by simp) _).setCell (by simp) _) ?_, (hm.out.2.2.2.1.setCell (by simp) _).setCell (by simp) _⟩
        exact owns_set (owns_set hm.out.1 _ _ hm.out.apart.2) _ _ hm.out.apart.2
end Go.Proofs.Ytmbdglhihakkjaa
-- with Ri
namespace Go.Proofs.Ytmbdglhihakkjaa
open Go.RowKit
set_option linter.unusedVariables false
set_option linter.unusedSimpArgs false

theorem make_zero (v1 v2 : Value) (D : Int) (w : World) (h : v1 = .slice none 0 0 ∨ ∃ b o c, v1 = .slice (some ⟨b, o, none⟩) 0 c) :
    Calls Try.prog 69 #[.int .i64 D, v1, v2] w fun e w' =>
      ∃ v, e = .returned (.agg #[.int .i64 D, v]) ∧ w'.ownsRow w.heap.size 61 2 v 0 [] ∧ Below w.heap.size w w' := by
  have hblk : ((w.alloc (Obj.cells #[.int .i64 D, .slice none 0 0] 29)).alloc (Obj.cells #[.int .i64 D, .slice none 0 0] 29)).heap[w.heap.size]? = some (.cells #[.int .i64 D, .slice none 0 0] 29) := by
    rw [Below.heap_alloc _ _ _ (by simp)]; exact heap_alloc_new w _
  have HB := Lib.hid hblk
  clear hblk
  rcases h with rfl | ⟨b, o, c, rfl⟩
  · go_enter Try.func69, Try.ntmps69
    go_wp2
    go_loop [8] (fun i => i = .int .i64 0) (fun i => 0)
    case atStart => rfl
    case round =>
      subst hrel
      go_wp2
      exact bodyPost_ret (results_cell_row (by rfl) _ _ w.heap.size 29 _ (0, 0) _ (by rfl) HB.out Try.underlying29 rfl info24) rfl ⟨_, rfl, World.ownsRow_nil _ _ _ _, ((Below.refl _ _).alloc (Nat.le_refl _) _).alloc (by simp) _⟩
  · go_enter Try.func69, Try.ntmps69
    go_wp2
    go_loop [8] (fun i => i = .int .i64 0) (fun i => 0)
    case atStart => rfl
    case round =>
      subst hrel
      go_wp2
      exact bodyPost_ret (results_cell_row (by rfl) _ _ w.heap.size 29 _ (0, 0) _ (by rfl) HB.out Try.underlying29 rfl info24) rfl ⟨_, rfl, World.ownsRow_nil _ _ _ _, ((Below.refl _ _).alloc (Nat.le_refl _) _).alloc (by simp) _⟩
theorem make_any (v1 v2 : Value) (cs : List Nat) (ls : List Int) (D : Int) (w : World) (hl : ls.length = cs.length) (hn : cs.length ≤ 8796093022207) (h1 : ReadsV w v1 (U cs)) (h2 : ReadsV w v2 (V ls)) :
    Calls Try.prog 69 #[.int .i64 D, v1, v2] w fun e w' =>
      ∃ v, e = .returned (.agg #[.int .i64 D, v]) ∧ w'.ownsRow w.heap.size 61 2 v (Lab.make D cs ls).length (F (Lab.make D cs ls)) ∧ Below w.heap.size w w' := by
  have hU : (U cs).length = cs.length := by simp [U]
  have hV : (V ls).length = cs.length := by simp [V, hl]
  by_cases h0 : cs.length = 0
  · have hc : cs = [] := List.eq_nil_of_length_eq_zero h0
    have hm : Lab.make D cs ls = [] := by rw [hc]; simp [Lab.make]
    rw [hm]
    refine make_zero v1 v2 D w ?_
    rcases h1 with ⟨rfl, _⟩ | ⟨b, o, c, rfl, _⟩
    · exact .inl rfl
    · rw [hU, h0]; exact .inr ⟨b, o, c, rfl⟩
  · rcases h1 with ⟨_, h⟩ | ⟨b1, o1, c1, rfl, hb1, _, hc1⟩
    · rw [h] at hU; simp at hU; omega
    · rcases h2 with ⟨_, h⟩ | ⟨b2, o2, c2, rfl, hb2, _, hc2⟩
      · rw [h] at hV; simp at hV; omega
      · rw [hU, hV]
        exact make_some b1 o1 c1 b2 o2 c2 cs ls D w hl hn hb1 hb2 hc1 hc2
end Go.Proofs.Ytmbdglhihakkjaa
