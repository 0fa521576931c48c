import Derived.Test.YtlkhbbdigljpjaaRd
namespace Go.Proofs.Ytlkhbbdigljpjaa
open Go.RowKit
set_option linter.unusedVariables false
set_option linter.unusedSimpArgs false

/-- What stands behind the joining of two labels' pairs. -/
def AllOf (w : World) (D1 D2 : Int) (L1 L2 : Value) (qs : List (Nat × Int)) (s6 : Value) (wx : World) : Prop :=
  wx.ownsRow (w.heap.size + 2) 47 2 s6 qs.length (F qs) ∧ Below (w.heap.size + 2) ((w.alloc (.cells #[.int .i64 D1, L1] 24)).alloc (.cells #[.int .i64 D2, L2] 24)) wx

theorem news_far {w wx : World} {b off : Nat} {ps : List (Nat × Int)} {A B : Obj} (h : Hid (∀ j u, (F ps)[j]? = some u → w.cell? ((⟨b, off, none⟩ : Addr).add j) = some u)) (hb : b < w.heap.size)
   (hx : Below (w.heap.size + 2) ((w.alloc A).alloc B) wx) : ∀ j u, (F ps)[j]? = some u → wx.cell? ((⟨b, off, none⟩ : Addr).add j) = some u := by
  intro j u hu
  have := h.out j u hu
  rw [addr_add] at this ⊢
  rw [hx.cell (p := ⟨b, _, none⟩) (by simp; omega), World.cell?_alloc_old _ _ _ (by simp; omega), World.cell?_alloc_old _ _ _ (by simp; omega)]
  exact this

set_option maxRecDepth 100000 in
set_option maxHeartbeats 3200000 in
theorem cats_any (v1 v2 : Value) (ps qs : List (Nat × Int)) (D1 D2 : Int) (w : World) (hn : ps.length + qs.length ≤ 8796093022208) (r1 : Reads w v1 ps) (r2 : Reads w v2 qs)
    (hpos : ∀ c ∈ (ps ++ qs).map (·.1), 1 ≤ c) :
    Calls Try.prog 40 #[.agg #[.int .i64 D1, v1], .agg #[.int .i64 D2, v2]] w fun e w' =>
      ∃ v cs, e = .returned v ∧ Lab.CatsOf ((ps ++ qs).map (·.1)) cs ∧ w'.ownsRow w.heap.size 37 1 v cs.length (U cs) ∧ Below w.heap.size w w' := by
  obtain ⟨i0, hi, hz0, hz1, hz2⟩ := info_parts info47
  have R1 := Lib.hid r1
  have R2 := Lib.hid r2
  clear r1 r2
  have HP := Lib.hid hpos
  clear hpos
  go_enter Try.func40, Try.ntmps40
  go_upto_region 2 with fail
  go_cut [6] (fun s6 wx => AllOf w D1 D2 v1 v2 (ps ++ qs) s6 wx)
  case first =>
    rcases R1.out with ⟨rfl, z1⟩ | ⟨b1, o1, c1, rfl, hb1, _, hc1⟩ <;> rcases R2.out with ⟨rfl, z2⟩ | ⟨b2, o2, c2, rfl, hb2, _, hc2⟩
    · have Z1 := Lib.hid z1
      clear z1
      have Z2 := Lib.hid z2
      clear z2
      have hS : ∀ wx : World, Below (w.heap.size + 2) ((w.alloc (Obj.cells #[.int .i64 D1, (.slice none 0 0)] 24)).alloc (Obj.cells #[.int .i64 D2, (.slice none 0 0)] 24)) wx →
          wx.cell? ⟨w.heap.size, 1, none⟩ = some (.slice none 0 0) ∧ wx.cell? ⟨w.heap.size + 1, 1, none⟩ = some (.slice none 0 0) := by
        intro wx hx
        rw [hx.cell (p := ⟨w.heap.size, 1, none⟩) (by simp), hx.cell (p := ⟨w.heap.size + 1, 1, none⟩) (by simp)]
        constructor <;> simp
      have HS := Lib.hid hS
      clear hS
      go_region_held_law (fun w' => w'.cell? ⟨w.heap.size, 1, none⟩ = some (.slice none 0 0) ∧ w'.cell? ⟨w.heap.size + 1, 1, none⟩ = some (.slice none 0 0))
        (first
          | go_keep)
        (first
          | (refine step_append_none _ (by rfl) _ _ _ (by rfl) (w.heap.size + 2) 47 i0 2 Try.underlying22 hi (.slice none 0 0) 0 [] (by rfl) (World.ownsRow_nil _ _ _ _) (by rfl) (some 12) (by rfl) ?_)
          | (refine step_append_none _ (by rfl) _ _ _ (by rfl) (w.heap.size + 2) 47 i0 2 Try.underlying22 hi (.slice none 0 0) 0 [] (by rfl) (World.ownsRow_nil _ _ _ _) (by rfl) (some 15) (by rfl) ?_))
      all_goals (go_wp2_with fail; go_meet; refine ⟨?_, (Below.refl _ _).drew⟩; rw [Z1.out, Z2.out]; exact World.ownsRow_nil _ _ _ _)
    · have Z1 := Lib.hid z1
      clear z1
      have N2 := Lib.hid (news_of hc2)
      clear hc2
      have hS : ∀ wx : World, Below (w.heap.size + 2) ((w.alloc (Obj.cells #[.int .i64 D1, (.slice none 0 0)] 24)).alloc (Obj.cells #[.int .i64 D2, (.slice (some ⟨b2, o2, none⟩) qs.length c2)] 24)) wx →
          wx.cell? ⟨w.heap.size, 1, none⟩ = some (.slice none 0 0) ∧ wx.cell? ⟨w.heap.size + 1, 1, none⟩ = some (.slice (some ⟨b2, o2, none⟩) qs.length c2) := by
        intro wx hx
        rw [hx.cell (p := ⟨w.heap.size, 1, none⟩) (by simp), hx.cell (p := ⟨w.heap.size + 1, 1, none⟩) (by simp)]
        constructor <;> simp
      have HS := Lib.hid hS
      clear hS
      go_region_held_law (fun w' => w'.cell? ⟨w.heap.size, 1, none⟩ = some (.slice none 0 0) ∧ w'.cell? ⟨w.heap.size + 1, 1, none⟩ = some (.slice (some ⟨b2, o2, none⟩) qs.length c2))
        (first
          | go_keep
          | exact HS.out _ hbel2.out)
        (first
          | (refine step_append_none _ (by rfl) _ _ _ (by rfl) (w.heap.size + 2) 47 i0 2 Try.underlying22 hi (.slice none 0 0) 0 [] (by rfl) (World.ownsRow_nil _ _ _ _) (by rfl) (some 12) (by rfl) ?_)
          | (refine step_append_own _ (by rfl) _ _ _ (by rfl) (w.heap.size + 2) 47 i0 _ 2 16 Try.underlying22 hi hz0 hz1 hz2 rfl (by omega) (.slice none 0 0) 0 [] (by rfl) (World.ownsRow_nil _ _ _ _)
              ⟨b2, o2, none⟩ qs.length c2 (F qs) (by rfl) (F_len qs) (news_far N2 hb2 ((Below.refl _ _).drew)) (F_one qs) (by unfold maxLen; omega) (by omega) (by simp) ?_
             intro v2 w2 hown2 hgrow2 _
             have hbel2 := Lib.hid (((Below.refl (w.heap.size + 2) _).drew).grown hgrow2 (by simp) (fun k hk => by cases hk))
             replace hown2 := Lib.hid hown2
             clear hgrow2))
      all_goals (go_wp2_with fail; go_meet; refine ⟨?_, hbel2.out⟩; rw [Z1.out, List.nil_append]; have h := hown2.out; rw [Nat.zero_add, List.nil_append] at h; exact h)
    · have N1 := Lib.hid (news_of hc1)
      clear hc1
      have Z2 := Lib.hid z2
      clear z2
      have hS : ∀ wx : World, Below (w.heap.size + 2) ((w.alloc (Obj.cells #[.int .i64 D1, (.slice (some ⟨b1, o1, none⟩) ps.length c1)] 24)).alloc (Obj.cells #[.int .i64 D2, (.slice none 0 0)] 24)) wx →
          wx.cell? ⟨w.heap.size, 1, none⟩ = some (.slice (some ⟨b1, o1, none⟩) ps.length c1) ∧ wx.cell? ⟨w.heap.size + 1, 1, none⟩ = some (.slice none 0 0) := by
        intro wx hx
        rw [hx.cell (p := ⟨w.heap.size, 1, none⟩) (by simp), hx.cell (p := ⟨w.heap.size + 1, 1, none⟩) (by simp)]
        constructor <;> simp
      have HS := Lib.hid hS
      clear hS
      go_region_held_law (fun w' => w'.cell? ⟨w.heap.size, 1, none⟩ = some (.slice (some ⟨b1, o1, none⟩) ps.length c1) ∧ w'.cell? ⟨w.heap.size + 1, 1, none⟩ = some (.slice none 0 0))
        (first
          | go_keep
          | exact HS.out _ hbel1.out)
        (first
          | (refine step_append_own _ (by rfl) _ _ _ (by rfl) (w.heap.size + 2) 47 i0 _ 2 16 Try.underlying22 hi hz0 hz1 hz2 rfl (by omega) (.slice none 0 0) 0 [] (by rfl) (World.ownsRow_nil _ _ _ _)
              ⟨b1, o1, none⟩ ps.length c1 (F ps) (by rfl) (F_len ps) (news_far N1 hb1 ((Below.refl _ _).drew)) (F_one ps) (by unfold maxLen; omega) (by omega) (by simp) ?_
             intro v1 w1 hown1 hgrow1 _
             have hbel1 := Lib.hid (((Below.refl (w.heap.size + 2) _).drew).grown hgrow1 (by simp) (fun k hk => by cases hk))
             replace hown1 := Lib.hid hown1
             clear hgrow1)
          | (refine step_append_none _ (by rfl) _ _ _ (by rfl) (w.heap.size + 2) 47 i0 2 Try.underlying22 hi v1 _ _ (by rfl) hown1.out (by rfl) (some 15) (by rfl) ?_))
      all_goals (go_wp2_with fail; go_meet; refine ⟨?_, hbel1.out⟩; rw [Z2.out, List.append_nil]; have h := hown1.out; rw [Nat.zero_add, List.nil_append] at h; exact h)
    · have N1 := Lib.hid (news_of hc1)
      clear hc1
      have N2 := Lib.hid (news_of hc2)
      clear hc2
      have hS : ∀ wx : World, Below (w.heap.size + 2) ((w.alloc (Obj.cells #[.int .i64 D1, (.slice (some ⟨b1, o1, none⟩) ps.length c1)] 24)).alloc (Obj.cells #[.int .i64 D2, (.slice (some ⟨b2, o2, none⟩) qs.length c2)] 24)) wx →
          wx.cell? ⟨w.heap.size, 1, none⟩ = some (.slice (some ⟨b1, o1, none⟩) ps.length c1) ∧ wx.cell? ⟨w.heap.size + 1, 1, none⟩ = some (.slice (some ⟨b2, o2, none⟩) qs.length c2) := by
        intro wx hx
        rw [hx.cell (p := ⟨w.heap.size, 1, none⟩) (by simp), hx.cell (p := ⟨w.heap.size + 1, 1, none⟩) (by simp)]
        constructor <;> simp
      have HS := Lib.hid hS
      clear hS
      go_region_held_law (fun w' => w'.cell? ⟨w.heap.size, 1, none⟩ = some (.slice (some ⟨b1, o1, none⟩) ps.length c1) ∧ w'.cell? ⟨w.heap.size + 1, 1, none⟩ = some (.slice (some ⟨b2, o2, none⟩) qs.length c2))
        (first
          | go_keep
          | exact HS.out _ hbel1.out
          | exact HS.out _ hbel2.out)
        (first
          | (refine step_append_own _ (by rfl) _ _ _ (by rfl) (w.heap.size + 2) 47 i0 _ 2 16 Try.underlying22 hi hz0 hz1 hz2 rfl (by omega) (.slice none 0 0) 0 [] (by rfl) (World.ownsRow_nil _ _ _ _)
              ⟨b1, o1, none⟩ ps.length c1 (F ps) (by rfl) (F_len ps) (news_far N1 hb1 ((Below.refl _ _).drew)) (F_one ps) (by unfold maxLen; omega) (by omega) (by simp) ?_
             intro v1 w1 hown1 hgrow1 _
             have hbel1 := Lib.hid (((Below.refl (w.heap.size + 2) _).drew).grown hgrow1 (by simp) (fun k hk => by cases hk))
             replace hown1 := Lib.hid hown1
             clear hgrow1)
          | (refine step_append_own _ (by rfl) _ _ _ (by rfl) (w.heap.size + 2) 47 i0 _ 2 16 Try.underlying22 hi hz0 hz1 hz2 rfl (by omega) v1 _ _ (by rfl) hown1.out
              ⟨b2, o2, none⟩ qs.length c2 (F qs) (by rfl) (F_len qs) (news_far N2 hb2 hbel1.out) (F_one qs) (by unfold maxLen; omega) (by omega) (by have := hbel1.out.size; simp at this; omega) ?_
             intro v2 w2 hown2 hgrow2 _
             have hbel2 := Lib.hid (hbel1.out.grown hgrow2 (by have := hbel1.out.size; simp at this; omega) (fun k hk => (hown1.out.lt k hk).1))
             replace hown2 := Lib.hid hown2
             clear hgrow2))
      all_goals (go_wp2_with fail; go_meet; refine ⟨?_, hbel2.out⟩; rw [List.length_append, F_append]; have h := hown2.out; rw [Nat.zero_add, List.nil_append] at h; exact h)
  case rest =>
    obtain ⟨n1, e1⟩ : ∃ n, ps.length = n := ⟨_, rfl⟩
    obtain ⟨n2, e2⟩ : ∃ n, qs.length = n := ⟨_, rfl⟩
    rw [e1, e2] at hn
    have E1 := Lib.hid e1
    have E2 := Lib.hid e2
    clear e1 e2
    obtain ⟨hall, hbel⟩ := hcut
    have hlen : (ps ++ qs).length = n1 + n2 := by rw [List.length_append, E1.out, E2.out]
    have HR := Lib.hid (reads_of_owns hall (by rw [hlen]; omega))
    have HB := Lib.hid hbel
    have hsz : w.heap.size + 2 ≤ wc.heap.size := by have := hbel.size; simp at this; omega
    obtain ⟨rs, ers⟩ : ∃ rs, ps ++ qs = rs := ⟨_, rfl⟩
    rw [ers] at HP HR hlen
    have ERS := Lib.hid ers
    have HL := Lib.hid hlen
    clear hall hbel ers hlen
    rcases HR.out with ⟨rfl, h0⟩ | ⟨b, off, cap, rfl, h2, h3, h4⟩
    · have H0 := Lib.hid h0
      clear h0
      go_wp2_with fail
      go_loopg [5] 1 (fun g o wr => o = .slice none 0 0 ∧ wr = wc)
      case atStart => exact ⟨rfl, rfl⟩
      case round =>
        obtain ⟨rfl, rfl⟩ := hrel
        go_wp2_with fail
        go_loopg [7, 8] 1 (fun g s7 s8 wr' => s7 = .int .u32 0 ∧ s8 = .int .i64 0 ∧ wr' = wr)
        case atStart => exact ⟨rfl, rfl, rfl⟩
        case round =>
          obtain ⟨rfl, rfl, rfl⟩ := hrel
          go_wp2_with fail
          go_ret
          refine ⟨_, [], rfl, ?_, World.ownsRow_nil _ _ _ _, ⟨HB.out.os, HB.out.tape, HB.out.output, by have := HB.out.size; simp at this; omega, fun i hi => ?_⟩⟩
          · rw [ERS.out, H0.out]; exact ⟨List.Pairwise.nil, by simp, by simp⟩
          · rw [HB.out.block i (by omega), Below.heap_alloc _ _ _ (by simp; omega), Below.heap_alloc _ _ _ hi]
    · have HC := Lib.hid h4
      clear h4
      obtain ⟨n, en⟩ : ∃ n, rs.length = n := ⟨_, rfl⟩
      rw [en] at h3 ⊢
      have EN := Lib.hid en
      have HNN := Lib.hid (show n = n1 + n2 by rw [← HL.out, EN.out])
      have hn8 : n ≤ 8796093022208 := by rw [HNN.out]; exact hn
      clear en
      obtain ⟨xs, exs⟩ : ∃ xs, rs.map (·.1) = xs := ⟨_, rfl⟩
      have EX := Lib.hid exs
      rw [exs] at HP
      clear exs
      go_wp2_with fail
      have hcell : ∀ wr : World, Below wc.heap.size wc wr → ∀ k, k < n → ∃ c : Nat, wr.cell? ⟨b, off + k * 2, none⟩ = some (.int .u32 c) ∧ xs[k]? = some c ∧ 1 ≤ c := by
        intro wr hbel k hk
        obtain ⟨p, hp⟩ : ∃ p, rs[k]? = some p := ⟨_, List.getElem?_eq_getElem (by rw [EN.out]; exact hk)⟩
        have hx : xs[k]? = some p.1 := by rw [← EX.out, List.getElem?_map, hp]; rfl
        refine ⟨p.1, ?_, hx, HP.out p.1 (List.mem_of_getElem? hx)⟩
        rw [hbel.cell (p := ⟨b, _, none⟩) h2]
        exact (HC.out k p hp).1
      have HCELL := Lib.hid hcell
      clear hcell
      go_loopg [5] (Lab.above 0 xs) (fun g o wr => ∃ (cs : List Nat) (N : Nat), Hid (Lab.Gathered xs cs ∧ g = Lab.above (Lab.last cs) xs ∧ wr.ownsRow wc.heap.size 37 1 o cs.length (U cs) ∧ Below wc.heap.size wc wr) ∧ Hid (cs.length = N) ∧ (o = .slice none 0 0 ∧ N = 0 ∨ ∃ g' cap', o = .slice (some ⟨g', 0, none⟩) N cap' ∧ 0 < N))
      case atStart => exact ⟨[], 0, Lib.hid ⟨Lab.gathered_nil xs, rfl, World.ownsRow_nil _ _ _ _, Below.refl _ _⟩, Lib.hid rfl, .inl ⟨rfl, rfl⟩⟩
      case round =>
        obtain ⟨cs, N, HH, HN, hform⟩ := hrel
        go_upto_block 2 with fail
        go_cut [7] (fun s7 wx => wr = wx ∧ ∃ bb : Nat, Hid (bb = Lab.best (Lab.last cs) xs) ∧ s7 = .int .u32 bb)
        case first =>
          rcases hform with ⟨rfl, hcs⟩ | ⟨g', cap', rfl, hcs⟩
          · have HCS := Lib.hid (List.eq_nil_of_length_eq_zero (HN.out.trans hcs))
            clear hcs
            go_wp2_with fail
            go_loopg [7, 8] n (fun g s7 s8 wr' => ∃ k bb : Nat, k ≤ n ∧ Hid (g = n - k) ∧ Hid (bb = Lab.best (Lab.last cs) (xs.take k)) ∧ s7 = .int .u32 bb ∧ s8 = .int .i64 k ∧ wr' = wr)
            case atStart => exact ⟨0, 0, by omega, Lib.hid (by omega), Lib.hid (by simp [Lab.best]), rfl, rfl, rfl⟩
            case round =>
              obtain ⟨k, bb, hk, hg, hb, rfl, rfl, rfl⟩ := hrel
              by_cases hlt : k < n
              · obtain ⟨c, x1, hx, hc1⟩ := HCELL.out wr HH.out.2.2.2 k hlt
                have hst := Lib.hid (Lab.best_snoc (l := Lab.last cs) hx)
                have hl0 : Lab.last cs = 0 := by rw [HCS.out]; rfl
                by_cases e : bb = 0
                · have t1 : ((bb : Int) == 0) = true := by rw [beq_iff_eq]; omega
                  have hv := Lib.hid (show Lab.look (Lab.last cs) bb c = c by unfold Lab.look; rw [if_pos]; exact ⟨by omega, .inl e⟩)
                  clear hx hc1 hl0 e
                  go_wp2
                  go_roundg (n - (k + 1))
                  case measure => rw [hg.out]; omega
                  case rel => exact ⟨k + 1, c, by omega, Lib.hid rfl, Lib.hid (by rw [hst.out, ← hb.out, hv.out]), rfl, by go_num, rfl⟩
                · have t1 : ((bb : Int) == 0) = false := by rw [beq_eq_false_iff_ne]; omega
                  by_cases e2 : c < bb
                  · have hv := Lib.hid (show Lab.look (Lab.last cs) bb c = c by unfold Lab.look; rw [if_pos]; exact ⟨by omega, .inr e2⟩)
                    clear hx hc1 hl0 e
                    go_wp2
                    go_roundg (n - (k + 1))
                    case measure => rw [hg.out]; omega
                    case rel => exact ⟨k + 1, c, by omega, Lib.hid rfl, Lib.hid (by rw [hst.out, ← hb.out, hv.out]), rfl, by go_num, rfl⟩
                  · have hv := Lib.hid (show Lab.look (Lab.last cs) bb c = bb by unfold Lab.look; rw [if_neg]; omega)
                    clear hx hc1 hl0 e
                    go_wp2
                    go_roundg (n - (k + 1))
                    case measure => rw [hg.out]; omega
                    case rel => exact ⟨k + 1, bb, by omega, Lib.hid rfl, Lib.hid (by rw [hst.out, ← hb.out, hv.out]), rfl, by go_num, rfl⟩
              · go_wp2_with fail
                go_meet
                exact ⟨rfl, bb, Lib.hid (by rw [hb.out, List.take_of_length_le]; rw [← EX.out, List.length_map, EN.out]; omega), rfl⟩
          · have eN := HN.out
            obtain ⟨L, eL⟩ : ∃ L, Lab.last cs = L := ⟨_, rfl⟩
            obtain ⟨m, em⟩ : ∃ m, N = m + 1 := ⟨N - 1, by omega⟩
            have yL : wr.cell? ⟨g', m, none⟩ = some (.int .u32 (L : Nat)) := by
              have ho := HH.out.2.2.1
              rw [eN] at ho
              rw [ho.cellAt m (by omega)]
              unfold U
              rw [List.getElem?_map, show m = cs.length - 1 from by omega, Lab.last_get (by omega), eL]; rfl
            have hNn : N ≤ n := by have := HH.out.1.2.2.2; rw [← EX.out, List.length_map, EN.out] at this; omega
            have EL := Lib.hid eL
            have t0 : ((N : Int) == 0) = false := by rw [beq_eq_false_iff_ne]; omega
            have hw : IntKind.i64.wrap ((N : Int) - 1) = (m : Int) := by rw [em]; rw [show ((m + 1 : Nat) : Int) - 1 = (m : Int) from by omega]; exact IntWalk.i64_in _ (by omega)
            have hm : (m : Int) < (N : Int) := by omega
            have EM := Lib.hid em
            clear eN eL em
            go_wp2_with fail
            go_loopg [7, 8] n (fun g s7 s8 wr' => ∃ k bb : Nat, k ≤ n ∧ Hid (g = n - k) ∧ Hid (bb = Lab.best (Lab.last cs) (xs.take k)) ∧ s7 = .int .u32 bb ∧ s8 = .int .i64 k ∧ wr' = wr)
            case atStart => exact ⟨0, 0, by omega, Lib.hid (by omega), Lib.hid (by simp [Lab.best]), rfl, rfl, rfl⟩
            case round =>
              obtain ⟨k, bb, hk, hg, hb, rfl, rfl, rfl⟩ := hrel
              by_cases hlt : k < n
              · obtain ⟨c, x1, hx, hc1⟩ := HCELL.out wr HH.out.2.2.2 k hlt
                have hst := Lib.hid (Lab.best_snoc (l := Lab.last cs) hx)
                by_cases eo : L < c
                · by_cases e : bb = 0
                  · have t1 : ((bb : Int) == 0) = true := by rw [beq_iff_eq]; omega
                    have hv := Lib.hid (show Lab.look (Lab.last cs) bb c = c by rw [EL.out]; unfold Lab.look; rw [if_pos]; exact ⟨by omega, .inl e⟩)
                    clear hx hc1 e
                    go_wp2
                    go_roundg (n - (k + 1))
                    case measure => rw [hg.out]; omega
                    case rel => exact ⟨k + 1, c, by omega, Lib.hid rfl, Lib.hid (by rw [hst.out, ← hb.out, hv.out]), rfl, by go_num, rfl⟩
                  · have t1 : ((bb : Int) == 0) = false := by rw [beq_eq_false_iff_ne]; omega
                    by_cases e2 : c < bb
                    · have hv := Lib.hid (show Lab.look (Lab.last cs) bb c = c by rw [EL.out]; unfold Lab.look; rw [if_pos]; exact ⟨by omega, .inr e2⟩)
                      clear hx hc1 e
                      go_wp2
                      go_roundg (n - (k + 1))
                      case measure => rw [hg.out]; omega
                      case rel => exact ⟨k + 1, c, by omega, Lib.hid rfl, Lib.hid (by rw [hst.out, ← hb.out, hv.out]), rfl, by go_num, rfl⟩
                    · have hv := Lib.hid (show Lab.look (Lab.last cs) bb c = bb by rw [EL.out]; unfold Lab.look; rw [if_neg]; omega)
                      clear hx hc1 e
                      go_wp2
                      go_roundg (n - (k + 1))
                      case measure => rw [hg.out]; omega
                      case rel => exact ⟨k + 1, bb, by omega, Lib.hid rfl, Lib.hid (by rw [hst.out, ← hb.out, hv.out]), rfl, by go_num, rfl⟩
                · have hv := Lib.hid (show Lab.look (Lab.last cs) bb c = bb by rw [EL.out]; unfold Lab.look; rw [if_neg]; omega)
                  clear hx hc1
                  go_wp2
                  go_roundg (n - (k + 1))
                  case measure => rw [hg.out]; omega
                  case rel => exact ⟨k + 1, bb, by omega, Lib.hid rfl, Lib.hid (by rw [hst.out, ← hb.out, hv.out]), rfl, by go_num, rfl⟩
              · go_wp2_with fail
                go_meet
                exact ⟨rfl, bb, Lib.hid (by rw [hb.out, List.take_of_length_le]; rw [← EX.out, List.length_map, EN.out]; omega), rfl⟩
        case rest =>
          obtain ⟨rfl, bb, hb, rfl⟩ := hcut
          have hwz : wc.heap.size ≤ wr.heap.size := HH.out.2.2.2.size
          have hNn : cs.length ≤ n := by have := HH.out.1.2.2.2; rw [← EX.out, List.length_map, EN.out] at this; omega
          by_cases e : bb = 0
          · have t1 : ((bb : Int) == 0) = true := by rw [beq_iff_eq]; omega
            have he := Lib.hid (show Lab.best (Lab.last cs) xs = 0 by rw [← hb.out]; exact e)
            clear e
            go_wp2_with fail
            go_ret
            refine ⟨_, cs, rfl, ?_, owns_mono HH.out.2.2.1 (by omega), ?_⟩
            · rw [ERS.out, EX.out]; exact Lab.gathered_end HH.out.1 HP.out he.out
            · have hB2 := (HB.out.trans (HH.out.2.2.2.mono hsz))
              exact ⟨hB2.os, hB2.tape, hB2.output, by have := hB2.size; simp at this; omega, fun i hi => by rw [hB2.block i (by omega), Below.heap_alloc _ _ _ (by simp; omega), Below.heap_alloc _ _ _ hi]⟩
          · have t1 : ((bb : Int) == 0) = false := by rw [beq_eq_false_iff_ne]; omega
            have hs := Lib.hid (Lab.gathered_snoc HH.out.1 (by rw [← hb.out]; exact e))
            obtain ⟨j0, hj, hy0, hy1, hy2⟩ := info_parts info37
            clear e
            go_wp2_with (at_builtin; refine wpList_append_own _ rfl _ _ 39 rfl wc.heap.size 37 j0 (.int .u32 0) 1 4 Try.underlying39 hj hy0 hy1 hy2 rfl (by decide) _ _ _ rfl (HH.out.2.2.1.alloc _) ⟨wr.heap.size, 0, none⟩ 1 1 [.int .u32 bb] rfl rfl (one_new _ _ _) (one_u32 bb) ?c3 ?c4 ?c5 ?_)
            case c3 => unfold maxLen; omega
            case c4 => omega
            case c5 => simp; omega
            intro v' w1 hown' hgrow hnil
            have HB' := Lib.hid ((HH.out.2.2.2.alloc hwz (.cells #[.int .u32 bb] 37)).grown hgrow (by simp; omega) (fun k hk => (HH.out.2.2.1.lt k hk).1))
            obtain ⟨g'', cap'', rfl, _, _⟩ := hown'.form (by omega)
            have HO' := Lib.hid hown'
            have hN := HN.out
            clear hown' hgrow hnil
            go_wp2_with fail
            go_roundg (Lab.above (Lab.last (cs ++ [bb])) xs)
            case measure => rw [HH.out.2.1, hb.out]; have := hs.out.2; omega
            case rel => 
              refine ⟨cs ++ [bb], cs.length + 1, Lib.hid ⟨?_, rfl, ?_, HB'.out⟩, Lib.hid (by simp), .inr ⟨g'', cap'', rfl, by omega⟩⟩
              · rw [hb.out]; exact hs.out.1
              · rw [U_snoc, List.length_append]; exact HO'.out
end Go.Proofs.Ytlkhbbdigljpjaa
