import Derived.Test.YtlkhbbdigljpjaaRj
namespace Go.Proofs.Ytlkhbbdigljpjaa
open Go.RowKit
set_option linter.unusedVariables false
set_option linter.unusedSimpArgs false

set_option maxRecDepth 100000 in
set_option maxHeartbeats 6400000 in
theorem leq_any (v1 v2 : Value) (ps qs : List (Nat × Int)) (D1 D2 : Int) (w : World) (hn : ps.length + qs.length ≤ 8796093022207) (r1 : Reads w v1 ps) (r2 : Reads w v2 qs)
    (hpos : ∀ c ∈ (ps ++ qs).map (·.1), 1 ≤ c) :
    Calls Try.prog 32 #[.agg #[.int .i64 D1, v1], .agg #[.int .i64 D2, v2]] w fun e w' =>
      ∃ cs, Lab.CatsOf ((ps ++ qs).map (·.1)) cs ∧ e = .returned (.bool (Lab.leq cs D1 ps D2 qs)) ∧ Below w.heap.size w w' := by
  have R1 := Lib.hid r1
  have R2 := Lib.hid r2
  have HP := Lib.hid hpos
  have HN := Lib.hid hn
  clear r1 r2 hpos hn
  go_enter Try.func32, Try.ntmps32
  go_wp2_with fail
  obtain ⟨W0, eW⟩ : ∃ W0, W0 = ((w.alloc (Obj.cells #[Value.int .i64 D1, v1] 24)).alloc (Obj.cells #[Value.int .i64 D2, v2] 24)) := ⟨_, rfl⟩
  rw [← eW]
  have hW : Below w.heap.size w W0 ∧ W0.heap.size = w.heap.size + 2 ∧ W0.heap[w.heap.size]? = some (Obj.cells #[Value.int .i64 D1, v1] 24) ∧ W0.heap[w.heap.size + 1]? = some (Obj.cells #[Value.int .i64 D2, v2] 24) := by
    rw [eW]
    refine ⟨((Below.refl _ _).alloc (Nat.le_refl _) _).alloc (by simp) _, by simp, ?_, ?_⟩
    · rw [Below.heap_alloc _ _ _ (by simp)]; exact heap_alloc_new w _
    · have := heap_alloc_new (w.alloc (Obj.cells #[Value.int .i64 D1, v1] 24)) (Obj.cells #[Value.int .i64 D2, v2] 24); simpa using this
  have HW := Lib.hid hW
  clear hW eW
  refine (cats_any v1 v2 ps qs D1 D2 W0 (by have := HN.out; omega) (R1.out.below HW.out.1) (R2.out.below HW.out.1) HP.out).mono ?_
  rintro e w1 ⟨vc, cs, rfl, hcs, hown, hb1⟩
  have HCS := Lib.hid hcs
  have HB1 := Lib.hid hb1
  have hH : w.heap.size + 2 ≤ w1.heap.size := by have := hb1.size; have := HW.out.2.1; omega
  have hS : ∀ wx, Below w1.heap.size w1 wx → wx.heap[w.heap.size]? = some (Obj.cells #[Value.int .i64 D1, v1] 24) ∧ wx.heap[w.heap.size + 1]? = some (Obj.cells #[Value.int .i64 D2, v2] 24) ∧
      Reads wx v1 ps ∧ Reads wx v2 qs ∧ Below w.heap.size w wx := by
    intro wx hx
    have hw2 : Below (w.heap.size + 2) W0 wx := (HB1.out.mono (by rw [HW.out.2.1]; exact Nat.le_refl _)).trans (hx.mono hH)
    have hw3 : Below w.heap.size w wx := HW.out.1.trans (hw2.mono (by omega))
    refine ⟨?_, ?_, R1.out.below hw3, R2.out.below hw3, hw3⟩
    · rw [hw2.block _ (by omega)]; exact HW.out.2.2.1
    · rw [hw2.block _ (by omega)]; exact HW.out.2.2.2
  have HS := Lib.hid hS
  have hlen : cs.length ≤ 8796093022207 := by have h := hcs.2.2; have := HN.out; rw [List.length_map, List.length_append] at h; omega
  have HRV := Lib.hid (readsV_of_owns hown (by omega))
  clear hcs hb1 hS hown
  obtain ⟨n, en⟩ : ∃ n, cs.length = n := ⟨_, rfl⟩
  rw [en] at hlen
  have EN := Lib.hid en
  clear en
  have hU : (U cs).length = n := by simp [U, EN.out]
  have hcell : ∀ wx, Below w1.heap.size w1 wx → wx.cell? ⟨w.heap.size, 0, none⟩ = some (.int .i64 D1) ∧ wx.cell? ⟨w.heap.size, 1, none⟩ = some v1 ∧
      wx.cell? ⟨w.heap.size + 1, 0, none⟩ = some (.int .i64 D2) ∧ wx.cell? ⟨w.heap.size + 1, 1, none⟩ = some v2 := by
    intro wx h1
    obtain ⟨a1, a2, _⟩ := HS.out wx h1
    refine ⟨?_, ?_, ?_, ?_⟩
    · rw [cell_of_row wx _ 0 _ 24 (0, 0) a1]; rfl
    · rw [cell_of_row wx _ 1 _ 24 (0, 0) a1]; rfl
    · rw [cell_of_row wx _ 0 _ 24 (0, 0) a2]; rfl
    · rw [cell_of_row wx _ 1 _ 24 (0, 0) a2]; rfl
  have HC := Lib.hid hcell
  clear hcell
  obtain ⟨Fq, eF⟩ : ∃ Fq : Nat → Bool, Fq = fun c => decide (Lab.at' D1 ps c ≤ Lab.at' D2 qs c) := ⟨_, rfl⟩
  have hleq : Lab.leq cs D1 ps D2 qs = (cs.all Fq && decide (D1 ≤ D2)) := by rw [eF]; rfl
  have HQ := Lib.hid hleq
  have EF := Lib.hid eF
  clear hleq eF
  rcases HRV.out with ⟨rfl, hc⟩ | ⟨bc, oc, cc, rfl, hbc, _, hcc⟩
  · have hn0 : n = 0 := by rw [← hU, hc]; rfl
    subst hn0
    clear hc hU
    go_wp2_with fail
    go_loopg [6] 1 (fun g i wr => i = .int .i64 0 ∧ w1 = wr)
    case atStart => exact ⟨rfl, rfl⟩
    case round =>
      obtain ⟨rfl, rfl⟩ := hrel
      obtain ⟨s1, s2, s3, s4⟩ := HC.out w1 (Below.refl _ _)
      have hq : Lab.leq cs D1 ps D2 qs = decide (D1 ≤ D2) := by rw [HQ.out, List.eq_nil_of_length_eq_zero EN.out]; simp
      have HQ2 := Lib.hid hq
      clear hq
      go_wp2
      go_ret
      exact ⟨cs, HCS.out, by rw [HQ2.out]; rfl, (HS.out w1 (Below.refl _ _)).2.2.2.2⟩
  · rw [hU]
    have HCC := Lib.hid hcc
    clear hcc hU
    go_wp2_with fail
    go_loopg [6] n (fun g i wr => ∃ k : Nat, k ≤ n ∧ Hid (g = n - k) ∧ i = .int .i64 k ∧ Hid (Below w1.heap.size w1 wr ∧ (cs.take k).all Fq = true))
    case atStart => exact ⟨0, by omega, Lib.hid (by omega), rfl, Lib.hid ⟨Below.refl _ _, by simp⟩⟩
    case round =>
      obtain ⟨k, hk, hg, rfl, hr⟩ := hrel
      obtain ⟨s1, s2, s3, s4⟩ := HC.out wr hr.out.1
      by_cases hlt : k < n
      · obtain ⟨c, hc⟩ : ∃ c, cs[k]? = some c := ⟨_, List.getElem?_eq_getElem (by rw [EN.out]; exact hlt)⟩
        have hszr : w1.heap.size ≤ wr.heap.size := hr.out.1.size
        have hmk : ∀ wx, Below w1.heap.size w1 wx → wx.cell? ⟨w.heap.size, 0, none⟩ = some (.int .i64 D1) ∧ wx.cell? ⟨w.heap.size, 1, none⟩ = some v1 ∧
            wx.cell? ⟨w.heap.size + 1, 0, none⟩ = some (.int .i64 D2) ∧ wx.cell? ⟨w.heap.size + 1, 1, none⟩ = some v2 ∧ wx.cell? ⟨bc, oc + k, none⟩ = some (.int .u32 (c : Nat)) := by
          intro wx h1
          obtain ⟨a1, a2, a3, a4⟩ := HC.out wx h1
          refine ⟨a1, a2, a3, a4, ?_⟩
          rw [h1.cell (p := ⟨bc, _, none⟩) hbc]; exact HCC.out k _ (by unfold U; rw [List.getElem?_map, hc]; rfl)
        have s5 := (hmk wr hr.out.1).2.2.2.2
        obtain ⟨L1, e1⟩ : ∃ L1, Lab.at' D1 ps c = L1 := ⟨_, rfl⟩
        obtain ⟨L2, e2⟩ : ∃ L2, Lab.at' D2 qs c = L2 := ⟨_, rfl⟩
        have hFc : Fq c = decide (L1 ≤ L2) := by rw [EF.out]; show decide (Lab.at' D1 ps c ≤ Lab.at' D2 qs c) = _; rw [e1, e2]
        have Q1 := Lib.hid (fun (wx : World) (h : Reads wx v1 ps) => e1 ▸ at_any v1 ps D1 c wx h)
        have Q2 := Lib.hid (fun (wx : World) (h : Reads wx v2 qs) => e2 ▸ at_any v2 qs D2 c wx h)
        have HMK := Lib.hid hmk
        have hcall := Lib.hid (hr.out.1.drew)
        have HFC := Lib.hid hFc
        have HCK := Lib.hid hc
        clear hmk e1 e2 hFc hc
        go_upto_region 5 with fail
        go_region_held3 (fun w' => w'.cell? ⟨w.heap.size, 0, none⟩ = some (.int .i64 D1) ∧ w'.cell? ⟨w.heap.size, 1, none⟩ = some v1 ∧
            w'.cell? ⟨w.heap.size + 1, 0, none⟩ = some (.int .i64 D2) ∧ w'.cell? ⟨w.heap.size + 1, 1, none⟩ = some v2 ∧ w'.cell? ⟨bc, oc + k, none⟩ = some (.int .u32 (c : Nat)))
          (first
            | exact HMK.out _ hcall.out)
          (first
            | (go_at_call_of 29 (Value.agg #[Value.int .i64 D1, v1])
               refine (Q1.out _ (HS.out _ hcall.out).2.2.1).mono ?_
               rintro e wq ⟨rfl, hb'⟩
               replace hcall := Lib.hid (hcall.out.trans (hb'.mono hcall.out.size))
               clear hb')
            | (go_at_call_of 29 (Value.agg #[Value.int .i64 D2, v2])
               refine (Q2.out _ (HS.out _ hcall.out).2.2.2.1).mono ?_
               rintro e wq ⟨rfl, hb'⟩
               replace hcall := Lib.hid (hcall.out.trans (hb'.mono hcall.out.size))
               clear hb'))
        all_goals
          by_cases hle : L1 ≤ L2
          · have hgt : ¬ L2 < L1 := by omega
            have hal := Lib.hid (Lab.all_snoc HCK.out hr.out.2 (by rw [HFC.out]; exact decide_eq_true hle))
            clear hle
            go_wp2_with fail
            go_roundg (n - (k + 1))
            case measure => rw [hg.out]; omega
            case rel => exact ⟨k + 1, by omega, Lib.hid rfl, by go_num, Lib.hid ⟨hcall.out, hal.out⟩⟩
          · have hgt : L2 < L1 := by omega
            have hq : Lab.leq cs D1 ps D2 qs = false := by rw [HQ.out, Lab.all_stop HCK.out (by rw [HFC.out]; exact decide_eq_false hle)]; rfl
            have HQ2 := Lib.hid hq
            clear hq hle
            go_wp2_with fail
            go_ret
            exact ⟨cs, HCS.out, by rw [HQ2.out]; rfl, (HS.out _ hcall.out).2.2.2.2⟩
      · have hq : Lab.leq cs D1 ps D2 qs = decide (D1 ≤ D2) := by
          have h := hr.out.2
          rw [List.take_of_length_le (by rw [EN.out]; omega)] at h
          rw [HQ.out, h]; simp
        have HQ2 := Lib.hid hq
        clear hq
        go_wp2
        go_ret
        exact ⟨cs, HCS.out, by rw [HQ2.out]; rfl, (HS.out wr hr.out.1).2.2.2.2⟩
end Go.Proofs.Ytlkhbbdigljpjaa
