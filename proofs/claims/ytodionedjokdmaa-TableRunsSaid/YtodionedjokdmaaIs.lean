/- TableRuns: the law's own walk. -/
import Derived.Test.YtodionedjokdmaaIr
set_option linter.unusedVariables false
set_option linter.unusedSimpArgs false
namespace Go.Proofs.Ytodionedjokdmaa
open Go.RowKit Go.Maps
set_option linter.unusedVariables false
set_option linter.unusedSimpArgs false
theorem mk_mapC (w : World) : (Instr.makeMap 26 none).run Try.prog w = .ok (.map (some w.heap.size)) (w.alloc (.map #[] 0)) := by kernel_rfl
/-- Nothing is there yet. -/
theorem PZ.new {W w : World} (hb : Below W.heap.size W w) : PZ W [w.heap.size + 1 + 1, w.heap.size + 1] w.heap.size (w.heap.size + 1) (w.heap.size + 1 + 1) [] (fun _ => none) (fun _ => none) (.slice none 0 0) (((w.alloc (Obj.cells #[.map none] 92)).alloc (.map #[] 0)).alloc (Obj.cells #[.slice none 0 0] 27)) := by
  have h1 := (TS.new (T := []) hb (by simp))
  have h2 := h1.alloc (.map #[] 0)
  have h3 := h2.alloc (Obj.cells #[.slice none 0 0] 27)
  have hs1 : (w.alloc (Obj.cells #[.map none] 92)).heap.size = w.heap.size + 1 := by simp
  have hs2 : ((w.alloc (Obj.cells #[.map none] 92)).alloc (.map #[] 0)).heap.size = w.heap.size + 1 + 1 := by simp
  have hm := MapG.new (R := rdC) (β := CV) (w.alloc (Obj.cells #[.map none] 92))
  have hbx := heap_alloc_new ((w.alloc (Obj.cells #[.map none] 92)).alloc (.map #[] 0)) (Obj.cells #[.slice none 0 0] 27)
  have hml := hm.lt
  have hm2 := hm.same ((below_alloc1 _ (Obj.cells #[.slice none 0 0] 27)).block _ hml)
  rw [hs1] at hm2 h3
  rw [hs2] at hbx h3
  exact ⟨⟨none, h3⟩, ⟨hm2, hbx, RW.nil _ _, by simp, by simp⟩, fun b hb' => by have := hb.size; simp at hb'; rcases hb' with rfl | rfl <;> omega, ⟨fun _ => rfl, fun x c o h => (by cases h)⟩, ⟨id, List.Pairwise.nil, by simp, by simp, fun x o h => (by cases h), fun n o h => (by cases h)⟩⟩
set_option maxHeartbeats 4000000 in
set_option maxRecDepth 100000 in
theorem runs_all (A : Option Addr) (l c : Nat) (xs : List Cl) (w : World) (hn : xs.length = l) (hr : LV 5 encC w A xs) :
    Calls Try.prog 3 #[.slice A l c] w fun e w' => e = .returned (.bool true) ∧ Below w.heap.size w w' := by
  have B := Lib.hid (fit_any w)
  by_cases h200 : 200 < l
  · have q : (l : Int) > 200 := by omega
    clear hn hr h200
    go_enter Try.func3, Try.ntmps3
    go_wp2_with fail
    refine B.out.mono ?_; rintro e w1 ⟨rfl, hb⟩
    have HB := Lib.hid hb
    clear hb
    go_wp2_with fail
    go_ret
    exact ⟨rfl, HB.out⟩
  have q : ¬ (l : Int) > 200 := by omega
  have HA := Lib.hid (And.intro hn (And.intro hr h200))
  clear hn hr h200
  go_enter Try.func3, Try.ntmps3
  go_wp2_with fail
  refine B.out.mono ?_; rintro e w1 ⟨rfl, hb⟩
  have HB := Lib.hid hb
  have CN := Lib.hid (new_any w1)
  clear hb B
  go_wp2_with fail
  refine CN.out.mono ?_; rintro e w2 ⟨rfl, rfl⟩
  have HP := PZ.new HB.out
  have hmm := mk_mapC
  obtain ⟨t, et⟩ : ∃ t, w1.heap.size = t := ⟨_, rfl⟩
  obtain ⟨w5, e5⟩ : ∃ w5, ((w1.alloc (Obj.cells #[.map none] 92)).alloc (.map #[] 0)).alloc (Obj.cells #[.slice none 0 0] 27) = w5 := ⟨_, rfl⟩
  rw [e5, et] at HP
  have HP := Lib.hid HP
  clear CN
  go_wp2_with fail
  clear hmm q e5 et
  go_loopg [21] l (fun gh v21 wr => ∃ k : Nat, k ≤ l ∧ gh = l - k ∧ v21 = .int .i64 k ∧ Hid (∃ T' os G gm v, PZ w T' t (t + 1) (t + 1 + 1) os G gm v wr))
  case atStart => exact ⟨0, by omega, by omega, rfl, Lib.hid ⟨_, _, _, _, _, HP.out⟩⟩
  case round =>
    clear HP
    obtain ⟨k, hk, hg, rfl, hI⟩ := hrel
    by_cases hlt : k < l
    · have l1 : (k : Int) < l := by omega
      obtain ⟨T', os, G, gm, v, hP⟩ := hI.out
      obtain ⟨x, hx⟩ : ∃ x, xs[k]? = some x := ⟨_, List.getElem?_eq_getElem (by rw [HA.out.1]; exact hlt)⟩
      obtain ⟨M, hts⟩ := hP.ts
      have hlv := HA.out.2.1.below hts.b
      obtain ⟨xb, xo, rfl, xl, _⟩ := hlv k x hx
      obtain ⟨x0, x1, x2, x3, x4⟩ := x
      have p0 := hlv.at_ (j := 0) hx rfl
      have p1 := hlv.at_ (j := 1) hx rfl
      have p2 := hlv.at_ (j := 2) hx rfl
      have p3 := hlv.at_ (j := 3) hx rfl
      have p4 := hlv.at_ (j := 4) hx rfl
      unfold inU at p1 p2
      simp only [Nat.add_zero] at p0
      dsimp only at p0 p1 p2 p3 p4
      have i1 : IntKind.i64.wrap ((k : Int) + 1) = ((k + 1 : Nat) : Int) := by rw [IntKind.wrap_i64]; have := HA.out.2.2; omega
      have hPa := hP.alloc (Obj.cells #[.int .i64 x0, .int .u64 (x1 : Int), .int .u64 (x2 : Int), .int .i64 x3, .int .i64 x4] 30)
      have hc := heap_alloc_new wr (Obj.cells #[.int .i64 x0, .int .u64 (x1 : Int), .int .u64 (x2 : Int), .int .i64 x3, .int .i64 x4] 30)
      obtain ⟨C, eC⟩ : ∃ C, wr.heap.size = C := ⟨_, rfl⟩
      obtain ⟨wa, ewa⟩ : ∃ wa, wr.alloc (Obj.cells #[.int .i64 x0, .int .u64 (x1 : Int), .int .u64 (x2 : Int), .int .i64 x3, .int .i64 x4] 30) = wa := ⟨_, rfl⟩
      rw [ewa, eC] at hPa hc
      have HPa := Lib.hid (hPa)
      have z0 : wa.cell? ⟨C, 0, none⟩ = some (.int .i64 x0) := by rw [cell_of_row wa _ _ _ _ (0, 0) hc]; rfl
      have z1 : wa.cell? ⟨C, 1, none⟩ = some (.int .u64 (x1 : Int)) := by rw [cell_of_row wa _ _ _ _ (0, 0) hc]; rfl
      have z2 : wa.cell? ⟨C, 2, none⟩ = some (.int .u64 (x2 : Int)) := by rw [cell_of_row wa _ _ _ _ (0, 0) hc]; rfl
      have z3 : wa.cell? ⟨C, 3, none⟩ = some (.int .i64 x3) := by rw [cell_of_row wa _ _ _ _ (0, 0) hc]; rfl
      have z4 : wa.cell? ⟨C, 4, none⟩ = some (.int .i64 x4) := by rw [cell_of_row wa _ _ _ _ (0, 0) hc]; rfl
      have HZ := Lib.hid (And.intro z0 (And.intro z1 (And.intro z2 (And.intro z3 z4))))
      have HLt := Lib.hid hlt
      clear hP hts hlv hx hPa hc hI hlt z0 z1 z2 z3 z4
      go_upto_region 11 with fail
      try rw [ewa]
      try rw [eC]
      clear p0 p1 p2 p3 p4 ewa eC xl
      obtain ⟨z0, z1, z2, z3, z4⟩ := HZ.out
      have C3 := Lib.hid (play_any HPa.out x0 x3 x4 x1 x2)
      go_wp2_with fail
      refine C3.out.mono ?_
      clear C3 z0 z1 z2 z3 z4 HZ
      rintro e w9 ⟨rfl, T9, os9, G9, gm9, v9, hT9, hP9⟩
      obtain ⟨A9, c9, ev9, _⟩ := hP9.lp.rw.form
      obtain ⟨l9, el9⟩ : ∃ l9, os9.length = l9 := ⟨_, rfl⟩
      rw [el9] at ev9
      subst ev9
      have HP9 := Lib.hid hP9
      have y9 := hP9.lp.cell
      have C9 := Lib.hid (same_ps hP9)
      clear hT9 hP9 HPa el9
      go_wp2_with fail
      refine C9.out.mono ?_
      clear C9
      rintro e w10 ⟨rfl, hb10⟩
      have HP10 := Lib.hid (HP9.out.below hb10)
      clear hb10 HP9 y9
      go_wp2_with fail
      go_roundg (l - (k + 1))
      case rel => exact ⟨k + 1, HLt.out, rfl, by first | rfl | rw [i1], Lib.hid ⟨_, _, _, _, _, HP10.out⟩⟩
      case measure => have := HLt.out; omega
    · obtain rfl : k = l := by omega
      obtain ⟨wp, rfl⟩ : ∃ wp, wp = wr := ⟨_, rfl⟩
      obtain ⟨T', os, G, gm, v, hP⟩ := hI.out
      obtain ⟨r0, htr0⟩ := hP.tr
      obtain ⟨htr, hix⟩ := htr0.idx
      have H0 := Lib.hid (And.intro hP (And.intro htr hix))
      clear hI hP htr0 htr hix
      go_wp2_with fail
      go_loopg [38] 16 (fun gh v38 wz => ∃ a : Nat, a ≤ 16 ∧ gh = 16 - a ∧ v38 = .int .u64 a ∧ Hid (Below wp.heap.size wp wz))
      case atStart => exact ⟨0, by omega, by omega, rfl, Lib.hid (Below.refl _ _)⟩
      case round =>
        obtain ⟨a, ha, hga, rfl, hBa⟩ := hrel
        by_cases hla : a < 16
        · have l2 : (a : Int) < 16 := by omega
          have i2 : IntKind.u64.wrap ((a : Int) + 1) = ((a + 1 : Nat) : Int) := by rw [IntKind.wrap_u64]; omega
          go_wp2_with fail
          go_loopg [41] 16 (fun gh v41 wz => ∃ b : Nat, b ≤ 16 ∧ gh = 16 - b ∧ v41 = .int .u64 b ∧ Hid (Below wp.heap.size wp wz))
          case atStart => exact ⟨0, by omega, by omega, rfl, hBa⟩
          case round =>
            clear hBa
            obtain ⟨b, hb, hgb, rfl, hBb⟩ := hrel
            by_cases hlb : b < 16
            · have l3 : (b : Int) < 16 := by omega
              have i3 : IntKind.u64.wrap ((b : Int) + 1) = ((b + 1 : Nat) : Int) := by rw [IntKind.wrap_u64]; omega
              obtain ⟨wq, rfl⟩ : ∃ wq, wq = wr := ⟨_, rfl⟩
              obtain ⟨hP, htr, hix⟩ := H0.out
              have hol := htr.len
              have hPq := hP.below hBb.out
              have HQ := Lib.hid hPq
              have HC0 : Hid (a ≤ 15 ∧ (false || inT G b os.length a) = inT G b os.length a ∧ (a ∈ os → os.idxOf a + 1 ≤ 16)) := Lib.hid ⟨by omega, by simp, fun hm => by have := hix a hm; omega⟩
              clear hP htr hix hol hPq
              go_wp2_with fail
              go_loopg [10, 11] 16 (fun gh v10 v11 wz => ∃ (m : Nat) (bb : Bool) (gk : Nat), gh = gk ∧ v11 = .int .u64 m ∧ v10 = .bool bb ∧ wq = wz ∧ Hid (m ≤ 15 ∧ (bb || inT G b os.length m) = inT G b os.length a ∧ (m ∈ os → os.idxOf m + 1 ≤ gk)))
              case atStart => exact ⟨a, false, 16, rfl, rfl, rfl, rfl, HC0⟩
              case round =>
                clear HC0
                obtain ⟨m, bb, gk, hgk0, rfl, rfl, rfl, hC⟩ := hrel
                obtain ⟨hP, htr, hix⟩ := H0.out
                cases hG : G m with
                | some o =>
                  obtain ⟨c, hc, hk1, hk2, -⟩ := HQ.out.lm.some hG
                  obtain ⟨k1, k2, k3, k4, k5⟩ := c
                  dsimp only at hk1 hk2
                  subst hk1 hk2
                  have hmo : m ∈ os := (htr.mem m).2 (by rw [hG]; rfl)
                  have hm0 := (htr.nz m hmo).1
                  have q1 := HQ.out.look (x := m) (u64_of (by have := hC.out.1; omega))
                  rw [hc] at q1
                  dsimp only [Option.getD_some, vC] at q1
                  have fl0 := fldC0 1 k2 (o.hm : Int) k4 k5 wq
                  have fl2 := fldC2 1 k2 (o.hm : Int) k4 k5 wq
                  have n0 : ((m : Int) != 0) = true := by have : (m : Int) ≠ 0 := by omega
                                                          simpa using this
                  have n0' : (m != 0) = true := by simpa using hm0
                  obtain ⟨h1, h2, h3⟩ := hC.out
                  have hst : inT G b os.length m = ((m == b) || inT G b os.length o.hm) := by
                    have e := inT_stable htr b os.length (os.length + 1) m fun _ => ⟨hix m hmo, by have := hix m hmo; omega⟩
                    rw [e, inT_succ, hG]
                    dsimp only
                    by_cases em : m = b <;> simp [em]
                  have hhm := htr.hm m o hG
                  have HN2 : Hid (o.hm ≤ 15 ∧ ((bb || (m == b)) || inT G b os.length o.hm) = inT G b os.length a ∧ (o.hm ∈ os → os.idxOf o.hm + 1 ≤ gk - 1)) := Lib.hid ⟨hhm.1, by rw [← h2, hst, Bool.or_assoc], fun hm => by
                    have := h3 hmo
                    rcases hhm.2 with e0 | ⟨_, e1⟩
                    · exact absurd (by rw [← e0]; exact hm) htr.zero
                    · omega⟩
                  have hgk : 0 < gk := by have := h3 hmo; omega
                  have HGK := Lib.hid (And.intro hgk hgk0)
                  obtain ⟨oh, eoh⟩ : ∃ oh, o.hm = oh := ⟨_, rfl⟩
                  rw [eoh] at q1 fl0 fl2 HN2
                  clear hP htr hix hG hc hmo hm0 h1 h2 h3 hst hhm hgk hgk0 hC eoh
                  cases bb
                  all_goals
                    go_wp2_with fail
                    go_roundg (gk - 1)
                    case rel => exact ⟨oh, _, gk - 1, rfl, rfl, by first | rfl | simp [int_beq], rfl, HN2⟩
                    case measure => have := HGK.out; omega
                | none =>
                obtain ⟨h1, h2, h3⟩ := hC.out
                have hnm : inT G b os.length m = false := by
                  cases os.length with
                  | zero => rfl
                  | succ f => rw [inT_succ, hG]
                rw [hnm, Bool.or_false] at h2
                have ua : U64 a := u64_of (by omega)
                have CI := Lib.hid (fun (wS : World) (hS : Below wq.heap.size wq wS) => in_any (c := b) ((HQ.out.below hS).ts.choose_spec) ua (by have := htr.len; omega))
                have CG := Lib.hid (fun (wS : World) (hS : Below wq.heap.size wq wS) => get_any ((HQ.out.below hS).ts.choose_spec) ua)
                rw [← h2] at CI
                have q1 := HQ.out.look (x := m) (u64_of (by omega))
                rw [HQ.out.lm.none hG] at q1
                dsimp only [Option.getD_none, vC, c0] at q1
                have fl0 := fldC0 0 0 0 0 0 wq
                cases hGa : G a with
                | none =>
                  have HF25 := Lib.hid (fun (wS : World) (hS : Below wq.heap.size wq wS) => (⟨by
                    have e := (HQ.out.below hS).look (x := a) ua
                    rw [HQ.out.lm.none hGa] at e; exact e, fldC0 0 0 0 0 0 wS⟩ : (Instr.lookup 26 (.map (some (t + 1))) (.int .u64 (a : Int)) false).run Try.prog wS = .ok (.agg #[.int .i64 0, .int .u64 0, .int .u64 0, .int .i64 0, .int .i64 0]) wS ∧ (Instr.field 30 (.agg #[.int .i64 0, .int .u64 0, .int .u64 0, .int .i64 0, .int .i64 0]) 0).run Try.prog wS = .ok (.int .i64 0) wS))
                  have np : pb (G a) = .pointer none := by rw [hGa]; rfl
                  rw [np] at CG
                  have HB3 := Lib.hid hBb.out
                  clear hP htr hix hG h1 h2 h3 hnm hC hGa np
                  by_cases hm0 : m = 0
                  · subst hm0
                    go_upto_region 25 with fail
                    refine region_AU (Z := fun j => false) (S := fun w' => Below wq.heap.size wq w') (by kernel_rfl) ((Below.refl _ _).drew) (fun hHeld => ?_)
                    refine AUS_take (by kernel_rfl) rfl (i := 0) (oi := _) (v := ?vw301) rfl (by kernel_rfl) (by kernel_rfl) (by kernel_rfl) (fun _ _ _ h => h) (Or.inl ⟨by rfl, ?hz301⟩) hHeld ?rst301
                    case hz301 => (intro wS hSw; clear hSw; go_simp; try with_reducible rfl)
                    simp only [Act.put, List.getElem_toArray, List.getElem_cons_zero, List.getElem_cons_succ, List.setIfInBounds_toArray, List.set_cons_zero, List.set_cons_succ]
                    refine AUS_take (by kernel_rfl) rfl (i := 1) (oi := _) (v := ?vw302) rfl (by kernel_rfl) (by kernel_rfl) (by kernel_rfl) (fun _ _ _ h => h) (Or.inl ⟨by rfl, ?hz302⟩) hHeld ?rst302
                    case hz302 => (intro wS hSw; clear hSw; go_simp; try with_reducible rfl)
                    simp only [Act.put, List.getElem_toArray, List.getElem_cons_zero, List.getElem_cons_succ, List.setIfInBounds_toArray, List.set_cons_zero, List.set_cons_succ]
                    refine AUS_take (by kernel_rfl) rfl (i := 2) (oi := _) (v := ?vw303) rfl (by kernel_rfl) (by kernel_rfl) (by kernel_rfl) (fun _ _ _ h => h) (Or.inl ⟨by rfl, ?hz303⟩) hHeld ?rst303
                    case hz303 => (intro wS hSw; clear hSw; go_simp; try with_reducible rfl)
                    simp only [Act.put, List.getElem_toArray, List.getElem_cons_zero, List.getElem_cons_succ, List.setIfInBounds_toArray, List.set_cons_zero, List.set_cons_succ]
                    refine AUS_take (by kernel_rfl) rfl (i := 4) (oi := _) (v := ?vw304) rfl (by kernel_rfl) (by kernel_rfl) (by kernel_rfl) (fun _ _ _ h => h) (Or.inl ⟨by rfl, ?hz304⟩) hHeld ?rst304
                    case hz304 => (intro wS hSw; clear hSw; go_simp; try with_reducible rfl)
                    simp only [Act.put, List.getElem_toArray, List.getElem_cons_zero, List.getElem_cons_succ, List.setIfInBounds_toArray, List.set_cons_zero, List.set_cons_succ]
                    refine AU_one (i := 3) (o := _) (by kernel_rfl) rfl (fun K hK => ?_)
                    have H7 := Lib.hid hHeld
                    have C := Lib.hid (CI.out _ hHeld)
                    clear hHeld
                    go_simp
                    refine C.out.mono ?_
                    clear C
                    rintro e w9 ⟨rfl, rfl⟩
                    have hHeld := H7.out
                    clear H7
                    refine hK.out _ _ (fun _ => hHeld) ?_
                    clear hK K
                    try simp only [Act.put, List.getElem_toArray, List.getElem_cons_zero, List.getElem_cons_succ, List.setIfInBounds_toArray, List.set_cons_zero, List.set_cons_succ]
                    refine AUS_take (by kernel_rfl) rfl (i := 5) (oi := _) (v := ?vw305) rfl (by kernel_rfl) (by kernel_rfl) (by kernel_rfl) (fun _ _ _ h => h) (Or.inl ⟨by rfl, ?hz305⟩) hHeld ?rst305
                    case hz305 => (intro wS hSw; clear hSw; go_simp; try with_reducible rfl)
                    simp only [Act.put, List.getElem_toArray, List.getElem_cons_zero, List.getElem_cons_succ, List.setIfInBounds_toArray, List.set_cons_zero, List.set_cons_succ]
                    refine AUS_take (by kernel_rfl) rfl (i := 6) (oi := _) (v := ?vw306) rfl (by kernel_rfl) (by kernel_rfl) (by kernel_rfl) (fun _ _ _ h => h) (Or.inl ⟨by rfl, ?hz306⟩) hHeld ?rst306
                    case hz306 => (intro wS hSw; clear hSw; go_simp; try with_reducible rfl)
                    simp only [Act.put, List.getElem_toArray, List.getElem_cons_zero, List.getElem_cons_succ, List.setIfInBounds_toArray, List.set_cons_zero, List.set_cons_succ]
                    refine AUS_take (by kernel_rfl) rfl (i := 7) (oi := _) (v := ?vw307) rfl (by kernel_rfl) (by kernel_rfl) (by kernel_rfl) (fun _ _ _ h => h) (Or.inl ⟨by rfl, ?hz307⟩) hHeld ?rst307
                    case hz307 => (intro wS hSw; clear hSw; go_simp; try with_reducible rfl)
                    simp only [Act.put, List.getElem_toArray, List.getElem_cons_zero, List.getElem_cons_succ, List.setIfInBounds_toArray, List.set_cons_zero, List.set_cons_succ]
                    refine AUS_take (by kernel_rfl) rfl (i := 8) (oi := _) (v := ?vw308) rfl (by kernel_rfl) (by kernel_rfl) (by kernel_rfl) (fun _ _ _ h => h) (Or.inl ⟨by rfl, ?hz308⟩) hHeld ?rst308
                    case hz308 => (intro wS hSw; clear hSw; go_simp; try with_reducible rfl)
                    simp only [Act.put, List.getElem_toArray, List.getElem_cons_zero, List.getElem_cons_succ, List.setIfInBounds_toArray, List.set_cons_zero, List.set_cons_succ]
                    refine AUS_take (by kernel_rfl) rfl (i := 11) (oi := _) (v := ?vw309) rfl (by kernel_rfl) (by kernel_rfl) (by kernel_rfl) (fun _ _ _ h => h) (Or.inl ⟨by rfl, ?hz309⟩) hHeld ?rst309
                    case hz309 => (intro wS hSw; clear hSw; go_simp; try with_reducible rfl)
                    simp only [Act.put, List.getElem_toArray, List.getElem_cons_zero, List.getElem_cons_succ, List.setIfInBounds_toArray, List.set_cons_zero, List.set_cons_succ]
                    refine AUS_take (by kernel_rfl) rfl (i := 12) (oi := _) (v := ?vw310) rfl (by kernel_rfl) (by kernel_rfl) (by kernel_rfl) (fun _ _ _ h => h) (Or.inl ⟨by rfl, ?hz310⟩) hHeld ?rst310
                    case hz310 => (intro wS hSw; clear hSw; go_simp; try with_reducible rfl)
                    simp only [Act.put, List.getElem_toArray, List.getElem_cons_zero, List.getElem_cons_succ, List.setIfInBounds_toArray, List.set_cons_zero, List.set_cons_succ]
                    refine AUS_take (by kernel_rfl) rfl (i := 13) (oi := _) (v := ?vw311) rfl (by kernel_rfl) (by kernel_rfl) (by kernel_rfl) (fun _ _ _ h => h) (Or.inl ⟨by rfl, ?hz311⟩) hHeld ?rst311
                    case hz311 => (intro wS hSw; obtain ⟨f1, f2⟩ := HF25.out wS hSw; clear hSw; go_simp; try with_reducible rfl)
                    simp only [Act.put, List.getElem_toArray, List.getElem_cons_zero, List.getElem_cons_succ, List.setIfInBounds_toArray, List.set_cons_zero, List.set_cons_succ]
                    refine AUS_take (by kernel_rfl) rfl (i := 14) (oi := _) (v := ?vw312) rfl (by kernel_rfl) (by kernel_rfl) (by kernel_rfl) (fun _ _ _ h => h) (Or.inl ⟨by rfl, ?hz312⟩) hHeld ?rst312
                    case hz312 => (intro wS hSw; obtain ⟨f1, f2⟩ := HF25.out wS hSw; clear hSw; go_simp; try with_reducible rfl)
                    simp only [Act.put, List.getElem_toArray, List.getElem_cons_zero, List.getElem_cons_succ, List.setIfInBounds_toArray, List.set_cons_zero, List.set_cons_succ]
                    refine AUS_take (by kernel_rfl) rfl (i := 15) (oi := _) (v := ?vw313) rfl (by kernel_rfl) (by kernel_rfl) (by kernel_rfl) (fun _ _ _ h => h) (Or.inl ⟨by rfl, ?hz313⟩) hHeld ?rst313
                    case hz313 => (intro wS hSw; clear hSw; go_simp; try with_reducible rfl)
                    simp only [Act.put, List.getElem_toArray, List.getElem_cons_zero, List.getElem_cons_succ, List.setIfInBounds_toArray, List.set_cons_zero, List.set_cons_succ]
                    refine AU_one (i := 9) (o := _) (by kernel_rfl) rfl (fun K hK => ?_)
                    have H7 := Lib.hid hHeld
                    have C := Lib.hid (CG.out _ hHeld)
                    clear hHeld
                    go_simp
                    refine C.out.mono ?_
                    clear C
                    rintro e w10 ⟨rfl, rfl⟩
                    have hHeld := H7.out
                    clear H7
                    refine hK.out _ _ (fun _ => hHeld) ?_
                    clear hK K
                    try simp only [Act.put, List.getElem_toArray, List.getElem_cons_zero, List.getElem_cons_succ, List.setIfInBounds_toArray, List.set_cons_zero, List.set_cons_succ]
                    refine AUS_take (by kernel_rfl) rfl (i := 10) (oi := _) (v := ?vw314) rfl (by kernel_rfl) (by kernel_rfl) (by kernel_rfl) (fun _ _ _ h => h) (Or.inl ⟨by rfl, ?hz314⟩) hHeld ?rst314
                    case hz314 => (intro wS hSw; clear hSw; go_simp; try with_reducible rfl)
                    simp only [Act.put, List.getElem_toArray, List.getElem_cons_zero, List.getElem_cons_succ, List.setIfInBounds_toArray, List.set_cons_zero, List.set_cons_succ]
                    refine AUS_take (by kernel_rfl) rfl (i := 16) (oi := _) (v := ?vw315) rfl (by kernel_rfl) (by kernel_rfl) (by kernel_rfl) (fun _ _ _ h => h) (Or.inl ⟨by rfl, ?hz315⟩) hHeld ?rst315
                    case hz315 => (intro wS hSw; clear hSw; go_simp; try with_reducible rfl)
                    simp only [Act.put, List.getElem_toArray, List.getElem_cons_zero, List.getElem_cons_succ, List.setIfInBounds_toArray, List.set_cons_zero, List.set_cons_succ]
                    refine AUS_take (by kernel_rfl) rfl (i := 17) (oi := _) (v := ?vw316) rfl (by kernel_rfl) (by kernel_rfl) (by kernel_rfl) (fun _ _ _ h => h) (Or.inl ⟨by rfl, ?hz316⟩) hHeld ?rst316
                    case hz316 => (intro wS hSw; clear hSw; go_simp; try with_reducible rfl)
                    simp only [Act.put, List.getElem_toArray, List.getElem_cons_zero, List.getElem_cons_succ, List.setIfInBounds_toArray, List.set_cons_zero, List.set_cons_succ]
                    have HBz := Lib.hid (hBb.out.trans (hHeld.mono hBb.out.size))
                    refine AU_done (by kernel_rfl) ?_ _
                    simp only [OnlyN]
                    go_wp2_with fail
                    go_roundg (16 - (b + 1))
                    case rel => exact ⟨b + 1, by omega, rfl, by first | rfl | rw [i3], HBz⟩
                    case measure => omega

                  · have n0 : ((m : Int) != 0) = true := by have : (m : Int) ≠ 0 := by omega
                                                            simpa using this
                    have n0' : (m != 0) = true := by simpa using hm0
                    go_upto_region 25 with fail
                    refine region_AU (Z := fun j => false) (S := fun w' => Below wq.heap.size wq w') (by kernel_rfl) ((Below.refl _ _).drew) (fun hHeld => ?_)
                    refine AUS_take (by kernel_rfl) rfl (i := 0) (oi := _) (v := ?vw401) rfl (by kernel_rfl) (by kernel_rfl) (by kernel_rfl) (fun _ _ _ h => h) (Or.inl ⟨by rfl, ?hz401⟩) hHeld ?rst401
                    case hz401 => (intro wS hSw; clear hSw; go_simp; try with_reducible rfl)
                    simp only [Act.put, List.getElem_toArray, List.getElem_cons_zero, List.getElem_cons_succ, List.setIfInBounds_toArray, List.set_cons_zero, List.set_cons_succ]
                    refine AUS_take (by kernel_rfl) rfl (i := 1) (oi := _) (v := ?vw402) rfl (by kernel_rfl) (by kernel_rfl) (by kernel_rfl) (fun _ _ _ h => h) (Or.inl ⟨by rfl, ?hz402⟩) hHeld ?rst402
                    case hz402 => (intro wS hSw; clear hSw; go_simp; try with_reducible rfl)
                    simp only [Act.put, List.getElem_toArray, List.getElem_cons_zero, List.getElem_cons_succ, List.setIfInBounds_toArray, List.set_cons_zero, List.set_cons_succ]
                    refine AUS_take (by kernel_rfl) rfl (i := 2) (oi := _) (v := ?vw403) rfl (by kernel_rfl) (by kernel_rfl) (by kernel_rfl) (fun _ _ _ h => h) (Or.inl ⟨by rfl, ?hz403⟩) hHeld ?rst403
                    case hz403 => (intro wS hSw; clear hSw; go_simp; try with_reducible rfl)
                    simp only [Act.put, List.getElem_toArray, List.getElem_cons_zero, List.getElem_cons_succ, List.setIfInBounds_toArray, List.set_cons_zero, List.set_cons_succ]
                    refine AUS_take (by kernel_rfl) rfl (i := 4) (oi := _) (v := ?vw404) rfl (by kernel_rfl) (by kernel_rfl) (by kernel_rfl) (fun _ _ _ h => h) (Or.inl ⟨by rfl, ?hz404⟩) hHeld ?rst404
                    case hz404 => (intro wS hSw; clear hSw; go_simp; try with_reducible rfl)
                    simp only [Act.put, List.getElem_toArray, List.getElem_cons_zero, List.getElem_cons_succ, List.setIfInBounds_toArray, List.set_cons_zero, List.set_cons_succ]
                    refine AU_one (i := 3) (o := _) (by kernel_rfl) rfl (fun K hK => ?_)
                    have H7 := Lib.hid hHeld
                    have C := Lib.hid (CI.out _ hHeld)
                    clear hHeld
                    go_simp
                    refine C.out.mono ?_
                    clear C
                    rintro e w9 ⟨rfl, rfl⟩
                    have hHeld := H7.out
                    clear H7
                    refine hK.out _ _ (fun _ => hHeld) ?_
                    clear hK K
                    try simp only [Act.put, List.getElem_toArray, List.getElem_cons_zero, List.getElem_cons_succ, List.setIfInBounds_toArray, List.set_cons_zero, List.set_cons_succ]
                    refine AUS_take (by kernel_rfl) rfl (i := 5) (oi := _) (v := ?vw405) rfl (by kernel_rfl) (by kernel_rfl) (by kernel_rfl) (fun _ _ _ h => h) (Or.inl ⟨by rfl, ?hz405⟩) hHeld ?rst405
                    case hz405 => (intro wS hSw; clear hSw; go_simp; try with_reducible rfl)
                    simp only [Act.put, List.getElem_toArray, List.getElem_cons_zero, List.getElem_cons_succ, List.setIfInBounds_toArray, List.set_cons_zero, List.set_cons_succ]
                    refine AUS_take (by kernel_rfl) rfl (i := 6) (oi := _) (v := ?vw406) rfl (by kernel_rfl) (by kernel_rfl) (by kernel_rfl) (fun _ _ _ h => h) (Or.inl ⟨by rfl, ?hz406⟩) hHeld ?rst406
                    case hz406 => (intro wS hSw; clear hSw; go_simp; try with_reducible rfl)
                    simp only [Act.put, List.getElem_toArray, List.getElem_cons_zero, List.getElem_cons_succ, List.setIfInBounds_toArray, List.set_cons_zero, List.set_cons_succ]
                    refine AUS_take (by kernel_rfl) rfl (i := 7) (oi := _) (v := ?vw407) rfl (by kernel_rfl) (by kernel_rfl) (by kernel_rfl) (fun _ _ _ h => h) (Or.inl ⟨by rfl, ?hz407⟩) hHeld ?rst407
                    case hz407 => (intro wS hSw; clear hSw; go_simp; try with_reducible rfl)
                    simp only [Act.put, List.getElem_toArray, List.getElem_cons_zero, List.getElem_cons_succ, List.setIfInBounds_toArray, List.set_cons_zero, List.set_cons_succ]
                    refine AUS_take (by kernel_rfl) rfl (i := 8) (oi := _) (v := ?vw408) rfl (by kernel_rfl) (by kernel_rfl) (by kernel_rfl) (fun _ _ _ h => h) (Or.inl ⟨by rfl, ?hz408⟩) hHeld ?rst408
                    case hz408 => (intro wS hSw; clear hSw; go_simp; try with_reducible rfl)
                    simp only [Act.put, List.getElem_toArray, List.getElem_cons_zero, List.getElem_cons_succ, List.setIfInBounds_toArray, List.set_cons_zero, List.set_cons_succ]
                    refine AUS_take (by kernel_rfl) rfl (i := 11) (oi := _) (v := ?vw409) rfl (by kernel_rfl) (by kernel_rfl) (by kernel_rfl) (fun _ _ _ h => h) (Or.inl ⟨by rfl, ?hz409⟩) hHeld ?rst409
                    case hz409 => (intro wS hSw; clear hSw; go_simp; try with_reducible rfl)
                    simp only [Act.put, List.getElem_toArray, List.getElem_cons_zero, List.getElem_cons_succ, List.setIfInBounds_toArray, List.set_cons_zero, List.set_cons_succ]
                    refine AUS_take (by kernel_rfl) rfl (i := 12) (oi := _) (v := ?vw410) rfl (by kernel_rfl) (by kernel_rfl) (by kernel_rfl) (fun _ _ _ h => h) (Or.inl ⟨by rfl, ?hz410⟩) hHeld ?rst410
                    case hz410 => (intro wS hSw; clear hSw; go_simp; try with_reducible rfl)
                    simp only [Act.put, List.getElem_toArray, List.getElem_cons_zero, List.getElem_cons_succ, List.setIfInBounds_toArray, List.set_cons_zero, List.set_cons_succ]
                    refine AUS_take (by kernel_rfl) rfl (i := 13) (oi := _) (v := ?vw411) rfl (by kernel_rfl) (by kernel_rfl) (by kernel_rfl) (fun _ _ _ h => h) (Or.inl ⟨by rfl, ?hz411⟩) hHeld ?rst411
                    case hz411 => (intro wS hSw; obtain ⟨f1, f2⟩ := HF25.out wS hSw; clear hSw; go_simp; try with_reducible rfl)
                    simp only [Act.put, List.getElem_toArray, List.getElem_cons_zero, List.getElem_cons_succ, List.setIfInBounds_toArray, List.set_cons_zero, List.set_cons_succ]
                    refine AUS_take (by kernel_rfl) rfl (i := 14) (oi := _) (v := ?vw412) rfl (by kernel_rfl) (by kernel_rfl) (by kernel_rfl) (fun _ _ _ h => h) (Or.inl ⟨by rfl, ?hz412⟩) hHeld ?rst412
                    case hz412 => (intro wS hSw; obtain ⟨f1, f2⟩ := HF25.out wS hSw; clear hSw; go_simp; try with_reducible rfl)
                    simp only [Act.put, List.getElem_toArray, List.getElem_cons_zero, List.getElem_cons_succ, List.setIfInBounds_toArray, List.set_cons_zero, List.set_cons_succ]
                    refine AUS_take (by kernel_rfl) rfl (i := 15) (oi := _) (v := ?vw413) rfl (by kernel_rfl) (by kernel_rfl) (by kernel_rfl) (fun _ _ _ h => h) (Or.inl ⟨by rfl, ?hz413⟩) hHeld ?rst413
                    case hz413 => (intro wS hSw; clear hSw; go_simp; try with_reducible rfl)
                    simp only [Act.put, List.getElem_toArray, List.getElem_cons_zero, List.getElem_cons_succ, List.setIfInBounds_toArray, List.set_cons_zero, List.set_cons_succ]
                    refine AU_one (i := 9) (o := _) (by kernel_rfl) rfl (fun K hK => ?_)
                    have H7 := Lib.hid hHeld
                    have C := Lib.hid (CG.out _ hHeld)
                    clear hHeld
                    go_simp
                    refine C.out.mono ?_
                    clear C
                    rintro e w10 ⟨rfl, rfl⟩
                    have hHeld := H7.out
                    clear H7
                    refine hK.out _ _ (fun _ => hHeld) ?_
                    clear hK K
                    try simp only [Act.put, List.getElem_toArray, List.getElem_cons_zero, List.getElem_cons_succ, List.setIfInBounds_toArray, List.set_cons_zero, List.set_cons_succ]
                    refine AUS_take (by kernel_rfl) rfl (i := 10) (oi := _) (v := ?vw414) rfl (by kernel_rfl) (by kernel_rfl) (by kernel_rfl) (fun _ _ _ h => h) (Or.inl ⟨by rfl, ?hz414⟩) hHeld ?rst414
                    case hz414 => (intro wS hSw; clear hSw; go_simp; try with_reducible rfl)
                    simp only [Act.put, List.getElem_toArray, List.getElem_cons_zero, List.getElem_cons_succ, List.setIfInBounds_toArray, List.set_cons_zero, List.set_cons_succ]
                    refine AUS_take (by kernel_rfl) rfl (i := 16) (oi := _) (v := ?vw415) rfl (by kernel_rfl) (by kernel_rfl) (by kernel_rfl) (fun _ _ _ h => h) (Or.inl ⟨by rfl, ?hz415⟩) hHeld ?rst415
                    case hz415 => (intro wS hSw; clear hSw; go_simp; try with_reducible rfl)
                    simp only [Act.put, List.getElem_toArray, List.getElem_cons_zero, List.getElem_cons_succ, List.setIfInBounds_toArray, List.set_cons_zero, List.set_cons_succ]
                    refine AUS_take (by kernel_rfl) rfl (i := 17) (oi := _) (v := ?vw416) rfl (by kernel_rfl) (by kernel_rfl) (by kernel_rfl) (fun _ _ _ h => h) (Or.inl ⟨by rfl, ?hz416⟩) hHeld ?rst416
                    case hz416 => (intro wS hSw; clear hSw; go_simp; try with_reducible rfl)
                    simp only [Act.put, List.getElem_toArray, List.getElem_cons_zero, List.getElem_cons_succ, List.setIfInBounds_toArray, List.set_cons_zero, List.set_cons_succ]
                    have HBz := Lib.hid (hBb.out.trans (hHeld.mono hBb.out.size))
                    refine AU_done (by kernel_rfl) ?_ _
                    simp only [OnlyN]
                    go_wp2_with fail
                    go_roundg (16 - (b + 1))
                    case rel => exact ⟨b + 1, by omega, rfl, by first | rfl | rw [i3], HBz⟩
                    case measure => omega

                | some oa =>
                  obtain ⟨ca, hca, ha1, -, -⟩ := HQ.out.lm.some hGa
                  obtain ⟨s1, s2, s3, s4, s5⟩ := ca
                  dsimp only at ha1
                  subst ha1
                  have HF25 := Lib.hid (fun (wS : World) (hS : Below wq.heap.size wq wS) => (⟨by
                    have e := (HQ.out.below hS).look (x := a) ua
                    rw [hca] at e; exact e, fldC0 1 s2 s3 s4 s5 wS⟩ : (Instr.lookup 26 (.map (some (t + 1))) (.int .u64 (a : Int)) false).run Try.prog wS = .ok (.agg #[.int .i64 1, .int .u64 s2, .int .u64 s3, .int .i64 s4, .int .i64 s5]) wS ∧ (Instr.field 30 (.agg #[.int .i64 1, .int .u64 s2, .int .u64 s3, .int .i64 s4, .int .i64 s5]) 0).run Try.prog wS = .ok (.int .i64 1) wS))
                  have np : pb (G a) = .pointer (some ⟨oa.b, 0, none⟩) := by rw [hGa]; rfl
                  rw [np] at CG
                  have HB3 := Lib.hid hBb.out
                  clear hP htr hix hG h1 h2 h3 hnm hC hGa np hca
                  by_cases hm0 : m = 0
                  · subst hm0
                    go_upto_region 25 with fail
                    refine region_AU (Z := fun j => false) (S := fun w' => Below wq.heap.size wq w') (by kernel_rfl) ((Below.refl _ _).drew) (fun hHeld => ?_)
                    refine AUS_take (by kernel_rfl) rfl (i := 0) (oi := _) (v := ?vw501) rfl (by kernel_rfl) (by kernel_rfl) (by kernel_rfl) (fun _ _ _ h => h) (Or.inl ⟨by rfl, ?hz501⟩) hHeld ?rst501
                    case hz501 => (intro wS hSw; clear hSw; go_simp; try with_reducible rfl)
                    simp only [Act.put, List.getElem_toArray, List.getElem_cons_zero, List.getElem_cons_succ, List.setIfInBounds_toArray, List.set_cons_zero, List.set_cons_succ]
                    refine AUS_take (by kernel_rfl) rfl (i := 1) (oi := _) (v := ?vw502) rfl (by kernel_rfl) (by kernel_rfl) (by kernel_rfl) (fun _ _ _ h => h) (Or.inl ⟨by rfl, ?hz502⟩) hHeld ?rst502
                    case hz502 => (intro wS hSw; clear hSw; go_simp; try with_reducible rfl)
                    simp only [Act.put, List.getElem_toArray, List.getElem_cons_zero, List.getElem_cons_succ, List.setIfInBounds_toArray, List.set_cons_zero, List.set_cons_succ]
                    refine AUS_take (by kernel_rfl) rfl (i := 2) (oi := _) (v := ?vw503) rfl (by kernel_rfl) (by kernel_rfl) (by kernel_rfl) (fun _ _ _ h => h) (Or.inl ⟨by rfl, ?hz503⟩) hHeld ?rst503
                    case hz503 => (intro wS hSw; clear hSw; go_simp; try with_reducible rfl)
                    simp only [Act.put, List.getElem_toArray, List.getElem_cons_zero, List.getElem_cons_succ, List.setIfInBounds_toArray, List.set_cons_zero, List.set_cons_succ]
                    refine AUS_take (by kernel_rfl) rfl (i := 4) (oi := _) (v := ?vw504) rfl (by kernel_rfl) (by kernel_rfl) (by kernel_rfl) (fun _ _ _ h => h) (Or.inl ⟨by rfl, ?hz504⟩) hHeld ?rst504
                    case hz504 => (intro wS hSw; clear hSw; go_simp; try with_reducible rfl)
                    simp only [Act.put, List.getElem_toArray, List.getElem_cons_zero, List.getElem_cons_succ, List.setIfInBounds_toArray, List.set_cons_zero, List.set_cons_succ]
                    refine AU_one (i := 3) (o := _) (by kernel_rfl) rfl (fun K hK => ?_)
                    have H7 := Lib.hid hHeld
                    have C := Lib.hid (CI.out _ hHeld)
                    clear hHeld
                    go_simp
                    refine C.out.mono ?_
                    clear C
                    rintro e w9 ⟨rfl, rfl⟩
                    have hHeld := H7.out
                    clear H7
                    refine hK.out _ _ (fun _ => hHeld) ?_
                    clear hK K
                    try simp only [Act.put, List.getElem_toArray, List.getElem_cons_zero, List.getElem_cons_succ, List.setIfInBounds_toArray, List.set_cons_zero, List.set_cons_succ]
                    refine AUS_take (by kernel_rfl) rfl (i := 5) (oi := _) (v := ?vw505) rfl (by kernel_rfl) (by kernel_rfl) (by kernel_rfl) (fun _ _ _ h => h) (Or.inl ⟨by rfl, ?hz505⟩) hHeld ?rst505
                    case hz505 => (intro wS hSw; clear hSw; go_simp; try with_reducible rfl)
                    simp only [Act.put, List.getElem_toArray, List.getElem_cons_zero, List.getElem_cons_succ, List.setIfInBounds_toArray, List.set_cons_zero, List.set_cons_succ]
                    refine AUS_take (by kernel_rfl) rfl (i := 6) (oi := _) (v := ?vw506) rfl (by kernel_rfl) (by kernel_rfl) (by kernel_rfl) (fun _ _ _ h => h) (Or.inl ⟨by rfl, ?hz506⟩) hHeld ?rst506
                    case hz506 => (intro wS hSw; clear hSw; go_simp; try with_reducible rfl)
                    simp only [Act.put, List.getElem_toArray, List.getElem_cons_zero, List.getElem_cons_succ, List.setIfInBounds_toArray, List.set_cons_zero, List.set_cons_succ]
                    refine AUS_take (by kernel_rfl) rfl (i := 7) (oi := _) (v := ?vw507) rfl (by kernel_rfl) (by kernel_rfl) (by kernel_rfl) (fun _ _ _ h => h) (Or.inl ⟨by rfl, ?hz507⟩) hHeld ?rst507
                    case hz507 => (intro wS hSw; clear hSw; go_simp; try with_reducible rfl)
                    simp only [Act.put, List.getElem_toArray, List.getElem_cons_zero, List.getElem_cons_succ, List.setIfInBounds_toArray, List.set_cons_zero, List.set_cons_succ]
                    refine AUS_take (by kernel_rfl) rfl (i := 8) (oi := _) (v := ?vw508) rfl (by kernel_rfl) (by kernel_rfl) (by kernel_rfl) (fun _ _ _ h => h) (Or.inl ⟨by rfl, ?hz508⟩) hHeld ?rst508
                    case hz508 => (intro wS hSw; clear hSw; go_simp; try with_reducible rfl)
                    simp only [Act.put, List.getElem_toArray, List.getElem_cons_zero, List.getElem_cons_succ, List.setIfInBounds_toArray, List.set_cons_zero, List.set_cons_succ]
                    refine AUS_take (by kernel_rfl) rfl (i := 11) (oi := _) (v := ?vw509) rfl (by kernel_rfl) (by kernel_rfl) (by kernel_rfl) (fun _ _ _ h => h) (Or.inl ⟨by rfl, ?hz509⟩) hHeld ?rst509
                    case hz509 => (intro wS hSw; clear hSw; go_simp; try with_reducible rfl)
                    simp only [Act.put, List.getElem_toArray, List.getElem_cons_zero, List.getElem_cons_succ, List.setIfInBounds_toArray, List.set_cons_zero, List.set_cons_succ]
                    refine AUS_take (by kernel_rfl) rfl (i := 12) (oi := _) (v := ?vw510) rfl (by kernel_rfl) (by kernel_rfl) (by kernel_rfl) (fun _ _ _ h => h) (Or.inl ⟨by rfl, ?hz510⟩) hHeld ?rst510
                    case hz510 => (intro wS hSw; clear hSw; go_simp; try with_reducible rfl)
                    simp only [Act.put, List.getElem_toArray, List.getElem_cons_zero, List.getElem_cons_succ, List.setIfInBounds_toArray, List.set_cons_zero, List.set_cons_succ]
                    refine AUS_take (by kernel_rfl) rfl (i := 13) (oi := _) (v := ?vw511) rfl (by kernel_rfl) (by kernel_rfl) (by kernel_rfl) (fun _ _ _ h => h) (Or.inl ⟨by rfl, ?hz511⟩) hHeld ?rst511
                    case hz511 => (intro wS hSw; obtain ⟨f1, f2⟩ := HF25.out wS hSw; clear hSw; go_simp; try with_reducible rfl)
                    simp only [Act.put, List.getElem_toArray, List.getElem_cons_zero, List.getElem_cons_succ, List.setIfInBounds_toArray, List.set_cons_zero, List.set_cons_succ]
                    refine AUS_take (by kernel_rfl) rfl (i := 14) (oi := _) (v := ?vw512) rfl (by kernel_rfl) (by kernel_rfl) (by kernel_rfl) (fun _ _ _ h => h) (Or.inl ⟨by rfl, ?hz512⟩) hHeld ?rst512
                    case hz512 => (intro wS hSw; obtain ⟨f1, f2⟩ := HF25.out wS hSw; clear hSw; go_simp; try with_reducible rfl)
                    simp only [Act.put, List.getElem_toArray, List.getElem_cons_zero, List.getElem_cons_succ, List.setIfInBounds_toArray, List.set_cons_zero, List.set_cons_succ]
                    refine AUS_take (by kernel_rfl) rfl (i := 15) (oi := _) (v := ?vw513) rfl (by kernel_rfl) (by kernel_rfl) (by kernel_rfl) (fun _ _ _ h => h) (Or.inl ⟨by rfl, ?hz513⟩) hHeld ?rst513
                    case hz513 => (intro wS hSw; clear hSw; go_simp; try with_reducible rfl)
                    simp only [Act.put, List.getElem_toArray, List.getElem_cons_zero, List.getElem_cons_succ, List.setIfInBounds_toArray, List.set_cons_zero, List.set_cons_succ]
                    refine AU_one (i := 9) (o := _) (by kernel_rfl) rfl (fun K hK => ?_)
                    have H7 := Lib.hid hHeld
                    have C := Lib.hid (CG.out _ hHeld)
                    clear hHeld
                    go_simp
                    refine C.out.mono ?_
                    clear C
                    rintro e w10 ⟨rfl, rfl⟩
                    have hHeld := H7.out
                    clear H7
                    refine hK.out _ _ (fun _ => hHeld) ?_
                    clear hK K
                    try simp only [Act.put, List.getElem_toArray, List.getElem_cons_zero, List.getElem_cons_succ, List.setIfInBounds_toArray, List.set_cons_zero, List.set_cons_succ]
                    refine AUS_take (by kernel_rfl) rfl (i := 10) (oi := _) (v := ?vw514) rfl (by kernel_rfl) (by kernel_rfl) (by kernel_rfl) (fun _ _ _ h => h) (Or.inl ⟨by rfl, ?hz514⟩) hHeld ?rst514
                    case hz514 => (intro wS hSw; clear hSw; go_simp; try with_reducible rfl)
                    simp only [Act.put, List.getElem_toArray, List.getElem_cons_zero, List.getElem_cons_succ, List.setIfInBounds_toArray, List.set_cons_zero, List.set_cons_succ]
                    refine AUS_take (by kernel_rfl) rfl (i := 16) (oi := _) (v := ?vw515) rfl (by kernel_rfl) (by kernel_rfl) (by kernel_rfl) (fun _ _ _ h => h) (Or.inl ⟨by rfl, ?hz515⟩) hHeld ?rst515
                    case hz515 => (intro wS hSw; clear hSw; go_simp; try with_reducible rfl)
                    simp only [Act.put, List.getElem_toArray, List.getElem_cons_zero, List.getElem_cons_succ, List.setIfInBounds_toArray, List.set_cons_zero, List.set_cons_succ]
                    refine AUS_take (by kernel_rfl) rfl (i := 17) (oi := _) (v := ?vw516) rfl (by kernel_rfl) (by kernel_rfl) (by kernel_rfl) (fun _ _ _ h => h) (Or.inl ⟨by rfl, ?hz516⟩) hHeld ?rst516
                    case hz516 => (intro wS hSw; clear hSw; go_simp; try with_reducible rfl)
                    simp only [Act.put, List.getElem_toArray, List.getElem_cons_zero, List.getElem_cons_succ, List.setIfInBounds_toArray, List.set_cons_zero, List.set_cons_succ]
                    have HBz := Lib.hid (hBb.out.trans (hHeld.mono hBb.out.size))
                    refine AU_done (by kernel_rfl) ?_ _
                    simp only [OnlyN]
                    go_wp2_with fail
                    go_roundg (16 - (b + 1))
                    case rel => exact ⟨b + 1, by omega, rfl, by first | rfl | rw [i3], HBz⟩
                    case measure => omega

                  · have n0 : ((m : Int) != 0) = true := by have : (m : Int) ≠ 0 := by omega
                                                            simpa using this
                    have n0' : (m != 0) = true := by simpa using hm0
                    go_upto_region 25 with fail
                    refine region_AU (Z := fun j => false) (S := fun w' => Below wq.heap.size wq w') (by kernel_rfl) ((Below.refl _ _).drew) (fun hHeld => ?_)
                    refine AUS_take (by kernel_rfl) rfl (i := 0) (oi := _) (v := ?vw601) rfl (by kernel_rfl) (by kernel_rfl) (by kernel_rfl) (fun _ _ _ h => h) (Or.inl ⟨by rfl, ?hz601⟩) hHeld ?rst601
                    case hz601 => (intro wS hSw; clear hSw; go_simp; try with_reducible rfl)
                    simp only [Act.put, List.getElem_toArray, List.getElem_cons_zero, List.getElem_cons_succ, List.setIfInBounds_toArray, List.set_cons_zero, List.set_cons_succ]
                    refine AUS_take (by kernel_rfl) rfl (i := 1) (oi := _) (v := ?vw602) rfl (by kernel_rfl) (by kernel_rfl) (by kernel_rfl) (fun _ _ _ h => h) (Or.inl ⟨by rfl, ?hz602⟩) hHeld ?rst602
                    case hz602 => (intro wS hSw; clear hSw; go_simp; try with_reducible rfl)
                    simp only [Act.put, List.getElem_toArray, List.getElem_cons_zero, List.getElem_cons_succ, List.setIfInBounds_toArray, List.set_cons_zero, List.set_cons_succ]
                    refine AUS_take (by kernel_rfl) rfl (i := 2) (oi := _) (v := ?vw603) rfl (by kernel_rfl) (by kernel_rfl) (by kernel_rfl) (fun _ _ _ h => h) (Or.inl ⟨by rfl, ?hz603⟩) hHeld ?rst603
                    case hz603 => (intro wS hSw; clear hSw; go_simp; try with_reducible rfl)
                    simp only [Act.put, List.getElem_toArray, List.getElem_cons_zero, List.getElem_cons_succ, List.setIfInBounds_toArray, List.set_cons_zero, List.set_cons_succ]
                    refine AUS_take (by kernel_rfl) rfl (i := 4) (oi := _) (v := ?vw604) rfl (by kernel_rfl) (by kernel_rfl) (by kernel_rfl) (fun _ _ _ h => h) (Or.inl ⟨by rfl, ?hz604⟩) hHeld ?rst604
                    case hz604 => (intro wS hSw; clear hSw; go_simp; try with_reducible rfl)
                    simp only [Act.put, List.getElem_toArray, List.getElem_cons_zero, List.getElem_cons_succ, List.setIfInBounds_toArray, List.set_cons_zero, List.set_cons_succ]
                    refine AU_one (i := 3) (o := _) (by kernel_rfl) rfl (fun K hK => ?_)
                    have H7 := Lib.hid hHeld
                    have C := Lib.hid (CI.out _ hHeld)
                    clear hHeld
                    go_simp
                    refine C.out.mono ?_
                    clear C
                    rintro e w9 ⟨rfl, rfl⟩
                    have hHeld := H7.out
                    clear H7
                    refine hK.out _ _ (fun _ => hHeld) ?_
                    clear hK K
                    try simp only [Act.put, List.getElem_toArray, List.getElem_cons_zero, List.getElem_cons_succ, List.setIfInBounds_toArray, List.set_cons_zero, List.set_cons_succ]
                    refine AUS_take (by kernel_rfl) rfl (i := 5) (oi := _) (v := ?vw605) rfl (by kernel_rfl) (by kernel_rfl) (by kernel_rfl) (fun _ _ _ h => h) (Or.inl ⟨by rfl, ?hz605⟩) hHeld ?rst605
                    case hz605 => (intro wS hSw; clear hSw; go_simp; try with_reducible rfl)
                    simp only [Act.put, List.getElem_toArray, List.getElem_cons_zero, List.getElem_cons_succ, List.setIfInBounds_toArray, List.set_cons_zero, List.set_cons_succ]
                    refine AUS_take (by kernel_rfl) rfl (i := 6) (oi := _) (v := ?vw606) rfl (by kernel_rfl) (by kernel_rfl) (by kernel_rfl) (fun _ _ _ h => h) (Or.inl ⟨by rfl, ?hz606⟩) hHeld ?rst606
                    case hz606 => (intro wS hSw; clear hSw; go_simp; try with_reducible rfl)
                    simp only [Act.put, List.getElem_toArray, List.getElem_cons_zero, List.getElem_cons_succ, List.setIfInBounds_toArray, List.set_cons_zero, List.set_cons_succ]
                    refine AUS_take (by kernel_rfl) rfl (i := 7) (oi := _) (v := ?vw607) rfl (by kernel_rfl) (by kernel_rfl) (by kernel_rfl) (fun _ _ _ h => h) (Or.inl ⟨by rfl, ?hz607⟩) hHeld ?rst607
                    case hz607 => (intro wS hSw; clear hSw; go_simp; try with_reducible rfl)
                    simp only [Act.put, List.getElem_toArray, List.getElem_cons_zero, List.getElem_cons_succ, List.setIfInBounds_toArray, List.set_cons_zero, List.set_cons_succ]
                    refine AUS_take (by kernel_rfl) rfl (i := 8) (oi := _) (v := ?vw608) rfl (by kernel_rfl) (by kernel_rfl) (by kernel_rfl) (fun _ _ _ h => h) (Or.inl ⟨by rfl, ?hz608⟩) hHeld ?rst608
                    case hz608 => (intro wS hSw; clear hSw; go_simp; try with_reducible rfl)
                    simp only [Act.put, List.getElem_toArray, List.getElem_cons_zero, List.getElem_cons_succ, List.setIfInBounds_toArray, List.set_cons_zero, List.set_cons_succ]
                    refine AUS_take (by kernel_rfl) rfl (i := 11) (oi := _) (v := ?vw609) rfl (by kernel_rfl) (by kernel_rfl) (by kernel_rfl) (fun _ _ _ h => h) (Or.inl ⟨by rfl, ?hz609⟩) hHeld ?rst609
                    case hz609 => (intro wS hSw; clear hSw; go_simp; try with_reducible rfl)
                    simp only [Act.put, List.getElem_toArray, List.getElem_cons_zero, List.getElem_cons_succ, List.setIfInBounds_toArray, List.set_cons_zero, List.set_cons_succ]
                    refine AUS_take (by kernel_rfl) rfl (i := 12) (oi := _) (v := ?vw610) rfl (by kernel_rfl) (by kernel_rfl) (by kernel_rfl) (fun _ _ _ h => h) (Or.inl ⟨by rfl, ?hz610⟩) hHeld ?rst610
                    case hz610 => (intro wS hSw; clear hSw; go_simp; try with_reducible rfl)
                    simp only [Act.put, List.getElem_toArray, List.getElem_cons_zero, List.getElem_cons_succ, List.setIfInBounds_toArray, List.set_cons_zero, List.set_cons_succ]
                    refine AUS_take (by kernel_rfl) rfl (i := 13) (oi := _) (v := ?vw611) rfl (by kernel_rfl) (by kernel_rfl) (by kernel_rfl) (fun _ _ _ h => h) (Or.inl ⟨by rfl, ?hz611⟩) hHeld ?rst611
                    case hz611 => (intro wS hSw; obtain ⟨f1, f2⟩ := HF25.out wS hSw; clear hSw; go_simp; try with_reducible rfl)
                    simp only [Act.put, List.getElem_toArray, List.getElem_cons_zero, List.getElem_cons_succ, List.setIfInBounds_toArray, List.set_cons_zero, List.set_cons_succ]
                    refine AUS_take (by kernel_rfl) rfl (i := 14) (oi := _) (v := ?vw612) rfl (by kernel_rfl) (by kernel_rfl) (by kernel_rfl) (fun _ _ _ h => h) (Or.inl ⟨by rfl, ?hz612⟩) hHeld ?rst612
                    case hz612 => (intro wS hSw; obtain ⟨f1, f2⟩ := HF25.out wS hSw; clear hSw; go_simp; try with_reducible rfl)
                    simp only [Act.put, List.getElem_toArray, List.getElem_cons_zero, List.getElem_cons_succ, List.setIfInBounds_toArray, List.set_cons_zero, List.set_cons_succ]
                    refine AUS_take (by kernel_rfl) rfl (i := 15) (oi := _) (v := ?vw613) rfl (by kernel_rfl) (by kernel_rfl) (by kernel_rfl) (fun _ _ _ h => h) (Or.inl ⟨by rfl, ?hz613⟩) hHeld ?rst613
                    case hz613 => (intro wS hSw; clear hSw; go_simp; try with_reducible rfl)
                    simp only [Act.put, List.getElem_toArray, List.getElem_cons_zero, List.getElem_cons_succ, List.setIfInBounds_toArray, List.set_cons_zero, List.set_cons_succ]
                    refine AU_one (i := 9) (o := _) (by kernel_rfl) rfl (fun K hK => ?_)
                    have H7 := Lib.hid hHeld
                    have C := Lib.hid (CG.out _ hHeld)
                    clear hHeld
                    go_simp
                    refine C.out.mono ?_
                    clear C
                    rintro e w10 ⟨rfl, rfl⟩
                    have hHeld := H7.out
                    clear H7
                    refine hK.out _ _ (fun _ => hHeld) ?_
                    clear hK K
                    try simp only [Act.put, List.getElem_toArray, List.getElem_cons_zero, List.getElem_cons_succ, List.setIfInBounds_toArray, List.set_cons_zero, List.set_cons_succ]
                    refine AUS_take (by kernel_rfl) rfl (i := 10) (oi := _) (v := ?vw614) rfl (by kernel_rfl) (by kernel_rfl) (by kernel_rfl) (fun _ _ _ h => h) (Or.inl ⟨by rfl, ?hz614⟩) hHeld ?rst614
                    case hz614 => (intro wS hSw; clear hSw; go_simp; try with_reducible rfl)
                    simp only [Act.put, List.getElem_toArray, List.getElem_cons_zero, List.getElem_cons_succ, List.setIfInBounds_toArray, List.set_cons_zero, List.set_cons_succ]
                    refine AUS_take (by kernel_rfl) rfl (i := 16) (oi := _) (v := ?vw615) rfl (by kernel_rfl) (by kernel_rfl) (by kernel_rfl) (fun _ _ _ h => h) (Or.inl ⟨by rfl, ?hz615⟩) hHeld ?rst615
                    case hz615 => (intro wS hSw; clear hSw; go_simp; try with_reducible rfl)
                    simp only [Act.put, List.getElem_toArray, List.getElem_cons_zero, List.getElem_cons_succ, List.setIfInBounds_toArray, List.set_cons_zero, List.set_cons_succ]
                    refine AUS_take (by kernel_rfl) rfl (i := 17) (oi := _) (v := ?vw616) rfl (by kernel_rfl) (by kernel_rfl) (by kernel_rfl) (fun _ _ _ h => h) (Or.inl ⟨by rfl, ?hz616⟩) hHeld ?rst616
                    case hz616 => (intro wS hSw; clear hSw; go_simp; try with_reducible rfl)
                    simp only [Act.put, List.getElem_toArray, List.getElem_cons_zero, List.getElem_cons_succ, List.setIfInBounds_toArray, List.set_cons_zero, List.set_cons_succ]
                    have HBz := Lib.hid (hBb.out.trans (hHeld.mono hBb.out.size))
                    refine AU_done (by kernel_rfl) ?_ _
                    simp only [OnlyN]
                    go_wp2_with fail
                    go_roundg (16 - (b + 1))
                    case rel => exact ⟨b + 1, by omega, rfl, by first | rfl | rw [i3], HBz⟩
                    case measure => omega

              
            · obtain rfl : b = 16 := by omega
              go_wp2_with fail
              go_roundg (16 - (a + 1))
              case rel => exact ⟨a + 1, by omega, rfl, by first | rfl | rw [i2], hBb⟩
              case measure => omega
        · obtain rfl : a = 16 := by omega
          have HE := Lib.hid (show Below w.heap.size w _ from by
            obtain ⟨M, hts⟩ := H0.out.1.ts
            exact hts.b.trans (hBa.out.mono hts.b.size))
          go_wp2_with fail
          go_ret
          exact ⟨rfl, HE.out⟩

end Go.Proofs.Ytodionedjokdmaa
