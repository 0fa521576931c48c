/- Add. -/
import Derived.Test.YtbjegfkjibfadaaMd
import Derived.Test.YtbjegfkjibfadaaVq
set_option linter.unusedVariables false
set_option linter.unusedSimpArgs false
namespace Go.Proofs.Ytbjegfkjibfadaa
open Go.RowKit
set_option linter.unusedVariables false
set_option linter.unusedSimpArgs false
theorem lv_one {w : World} {a : Nat} {p : Mp} {e : TypeId} (h : w.heap[a]? = some (Obj.cells #[.int .i64 p.a, .int .u64 p.s, .int .i64 p.f, .int .i64 p.n, .bool p.w] e)) : LV 5 encM w (some ⟨a, 0, none⟩) [p] := fun i x hi => by
  match i with
  | 0 =>
    obtain rfl : p = x := by simpa using hi
    obtain ⟨h0, h1, h2, h3, h4⟩ := Five.row (m := p) h
    refine ⟨a, 0, rfl, (Array.getElem?_eq_some_iff.1 h).1, fun j u hu => ?_⟩
    match j with
    | 0 => rw [show u = _ from (Option.some.inj hu).symm]; exact h0
    | 1 => rw [show u = _ from (Option.some.inj hu).symm]; exact h1
    | 2 => rw [show u = _ from (Option.some.inj hu).symm]; exact h2
    | 3 => rw [show u = _ from (Option.some.inj hu).symm]; exact h3
    | 4 => rw [show u = _ from (Option.some.inj hu).symm]; exact h4
    | j + 5 => simp [encM] at hu
  | i + 1 => simp at hi
/-- How Add ends. -/
def Added (own : Nat → Prop) (us : List Mp) (m : Mp) (e : Ending) (w' : World) : Prop :=
  ((m.ok = false ∨ ovl us m = true) ∧ e = .returned (.tuple #[.slice none 0 0, .int .i64 1])) ∨
  (m.ok = true ∧ ovl us m = false ∧ us.length = 16 ∧ e = .returned (.tuple #[.slice none 0 0, .int .i64 7])) ∨
  (m.ok = true ∧ ovl us m = false ∧ us.length < 16 ∧ ∃ v l', e = .returned (.tuple #[v, .int .i64 0]) ∧ RV own 26 5 encM w' v l' ∧ Sp l' ∧ l'.Perm (m :: us))
set_option maxRecDepth 100000 in
set_option maxHeartbeats 2000000 in
theorem add_any {w : World} {A : Option Addr} {l c : Nat} {us : List Mp} (m : Mp) (hl : us.length = l) (hm : l ≤ 16) (hc : l ≤ c) (hcm : c ≤ maxLen) (hr : LV 5 encM w A us) (hs : Sp us) :
    Calls Try.prog 12 #[.slice A l c, .agg #[.int .i64 m.a, .int .u64 m.s, .int .i64 m.f, .int .i64 m.n, .bool m.w]] w fun e w' => Added (fun b => w.heap.size ≤ b) us m e w' ∧ Below w.heap.size w w' := by
  have B1 := Lib.hid (And.intro (below_alloc1 w (blkM m)) (heap_alloc_new w (blkM m)))
  have HR := Lib.hid hr
  have HL := Lib.hid hl
  have HM := Lib.hid (And.intro hc (And.intro hcm (And.intro hm hs)))
  obtain ⟨m0, em0⟩ : ∃ m0, m = m0 := ⟨_, rfl⟩
  have CV := Lib.hid (fun W => valid_any m.a m.s m.f m.n m.w W)
  have hko : m.ok = okB m.a m.s m.f m.n := rfl
  obtain ⟨v, ev⟩ : ∃ v, okB m.a m.s m.f m.n = v := ⟨_, rfl⟩
  rw [ev] at CV hko
  have HV := Lib.hid hko
  have EM := Lib.hid em0
  obtain ⟨a, s, f, n, wt⟩ := m
  simp only [] at CV
  have hf0 := Five.row (t := 26) B1.out.2
  clear hr hl hc hcm hm hs ev hko em0
  cases v
  · go_enter Try.func12, Try.ntmps12
    obtain ⟨z0, z1, z2, z3, z4⟩ := hf0
    simp only [] at z0 z1 z2 z3 z4
    go_wp2_with fail
    refine (CV.out _).mono ?_; rintro e w1 ⟨rfl, hb1⟩
    have HB := Lib.hid (below_up B1.out.1 hb1)
    clear hb1 z0 z1 z2 z3 z4
    go_wp2_with fail
    go_ret2
    exact ⟨.inl ⟨.inl HV.out, rfl⟩, HB.out⟩
  · have hok : Mp.Ok ⟨a, s, f, n, wt⟩ := Mp.ok_iff.1 HV.out
    have HOK := Lib.hid hok
    obtain ⟨o1, o2, o3, o4, _⟩ := hok
    simp only [] at o1 o2 o3 o4
    have CM := Lib.hid (fun W => end_ok (a := a) (n := n) s f wt ⟨by omega, by omega, by omega, by omega⟩ W)
    obtain ⟨q, eq⟩ : ∃ q, a + n = q := ⟨_, rfl⟩
    rw [eq] at CM
    have HQ := Lib.hid eq
    clear eq o1 o2 o3 o4
    go_enter Try.func12, Try.ntmps12
    have hf1 := hf0
    obtain ⟨z0, z1, z2, z3, z4⟩ := hf1
    simp only [] at z0 z1 z2 z3 z4
    go_wp2_with fail
    refine (CV.out _).mono ?_; rintro e w1 ⟨rfl, hb1⟩
    have HF := Lib.hid (And.intro (hf0.below hb1) (below_up B1.out.1 hb1))
    clear hb1 z0 z1 z2 z3 z4 hf0 CV B1
    go_wp2_with fail
    go_loopg [6] l (fun gh i wr => ∃ k : Nat, k ≤ l ∧ gh = l - k ∧ i = .int .i64 k ∧ Hid (Ahead us a k) ∧ Hid (Five wr w.heap.size 0 ⟨a, s, f, n, wt⟩ ∧ Below w.heap.size w wr))
    case atStart => exact ⟨0, by omega, by omega, rfl, Lib.hid (Ahead.zero _ _), HF⟩
    case round =>
      clear HF
      obtain ⟨k, hk, hg, rfl, hx, hI⟩ := hrel
      obtain ⟨z0, z1, z2, z3, z4⟩ := hI.out.1
      simp only [] at z0 z1 z2 z3 z4
      by_cases hlt : k < l
      · obtain ⟨x, hy⟩ : ∃ x, us[k]? = some x := ⟨_, List.getElem?_eq_getElem (by rw [HL.out]; exact hlt)⟩
        obtain ⟨B, off, rfl, hb, c0, c1, c2, c3, c4⟩ := (HR.out.below hI.out.2).five hy
        have HY := Lib.hid hy
        obtain ⟨o1, o2, o3, o4, _⟩ := HM.out.2.2.2.2 x (List.mem_of_getElem? hy)
        have CE := Lib.hid (fun W => end_ok (a := x.a) (n := x.n) x.s x.f x.w ⟨by omega, by omega, by omega, by omega⟩ W)
        obtain ⟨a', s', f', n', wt'⟩ := x
        simp only [] at c0 c1 c2 c3 c4 CE
        obtain ⟨r, er⟩ : ∃ r, a' + n' = r := ⟨_, rfl⟩
        rw [er] at CE
        have HE := Lib.hid er
        have l1 : (k : Int) < l := by omega
        have hm16 := HM.out.2.2.1
        have i1 : IntKind.i64.wrap ((k : Int) + 1) = (k : Int) + 1 := by rw [IntKind.wrap_i64]; omega
        clear hy o1 o2 o3 o4 er hm16
        have QE : Hid (∀ d os, Calls Try.prog 20 #[.agg #[.int .i64 a', .int .u64 s', .int .i64 f', .int .i64 n', .bool wt']] (Sort.grow (redrawn wr d) os) fun e w'' => e = .returned (.int .i64 r) ∧ ∃ p : Regrown, w'' = Sort.grow (redrawn wr p.d) p.os) := Lib.hid (fun d os => Calls.regrown_of (CE.out _))
        have c0' := c0
        have k0 := cell_regrown c0
        have k1 := cell_regrown c1
        have k2 := cell_regrown c2
        have k3 := cell_regrown c3
        have k4 := cell_regrown c4
        have k5 := cell_regrown z0
        clear c0 c1 c2 c3 c4 z0 z1 z2 z3 z4
        by_cases hra : r ≤ a
        · go_upto_region 4 with fail
          refine wp_region_quiet_below (by kernel_rfl) (by kernel_rfl) ?_
          repeat (quiet_step (first | with_reducible exact QE.out _ _))
          refine wpQuiet_nil ?_
          intro _ hw'
          obtain ⟨⟨dq, osq⟩, hw''⟩ := hw'
          subst hw''
          have HW := Lib.hid (And.intro (hI.out.1.below (below_regrown wr dq osq)) (below_up hI.out.2 (below_regrown wr dq osq)))
          clear k0 k1 k2 k3 k4 k5 QE
          go_wp2_with fail
          go_roundg (l - (k + 1))
          case rel => exact ⟨k + 1, by omega, rfl, by simp, Lib.hid (hx.out.succ HY.out (by rw [HE.out]; exact hra)), HW⟩
          case measure => first | omega | (simp; omega)
        · have h3 : ¬ r ≤ a := hra
          go_upto_region 4 with fail
          refine wp_region_quiet_below (by kernel_rfl) (by kernel_rfl) ?_
          repeat (quiet_step (first | with_reducible exact QE.out _ _))
          refine wpQuiet_nil ?_
          intro _ hw'
          obtain ⟨⟨dq, osq⟩, hw''⟩ := hw'
          subst hw''
          obtain ⟨W2, eW2⟩ : ∃ W2, Sort.grow (redrawn wr dq) osq = W2 := ⟨_, rfl⟩
          have hbw : Below wr.heap.size wr W2 := by rw [← eW2]; exact below_regrown wr dq osq
          have HW := Lib.hid (And.intro (hI.out.1.below hbw) (below_up hI.out.2 hbw))
          have CM2 : Hid (∀ d os, Calls Try.prog 20 #[.agg #[.int .i64 a, .int .u64 s, .int .i64 f, .int .i64 n, .bool wt]] (Sort.grow (redrawn W2 d) os) fun e w'' => e = .returned (.int .i64 q) ∧ ∃ p : Regrown, w'' = Sort.grow (redrawn W2 p.d) p.os) := Lib.hid (fun d os => Calls.regrown_of (CM.out _))
          obtain ⟨z0, z1, z2, z3, z4⟩ := hI.out.1.below hbw
          simp only [] at z0 z1 z2 z3 z4
          have c0 : W2.cell? ⟨B, off + k * 5, none⟩ = some (.int .i64 a') := by rw [hbw.cell (p := ⟨B, _, none⟩) (World.block_lt_of_cell? wr _ c0')]; exact c0'
          have k0 := cell_regrown c0
          have k1 := cell_regrown z0
          have k2 := cell_regrown z1
          have k3 := cell_regrown z2
          have k4 := cell_regrown z3
          have k5 := cell_regrown z4
          dsimp only
          rw [eW2]
          have HF1 := Lib.hid (ovl_first (m := ⟨a, s, f, n, wt⟩) HM.out.2.2.2 hx.out HY.out (by rw [HE.out]; exact hra))
          clear eW2 hbw c0' c0 z0 z1 z2 z3 z4 QE hI
          go_upto_region 6 with fail
          refine wp_region_quiet_below (by kernel_rfl) (by kernel_rfl) ?_
          repeat (quiet_step (first | with_reducible exact CM2.out _ _))
          refine wpQuiet_nil ?_
          intro _ hw'
          obtain ⟨⟨dq2, osq2⟩, hw''⟩ := hw'
          subst hw''
          obtain ⟨W3, eW3⟩ : ∃ W3, Sort.grow (redrawn W2 dq2) osq2 = W3 := ⟨_, rfl⟩
          have hbw : Below W2.heap.size W2 W3 := by rw [← eW3]; exact below_regrown W2 dq2 osq2
          have HZ := Lib.hid (And.intro (HW.out.1.below hbw) (below_up HW.out.2 hbw))
          dsimp only
          rw [eW3]
          clear eW3 hbw k0 k1 k2 k3 k4 k5 CM2 HW
          by_cases haq : a' < q
          · have HO : Hid (ovl us ⟨a, s, f, n, wt⟩ = true) := Lib.hid (by rw [HF1.out]; simp only [decide_eq_true_eq]; rw [HQ.out]; exact haq)
            go_wp2_with fail
            go_ret2
            exact ⟨.inl ⟨.inr HO.out, rfl⟩, HZ.out.2⟩
          · have HO : Hid (ovl us ⟨a, s, f, n, wt⟩ = false) := Lib.hid (by rw [HF1.out]; simp only [decide_eq_false_iff_not]; rw [HQ.out]; exact haq)
            have HK : Hid (∀ y, us[k]? = some y → ¬ y.a + y.n ≤ a) := Lib.hid (fun y hy => by rw [HY.out] at hy; injection hy with hy; rw [← hy]; simp only []; rw [HE.out]; exact hra)
            have hkl : k ≤ l := hk
            clear HF1 HY hlt hk hg l1 i1 CE HE h3 hra
            by_cases h16 : l ≥ 16
            · have h16' : (l : Int) ≥ 16 := by omega
              have h16'' : (16 : Int) ≤ l := h16'
              have HX : Hid (us.length = 16) := Lib.hid (by have := HM.out.2.2.1; have := HL.out; omega)
              go_wp2_with fail
              go_ret2
              exact ⟨.inr (.inl ⟨HV.out, HO.out, HX.out, rfl⟩), HZ.out.2⟩
            · have h16' : ¬ (l : Int) ≥ 16 := by omega
              have h16'' : ¬ (16 : Int) ≤ l := h16'
              have HX : Hid (us.length < 16) := Lib.hid (by have := HL.out; omega)
              obtain ⟨hc, hcm, _, _⟩ := HM.out
              have hc' : c ≤ 9223372036854775807 := hcm
              have i3 : (k : Int) ≤ c := by omega
              have i4 : (k : Int) ≤ l := by omega
              have i5 : (l : Int) ≤ c := by omega
              obtain ⟨z0, z1, z2, z3, z4⟩ := HZ.out.1
              simp only [] at z0 z1 z2 z3 z4
              obtain ⟨W1, eW1⟩ : ∃ W1, ((W3.alloc (blkM ⟨a, s, f, n, wt⟩)).alloc (Obj.cells #[.slice (some ⟨B, off, none⟩) k c, .slice (some ⟨W3.heap.size, 0, none⟩) 1 1, .slice (if c = k then (some ⟨B, off, none⟩) else (some ⟨B, off + k * 5, none⟩)) (l - k) (c - k)] 22)).drew = W1 := ⟨_, rfl⟩
              have hbw : Below W3.heap.size W3 W1 := by
                have b1 := below_alloc1 W3 (blkM ⟨a, s, f, n, wt⟩)
                rw [← eW1]; exact (b1.alloc b1.size _).drew
              have hrw : W1.heap[W3.heap.size]? = some (blkM ⟨a, s, f, n, wt⟩) := by
                rw [← eW1]
                exact ((below_alloc1 (W3.alloc (blkM ⟨a, s, f, n, wt⟩)) _).block W3.heap.size (by simp)).trans (heap_alloc_new W3 _)
              have hrow : W1.heap[W3.heap.size + 1]? = some (Obj.cells #[.slice (some ⟨B, off, none⟩) k c, .slice (some ⟨W3.heap.size, 0, none⟩) 1 1, .slice (if c = k then (some ⟨B, off, none⟩) else (some ⟨B, off + k * 5, none⟩)) (l - k) (c - k)] 22) := by
                rw [← eW1]
                have := heap_alloc_new (W3.alloc (blkM ⟨a, s, f, n, wt⟩)) (Obj.cells #[.slice (some ⟨B, off, none⟩) k c, .slice (some ⟨W3.heap.size, 0, none⟩) 1 1, .slice (if c = k then (some ⟨B, off, none⟩) else (some ⟨B, off + k * 5, none⟩)) (l - k) (c - k)] 22)
                rwa [show (W3.alloc (blkM ⟨a, s, f, n, wt⟩)).heap.size = W3.heap.size + 1 from by simp] at this
              have d0 : W1.cell? ⟨W3.heap.size + 1, 0, none⟩ = some (.slice (some ⟨B, off, none⟩) k c) := by rw [cell_of_row _ _ 0 _ _ _ hrow]; rfl
              have d1 : W1.cell? ⟨W3.heap.size + 1, 1, none⟩ = some (.slice (some ⟨W3.heap.size, 0, none⟩) 1 1) := by rw [cell_of_row _ _ 1 _ _ _ hrow]; rfl
              have d2 : W1.cell? ⟨W3.heap.size + 1, 2, none⟩ = some (.slice (if c = k then (some ⟨B, off, none⟩) else (some ⟨B, off + k * 5, none⟩)) (l - k) (c - k)) := by rw [cell_of_row _ _ 2 _ _ _ hrow]; rfl
              have hlv := HR.out.below (below_up HZ.out.2 hbw)
              have hr1 : LV 5 encM W1 (some ⟨B, off, none⟩) (us.take k) := LV.take hlv k
              have hr2 : LV 5 encM W1 (if c = k then (some ⟨B, off, none⟩) else (some ⟨B, off + k * 5, none⟩)) (us.drop k) := by
                have := LV.drop hlv (k := k) (c := c) (by rw [HL.out]; exact hc)
                first | exact this | simpa only [Option.map_some, addr_add] using this
              have hr3 : LV 5 encM W1 (some ⟨W3.heap.size, 0, none⟩) [(⟨a, s, f, n, wt⟩ : Mp)] := lv_one hrw
              have hHL := HL.out
              have lt1 : (us.take k).length = k := by rw [List.length_take]; omega
              have ld1 : (us.drop k).length = l - k := by rw [List.length_drop]; omega
              have CC := concat_any (W3.heap.size + 1) 3 (fun j => if j = 0 then (some ⟨B, off, none⟩) else if j = 1 then some ⟨W3.heap.size, 0, none⟩ else (if c = k then (some ⟨B, off, none⟩) else (some ⟨B, off + k * 5, none⟩))) (fun j => if j = 0 then k else if j = 1 then 1 else l - k) (fun j => if j = 0 then c else if j = 1 then 1 else c - k) (fun j => if j = 0 then us.take k else if j = 1 then [(⟨a, s, f, n, wt⟩ : Mp)] else us.drop k) W1 (by omega) (fun j hj => by
                match j, hj with
                | 0, _ => exact ⟨d0, lt1, by show k ≤ c; omega, hr1⟩
                | 1, _ => exact ⟨d1, rfl, Nat.le_refl _, hr3⟩
                | 2, _ => exact ⟨d2, ld1, by show l - k ≤ c - k; omega, hr2⟩) (by
                show ((([] ++ us.take k) ++ [(⟨a, s, f, n, wt⟩ : Mp)]) ++ us.drop k).length ≤ 1000
                rw [List.length_append, List.length_append, List.nil_append, lt1, ld1, List.length_singleton]; omega)
              have HCC := Lib.hid (show Calls Try.prog 18 #[.slice (some ⟨W3.heap.size + 1, 0, none⟩) 3 3] W1 (fun e w' => ∃ v, e = .returned v ∧ RV (fun b => W1.heap.size ≤ b) 26 5 encM w' v (us.take k ++ ⟨a, s, f, n, wt⟩ :: us.drop k) ∧ Below W1.heap.size W1 w') by
                have := CC
                simpa [cat] using this)
              have HB1 := Lib.hid (below_up HZ.out.2 hbw)
              clear hbw hrw hrow d0 d1 d2 hlv hr1 hr2 hr3 hHL lt1 ld1 CC
              go_upto_region 10 with fail
              go_region_law (first
                | (go_simp
                   go_at_call 18
                   refine HCC.out.mono ?_; rintro e w2 ⟨v, rfl, hv, hb⟩
                   have HV2 := Lib.hid (And.intro hv hb)
                   clear hv hb))
              go_wp2_with fail
              all_goals
                go_ret2
                exact ⟨.inr (.inr ⟨HV.out, HO.out, HX.out, v, _, rfl, HV2.out.1.keep fun b cur hb _ => ⟨Nat.le_trans HB1.out.size hb, rfl⟩, HM.out.2.2.2.put hx.out HO.out HOK.out (fun y hy => by have := HK.out y hy; show ¬ y.a + y.n ≤ a; omega), put_perm _ _ _⟩), below_up HB1.out HV2.out.2⟩
      · have HKL : Hid (k = l) := Lib.hid (by omega)
        have l2 : ¬ (k : Int) < l := by omega
        have HO : Hid (ovl us ⟨a, s, f, n, wt⟩ = false) := Lib.hid (ovl_last (by rw [HL.out, ← HKL.out]; exact hx.out))
        have HK : Hid (∀ y, us[k]? = some y → ¬ y.a + y.n ≤ a) := Lib.hid (fun y hy => by have := (List.getElem?_eq_some_iff.1 hy).1; rw [HL.out] at this; have := HKL.out; omega)
        clear z0 z1 z2 z3 z4
        have HW := Lib.hid (And.intro hI.out.1.drew hI.out.2.drew)
        go_upto_region 4 with fail
        refine region_AU (Z := fun j => false) (S := fun _ => True) (by kernel_rfl) trivial (fun hHeld => ?_)
        refine AUS_take (by kernel_rfl) rfl (i := 0) (oi := _) (v := ?vwp0) rfl (by kernel_rfl) (by kernel_rfl) (by kernel_rfl) (fun _ _ _ h => h) (Or.inl ⟨by rfl, ?hzp0⟩) hHeld ?rstp0
        case hzp0 => (intro wS hSw; clear hSw; go_simp; try with_reducible rfl)
        simp only [Act.put, List.getElem_toArray, List.getElem_cons_zero, List.getElem_cons_succ, List.setIfInBounds_toArray, List.set_cons_zero, List.set_cons_succ]
        refine AUS_take (by kernel_rfl) rfl (i := 1) (oi := _) (v := ?vwp1) rfl (by kernel_rfl) (by kernel_rfl) (by kernel_rfl) (fun _ _ _ h => h) (Or.inl ⟨by rfl, ?hzp1⟩) hHeld ?rstp1
        case hzp1 => (intro wS hSw; clear hSw; go_simp; try with_reducible rfl)
        simp only [Act.put, List.getElem_toArray, List.getElem_cons_zero, List.getElem_cons_succ, List.setIfInBounds_toArray, List.set_cons_zero, List.set_cons_succ]
        refine AUS_take (by kernel_rfl) rfl (i := 2) (oi := _) (v := ?vwp2) rfl (by kernel_rfl) (by kernel_rfl) (by kernel_rfl) (fun _ _ _ h => h) (Or.inl ⟨by rfl, ?hzp2⟩) hHeld ?rstp2
        case hzp2 => (intro wS hSw; clear hSw; go_simp; try with_reducible rfl)
        simp only [Act.put, List.getElem_toArray, List.getElem_cons_zero, List.getElem_cons_succ, List.setIfInBounds_toArray, List.set_cons_zero, List.set_cons_succ]
        refine AUS_take (by kernel_rfl) rfl (i := 3) (oi := _) (v := ?vwp3) rfl (by kernel_rfl) (by kernel_rfl) (by kernel_rfl) (fun _ _ _ h => h) (Or.inl ⟨by rfl, ?hzp3⟩) hHeld ?rstp3
        case hzp3 => (intro wS hSw; clear hSw; go_simp; try with_reducible rfl)
        simp only [Act.put, List.getElem_toArray, List.getElem_cons_zero, List.getElem_cons_succ, List.setIfInBounds_toArray, List.set_cons_zero, List.set_cons_succ]
        refine AUS_take (by kernel_rfl) rfl (i := 4) (oi := _) (v := ?vwp4) rfl (by kernel_rfl) (by kernel_rfl) (by kernel_rfl) (fun _ _ _ h => h) (Or.inl ⟨by rfl, ?hzp4⟩) hHeld ?rstp4
        case hzp4 => (intro wS hSw; clear hSw; go_simp; try with_reducible rfl)
        simp only [Act.put, List.getElem_toArray, List.getElem_cons_zero, List.getElem_cons_succ, List.setIfInBounds_toArray, List.set_cons_zero, List.set_cons_succ]
        refine AUS_take (by kernel_rfl) rfl (i := 5) (oi := _) (v := undef) rfl (by kernel_rfl) (by kernel_rfl) (by kernel_rfl) (fun _ _ _ h => h) (Or.inr ⟨by rfl, rfl⟩) hHeld ?rstp5
        try simp only [Act.put, List.getElem_toArray, List.getElem_cons_zero, List.getElem_cons_succ, List.setIfInBounds_toArray, List.set_cons_zero, List.set_cons_succ]
        refine AUS_take (by kernel_rfl) rfl (i := 6) (oi := _) (v := undef) rfl (by kernel_rfl) (by kernel_rfl) (by kernel_rfl) (fun _ _ _ h => h) (Or.inr ⟨by rfl, rfl⟩) hHeld ?rstp6
        try simp only [Act.put, List.getElem_toArray, List.getElem_cons_zero, List.getElem_cons_succ, List.setIfInBounds_toArray, List.set_cons_zero, List.set_cons_succ]
        refine AUS_take (by kernel_rfl) rfl (i := 7) (oi := _) (v := undef) rfl (by kernel_rfl) (by kernel_rfl) (by kernel_rfl) (fun _ _ _ h => h) (Or.inr ⟨by rfl, rfl⟩) hHeld ?rstp7
        try simp only [Act.put, List.getElem_toArray, List.getElem_cons_zero, List.getElem_cons_succ, List.setIfInBounds_toArray, List.set_cons_zero, List.set_cons_succ]
        refine AUS_take (by kernel_rfl) rfl (i := 8) (oi := _) (v := undef) rfl (by kernel_rfl) (by kernel_rfl) (by kernel_rfl) (fun _ _ _ h => h) (Or.inr ⟨by rfl, rfl⟩) hHeld ?rstp8
        try simp only [Act.put, List.getElem_toArray, List.getElem_cons_zero, List.getElem_cons_succ, List.setIfInBounds_toArray, List.set_cons_zero, List.set_cons_succ]
        refine AUS_take (by kernel_rfl) rfl (i := 9) (oi := _) (v := undef) rfl (by kernel_rfl) (by kernel_rfl) (by kernel_rfl) (fun _ _ _ h => h) (Or.inr ⟨by rfl, rfl⟩) hHeld ?rstp9
        try simp only [Act.put, List.getElem_toArray, List.getElem_cons_zero, List.getElem_cons_succ, List.setIfInBounds_toArray, List.set_cons_zero, List.set_cons_succ]
        refine AUS_take (by kernel_rfl) rfl (i := 10) (oi := _) (v := undef) rfl (by kernel_rfl) (by kernel_rfl) (by kernel_rfl) (fun _ _ _ h => h) (Or.inr ⟨by rfl, rfl⟩) hHeld ?rstp10
        try simp only [Act.put, List.getElem_toArray, List.getElem_cons_zero, List.getElem_cons_succ, List.setIfInBounds_toArray, List.set_cons_zero, List.set_cons_succ]
        refine AUS_take (by kernel_rfl) rfl (i := 11) (oi := _) (v := undef) rfl (by kernel_rfl) (by kernel_rfl) (by kernel_rfl) (fun _ _ _ h => h) (Or.inr ⟨by rfl, rfl⟩) hHeld ?rstp11
        try simp only [Act.put, List.getElem_toArray, List.getElem_cons_zero, List.getElem_cons_succ, List.setIfInBounds_toArray, List.set_cons_zero, List.set_cons_succ]
        refine AUS_take (by kernel_rfl) rfl (i := 12) (oi := _) (v := undef) rfl (by kernel_rfl) (by kernel_rfl) (by kernel_rfl) (fun _ _ _ h => h) (Or.inr ⟨by rfl, rfl⟩) hHeld ?rstp12
        try simp only [Act.put, List.getElem_toArray, List.getElem_cons_zero, List.getElem_cons_succ, List.setIfInBounds_toArray, List.set_cons_zero, List.set_cons_succ]
        refine AUS_take (by kernel_rfl) rfl (i := 13) (oi := _) (v := ?vwp13) rfl (by kernel_rfl) (by kernel_rfl) (by kernel_rfl) (fun _ _ _ h => h) (Or.inl ⟨by rfl, ?hzp13⟩) hHeld ?rstp13
        case hzp13 => (intro wS hSw; clear hSw; go_simp; try with_reducible rfl)
        simp only [Act.put, List.getElem_toArray, List.getElem_cons_zero, List.getElem_cons_succ, List.setIfInBounds_toArray, List.set_cons_zero, List.set_cons_succ]
        refine AU_done (by kernel_rfl) ?_ _
        simp only [OnlyN]
        obtain ⟨W2, eW2⟩ : ∃ W2, wr.drew = W2 := ⟨_, rfl⟩
        rw [eW2] at HW ⊢
        clear eW2 hI
        have HZ := Lib.hid (And.intro HW.out.1.drew HW.out.2.drew)
        go_upto_region 6 with fail
        refine region_AU (Z := fun j => false) (S := fun _ => True) (by kernel_rfl) trivial (fun hHeld => ?_)
        refine AUS_take (by kernel_rfl) rfl (i := 0) (oi := _) (v := ?vwq0) rfl (by kernel_rfl) (by kernel_rfl) (by kernel_rfl) (fun _ _ _ h => h) (Or.inl ⟨by rfl, ?hzq0⟩) hHeld ?rstq0
        case hzq0 => (intro wS hSw; clear hSw; go_simp; try with_reducible rfl)
        simp only [Act.put, List.getElem_toArray, List.getElem_cons_zero, List.getElem_cons_succ, List.setIfInBounds_toArray, List.set_cons_zero, List.set_cons_succ]
        refine AUS_take (by kernel_rfl) rfl (i := 1) (oi := _) (v := ?vwq1) rfl (by kernel_rfl) (by kernel_rfl) (by kernel_rfl) (fun _ _ _ h => h) (Or.inl ⟨by rfl, ?hzq1⟩) hHeld ?rstq1
        case hzq1 => (intro wS hSw; clear hSw; go_simp; try with_reducible rfl)
        simp only [Act.put, List.getElem_toArray, List.getElem_cons_zero, List.getElem_cons_succ, List.setIfInBounds_toArray, List.set_cons_zero, List.set_cons_succ]
        refine AUS_take (by kernel_rfl) rfl (i := 2) (oi := _) (v := ?vwq2) rfl (by kernel_rfl) (by kernel_rfl) (by kernel_rfl) (fun _ _ _ h => h) (Or.inl ⟨by rfl, ?hzq2⟩) hHeld ?rstq2
        case hzq2 => (intro wS hSw; clear hSw; go_simp; try with_reducible rfl)
        simp only [Act.put, List.getElem_toArray, List.getElem_cons_zero, List.getElem_cons_succ, List.setIfInBounds_toArray, List.set_cons_zero, List.set_cons_succ]
        refine AUS_take (by kernel_rfl) rfl (i := 3) (oi := _) (v := ?vwq3) rfl (by kernel_rfl) (by kernel_rfl) (by kernel_rfl) (fun _ _ _ h => h) (Or.inl ⟨by rfl, ?hzq3⟩) hHeld ?rstq3
        case hzq3 => (intro wS hSw; clear hSw; go_simp; try with_reducible rfl)
        simp only [Act.put, List.getElem_toArray, List.getElem_cons_zero, List.getElem_cons_succ, List.setIfInBounds_toArray, List.set_cons_zero, List.set_cons_succ]
        refine AUS_take (by kernel_rfl) rfl (i := 4) (oi := _) (v := ?vwq4) rfl (by kernel_rfl) (by kernel_rfl) (by kernel_rfl) (fun _ _ _ h => h) (Or.inl ⟨by rfl, ?hzq4⟩) hHeld ?rstq4
        case hzq4 => (intro wS hSw; clear hSw; go_simp; try with_reducible rfl)
        simp only [Act.put, List.getElem_toArray, List.getElem_cons_zero, List.getElem_cons_succ, List.setIfInBounds_toArray, List.set_cons_zero, List.set_cons_succ]
        refine AUS_take (by kernel_rfl) rfl (i := 5) (oi := _) (v := undef) rfl (by kernel_rfl) (by kernel_rfl) (by kernel_rfl) (fun _ _ _ h => h) (Or.inr ⟨by rfl, rfl⟩) hHeld ?rstq5
        try simp only [Act.put, List.getElem_toArray, List.getElem_cons_zero, List.getElem_cons_succ, List.setIfInBounds_toArray, List.set_cons_zero, List.set_cons_succ]
        refine AUS_take (by kernel_rfl) rfl (i := 6) (oi := _) (v := undef) rfl (by kernel_rfl) (by kernel_rfl) (by kernel_rfl) (fun _ _ _ h => h) (Or.inr ⟨by rfl, rfl⟩) hHeld ?rstq6
        try simp only [Act.put, List.getElem_toArray, List.getElem_cons_zero, List.getElem_cons_succ, List.setIfInBounds_toArray, List.set_cons_zero, List.set_cons_succ]
        refine AUS_take (by kernel_rfl) rfl (i := 7) (oi := _) (v := undef) rfl (by kernel_rfl) (by kernel_rfl) (by kernel_rfl) (fun _ _ _ h => h) (Or.inr ⟨by rfl, rfl⟩) hHeld ?rstq7
        try simp only [Act.put, List.getElem_toArray, List.getElem_cons_zero, List.getElem_cons_succ, List.setIfInBounds_toArray, List.set_cons_zero, List.set_cons_succ]
        refine AUS_take (by kernel_rfl) rfl (i := 8) (oi := _) (v := undef) rfl (by kernel_rfl) (by kernel_rfl) (by kernel_rfl) (fun _ _ _ h => h) (Or.inr ⟨by rfl, rfl⟩) hHeld ?rstq8
        try simp only [Act.put, List.getElem_toArray, List.getElem_cons_zero, List.getElem_cons_succ, List.setIfInBounds_toArray, List.set_cons_zero, List.set_cons_succ]
        refine AUS_take (by kernel_rfl) rfl (i := 9) (oi := _) (v := undef) rfl (by kernel_rfl) (by kernel_rfl) (by kernel_rfl) (fun _ _ _ h => h) (Or.inr ⟨by rfl, rfl⟩) hHeld ?rstq9
        try simp only [Act.put, List.getElem_toArray, List.getElem_cons_zero, List.getElem_cons_succ, List.setIfInBounds_toArray, List.set_cons_zero, List.set_cons_succ]
        refine AUS_take (by kernel_rfl) rfl (i := 10) (oi := _) (v := undef) rfl (by kernel_rfl) (by kernel_rfl) (by kernel_rfl) (fun _ _ _ h => h) (Or.inr ⟨by rfl, rfl⟩) hHeld ?rstq10
        try simp only [Act.put, List.getElem_toArray, List.getElem_cons_zero, List.getElem_cons_succ, List.setIfInBounds_toArray, List.set_cons_zero, List.set_cons_succ]
        refine AUS_take (by kernel_rfl) rfl (i := 11) (oi := _) (v := undef) rfl (by kernel_rfl) (by kernel_rfl) (by kernel_rfl) (fun _ _ _ h => h) (Or.inr ⟨by rfl, rfl⟩) hHeld ?rstq11
        try simp only [Act.put, List.getElem_toArray, List.getElem_cons_zero, List.getElem_cons_succ, List.setIfInBounds_toArray, List.set_cons_zero, List.set_cons_succ]
        refine AUS_take (by kernel_rfl) rfl (i := 12) (oi := _) (v := undef) rfl (by kernel_rfl) (by kernel_rfl) (by kernel_rfl) (fun _ _ _ h => h) (Or.inr ⟨by rfl, rfl⟩) hHeld ?rstq12
        try simp only [Act.put, List.getElem_toArray, List.getElem_cons_zero, List.getElem_cons_succ, List.setIfInBounds_toArray, List.set_cons_zero, List.set_cons_succ]
        refine AUS_take (by kernel_rfl) rfl (i := 13) (oi := _) (v := ?vwq13) rfl (by kernel_rfl) (by kernel_rfl) (by kernel_rfl) (fun _ _ _ h => h) (Or.inl ⟨by rfl, ?hzq13⟩) hHeld ?rstq13
        case hzq13 => (intro wS hSw; clear hSw; go_simp; try with_reducible rfl)
        simp only [Act.put, List.getElem_toArray, List.getElem_cons_zero, List.getElem_cons_succ, List.setIfInBounds_toArray, List.set_cons_zero, List.set_cons_succ]
        refine AU_done (by kernel_rfl) ?_ _
        simp only [OnlyN]
        obtain ⟨W3, eW3⟩ : ∃ W3, W2.drew = W3 := ⟨_, rfl⟩
        rw [eW3] at HZ ⊢
        clear eW3 HW
        have hkl : k ≤ l := hk
        clear hlt hk hg
        by_cases h16 : l ≥ 16
        · have h16' : (l : Int) ≥ 16 := by omega
          have h16'' : (16 : Int) ≤ l := h16'
          have HX : Hid (us.length = 16) := Lib.hid (by have := HM.out.2.2.1; have := HL.out; omega)
          go_wp2_with fail
          go_ret2
          exact ⟨.inr (.inl ⟨HV.out, HO.out, HX.out, rfl⟩), HZ.out.2⟩
        · have h16' : ¬ (l : Int) ≥ 16 := by omega
          have h16'' : ¬ (16 : Int) ≤ l := h16'
          have HX : Hid (us.length < 16) := Lib.hid (by have := HL.out; omega)
          obtain ⟨hc, hcm, _, _⟩ := HM.out
          have hc' : c ≤ 9223372036854775807 := hcm
          have i3 : (k : Int) ≤ c := by omega
          have i4 : (k : Int) ≤ l := by omega
          have i5 : (l : Int) ≤ c := by omega
          obtain ⟨z0, z1, z2, z3, z4⟩ := HZ.out.1
          simp only [] at z0 z1 z2 z3 z4
          obtain ⟨W1, eW1⟩ : ∃ W1, ((W3.alloc (blkM ⟨a, s, f, n, wt⟩)).alloc (Obj.cells #[.slice A k c, .slice (some ⟨W3.heap.size, 0, none⟩) 1 1, .slice (if c = k then A else (A.map fun x => x.add (k * 5))) (l - k) (c - k)] 22)).drew = W1 := ⟨_, rfl⟩
          have hbw : Below W3.heap.size W3 W1 := by
            have b1 := below_alloc1 W3 (blkM ⟨a, s, f, n, wt⟩)
            rw [← eW1]; exact (b1.alloc b1.size _).drew
          have hrw : W1.heap[W3.heap.size]? = some (blkM ⟨a, s, f, n, wt⟩) := by
            rw [← eW1]
            exact ((below_alloc1 (W3.alloc (blkM ⟨a, s, f, n, wt⟩)) _).block W3.heap.size (by simp)).trans (heap_alloc_new W3 _)
          have hrow : W1.heap[W3.heap.size + 1]? = some (Obj.cells #[.slice A k c, .slice (some ⟨W3.heap.size, 0, none⟩) 1 1, .slice (if c = k then A else (A.map fun x => x.add (k * 5))) (l - k) (c - k)] 22) := by
            rw [← eW1]
            have := heap_alloc_new (W3.alloc (blkM ⟨a, s, f, n, wt⟩)) (Obj.cells #[.slice A k c, .slice (some ⟨W3.heap.size, 0, none⟩) 1 1, .slice (if c = k then A else (A.map fun x => x.add (k * 5))) (l - k) (c - k)] 22)
            rwa [show (W3.alloc (blkM ⟨a, s, f, n, wt⟩)).heap.size = W3.heap.size + 1 from by simp] at this
          have d0 : W1.cell? ⟨W3.heap.size + 1, 0, none⟩ = some (.slice A k c) := by rw [cell_of_row _ _ 0 _ _ _ hrow]; rfl
          have d1 : W1.cell? ⟨W3.heap.size + 1, 1, none⟩ = some (.slice (some ⟨W3.heap.size, 0, none⟩) 1 1) := by rw [cell_of_row _ _ 1 _ _ _ hrow]; rfl
          have d2 : W1.cell? ⟨W3.heap.size + 1, 2, none⟩ = some (.slice (if c = k then A else (A.map fun x => x.add (k * 5))) (l - k) (c - k)) := by rw [cell_of_row _ _ 2 _ _ _ hrow]; rfl
          have hlv := HR.out.below (below_up HZ.out.2 hbw)
          have hr1 : LV 5 encM W1 A (us.take k) := LV.take hlv k
          have hr2 : LV 5 encM W1 (if c = k then A else (A.map fun x => x.add (k * 5))) (us.drop k) := by
            have := LV.drop hlv (k := k) (c := c) (by rw [HL.out]; exact hc)
            first | exact this | simpa only [Option.map_some, addr_add] using this
          have hr3 : LV 5 encM W1 (some ⟨W3.heap.size, 0, none⟩) [(⟨a, s, f, n, wt⟩ : Mp)] := lv_one hrw
          have hHL := HL.out
          have lt1 : (us.take k).length = k := by rw [List.length_take]; omega
          have ld1 : (us.drop k).length = l - k := by rw [List.length_drop]; omega
          have CC := concat_any (W3.heap.size + 1) 3 (fun j => if j = 0 then A else if j = 1 then some ⟨W3.heap.size, 0, none⟩ else (if c = k then A else (A.map fun x => x.add (k * 5)))) (fun j => if j = 0 then k else if j = 1 then 1 else l - k) (fun j => if j = 0 then c else if j = 1 then 1 else c - k) (fun j => if j = 0 then us.take k else if j = 1 then [(⟨a, s, f, n, wt⟩ : Mp)] else us.drop k) W1 (by omega) (fun j hj => by
            match j, hj with
            | 0, _ => exact ⟨d0, lt1, by show k ≤ c; omega, hr1⟩
            | 1, _ => exact ⟨d1, rfl, Nat.le_refl _, hr3⟩
            | 2, _ => exact ⟨d2, ld1, by show l - k ≤ c - k; omega, hr2⟩) (by
            show ((([] ++ us.take k) ++ [(⟨a, s, f, n, wt⟩ : Mp)]) ++ us.drop k).length ≤ 1000
            rw [List.length_append, List.length_append, List.nil_append, lt1, ld1, List.length_singleton]; omega)
          have HCC := Lib.hid (show Calls Try.prog 18 #[.slice (some ⟨W3.heap.size + 1, 0, none⟩) 3 3] W1 (fun e w' => ∃ v, e = .returned v ∧ RV (fun b => W1.heap.size ≤ b) 26 5 encM w' v (us.take k ++ ⟨a, s, f, n, wt⟩ :: us.drop k) ∧ Below W1.heap.size W1 w') by
            have := CC
            simpa [cat] using this)
          have HB1 := Lib.hid (below_up HZ.out.2 hbw)
          clear hbw hrw hrow d0 d1 d2 hlv hr1 hr2 hr3 hHL lt1 ld1 CC
          go_upto_region 10 with fail
          go_region_law (first
            | (go_simp
               go_at_call 18
               refine HCC.out.mono ?_; rintro e w2 ⟨v, rfl, hv, hb⟩
               have HV2 := Lib.hid (And.intro hv hb)
               clear hv hb))
          go_wp2_with fail
          all_goals
            go_ret2
            exact ⟨.inr (.inr ⟨HV.out, HO.out, HX.out, v, _, rfl, HV2.out.1.keep fun b cur hb _ => ⟨Nat.le_trans HB1.out.size hb, rfl⟩, HM.out.2.2.2.put hx.out HO.out HOK.out (fun y hy => by have := HK.out y hy; show ¬ y.a + y.n ≤ a; omega), put_perm _ _ _⟩), below_up HB1.out HV2.out.2⟩
end Go.Proofs.Ytbjegfkjibfadaa
