/- Fresh; same. -/
import Derived.Test.YtmbdglhihakkjaaQe
import Derived.Test.YtmbdglhihakkjaaQg
set_option linter.unusedVariables false
set_option linter.unusedSimpArgs false
namespace Go.Proofs.Ytmbdglhihakkjaa
open Go.RowKit
set_option linter.unusedVariables false
set_option linter.unusedSimpArgs false
theorem results_who {fn : Func} {p u : Tmp} {ty : TypeId} {P : Program} (h : fn.results = #[.cell p ty, .tmp u]) (tmps : Array Value) (w : World) (g : Nat) (cs : Array Value)
    (hp : tmps.getD p undef = .pointer (some ⟨g, 0, none⟩)) (hl : (loadVar ty ⟨g, 0, none⟩).run P w = .ok (.agg cs) w) :
    (results fn tmps).run P w = .ok (.tuple #[.agg cs, tmps.getD u undef]) w := by
  have hp' : tmps[p]?.getD undef = .pointer (some ⟨g, 0, none⟩) := by simpa using hp
  simp [results, h, hp', asAddr, hl, Array.getD_eq_getD_getElem?, Result.andThen]
def LE (k : Nat) (w : World) (D : Int) (a : Option Addr) (n c : Nat) (P : LP) : Prop := ∃ B, LO k B w D a n c P
theorem LO.le {k B : Nat} {w : World} {D : Int} {a : Option Addr} {n c : Nat} {P : LP} (h : LO k B w D a n c P) : LE k w D a n c P := ⟨B, h⟩
theorem infoP : (Try.prog.info? 32).map (·.size) = some 4 := by kernel_rfl
theorem infoR : (Try.prog.info? 33).map (·.size) = some 4 := by kernel_rfl
/-- Two labels and a Bool. -/
def WM (W : World) (D : Int) (P : LP) (E : Int) (Q : LP) (r : Bool) (e : Ending) (w' : World) : Prop := ∃ a n c b m d, e = .returned (.tuple #[.agg #[.int .i64 D, .slice a n c, .int .i64 E, .slice b m d], .bool r]) ∧ LA 201 w' D a n c P ∧ LA 201 w' E b m d Q ∧ Below W.heap.size W w'
set_option maxHeartbeats 2000000 in
set_option maxRecDepth 100000 in
theorem fresh_m {w : World} {D0 : Int} {a0 : Option Addr} {n0 c0 : Nat} {P0 : LP} {D1 : Int} {a1 : Option Addr} {n1 c1 : Nat} {P1 : LP} (h0 : LA 100 w D0 a0 n0 c0 P0) (h1 : LA 100 w D1 a1 n1 c1 P1) {x : Nat} (hx1 : 1 ≤ x) (hx2 : x < 4294967296) : Calls Try.prog 29 #[.agg #[.int .i64 D0, .slice a0 n0 c0, .int .i64 D1, .slice a1 n1 c1], .int .u32 (x : Nat)] w (WM w D0 (Lab.put D0 P0 x 0) D1 (Lab.put D1 P1 x 4) (fr D0 P0 D1 P1 x)) := by
  obtain ⟨W0, e0⟩ : ∃ W0, W0 = ((w.alloc (Obj.cells #[.int .i64 D0, .slice a0 n0 c0, .int .i64 D1, .slice a1 n1 c1] 32)).alloc (Obj.cells #[.int .i64 0, .slice none 0 0, .int .i64 0, .slice none 0 0] 32)) := ⟨_, rfl⟩
  have hB : Below w.heap.size w W0 := by rw [e0]; exact (((Below.refl w.heap.size w).alloc (by omega) _).alloc (by simp <;> omega) _)
  have hk0 : W0.heap[w.heap.size]? = some (Obj.cells #[.int .i64 D0, .slice a0 n0 c0, .int .i64 D1, .slice a1 n1 c1] 32) := by
    rw [e0]
    rw [Below.heap_alloc _ _ _ (by simp <;> omega)]
    have := heap_alloc_new w (Obj.cells #[.int .i64 D0, .slice a0 n0 c0, .int .i64 D1, .slice a1 n1 c1] 32); simpa using this
  have hk1 : W0.heap[w.heap.size + 1]? = some (Obj.cells #[.int .i64 0, .slice none 0 0, .int .i64 0, .slice none 0 0] 32) := by
    rw [e0]
    have := heap_alloc_new (w.alloc (Obj.cells #[.int .i64 D0, .slice a0 n0 c0, .int .i64 D1, .slice a1 n1 c1] 32)) (Obj.cells #[.int .i64 0, .slice none 0 0, .int .i64 0, .slice none 0 0] 32); simpa using this
  have HS := Lib.hid (fun (wx : World) (hx : Below W0.heap.size W0 wx) => (by
      have hw : Below w.heap.size w wx := hB.trans (hx.mono hB.size)
      have r0 := (hx.block _ (Array.getElem?_eq_some_iff.1 hk0).1).trans hk0
      have r1 := (hx.block _ (Array.getElem?_eq_some_iff.1 hk1).1).trans hk1
      exact ⟨hw, by rw [cell_of_row _ _ 0 _ 32 (0, 0) r0]; rfl, by rw [cell_of_row _ _ 1 _ 32 (0, 0) r0]; rfl, by rw [cell_of_row _ _ 2 _ 32 (0, 0) r0]; rfl, by rw [cell_of_row _ _ 3 _ 32 (0, 0) r0]; rfl, h0.below hw, h1.below hw⟩ : Below w.heap.size w wx ∧ wx.cell? ⟨w.heap.size, 0, none⟩ = some (.int .i64 D0) ∧ wx.cell? ⟨w.heap.size, 1, none⟩ = some (.slice a0 n0 c0) ∧ wx.cell? ⟨w.heap.size, 2, none⟩ = some (.int .i64 D1) ∧ wx.cell? ⟨w.heap.size, 3, none⟩ = some (.slice a1 n1 c1) ∧ LA 100 wx D0 a0 n0 c0 P0 ∧ LA 100 wx D1 a1 n1 c1 P1))
  have HRES := Lib.hid (fun (wx : World) (hx : Below W0.heap.size W0 wx) => ((hx.block _ (Array.getElem?_eq_some_iff.1 hk1).1).trans hk1 : wx.heap[w.heap.size + 1]? = some (Obj.cells #[.int .i64 0, .slice none 0 0, .int .i64 0, .slice none 0 0] 32)))
  clear h0 h1 hB hk0 hk1
  go_enter Try.func29, Try.ntmps29
  go_upto_region 1 with fail
  rw [← e0]
  clear e0
  have hHeld := Below.refl W0.heap.size W0
  go_cut [6, 7, 8, 9, 10, 11, 12, 13, 14, 15] (fun s6 s7 s8 s9 s10 s11 s12 s13 s14 s15 wx => ∃ A a9 n9 c9 a10 n10 c10, s6 = .pointer (some ⟨A, 0, none⟩) ∧ Hid (wx.heap[A]? = some (Obj.cells #[.int .i64 D0, .slice a9 n9 c9, .int .i64 D1, .slice a10 n10 c10] 32) ∧ LE 201 wx D0 a9 n9 c9 (Lab.put D0 P0 x 0) ∧ LE 201 wx D1 a10 n10 c10 (Lab.put D1 P1 x 4) ∧ Below W0.heap.size W0 wx ∧ W0.heap.size ≤ A))
  case first =>
    refine region_AU (Z := fun j => false) (S := fun w' => Below W0.heap.size W0 w') (by kernel_rfl) (hHeld.drew) (fun hHeld => ?_)
    obtain ⟨wd1, ewd⟩ : ∃ wd, wd = W0.drew := ⟨_, rfl⟩
    rw [← ewd] at hHeld ⊢
    clear ewd
    refine AUS_take (by kernel_rfl) rfl (i := 0) (oi := _) (v := ?vw1) rfl (by kernel_rfl) (by kernel_rfl) (by kernel_rfl) (fun _ _ _ h => h) (Or.inl ⟨by rfl, ?hz1⟩) hHeld ?rst1
    case hz1 => (intro wS hSw; obtain ⟨_, f0, f1, f2, f3, _, _⟩ := HS.out wS hSw; clear hSw; go_simp; try with_reducible rfl)
    simp only [Act.put, List.getElem_toArray, List.getElem_cons_zero, List.getElem_cons_succ, List.setIfInBounds_toArray, List.set_cons_zero, List.set_cons_succ]
    refine AUS_take (by kernel_rfl) rfl (i := 1) (oi := _) (v := ?vw2) rfl (by kernel_rfl) (by kernel_rfl) (by kernel_rfl) (fun _ _ _ h => h) (Or.inl ⟨by rfl, ?hz2⟩) hHeld ?rst2
    case hz2 => (intro wS hSw; obtain ⟨_, f0, f1, f2, f3, _, _⟩ := HS.out wS hSw; clear hSw; go_simp; try with_reducible rfl)
    simp only [Act.put, List.getElem_toArray, List.getElem_cons_zero, List.getElem_cons_succ, List.setIfInBounds_toArray, List.set_cons_zero, List.set_cons_succ]
    refine AUS_take (by kernel_rfl) rfl (i := 2) (oi := _) (v := ?vw3) rfl (by kernel_rfl) (by kernel_rfl) (by kernel_rfl) (fun _ _ _ h => h) (Or.inl ⟨by rfl, ?hz3⟩) hHeld ?rst3
    case hz3 => (intro wS hSw; obtain ⟨_, f0, f1, f2, f3, _, _⟩ := HS.out wS hSw; clear hSw; go_simp; try with_reducible rfl)
    simp only [Act.put, List.getElem_toArray, List.getElem_cons_zero, List.getElem_cons_succ, List.setIfInBounds_toArray, List.set_cons_zero, List.set_cons_succ]
    refine AUS_take (by kernel_rfl) rfl (i := 4) (oi := _) (v := ?vw4) rfl (by kernel_rfl) (by kernel_rfl) (by kernel_rfl) (fun _ _ _ h => h) (Or.inl ⟨by rfl, ?hz4⟩) hHeld ?rst4
    case hz4 => (intro wS hSw; obtain ⟨_, f0, f1, f2, f3, _, _⟩ := HS.out wS hSw; clear hSw; go_simp; try with_reducible rfl)
    simp only [Act.put, List.getElem_toArray, List.getElem_cons_zero, List.getElem_cons_succ, List.setIfInBounds_toArray, List.set_cons_zero, List.set_cons_succ]
    refine AUS_take (by kernel_rfl) rfl (i := 5) (oi := _) (v := ?vw5) rfl (by kernel_rfl) (by kernel_rfl) (by kernel_rfl) (fun _ _ _ h => h) (Or.inl ⟨by rfl, ?hz5⟩) hHeld ?rst5
    case hz5 => (intro wS hSw; obtain ⟨_, f0, f1, f2, f3, _, _⟩ := HS.out wS hSw; clear hSw; go_simp; try with_reducible rfl)
    simp only [Act.put, List.getElem_toArray, List.getElem_cons_zero, List.getElem_cons_succ, List.setIfInBounds_toArray, List.set_cons_zero, List.set_cons_succ]
    refine AUS_take (by kernel_rfl) rfl (i := 6) (oi := _) (v := ?vw6) rfl (by kernel_rfl) (by kernel_rfl) (by kernel_rfl) (fun _ _ _ h => h) (Or.inl ⟨by rfl, ?hz6⟩) hHeld ?rst6
    case hz6 => (intro wS hSw; obtain ⟨_, f0, f1, f2, f3, _, _⟩ := HS.out wS hSw; clear hSw; go_simp; try with_reducible rfl)
    simp only [Act.put, List.getElem_toArray, List.getElem_cons_zero, List.getElem_cons_succ, List.setIfInBounds_toArray, List.set_cons_zero, List.set_cons_succ]
    refine AU_two (i := 3) (j := 9) (oi := _) (oj := _) (by kernel_rfl) rfl rfl (fun K hK => ?_) (fun K hK => ?_)
    · skip
      have HH := Lib.hid hHeld
      obtain ⟨hbw, _, _, _, _, g0, g1⟩ := HS.out _ hHeld
      have CC := Lib.hid (with_m x 0 g0 hx1 hx2 (by omega))
      clear hHeld hbw g0 g1
      go_simp
      refine CC.out.mono ?_
      clear CC
      rintro e wz1 ⟨a2, n2, c2, rfl, l2, hb⟩
      have hHeld := HH.out.trans (hb.mono HH.out.size)
      clear HH hb
      refine hK.out _ _ (fun _ => hHeld) ?_
      clear hK K
      try simp only [Act.put, List.getElem_toArray, List.getElem_cons_zero, List.getElem_cons_succ, List.setIfInBounds_toArray, List.set_cons_zero, List.set_cons_succ]
      refine AU_two (i := 7) (j := 9) (oi := _) (oj := _) (by kernel_rfl) rfl rfl (fun K hK => ?_) (fun K hK => ?_)
      · skip
        have HH := Lib.hid hHeld
        obtain ⟨hbw, _, _, _, _, g0, g1⟩ := HS.out _ hHeld
        have CC := Lib.hid (with_m x 4 g1 hx1 hx2 (by omega))
        clear hHeld hbw g0 g1
        go_simp
        refine CC.out.mono ?_
        clear CC
        rintro e wz2 ⟨a3, n3, c3, rfl, l3, hb⟩
        have hHeld := HH.out.trans (hb.mono HH.out.size)
        replace l2 := l2.below hb
        clear HH hb
        refine hK.out _ _ (fun _ => hHeld) ?_
        clear hK K
        try simp only [Act.put, List.getElem_toArray, List.getElem_cons_zero, List.getElem_cons_succ, List.setIfInBounds_toArray, List.set_cons_zero, List.set_cons_succ]
        refine AUS_take (by kernel_rfl) rfl (i := 8) (oi := _) (v := ?vw7) rfl (by kernel_rfl) (by kernel_rfl) (by kernel_rfl) (fun _ _ _ h => h) (Or.inl ⟨by rfl, ?hz7⟩) hHeld ?rst7
        case hz7 => (intro wS hSw; obtain ⟨_, f0, f1, f2, f3, _, _⟩ := HS.out wS hSw; clear hSw; go_simp; try with_reducible rfl)
        simp only [Act.put, List.getElem_toArray, List.getElem_cons_zero, List.getElem_cons_succ, List.setIfInBounds_toArray, List.set_cons_zero, List.set_cons_succ]
        have HH := Lib.hid hHeld
        have hn3 := heap_alloc_new wz2 (Obj.cells #[.int .i64 0, .slice none 0 0, .int .i64 0, .slice none 0 0] 32)
        have hb := below_alloc1 wz2 (Obj.cells #[.int .i64 0, .slice none 0 0, .int .i64 0, .slice none 0 0] 32)
        refine AU_one (i := 9) (o := _) (by kernel_rfl) rfl (fun K hK => ?_)
        clear hHeld
        go_simp
        have hHeld := HH.out.trans (hb.mono HH.out.size)
        replace l2 := l2.below hb
        replace l3 := l3.below hb
        have hge3 := HH.out.size
        clear hb HH
        obtain ⟨wa3, ewa⟩ : ∃ wa, wa = wz2.alloc (Obj.cells #[.int .i64 0, .slice none 0 0, .int .i64 0, .slice none 0 0] 32) := ⟨_, rfl⟩
        rw [← ewa] at hn3 hHeld l2 l3 ⊢
        obtain ⟨A3, eA⟩ : ∃ A, A = wz2.heap.size := ⟨_, rfl⟩
        rw [← eA] at hn3 hge3 ⊢
        clear ewa eA
        refine hK.out _ _ (fun _ => hHeld) ?_
        clear hK K
        try simp only [Act.put, List.getElem_toArray, List.getElem_cons_zero, List.getElem_cons_succ, List.setIfInBounds_toArray, List.set_cons_zero, List.set_cons_succ]
        have HH := Lib.hid hHeld
        obtain ⟨⟨s0, s1, s2, s3⟩, ⟨s5, s6, s7, s8⟩, s4⟩ := old4 wa3 A3 32 _ _ _ _ (.int .i64 (D0)) (.slice a2 n2 c2) (.int .i64 (D1)) (.slice a3 n3 c3) hn3
        replace l2 := l2.set4 hn3 (by decide) (.int .i64 (D0)) (.slice a2 n2 c2) (.int .i64 (D1)) (.slice a3 n3 c3)
        replace l3 := l3.set4 hn3 (by decide) (.int .i64 (D0)) (.slice a2 n2 c2) (.int .i64 (D1)) (.slice a3 n3 c3)
        have hHeld2 := below_set4 HH.out hge3 (.int .i64 (D0)) (.slice a2 n2 c2) (.int .i64 (D1)) (.slice a3 n3 c3)
        have S4 := Lib.hid s4
        refine AU_one (i := 10) (o := _) (by kernel_rfl) rfl (fun K hK => ?_)
        clear hHeld s4 hn3
        go_simp
        obtain ⟨ws3, ews⟩ : ∃ ws, set4 wa3 A3 (.int .i64 (D0)) (.slice a2 n2 c2) (.int .i64 (D1)) (.slice a3 n3 c3) = ws := ⟨_, rfl⟩
        have ews2 : ((((wa3.setCell ⟨A3, 0, none⟩ (.int .i64 (D0))).setCell ⟨A3, 1, none⟩ (.slice a2 n2 c2)).setCell ⟨A3, 2, none⟩ (.int .i64 (D1))).setCell ⟨A3, 3, none⟩ (.slice a3 n3 c3)) = ws3 := ews
        have hn3 : (set4 wa3 A3 (.int .i64 (D0)) (.slice a2 n2 c2) (.int .i64 (D1)) (.slice a3 n3 c3)).heap[A3]? = some (Obj.cells #[.int .i64 (D0), .slice a2 n2 c2, .int .i64 (D1), .slice a3 n3 c3] 32) := S4.out
        rw [ews] at hHeld2 hn3 l2 l3
        rw [ews2]
        have hHeld := hHeld2
        clear hHeld2 S4 HH ews ews2 s0 s1 s2 s3 s5 s6 s7 s8
        refine hK.out _ _ (fun _ => hHeld) ?_
        clear hK K
        try simp only [Act.put, List.getElem_toArray, List.getElem_cons_zero, List.getElem_cons_succ, List.setIfInBounds_toArray, List.set_cons_zero, List.set_cons_succ]
        have HE := Lib.hid hHeld
        clear hHeld
        refine AU_done (by kernel_rfl) ?_ _
        simp only [OnlyN]
        have hHeld := HE.out
        clear HE
        have HF := Lib.hid (And.intro hn3 (And.intro (LO.le (k := 201) l2) (And.intro (LO.le (k := 201) l3) (And.intro hHeld hge3))))
        clear hHeld hn3 l2 l3
        go_wp2_with fail
        go_meet
        exact ⟨_, _, _, _, _, _, _, rfl, HF⟩
      · skip
        have HH := Lib.hid hHeld
        have hn4 := heap_alloc_new wz1 (Obj.cells #[.int .i64 0, .slice none 0 0, .int .i64 0, .slice none 0 0] 32)
        have hb := below_alloc1 wz1 (Obj.cells #[.int .i64 0, .slice none 0 0, .int .i64 0, .slice none 0 0] 32)
        clear hHeld
        go_simp
        have hHeld := HH.out.trans (hb.mono HH.out.size)
        replace l2 := l2.below hb
        have hge4 := HH.out.size
        clear hb HH
        obtain ⟨wa4, ewa⟩ : ∃ wa, wa = wz1.alloc (Obj.cells #[.int .i64 0, .slice none 0 0, .int .i64 0, .slice none 0 0] 32) := ⟨_, rfl⟩
        rw [← ewa] at hn4 hHeld l2 ⊢
        obtain ⟨A4, eA⟩ : ∃ A, A = wz1.heap.size := ⟨_, rfl⟩
        rw [← eA] at hn4 hge4 ⊢
        clear ewa eA
        refine hK.out _ _ (fun _ => hHeld) ?_
        clear hK K
        try simp only [Act.put, List.getElem_toArray, List.getElem_cons_zero, List.getElem_cons_succ, List.setIfInBounds_toArray, List.set_cons_zero, List.set_cons_succ]
        have HH := Lib.hid hHeld
        obtain ⟨hbw, _, _, _, _, g0, g1⟩ := HS.out _ hHeld
        refine AU_one (i := 7) (o := _) (by kernel_rfl) rfl (fun K hK => ?_)
        have CC := Lib.hid (with_m x 4 g1 hx1 hx2 (by omega))
        clear hHeld hbw g0 g1
        go_simp
        refine CC.out.mono ?_
        clear CC
        rintro e wz5 ⟨a4, n4, c4, rfl, l4, hb⟩
        have hHeld := HH.out.trans (hb.mono HH.out.size)
        replace l2 := l2.below hb
        replace hn4 := block_below hn4 hb
        clear HH hb
        refine hK.out _ _ (fun _ => hHeld) ?_
        clear hK K
        try simp only [Act.put, List.getElem_toArray, List.getElem_cons_zero, List.getElem_cons_succ, List.setIfInBounds_toArray, List.set_cons_zero, List.set_cons_succ]
        refine AUS_take (by kernel_rfl) rfl (i := 8) (oi := _) (v := ?vw8) rfl (by kernel_rfl) (by kernel_rfl) (by kernel_rfl) (fun _ _ _ h => h) (Or.inl ⟨by rfl, ?hz8⟩) hHeld ?rst8
        case hz8 => (intro wS hSw; obtain ⟨_, f0, f1, f2, f3, _, _⟩ := HS.out wS hSw; clear hSw; go_simp; try with_reducible rfl)
        simp only [Act.put, List.getElem_toArray, List.getElem_cons_zero, List.getElem_cons_succ, List.setIfInBounds_toArray, List.set_cons_zero, List.set_cons_succ]
        have HH := Lib.hid hHeld
        obtain ⟨⟨s0, s1, s2, s3⟩, ⟨s5, s6, s7, s8⟩, s4⟩ := old4 wz5 A4 32 _ _ _ _ (.int .i64 (D0)) (.slice a2 n2 c2) (.int .i64 (D1)) (.slice a4 n4 c4) hn4
        replace l2 := l2.set4 hn4 (by decide) (.int .i64 (D0)) (.slice a2 n2 c2) (.int .i64 (D1)) (.slice a4 n4 c4)
        replace l4 := l4.set4 hn4 (by decide) (.int .i64 (D0)) (.slice a2 n2 c2) (.int .i64 (D1)) (.slice a4 n4 c4)
        have hHeld2 := below_set4 HH.out hge4 (.int .i64 (D0)) (.slice a2 n2 c2) (.int .i64 (D1)) (.slice a4 n4 c4)
        have S4 := Lib.hid s4
        refine AU_one (i := 10) (o := _) (by kernel_rfl) rfl (fun K hK => ?_)
        clear hHeld s4 hn4
        go_simp
        obtain ⟨ws4, ews⟩ : ∃ ws, set4 wz5 A4 (.int .i64 (D0)) (.slice a2 n2 c2) (.int .i64 (D1)) (.slice a4 n4 c4) = ws := ⟨_, rfl⟩
        have ews2 : ((((wz5.setCell ⟨A4, 0, none⟩ (.int .i64 (D0))).setCell ⟨A4, 1, none⟩ (.slice a2 n2 c2)).setCell ⟨A4, 2, none⟩ (.int .i64 (D1))).setCell ⟨A4, 3, none⟩ (.slice a4 n4 c4)) = ws4 := ews
        have hn4 : (set4 wz5 A4 (.int .i64 (D0)) (.slice a2 n2 c2) (.int .i64 (D1)) (.slice a4 n4 c4)).heap[A4]? = some (Obj.cells #[.int .i64 (D0), .slice a2 n2 c2, .int .i64 (D1), .slice a4 n4 c4] 32) := S4.out
        rw [ews] at hHeld2 hn4 l2 l4
        rw [ews2]
        have hHeld := hHeld2
        clear hHeld2 S4 HH ews ews2 s0 s1 s2 s3 s5 s6 s7 s8
        refine hK.out _ _ (fun _ => hHeld) ?_
        clear hK K
        try simp only [Act.put, List.getElem_toArray, List.getElem_cons_zero, List.getElem_cons_succ, List.setIfInBounds_toArray, List.set_cons_zero, List.set_cons_succ]
        have HE := Lib.hid hHeld
        clear hHeld
        refine AU_done (by kernel_rfl) ?_ _
        simp only [OnlyN]
        have hHeld := HE.out
        clear HE
        have HF := Lib.hid (And.intro hn4 (And.intro (LO.le (k := 201) l2) (And.intro (LO.le (k := 201) l4) (And.intro hHeld hge4))))
        clear hHeld hn4 l2 l4
        go_wp2_with fail
        go_meet
        exact ⟨_, _, _, _, _, _, _, rfl, HF⟩
    · skip
      have HH := Lib.hid hHeld
      have hn6 := heap_alloc_new wd1 (Obj.cells #[.int .i64 0, .slice none 0 0, .int .i64 0, .slice none 0 0] 32)
      have hb := below_alloc1 wd1 (Obj.cells #[.int .i64 0, .slice none 0 0, .int .i64 0, .slice none 0 0] 32)
      clear hHeld
      go_simp
      have hHeld := HH.out.trans (hb.mono HH.out.size)
      have hge6 := HH.out.size
      clear hb HH
      obtain ⟨wa6, ewa⟩ : ∃ wa, wa = wd1.alloc (Obj.cells #[.int .i64 0, .slice none 0 0, .int .i64 0, .slice none 0 0] 32) := ⟨_, rfl⟩
      rw [← ewa] at hn6 hHeld ⊢
      obtain ⟨A6, eA⟩ : ∃ A, A = wd1.heap.size := ⟨_, rfl⟩
      rw [← eA] at hn6 hge6 ⊢
      clear ewa eA
      refine hK.out _ _ (fun _ => hHeld) ?_
      clear hK K
      try simp only [Act.put, List.getElem_toArray, List.getElem_cons_zero, List.getElem_cons_succ, List.setIfInBounds_toArray, List.set_cons_zero, List.set_cons_succ]
      have HH := Lib.hid hHeld
      obtain ⟨hbw, _, _, _, _, g0, g1⟩ := HS.out _ hHeld
      refine AU_one (i := 3) (o := _) (by kernel_rfl) rfl (fun K hK => ?_)
      have CC := Lib.hid (with_m x 0 g0 hx1 hx2 (by omega))
      clear hHeld hbw g0 g1
      go_simp
      refine CC.out.mono ?_
      clear CC
      rintro e wz7 ⟨a5, n5, c5, rfl, l5, hb⟩
      have hHeld := HH.out.trans (hb.mono HH.out.size)
      replace hn6 := block_below hn6 hb
      clear HH hb
      refine hK.out _ _ (fun _ => hHeld) ?_
      clear hK K
      try simp only [Act.put, List.getElem_toArray, List.getElem_cons_zero, List.getElem_cons_succ, List.setIfInBounds_toArray, List.set_cons_zero, List.set_cons_succ]
      have HH := Lib.hid hHeld
      obtain ⟨hbw, _, _, _, _, g0, g1⟩ := HS.out _ hHeld
      refine AU_one (i := 7) (o := _) (by kernel_rfl) rfl (fun K hK => ?_)
      have CC := Lib.hid (with_m x 4 g1 hx1 hx2 (by omega))
      clear hHeld hbw g0 g1
      go_simp
      refine CC.out.mono ?_
      clear CC
      rintro e wz8 ⟨a6, n6, c6, rfl, l6, hb⟩
      have hHeld := HH.out.trans (hb.mono HH.out.size)
      replace l5 := l5.below hb
      replace hn6 := block_below hn6 hb
      clear HH hb
      refine hK.out _ _ (fun _ => hHeld) ?_
      clear hK K
      try simp only [Act.put, List.getElem_toArray, List.getElem_cons_zero, List.getElem_cons_succ, List.setIfInBounds_toArray, List.set_cons_zero, List.set_cons_succ]
      refine AUS_take (by kernel_rfl) rfl (i := 8) (oi := _) (v := ?vw9) rfl (by kernel_rfl) (by kernel_rfl) (by kernel_rfl) (fun _ _ _ h => h) (Or.inl ⟨by rfl, ?hz9⟩) hHeld ?rst9
      case hz9 => (intro wS hSw; obtain ⟨_, f0, f1, f2, f3, _, _⟩ := HS.out wS hSw; clear hSw; go_simp; try with_reducible rfl)
      simp only [Act.put, List.getElem_toArray, List.getElem_cons_zero, List.getElem_cons_succ, List.setIfInBounds_toArray, List.set_cons_zero, List.set_cons_succ]
      have HH := Lib.hid hHeld
      obtain ⟨⟨s0, s1, s2, s3⟩, ⟨s5, s6, s7, s8⟩, s4⟩ := old4 wz8 A6 32 _ _ _ _ (.int .i64 (D0)) (.slice a5 n5 c5) (.int .i64 (D1)) (.slice a6 n6 c6) hn6
      replace l5 := l5.set4 hn6 (by decide) (.int .i64 (D0)) (.slice a5 n5 c5) (.int .i64 (D1)) (.slice a6 n6 c6)
      replace l6 := l6.set4 hn6 (by decide) (.int .i64 (D0)) (.slice a5 n5 c5) (.int .i64 (D1)) (.slice a6 n6 c6)
      have hHeld2 := below_set4 HH.out hge6 (.int .i64 (D0)) (.slice a5 n5 c5) (.int .i64 (D1)) (.slice a6 n6 c6)
      have S4 := Lib.hid s4
      refine AU_one (i := 10) (o := _) (by kernel_rfl) rfl (fun K hK => ?_)
      clear hHeld s4 hn6
      go_simp
      obtain ⟨ws6, ews⟩ : ∃ ws, set4 wz8 A6 (.int .i64 (D0)) (.slice a5 n5 c5) (.int .i64 (D1)) (.slice a6 n6 c6) = ws := ⟨_, rfl⟩
      have ews2 : ((((wz8.setCell ⟨A6, 0, none⟩ (.int .i64 (D0))).setCell ⟨A6, 1, none⟩ (.slice a5 n5 c5)).setCell ⟨A6, 2, none⟩ (.int .i64 (D1))).setCell ⟨A6, 3, none⟩ (.slice a6 n6 c6)) = ws6 := ews
      have hn6 : (set4 wz8 A6 (.int .i64 (D0)) (.slice a5 n5 c5) (.int .i64 (D1)) (.slice a6 n6 c6)).heap[A6]? = some (Obj.cells #[.int .i64 (D0), .slice a5 n5 c5, .int .i64 (D1), .slice a6 n6 c6] 32) := S4.out
      rw [ews] at hHeld2 hn6 l5 l6
      rw [ews2]
      have hHeld := hHeld2
      clear hHeld2 S4 HH ews ews2 s0 s1 s2 s3 s5 s6 s7 s8
      refine hK.out _ _ (fun _ => hHeld) ?_
      clear hK K
      try simp only [Act.put, List.getElem_toArray, List.getElem_cons_zero, List.getElem_cons_succ, List.setIfInBounds_toArray, List.set_cons_zero, List.set_cons_succ]
      have HE := Lib.hid hHeld
      clear hHeld
      refine AU_done (by kernel_rfl) ?_ _
      simp only [OnlyN]
      have hHeld := HE.out
      clear HE
      have HF := Lib.hid (And.intro hn6 (And.intro (LO.le (k := 201) l5) (And.intro (LO.le (k := 201) l6) (And.intro hHeld hge6))))
      clear hHeld hn6 l5 l6
      go_wp2_with fail
      go_meet
      exact ⟨_, _, _, _, _, _, _, rfl, HF⟩
  case rest =>
    obtain ⟨A, a9, n9, c9, a10, n10, c10, rfl, HF⟩ := hcut
    obtain ⟨X, rfl⟩ : ∃ X, X = wc := ⟨_, rfl⟩
    go_upto_region 2 with fail
    obtain ⟨hk0, ⟨B9, h9⟩, ⟨B10, h10⟩, hX, hAge⟩ := HF.out
    have HX := Lib.hid hX
    have hB := (HS.out X hX).1
    have hne : A ≠ w.heap.size + 1 := by have := (Array.getElem?_eq_some_iff.1 (HRES.out _ (Below.refl _ _))).1; omega
    have HNE := Lib.hid hne
    have HLX := Lib.hid (And.intro h9 h10)
    have HBX := Lib.hid hB
    have HRX := Lib.hid (HRES.out _ hX)
    have HKX := Lib.hid hk0
    clear hAge hne h9 h10 hB hX HF
    refine region_AU (Z := fun j => false) (S := fun w' => w'.heap[A]? = some (Obj.cells #[.int .i64 D0, .slice a9 n9 c9, .int .i64 D1, .slice a10 n10 c10] 32)) (by kernel_rfl) (hk0) (fun hHeld => ?_)
    have hBl := (Below.refl X.heap.size X).drew
    clear hk0
    refine AUS_take (by kernel_rfl) rfl (i := 0) (oi := _) (v := ?vw10) rfl (by kernel_rfl) (by kernel_rfl) (by kernel_rfl) (fun _ _ _ h => h) (Or.inl ⟨by rfl, ?hz10⟩) hHeld ?rst10
    case hz10 => (intro wS hSw; have f0 := cell_of_row _ _ 0 _ 32 (0, 0) hSw; have f1 := cell_of_row _ _ 1 _ 32 (0, 0) hSw; have f2 := cell_of_row _ _ 2 _ 32 (0, 0) hSw; have f3 := cell_of_row _ _ 3 _ 32 (0, 0) hSw; simp only [List.getElem?_toArray, List.getElem?_cons_zero, List.getElem?_cons_succ] at f0 f1 f2 f3; clear hSw; go_simp; try with_reducible rfl)
    simp only [Act.put, List.getElem_toArray, List.getElem_cons_zero, List.getElem_cons_succ, List.setIfInBounds_toArray, List.set_cons_zero, List.set_cons_succ]
    refine AUS_take (by kernel_rfl) rfl (i := 1) (oi := _) (v := ?vw11) rfl (by kernel_rfl) (by kernel_rfl) (by kernel_rfl) (fun _ _ _ h => h) (Or.inl ⟨by rfl, ?hz11⟩) hHeld ?rst11
    case hz11 => (intro wS hSw; have f0 := cell_of_row _ _ 0 _ 32 (0, 0) hSw; have f1 := cell_of_row _ _ 1 _ 32 (0, 0) hSw; have f2 := cell_of_row _ _ 2 _ 32 (0, 0) hSw; have f3 := cell_of_row _ _ 3 _ 32 (0, 0) hSw; simp only [List.getElem?_toArray, List.getElem?_cons_zero, List.getElem?_cons_succ] at f0 f1 f2 f3; clear hSw; go_simp; try with_reducible rfl)
    simp only [Act.put, List.getElem_toArray, List.getElem_cons_zero, List.getElem_cons_succ, List.setIfInBounds_toArray, List.set_cons_zero, List.set_cons_succ]
    refine AUS_take (by kernel_rfl) rfl (i := 2) (oi := _) (v := ?vw12) rfl (by kernel_rfl) (by kernel_rfl) (by kernel_rfl) (fun _ _ _ h => h) (Or.inl ⟨by rfl, ?hz12⟩) hHeld ?rst12
    case hz12 => (intro wS hSw; have f0 := cell_of_row _ _ 0 _ 32 (0, 0) hSw; have f1 := cell_of_row _ _ 1 _ 32 (0, 0) hSw; have f2 := cell_of_row _ _ 2 _ 32 (0, 0) hSw; have f3 := cell_of_row _ _ 3 _ 32 (0, 0) hSw; simp only [List.getElem?_toArray, List.getElem?_cons_zero, List.getElem?_cons_succ] at f0 f1 f2 f3; clear hSw; go_simp; try with_reducible rfl)
    simp only [Act.put, List.getElem_toArray, List.getElem_cons_zero, List.getElem_cons_succ, List.setIfInBounds_toArray, List.set_cons_zero, List.set_cons_succ]
    have HH := Lib.hid hHeld
    have HBl := Lib.hid hBl
    obtain ⟨b1, Eb1⟩ : ∃ b, Hid (Lab.right D0 (Lab.put D0 P0 x 0) = b) := ⟨_, Lib.hid rfl⟩
    have CC := right_m (HLX.out.1.below hBl).la
    rw [Eb1.out] at CC
    have CC := Lib.hid CC
    refine AU_one (i := 3) (o := _) (by kernel_rfl) rfl (fun K hK => ?_)
    clear hHeld hBl
    go_simp
    refine CC.out.mono ?_
    clear CC
    rintro e wz3 ⟨rfl, hb⟩
    have hHeld := block_below HH.out hb
    have hBl := HBl.out.trans (hb.mono HBl.out.size)
    clear HH HBl hb
    refine hK.out _ _ (fun _ => hHeld) ?_
    clear hK K
    try simp only [Act.put, List.getElem_toArray, List.getElem_cons_zero, List.getElem_cons_succ, List.setIfInBounds_toArray, List.set_cons_zero, List.set_cons_succ]
    refine AUS_take (by kernel_rfl) rfl (i := 4) (oi := _) (v := ?vw13) rfl (by kernel_rfl) (by kernel_rfl) (by kernel_rfl) (fun _ _ _ h => h) (Or.inl ⟨by rfl, ?hz13⟩) hHeld ?rst13
    case hz13 => (intro wS hSw; skip; clear hSw; go_simp; try with_reducible rfl)
    simp only [Act.put, List.getElem_toArray, List.getElem_cons_zero, List.getElem_cons_succ, List.setIfInBounds_toArray, List.set_cons_zero, List.set_cons_succ]
    cases b1
    · skip
      refine AUS_take (by kernel_rfl) rfl (i := 5) (oi := _) (v := undef) rfl (by kernel_rfl) (by kernel_rfl) (by kernel_rfl) (fun _ _ _ h => h) (Or.inr ⟨by rfl, rfl⟩) hHeld ?rst14
      try simp only [Act.put, List.getElem_toArray, List.getElem_cons_zero, List.getElem_cons_succ, List.setIfInBounds_toArray, List.set_cons_zero, List.set_cons_succ]
      refine AUS_take (by kernel_rfl) rfl (i := 6) (oi := _) (v := undef) rfl (by kernel_rfl) (by kernel_rfl) (by kernel_rfl) (fun _ _ _ h => h) (Or.inr ⟨by rfl, rfl⟩) hHeld ?rst15
      try simp only [Act.put, List.getElem_toArray, List.getElem_cons_zero, List.getElem_cons_succ, List.setIfInBounds_toArray, List.set_cons_zero, List.set_cons_succ]
      refine AUS_take (by kernel_rfl) rfl (i := 7) (oi := _) (v := undef) rfl (by kernel_rfl) (by kernel_rfl) (by kernel_rfl) (fun _ _ _ h => h) (Or.inr ⟨by rfl, rfl⟩) hHeld ?rst16
      try simp only [Act.put, List.getElem_toArray, List.getElem_cons_zero, List.getElem_cons_succ, List.setIfInBounds_toArray, List.set_cons_zero, List.set_cons_succ]
      refine AUS_take (by kernel_rfl) rfl (i := 8) (oi := _) (v := ?vw17) rfl (by kernel_rfl) (by kernel_rfl) (by kernel_rfl) (fun _ _ _ h => h) (Or.inl ⟨by rfl, ?hz17⟩) hHeld ?rst17
      case hz17 => (intro wS hSw; skip; clear hSw; go_simp; try with_reducible rfl)
      simp only [Act.put, List.getElem_toArray, List.getElem_cons_zero, List.getElem_cons_succ, List.setIfInBounds_toArray, List.set_cons_zero, List.set_cons_succ]
      have HH := Lib.hid hHeld
      have HBl := Lib.hid hBl
      have hr := block_below HRX.out hBl
      obtain ⟨⟨s0, s1, s2, s3⟩, ⟨s5, s6, s7, s8⟩, s4⟩ := old4 wz3 _ 32 _ _ _ _ (.int .i64 D0) (.slice a9 n9 c9) (.int .i64 D1) (.slice a10 n10 c10) hr
      have S4 := Lib.hid s4
      have hH2 := Lib.hid (show (set4 wz3 (w.heap.size + 1) (.int .i64 D0) (.slice a9 n9 c9) (.int .i64 D1) (.slice a10 n10 c10)).heap[A]? = some (Obj.cells #[.int .i64 D0, .slice a9 n9 c9, .int .i64 D1, .slice a10 n10 c10] 32) from by
        rw [heap_setCell_other _ _ _ _ (by exact HNE.out), heap_setCell_other _ _ _ _ (by exact HNE.out), heap_setCell_other _ _ _ _ (by exact HNE.out), heap_setCell_other _ _ _ _ (by exact HNE.out)]; exact hHeld)
      have hE := Lib.hid (below_set4 (A := w.heap.size + 1) (HBX.out.trans (hBl.mono HBX.out.size)) (by omega) (.int .i64 D0) (.slice a9 n9 c9) (.int .i64 D1) (.slice a10 n10 c10))
      refine AU_one (i := 9) (o := _) (by kernel_rfl) rfl (fun K hK => ?_)
      clear hHeld hBl hr s4
      go_simp
      refine hK.out _ _ (fun _ => hH2.out) ?_
      clear hK K s0 s1 s2 s3 s5 s6 s7 s8
      try simp only [Act.put, List.getElem_toArray, List.getElem_cons_zero, List.getElem_cons_succ, List.setIfInBounds_toArray, List.set_cons_zero, List.set_cons_succ]
      have hHeld := hH2.out
      refine AUS_take (by kernel_rfl) rfl (i := 10) (oi := _) (v := ?vw18) rfl (by kernel_rfl) (by kernel_rfl) (by kernel_rfl) (fun _ _ _ h => h) (Or.inl ⟨by rfl, ?hz18⟩) hHeld ?rst18
      case hz18 => (intro wS hSw; skip; clear hSw; go_simp; try with_reducible rfl)
      simp only [Act.put, List.getElem_toArray, List.getElem_cons_zero, List.getElem_cons_succ, List.setIfInBounds_toArray, List.set_cons_zero, List.set_cons_succ]
      clear hHeld
      refine AU_done (by kernel_rfl) ?_ _
      simp only [OnlyN]
      have hfr : fr D0 P0 D1 P1 x = false := by simp [fr, Eb1.out]
      have HL := Lib.hid (show WM w D0 (Lab.put D0 P0 x 0) D1 (Lab.put D1 P1 x 4) (fr D0 P0 D1 P1 x) (.returned (.tuple #[.agg #[.int .i64 D0, .slice a9 n9 c9, .int .i64 D1, .slice a10 n10 c10], .bool false])) (set4 wz3 (w.heap.size + 1) (.int .i64 D0) (.slice a9 n9 c9) (.int .i64 D1) (.slice a10 n10 c10)) from ⟨_, _, _, _, _, _, by rw [hfr], ((HLX.out.1.below HBl.out).set4 (block_below HRX.out HBl.out) (by decide) (.int .i64 D0) (.slice a9 n9 c9) (.int .i64 D1) (.slice a10 n10 c10)).la, ((HLX.out.2.below HBl.out).set4 (block_below HRX.out HBl.out) (by decide) (.int .i64 D0) (.slice a9 n9 c9) (.int .i64 D1) (.slice a10 n10 c10)).la, hE.out⟩)
      clear hfr
      go_wp2_with fail
      refine bodyPost_ret (results_who (by rfl) _ _ (w.heap.size + 1) _ (by rfl) (run_loadVar_row _ (w.heap.size + 1) _ _ _ _ _ S4.out Try.underlying32 rfl infoP)) rfl ?_
      exact HL.out
    · skip
      refine AUS_take (by kernel_rfl) rfl (i := 5) (oi := _) (v := ?vw19) rfl (by kernel_rfl) (by kernel_rfl) (by kernel_rfl) (fun _ _ _ h => h) (Or.inl ⟨by rfl, ?hz19⟩) hHeld ?rst19
      case hz19 => (intro wS hSw; have f0 := cell_of_row _ _ 0 _ 32 (0, 0) hSw; have f1 := cell_of_row _ _ 1 _ 32 (0, 0) hSw; have f2 := cell_of_row _ _ 2 _ 32 (0, 0) hSw; have f3 := cell_of_row _ _ 3 _ 32 (0, 0) hSw; simp only [List.getElem?_toArray, List.getElem?_cons_zero, List.getElem?_cons_succ] at f0 f1 f2 f3; clear hSw; go_simp; try with_reducible rfl)
      simp only [Act.put, List.getElem_toArray, List.getElem_cons_zero, List.getElem_cons_succ, List.setIfInBounds_toArray, List.set_cons_zero, List.set_cons_succ]
      refine AUS_take (by kernel_rfl) rfl (i := 6) (oi := _) (v := ?vw20) rfl (by kernel_rfl) (by kernel_rfl) (by kernel_rfl) (fun _ _ _ h => h) (Or.inl ⟨by rfl, ?hz20⟩) hHeld ?rst20
      case hz20 => (intro wS hSw; have f0 := cell_of_row _ _ 0 _ 32 (0, 0) hSw; have f1 := cell_of_row _ _ 1 _ 32 (0, 0) hSw; have f2 := cell_of_row _ _ 2 _ 32 (0, 0) hSw; have f3 := cell_of_row _ _ 3 _ 32 (0, 0) hSw; simp only [List.getElem?_toArray, List.getElem?_cons_zero, List.getElem?_cons_succ] at f0 f1 f2 f3; clear hSw; go_simp; try with_reducible rfl)
      simp only [Act.put, List.getElem_toArray, List.getElem_cons_zero, List.getElem_cons_succ, List.setIfInBounds_toArray, List.set_cons_zero, List.set_cons_succ]
      have HH := Lib.hid hHeld
      have HBl := Lib.hid hBl
      obtain ⟨b2, Eb2⟩ : ∃ b, Hid (Lab.right D1 (Lab.put D1 P1 x 4) = b) := ⟨_, Lib.hid rfl⟩
      have CC := right_m (HLX.out.2.below hBl).la
      rw [Eb2.out] at CC
      have CC := Lib.hid CC
      refine AU_one (i := 7) (o := _) (by kernel_rfl) rfl (fun K hK => ?_)
      clear hHeld hBl
      go_simp
      refine CC.out.mono ?_
      clear CC
      rintro e wz7 ⟨rfl, hb⟩
      have hHeld := block_below HH.out hb
      have hBl := HBl.out.trans (hb.mono HBl.out.size)
      clear HH HBl hb
      refine hK.out _ _ (fun _ => hHeld) ?_
      clear hK K
      try simp only [Act.put, List.getElem_toArray, List.getElem_cons_zero, List.getElem_cons_succ, List.setIfInBounds_toArray, List.set_cons_zero, List.set_cons_succ]
      refine AUS_take (by kernel_rfl) rfl (i := 8) (oi := _) (v := ?vw21) rfl (by kernel_rfl) (by kernel_rfl) (by kernel_rfl) (fun _ _ _ h => h) (Or.inl ⟨by rfl, ?hz21⟩) hHeld ?rst21
      case hz21 => (intro wS hSw; skip; clear hSw; go_simp; try with_reducible rfl)
      simp only [Act.put, List.getElem_toArray, List.getElem_cons_zero, List.getElem_cons_succ, List.setIfInBounds_toArray, List.set_cons_zero, List.set_cons_succ]
      have HH := Lib.hid hHeld
      have HBl := Lib.hid hBl
      have hr := block_below HRX.out hBl
      obtain ⟨⟨s0, s1, s2, s3⟩, ⟨s5, s6, s7, s8⟩, s4⟩ := old4 wz7 _ 32 _ _ _ _ (.int .i64 D0) (.slice a9 n9 c9) (.int .i64 D1) (.slice a10 n10 c10) hr
      have S4 := Lib.hid s4
      have hH2 := Lib.hid (show (set4 wz7 (w.heap.size + 1) (.int .i64 D0) (.slice a9 n9 c9) (.int .i64 D1) (.slice a10 n10 c10)).heap[A]? = some (Obj.cells #[.int .i64 D0, .slice a9 n9 c9, .int .i64 D1, .slice a10 n10 c10] 32) from by
        rw [heap_setCell_other _ _ _ _ (by exact HNE.out), heap_setCell_other _ _ _ _ (by exact HNE.out), heap_setCell_other _ _ _ _ (by exact HNE.out), heap_setCell_other _ _ _ _ (by exact HNE.out)]; exact hHeld)
      have hE := Lib.hid (below_set4 (A := w.heap.size + 1) (HBX.out.trans (hBl.mono HBX.out.size)) (by omega) (.int .i64 D0) (.slice a9 n9 c9) (.int .i64 D1) (.slice a10 n10 c10))
      refine AU_one (i := 9) (o := _) (by kernel_rfl) rfl (fun K hK => ?_)
      clear hHeld hBl hr s4
      go_simp
      refine hK.out _ _ (fun _ => hH2.out) ?_
      clear hK K s0 s1 s2 s3 s5 s6 s7 s8
      try simp only [Act.put, List.getElem_toArray, List.getElem_cons_zero, List.getElem_cons_succ, List.setIfInBounds_toArray, List.set_cons_zero, List.set_cons_succ]
      have hHeld := hH2.out
      refine AUS_take (by kernel_rfl) rfl (i := 10) (oi := _) (v := ?vw22) rfl (by kernel_rfl) (by kernel_rfl) (by kernel_rfl) (fun _ _ _ h => h) (Or.inl ⟨by rfl, ?hz22⟩) hHeld ?rst22
      case hz22 => (intro wS hSw; skip; clear hSw; go_simp; try with_reducible rfl)
      simp only [Act.put, List.getElem_toArray, List.getElem_cons_zero, List.getElem_cons_succ, List.setIfInBounds_toArray, List.set_cons_zero, List.set_cons_succ]
      clear hHeld
      refine AU_done (by kernel_rfl) ?_ _
      simp only [OnlyN]
      have hfr : fr D0 P0 D1 P1 x = b2 := by simp [fr, Eb1.out, Eb2.out]
      have HL := Lib.hid (show WM w D0 (Lab.put D0 P0 x 0) D1 (Lab.put D1 P1 x 4) (fr D0 P0 D1 P1 x) (.returned (.tuple #[.agg #[.int .i64 D0, .slice a9 n9 c9, .int .i64 D1, .slice a10 n10 c10], .bool b2])) (set4 wz7 (w.heap.size + 1) (.int .i64 D0) (.slice a9 n9 c9) (.int .i64 D1) (.slice a10 n10 c10)) from ⟨_, _, _, _, _, _, by rw [hfr], ((HLX.out.1.below HBl.out).set4 (block_below HRX.out HBl.out) (by decide) (.int .i64 D0) (.slice a9 n9 c9) (.int .i64 D1) (.slice a10 n10 c10)).la, ((HLX.out.2.below HBl.out).set4 (block_below HRX.out HBl.out) (by decide) (.int .i64 D0) (.slice a9 n9 c9) (.int .i64 D1) (.slice a10 n10 c10)).la, hE.out⟩)
      clear hfr
      go_wp2_with fail
      refine bodyPost_ret (results_who (by rfl) _ _ (w.heap.size + 1) _ (by rfl) (run_loadVar_row _ (w.heap.size + 1) _ _ _ _ _ S4.out Try.underlying32 rfl infoP)) rfl ?_
      exact HL.out
set_option maxHeartbeats 2000000 in
set_option maxRecDepth 100000 in
theorem rfresh_m {w : World} {D0 : Int} {a0 : Option Addr} {n0 c0 : Nat} {P0 : LP} {D1 : Int} {a1 : Option Addr} {n1 c1 : Nat} {P1 : LP} (h0 : LA 100 w D0 a0 n0 c0 P0) (h1 : LA 100 w D1 a1 n1 c1 P1) {x : Nat} (hx1 : 1 ≤ x) (hx2 : x < 4294967296) : Calls Try.prog 30 #[.agg #[.int .i64 D0, .slice a0 n0 c0, .int .i64 D1, .slice a1 n1 c1], .int .u32 (x : Nat)] w (WM w D0 (Lab.put D0 P0 x 0) D1 (Lab.put D1 P1 x 4) (fr D0 P0 D1 P1 x)) := by
  obtain ⟨W0, e0⟩ : ∃ W0, W0 = ((w.alloc (Obj.cells #[.int .i64 D0, .slice a0 n0 c0, .int .i64 D1, .slice a1 n1 c1] 33)).alloc (Obj.cells #[.int .i64 0, .slice none 0 0, .int .i64 0, .slice none 0 0] 33)) := ⟨_, rfl⟩
  have hB : Below w.heap.size w W0 := by rw [e0]; exact (((Below.refl w.heap.size w).alloc (by omega) _).alloc (by simp <;> omega) _)
  have hk0 : W0.heap[w.heap.size]? = some (Obj.cells #[.int .i64 D0, .slice a0 n0 c0, .int .i64 D1, .slice a1 n1 c1] 33) := by
    rw [e0]
    rw [Below.heap_alloc _ _ _ (by simp <;> omega)]
    have := heap_alloc_new w (Obj.cells #[.int .i64 D0, .slice a0 n0 c0, .int .i64 D1, .slice a1 n1 c1] 33); simpa using this
  have hk1 : W0.heap[w.heap.size + 1]? = some (Obj.cells #[.int .i64 0, .slice none 0 0, .int .i64 0, .slice none 0 0] 33) := by
    rw [e0]
    have := heap_alloc_new (w.alloc (Obj.cells #[.int .i64 D0, .slice a0 n0 c0, .int .i64 D1, .slice a1 n1 c1] 33)) (Obj.cells #[.int .i64 0, .slice none 0 0, .int .i64 0, .slice none 0 0] 33); simpa using this
  have HS := Lib.hid (fun (wx : World) (hx : Below W0.heap.size W0 wx) => (by
      have hw : Below w.heap.size w wx := hB.trans (hx.mono hB.size)
      have r0 := (hx.block _ (Array.getElem?_eq_some_iff.1 hk0).1).trans hk0
      have r1 := (hx.block _ (Array.getElem?_eq_some_iff.1 hk1).1).trans hk1
      exact ⟨hw, by rw [cell_of_row _ _ 0 _ 33 (0, 0) r0]; rfl, by rw [cell_of_row _ _ 1 _ 33 (0, 0) r0]; rfl, by rw [cell_of_row _ _ 2 _ 33 (0, 0) r0]; rfl, by rw [cell_of_row _ _ 3 _ 33 (0, 0) r0]; rfl, h0.below hw, h1.below hw⟩ : Below w.heap.size w wx ∧ wx.cell? ⟨w.heap.size, 0, none⟩ = some (.int .i64 D0) ∧ wx.cell? ⟨w.heap.size, 1, none⟩ = some (.slice a0 n0 c0) ∧ wx.cell? ⟨w.heap.size, 2, none⟩ = some (.int .i64 D1) ∧ wx.cell? ⟨w.heap.size, 3, none⟩ = some (.slice a1 n1 c1) ∧ LA 100 wx D0 a0 n0 c0 P0 ∧ LA 100 wx D1 a1 n1 c1 P1))
  have HRES := Lib.hid (fun (wx : World) (hx : Below W0.heap.size W0 wx) => ((hx.block _ (Array.getElem?_eq_some_iff.1 hk1).1).trans hk1 : wx.heap[w.heap.size + 1]? = some (Obj.cells #[.int .i64 0, .slice none 0 0, .int .i64 0, .slice none 0 0] 33)))
  clear h0 h1 hB hk0 hk1
  go_enter Try.func30, Try.ntmps30
  go_upto_region 1 with fail
  rw [← e0]
  clear e0
  have hHeld := Below.refl W0.heap.size W0
  go_cut [6, 7, 8, 9, 10, 11, 12, 13, 14, 15] (fun s6 s7 s8 s9 s10 s11 s12 s13 s14 s15 wx => ∃ A a9 n9 c9 a10 n10 c10, s6 = .pointer (some ⟨A, 0, none⟩) ∧ Hid (wx.heap[A]? = some (Obj.cells #[.int .i64 D0, .slice a9 n9 c9, .int .i64 D1, .slice a10 n10 c10] 33) ∧ LE 201 wx D0 a9 n9 c9 (Lab.put D0 P0 x 0) ∧ LE 201 wx D1 a10 n10 c10 (Lab.put D1 P1 x 4) ∧ Below W0.heap.size W0 wx ∧ W0.heap.size ≤ A))
  case first =>
    refine region_AU (Z := fun j => false) (S := fun w' => Below W0.heap.size W0 w') (by kernel_rfl) (hHeld.drew) (fun hHeld => ?_)
    obtain ⟨wd1, ewd⟩ : ∃ wd, wd = W0.drew := ⟨_, rfl⟩
    rw [← ewd] at hHeld ⊢
    clear ewd
    refine AUS_take (by kernel_rfl) rfl (i := 0) (oi := _) (v := ?vw1) rfl (by kernel_rfl) (by kernel_rfl) (by kernel_rfl) (fun _ _ _ h => h) (Or.inl ⟨by rfl, ?hz1⟩) hHeld ?rst1
    case hz1 => (intro wS hSw; obtain ⟨_, f0, f1, f2, f3, _, _⟩ := HS.out wS hSw; clear hSw; go_simp; try with_reducible rfl)
    simp only [Act.put, List.getElem_toArray, List.getElem_cons_zero, List.getElem_cons_succ, List.setIfInBounds_toArray, List.set_cons_zero, List.set_cons_succ]
    refine AUS_take (by kernel_rfl) rfl (i := 1) (oi := _) (v := ?vw2) rfl (by kernel_rfl) (by kernel_rfl) (by kernel_rfl) (fun _ _ _ h => h) (Or.inl ⟨by rfl, ?hz2⟩) hHeld ?rst2
    case hz2 => (intro wS hSw; obtain ⟨_, f0, f1, f2, f3, _, _⟩ := HS.out wS hSw; clear hSw; go_simp; try with_reducible rfl)
    simp only [Act.put, List.getElem_toArray, List.getElem_cons_zero, List.getElem_cons_succ, List.setIfInBounds_toArray, List.set_cons_zero, List.set_cons_succ]
    refine AUS_take (by kernel_rfl) rfl (i := 2) (oi := _) (v := ?vw3) rfl (by kernel_rfl) (by kernel_rfl) (by kernel_rfl) (fun _ _ _ h => h) (Or.inl ⟨by rfl, ?hz3⟩) hHeld ?rst3
    case hz3 => (intro wS hSw; obtain ⟨_, f0, f1, f2, f3, _, _⟩ := HS.out wS hSw; clear hSw; go_simp; try with_reducible rfl)
    simp only [Act.put, List.getElem_toArray, List.getElem_cons_zero, List.getElem_cons_succ, List.setIfInBounds_toArray, List.set_cons_zero, List.set_cons_succ]
    refine AUS_take (by kernel_rfl) rfl (i := 4) (oi := _) (v := ?vw4) rfl (by kernel_rfl) (by kernel_rfl) (by kernel_rfl) (fun _ _ _ h => h) (Or.inl ⟨by rfl, ?hz4⟩) hHeld ?rst4
    case hz4 => (intro wS hSw; obtain ⟨_, f0, f1, f2, f3, _, _⟩ := HS.out wS hSw; clear hSw; go_simp; try with_reducible rfl)
    simp only [Act.put, List.getElem_toArray, List.getElem_cons_zero, List.getElem_cons_succ, List.setIfInBounds_toArray, List.set_cons_zero, List.set_cons_succ]
    refine AUS_take (by kernel_rfl) rfl (i := 5) (oi := _) (v := ?vw5) rfl (by kernel_rfl) (by kernel_rfl) (by kernel_rfl) (fun _ _ _ h => h) (Or.inl ⟨by rfl, ?hz5⟩) hHeld ?rst5
    case hz5 => (intro wS hSw; obtain ⟨_, f0, f1, f2, f3, _, _⟩ := HS.out wS hSw; clear hSw; go_simp; try with_reducible rfl)
    simp only [Act.put, List.getElem_toArray, List.getElem_cons_zero, List.getElem_cons_succ, List.setIfInBounds_toArray, List.set_cons_zero, List.set_cons_succ]
    refine AUS_take (by kernel_rfl) rfl (i := 6) (oi := _) (v := ?vw6) rfl (by kernel_rfl) (by kernel_rfl) (by kernel_rfl) (fun _ _ _ h => h) (Or.inl ⟨by rfl, ?hz6⟩) hHeld ?rst6
    case hz6 => (intro wS hSw; obtain ⟨_, f0, f1, f2, f3, _, _⟩ := HS.out wS hSw; clear hSw; go_simp; try with_reducible rfl)
    simp only [Act.put, List.getElem_toArray, List.getElem_cons_zero, List.getElem_cons_succ, List.setIfInBounds_toArray, List.set_cons_zero, List.set_cons_succ]
    refine AU_two (i := 3) (j := 9) (oi := _) (oj := _) (by kernel_rfl) rfl rfl (fun K hK => ?_) (fun K hK => ?_)
    · skip
      have HH := Lib.hid hHeld
      obtain ⟨hbw, _, _, _, _, g0, g1⟩ := HS.out _ hHeld
      have CC := Lib.hid (rwith_m x 0 g0 hx1 hx2 (by omega))
      clear hHeld hbw g0 g1
      go_simp
      refine CC.out.mono ?_
      clear CC
      rintro e wz1 ⟨a2, n2, c2, rfl, l2, hb⟩
      have hHeld := HH.out.trans (hb.mono HH.out.size)
      clear HH hb
      refine hK.out _ _ (fun _ => hHeld) ?_
      clear hK K
      try simp only [Act.put, List.getElem_toArray, List.getElem_cons_zero, List.getElem_cons_succ, List.setIfInBounds_toArray, List.set_cons_zero, List.set_cons_succ]
      refine AU_two (i := 7) (j := 9) (oi := _) (oj := _) (by kernel_rfl) rfl rfl (fun K hK => ?_) (fun K hK => ?_)
      · skip
        have HH := Lib.hid hHeld
        obtain ⟨hbw, _, _, _, _, g0, g1⟩ := HS.out _ hHeld
        have CC := Lib.hid (rwith_m x 4 g1 hx1 hx2 (by omega))
        clear hHeld hbw g0 g1
        go_simp
        refine CC.out.mono ?_
        clear CC
        rintro e wz2 ⟨a3, n3, c3, rfl, l3, hb⟩
        have hHeld := HH.out.trans (hb.mono HH.out.size)
        replace l2 := l2.below hb
        clear HH hb
        refine hK.out _ _ (fun _ => hHeld) ?_
        clear hK K
        try simp only [Act.put, List.getElem_toArray, List.getElem_cons_zero, List.getElem_cons_succ, List.setIfInBounds_toArray, List.set_cons_zero, List.set_cons_succ]
        refine AUS_take (by kernel_rfl) rfl (i := 8) (oi := _) (v := ?vw7) rfl (by kernel_rfl) (by kernel_rfl) (by kernel_rfl) (fun _ _ _ h => h) (Or.inl ⟨by rfl, ?hz7⟩) hHeld ?rst7
        case hz7 => (intro wS hSw; obtain ⟨_, f0, f1, f2, f3, _, _⟩ := HS.out wS hSw; clear hSw; go_simp; try with_reducible rfl)
        simp only [Act.put, List.getElem_toArray, List.getElem_cons_zero, List.getElem_cons_succ, List.setIfInBounds_toArray, List.set_cons_zero, List.set_cons_succ]
        have HH := Lib.hid hHeld
        have hn3 := heap_alloc_new wz2 (Obj.cells #[.int .i64 0, .slice none 0 0, .int .i64 0, .slice none 0 0] 33)
        have hb := below_alloc1 wz2 (Obj.cells #[.int .i64 0, .slice none 0 0, .int .i64 0, .slice none 0 0] 33)
        refine AU_one (i := 9) (o := _) (by kernel_rfl) rfl (fun K hK => ?_)
        clear hHeld
        go_simp
        have hHeld := HH.out.trans (hb.mono HH.out.size)
        replace l2 := l2.below hb
        replace l3 := l3.below hb
        have hge3 := HH.out.size
        clear hb HH
        obtain ⟨wa3, ewa⟩ : ∃ wa, wa = wz2.alloc (Obj.cells #[.int .i64 0, .slice none 0 0, .int .i64 0, .slice none 0 0] 33) := ⟨_, rfl⟩
        rw [← ewa] at hn3 hHeld l2 l3 ⊢
        obtain ⟨A3, eA⟩ : ∃ A, A = wz2.heap.size := ⟨_, rfl⟩
        rw [← eA] at hn3 hge3 ⊢
        clear ewa eA
        refine hK.out _ _ (fun _ => hHeld) ?_
        clear hK K
        try simp only [Act.put, List.getElem_toArray, List.getElem_cons_zero, List.getElem_cons_succ, List.setIfInBounds_toArray, List.set_cons_zero, List.set_cons_succ]
        have HH := Lib.hid hHeld
        obtain ⟨⟨s0, s1, s2, s3⟩, ⟨s5, s6, s7, s8⟩, s4⟩ := old4 wa3 A3 33 _ _ _ _ (.int .i64 (D0)) (.slice a2 n2 c2) (.int .i64 (D1)) (.slice a3 n3 c3) hn3
        replace l2 := l2.set4 hn3 (by decide) (.int .i64 (D0)) (.slice a2 n2 c2) (.int .i64 (D1)) (.slice a3 n3 c3)
        replace l3 := l3.set4 hn3 (by decide) (.int .i64 (D0)) (.slice a2 n2 c2) (.int .i64 (D1)) (.slice a3 n3 c3)
        have hHeld2 := below_set4 HH.out hge3 (.int .i64 (D0)) (.slice a2 n2 c2) (.int .i64 (D1)) (.slice a3 n3 c3)
        have S4 := Lib.hid s4
        refine AU_one (i := 10) (o := _) (by kernel_rfl) rfl (fun K hK => ?_)
        clear hHeld s4 hn3
        go_simp
        obtain ⟨ws3, ews⟩ : ∃ ws, set4 wa3 A3 (.int .i64 (D0)) (.slice a2 n2 c2) (.int .i64 (D1)) (.slice a3 n3 c3) = ws := ⟨_, rfl⟩
        have ews2 : ((((wa3.setCell ⟨A3, 0, none⟩ (.int .i64 (D0))).setCell ⟨A3, 1, none⟩ (.slice a2 n2 c2)).setCell ⟨A3, 2, none⟩ (.int .i64 (D1))).setCell ⟨A3, 3, none⟩ (.slice a3 n3 c3)) = ws3 := ews
        have hn3 : (set4 wa3 A3 (.int .i64 (D0)) (.slice a2 n2 c2) (.int .i64 (D1)) (.slice a3 n3 c3)).heap[A3]? = some (Obj.cells #[.int .i64 (D0), .slice a2 n2 c2, .int .i64 (D1), .slice a3 n3 c3] 33) := S4.out
        rw [ews] at hHeld2 hn3 l2 l3
        rw [ews2]
        have hHeld := hHeld2
        clear hHeld2 S4 HH ews ews2 s0 s1 s2 s3 s5 s6 s7 s8
        refine hK.out _ _ (fun _ => hHeld) ?_
        clear hK K
        try simp only [Act.put, List.getElem_toArray, List.getElem_cons_zero, List.getElem_cons_succ, List.setIfInBounds_toArray, List.set_cons_zero, List.set_cons_succ]
        have HE := Lib.hid hHeld
        clear hHeld
        refine AU_done (by kernel_rfl) ?_ _
        simp only [OnlyN]
        have hHeld := HE.out
        clear HE
        have HF := Lib.hid (And.intro hn3 (And.intro (LO.le (k := 201) l2) (And.intro (LO.le (k := 201) l3) (And.intro hHeld hge3))))
        clear hHeld hn3 l2 l3
        go_wp2_with fail
        go_meet
        exact ⟨_, _, _, _, _, _, _, rfl, HF⟩
      · skip
        have HH := Lib.hid hHeld
        have hn4 := heap_alloc_new wz1 (Obj.cells #[.int .i64 0, .slice none 0 0, .int .i64 0, .slice none 0 0] 33)
        have hb := below_alloc1 wz1 (Obj.cells #[.int .i64 0, .slice none 0 0, .int .i64 0, .slice none 0 0] 33)
        clear hHeld
        go_simp
        have hHeld := HH.out.trans (hb.mono HH.out.size)
        replace l2 := l2.below hb
        have hge4 := HH.out.size
        clear hb HH
        obtain ⟨wa4, ewa⟩ : ∃ wa, wa = wz1.alloc (Obj.cells #[.int .i64 0, .slice none 0 0, .int .i64 0, .slice none 0 0] 33) := ⟨_, rfl⟩
        rw [← ewa] at hn4 hHeld l2 ⊢
        obtain ⟨A4, eA⟩ : ∃ A, A = wz1.heap.size := ⟨_, rfl⟩
        rw [← eA] at hn4 hge4 ⊢
        clear ewa eA
        refine hK.out _ _ (fun _ => hHeld) ?_
        clear hK K
        try simp only [Act.put, List.getElem_toArray, List.getElem_cons_zero, List.getElem_cons_succ, List.setIfInBounds_toArray, List.set_cons_zero, List.set_cons_succ]
        have HH := Lib.hid hHeld
        obtain ⟨hbw, _, _, _, _, g0, g1⟩ := HS.out _ hHeld
        refine AU_one (i := 7) (o := _) (by kernel_rfl) rfl (fun K hK => ?_)
        have CC := Lib.hid (rwith_m x 4 g1 hx1 hx2 (by omega))
        clear hHeld hbw g0 g1
        go_simp
        refine CC.out.mono ?_
        clear CC
        rintro e wz5 ⟨a4, n4, c4, rfl, l4, hb⟩
        have hHeld := HH.out.trans (hb.mono HH.out.size)
        replace l2 := l2.below hb
        replace hn4 := block_below hn4 hb
        clear HH hb
        refine hK.out _ _ (fun _ => hHeld) ?_
        clear hK K
        try simp only [Act.put, List.getElem_toArray, List.getElem_cons_zero, List.getElem_cons_succ, List.setIfInBounds_toArray, List.set_cons_zero, List.set_cons_succ]
        refine AUS_take (by kernel_rfl) rfl (i := 8) (oi := _) (v := ?vw8) rfl (by kernel_rfl) (by kernel_rfl) (by kernel_rfl) (fun _ _ _ h => h) (Or.inl ⟨by rfl, ?hz8⟩) hHeld ?rst8
        case hz8 => (intro wS hSw; obtain ⟨_, f0, f1, f2, f3, _, _⟩ := HS.out wS hSw; clear hSw; go_simp; try with_reducible rfl)
        simp only [Act.put, List.getElem_toArray, List.getElem_cons_zero, List.getElem_cons_succ, List.setIfInBounds_toArray, List.set_cons_zero, List.set_cons_succ]
        have HH := Lib.hid hHeld
        obtain ⟨⟨s0, s1, s2, s3⟩, ⟨s5, s6, s7, s8⟩, s4⟩ := old4 wz5 A4 33 _ _ _ _ (.int .i64 (D0)) (.slice a2 n2 c2) (.int .i64 (D1)) (.slice a4 n4 c4) hn4
        replace l2 := l2.set4 hn4 (by decide) (.int .i64 (D0)) (.slice a2 n2 c2) (.int .i64 (D1)) (.slice a4 n4 c4)
        replace l4 := l4.set4 hn4 (by decide) (.int .i64 (D0)) (.slice a2 n2 c2) (.int .i64 (D1)) (.slice a4 n4 c4)
        have hHeld2 := below_set4 HH.out hge4 (.int .i64 (D0)) (.slice a2 n2 c2) (.int .i64 (D1)) (.slice a4 n4 c4)
        have S4 := Lib.hid s4
        refine AU_one (i := 10) (o := _) (by kernel_rfl) rfl (fun K hK => ?_)
        clear hHeld s4 hn4
        go_simp
        obtain ⟨ws4, ews⟩ : ∃ ws, set4 wz5 A4 (.int .i64 (D0)) (.slice a2 n2 c2) (.int .i64 (D1)) (.slice a4 n4 c4) = ws := ⟨_, rfl⟩
        have ews2 : ((((wz5.setCell ⟨A4, 0, none⟩ (.int .i64 (D0))).setCell ⟨A4, 1, none⟩ (.slice a2 n2 c2)).setCell ⟨A4, 2, none⟩ (.int .i64 (D1))).setCell ⟨A4, 3, none⟩ (.slice a4 n4 c4)) = ws4 := ews
        have hn4 : (set4 wz5 A4 (.int .i64 (D0)) (.slice a2 n2 c2) (.int .i64 (D1)) (.slice a4 n4 c4)).heap[A4]? = some (Obj.cells #[.int .i64 (D0), .slice a2 n2 c2, .int .i64 (D1), .slice a4 n4 c4] 33) := S4.out
        rw [ews] at hHeld2 hn4 l2 l4
        rw [ews2]
        have hHeld := hHeld2
        clear hHeld2 S4 HH ews ews2 s0 s1 s2 s3 s5 s6 s7 s8
        refine hK.out _ _ (fun _ => hHeld) ?_
        clear hK K
        try simp only [Act.put, List.getElem_toArray, List.getElem_cons_zero, List.getElem_cons_succ, List.setIfInBounds_toArray, List.set_cons_zero, List.set_cons_succ]
        have HE := Lib.hid hHeld
        clear hHeld
        refine AU_done (by kernel_rfl) ?_ _
        simp only [OnlyN]
        have hHeld := HE.out
        clear HE
        have HF := Lib.hid (And.intro hn4 (And.intro (LO.le (k := 201) l2) (And.intro (LO.le (k := 201) l4) (And.intro hHeld hge4))))
        clear hHeld hn4 l2 l4
        go_wp2_with fail
        go_meet
        exact ⟨_, _, _, _, _, _, _, rfl, HF⟩
    · skip
      have HH := Lib.hid hHeld
      have hn6 := heap_alloc_new wd1 (Obj.cells #[.int .i64 0, .slice none 0 0, .int .i64 0, .slice none 0 0] 33)
      have hb := below_alloc1 wd1 (Obj.cells #[.int .i64 0, .slice none 0 0, .int .i64 0, .slice none 0 0] 33)
      clear hHeld
      go_simp
      have hHeld := HH.out.trans (hb.mono HH.out.size)
      have hge6 := HH.out.size
      clear hb HH
      obtain ⟨wa6, ewa⟩ : ∃ wa, wa = wd1.alloc (Obj.cells #[.int .i64 0, .slice none 0 0, .int .i64 0, .slice none 0 0] 33) := ⟨_, rfl⟩
      rw [← ewa] at hn6 hHeld ⊢
      obtain ⟨A6, eA⟩ : ∃ A, A = wd1.heap.size := ⟨_, rfl⟩
      rw [← eA] at hn6 hge6 ⊢
      clear ewa eA
      refine hK.out _ _ (fun _ => hHeld) ?_
      clear hK K
      try simp only [Act.put, List.getElem_toArray, List.getElem_cons_zero, List.getElem_cons_succ, List.setIfInBounds_toArray, List.set_cons_zero, List.set_cons_succ]
      have HH := Lib.hid hHeld
      obtain ⟨hbw, _, _, _, _, g0, g1⟩ := HS.out _ hHeld
      refine AU_one (i := 3) (o := _) (by kernel_rfl) rfl (fun K hK => ?_)
      have CC := Lib.hid (rwith_m x 0 g0 hx1 hx2 (by omega))
      clear hHeld hbw g0 g1
      go_simp
      refine CC.out.mono ?_
      clear CC
      rintro e wz7 ⟨a5, n5, c5, rfl, l5, hb⟩
      have hHeld := HH.out.trans (hb.mono HH.out.size)
      replace hn6 := block_below hn6 hb
      clear HH hb
      refine hK.out _ _ (fun _ => hHeld) ?_
      clear hK K
      try simp only [Act.put, List.getElem_toArray, List.getElem_cons_zero, List.getElem_cons_succ, List.setIfInBounds_toArray, List.set_cons_zero, List.set_cons_succ]
      have HH := Lib.hid hHeld
      obtain ⟨hbw, _, _, _, _, g0, g1⟩ := HS.out _ hHeld
      refine AU_one (i := 7) (o := _) (by kernel_rfl) rfl (fun K hK => ?_)
      have CC := Lib.hid (rwith_m x 4 g1 hx1 hx2 (by omega))
      clear hHeld hbw g0 g1
      go_simp
      refine CC.out.mono ?_
      clear CC
      rintro e wz8 ⟨a6, n6, c6, rfl, l6, hb⟩
      have hHeld := HH.out.trans (hb.mono HH.out.size)
      replace l5 := l5.below hb
      replace hn6 := block_below hn6 hb
      clear HH hb
      refine hK.out _ _ (fun _ => hHeld) ?_
      clear hK K
      try simp only [Act.put, List.getElem_toArray, List.getElem_cons_zero, List.getElem_cons_succ, List.setIfInBounds_toArray, List.set_cons_zero, List.set_cons_succ]
      refine AUS_take (by kernel_rfl) rfl (i := 8) (oi := _) (v := ?vw9) rfl (by kernel_rfl) (by kernel_rfl) (by kernel_rfl) (fun _ _ _ h => h) (Or.inl ⟨by rfl, ?hz9⟩) hHeld ?rst9
      case hz9 => (intro wS hSw; obtain ⟨_, f0, f1, f2, f3, _, _⟩ := HS.out wS hSw; clear hSw; go_simp; try with_reducible rfl)
      simp only [Act.put, List.getElem_toArray, List.getElem_cons_zero, List.getElem_cons_succ, List.setIfInBounds_toArray, List.set_cons_zero, List.set_cons_succ]
      have HH := Lib.hid hHeld
      obtain ⟨⟨s0, s1, s2, s3⟩, ⟨s5, s6, s7, s8⟩, s4⟩ := old4 wz8 A6 33 _ _ _ _ (.int .i64 (D0)) (.slice a5 n5 c5) (.int .i64 (D1)) (.slice a6 n6 c6) hn6
      replace l5 := l5.set4 hn6 (by decide) (.int .i64 (D0)) (.slice a5 n5 c5) (.int .i64 (D1)) (.slice a6 n6 c6)
      replace l6 := l6.set4 hn6 (by decide) (.int .i64 (D0)) (.slice a5 n5 c5) (.int .i64 (D1)) (.slice a6 n6 c6)
      have hHeld2 := below_set4 HH.out hge6 (.int .i64 (D0)) (.slice a5 n5 c5) (.int .i64 (D1)) (.slice a6 n6 c6)
      have S4 := Lib.hid s4
      refine AU_one (i := 10) (o := _) (by kernel_rfl) rfl (fun K hK => ?_)
      clear hHeld s4 hn6
      go_simp
      obtain ⟨ws6, ews⟩ : ∃ ws, set4 wz8 A6 (.int .i64 (D0)) (.slice a5 n5 c5) (.int .i64 (D1)) (.slice a6 n6 c6) = ws := ⟨_, rfl⟩
      have ews2 : ((((wz8.setCell ⟨A6, 0, none⟩ (.int .i64 (D0))).setCell ⟨A6, 1, none⟩ (.slice a5 n5 c5)).setCell ⟨A6, 2, none⟩ (.int .i64 (D1))).setCell ⟨A6, 3, none⟩ (.slice a6 n6 c6)) = ws6 := ews
      have hn6 : (set4 wz8 A6 (.int .i64 (D0)) (.slice a5 n5 c5) (.int .i64 (D1)) (.slice a6 n6 c6)).heap[A6]? = some (Obj.cells #[.int .i64 (D0), .slice a5 n5 c5, .int .i64 (D1), .slice a6 n6 c6] 33) := S4.out
      rw [ews] at hHeld2 hn6 l5 l6
      rw [ews2]
      have hHeld := hHeld2
      clear hHeld2 S4 HH ews ews2 s0 s1 s2 s3 s5 s6 s7 s8
      refine hK.out _ _ (fun _ => hHeld) ?_
      clear hK K
      try simp only [Act.put, List.getElem_toArray, List.getElem_cons_zero, List.getElem_cons_succ, List.setIfInBounds_toArray, List.set_cons_zero, List.set_cons_succ]
      have HE := Lib.hid hHeld
      clear hHeld
      refine AU_done (by kernel_rfl) ?_ _
      simp only [OnlyN]
      have hHeld := HE.out
      clear HE
      have HF := Lib.hid (And.intro hn6 (And.intro (LO.le (k := 201) l5) (And.intro (LO.le (k := 201) l6) (And.intro hHeld hge6))))
      clear hHeld hn6 l5 l6
      go_wp2_with fail
      go_meet
      exact ⟨_, _, _, _, _, _, _, rfl, HF⟩
  case rest =>
    obtain ⟨A, a9, n9, c9, a10, n10, c10, rfl, HF⟩ := hcut
    obtain ⟨X, rfl⟩ : ∃ X, X = wc := ⟨_, rfl⟩
    go_upto_region 2 with fail
    obtain ⟨hk0, ⟨B9, h9⟩, ⟨B10, h10⟩, hX, hAge⟩ := HF.out
    have HX := Lib.hid hX
    have hB := (HS.out X hX).1
    have hne : A ≠ w.heap.size + 1 := by have := (Array.getElem?_eq_some_iff.1 (HRES.out _ (Below.refl _ _))).1; omega
    have HNE := Lib.hid hne
    have HLX := Lib.hid (And.intro h9 h10)
    have HBX := Lib.hid hB
    have HRX := Lib.hid (HRES.out _ hX)
    have HKX := Lib.hid hk0
    clear hAge hne h9 h10 hB hX HF
    refine region_AU (Z := fun j => false) (S := fun w' => w'.heap[A]? = some (Obj.cells #[.int .i64 D0, .slice a9 n9 c9, .int .i64 D1, .slice a10 n10 c10] 33)) (by kernel_rfl) (hk0) (fun hHeld => ?_)
    have hBl := (Below.refl X.heap.size X).drew
    clear hk0
    refine AUS_take (by kernel_rfl) rfl (i := 0) (oi := _) (v := ?vw10) rfl (by kernel_rfl) (by kernel_rfl) (by kernel_rfl) (fun _ _ _ h => h) (Or.inl ⟨by rfl, ?hz10⟩) hHeld ?rst10
    case hz10 => (intro wS hSw; have f0 := cell_of_row _ _ 0 _ 33 (0, 0) hSw; have f1 := cell_of_row _ _ 1 _ 33 (0, 0) hSw; have f2 := cell_of_row _ _ 2 _ 33 (0, 0) hSw; have f3 := cell_of_row _ _ 3 _ 33 (0, 0) hSw; simp only [List.getElem?_toArray, List.getElem?_cons_zero, List.getElem?_cons_succ] at f0 f1 f2 f3; clear hSw; go_simp; try with_reducible rfl)
    simp only [Act.put, List.getElem_toArray, List.getElem_cons_zero, List.getElem_cons_succ, List.setIfInBounds_toArray, List.set_cons_zero, List.set_cons_succ]
    refine AUS_take (by kernel_rfl) rfl (i := 1) (oi := _) (v := ?vw11) rfl (by kernel_rfl) (by kernel_rfl) (by kernel_rfl) (fun _ _ _ h => h) (Or.inl ⟨by rfl, ?hz11⟩) hHeld ?rst11
    case hz11 => (intro wS hSw; have f0 := cell_of_row _ _ 0 _ 33 (0, 0) hSw; have f1 := cell_of_row _ _ 1 _ 33 (0, 0) hSw; have f2 := cell_of_row _ _ 2 _ 33 (0, 0) hSw; have f3 := cell_of_row _ _ 3 _ 33 (0, 0) hSw; simp only [List.getElem?_toArray, List.getElem?_cons_zero, List.getElem?_cons_succ] at f0 f1 f2 f3; clear hSw; go_simp; try with_reducible rfl)
    simp only [Act.put, List.getElem_toArray, List.getElem_cons_zero, List.getElem_cons_succ, List.setIfInBounds_toArray, List.set_cons_zero, List.set_cons_succ]
    refine AUS_take (by kernel_rfl) rfl (i := 2) (oi := _) (v := ?vw12) rfl (by kernel_rfl) (by kernel_rfl) (by kernel_rfl) (fun _ _ _ h => h) (Or.inl ⟨by rfl, ?hz12⟩) hHeld ?rst12
    case hz12 => (intro wS hSw; have f0 := cell_of_row _ _ 0 _ 33 (0, 0) hSw; have f1 := cell_of_row _ _ 1 _ 33 (0, 0) hSw; have f2 := cell_of_row _ _ 2 _ 33 (0, 0) hSw; have f3 := cell_of_row _ _ 3 _ 33 (0, 0) hSw; simp only [List.getElem?_toArray, List.getElem?_cons_zero, List.getElem?_cons_succ] at f0 f1 f2 f3; clear hSw; go_simp; try with_reducible rfl)
    simp only [Act.put, List.getElem_toArray, List.getElem_cons_zero, List.getElem_cons_succ, List.setIfInBounds_toArray, List.set_cons_zero, List.set_cons_succ]
    have HH := Lib.hid hHeld
    have HBl := Lib.hid hBl
    obtain ⟨b1, Eb1⟩ : ∃ b, Hid (Lab.right D0 (Lab.put D0 P0 x 0) = b) := ⟨_, Lib.hid rfl⟩
    have CC := rright_m (HLX.out.1.below hBl).la
    rw [Eb1.out] at CC
    have CC := Lib.hid CC
    refine AU_one (i := 3) (o := _) (by kernel_rfl) rfl (fun K hK => ?_)
    clear hHeld hBl
    go_simp
    refine CC.out.mono ?_
    clear CC
    rintro e wz3 ⟨rfl, hb⟩
    have hHeld := block_below HH.out hb
    have hBl := HBl.out.trans (hb.mono HBl.out.size)
    clear HH HBl hb
    refine hK.out _ _ (fun _ => hHeld) ?_
    clear hK K
    try simp only [Act.put, List.getElem_toArray, List.getElem_cons_zero, List.getElem_cons_succ, List.setIfInBounds_toArray, List.set_cons_zero, List.set_cons_succ]
    refine AUS_take (by kernel_rfl) rfl (i := 4) (oi := _) (v := ?vw13) rfl (by kernel_rfl) (by kernel_rfl) (by kernel_rfl) (fun _ _ _ h => h) (Or.inl ⟨by rfl, ?hz13⟩) hHeld ?rst13
    case hz13 => (intro wS hSw; skip; clear hSw; go_simp; try with_reducible rfl)
    simp only [Act.put, List.getElem_toArray, List.getElem_cons_zero, List.getElem_cons_succ, List.setIfInBounds_toArray, List.set_cons_zero, List.set_cons_succ]
    cases b1
    · skip
      refine AUS_take (by kernel_rfl) rfl (i := 5) (oi := _) (v := undef) rfl (by kernel_rfl) (by kernel_rfl) (by kernel_rfl) (fun _ _ _ h => h) (Or.inr ⟨by rfl, rfl⟩) hHeld ?rst14
      try simp only [Act.put, List.getElem_toArray, List.getElem_cons_zero, List.getElem_cons_succ, List.setIfInBounds_toArray, List.set_cons_zero, List.set_cons_succ]
      refine AUS_take (by kernel_rfl) rfl (i := 6) (oi := _) (v := undef) rfl (by kernel_rfl) (by kernel_rfl) (by kernel_rfl) (fun _ _ _ h => h) (Or.inr ⟨by rfl, rfl⟩) hHeld ?rst15
      try simp only [Act.put, List.getElem_toArray, List.getElem_cons_zero, List.getElem_cons_succ, List.setIfInBounds_toArray, List.set_cons_zero, List.set_cons_succ]
      refine AUS_take (by kernel_rfl) rfl (i := 7) (oi := _) (v := undef) rfl (by kernel_rfl) (by kernel_rfl) (by kernel_rfl) (fun _ _ _ h => h) (Or.inr ⟨by rfl, rfl⟩) hHeld ?rst16
      try simp only [Act.put, List.getElem_toArray, List.getElem_cons_zero, List.getElem_cons_succ, List.setIfInBounds_toArray, List.set_cons_zero, List.set_cons_succ]
      refine AUS_take (by kernel_rfl) rfl (i := 8) (oi := _) (v := ?vw17) rfl (by kernel_rfl) (by kernel_rfl) (by kernel_rfl) (fun _ _ _ h => h) (Or.inl ⟨by rfl, ?hz17⟩) hHeld ?rst17
      case hz17 => (intro wS hSw; skip; clear hSw; go_simp; try with_reducible rfl)
      simp only [Act.put, List.getElem_toArray, List.getElem_cons_zero, List.getElem_cons_succ, List.setIfInBounds_toArray, List.set_cons_zero, List.set_cons_succ]
      have HH := Lib.hid hHeld
      have HBl := Lib.hid hBl
      have hr := block_below HRX.out hBl
      obtain ⟨⟨s0, s1, s2, s3⟩, ⟨s5, s6, s7, s8⟩, s4⟩ := old4 wz3 _ 33 _ _ _ _ (.int .i64 D0) (.slice a9 n9 c9) (.int .i64 D1) (.slice a10 n10 c10) hr
      have S4 := Lib.hid s4
      have hH2 := Lib.hid (show (set4 wz3 (w.heap.size + 1) (.int .i64 D0) (.slice a9 n9 c9) (.int .i64 D1) (.slice a10 n10 c10)).heap[A]? = some (Obj.cells #[.int .i64 D0, .slice a9 n9 c9, .int .i64 D1, .slice a10 n10 c10] 33) from by
        rw [heap_setCell_other _ _ _ _ (by exact HNE.out), heap_setCell_other _ _ _ _ (by exact HNE.out), heap_setCell_other _ _ _ _ (by exact HNE.out), heap_setCell_other _ _ _ _ (by exact HNE.out)]; exact hHeld)
      have hE := Lib.hid (below_set4 (A := w.heap.size + 1) (HBX.out.trans (hBl.mono HBX.out.size)) (by omega) (.int .i64 D0) (.slice a9 n9 c9) (.int .i64 D1) (.slice a10 n10 c10))
      refine AU_one (i := 9) (o := _) (by kernel_rfl) rfl (fun K hK => ?_)
      clear hHeld hBl hr s4
      go_simp
      refine hK.out _ _ (fun _ => hH2.out) ?_
      clear hK K s0 s1 s2 s3 s5 s6 s7 s8
      try simp only [Act.put, List.getElem_toArray, List.getElem_cons_zero, List.getElem_cons_succ, List.setIfInBounds_toArray, List.set_cons_zero, List.set_cons_succ]
      have hHeld := hH2.out
      refine AUS_take (by kernel_rfl) rfl (i := 10) (oi := _) (v := ?vw18) rfl (by kernel_rfl) (by kernel_rfl) (by kernel_rfl) (fun _ _ _ h => h) (Or.inl ⟨by rfl, ?hz18⟩) hHeld ?rst18
      case hz18 => (intro wS hSw; skip; clear hSw; go_simp; try with_reducible rfl)
      simp only [Act.put, List.getElem_toArray, List.getElem_cons_zero, List.getElem_cons_succ, List.setIfInBounds_toArray, List.set_cons_zero, List.set_cons_succ]
      clear hHeld
      refine AU_done (by kernel_rfl) ?_ _
      simp only [OnlyN]
      have hfr : fr D0 P0 D1 P1 x = false := by simp [fr, Eb1.out]
      have HL := Lib.hid (show WM w D0 (Lab.put D0 P0 x 0) D1 (Lab.put D1 P1 x 4) (fr D0 P0 D1 P1 x) (.returned (.tuple #[.agg #[.int .i64 D0, .slice a9 n9 c9, .int .i64 D1, .slice a10 n10 c10], .bool false])) (set4 wz3 (w.heap.size + 1) (.int .i64 D0) (.slice a9 n9 c9) (.int .i64 D1) (.slice a10 n10 c10)) from ⟨_, _, _, _, _, _, by rw [hfr], ((HLX.out.1.below HBl.out).set4 (block_below HRX.out HBl.out) (by decide) (.int .i64 D0) (.slice a9 n9 c9) (.int .i64 D1) (.slice a10 n10 c10)).la, ((HLX.out.2.below HBl.out).set4 (block_below HRX.out HBl.out) (by decide) (.int .i64 D0) (.slice a9 n9 c9) (.int .i64 D1) (.slice a10 n10 c10)).la, hE.out⟩)
      clear hfr
      go_wp2_with fail
      refine bodyPost_ret (results_who (by rfl) _ _ (w.heap.size + 1) _ (by rfl) (run_loadVar_row _ (w.heap.size + 1) _ _ _ _ _ S4.out Try.underlying33 rfl infoR)) rfl ?_
      exact HL.out
    · skip
      refine AUS_take (by kernel_rfl) rfl (i := 5) (oi := _) (v := ?vw19) rfl (by kernel_rfl) (by kernel_rfl) (by kernel_rfl) (fun _ _ _ h => h) (Or.inl ⟨by rfl, ?hz19⟩) hHeld ?rst19
      case hz19 => (intro wS hSw; have f0 := cell_of_row _ _ 0 _ 33 (0, 0) hSw; have f1 := cell_of_row _ _ 1 _ 33 (0, 0) hSw; have f2 := cell_of_row _ _ 2 _ 33 (0, 0) hSw; have f3 := cell_of_row _ _ 3 _ 33 (0, 0) hSw; simp only [List.getElem?_toArray, List.getElem?_cons_zero, List.getElem?_cons_succ] at f0 f1 f2 f3; clear hSw; go_simp; try with_reducible rfl)
      simp only [Act.put, List.getElem_toArray, List.getElem_cons_zero, List.getElem_cons_succ, List.setIfInBounds_toArray, List.set_cons_zero, List.set_cons_succ]
      refine AUS_take (by kernel_rfl) rfl (i := 6) (oi := _) (v := ?vw20) rfl (by kernel_rfl) (by kernel_rfl) (by kernel_rfl) (fun _ _ _ h => h) (Or.inl ⟨by rfl, ?hz20⟩) hHeld ?rst20
      case hz20 => (intro wS hSw; have f0 := cell_of_row _ _ 0 _ 33 (0, 0) hSw; have f1 := cell_of_row _ _ 1 _ 33 (0, 0) hSw; have f2 := cell_of_row _ _ 2 _ 33 (0, 0) hSw; have f3 := cell_of_row _ _ 3 _ 33 (0, 0) hSw; simp only [List.getElem?_toArray, List.getElem?_cons_zero, List.getElem?_cons_succ] at f0 f1 f2 f3; clear hSw; go_simp; try with_reducible rfl)
      simp only [Act.put, List.getElem_toArray, List.getElem_cons_zero, List.getElem_cons_succ, List.setIfInBounds_toArray, List.set_cons_zero, List.set_cons_succ]
      have HH := Lib.hid hHeld
      have HBl := Lib.hid hBl
      obtain ⟨b2, Eb2⟩ : ∃ b, Hid (Lab.right D1 (Lab.put D1 P1 x 4) = b) := ⟨_, Lib.hid rfl⟩
      have CC := rright_m (HLX.out.2.below hBl).la
      rw [Eb2.out] at CC
      have CC := Lib.hid CC
      refine AU_one (i := 7) (o := _) (by kernel_rfl) rfl (fun K hK => ?_)
      clear hHeld hBl
      go_simp
      refine CC.out.mono ?_
      clear CC
      rintro e wz7 ⟨rfl, hb⟩
      have hHeld := block_below HH.out hb
      have hBl := HBl.out.trans (hb.mono HBl.out.size)
      clear HH HBl hb
      refine hK.out _ _ (fun _ => hHeld) ?_
      clear hK K
      try simp only [Act.put, List.getElem_toArray, List.getElem_cons_zero, List.getElem_cons_succ, List.setIfInBounds_toArray, List.set_cons_zero, List.set_cons_succ]
      refine AUS_take (by kernel_rfl) rfl (i := 8) (oi := _) (v := ?vw21) rfl (by kernel_rfl) (by kernel_rfl) (by kernel_rfl) (fun _ _ _ h => h) (Or.inl ⟨by rfl, ?hz21⟩) hHeld ?rst21
      case hz21 => (intro wS hSw; skip; clear hSw; go_simp; try with_reducible rfl)
      simp only [Act.put, List.getElem_toArray, List.getElem_cons_zero, List.getElem_cons_succ, List.setIfInBounds_toArray, List.set_cons_zero, List.set_cons_succ]
      have HH := Lib.hid hHeld
      have HBl := Lib.hid hBl
      have hr := block_below HRX.out hBl
      obtain ⟨⟨s0, s1, s2, s3⟩, ⟨s5, s6, s7, s8⟩, s4⟩ := old4 wz7 _ 33 _ _ _ _ (.int .i64 D0) (.slice a9 n9 c9) (.int .i64 D1) (.slice a10 n10 c10) hr
      have S4 := Lib.hid s4
      have hH2 := Lib.hid (show (set4 wz7 (w.heap.size + 1) (.int .i64 D0) (.slice a9 n9 c9) (.int .i64 D1) (.slice a10 n10 c10)).heap[A]? = some (Obj.cells #[.int .i64 D0, .slice a9 n9 c9, .int .i64 D1, .slice a10 n10 c10] 33) from by
        rw [heap_setCell_other _ _ _ _ (by exact HNE.out), heap_setCell_other _ _ _ _ (by exact HNE.out), heap_setCell_other _ _ _ _ (by exact HNE.out), heap_setCell_other _ _ _ _ (by exact HNE.out)]; exact hHeld)
      have hE := Lib.hid (below_set4 (A := w.heap.size + 1) (HBX.out.trans (hBl.mono HBX.out.size)) (by omega) (.int .i64 D0) (.slice a9 n9 c9) (.int .i64 D1) (.slice a10 n10 c10))
      refine AU_one (i := 9) (o := _) (by kernel_rfl) rfl (fun K hK => ?_)
      clear hHeld hBl hr s4
      go_simp
      refine hK.out _ _ (fun _ => hH2.out) ?_
      clear hK K s0 s1 s2 s3 s5 s6 s7 s8
      try simp only [Act.put, List.getElem_toArray, List.getElem_cons_zero, List.getElem_cons_succ, List.setIfInBounds_toArray, List.set_cons_zero, List.set_cons_succ]
      have hHeld := hH2.out
      refine AUS_take (by kernel_rfl) rfl (i := 10) (oi := _) (v := ?vw22) rfl (by kernel_rfl) (by kernel_rfl) (by kernel_rfl) (fun _ _ _ h => h) (Or.inl ⟨by rfl, ?hz22⟩) hHeld ?rst22
      case hz22 => (intro wS hSw; skip; clear hSw; go_simp; try with_reducible rfl)
      simp only [Act.put, List.getElem_toArray, List.getElem_cons_zero, List.getElem_cons_succ, List.setIfInBounds_toArray, List.set_cons_zero, List.set_cons_succ]
      clear hHeld
      refine AU_done (by kernel_rfl) ?_ _
      simp only [OnlyN]
      have hfr : fr D0 P0 D1 P1 x = b2 := by simp [fr, Eb1.out, Eb2.out]
      have HL := Lib.hid (show WM w D0 (Lab.put D0 P0 x 0) D1 (Lab.put D1 P1 x 4) (fr D0 P0 D1 P1 x) (.returned (.tuple #[.agg #[.int .i64 D0, .slice a9 n9 c9, .int .i64 D1, .slice a10 n10 c10], .bool b2])) (set4 wz7 (w.heap.size + 1) (.int .i64 D0) (.slice a9 n9 c9) (.int .i64 D1) (.slice a10 n10 c10)) from ⟨_, _, _, _, _, _, by rw [hfr], ((HLX.out.1.below HBl.out).set4 (block_below HRX.out HBl.out) (by decide) (.int .i64 D0) (.slice a9 n9 c9) (.int .i64 D1) (.slice a10 n10 c10)).la, ((HLX.out.2.below HBl.out).set4 (block_below HRX.out HBl.out) (by decide) (.int .i64 D0) (.slice a9 n9 c9) (.int .i64 D1) (.slice a10 n10 c10)).la, hE.out⟩)
      clear hfr
      go_wp2_with fail
      refine bodyPost_ret (results_who (by rfl) _ _ (w.heap.size + 1) _ (by rfl) (run_loadVar_row _ (w.heap.size + 1) _ _ _ _ _ S4.out Try.underlying33 rfl infoR)) rfl ?_
      exact HL.out
set_option maxHeartbeats 2000000 in
set_option maxRecDepth 100000 in
theorem samew_m {w : World} {D0 : Int} {a0 : Option Addr} {n0 c0 : Nat} {P0 : LP} {D1 : Int} {a1 : Option Addr} {n1 c1 : Nat} {P1 : LP} {D2 : Int} {a2 : Option Addr} {n2 c2 : Nat} {P2 : LP} {D3 : Int} {a3 : Option Addr} {n3 c3 : Nat} {P3 : LP} (h0 : LA 1000 w D0 a0 n0 c0 P0) (h1 : LA 1000 w D1 a1 n1 c1 P1) (h2 : LA 1000 w D2 a2 n2 c2 P2) (h3 : LA 1000 w D3 a3 n3 c3 P3)  : Calls Try.prog 38 #[.agg #[.int .i64 D0, .slice a0 n0 c0, .int .i64 D1, .slice a1 n1 c1], .agg #[.int .i64 D2, .slice a2 n2 c2, .int .i64 D3, .slice a3 n3 c3]] w (BB w (decide (D0 = D2 ∧ P0 = P2) && decide (D1 = D3 ∧ P1 = P3))) := by
  obtain ⟨W0, e0⟩ : ∃ W0, W0 = ((w.alloc (Obj.cells #[.int .i64 D0, .slice a0 n0 c0, .int .i64 D1, .slice a1 n1 c1] 32)).alloc (Obj.cells #[.int .i64 D2, .slice a2 n2 c2, .int .i64 D3, .slice a3 n3 c3] 33)) := ⟨_, rfl⟩
  have hB : Below w.heap.size w W0 := by rw [e0]; exact (((Below.refl w.heap.size w).alloc (by omega) _).alloc (by simp <;> omega) _)
  have hk0 : W0.heap[w.heap.size]? = some (Obj.cells #[.int .i64 D0, .slice a0 n0 c0, .int .i64 D1, .slice a1 n1 c1] 32) := by
    rw [e0]
    rw [Below.heap_alloc _ _ _ (by simp <;> omega)]
    have := heap_alloc_new w (Obj.cells #[.int .i64 D0, .slice a0 n0 c0, .int .i64 D1, .slice a1 n1 c1] 32); simpa using this
  have hk1 : W0.heap[w.heap.size + 1]? = some (Obj.cells #[.int .i64 D2, .slice a2 n2 c2, .int .i64 D3, .slice a3 n3 c3] 33) := by
    rw [e0]
    have := heap_alloc_new (w.alloc (Obj.cells #[.int .i64 D0, .slice a0 n0 c0, .int .i64 D1, .slice a1 n1 c1] 32)) (Obj.cells #[.int .i64 D2, .slice a2 n2 c2, .int .i64 D3, .slice a3 n3 c3] 33); simpa using this
  have HS := Lib.hid (fun (wx : World) (hx : Below W0.heap.size W0 wx) => (by
      have hw : Below w.heap.size w wx := hB.trans (hx.mono hB.size)
      have r0 := (hx.block _ (Array.getElem?_eq_some_iff.1 hk0).1).trans hk0
      have r1 := (hx.block _ (Array.getElem?_eq_some_iff.1 hk1).1).trans hk1
      exact ⟨hw, by rw [cell_of_row _ _ 0 _ 32 (0, 0) r0]; rfl, by rw [cell_of_row _ _ 1 _ 32 (0, 0) r0]; rfl, by rw [cell_of_row _ _ 2 _ 32 (0, 0) r0]; rfl, by rw [cell_of_row _ _ 3 _ 32 (0, 0) r0]; rfl, by rw [cell_of_row _ _ 0 _ 33 (0, 0) r1]; rfl, by rw [cell_of_row _ _ 1 _ 33 (0, 0) r1]; rfl, by rw [cell_of_row _ _ 2 _ 33 (0, 0) r1]; rfl, by rw [cell_of_row _ _ 3 _ 33 (0, 0) r1]; rfl, h0.below hw, h1.below hw, h2.below hw, h3.below hw⟩ : Below w.heap.size w wx ∧ wx.cell? ⟨w.heap.size, 0, none⟩ = some (.int .i64 D0) ∧ wx.cell? ⟨w.heap.size, 1, none⟩ = some (.slice a0 n0 c0) ∧ wx.cell? ⟨w.heap.size, 2, none⟩ = some (.int .i64 D1) ∧ wx.cell? ⟨w.heap.size, 3, none⟩ = some (.slice a1 n1 c1) ∧ wx.cell? ⟨w.heap.size + 1, 0, none⟩ = some (.int .i64 D2) ∧ wx.cell? ⟨w.heap.size + 1, 1, none⟩ = some (.slice a2 n2 c2) ∧ wx.cell? ⟨w.heap.size + 1, 2, none⟩ = some (.int .i64 D3) ∧ wx.cell? ⟨w.heap.size + 1, 3, none⟩ = some (.slice a3 n3 c3) ∧ LA 1000 wx D0 a0 n0 c0 P0 ∧ LA 1000 wx D1 a1 n1 c1 P1 ∧ LA 1000 wx D2 a2 n2 c2 P2 ∧ LA 1000 wx D3 a3 n3 c3 P3))
  clear h0 h1 h2 h3 hB hk0 hk1
  go_enter Try.func38, Try.ntmps38
  go_upto_region 1 with fail
  rw [← e0]
  clear e0
  have hHeld := Below.refl W0.heap.size W0
  have HH := Lib.hid hHeld
  obtain ⟨hbw, _, _, _, _, _, _, _, _, g0, g1, g2, g3⟩ := HS.out _ hHeld
  obtain ⟨b1, E1⟩ : ∃ b, Hid (decide (D0 = D2 ∧ P0 = P2) = b) := ⟨_, Lib.hid rfl⟩
  have CC := ysame_m g0 g2
  rw [E1.out] at CC
  have CC := Lib.hid CC
  clear hHeld hbw g0 g1 g2 g3
  obtain ⟨_, f0, f1, f2, f3, f4, f5, f6, f7, _, _, _, _⟩ := HS.out _ HH.out
  go_wp2_with fail
  refine CC.out.mono ?_
  clear CC f0 f1 f2 f3 f4 f5 f6 f7
  rintro e wz1 ⟨rfl, hb⟩
  have hHeld := HH.out.trans (hb.mono HH.out.size)
  clear HH hb
  cases b1
  · skip
    have HE := Lib.hid (HS.out _ hHeld).1
    clear hHeld
    go_wp2_with fail
    go_ret
    exact ⟨by simp [E1.out], HE.out⟩
  · skip
    have HH := Lib.hid hHeld
    obtain ⟨hbw, _, _, _, _, _, _, _, _, g0, g1, g2, g3⟩ := HS.out _ hHeld
    obtain ⟨b2, E2⟩ : ∃ b, Hid (decide (D1 = D3 ∧ P1 = P3) = b) := ⟨_, Lib.hid rfl⟩
    have CC := ysame_m g1 g3
    rw [E2.out] at CC
    have CC := Lib.hid CC
    clear hHeld hbw g0 g1 g2 g3
    obtain ⟨_, f0, f1, f2, f3, f4, f5, f6, f7, _, _, _, _⟩ := HS.out _ HH.out
    go_wp2_with fail
    refine CC.out.mono ?_
    clear CC f0 f1 f2 f3 f4 f5 f6 f7
    rintro e wz2 ⟨rfl, hb⟩
    have hHeld := HH.out.trans (hb.mono HH.out.size)
    clear HH hb
    have HE := Lib.hid (HS.out _ hHeld).1
    clear hHeld
    go_wp2_with fail
    go_ret
    exact ⟨by simp [E1.out, E2.out], HE.out⟩
end Go.Proofs.Ytmbdglhihakkjaa
