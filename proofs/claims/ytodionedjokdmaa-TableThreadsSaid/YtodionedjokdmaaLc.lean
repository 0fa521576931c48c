/- TableThreads, walked. -/
import Derived.Test.YtodionedjokdmaaLb
set_option linter.unusedVariables false
set_option linter.unusedSimpArgs false
namespace Go.Proofs.Ytodionedjokdmaa
open Go.RowKit
set_option linter.unusedVariables false
set_option linter.unusedSimpArgs false
/-- All of the law's: the table and its lists. -/
def AS (W : World) (t A0 : Nat) (xs : List Int) (j : Nat) (w : World) : Prop := ∃ M ns G T vs R, TS W T t M ns G w ∧ (∀ b ∈ T, W.heap.size ≤ b) ∧ WS T A0 xs j vs R w ∧ TG G xs j ∧ ns.length = j + 1
/-- All but some blocks reads as before. -/
def KB (R : List Nat) (w w' : World) : Prop := (∀ b, b < w.heap.size → b ∉ R → w'.heap[b]? = w.heap[b]?) ∧ w.heap.size ≤ w'.heap.size
theorem KB.drew (R : List Nat) (w : World) : KB R w w.drew := ⟨fun _ _ _ => rfl, Nat.le_refl _⟩
theorem KB.cell {R : List Nat} {w w' : World} (h : KB R w w') {b i : Nat} (hb : b < w.heap.size) (hR : b ∉ R) : w'.cell? ⟨b, i, none⟩ = w.cell? ⟨b, i, none⟩ := by rw [World.cell?, World.cell?, h.1 b hb hR]
set_option maxHeartbeats 4000000 in
set_option maxRecDepth 100000 in
theorem threads_all (A : Option Addr) (n c : Nat) (xs : List Int) (W : World) (hc : n ≤ c) (hm : c ≤ maxLen) (hl : xs.length = n) (hr : LR inI W A xs) : Calls Try.prog 4 #[.slice A n c] W fun e w' => e = .returned (.bool true) ∧ Below W.heap.size W w' := by
  have CF := Lib.hid (fit_any W)
  by_cases hn : 100 < n
  · have q : (n : Int) > 100 := by omega
    clear hc hm hl hr hn
    go_enter Try.func4, Try.ntmps4
    go_wp2_with fail
    refine CF.out.mono ?_; rintro e w1 ⟨rfl, hb⟩
    have HB := Lib.hid hb
    clear hb
    go_wp2_with fail
    go_ret
    exact ⟨rfl, HB.out⟩
  have q : ¬ (n : Int) > 100 := by omega
  have HN := Lib.hid (And.intro hn (And.intro hl hr))
  clear hc hm hl hr hn
  go_enter Try.func4, Try.ntmps4
  go_wp2_with fail
  refine CF.out.mono ?_; rintro e w1 ⟨rfl, hb⟩
  have HB := Lib.hid hb
  have CN := Lib.hid (new_any w1)
  clear hb CF
  go_wp2_with fail
  refine CN.out.mono ?_; rintro e w2 ⟨rfl, rfl⟩
  clear CN q
  have h1 := TS.new (W := W) (T := []) HB.out (by simp)
  obtain ⟨t, et⟩ : ∃ t, w1.heap.size = t := ⟨_, rfl⟩
  obtain ⟨w2, e2⟩ : ∃ w2, w1.alloc (Obj.cells #[.map none] 92) = w2 := ⟨_, rfl⟩
  rw [e2, et] at h1
  rw [e2, et]
  have ho1 := OB.new (w := w2) (nm := 1) (hm := 0) (own := own_ W []) (u64_of (by omega)) (u64_of (by omega)) 1 0 (own_new h1 (Nat.le_refl _))
  have h2 := h1.below (below_alloc1 w2 (Obj.cells (ocs Try.zeroCells60 (.int .u64 ((1 : Nat) : Int)) (.int .i64 1) (.int .u64 ((0 : Nat) : Int))) 60))
  have C2 := Lib.hid (add_any h2 ho1 (fun k o' h => by cases h) (by simp))
  rw [show may (fun _ => none) 1 ⟨w2.heap.size, 1, 0, [], none, 0⟩ = true from rfl] at C2
  rw [show ((1 : Nat) : Int) = 1 from rfl, show ((0 : Nat) : Int) = 0 from rfl, ← ocs2] at C2
  clear e2 h1 h2 ho1 et
  go_wp2_with fail
  refine C2.out.mono ?_; rintro e w3 ⟨rfl, ⟨M3, h3⟩, _⟩
  simp only [if_true, List.nil_append] at h3
  replace h3 : TS W [] t M3 [1] (updN (fun _ => none) 1 (some ⟨w2.heap.size, 1, 0, [], none, 0⟩)) w3 := h3
  have h4 := h3.alloc (Obj.cells #[.slice none 0 0, .slice none 0 0, .slice none 0 0, .slice none 0 0] 61)
  have ha4 := heap_alloc_new w3 (Obj.cells #[.slice none 0 0, .slice none 0 0, .slice none 0 0, .slice none 0 0] 61)
  obtain ⟨A0, eA0⟩ : ∃ A0, w3.heap.size = A0 := ⟨_, rfl⟩
  obtain ⟨w4, e4⟩ : ∃ w4, w3.alloc (Obj.cells #[.slice none 0 0, .slice none 0 0, .slice none 0 0, .slice none 0 0] 61) = w4 := ⟨_, rfl⟩
  have hA0 : W.heap.size ≤ A0 := by rw [← eA0]; exact h3.b.size
  rw [e4, eA0] at h4 ha4
  have HS : Hid (AS W t A0 xs 0 w4) := Lib.hid ⟨_, _, _, _, fun _ => .slice none 0 0, fun _ => [], h4, by simpa using hA0, ⟨ha4, by simp, fun c hc => RW.nil _ _, by simp, fun _ _ => by simp, fun _ _ _ _ _ _ => by simp⟩, ⟨⟨_, rfl⟩, fun i x hi => by omega, fun k h1 _ => updN_other _ _ h1⟩, rfl⟩
  have HE := Lib.hid (And.intro e4 eA0)
  clear C2 h3 h4 ha4 e4 eA0 hA0
  have hnn := HN.out.1
  go_upto_region 8 with fail
  rw [HE.out.1, HE.out.2]
  clear HE
  go_wp2_with fail
  go_loopg [24] n (fun gh v24 wr => ∃ (j : Nat), j ≤ n ∧ n - j ≤ gh ∧ v24 = .int .i64 j ∧ Hid (AS W t A0 xs j wr))
  case atStart => exact ⟨0, Nat.zero_le _, by omega, rfl, HS⟩
  case round =>
    clear HS
    obtain ⟨j, hj, hg, rfl, hI⟩ := hrel
    by_cases hlt : j < n
    · obtain ⟨M, ns, G, T, vs, R, hT, hTW, hW4, hK, hns⟩ := hI.out
      obtain ⟨x, hx⟩ : ∃ x, xs[j]? = some x := ⟨_, List.getElem?_eq_getElem (by have := HN.out.2.1; omega)⟩
      obtain ⟨ab, ao, rfl, abl, c0⟩ := (HN.out.2.2.below hT.b) j x hx
      unfold inI at c0
      obtain ⟨m, em, hm2⟩ := and1 x
      obtain ⟨cc, ecc, hcc4⟩ := and3 (x / 2)
      obtain ⟨nm, enm⟩ : ∃ nm : Nat, j + 2 = nm := ⟨_, rfl⟩
      have i0 : IntKind.i64.wrap ((j : Int) + 2) = (nm : Int) := by rw [IntKind.wrap_i64]; omega
      have i2 : IntKind.u64.wrap (nm : Int) = (nm : Int) := by rw [IntKind.wrap_u64]; omega
      have i1 : IntKind.i64.wrap ((j : Int) + 1) = ((j + 1 : Nat) : Int) := by rw [IntKind.wrap_i64]; omega
      have l1 : (j : Int) < n := by omega
      have ho5 := OB.new (w := wr) (nm := nm) (hm := 1) (own := own_ W T) (u64_of (by omega)) (u64_of (by omega)) 2 0 (own_new hT (Nat.le_refl _))
      have b5 := below_alloc1 wr (Obj.cells (ocs Try.zeroCells60 (.int .u64 (nm : Int)) (.int .i64 2) (.int .u64 ((1 : Nat) : Int))) 60)
      have HJ := Lib.hid (show j + 1 ≤ n ∧ j < n ∧ n ≤ 100 ∧ j + 2 = nm ∧ cc < 4 by omega)
      by_cases hodd : m = 1
      · subst hodd
        clear ho5 b5
        obtain ⟨W5, e5⟩ : ∃ W5, (wr.alloc (Obj.cells (((((Try.zeroCells60.setIfInBounds 2 (.int .u64 (nm : Int))).setIfInBounds 3 (.int .i64 2)).setIfInBounds 6 (.int .u64 1)).setIfInBounds 3 (.int .i64 3)).setIfInBounds 19 (.pointer (some ⟨wr.heap.size + 1, 0, none⟩))) 60)).alloc (Obj.cells #[.int .u64 0, .int .u64 0, .int .u64 0, .int .u64 0, .int .u64 0, .int .u64 0, .int .u64 0, .int .u64 0, .int .u64 0, .int .u64 0, .int .u64 0, .int .u64 0, .int .u64 0, .int .u64 0, .int .u64 0, .int .u64 0, .int .u64 0, .int .i64 0, .slice none 0 0, .int .u64 0, .int .i64 0, .int .i64 (cc : Int), .int .i64 0, .int .i64 0, .int .i64 0, .int .i64 0, .int .u64 0, .int .i64 0, .int .u64 0, .int .u64 0, .int .u64 0, .int .u64 0, .int .u64 0, .int .u64 0, .int .u64 0, .int .i64 0, .int .i64 0, .slice none 0 0, .int .i64 0, .slice none 0 0, .slice none 0 0, .int .i64 0, .slice none 0 0] 74) = W5 := ⟨_, rfl⟩
        obtain ⟨b5, eb5⟩ : ∃ b5, wr.heap.size = b5 := ⟨_, rfl⟩
        have hb5 : Below wr.heap.size wr W5 := by rw [← e5]; exact ((Below.refl _ _).alloc (Nat.le_refl _) _).alloc (by simp) _
        have ho5 : OB (own_ W T) W5 nm ⟨b5, 3, 1, [], some (b5 + 1), (cc : Int)⟩ := by
          rw [← e5, ← eb5]
          exact ob_thread (u64_of (by have := HJ.out; omega)) (own_new hT (Nat.le_refl _)) (own_new hT (by omega))
        have hT5 := hT.below hb5
        have hW5 := hW4.same (hT.same hb5)
        obtain ⟨hca, hfa⟩ := hW5.at_ HJ.out.2.2.2.2
        have hcn := ho5.cells.1
        have hl5 := ho5.lt
        unfold inU at hcn
        simp only at hcn hl5
        have hAl := hT5.tl A0 hW5.aT
        have HF := Lib.hid (fun (wS : World) (hS : KB (R cc) W5 wS) => (⟨by rw [hS.cell hAl (hW5.aR cc HJ.out.2.2.2.2)]; exact hca, by rw [hS.cell hl5 (fun hm => ho5.1.2 (hW5.rT cc HJ.out.2.2.2.2 _ hm))]; exact hcn⟩ :
          wS.cell? ⟨A0, cc, none⟩ = some (vs cc) ∧ wS.cell? ⟨b5, 2, none⟩ = some (.int .u64 (nm : Int))))
        
        have HE5 := Lib.hid (And.intro e5 eb5)
        have HW := Lib.hid (And.intro hT5 (And.intro hTW (And.intro hW5 (And.intro hK (And.intro ho5 (And.intro hns hx))))))
        have HX := Lib.hid (show odd x = true ∧ core x = (cc : Int) from ⟨by unfold odd; rw [em]; rfl, by unfold core; exact ecc⟩)
        have l4 : (cc : Int) < 4 := by have := HJ.out.2.2.2.2; omega
        clear hT5 hTW hW5 hK ho5 hns hx e5 eb5 hb5 hca hfa hcn hl5 hAl hT hW4 hI hlt hj abl hcc4 enm hm2
        go_upto_region 14 with fail
        rw [HE5.out.1, HE5.out.2]
        clear HE5 c0 em
        refine region_AU (Z := fun j => j == 15) (S := fun w' => KB (R cc) W5 w') (by kernel_rfl) (KB.drew _ _) (fun hHeld => ?_)
        refine AUS_take (by kernel_rfl) rfl (i := 0) (oi := _) (v := ?vw1) rfl (by kernel_rfl) (by kernel_rfl) (by kernel_rfl) (fun _ _ _ h => h) (Or.inl ⟨by rfl, ?hz1⟩) hHeld ?rst1
        case hz1 => (intro wS hSw; clear hSw; go_simp; try with_reducible rfl)
        simp only [Act.put, List.getElem_toArray, List.getElem_cons_zero, List.getElem_cons_succ, List.setIfInBounds_toArray, List.set_cons_zero, List.set_cons_succ]
        refine AUS_take (by kernel_rfl) rfl (i := 1) (oi := _) (v := ?vw2) rfl (by kernel_rfl) (by kernel_rfl) (by kernel_rfl) (fun _ _ _ h => h) (Or.inl ⟨by rfl, ?hz2⟩) hHeld ?rst2
        case hz2 => (intro wS hSw; clear hSw; go_simp; try with_reducible rfl)
        simp only [Act.put, List.getElem_toArray, List.getElem_cons_zero, List.getElem_cons_succ, List.setIfInBounds_toArray, List.set_cons_zero, List.set_cons_succ]
        refine AUS_take (by kernel_rfl) rfl (i := 2) (oi := _) (v := ?vw3) rfl (by kernel_rfl) (by kernel_rfl) (by kernel_rfl) (fun _ _ _ h => h) (Or.inl ⟨by rfl, ?hz3⟩) hHeld ?rst3
        case hz3 => (intro wS hSw; clear hSw; go_simp; try with_reducible rfl)
        simp only [Act.put, List.getElem_toArray, List.getElem_cons_zero, List.getElem_cons_succ, List.setIfInBounds_toArray, List.set_cons_zero, List.set_cons_succ]
        refine AUS_take (by kernel_rfl) rfl (i := 3) (oi := _) (v := ?vw4) rfl (by kernel_rfl) (by kernel_rfl) (by kernel_rfl) (fun _ _ _ h => h) (Or.inl ⟨by rfl, ?hz4⟩) hHeld ?rst4
        case hz4 => (intro wS hSw; clear hSw; go_simp; try with_reducible rfl)
        simp only [Act.put, List.getElem_toArray, List.getElem_cons_zero, List.getElem_cons_succ, List.setIfInBounds_toArray, List.set_cons_zero, List.set_cons_succ]
        refine AUS_take (by kernel_rfl) rfl (i := 4) (oi := _) (v := ?vw5) rfl (by kernel_rfl) (by kernel_rfl) (by kernel_rfl) (fun _ _ _ h => h) (Or.inl ⟨by rfl, ?hz5⟩) hHeld ?rst5
        case hz5 => (intro wS hSw; clear hSw; go_simp; try with_reducible rfl)
        simp only [Act.put, List.getElem_toArray, List.getElem_cons_zero, List.getElem_cons_succ, List.setIfInBounds_toArray, List.set_cons_zero, List.set_cons_succ]
        refine AUS_take (by kernel_rfl) rfl (i := 5) (oi := _) (v := ?vw6) rfl (by kernel_rfl) (by kernel_rfl) (by kernel_rfl) (fun _ _ _ h => h) (Or.inl ⟨by rfl, ?hz6⟩) hHeld ?rst6
        case hz6 => (intro wS hSw; clear hSw; go_simp; try with_reducible rfl)
        simp only [Act.put, List.getElem_toArray, List.getElem_cons_zero, List.getElem_cons_succ, List.setIfInBounds_toArray, List.set_cons_zero, List.set_cons_succ]
        refine AUS_take (by kernel_rfl) rfl (i := 6) (oi := _) (v := ?vw7) rfl (by kernel_rfl) (by kernel_rfl) (by kernel_rfl) (fun _ _ _ h => h) (Or.inl ⟨by rfl, ?hz7⟩) hHeld ?rst7
        case hz7 => (intro wS hSw; clear hSw; go_simp; try with_reducible rfl)
        simp only [Act.put, List.getElem_toArray, List.getElem_cons_zero, List.getElem_cons_succ, List.setIfInBounds_toArray, List.set_cons_zero, List.set_cons_succ]
        refine AUS_take (by kernel_rfl) rfl (i := 7) (oi := _) (v := ?vw8) rfl (by kernel_rfl) (by kernel_rfl) (by kernel_rfl) (fun _ _ _ h => h) (Or.inl ⟨by rfl, ?hz8⟩) hHeld ?rst8
        case hz8 => (intro wS hSw; obtain ⟨f1, f2⟩ := HF.out wS hSw; clear hSw; go_simp; try with_reducible rfl)
        simp only [Act.put, List.getElem_toArray, List.getElem_cons_zero, List.getElem_cons_succ, List.setIfInBounds_toArray, List.set_cons_zero, List.set_cons_succ]
        refine AUS_take (by kernel_rfl) rfl (i := 8) (oi := _) (v := ?vw9) rfl (by kernel_rfl) (by kernel_rfl) (by kernel_rfl) (fun _ _ _ h => h) (Or.inl ⟨by rfl, ?hz9⟩) hHeld ?rst9
        case hz9 => (intro wS hSw; clear hSw; go_simp; try with_reducible rfl)
        simp only [Act.put, List.getElem_toArray, List.getElem_cons_zero, List.getElem_cons_succ, List.setIfInBounds_toArray, List.set_cons_zero, List.set_cons_succ]
        refine AUS_take (by kernel_rfl) rfl (i := 9) (oi := _) (v := ?vw10) rfl (by kernel_rfl) (by kernel_rfl) (by kernel_rfl) (fun _ _ _ h => h) (Or.inl ⟨by rfl, ?hz10⟩) hHeld ?rst10
        case hz10 => (intro wS hSw; clear hSw; go_simp; try with_reducible rfl)
        simp only [Act.put, List.getElem_toArray, List.getElem_cons_zero, List.getElem_cons_succ, List.setIfInBounds_toArray, List.set_cons_zero, List.set_cons_succ]
        refine AUS_take (by kernel_rfl) rfl (i := 10) (oi := _) (v := ?vw11) rfl (by kernel_rfl) (by kernel_rfl) (by kernel_rfl) (fun _ _ _ h => h) (Or.inl ⟨by rfl, ?hz11⟩) hHeld ?rst11
        case hz11 => (intro wS hSw; clear hSw; go_simp; try with_reducible rfl)
        simp only [Act.put, List.getElem_toArray, List.getElem_cons_zero, List.getElem_cons_succ, List.setIfInBounds_toArray, List.set_cons_zero, List.set_cons_succ]
        refine AUS_take (by kernel_rfl) rfl (i := 11) (oi := _) (v := ?vw12) rfl (by kernel_rfl) (by kernel_rfl) (by kernel_rfl) (fun _ _ _ h => h) (Or.inl ⟨by rfl, ?hz12⟩) hHeld ?rst12
        case hz12 => (intro wS hSw; obtain ⟨f1, f2⟩ := HF.out wS hSw; clear hSw; go_simp; try with_reducible rfl)
        simp only [Act.put, List.getElem_toArray, List.getElem_cons_zero, List.getElem_cons_succ, List.setIfInBounds_toArray, List.set_cons_zero, List.set_cons_succ]
        refine AU_one (i := 12) (o := _) (by kernel_rfl) rfl (fun K hK => ?_)
        obtain ⟨w6, e6⟩ : ∃ w6, (W5.alloc (Obj.cells #[.int .u64 (nm : Int)] 28)).drew = w6 := ⟨_, rfl⟩
        obtain ⟨Q, eQ⟩ : ∃ Q, W5.heap.size = Q := ⟨_, rfl⟩
        obtain ⟨hT5, hTW, hW5, -⟩ := HW.out
        obtain ⟨v7, w7, g, hrun, hT7, hTW7, hrow7, hg7, hblk7, hsz7⟩ := lapp2 (y := nm) 27 hT5.drew hTW (TL := R cc) (hW5.same (w' := W5.drew) (fun _ _ => rfl) |>.r cc HJ.out.2.2.2.2) (hW5.rT cc HJ.out.2.2.2.2) (by have := wnt_len xs cc j; have := HJ.out; omega)
        have hrun : (Builtin.append_ #[27, 27] 27 #[vs cc, .slice (some ⟨Q, 0, none⟩) 1 1]).run Try.prog w6 = .ok v7 w7 := by rw [← e6, ← eQ]; exact hrun
        have hHeld6 : KB (R cc) W5 w6 := by
          rw [← e6]
          exact ⟨fun b hb _ => (below_alloc1 W5 _).block b hb, (below_alloc1 W5 (Obj.cells #[.int .u64 (nm : Int)] 28)).size⟩
        have HE6 := Lib.hid (And.intro e6 eQ)
        obtain ⟨A7, c7, ev7, _⟩ := hrow7.form
        obtain ⟨l7, el7⟩ : ∃ l7, (wnt xs cc j ++ [nm]).length = l7 := ⟨_, rfl⟩
        rw [el7] at ev7
        subst ev7
        have H7 := Lib.hid (And.intro hT7 (And.intro hTW7 (And.intro hrow7 (And.intro hg7 (And.intro hblk7 hsz7)))))
        have HR := Lib.hid hrun
        clear e6 eQ hT5 hTW hW5 hT7 hTW7 hrow7 hg7 hblk7 hsz7 hrun hHeld el7
        go_simp
        rw [HE6.out.1, HE6.out.2]
        refine hK.out _ _ (fun _ => hHeld6) ?_
        clear hK K HE6 hHeld6
        try simp only [Act.put, List.getElem_toArray, List.getElem_cons_zero, List.getElem_cons_succ, List.setIfInBounds_toArray, List.set_cons_zero, List.set_cons_succ]
        refine AU_one (i := 13) (o := _) (by kernel_rfl) rfl (fun K hK => ?_)
        refine step_append (by rfl) _ _ _ _ (by rfl) _ _ _ (by rfl) (by rfl) w7 HR.out ?_
        have hHeld : KB (R cc) W5 w7 := ⟨H7.out.2.2.2.2.1, H7.out.2.2.2.2.2⟩
        refine hK.out _ _ (fun _ => hHeld) ?_
        clear hK K HR
        try simp only [Act.put, List.getElem_toArray, List.getElem_cons_zero, List.getElem_cons_succ, List.setIfInBounds_toArray, List.set_cons_zero, List.set_cons_succ]
        refine AUS_take (by kernel_rfl) rfl (i := 14) (oi := _) (v := ?vw13) rfl (by kernel_rfl) (by kernel_rfl) (by kernel_rfl) (fun _ _ _ h => h) (Or.inl ⟨by rfl, ?hz13⟩) hHeld ?rst13
        case hz13 => (intro wS hSw; clear hSw; go_simp; try with_reducible rfl)
        simp only [Act.put, List.getElem_toArray, List.getElem_cons_zero, List.getElem_cons_succ, List.setIfInBounds_toArray, List.set_cons_zero, List.set_cons_succ]
        refine AU_one (i := 15) (o := _) (by kernel_rfl) rfl (fun K hK => ?_)
        obtain ⟨k1, _⟩ := HF.out w7 hHeld
        obtain ⟨hT7, hTW7, hrow7, hg7, hblk7, hsz7⟩ := H7.out
        obtain ⟨hT5, hTW, hW5, hK5, ho5, hns, hx⟩ := HW.out
        have hAl := hT5.tl A0 hW5.aT
        have k2 : w7.frozen? ⟨A0, cc, none⟩ = false := frozen_of_row _ _ _ _ _ ((hHeld.1 A0 hAl (hW5.aR cc HJ.out.2.2.2.2)).trans hW5.a)
        have hW8 := hW5.put hx HX.out.1 HX.out.2 HJ.out.2.2.2.2 hT5.tl hHeld.1 (v7 := .slice A7 l7 c7) (g := g) (by rw [HJ.out.2.2.2.1]; exact hrow7) hg7
        have hT8 := hT7.set A0 cc (.slice A7 l7 c7) (List.mem_cons_of_mem _ hW5.aT) (hTW A0 hW5.aT)
        have ho8 : OB (own_ W (g :: T)) (w7.setCell ⟨A0, cc, none⟩ (.slice A7 l7 c7)) nm ⟨b5, 3, 1, [], some (b5 + 1), (cc : Int)⟩ := ho5.keep fun b ⟨hb1, hb2⟩ hbl => ⟨⟨hb1, fun hm => by
            rcases List.mem_cons.1 hm with rfl | hm
            · rcases hg7 with hg | hg
              · exact hb2 (hW5.rT cc HJ.out.2.2.2.2 _ hg)
              · have : W5.heap.size ≤ b := hg
                omega
            · exact hb2 hm⟩, by
            rw [heap_setCell_other _ _ _ _ (fun e => hb2 (by have e2 : b = A0 := e; rw [e2]; exact hW5.aT))]
            exact hHeld.1 b hbl fun hm => hb2 (hW5.rT cc HJ.out.2.2.2.2 _ hm)⟩
        obtain ⟨W8, e8⟩ : ∃ W8, w7.setCell ⟨A0, cc, none⟩ (.slice A7 l7 c7) = W8 := ⟨_, rfl⟩
        rw [e8] at hW8 hT8 ho8
        have C9 := Lib.hid (add_any hT8 ho8 (hK5.ks (by have := HN.out.2.1; have := HJ.out; omega) (by have := HJ.out; omega)) (by have := HJ.out; omega))
        obtain ⟨hmay, hK9⟩ := hK5.add (o := ⟨b5, 3, 1, [], some (b5 + 1), (cc : Int)⟩) hx rfl rfl (by show (3 : Int) ≠ 1; decide) (fun c => by unfold runs; rw [HX.out.1, HX.out.2]; rfl)
        rw [HJ.out.2.2.2.1] at hmay hK9
        rw [hmay] at C9
        simp only [if_true] at C9
        have H9 := Lib.hid (And.intro hW8 (And.intro hTW7 (And.intro hK9 hns)))
        have HE8 := Lib.hid e8
        clear hT7 hTW7 hrow7 hg7 hblk7 hsz7 hT5 hTW hW5 hK5 ho5 hns hx hAl hW8 hT8 ho8 e8 hmay hK9 HW H7 HF
        go_simp
        refine hK.out _ _ (fun hz => (by cases hz)) ?_
        clear hK K k1 k2 hHeld
        refine AU_done (by kernel_rfl) ?_ _
        simp only [OnlyN]
        rw [HE8.out]
        clear HE8
        go_wp2_with fail
        refine C9.out.mono ?_; rintro e w9 ⟨rfl, ⟨M9, h9⟩, hs9⟩
        have HAS : Hid (AS W t A0 xs (j + 1) w9) := Lib.hid ⟨M9, _, _, _, _, _, h9, H9.out.2.1, H9.out.1.same hs9, H9.out.2.2.1, by rw [List.length_append, H9.out.2.2.2]; rfl⟩
        clear C9 h9 hs9 H9
        go_wp2_with fail
        go_roundg (n - (j + 1))
        case rel => exact ⟨j + 1, HJ.out.1, Nat.le_refl _, by first | rfl | simp, HAS⟩
        case measure => have := HJ.out; omega
      · have hm0 : m = 0 := by omega
        subst hm0
        have hT5 := hT.below b5
        have hW5 := hW4.same (hT.same b5)
        have HX := Lib.hid (show odd x = false from by unfold odd; rw [em]; rfl)
        have C9 := Lib.hid (add_any hT5 ho5 (hK.ks (by have := HN.out.2.1; omega) (by omega)) (by omega))
        obtain ⟨hmay, hK9⟩ := hK.add (o := ⟨wr.heap.size, 2, 1, [], none, 0⟩) hx rfl rfl (by show (2 : Int) ≠ 1; decide) (fun c => by unfold runs; rw [HX.out]; rfl)
        rw [HJ.out.2.2.2.1] at hmay hK9
        rw [hmay, show ((1 : Nat) : Int) = 1 from rfl] at C9
        simp only [if_true] at C9
        unfold ocs at C9
        have H9 := Lib.hid (And.intro (hW5.skip hx HX.out) (And.intro hTW (And.intro hK9 hns)))
        clear ho5 b5 hT5 hW5 hmay hK9 hT hTW hW4 hK hns hx hI hlt hj abl hcc4 enm hm2 ecc hodd
        go_wp2_with fail
        refine C9.out.mono ?_; rintro e w9 ⟨rfl, ⟨M9, h9⟩, hs9⟩
        have HAS : Hid (AS W t A0 xs (j + 1) w9) := Lib.hid ⟨M9, _, _, _, _, _, h9, H9.out.2.1, H9.out.1.same hs9, H9.out.2.2.1, by rw [List.length_append, H9.out.2.2.2]; rfl⟩
        clear C9 h9 hs9 H9
        go_wp2_with fail
        go_roundg (n - (j + 1))
        case rel => exact ⟨j + 1, HJ.out.1, Nat.le_refl _, by first | rfl | simp, HAS⟩
        case measure => have := HJ.out; omega
    · obtain rfl : j = n := by omega
      have HI := Lib.hid hI.out
      clear hlt hg hj hI
      go_wp2_with fail
      go_loopg [68] 4 (fun gh v68 wr => ∃ (q : Nat), q ≤ 4 ∧ 4 - q ≤ gh ∧ v68 = .int .i64 q ∧ Hid (AS W t A0 xs j wr))
      case atStart => exact ⟨0, by omega, by omega, rfl, HI⟩
      case round =>
        clear HI
        obtain ⟨q, hq, hg, rfl, hI⟩ := hrel
        obtain ⟨M, ns, G, T, vs, R, hT, hTW, hW4, hK, hns⟩ := hI.out
        have hlx := HN.out.2.1
        by_cases hlt : q < 4
        · have C5 := Lib.hid (threads_any (cn := 1) (on := (q : Int)) hT (u64_of (by omega)) (hK.ks (by omega) (by omega)))
          rw [filter_filterMap hK (by omega) q, show ((1 : Nat) : Int) = 1 from rfl] at C5
          have l1 : (q : Int) < 4 := by omega
          have i1 : IntKind.i64.wrap ((q : Int) + 1) = ((q + 1 : Nat) : Int) := by rw [IntKind.wrap_i64]; omega
          have HG := Lib.hid (show q + 1 ≤ 4 ∧ q < 4 by omega)
          have HW := Lib.hid (And.intro hT (And.intro hTW (And.intro hW4 (And.intro hK hns))))
          clear hT hTW hW4 hK hns hlx hlt hq hI
          go_wp2_with fail
          refine C5.out.mono ?_; rintro e w5 ⟨v5, rfl, hv5, hb5⟩
          obtain ⟨hT, hTW, hW4, hK, hns⟩ := HW.out
          have hT5 := hT.below hb5
          have hW5 := hW4.same (hT.same hb5)
          obtain ⟨A5, c5, rfl, _, _, hlr5⟩ := hv5.form
          obtain ⟨hca, _⟩ := hW5.at_ HG.out.2
          obtain ⟨Aq, cq, evq, _, _, _⟩ := (hW5.r q HG.out.2).form
          obtain ⟨lq, elq⟩ : ∃ lq, (wnt xs q j).length = lq := ⟨_, rfl⟩
          rw [evq] at hca
          rw [elq] at hca evq ⊢
          have hlq : lq ≤ 100 := by rw [← elq]; have := wnt_len xs q j; have := HN.out; omega
          have HQ : Hid (TS W T t M ns G w5 ∧ WS T A0 xs j vs R w5 ∧ LR (encB (blkO G)) w5 A5 (wnt xs q j)) := Lib.hid ⟨hT5, hW5, hlr5⟩
          have HV := Lib.hid (And.intro evq (And.intro elq (And.intro hTW (And.intro hK hns))))
          clear hT hTW hW4 hK hns hb5 hT5 hW5 hlr5 hv5 evq elq C5 HW
          go_wp2_with fail
          clear hca
          go_loopg [83] lq (fun gh v83 wr => ∃ (i : Nat), i ≤ lq ∧ lq - i ≤ gh ∧ v83 = .int .i64 i ∧ Hid (TS W T t M ns G wr ∧ WS T A0 xs j vs R wr ∧ LR (encB (blkO G)) wr A5 (wnt xs q j)))
          case atStart => exact ⟨0, Nat.zero_le _, by omega, rfl, HQ⟩
          case round =>
            clear HQ
            obtain ⟨i, hi, hgi, rfl, hQ⟩ := hrel
            by_cases hil : i < lq
            · obtain ⟨hT, hW4, hlr⟩ := hQ.out
              obtain ⟨y, hy⟩ : ∃ y, (wnt xs q j)[i]? = some y := ⟨_, List.getElem?_eq_getElem (by rw [HV.out.2.1]; exact hil)⟩
              obtain ⟨gb, go, rfl, _, c1⟩ := hlr i y hy
              obtain ⟨o, ho⟩ := HV.out.2.2.2.1.mem (by have := HN.out; omega) hy
              have hob := hT.ob y o ho
              have c2 := hob.cells.1
              obtain ⟨hca, _⟩ := hW4.at_ HG.out.2
              rw [HV.out.1] at hca
              obtain ⟨A', c', ev, _, _, hlr2⟩ := (hW4.r q HG.out.2).form
              rw [HV.out.1] at ev
              injection ev with e1 e2 e3
              rw [← e1] at hlr2
              clear e2 e3
              obtain ⟨hb2, ho2, rfl, _, c3⟩ := hlr2 i y hy
              unfold encB blkO at c1
              rw [ho] at c1
              unfold vP at c1
              simp only [Option.map_some] at c1
              unfold inU at c2 c3
              have l2 : (i : Int) < lq := by omega
              have i2 : IntKind.i64.wrap ((i : Int) + 1) = ((i + 1 : Nat) : Int) := by rw [IntKind.wrap_i64]; omega
              have HGG := Lib.hid (show i + 1 ≤ lq ∧ i < lq by omega)
              clear hT hW4 hlr hy ho hob hlr2 e1 hil hi
              go_upto_region 27 with fail
              go_quiet (fail)
              rename_i nq
              have HQ2 : Hid (TS W T t M ns G (wr.drewN nq) ∧ WS T A0 xs j vs R (wr.drewN nq) ∧ LR (encB (blkO G)) (wr.drewN nq) _ (wnt xs q j)) := Lib.hid ⟨hQ.out.1.drewN nq, hQ.out.2.1.drewN nq, hQ.out.2.2.drewN' nq⟩
              clear c1 c2 c3 hca hQ
              go_wp2_with fail
              go_roundg (lq - (i + 1))
              case rel => exact ⟨i + 1, HGG.out.1, Nat.le_refl _, by first | rfl | simp, HQ2⟩
              case measure => have := HGG.out; omega
            · obtain rfl : i = lq := by omega
              have HAS : Hid (AS W t A0 xs j wr) := Lib.hid ⟨M, ns, G, T, vs, R, hQ.out.1, HV.out.2.2.1, hQ.out.2.1, HV.out.2.2.2.1, HV.out.2.2.2.2⟩
              clear hil hgi hi hQ HV
              go_wp2_with fail
              go_roundg (4 - (q + 1))
              case rel => exact ⟨q + 1, HG.out.1, Nat.le_refl _, by first | rfl | simp, HAS⟩
              case measure => have := HG.out; omega
        · obtain rfl : q = 4 := by omega
          have C5 := Lib.hid (threads_any (cn := 2) (on := 0) hT (u64_of (by omega)) (hK.ks (by omega) (by omega)))
          rw [hK.notc (by omega) (by decide) 0, show ((2 : Nat) : Int) = 2 from rfl] at C5
          have HW := Lib.hid (And.intro hT (And.intro hK hlx))
          clear hT hTW hW4 hK hns hlx hlt hq hI hg
          go_wp2_with fail
          refine C5.out.mono ?_; rintro e w5 ⟨v5, rfl, hv5, hb5⟩
          obtain ⟨hT, hK, hlx⟩ := HW.out
          have hT5 := hT.below hb5
          obtain ⟨A5, c5, rfl, _⟩ := hv5.form
          have C6 := Lib.hid (threads_any (cn := 999) (on := 0) hT5 (u64_of (by omega)) (hK.ks (by omega) (by have := HN.out; omega)))
          rw [hK.notc (by omega) (by decide) 0, show ((999 : Nat) : Int) = 999 from rfl] at C6
          have HB5 := Lib.hid hT5.b
          rw [show ([] : List Nat).length = 0 from rfl]
          clear hT hK hlx hb5 hT5 hv5 C5 HW
          go_wp2_with fail
          refine C6.out.mono ?_; rintro e w6 ⟨v6, rfl, hv6, hb6⟩
          have HB6 := Lib.hid (below_up HB5.out hb6)
          obtain ⟨A6, c6, rfl, _⟩ := hv6.form
          rw [show ([] : List Nat).length = 0 from rfl]
          clear hv6 hb6 C6
          go_wp2_with fail
          go_ret
          exact ⟨rfl, HB6.out⟩
end Go.Proofs.Ytodionedjokdmaa
