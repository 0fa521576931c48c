import Derived.Test.YtlkhbbdigljpjaaSp
import Derived.Test.YtlkhbbdigljpjaaSk
namespace Go.Proofs.Ytlkhbbdigljpjaa
open Go.RowKit
set_option linter.unusedVariables false
set_option linter.unusedSimpArgs false

theorem put74 : Lab.put 2 [] 7 4 = [(7, 4)] := by decide
theorem ok74 : Lab.Ok 2 [(7, 4)] := ⟨by simp [Lab.Rise], by simp, by simp⟩
theorem at74 (c : Nat) : Lab.at' 2 [(7, 4)] c = if 7 = c then 4 else 2 := rfl

set_option maxRecDepth 100000 in
set_option maxHeartbeats 2000000 in
theorem fit_any (w : World) : Calls Try.prog 11 #[] w fun e w' => e = .returned (.bool true) ∧ Below w.heap.size w w' := by
  have C0 := Lib.hid (fun (W : World) => of_any 2 W)
  have C1 := Lib.hid (fun (W : World) => (show Calls Try.prog 25 #[.agg #[.int .i64 2, .slice none 0 0], .int .u32 7, .int .i64 4] W (Gives W 2 [(7, 4)]) from by
    rw [← put74]; exact pwith_any (.slice none 0 0) [] 2 7 4 W List.Pairwise.nil (by simp) (.inl ⟨rfl, rfl⟩)))
  go_enter Try.func11, Try.ntmps11
  go_wp2_with fail
  refine (C0.out _).mono ?_
  rintro e W1 ⟨rfl, hb1⟩
  go_wp2_with fail
  refine (C0.out _).mono ?_
  rintro e W2 ⟨rfl, hb2⟩
  go_wp2_with fail
  refine (C1.out _).mono ?_
  rintro e W3 ⟨v, rfl, hown, hb3⟩
  have hb : Below w.heap.size w W3 := (hb1.trans (hb2.mono hb1.size)).trans (hb3.mono (Nat.le_trans hb1.size hb2.size))
  have HB := Lib.hid hb
  have HO := Lib.hid hown
  have hform := form2 hown
  clear hb hown hb1 hb2 hb3
  have hrc : RC W3.heap.size W3 v [(7, 4)] := rc_of_owns HO.out (by simp)
  have hX : Below W3.heap.size W3 ((W3.alloc (Obj.cells #[.int .i64 2, .slice none 0 0] 24)).alloc (Obj.cells #[.int .i64 2, v] 24)) := ((Below.refl _ _).alloc (Nat.le_refl _) _).alloc (by simp) _
  have hk1 : ((W3.alloc (Obj.cells #[.int .i64 2, .slice none 0 0] 24)).alloc (Obj.cells #[.int .i64 2, v] 24)).heap[W3.heap.size]? = some (Obj.cells #[.int .i64 2, .slice none 0 0] 24) := by
    rw [Below.heap_alloc _ _ _ (by simp)]; exact heap_alloc_new W3 _
  have hk2 : ((W3.alloc (Obj.cells #[.int .i64 2, .slice none 0 0] 24)).alloc (Obj.cells #[.int .i64 2, v] 24)).heap[W3.heap.size + 1]? = some (Obj.cells #[.int .i64 2, v] 24) := by
    have := heap_alloc_new (W3.alloc (Obj.cells #[.int .i64 2, .slice none 0 0] 24)) (Obj.cells #[.int .i64 2, v] 24); simpa using this
  obtain ⟨X, eX⟩ : ∃ X, X = (W3.alloc (Obj.cells #[.int .i64 2, .slice none 0 0] 24)).alloc (Obj.cells #[.int .i64 2, v] 24) := ⟨_, rfl⟩
  have hK : ∀ wx, Below X.heap.size X wx → wx.cell? ⟨W3.heap.size, 0, none⟩ = some (.int .i64 2) ∧ wx.cell? ⟨W3.heap.size, 1, none⟩ = some (.slice none 0 0) ∧ wx.cell? ⟨W3.heap.size + 1, 0, none⟩ = some (.int .i64 2) ∧ wx.cell? ⟨W3.heap.size + 1, 1, none⟩ = some v ∧
      RC wx.heap.size wx v [(7, 4)] ∧ Below w.heap.size w wx := fun wx hx => by
    rw [← eX] at hX hk1 hk2
    have r1 : wx.heap[W3.heap.size]? = some (Obj.cells #[.int .i64 2, .slice none 0 0] 24) := by rw [hx.block _ (Array.getElem?_eq_some_iff.1 hk1).1]; exact hk1
    have r2 : wx.heap[W3.heap.size + 1]? = some (Obj.cells #[.int .i64 2, v] 24) := by rw [hx.block _ (Array.getElem?_eq_some_iff.1 hk2).1]; exact hk2
    have hX2 : Below W3.heap.size W3 wx := hX.trans (hx.mono hX.size)
    obtain ⟨a0, a1⟩ := cells2 r1
    obtain ⟨a2, a3⟩ := cells2 r2
    exact ⟨a0, a1, a2, a3, (hrc.below hX2).mono hX2.size, HB.out.trans (hX2.mono HB.out.size)⟩
  have HK := Lib.hid hK
  have CR := Lib.hid (fun (W : World) (h : Reads W v [(7, 4)]) => (show Calls Try.prog 12 #[.agg #[.int .i64 2, v]] W fun e w' => e = .returned (.bool true) ∧ Below W.heap.size W w' from pright_any v [(7, 4)] 2 W h))
  have CL1 := Lib.hid (fun (W : World) (h : RC W.heap.size W v [(7, 4)]) => pleq_any 2 2 (.slice none 0 0) v [] [(7, 4)] W (Lab.ok_nil 2) ok74 (.inl ⟨rfl, rfl⟩) h true (by simp [at74, Lab.at']; intro c; split <;> omega))
  have CL2 := Lib.hid (fun (W : World) (h : RC W.heap.size W v [(7, 4)]) => pleq_any 2 2 v (.slice none 0 0) [(7, 4)] [] W ok74 (Lab.ok_nil 2) h (.inl ⟨rfl, rfl⟩) false (by simp [at74, Lab.at']; exact ⟨7, by simp⟩))
  have CA := Lib.hid (fun (W : World) (h : Reads W v [(7, 4)]) => (show Calls Try.prog 28 #[.agg #[.int .i64 2, v], .int .u32 7] W fun e w' => e = .returned (.int .i64 4) ∧ Below W.heap.size W w' from pat_any v [(7, 4)] 2 7 W ok74.1 h))
  clear hK hX hk1 hk2 hrc
  rcases hform with rfl | ⟨g', n', c', rfl⟩
  all_goals
    go_upto_region 2 with fail
    rw [← eX]
    clear eX
    obtain ⟨a0, a1, a2, a3, a4, _⟩ := HK.out X (Below.refl _ _)
    have D1 := Lib.hid (CR.out X (a4.reads (Nat.le_refl _)))
    clear a4
    go_wp2_with fail
    refine D1.out.mono ?_
    rintro e W5 ⟨rfl, hb5⟩
    have H5 := Lib.hid hb5
    obtain ⟨a0, a1, a2, a3, a4, _⟩ := HK.out W5 hb5
    have D2 := Lib.hid (CL1.out W5 a4)
    clear a4 hb5
    go_wp2_with fail
    refine D2.out.mono ?_
    rintro e W6 ⟨rfl, hb6⟩
    have hb6' := H5.out.trans (hb6.mono H5.out.size)
    have H6 := Lib.hid hb6'
    obtain ⟨a0, a1, a2, a3, a4, _⟩ := HK.out W6 hb6'
    have D3 := Lib.hid (CL2.out W6 a4)
    clear a4 hb6 hb6'
    go_wp2_with fail
    refine D3.out.mono ?_
    rintro e W7 ⟨rfl, hb7⟩
    have hb7' := H6.out.trans (hb7.mono H6.out.size)
    have H7 := Lib.hid hb7'
    obtain ⟨a0, a1, a2, a3, a4, _⟩ := HK.out W7 hb7'
    have D4 := Lib.hid (CA.out W7 (a4.reads (Nat.le_refl _)))
    clear a4 hb7 hb7'
    go_wp2_with fail
    refine D4.out.mono ?_
    rintro e W8 ⟨rfl, hb8⟩
    have hb8' := H7.out.trans (hb8.mono H7.out.size)
    have HF := Lib.hid (HK.out W8 hb8').2.2.2.2.2
    clear hb8 hb8'
    go_wp2_with fail
    go_ret
    exact ⟨rfl, HF.out⟩
end Go.Proofs.Ytlkhbbdigljpjaa
