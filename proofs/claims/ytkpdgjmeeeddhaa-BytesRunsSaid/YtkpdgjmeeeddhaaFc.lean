/- New, Free, Alloc. -/
import Derived.Test.YtkpdgjmeeeddhaaFb
namespace Go.Proofs.Ytkpdgjmeeeddhaa
open Go.RowKit
set_option linter.unusedVariables false
set_option linter.unusedSimpArgs false
/-- A pool that has turned. -/
def PlT (W : World) (R : Nat) (S os : List Nat) (ds : List (List Nat)) (w' : World) : Prop := ∃ S', Pl w' R S' os ds ∧ Turn S W w' ∧ ∀ b ∈ S', b ∈ S ∨ W.heap.size ≤ b
theorem pnew_none (n : Int) (w : World) (h : ¬ (1 ≤ n ∧ n ≤ 4096)) : Calls Try.prog 9 #[.int .i64 n] w fun e w' => e = .returned (.pointer none) ∧ Below w.heap.size w w' := by
  by_cases h1 : n < 1
  · clear h
    go_enter Try.func9, Try.ntmps9
    go_wp2_with fail
    go_ret
    exact ⟨rfl, Below.refl _ _⟩
  · have h2 : 4096 < n := by omega
    clear h
    go_enter Try.func9, Try.ntmps9
    go_wp2_with fail
    go_ret
    exact ⟨rfl, Below.refl _ _⟩
/-- A new pool. -/
def NewPl (w : World) (n : Nat) (e : Ending) (w' : World) : Prop := ∃ R S, e = .returned (.pointer (some ⟨R, 0, none⟩)) ∧ (∃ ds, Pl w' R S (List.replicate n 0) ds) ∧ Below w.heap.size w w' ∧ ∀ b ∈ S, w.heap.size ≤ b
theorem pnew_any' (n : Nat) (w : World) (h1 : 1 ≤ n) (h2 : n ≤ 4096) : Calls Try.prog 9 #[.int .i64 (n : Int)] w (NewPl w n) := by
  have hm := run_make57 w n h2
  obtain ⟨cs, ec⟩ : ∃ cs, madeCells (Zf 0).toArray (n * 65) = cs := ⟨_, rfl⟩
  rw [ec] at hm
  have hf := made_Fs n
  rw [ec] at hf
  clear ec
  have HE := Lib.hid (show NewPl w n (.returned (.pointer (some ⟨w.heap.size + 1, 0, none⟩))) ((w.alloc (Obj.cells cs 68)).alloc (Obj.cells #[.slice (some ⟨w.heap.size, 0, none⟩) n n] 56)) from by
    refine ⟨_, [w.heap.size + 1, w.heap.size], rfl, ⟨_, w.heap.size, cs.toList, rfl, ?_, ?_, by simpa using h1, by simpa using h2, hf⟩, ((Below.refl _ _).alloc (Nat.le_refl _) _).alloc (by simp) _, fun b hb => ?_⟩
    · rw [heap_alloc2_new]; simp
    · rw [heap_alloc2_old]
    · rcases List.mem_cons.1 hb with rfl | hb
      · omega
      · obtain rfl := List.mem_singleton.1 hb; exact Nat.le_refl _)
  clear hf
  have h3 : ¬ ((4096 : Int) < n) := by omega
  go_enter Try.func9, Try.ntmps9
  go_wp2_with fail
  go_ret
  exact HE.out
theorem pnew_any (n : Nat) (w : World) (h1 : 1 ≤ n) (h2 : n ≤ 4096) : Calls Try.prog 9 #[.int .i64 (n : Int)] w fun e w' => ∃ R S, e = .returned (.pointer (some ⟨R, 0, none⟩)) ∧ (∃ ds, Pl w' R S (List.replicate n 0) ds) ∧ Below w.heap.size w w' ∧ ∀ b ∈ S, w.heap.size ≤ b := pnew_any' n w h1 h2
theorem own_in {os : List Nat} {f : Int} (h : Fr.own os f ≠ 0) : ∃ k : Nat, f = (k : Int) + 1 ∧ k < os.length ∧ os[k]? = some (Fr.own os f) := by
  unfold Fr.own at h ⊢
  by_cases h1 : 1 ≤ f ∧ f ≤ os.length
  · refine ⟨(f - 1).toNat, by omega, by omega, ?_⟩
    rw [if_pos h1, List.getD_eq_getElem?_getD, show f.toNat - 1 = (f - 1).toNat by omega, List.getElem?_eq_getElem (by omega)]
    rfl
  · rw [if_neg h1] at h; exact absurd rfl h
theorem free_out {os : List Nat} {f : Int} (h : Fr.own os f = 0) : Fr.free os f = os := by
  unfold Fr.own at h
  unfold Fr.free
  by_cases h1 : 1 ≤ f ∧ f ≤ os.length
  · rw [if_pos h1] at h ⊢
    rw [← h, List.getD_eq_getElem?_getD, List.getElem?_eq_getElem (by omega)]
    simp
  · rw [if_neg h1]
theorem pfree_any {R : Nat} {S os : List Nat} {ds : List (List Nat)} (f : Int) (w : World) (h : Pl w R S os ds) (f1 : -9223372036854775808 ≤ f) (f2 : f ≤ 9223372036854775807) : Calls Try.prog 27 #[.pointer (some ⟨R, 0, none⟩), .int .i64 f] w fun e w' => e = .returned (.tuple #[]) ∧ PlT w R S (Fr.free os f) ds w' := by
  have C := Lib.hid (owner_any f w h f1 f2)
  by_cases hv : Fr.own os f = 0
  · rw [hv] at C
    have HE := Lib.hid (show PlT w R S (Fr.free os f) ds w from ⟨S, by rw [free_out hv]; exact h, Turn.refl _ _, fun b hb => .inl hb⟩)
    clear hv h f1 f2
    go_enter Try.func27, Try.ntmps27
    go_wp2_with fail
    refine C.out.mono ?_
    rintro e w1 ⟨rfl, rfl⟩
    go_wp2_with fail
    exact bodyPost_end (results_none rfl _ _ _) rfl ⟨rfl, HE.out⟩
  · obtain ⟨k, rfl, hk, hx⟩ := own_in hv
    have hfr : Fr.free os ((k : Int) + 1) = os.set k 0 := by unfold Fr.free; rw [if_pos (by omega)]; congr 1
    rw [hfr]
    obtain ⟨v, ev⟩ : ∃ v, Fr.own os ((k : Int) + 1) = v := ⟨_, rfl⟩
    rw [ev] at C hv hx
    obtain ⟨B, cs, rfl, g1, g2, l1, l2, hf⟩ := h
    have HE := Lib.hid (show PlT w R [R, B] (os.set k 0) ds (w.setCell ⟨B, k * 65, none⟩ (.int .u64 0)) from by
      refine ⟨[R, B], ⟨B, cs.set (k * 65) (.int .u64 0), rfl, ?_, ?_, by simpa using l1, by simpa using l2, hf.free hk⟩, ⟨rfl, rfl, rfl, by simp, fun j _ hn => heap_setCell_other _ _ _ _ (fun e => hn (by simp [e]))⟩, fun b hb => .inl hb⟩
      · rw [heap_setCell_other _ _ _ _ (fun e => by simp only at e; subst e; rw [g1] at g2; simp at g2), List.length_set]; exact g1
      · rw [heap_setCell_same _ _ _ _ _ _ g2, List.setIfInBounds_toArray])
    have c0 : w.cell? ⟨R, 0, none⟩ = some (.slice (some ⟨B, 0, none⟩) os.length os.length) := by rw [cell_of_row _ _ _ _ 56 (0, 0) g1]; rfl
    have c1 := frozen_of_row _ _ 0 _ 56 g1
    have c2 := frozen_of_row _ _ (k * 65) _ 68 g2
    have c3 : w.cell? ⟨B, k * 65, none⟩ = some (.int .u64 (v : Int)) := by rw [cell_of_row _ _ _ _ 68 (0, 0) g2, List.getElem?_toArray]; exact (hf.2.2.1 k v hx).2
    have t1 : ((v : Int) != 0) = true := by simpa using hv
    have t2 : ((v : Int) == 0) = false := by simpa using hv
    obtain ⟨n, en⟩ : ∃ n, os.length = n := ⟨_, rfl⟩
    rw [en] at hk c0 l1 l2
    have j1 : (k : Int) ≤ 4096 := by omega
    have e1 : IntKind.i64.wrap ((k : Int) + 1 - 1) = k := by rw [IntWalk.i64_in _ (by omega)]; omega
    clear g1 g2 hf hx ev hfr f1 f2 en hv
    go_enter Try.func27, Try.ntmps27
    go_wp2_with fail
    refine C.out.mono ?_
    rintro e w1 ⟨rfl, rfl⟩
    go_wp2_with fail
    exact bodyPost_end (results_none rfl _ _ _) rfl ⟨rfl, HE.out⟩
theorem least_none {os : List Nat} (h : Fr.least os = none) {j x : Nat} (hj : os[j]? = some x) : x ≠ 0 := by
  unfold Fr.least at h
  have := List.findIdx?_eq_none_iff.1 h x (List.mem_iff_getElem?.2 ⟨j, hj⟩)
  simpa using this
theorem least_some {os : List Nat} {m : Nat} (h : Fr.least os = some m) : os[m]? = some 0 ∧ ∀ j x, j < m → os[j]? = some x → x ≠ 0 := by
  unfold Fr.least at h
  obtain ⟨h1, h2, h3⟩ := List.findIdx?_eq_some_iff_getElem.1 h
  refine ⟨?_, fun j x hj hx => ?_⟩
  · rw [List.getElem?_eq_getElem h1]; simpa using h2
  · have h4 := h3 j hj
    have e := (List.getElem?_eq_some_iff.1 hx).2
    rw [e] at h4
    simpa using h4
theorem zero_run (w : World) : (zeroValue 68).run Try.prog w = .ok (.agg (Zf 0).toArray) w := by
  kernel_rfl
/-- A frame is charged, or none. -/
def Allocd (W : World) (R : Nat) (S os : List Nat) (ds : List (List Nat)) (o : Nat) (e : Ending) (w' : World) : Prop := e = .returned (.int .i64 ((Fr.alloc os o).1 : Nat)) ∧ PlT W R S (Fr.alloc os o).2 (Fr.allocD os ds o) w'
set_option maxHeartbeats 1000000 in
theorem palloc_any' {R : Nat} {S os : List Nat} {ds : List (List Nat)} (o : Nat) (w : World) (h : Pl w R S os ds) (ho : o < 18446744073709551616) : Calls Try.prog 28 #[.pointer (some ⟨R, 0, none⟩), .int .u64 o] w (Allocd w R S os ds o) := by
  have C := Lib.hid (len_any w h)
  by_cases h0 : o = 0
  · subst h0
    have HE := Lib.hid (show Allocd w R S os ds 0 (.returned (.int .i64 0)) w from ⟨rfl, S, h, Turn.refl _ _, fun b hb => .inl hb⟩)
    clear h
    go_enter Try.func28, Try.ntmps28
    go_wp2_with fail
    go_ret
    exact HE.out
  · have t1 : ((o : Int) == 0) = false := by simpa using h0
    obtain ⟨B, c0, c1, c2, c3⟩ := h.cells
    obtain ⟨_, l1, l2, _⟩ := h.len
    obtain ⟨n, en⟩ : ∃ n, os.length = n := ⟨_, rfl⟩
    rw [en] at C c0 l1 l2
    cases hm : Fr.least os with
    | none =>
      have HE := Lib.hid (show Allocd w R S os ds o (.returned (.int .i64 0)) w from by
        unfold Allocd Fr.alloc Fr.allocD
        rw [if_neg h0, if_neg h0, hm]
        exact ⟨rfl, S, h, Turn.refl _ _, fun b hb => .inl hb⟩)
      have C3 := Lib.hid c3
      have EN := Lib.hid en
      have HM := Lib.hid hm
      clear h c3 en hm h0 ho
      go_enter Try.func28, Try.ntmps28
      go_wp2_with fail
      refine C.out.mono ?_
      rintro e w1 ⟨rfl, rfl⟩
      go_wp2_with fail
      go_loop [10] (fun k => ∃ m : Nat, m ≤ n ∧ k = .int .i64 m) (fun k => n - (intOf k).toNat)
      case atStart => exact ⟨0, Nat.zero_le _, rfl⟩
      case round =>
        obtain ⟨k, hk, rfl⟩ := hrel
        by_cases hlt : k < n
        · obtain ⟨x, hx⟩ : ∃ x, os[k]? = some x := ⟨_, List.getElem?_eq_getElem (by rw [EN.out]; exact hlt)⟩
          have hcell := C3.out k x hx
          have hx0 := least_none HM.out hx
          have t2 : ((x : Int) == 0) = false := by simpa using hx0
          clear hx hx0
          go_wp2_with fail
          go_round
          case rel => exact ⟨k + 1, by omega, by go_num⟩
          case measure => simp [intOf]; omega
        · go_wp2_with fail
          go_ret
          exact HE.out
    | some m =>
      obtain ⟨hm0, hmx⟩ := least_some hm
      have hmn : m < n := by rw [← en]; exact (List.getElem?_eq_some_iff.1 hm0).1
      obtain ⟨B', cs, rfl, g1, g2, l1', l2', hf⟩ := h
      have eB : B' = B := by
        rw [cell_of_row _ _ _ _ 56 (0, 0) g1] at c0
        injection c0 with c0
        injection c0 with c0
        injection c0 with c0
        injection c0
      subst eB
      have hcl : m * 65 + (Zf o).length ≤ cs.length := by rw [hf.1, Zf_len]; omega
      have HE := Lib.hid (show Allocd w R [R, B'] os ds o (.returned (.int .i64 ((m + 1 : Nat) : Int))) (w.setCells B' (m * 65) (Zf o)) from by
        unfold Allocd Fr.alloc Fr.allocD
        rw [if_neg h0, if_neg h0, hm]
        refine ⟨rfl, [R, B'], ⟨B', splice cs (m * 65) (Zf o), rfl, ?_, ?_, by simpa using l1', by simpa using l2', hf.charge (by omega) ho⟩, ?_, fun b hb => .inl hb⟩
        · rw [setCells_other _ _ _ _ _ (fun e => by subst e; rw [g1] at g2; simp at g2), List.length_set]; exact g1
        · exact setCells_heap _ _ _ _ _ _ g2 hcl
        · exact (Turn.refl _ _).trans (setCells_turn B' _ _ w) (fun x hx => .inl (List.mem_cons_of_mem _ hx)))
      have HB := zero_run w
      obtain ⟨Y0, eY⟩ : ∃ Y0, (Zf 0).toArray = Y0 := ⟨_, rfl⟩
      obtain ⟨Z, eZ⟩ : ∃ Z, (Zf o).toArray = Z := ⟨_, rfl⟩
      have hz1 : ¬ Y0 = #[] := by rw [← eY]; simp [Zf]
      have hz2 : Y0.setIfInBounds 0 (.int .u64 (o : Int)) = Z := by rw [← eY, ← eZ]; rfl
      have HT := Lib.hid (show w.there B' (m * 65) Z.size from fun j hj => by
        refine ⟨?_, c2 _⟩
        rw [cell_of_row _ _ _ _ 68 (0, 0) g2, List.getElem?_toArray, List.getElem?_eq_getElem (by rw [hf.1]; rw [← eZ] at hj; simp [Zf_len] at hj; omega)]
        rfl)
      have HZ1 := Lib.hid (show (Try.prog.info? 68).map (·.size) = some Z.size from by rw [← eZ]; exact size57)
      have HZ2 := Lib.hid (show Z.all (·.oneCell') = true from by rw [← eZ]; exact all_oneCell_toArray (Zf_one o))
      rw [show Zf o = Z.toList by rw [← eZ]] at HE
      rw [eY] at HB
      have C3 := Lib.hid c3
      have EN := Lib.hid en
      have HM := Lib.hid hm0
      have HX := Lib.hid hmx
      clear g1 g2 hf c3 en hm h0 ho hm0 hmx hcl eZ eY l1' l2'
      go_enter Try.func28, Try.ntmps28
      go_wp2_with fail
      refine C.out.mono ?_
      rintro e w1 ⟨rfl, rfl⟩
      go_wp2_with fail
      go_loop [10] (fun k => ∃ j : Nat, j ≤ m ∧ k = .int .i64 j) (fun k => n - (intOf k).toNat)
      case atStart => exact ⟨0, Nat.zero_le _, rfl⟩
      case round =>
        obtain ⟨k, hk, rfl⟩ := hrel
        have hlt : k < n := by omega
        by_cases hkm : k < m
        · obtain ⟨x, hx⟩ : ∃ x, os[k]? = some x := ⟨_, List.getElem?_eq_getElem (by rw [EN.out]; exact hlt)⟩
          have hcell := C3.out k x hx
          have hx0 := HX.out k x hkm hx
          have t2 : ((x : Int) == 0) = false := by simpa using hx0
          clear hx hx0
          go_wp2_with fail
          go_round
          case rel => exact ⟨k + 1, by omega, by go_num⟩
          case measure => simp [intOf]; omega
        · obtain rfl : k = m := by omega
          have hcell : w.cell? ⟨B', k * 65, none⟩ = some (.int .u64 0) := C3.out k 0 HM.out
          go_wp2_with (with_reducible refine wpList_store_mid rfl 68 (.tmp 29) (.tmp 28) rfl B' (k * 65) Z rfl rfl HT.out HZ1.out HZ2.out ?_)
          go_wp2_with fail
          go_ret
          exact HE.out
end Go.Proofs.Ytkpdgjmeeeddhaa
