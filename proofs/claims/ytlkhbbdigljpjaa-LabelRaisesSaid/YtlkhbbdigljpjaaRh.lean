import Derived.Test.YtlkhbbdigljpjaaRg
import Derived.Deep.RegionLaw
namespace Go.Proofs.Ytlkhbbdigljpjaa
open Go.RowKit
set_option linter.unusedVariables false
set_option linter.unusedSimpArgs false

/-- A slice of single cells reads as a list of values. -/
def ReadsV (w : World) (v : Value) (us : List Value) : Prop :=
  (v = .slice none 0 0 ∧ us = []) ∨ ∃ b off cap, v = .slice (some ⟨b, off, none⟩) us.length cap ∧ b < w.heap.size ∧ us.length ≤ 140737488351232 ∧
    ∀ i u, us[i]? = some u → w.cell? ⟨b, off + i, none⟩ = some u
theorem ReadsV.below {w w' : World} {v : Value} {us : List Value} (h : ReadsV w v us) (hb : Below w.heap.size w w') : ReadsV w' v us := by
  rcases h with h | ⟨b, off, cap, h1, h2, h3, h4⟩
  · exact .inl h
  · refine .inr ⟨b, off, cap, h1, Nat.lt_of_lt_of_le h2 hb.size, h3, fun i p hp => ?_⟩
    rw [hb.cell (p := ⟨b, _, none⟩) h2]
    exact h4 i p hp
theorem readsV_of_owns {w : World} {base : Nat} {e : TypeId} {v : Value} {us : List Value} {n : Nat} (h : w.ownsRow base e 1 v n us) (hn : n ≤ 140737488351232) : ReadsV w v us := by
  have hl : us.length = n := by have := h.1; omega
  by_cases h0 : n = 0
  · rcases h.2 with ⟨rfl, _⟩ | ⟨g, cap, cur, hv, hb, hg, _⟩
    · exact .inl ⟨rfl, List.eq_nil_of_length_eq_zero (by omega)⟩
    · have hu : us = [] := List.eq_nil_of_length_eq_zero (by omega)
      refine .inr ⟨g, 0, cap, by rw [hl]; exact hv, (Array.getElem?_eq_some_iff.1 hg).1, by omega, fun i p hp => ?_⟩
      rw [hu] at hp; simp at hp
  · obtain ⟨g, cap, rfl, hb, hg⟩ := h.form (by omega)
    refine .inr ⟨g, 0, cap, by rw [hl], hg, by omega, fun i p hp => ?_⟩
    have hi : i < us.length := (List.getElem?_eq_some_iff.1 hp).1
    rw [h.cellAt (0 + i) (by omega), Nat.zero_add]
    exact hp
theorem info24 : (Try.prog.info? 24).map (·.size) = some 2 := by kernel_rfl
/-- Levels, as cells. -/
def V (ls : List Int) : List Value := ls.map (fun (n : Int) => Value.int .i64 n)

theorem owns_set {w : World} {base : Nat} {e : TypeId} {size : Nat} {v : Value} {n : Nat} {xs : List Value} (h : w.ownsRow base e size v n xs) (a : Addr) (u : Value) (hne : some a.block ≠ v.ownBlock) : (w.setCell a u).ownsRow base e size v n xs :=
  h.kept (row := some a.block) ⟨rfl, rfl, rfl, by simp, fun k _ hk => heap_setCell_other w a k u (fun e => hk (by simp [e]))⟩ (.inr fun e => hne e.symm)
/-- What holds while a label is made. -/
def Making (w : World) (D : Int) (m : List (Nat × Int)) (v : Value) (wr : World) : Prop :=
  wr.ownsRow (w.heap.size + 2) 47 2 v m.length (F m) ∧ wr.heap[w.heap.size + 1]? = some (.cells #[.int .i64 D, v] 24) ∧ wr.heap[w.heap.size]? = some (.cells #[.int .i64 0, .slice none 0 0] 24) ∧
    Below w.heap.size w wr ∧ w.heap.size + 2 ≤ wr.heap.size
theorem making_start (w : World) (D : Int) : Making w D [] (.slice none 0 0) ((w.alloc (.cells #[.int .i64 0, .slice none 0 0] 24)).alloc (.cells #[.int .i64 D, .slice none 0 0] 24)) := by
  refine ⟨World.ownsRow_nil _ _ _ _, ?_, ?_, ((Below.refl _ _).alloc (Nat.le_refl _) _).alloc (by simp) _, by simp⟩
  · have := heap_alloc_new (w.alloc (.cells #[.int .i64 0, .slice none 0 0] 24)) (.cells #[.int .i64 D, .slice none 0 0] 24)
    simpa using this
  · rw [Below.heap_alloc _ _ _ (by simp)]; exact heap_alloc_new w _
theorem Making.l {w wr : World} {D : Int} {m : List (Nat × Int)} {v : Value} (h : Making w D m v wr) : wr.cell? ⟨w.heap.size + 1, 1, none⟩ = some v := by
  rw [cell_of_row wr (w.heap.size + 1) 1 _ 24 (0, 0) h.2.1]; rfl
theorem Making.apart {w wr : World} {D : Int} {m : List (Nat × Int)} {v : Value} (h : Making w D m v wr) : some (w.heap.size + 1) ≠ v.ownBlock ∧ some w.heap.size ≠ v.ownBlock := by
  constructor
  · intro e; have := (h.1.lt _ e.symm).1; omega
  · intro e; have := (h.1.lt _ e.symm).1; omega
theorem Making.grown {w wr w1 : World} {D : Int} {m : List (Nat × Int)} {v : Value} {o : Obj} (h : Making w D m v wr) (hg : (wr.alloc o).drew.grownBy w1 v.ownBlock) :
    w1.heap[w.heap.size + 1]? = some (.cells #[.int .i64 D, v] 24) ∧ w1.heap[w.heap.size]? = some (.cells #[.int .i64 0, .slice none 0 0] 24) ∧ Below w.heap.size w w1 ∧ w.heap.size + 2 ≤ w1.heap.size := by
  obtain ⟨h1, h2, h3, h4, h5⟩ := h
  have ap := Making.apart ⟨h1, h2, h3, h4, h5⟩
  refine ⟨?_, ?_, ((h4.alloc (by omega) o).drew).grown hg (by simp; omega) (fun k hk => by have := (h1.lt k hk).1; omega), by have := hg.size; simp at this; omega⟩
  · rw [hg.block _ (by simp; omega) ap.1]; show (wr.alloc o).heap[_]? = _; rw [Below.heap_alloc _ _ _ (by omega)]; exact h2
  · rw [hg.block _ (by simp; omega) ap.2]; show (wr.alloc o).heap[_]? = _; rw [Below.heap_alloc _ _ _ (by omega)]; exact h3
theorem Making.push {w wr w1 : World} {D : Int} {m : List (Nat × Int)} {v v' : Value} {o : Obj} (h : Making w D m v wr) (c : Nat) (l : Int) (hg : (wr.alloc o).drew.grownBy w1 v.ownBlock)
   (hown : w1.ownsRow (w.heap.size + 2) 47 2 v' (m.length + 1) (F m ++ [.int .u32 (c : Int), .int .i64 l])) : Making w D (m ++ [(c, l)]) v' (w1.setCell ⟨w.heap.size + 1, 1, none⟩ v') := by
  obtain ⟨g1, g2, g3, g4⟩ := h.grown hg
  have hs := heap_setCell_same w1 (w.heap.size + 1) 1 _ 24 v' g1
  refine ⟨?_, ?_, ?_, ?_, by simpa using g4⟩
  · rw [List.length_append, F_snoc]
    refine hown.kept (row := some (w.heap.size + 1)) ⟨rfl, rfl, rfl, by simp, fun k _ hk => heap_setCell_other w1 ⟨w.heap.size + 1, 1, none⟩ k v' (fun e => hk (by simp [e]))⟩ ?_
    right; intro e; have := (hown.lt _ e).1; omega
  · simpa using hs
  · rw [heap_setCell_other w1 ⟨w.heap.size + 1, 1, none⟩ _ v' (by simp)]; exact g2
  · exact g3.setCell (by simp) v'

set_option maxHeartbeats 3200000 in
theorem make_some (b1 o1 c1 b2 o2 c2 : Nat) (cs : List Nat) (ls : List Int) (D : Int) (w : World) (hl : ls.length = cs.length) (hn : cs.length ≤ 8796093022207) (hb1 : b1 < w.heap.size) (hb2 : b2 < w.heap.size)
   (hc1 : ∀ i u, (U cs)[i]? = some u → w.cell? ⟨b1, o1 + i, none⟩ = some u) (hc2 : ∀ i u, (V ls)[i]? = some u → w.cell? ⟨b2, o2 + i, none⟩ = some u) :
    Calls Try.prog 42 #[.int .i64 D, .slice (some ⟨b1, o1, none⟩) cs.length c1, .slice (some ⟨b2, o2, none⟩) cs.length c2] w fun e w' =>
      ∃ v, e = .returned (.agg #[.int .i64 D, v]) ∧ w'.ownsRow w.heap.size 47 2 v (Lab.make D cs ls).length (F (Lab.make D cs ls)) ∧ Below w.heap.size w w' := by
  obtain ⟨i0, hi, hz0, hz1, hz2⟩ := info_parts info47
  have HC1 := Lib.hid hc1
  have HC2 := Lib.hid hc2
  obtain ⟨n, en⟩ : ∃ n, cs.length = n := ⟨_, rfl⟩
  rw [en] at hn hl ⊢
  have EN := Lib.hid en
  have EL := Lib.hid hl
  clear hc1 hc2 en hl
  go_enter Try.func42, Try.ntmps42
  go_wp2
  go_loopg [8] n (fun g i wr => ∃ (k : Nat) (v : Value), k ≤ n ∧ Hid (g = n - k) ∧ i = .int .i64 k ∧ Hid (Making w D (((cs.zip ls).take k).filter (fun p => p.2 != D)) v wr))
  case atStart => exact ⟨0, _, by omega, Lib.hid (by omega), rfl, Lib.hid (making_start w D)⟩
  case round =>
    obtain ⟨k, v, hk, hg, rfl, hm⟩ := hrel
    have hL := hm.out.l
    have hsz := hm.out.2.2.2.2
    by_cases hlt : k < n
    · obtain ⟨c, hc⟩ : ∃ c, cs[k]? = some c := ⟨_, List.getElem?_eq_getElem (by rw [EN.out]; exact hlt)⟩
      obtain ⟨l, hl⟩ : ∃ l, ls[k]? = some l := ⟨_, List.getElem?_eq_getElem (by rw [EL.out]; exact hlt)⟩
      have x1 : wr.cell? ⟨b1, o1 + k, none⟩ = some (.int .u32 (c : Nat)) := by
        rw [hm.out.2.2.2.1.cell (p := ⟨b1, _, none⟩) hb1]; exact HC1.out k _ (by unfold U; rw [List.getElem?_map, hc]; rfl)
      have x2 : wr.cell? ⟨b2, o2 + k, none⟩ = some (.int .i64 l) := by
        rw [hm.out.2.2.2.1.cell (p := ⟨b2, _, none⟩) hb2]; exact HC2.out k _ (by unfold V; rw [List.getElem?_map, hl]; rfl)
      by_cases e : l = D
      · have hv := Lib.hid (Lab.make_miss hc hl e)
        have t1 : (l != D) = false := by simp [e]
        clear hc hl e
        go_wp2
        go_roundg (n - (k + 1))
        case measure => rw [hg.out]; omega
        case rel => exact ⟨k + 1, v, by omega, Lib.hid rfl, by go_num, Lib.hid (by rw [hv.out]; exact hm.out)⟩
      · have hv := Lib.hid (Lab.make_hit hc hl e)
        have t1 : (l != D) = true := by simp [e]
        clear hc hl e
        go_upto_region 6 with fail
        have hlen := Lab.make_len D cs ls k
        obtain ⟨m, em⟩ : ∃ m, ((cs.zip ls).take k).filter (fun p => p.2 != D) = m := ⟨_, rfl⟩
        rw [em] at hlen hm
        have EM := Lib.hid em
        clear em
        have hne : ¬ w.heap.size + 1 = wr.heap.size := by omega
        have hLA : (wr.alloc (Obj.cells #[.int .u32 (c : Int), .int .i64 l] 47)).cell? ⟨w.heap.size + 1, 1, none⟩ = some v := by
          rw [World.cell?_alloc_old _ _ _ (by simp; omega)]; exact hL
        have hLB : (wr.alloc (Obj.cells #[.int .u32 (c : Int), .int .i64 l] 47)).drew.cell? ⟨w.heap.size + 1, 1, none⟩ = some v := hLA
        have hLC : (wr.drew.alloc (Obj.cells #[.int .u32 (c : Int), .int .i64 l] 47)).cell? ⟨w.heap.size + 1, 1, none⟩ = some v := hLA
        go_region_law (first
          | (refine step_append_own _ (by rfl) _ _ _ (by rfl) (w.heap.size + 2) 47 i0 _ 2 16 Try.underlying22 hi hz0 hz1 hz2 rfl (by omega) v _ _ (by rfl) ((hm.out.1.alloc _).drew)
              ⟨wr.heap.size, 0, none⟩ 1 1 [.int .u32 (c : Int), .int .i64 l] (by rfl) (by rfl) (World.news_of_block (cs := #[.int .u32 (c : Int), .int .i64 l]) (t := 47) (fr := (0, 0)) (heap_alloc_new wr _)) (by simp [Value.oneCell']) (by unfold maxLen; omega) (by omega) (by simp; omega) ?_
             intro v' w1 hown1 hgrow1 _
             obtain ⟨g', cap', rfl, _, _⟩ := hown1.form (by omega)
             have hpush := Lib.hid (hm.out.push c l hgrow1 hown1)
             have hL1 := cell_of_row w1 (w.heap.size + 1) 1 _ 24 (0, 0) (hm.out.grown hgrow1).1
             have hF1 := frozen_of_row w1 (w.heap.size + 1) 1 _ 24 (hm.out.grown hgrow1).1
             replace hown1 := Lib.hid hown1
             clear hgrow1))
        all_goals
          go_wp2_with fail
          go_roundg (n - (k + 1))
          case measure => rw [hg.out]; omega
          case rel => exact ⟨k + 1, _, by omega, Lib.hid rfl, by go_num, Lib.hid (by rw [hv.out, EM.out]; exact hpush.out)⟩
    · have hform : v = .slice none 0 0 ∨ ∃ g' n' cap', v = .slice (some ⟨g', 0, none⟩) n' cap' := by
        rcases hm.out.1.2 with ⟨h, _⟩ | ⟨g', cap', cur, h, _⟩
        · exact .inl h
        · exact .inr ⟨_, _, _, h⟩
      have hL0 : wr.cell? ⟨w.heap.size + 1, 0, none⟩ = some (.int .i64 D) := by rw [cell_of_row wr _ 0 _ 24 (0, 0) hm.out.2.1]; rfl
      have hR0 : wr.cell? ⟨w.heap.size, 0, none⟩ = some (.int .i64 0) := by rw [cell_of_row wr _ 0 _ 24 (0, 0) hm.out.2.2.1]; rfl
      have hR1 : wr.cell? ⟨w.heap.size, 1, none⟩ = some (.slice none 0 0) := by rw [cell_of_row wr _ 1 _ 24 (0, 0) hm.out.2.2.1]; rfl
      have hF0 : wr.frozen? ⟨w.heap.size, 0, none⟩ = false := frozen_of_row wr _ 0 _ 24 hm.out.2.2.1
      have hF1 : wr.frozen? ⟨w.heap.size, 1, none⟩ = false := frozen_of_row wr _ 1 _ 24 hm.out.2.2.1
      have hread : ∀ w2 : World, Below (w.heap.size) w w2 → w2.ownsRow (w.heap.size + 2) 47 2 v (((cs.zip ls).take k).filter (fun p => p.2 != D)).length (F (((cs.zip ls).take k).filter (fun p => p.2 != D))) → w2.ownsRow w.heap.size 47 2 v (Lab.make D cs ls).length (F (Lab.make D cs ls)) := by
        intro w2 _ ho
        have hmk : ((cs.zip ls).take k).filter (fun p => p.2 != D) = Lab.make D cs ls := by
          unfold Lab.make; rw [List.take_of_length_le]; rw [List.length_zip, EN.out, EL.out]; omega
        rw [hmk] at ho
        exact owns_mono ho (by omega)
      have HR := Lib.hid hread
      clear hread
      rcases hform with rfl | ⟨g', n', cap', rfl⟩
      · go_wp2
        have hblk : ((wr.setCell ⟨w.heap.size, 0, none⟩ (.int .i64 D)).setCell ⟨w.heap.size, 1, none⟩ (.slice none 0 0)).heap[w.heap.size]? = some (.cells #[.int .i64 D, .slice none 0 0] 24) := by
          have e1 := heap_setCell_same wr w.heap.size 0 _ 24 (.int .i64 D) hm.out.2.2.1
          have e2 := heap_setCell_same _ w.heap.size 1 _ 24 (.slice none 0 0) e1
          simpa using e2
        refine bodyPost_ret (results_cell_row (by rfl) _ _ w.heap.size 24 _ (0, 0) _ (by rfl) hblk Try.underlying24 rfl info24) rfl ⟨_, rfl, HR.out _ ((hm.out.2.2.2.1.setCell (by simp) _).setCell (by simp) _) ?_, (hm.out.2.2.2.1.setCell (by simp) _).setCell (by simp) _⟩
        exact owns_set (owns_set hm.out.1 _ _ hm.out.apart.2) _ _ hm.out.apart.2
      · go_wp2
        have hblk : ((wr.setCell ⟨w.heap.size, 0, none⟩ (.int .i64 D)).setCell ⟨w.heap.size, 1, none⟩ (.slice (some ⟨g', 0, none⟩) n' cap')).heap[w.heap.size]? = some (.cells #[.int .i64 D, (.slice (some ⟨g', 0, none⟩) n' cap')] 24) := by
          have e1 := heap_setCell_same wr w.heap.size 0 _ 24 (.int .i64 D) hm.out.2.2.1
          have e2 := heap_setCell_same _ w.heap.size 1 _ 24 (.slice (some ⟨g', 0, none⟩) n' cap') e1
          simpa using e2
        refine bodyPost_ret (results_cell_row (by rfl) _ _ w.heap.size 24 _ (0, 0) _ (by rfl) hblk Try.underlying24 rfl info24) rfl ⟨_, rfl, HR.out _ ((hm.out.2.2.2.1.setCell (by simp) _).setCell (by simp) _) ?_, (hm.out.2.2.2.1.setCell (by simp) _).setCell (by simp) _⟩
        exact owns_set (owns_set hm.out.1 _ _ hm.out.apart.2) _ _ hm.out.apart.2
end Go.Proofs.Ytlkhbbdigljpjaa
