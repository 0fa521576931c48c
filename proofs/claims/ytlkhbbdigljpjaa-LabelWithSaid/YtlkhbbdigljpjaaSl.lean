import Derived.Test.YtlkhbbdigljpjaaSg
import Derived.Test.YtlkhbbdigljpjaaRc
namespace Go.Proofs.Ytlkhbbdigljpjaa
open Go.RowKit
set_option linter.unusedVariables false
set_option linter.unusedSimpArgs false

set_option maxHeartbeats 1000000 in
theorem powns_some (b off cap : Nat) (ps : List (Nat × Int)) (D : Int) (w : World) (hn : ps.length ≤ 140737488351232 / 4) (hb : b < w.heap.size)
   (hc : ∀ i p, ps[i]? = some p → w.cell? ⟨b, off + i * 2, none⟩ = some (.int .u32 p.1) ∧ w.cell? ⟨b, off + i * 2 + 1, none⟩ = some (.int .i64 p.2)) :
    Calls Try.prog 26 #[.agg #[.int .i64 D, .slice (some ⟨b, off, none⟩) ps.length cap]] w fun e w' =>
      ∃ v, e = .returned v ∧ w'.ownsRow (w.heap.size + 1) 37 1 v (Lab.owns ps).length (U (Lab.owns ps)) ∧ Below w.heap.size w w' := by
  obtain ⟨i0, hi, hz0, hz1, hz2⟩ := info_parts info37
  have HC := Lib.hid hc
  clear hc
  obtain ⟨n, en⟩ : ∃ n, ps.length = n := ⟨_, rfl⟩
  rw [en] at hn ⊢
  have ER := Lib.hid en
  clear en
  go_enter Try.func26, Try.ntmps26
  go_wp2
  go_loopg [3, 9] n (fun g out i wr => ∃ k : Nat, k ≤ n ∧ g = n - k ∧ i = .int .i64 k ∧ OwnsRel ps w D (.slice (some ⟨b, off, none⟩) n cap) k out wr)
  case atStart => exact ⟨0, by omega, by omega, rfl, by rw [owns_zero]; exact World.ownsRow_nil _ _ _ _, Below.refl _ _⟩
  case round =>
    obtain ⟨k, hk, hg, rfl, hown, hbel⟩ := hrel
    have HG := Lib.hid hg
    have hsz : w.heap.size + 1 ≤ wr.heap.size := by have := hbel.size; simp at this; omega
    have hl := Lab.owns_len ps k
    clear hg
    by_cases hlt : k < n
    · obtain ⟨p, hp⟩ : ∃ p, ps[k]? = some p := ⟨_, List.getElem?_eq_getElem (by rw [ER.out]; exact hlt)⟩
      obtain ⟨x1, x2⟩ := HC.out k p hp
      have y1 : wr.cell? ⟨b, off + k * 2, none⟩ = some (.int .u32 p.1) := by rw [hbel.cell (p := ⟨b, _, none⟩) (by simp; omega)]; rw [← x1]; exact World.cell?_alloc_old _ _ _ (by simp; omega)
      have y2 : wr.cell? ⟨b, off + k * 2 + 1, none⟩ = some (.int .i64 p.2) := by rw [hbel.cell (p := ⟨b, _, none⟩) (by simp; omega)]; rw [← x2]; exact World.cell?_alloc_old _ _ _ (by simp; omega)
      clear x1 x2
      obtain ⟨p1, p2⟩ := p
      have hB2 : Below (w.heap.size + 1) (w.alloc (Obj.cells #[.int .i64 D, .slice (some ⟨b, off, none⟩) n cap] 24)) (wr.alloc (Obj.cells #[.int .u32 (p1 : Int), .int .i64 p2] 47)) := hbel.alloc hsz _
      have hO2 := hown.alloc (Obj.cells #[.int .u32 (p1 : Int), .int .i64 p2] 47)
      have k2 := heap_alloc_new wr (Obj.cells #[.int .u32 (p1 : Int), .int .i64 p2] 47)
      have hsz2 : w.heap.size + 1 ≤ (wr.alloc (Obj.cells #[.int .u32 (p1 : Int), .int .i64 p2] 47)).heap.size := by simp; omega
      obtain ⟨s0, s1, s2, s3, _⟩ := fresh2 wr 47 (.int .u32 0) (.int .i64 0) (.int .u32 (p1 : Int)) (.int .i64 p2)
      have HP := Lib.hid hp
      clear hown hbel hp
      go_upto_region 5 with fail
      obtain ⟨W2, eW2⟩ : ∃ W2, W2 = wr.alloc (Obj.cells #[Value.int .u32 (p1 : Int), Value.int .i64 p2] 47) := ⟨_, rfl⟩
      rw [← eW2] at hB2 hO2 k2 hsz2 ⊢
      clear eW2 s0 s1 s2 s3 y1 y2
      have q0 : W2.cell? ⟨wr.heap.size, 0, none⟩ = some (.int .u32 (p1 : Int)) := by rw [cell_of_row _ _ 0 _ 47 (0, 0) k2]; rfl
      have q1 : W2.cell? ⟨wr.heap.size, 1, none⟩ = some (.int .i64 p2) := by rw [cell_of_row _ _ 1 _ 47 (0, 0) k2]; rfl
      have HO := Lib.hid hO2
      have HB := Lib.hid hB2
      clear hO2 hB2 k2
      by_cases e : p2 = 0
      · have hit := Lib.hid (Lab.owns_hit HP.out e)
        have e' : (p2 == 0) = true := by rw [beq_iff_eq]; exact e
        clear e
        go_wp2_with (at_builtin; refine wpList_append_own _ rfl _ _ 39 rfl (w.heap.size + 1) 37 i0 (.int .u32 0) 1 4 Try.underlying39 hi hz0 hz1 hz2 rfl (by decide) _ _ _ rfl (HO.out.alloc _) ⟨W2.heap.size, 0, none⟩ 1 1 [.int .u32 p1] rfl rfl (one_new _ _ _) ?c2 ?c3 ?c4 ?c5 ?_)
        case c2 => rfl
        case c3 => unfold maxLen; omega
        case c4 => omega
        case c5 => first | omega | (rw [World.size_alloc]; omega)
        intro v' w1 hown' hgrow _
        have hbel' : Below (w.heap.size + 1) (w.alloc (Obj.cells #[.int .i64 D, .slice (some ⟨b, off, none⟩) n cap] 24)) w1 :=
          (HB.out.alloc hsz2 _).grown hgrow (by simp; omega) (fun k hk => (HO.out.lt k hk).1)
        have HO' := Lib.hid hown'
        have HB' := Lib.hid hbel'
        clear hown' hgrow hbel'
        go_wp2
        go_roundg (n - (k + 1))
        case rel =>
          refine ⟨k + 1, by omega, rfl, by go_num, ?_, HB'.out⟩
          rw [hit.out, U_snoc, List.length_append]; exact HO'.out
        case measure => have := HG.out; omega
      · have hit := Lib.hid (Lab.owns_miss HP.out e)
        have e' : (p2 == 0) = false := by rw [beq_eq_false_iff_ne]; exact e
        clear e
        go_wp2
        go_roundg (n - (k + 1))
        case rel =>
          refine ⟨k + 1, by omega, rfl, by go_num, ?_, HB.out⟩
          rw [hit.out]; exact HO.out
        case measure => have := HG.out; omega
    · have HO := Lib.hid hown
      have HB := Lib.hid hbel
      clear hown hbel
      have e := Lib.hid (List.take_of_length_le (l := ps) (i := k) (by rw [ER.out]; omega))
      go_wp2
      go_ret
      refine ⟨_, rfl, ?_, ⟨HB.out.os, HB.out.tape, HB.out.output, by simpa using by omega, fun i hi => ?_⟩⟩
      · have := HO.out; rw [e.out] at this; exact this
      · rw [HB.out.block i (by omega)]; exact Below.heap_alloc _ _ _ hi
theorem powns_none (D : Int) (w : World) :
    Calls Try.prog 26 #[.agg #[.int .i64 D, .slice none 0 0]] w fun e w' => e = .returned (.slice none 0 0) ∧ Below w.heap.size w w' := by
  go_enter Try.func26, Try.ntmps26
  go_wp2
  go_loop [3, 9] (fun o i => o = .slice none 0 0 ∧ i = .int .i64 0) (fun o i => 0)
  case atStart => exact ⟨rfl, rfl⟩
  case round =>
    obtain ⟨rfl, rfl⟩ := hrel
    go_wp2
    go_ret
    exact ⟨rfl, (Below.refl _ _).alloc (Nat.le_refl _) _⟩
theorem powns_any (v : Value) (ps : List (Nat × Int)) (D : Int) (w : World) (h : Reads w v ps) (hn : ps.length ≤ 140737488351232 / 4) :
    Calls Try.prog 26 #[.agg #[.int .i64 D, v]] w fun e w' =>
      ∃ v, e = .returned v ∧ w'.ownsRow (w.heap.size + 1) 37 1 v (Lab.owns ps).length (U (Lab.owns ps)) ∧ Below w.heap.size w w' := by
  rcases h with ⟨rfl, rfl⟩ | ⟨b, off, cap, rfl, h2, h3, h4⟩
  · refine (powns_none D w).mono ?_
    rintro e w' ⟨rfl, h⟩
    exact ⟨_, rfl, World.ownsRow_nil _ _ _ _, h⟩
  · exact powns_some b off cap ps D w hn h2 h4
end Go.Proofs.Ytlkhbbdigljpjaa
