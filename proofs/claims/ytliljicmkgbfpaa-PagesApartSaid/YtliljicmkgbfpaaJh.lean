/- leading: the entries of a table that are present. -/
import Derived.Test.YtliljicmkgbfpaaJf
import Derived.Test.YtliljicmkgbfpaaJg
import Derived.OwnWalkIn
import Derived.TacticsInMore
import Derived.LoopNIn
import Derived.LoopIn
set_option linter.unusedVariables false
set_option linter.unusedSimpArgs false
namespace Pg
/-- Where an entry that is present leads. -/
def gn (e : Nat) : Option Nat := if there e = true then some (frame e) else none
theorem gn_look (e : Nat) : (Pg.look e).map (·.1) = gn e := by unfold Pg.look gn; split <;> rfl
/-- The entries that are present, of the first so many. -/
def ld (E : Nat → Option Nat) (n : Nat) : List (Nat × Nat) := (List.range n).filterMap fun i => (E i).map fun x => (i, x)
theorem ld_yes {E : Nat → Option Nat} {n x : Nat} (h : E n = some x) : ld E (n + 1) = ld E n ++ [(n, x)] := by
  unfold ld; rw [List.range_succ, List.filterMap_append]; simp [h]
theorem ld_no {E : Nat → Option Nat} {n : Nat} (h : E n = none) : ld E (n + 1) = ld E n := by
  unfold ld; rw [List.range_succ, List.filterMap_append]; simp [h]
theorem ld_prefix (E : Nat → Option Nat) (n : Nat) : ∀ k, ld E n <+: ld E (n + k)
  | 0 => ⟨[], by simp⟩
  | k + 1 => by
    rw [← Nat.add_assoc]
    cases h : E (n + k) with
    | none => rw [ld_no h]; exact ld_prefix E n k
    | some x => rw [ld_yes h]; exact (ld_prefix E n k).trans (List.prefix_append _ _)
theorem ld_lt {E : Nat → Option Nat} {n : Nat} : ∀ x ∈ ld E n, x.1 < n := fun x hx => by
  unfold ld at hx
  rw [List.mem_filterMap] at hx
  obtain ⟨i, hi, e⟩ := hx
  rw [Option.map_eq_some_iff] at e
  obtain ⟨y, _, rfl⟩ := e
  exact List.mem_range.1 hi
end Pg
namespace Go.Proofs.Ytliljicmkgbfpaa
open Go.RowKit Pg
set_option linter.unusedVariables false
set_option linter.unusedSimpArgs false
attribute [local go_sem] Oper.semAt_some
theorem RoundIn.any {n n' : Nat} {P : Program} {l : Nat} {f : FuncId} {tmps : Array Value} {assign body : Code} {w : World} {R : Ending → World → Prop} (h : RoundIn Fence.wide n P l f tmps assign body w R) : RoundIn Fence.wide n' P l f tmps assign body w R :=
  ⟨h.1, fun c cs _ => h.2 c cs (room_wide _)⟩
theorem YieldAt.any {m m' : Nat} {P : Program} {l : Nat} {args : Array Value} {w : World} {R : Ending → World → Prop} (h : YieldAt Fence.wide m P l args w R) : YieldAt Fence.wide m' P l args w R := by
  obtain ⟨fn, tmps, assign, body, hy, hR⟩ := h
  exact ⟨fn, tmps, assign, body, hy, RoundIn.any hR⟩
variable {W0 : World} {R : Nat}
theorem leading_any (f : Int) (w : World) : Calls Try.prog 38 #[.pointer (some ⟨R, 0, none⟩), .int .i64 f] w fun e w' => e = .returned (.func (.func 45) #[] #[.pointer (some ⟨w.heap.size, 0, none⟩), .pointer (some ⟨w.heap.size + 1, 0, none⟩)]) ∧
    w' = (w.alloc (Obj.cells #[.pointer (some ⟨R, 0, none⟩)] 24)).alloc (Obj.cells #[.int .i64 f] 3) := by
  go_enter Try.func38, Try.ntmps38
  go_wp2
  go_ret
  exact ⟨rfl, rfl⟩
def enc2 (x : Nat × Nat) : Array Value := #[.int .i64 (x.1 : Int), .int .i64 (x.2 : Int)]
/-- What is read of a table by who goes over its entries: those that have not come yet. -/
def LV (W0 : World) (R f : Nat) (E : Nat → Option Nat) (T : List Nat) (pre : List (Nat × Nat)) (W : World) : Prop := ∃ os ds, St W0 T R os ds W ∧ Fr.own os (f : Int) ≠ 0 ∧ ∀ i, i < 8 → (∀ x ∈ pre, x.1 < i) → gn (ent ds f i) = E i
/-- What leading has laid. -/
def LZ (R f B1 B2 : Nat) (W : World) : Prop := W.heap[B1]? = some (Obj.cells #[.pointer (some ⟨R, 0, none⟩)] 24) ∧ W.heap[B2]? = some (Obj.cells #[.int .i64 (f : Int)] 3)
set_option maxRecDepth 100000 in
set_option maxHeartbeats 4000000 in
theorem leading_iter (f B1 B2 : Nat) (E : Nat → Option Nat) : Iter Try.prog 45 #[.pointer (some ⟨B1, 0, none⟩), .pointer (some ⟨B2, 0, none⟩)] enc2 [B1, B2] (LV W0 R f E) (LZ R f B1 B2) (ld E 8) := by
  intro l m J Jx hJ hJx hV hY T W hT0 hT hZ h0
  have HV := Lib.hid hV
  have HY := Lib.hid hY
  have HJ := Lib.hid hJ
  have HS := Lib.hid (And.intro hT0 (And.intro hT (And.intro hZ h0)))
  have kept : ∀ X, Same T W X → ∀ b ∈ T, b < X.heap.size := fun X hs b hb => by
    have := hs b hb
    rw [Array.getElem?_eq_getElem (hT b hb)] at this
    exact (Array.getElem?_eq_some_iff.1 this).1
  have HK := Lib.hid kept
  clear hV hY hJ hJx hT0 hT hZ h0 kept
  go_enter Try.func45, Try.ntmps45
  go_wp2
  go_loopw [6] (fun k wr => ∃ j : Nat, j ≤ 8 ∧ k = .int .i64 j ∧ Hid (J T (ld E j) wr ∧ Same T W wr)) (fun k wr => 8 - (intOf k).toNat)
  case atStart => exact ⟨0, by omega, rfl, Lib.hid ⟨HS.out.2.2.2, Same.refl _ _⟩⟩
  case round =>
    obtain ⟨j, hj, rfl, hrel⟩ := hrel
    by_cases h8 : j = 8
    · subst h8
      have HF := Lib.hid hrel.out
      clear hrel
      go_wp2_with fail
      go_end0
      exact ⟨⟨_, rfl⟩, .inl HF.out⟩
    · have hlt : (j : Int) < 8 := by omega
      have hTr := HK.out wr hrel.out.2
      obtain ⟨os, ds, hst, hown, hent⟩ := HV.out T _ wr hTr hrel.out.1
      have hx := hent j (by omega) ld_lt
      have hxl := ent_lt hst hown (i := j) (by omega)
      obtain ⟨e, ee⟩ : ∃ e, ent ds f j = e := ⟨_, rfl⟩
      have G := Lib.hid (get_st hst f j hown (by omega) e (by rw [ee]))
      rw [ee] at hxl hx
      have FR := Lib.hid (fun (X : World) => frame_any e X hxl)
      have hbit := there_bit e hxl
      have b1 : wr.heap[B1]? = some (Obj.cells #[.pointer (some ⟨R, 0, none⟩)] 24) := (hrel.out.2 B1 (HS.out.1 B1 (by simp))).trans HS.out.2.2.1.1
      have b2 : wr.heap[B2]? = some (Obj.cells #[.int .i64 (f : Int)] 3) := (hrel.out.2 B2 (HS.out.1 B2 (by simp))).trans HS.out.2.2.1.2
      have c1 : wr.cell? ⟨B1, 0, none⟩ = some (.pointer (some ⟨R, 0, none⟩)) := by rw [cell_of_row _ _ 0 _ 24 (0, 0) b1]; rfl
      have c2 : wr.cell? ⟨B2, 0, none⟩ = some (.int .i64 (f : Int)) := by rw [cell_of_row _ _ 0 _ 3 (0, 0) b2]; rfl
      have HT := Lib.hid hTr
      clear hst hown hent hxl b1 b2 hTr ee
      go_wp2_with fail
      refine G.out.mono ?_; rintro e1 w2 ⟨rfl, _, _, hb2⟩
      have hJ2 : J T (ld E j) w2 := HJ.out.more hrel.out.1 HT.out hb2 (fun b hb => ⟨.inl hb, Nat.lt_of_lt_of_le (HT.out b hb) hb2.size⟩)
      have hS2 : Same T W w2 := hrel.out.2.trans (fun b hb => hb2.block b (HT.out b hb))
      have H2 := Lib.hid (And.intro hJ2 hS2)
      clear hJ2 hS2 hb2 hrel G c1 c2
      by_cases hth : there e = true
      · have hx2 : e % 2 = 1 := by simpa [there] using hth
        have hbit1 : bits .and .u64 (e : Int) 1 = 1 := by rw [hbit, hx2]; rfl
        have hE : E j = some (frame e) := by rw [← hx]; unfold gn; rw [if_pos hth]
        have hld := ld_yes hE
        have hpre := (ld_prefix E (j + 1) (8 - (j + 1)))
        rw [show j + 1 + (8 - (j + 1)) = 8 by omega, hld] at hpre
        obtain ⟨fn, tmps, assign, body, hy, hR⟩ := YieldAt.any (m' := 4) (HY.out T (ld E j) (j, frame e) w2 HS.out.1 (HK.out w2 H2.out.2) hpre H2.out.1)
        dsimp only [enc2] at hy
        have HP := Lib.hid (And.intro hpre hld)
        clear hbit hx2 hth hpre hld hE hx
        go_upto_region 4 with fail
        refine (wpIn_wide (n := 5)).1 ?_
        gi_wp2_with fail
        refine ⟨trivial, ?_⟩
        refine (callsIn_wide.2 (FR.out _)).mono ?_
        rintro e9 w9 ⟨rfl, rfl⟩
        gi_wp2_with fail
        refine hR.mono ?_
        rintro e9 W9 (⟨rfl, hJ9, hS9⟩ | ⟨rfl, hJx9, hS9⟩)
        · have H9 := Lib.hid (And.intro hJ9 (H2.out.2.trans hS9))
          clear hJ9 hS9
          gi_wp2
          go_wp2_with fail
          go_roundw
          case rel => exact ⟨j + 1, by omega, by go_num, Lib.hid ⟨by rw [HP.out.2]; exact H9.out.1, H9.out.2⟩⟩
          case measure => simp [intOf]; omega
        · have H9 := Lib.hid (And.intro hJx9 (H2.out.2.trans hS9))
          clear hJx9 hS9
          gi_wp2
          go_wp2_with fail
          refine bodyPost_ret (results_none rfl _ _ _) rfl ?_
          exact ⟨⟨_, rfl⟩, .inr ⟨_, HP.out.1, H9.out⟩⟩
      · have hx2 : e % 2 = 0 := by
          have : ¬ e % 2 = 1 := by simpa [there] using hth
          omega
        have hbit1 : bits .and .u64 (e : Int) 1 = 0 := by rw [hbit, hx2]; rfl
        have HP := Lib.hid (ld_no (show E j = none by rw [← hx]; unfold gn; rw [if_neg hth]))
        clear hbit hx2 hth hx
        go_wp2_with fail
        go_roundw
        case rel => exact ⟨j + 1, by omega, by go_num, Lib.hid ⟨by rw [HP.out]; exact H2.out.1, H2.out.2⟩⟩
        case measure => simp [intOf]; omega
end Go.Proofs.Ytliljicmkgbfpaa
