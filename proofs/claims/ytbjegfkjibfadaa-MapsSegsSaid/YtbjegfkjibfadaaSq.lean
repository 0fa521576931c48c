/- Segs. -/
import Derived.Test.YtbjegfkjibfadaaSp
set_option linter.unusedVariables false
set_option linter.unusedSimpArgs false
namespace Go.Proofs.Ytbjegfkjibfadaa
open Go.RowKit
set_option linter.unusedVariables false
set_option linter.unusedSimpArgs false
def enS (x : Int) : Value := .int .u64 x
theorem enS_one (x : Int) : (enS x).oneCell' = true := rfl
theorem infoU : (Try.prog.info? 24).map (fun i => (i.zero, i.size, i.bytes)) = some (some (.int .u64 0), 1, 8) := by kernel_rfl
/-- The segments' names. -/
def sgs (l : List Mp) : List Int := l.map Mp.s
def sgf (l : List Mp) (i : Nat) : Int := (sgs l)[i]?.getD 0
/-- The names, each once, rising. -/
def SegRow (own : Nat → Prop) (w : World) (v : Value) (l : List Mp) (m : Nat) (fr : Nat → Int) : Prop := Cmp l.length (sgf l) m fr ∧ ((m = 0 ∧ v = .slice none 0 0) ∨ ∃ g o c, v = .slice (some ⟨g, o, none⟩) m c ∧ own g ∧ AR w g o m fr)
theorem append_s {w : World} {own : Nat → Prop} {v : Value} {xs : List Int} {y : Int} {b : Nat} (h : RW own 24 enS w v xs) (hl : xs.length ≤ 1000) (hb : w.heap[b]? = some (Obj.cells #[.int .u64 y] 24)) :
    ∃ v' w', (Builtin.append_ #[37, 37] 37 #[v, .slice (some ⟨b, 0, none⟩) 1 1]).run Try.prog w = .ok v' w' ∧ RW (fun b => own b ∨ w.heap.size ≤ b) 24 enS w' v' (xs ++ [y]) ∧ ∃ S, Turn S w w' ∧ ∀ b ∈ S, own b ∧ ∃ cur, w.heap[b]? = some (Obj.cells cur 24) := by
  obtain ⟨i, hi, hie⟩ := Option.map_eq_some_iff.1 infoU
  injection hie with hz h2
  injection h2 with hsz hby
  have hr : LR enS w (some ⟨b, 0, none⟩) [y] := fun j x hj => by
    match j with
    | 0 =>
      obtain rfl : y = x := by simpa using hj
      refine ⟨b, 0, rfl, (Array.getElem?_eq_some_iff.1 hb).1, ?_⟩
      show w.cell? ⟨b, 0, none⟩ = some (.int .u64 y)
      rw [cell_of_row _ _ 0 _ _ _ hb]; rfl
    | j + 1 => simp at hj
  have h3 := append_rw (P := Try.prog) (ys := [y]) 37 37 i (.int .u64 0) 8 Try.underlying37 hi hz hsz hby (by omega) rfl enS_one h (by rw [List.length_singleton]; omega) (some ⟨b, 0, none⟩) 1 (by rw [List.length_singleton]; exact Nat.le_refl _) hr
  rw [List.length_singleton] at h3
  exact h3
set_option maxHeartbeats 2000000 in
theorem segs_any {w : World} {A : Option Addr} {l c : Nat} {us : List Mp} (hl : us.length = l) (hm : l ≤ 16) (hr : LV 5 encM w A us) :
    Calls Try.prog 15 #[.slice A l c] w fun e w' => ∃ v, e = .returned v ∧ (∃ m fr, SegRow (fun b => w.heap.size ≤ b) w' v us m fr) ∧ Below w.heap.size w w' := by
  have HR := Lib.hid hr
  have HL := Lib.hid hl
  have HM := Lib.hid hm
  clear hr hl hm
  go_enter Try.func15, Try.ntmps15
  go_wp2_with fail
  go_loopg [3, 8] l (fun gh v i wr => ∃ k : Nat, k ≤ l ∧ gh = l - k ∧ i = .int .i64 k ∧ Hid (RW (fun b => w.heap.size ≤ b) 24 enS wr v (sgs (us.take k)) ∧ (k = 0 → v = .slice none 0 0) ∧ Below w.heap.size w wr))
  case atStart => exact ⟨0, by omega, by omega, rfl, Lib.hid ⟨RW.nil _ _, fun _ => rfl, Below.refl _ _⟩⟩
  case round =>
    obtain ⟨k, hk, hg, rfl, hI⟩ := hrel
    by_cases hlt : k < l
    · obtain ⟨m, hy⟩ : ∃ m, us[k]? = some m := ⟨_, List.getElem?_eq_getElem (by rw [HL.out]; exact hlt)⟩
      obtain ⟨B, off, rfl, hb, c0, c1, c2, c3, c4⟩ := (HR.out.below hI.out.2.2).five hy
      have hs : sgs (us.take (k + 1)) = sgs (us.take k) ++ [m.s] := by
        unfold sgs
        rw [List.take_add_one, hy, List.map_append]; rfl
      have b1 := below_alloc1 wr (blkM m)
      have b2 := below_alloc1 (wr.alloc (blkM m)) (Obj.cells #[.int .u64 m.s] 24)
      have r2 := heap_alloc_new (wr.alloc (blkM m)) (Obj.cells #[.int .u64 m.s] 24)
      obtain ⟨h1, _, h3⟩ := hI.out
      have hkeep : RW (fun b => w.heap.size ≤ b) 24 enS ((wr.alloc (blkM m)).alloc (Obj.cells #[.int .u64 m.s] 24)) _ (sgs (us.take k)) := h1.keep fun b cur ho hc => ⟨ho, by
        have hlt := (Array.getElem?_eq_some_iff.1 hc).1
        rw [b2.block b (Nat.lt_of_lt_of_le hlt b1.size), b1.block b hlt]⟩
      obtain ⟨v', w', hrun, hu, S, ht, hS⟩ := append_s hkeep (by unfold sgs; rw [List.length_map, List.length_take]; have := HM.out; omega) r2
      have h4 := below_up (below_up h3 b1) b2
      have HE : Hid (RW (fun b => w.heap.size ≤ b) 24 enS w' v' (sgs (us.take (k + 1))) ∧ (k + 1 = 0 → v' = .slice none 0 0) ∧ Below w.heap.size w w') := Lib.hid ⟨by rw [hs]; exact hu.keep fun b cur ho _ => ⟨by rcases ho with h | h; exact h; exact Nat.le_trans h4.size h, rfl⟩, fun h => by omega, h4.trans (ht.below h4.size fun b hb => (hS b hb).1)⟩
      rw [show (wr.alloc (blkM m)).heap.size = wr.heap.size + 1 from by simp] at hrun
      have HRUN := Lib.hid hrun
      obtain ⟨a, s, f, n, wt⟩ := m
      simp only [] at c0 c1 c2 c3 c4
      have hm := HM.out
      have l1 : (k : Int) < l := by omega
      have i1 : IntKind.i64.wrap ((k : Int) + 1) = (k : Int) + 1 := by rw [IntKind.wrap_i64]; omega
      clear hy hs b1 b2 r2 h1 h3 hkeep hrun hu ht hS h4 hm hI
      go_wp2_with (at_builtin; refine wpList_append_by rfl (.tmp 12) (.tmp 15) _ _ rfl _ _ _ rfl rfl w' HRUN.out ?_)
      go_wp2_with fail
      go_roundg (l - (k + 1))
      case rel => exact ⟨k + 1, by omega, rfl, by simp, HE⟩
      case measure => first | omega | (simp; omega)
    · have l1 : ¬ (k : Int) < l := by omega
      have hkl : k = l := by omega
      obtain ⟨h1, h2, h3⟩ := hI.out
      rw [List.take_of_length_le (by rw [HL.out]; omega)] at h1
      have hlen : (sgs us).length = l := by unfold sgs; rw [List.length_map, HL.out]
      by_cases h0 : l = 0
      · have hv := h2 (by omega)
        have CS := Lib.hid sort_nil
        have CC := Lib.hid compact_nil
        have HD : Hid (SegRow (fun b => w.heap.size ≤ b) wr (.slice none 0 0) us 0 (fun _ => 0)) := Lib.hid ⟨⟨fun i1 i2 q1 q2 => by omega, fun x hx => by omega, fun y hy => by rw [HL.out] at hy; omega⟩, .inl ⟨rfl, rfl⟩⟩
        have HB := Lib.hid h3
        subst hv
        clear h1 h2 h3 hlen h0 hlt hkl hk hg hI
        go_wp2_with fail
        refine (CS.out _).mono ?_; rintro e w1 ⟨rfl, rfl⟩
        go_wp2_with fail
        refine (CC.out _).mono ?_; rintro e w1 ⟨rfl, rfl⟩
        go_wp2_with fail
        go_ret
        exact ⟨_, rfl, ⟨0, _, HD.out⟩, HB.out⟩
      · rcases h1 with ⟨h1, _⟩ | ⟨g, o, cp, cur, rfl, hg1, hrow, hsz, hcp, hmx, hxs⟩
        · rw [h1] at hlen; simp at hlen; omega
        · rw [hlen] at hcp
          have har : AR wr g o l (sgf us) := ⟨cur, hrow, by omega, fun i hi => by
            have : (sgs us)[i]? = some (sgf us i) := by
              unfold sgf
              rw [List.getElem?_eq_getElem (by rw [hlen]; exact hi)]; rfl
            exact hxs i _ this⟩
          have CS := Lib.hid (sort_any (c := cp) har HM.out)
          have HB := Lib.hid h3
          have HG := Lib.hid (And.intro hg1 (And.intro hcp (And.intro hmx h0)))
          rw [hlen]
          clear h2 h3 hlen h0 hlt hkl hk hg hI hg1 hrow hsz hcp hmx hxs har
          go_wp2_with fail
          refine CS.out.mono ?_; rintro e w1 ⟨rfl, ht, f', ha, hrl, hso⟩
          have hg := HG.out
          have hb1 : Below w.heap.size w w1 := HB.out.trans (ht.below HB.out.size (by simpa using hg.1))
          have CC := Lib.hid (compact_any (c := cp) ha hso (by omega) (by have := HM.out; omega) hg.2.1 hg.2.2.1)
          have HB1 := Lib.hid hb1
          have HRL := Lib.hid hrl
          clear ht ha hrl hso hg hb1 CS
          go_wp2_with fail
          refine CC.out.mono ?_; rintro e w2 ⟨m, rfl, hm1, hm2, ht, fr, ha, hcm⟩
          have HD : Hid (SegRow (fun b => w.heap.size ≤ b) w2 (.slice (some ⟨g, o, none⟩) m cp) us m fr) := Lib.hid ⟨⟨hcm.rise, fun x hx => by
            obtain ⟨y, y1, y2⟩ := hcm.back x hx
            obtain ⟨z, z1, z2, z3⟩ := HRL.out.new y (Nat.zero_le _) y1
            exact ⟨z, by rw [HL.out]; exact z2, y2.trans z3⟩, fun y hy => by
            rw [HL.out] at hy
            obtain ⟨z, z1, z2, z3⟩ := HRL.out.old y (Nat.zero_le _) hy
            obtain ⟨x, x1, x2⟩ := hcm.forth z z2
            exact ⟨x, x1, z3.trans x2⟩⟩, .inr ⟨g, o, cp, rfl, HG.out.1, ha⟩⟩
          have HB2 := Lib.hid (HB1.out.trans (ht.below HB1.out.size (by simpa using HG.out.1)))
          clear hm1 hm2 ht ha hcm CC
          go_wp2_with fail
          go_ret
          exact ⟨_, rfl, ⟨m, fr, HD.out⟩, HB2.out⟩
end Go.Proofs.Ytbjegfkjibfadaa
