/- A plan: is it light? -/
import Derived.Test.YtmadldgajjgbmaaVu
import Derived.Test.YtmadldgajjgbmaaVq
import Derived.StillTailTactics
import Derived.BigRegion
set_option linter.unusedVariables false
set_option linter.unusedSimpArgs false
namespace Go.Proofs.Ytmadldgajjgbmaa
open Go.RowKit
set_option linter.unusedVariables false
set_option linter.unusedSimpArgs false
theorem IntsL.below' {w w' : World} {v : Value} {ls : List Int} (h : IntsL w v ls) (hb : Below w.heap.size w w') : IntsL w' v ls := IntsL.below h hb
theorem BRd.below {w w' : World} {v : Value} {xs : List Nat} (h : BRd w v xs) (hb : Below w.heap.size w w') : BRd w' v xs := by
  obtain ⟨A, n, c, h1, h2, h3, h4, h5, h6, h7⟩ := h
  exact ⟨A, n, c, h1, h2, h3, h4, h5, h6.below hb, h7⟩
theorem MRd.below {w w' : World} {v : Value} {xs : List Mp} (h : MRd w v xs) (hb : Below w.heap.size w w') : MRd w' v xs := by
  obtain ⟨A, n, c, h1, h2, h3, h4, h5, h6, h7⟩ := h
  exact ⟨A, n, c, h1, h2, h3, h4, h5, h6.below hb, h7⟩
theorem Sd.Ok.below {w w' : World} {s : Sd} (h : s.Ok w) (hb : Below w.heap.size w w') : s.Ok w' := ⟨h.l.below hb, h.c.below hb, h.d.below hb, h.m.below hb, h.b⟩
/-- A plan's parts, to be read. -/
structure PlR (w : World) (co fr nm : Int) (A1 A2 : Option Addr) (l1 l2 : Nat) (xs : List Sl) (ss : List Sd) : Prop where
  b : Bi co ∧ Bi fr ∧ Bi nm
  n1 : xs.length = l1 ∧ l1 ≤ 140737488351232
  r1 : LV 2 encSl w A1 xs
  o1 : ∀ x ∈ xs, x.Ok
  n2 : ss.length = l2 ∧ l2 ≤ 140737488351232
  r2 : LV 12 encS w A2 ss
  o2 : ∀ s ∈ ss, s.Ok w
theorem PlR.below {w w' : World} {co fr nm : Int} {A1 A2 : Option Addr} {l1 l2 : Nat} {xs : List Sl} {ss : List Sd} (h : PlR w co fr nm A1 A2 l1 l2 xs ss) (hb : Below w.heap.size w w') : PlR w' co fr nm A1 A2 l1 l2 xs ss :=
  ⟨h.b, h.n1, h.r1.below hb, h.o1, h.n2, h.r2.below hb, fun s hs => (h.o2 s hs).below hb⟩
/-- Its lists are short. -/
def Light (l1 l2 : Nat) (ss : List Sd) : Prop := l1 ≤ 3000 ∧ l2 ≤ 3000 ∧ ∀ s ∈ ss, s.da.length ≤ 3000 ∧ s.mp.length ≤ 3000
def LightE (W : World) (l1 l2 : Nat) (ss : List Sd) (e : Ending) (w' : World) : Prop := ∃ q : Bool, e = .returned (.bool q) ∧ (q = true → Light l1 l2 ss) ∧ Below W.heap.size W w'
/-- A plan in a block of its own. -/
def PlB (W : World) (P : Nat) (co fr nm : Int) (A1 : Option Addr) (l1 c1 : Nat) (A2 : Option Addr) (l2 c2 : Nat) (w : World) : Prop :=
  Below W.heap.size W w ∧ w.heap[P]? = some (Obj.cells #[.int .i64 co, .int .i64 fr, .int .i64 nm, .slice A1 l1 c1, .slice A2 l2 c2] 25)
theorem PlB.below {W w w' : World} {P : Nat} {co fr nm : Int} {A1 A2 : Option Addr} {l1 c1 l2 c2 : Nat} (h : PlB W P co fr nm A1 l1 c1 A2 l2 c2 w) (hb : Below w.heap.size w w') : PlB W P co fr nm A1 l1 c1 A2 l2 c2 w' :=
  ⟨h.1.trans (hb.mono h.1.size), (hb.block _ (Array.getElem?_eq_some_iff.1 h.2).1).trans h.2⟩
theorem PlB.cell {W w : World} {P : Nat} {co fr nm : Int} {A1 A2 : Option Addr} {l1 c1 l2 c2 : Nat} (h : PlB W P co fr nm A1 l1 c1 A2 l2 c2 w) : w.cell? ⟨P, 0, none⟩ = some (.int .i64 co) ∧ w.cell? ⟨P, 1, none⟩ = some (.int .i64 fr) ∧ w.cell? ⟨P, 2, none⟩ = some (.int .i64 nm) ∧ w.cell? ⟨P, 3, none⟩ = some (.slice A1 l1 c1) ∧ w.cell? ⟨P, 4, none⟩ = some (.slice A2 l2 c2) := by
  refine ⟨?_, ?_, ?_, ?_, ?_⟩ <;> (rw [cell_of_row _ _ _ _ _ (0, 0) h.2]; rfl)
theorem plan_new (W : World) (co fr nm : Int) (A1 : Option Addr) (l1 c1 : Nat) (A2 : Option Addr) (l2 c2 : Nat) : PlB W W.heap.size co fr nm A1 l1 c1 A2 l2 c2 (W.alloc (Obj.cells #[.int .i64 co, .int .i64 fr, .int .i64 nm, .slice A1 l1 c1, .slice A2 l2 c2] 25)) :=
  ⟨below_alloc1 _ _, heap_alloc_new W _⟩
set_option maxHeartbeats 2000000 in
set_option maxRecDepth 100000 in
theorem light_any {W : World} {co fr nm : Int} {A1 A2 : Option Addr} {l1 l2 : Nat} {xs : List Sl} {ss : List Sd} (h : PlR W co fr nm A1 A2 l1 l2 xs ss) (c1 c2 : Nat) :
    Calls Try.prog 8 #[.agg #[.int .i64 co, .int .i64 fr, .int .i64 nm, .slice A1 l1 c1, .slice A2 l2 c2]] W (LightE W l1 l2 ss) := by
  have HP := Lib.hid h
  have HB := Lib.hid (plan_new W co fr nm A1 l1 c1 A2 l2 c2)
  obtain ⟨P, eP⟩ : ∃ P, W.heap.size = P := ⟨_, rfl⟩
  obtain ⟨w1, e1⟩ : ∃ w1, W.alloc (Obj.cells #[.int .i64 co, .int .i64 fr, .int .i64 nm, .slice A1 l1 c1, .slice A2 l2 c2] 25) = w1 := ⟨_, rfl⟩
  have HE := Lib.hid (And.intro eP e1)
  rw [eP, e1] at HB
  have hn1 := h.n1.2
  have hn2 := h.n2.2
  obtain ⟨m0, em0⟩ : ∃ m0, l1 + l2 = m0 := ⟨_, rfl⟩
  have i1 : IntKind.i64.wrap ((l1 : Int) + (l2 : Int)) = (m0 : Int) := by rw [IntKind.wrap_i64]; omega
  have HM := Lib.hid (show l1 + l2 = m0 ∧ m0 ≤ 1000000000000000 from ⟨em0, by omega⟩)
  obtain ⟨d1, d2, d3, d4, d5⟩ := HB.out.cell
  clear h hn1 hn2 em0
  go_enter Try.func8, Try.ntmps8
  go_upto_region 1 with fail
  try rw [eP]
  try rw [e1]
  clear eP e1
  go_wp2_with fail
  clear i1 d1 d2 d3 d4 d5
  go_loopg [3, 4] (l2 + 1) (fun gh v3 v4 wr => ∃ i m : Nat, l2 + 1 - i ≤ gh ∧ v3 = .int .i64 m ∧ v4 = .int .i64 i ∧ i ≤ l2 ∧ m0 ≤ m ∧ m ≤ 1000000000000000 ∧ (∀ k s, k < i → ss[k]? = some s → s.da.length ≤ m ∧ s.mp.length ≤ m) ∧ Hid (PlB W P co fr nm A1 l1 c1 A2 l2 c2 wr))
  case atStart => exact ⟨0, m0, by omega, rfl, rfl, Nat.zero_le _, Nat.le_refl _, HM.out.2, fun k s hk => absurd hk (Nat.not_lt_zero _), HB⟩
  case round =>
    clear HB
    obtain ⟨i, m, hg, rfl, rfl, hi, hm0, hm1, hss, hI⟩ := hrel
    obtain ⟨d1, d2, d3, d4, d5⟩ := hI.out.cell
    have HG := Lib.hid hg
    have HS := Lib.hid (And.intro hi (And.intro hm0 (And.intro hm1 hss)))
    by_cases hlt : i < l2
    · have q1 : (i : Int) < l2 := by omega
      by_cases hm : m ≤ 3000
      · have q2 : (m : Int) ≤ 3000 := by omega
        obtain ⟨s, hs⟩ : ∃ s, ss[i]? = some s := ⟨_, List.getElem?_eq_getElem (by rw [HP.out.n2.1]; exact hlt)⟩
        have hr2 := HP.out.r2.below hI.out.1
        obtain ⟨b, off, rfl⟩ := hr2.some_ (by have := HP.out.n2.1; omega)
        have k8 := hr2.at_ (j := 8) hs (u := s.dv) rfl
        have k9 := hr2.at_ (j := 9) hs (u := s.mv) rfl
        have hok := HP.out.o2 s (List.mem_of_getElem? hs)
        obtain ⟨Ad, nd, cd, ed, _, _, hdl, hdn, _, _⟩ := hok.d
        obtain ⟨Am, nM, cM, eM, _, _, hml, hmn, _, _⟩ := hok.m
        rw [ed] at k8
        rw [eM] at k9
        obtain ⟨y, ey⟩ : ∃ y, nd + nM = y := ⟨_, rfl⟩
        obtain ⟨z, ez⟩ : ∃ z, m + y = z := ⟨_, rfl⟩
        have i1 : IntKind.i64.wrap ((nd : Int) + (nM : Int)) = (y : Int) := by rw [IntKind.wrap_i64]; omega
        have i2 : IntKind.i64.wrap ((m : Int) + (y : Int)) = (z : Int) := by rw [IntKind.wrap_i64]; omega
        have i3 : IntKind.i64.wrap ((i : Int) + 1) = ((i + 1 : Nat) : Int) := by have := HP.out.n2.2; rw [IntKind.wrap_i64]; omega
        have HN := Lib.hid (show i + 1 ≤ l2 ∧ m0 ≤ z ∧ z ≤ 1000000000000000 ∧ (∀ k s, k < i + 1 → ss[k]? = some s → s.da.length ≤ z ∧ s.mp.length ≤ z) from ⟨by omega, by omega, by omega, fun k s' hk hs' => by
          by_cases e : k = i
          · subst e
            rw [hs] at hs'
            injection hs' with hs'
            rw [← hs']; omega
          · have := hss k s' (by omega) hs'
            omega⟩)
        clear hg hi hm0 hm1 hss hlt hm hs hr2 hok hdl hdn hml hmn ed eM ey ez d1 d2 d3 d4
        go_upto_region 5 with fail
        go_quiet (fail)
        rename_i nq
        have HI2 := Lib.hid (hI.out.below ⟨rfl, rfl, rfl, Nat.le_refl _, fun _ _ => rfl⟩ : PlB W P co fr nm A1 l1 c1 (some ⟨b, off, none⟩) l2 c2 (World.drewN _ nq))
        clear k8 k9 hI d5
        go_wp2_with fail
        go_roundg (l2 + 1 - (i + 1))
        case rel => exact ⟨i + 1, z, Nat.le_refl _, by first | rfl | simp, by first | rfl | simp, HN.out.1, HN.out.2.1, HN.out.2.2.1, HN.out.2.2.2, HI2⟩
        case measure => have := HG.out; have := HN.out.1; omega
      · have q2 : ¬ (m : Int) ≤ 3000 := by omega
        clear hg hi hm0 hm1 hss hlt hm
        go_wp2_with fail
        go_ret
        exact ⟨false, by simp [q2], fun h => (by cases h), hI.out.1⟩
    · have q1 : ¬ (i : Int) < l2 := by omega
      obtain ⟨q, eq⟩ : ∃ q, decide ((m : Int) ≤ 3000) = q := ⟨_, rfl⟩
      have HQ : Hid (q = true → Light l1 l2 ss) := Lib.hid (fun h => by
        rw [← eq] at h
        have h3 := of_decide_eq_true h
        have h4 := HM.out
        refine ⟨by omega, by omega, fun s hs => ?_⟩
        obtain ⟨k, hk⟩ := List.mem_iff_getElem?.1 hs
        have := hss k s (by have := (List.getElem?_eq_some_iff.1 hk).1; have := HP.out.n2.1; omega) hk
        omega)
      clear hg hi hm0 hm1 hss hlt
      go_wp2_with fail
      go_ret
      exact ⟨q, rfl, HQ.out, hI.out.1⟩
end Go.Proofs.Ytmadldgajjgbmaa
