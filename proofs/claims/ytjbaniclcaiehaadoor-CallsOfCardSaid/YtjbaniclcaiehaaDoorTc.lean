/- Of: the text that stands at the call's number, read. -/
import Derived.Test.YtjbaniclcaiehaaDoorTb
import Derived.Laws.ResultCell
set_option linter.unusedVariables false
set_option linter.unusedSimpArgs false
namespace Go.Proofs.YtjbaniclcaiehaaDoor
open Go.RowKit
set_option linter.unusedVariables false
set_option linter.unusedSimpArgs false
theorem results_row_tmp {P : Program} {fn : Func} {p u : Tmp} {ty : TypeId} (h : fn.results = #[.cell p ty, .tmp u]) (tmps : Array Value) (w : World) (g : Nat) (t : TypeId) (cs : Array Value) (fr : Nat × Nat) (d : TypeDesc)
    (hp : tmps.getD p undef = .pointer (some ⟨g, 0, none⟩)) (hg : w.heap[g]? = some (.cells cs t fr)) (hu : P.underlying ty = some d) (hd : (match d with | .struct _ | .array _ _ => true | _ => false) = true) (hi : (P.info? ty).map (·.size) = some cs.size) (x : Value) (hx : tmps.getD u undef = x) :
    (results fn tmps).run P w = .ok (.tuple #[.agg cs, x]) w := by
  rw [results_cell_tmp h, hp, hx]
  simp [asAddr, run_loadVar_row w g t ty cs fr d hg hu hd hi, Result.andThen, Sem.run]
/-- The program's table, as it is laid. -/
def Laid (W : World) : Prop := ∀ i : Nat, i < 41 → W.cell? ⟨0, i, none⟩ = some (.string (S (TXL.getD i [])))
theorem Laid.on {W W' : World} (h : Laid W) (hb : Below W.heap.size W W') : Laid W' := fun i hi => by
  have := h i hi
  rw [hb.cell (p := ⟨0, i, none⟩) (block_lt_of_cell this)]
  exact this
set_option maxHeartbeats 8000000 in
set_option maxRecDepth 100000 in
theorem of_at (k : Nat) (W : World) (hk : (k : Int) < 18446744073709551616) (hL : Laid W) : Calls Tryd.prog 8 #[.int .u64 (k : Int)] W (OfE k W) := by
  obtain ⟨w0, e0⟩ : ∃ w0, W.alloc (Obj.cells zSp 29) = w0 := ⟨_, rfl⟩
  obtain ⟨R, eR⟩ : ∃ R, W.heap.size = R := ⟨_, rfl⟩
  have hb0 : Below W.heap.size W w0 := by rw [← e0]; exact below_alloc1 W _
  have hR : w0.heap[R]? = some (Obj.cells zSp 29) := by rw [← e0, ← eR]; exact heap_alloc_new W _
  have HR := Lib.hid (And.intro hb0 (And.intro hR eR))
  have HK := Lib.hid hk
  have HE := Lib.hid e0
  have HL := Lib.hid (hL.on hb0)
  clear hb0 hR e0 hk hL
  go_enter Tryd.func8, Tryd.ntmps8
  go_upto_region 1 with fail
  try rw [show W.alloc (Obj.cells #[.string ⟨#[]⟩, .slice none 0 0, .slice none 0 0] 29) = w0 from HE.out]
  try rw [eR]
  clear eR HE
  by_cases hin : 1 ≤ k ∧ k ≤ 40
  · have lt1 : ¬ (k : Int) < 1 := by omega
    have lt2 : ¬ (k : Int) > 40 := by omega
    have lt3 : ¬ 40 < (k : Int) := by omega
    have lt4 : (k : Int) < 41 := by omega
    have lt5 : (0 : Int) ≤ (k : Int) := by omega
    obtain ⟨l, el⟩ : ∃ l, TXL.getD k [] = l := ⟨_, rfl⟩
    have ht := txl_at hin.1 hin.2
    have hc := HL.out k (by omega)
    rw [el] at ht hc
    have CS := Lib.hid (spec_any l (by omega) ht.2.2.2.2 w0)
    obtain ⟨s, es⟩ : ∃ s, S l = s := ⟨_, rfl⟩
    rw [es] at hc CS
    have HI := Lib.hid (And.intro hin ht)
    clear hin ht el es HL
    go_upto_region 3 with fail
    go_wp2_with fail
    refine CS.out.mono ?_; rintro e w1 ⟨hb, A1, c1, A2, c2, rfl, g1, g2, r1, r2⟩
    have HR1 := (hb.block R (Array.getElem?_eq_some_iff.1 HR.out.2.1).1).trans HR.out.2.1
    obtain ⟨cs, ecs⟩ : ∃ cs : Array Value, #[.string (S (prs l).nm), .slice A1 (prs l).l1.length c1, .slice A2 (prs l).l2.length c2] = cs := ⟨_, rfl⟩
    rw [ecs]
    have h3 : cs.size = 3 := by rw [← ecs]; rfl
    have h1 : cs.all (·.oneCell') = true := by rw [← ecs]; simp [Value.oneCell']
    have HI3 : Hid ((Tryd.prog.info? 29).map (·.size) = some cs.size) := Lib.hid (by rw [h3]; exact sizeSp)
    have HZS : Hid (zSp.size = cs.size) := Lib.hid (by rw [h3]; rfl)
    have HO : Hid (OfE k W (.returned (.tuple #[.agg cs, .bool true])) (w1.setRow R cs)) := by
      have ht := Turn.row w1 R cs
      have hB1 := HR.out.1.trans (hb.mono HR.out.1.size)
      have hkeep : ∀ {A : Option Addr} {n c : Nat} {z : List Int}, RW (fun b => w0.heap.size ≤ b) 3 inI w1 (.slice A n c) z → NR (w1.setRow R cs) A z := fun {A n c z} h =>
        (h.keep (own' := fun _ => True) (w' := w1.setRow R cs) fun b cur q1 q2 => ⟨trivial, setRow_other w1 R b cs (by have := (Array.getElem?_eq_some_iff.1 HR.out.2.1).1; omega)⟩).lr
      refine Lib.hid ⟨hB1.trans (ht.below hB1.size fun b hb => by rw [List.mem_singleton.1 hb, ← HR.out.2.2]; exact Nat.le_refl _), ?_⟩
      rw [if_pos HI.out.1, ← HI.out.2.1, ← HI.out.2.2.1, ← HI.out.2.2.2.1]
      exact ⟨A1, c1, A2, c2, by rw [ecs], g1, g2, hkeep r1, hkeep r2⟩
    have HZ2 := Lib.hid (setRow_heap w1 R _ cs _ _ HR1)
    have HC := Lib.hid (And.intro HR1 h1)
    clear hb HR1 ecs h3 h1 r1 r2 g1 g2
    go_wp2_with (with_reducible refine wpList_store_row rfl 29 (.tmp 2) (.tmp 14) rfl R cs rfl rfl 29 zSp HC.out.1 HI3.out HZS.out HC.out.2 ?_)
    exact bodyPost_ret (results_row_tmp (by rfl) _ _ R 29 _ (0, 0) _ (by rfl) HZ2.out Tryd.underlying29 rfl HI3.out _ (by rfl)) rfl HO.out
  · have HO : Hid (OfE k W (.returned (.tuple #[.agg zSp, .bool false])) (w0.setRow R zSp)) := by
      have ht := Turn.row w0 R zSp
      refine Lib.hid ⟨HR.out.1.trans (ht.below HR.out.1.size fun b hb => by rw [List.mem_singleton.1 hb, ← HR.out.2.2]; exact Nat.le_refl _), ?_⟩
      rw [if_neg hin]
      exact ⟨none, 0, none, 0, rfl⟩
    have HZ2 := Lib.hid (setRow_heap w0 R _ zSp _ _ HR.out.2.1)
    have HI3 : Hid ((Tryd.prog.info? 29).map (·.size) = some zSp.size) := Lib.hid sizeSp
    have HZ1 : Hid (zSp.all (·.oneCell') = true) := Lib.hid (by simp [zSp, Value.oneCell'])
    by_cases h1 : 1 ≤ k
    · have lt1 : ¬ (k : Int) < 1 := by omega
      have lt2 : (k : Int) > 40 := by omega
      have lt3 : 40 < (k : Int) := by omega
      clear hin h1
      go_upto_region 2 with fail
      go_wp2_with (with_reducible refine wpList_store_row rfl 29 (.tmp 2) (.tmp 10) rfl R zSp rfl rfl 29 zSp HR.out.2.1 HI3.out rfl HZ1.out ?_)
      exact bodyPost_ret (results_row_tmp (by rfl) _ _ R 29 _ (0, 0) _ (by rfl) HZ2.out Tryd.underlying29 rfl HI3.out _ (by rfl)) rfl HO.out
    · have lt1 : (k : Int) < 1 := by omega
      clear hin h1
      go_upto_region 2 with fail
      go_wp2_with (with_reducible refine wpList_store_row rfl 29 (.tmp 2) (.tmp 10) rfl R zSp rfl rfl 29 zSp HR.out.2.1 HI3.out rfl HZ1.out ?_)
      exact bodyPost_ret (results_row_tmp (by rfl) _ _ R 29 _ (0, 0) _ (by rfl) HZ2.out Tryd.underlying29 rfl HI3.out _ (by rfl)) rfl HO.out
theorem of_any {W : World} (hL : Laid W) : HOF W := fun k w hk hb => of_at k w hk (hL.on hb)
end Go.Proofs.YtjbaniclcaiehaaDoor
