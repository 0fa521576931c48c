import Derived.Test.YtlkhbbdigljpjaaSq
import Derived.Test.YtlkhbbdigljpjaaRo
namespace Go.Proofs.Ytlkhbbdigljpjaa
open Go.RowKit
set_option linter.unusedVariables false
set_option linter.unusedSimpArgs false

/-- A label that came in, past which nothing is asked of a long one. -/
def Came (w : World) (v : Value) : Prop := (∃ a c, v = .slice a 0 c) ∨ (∃ a n c, v = .slice a n c ∧ 1000 < n) ∨ ∃ ps, Reads w v ps ∧ ps.length ≤ 1000
theorem right_both (D : Int) (v : Value) (w : World) (r : Bool) (h1 : ∀ W, Below w.heap.size w W → Calls Try.prog 12 #[.agg #[.int .i64 D, v]] W fun e w' => e = .returned (.bool r) ∧ Below W.heap.size W w')
    (h2 : ∀ W, Below w.heap.size w W → Calls Try.prog 13 #[.agg #[.int .i64 D, v]] W fun e w' => e = .returned (.bool r) ∧ Below W.heap.size W w') (a : Option Addr) (n c : Nat) (hv : v = .slice a n c) (hn : n ≤ 1000) :
    Calls Try.prog 3 #[.agg #[.int .i64 D, v]] w fun e w' => e = .returned (.bool true) ∧ Below w.heap.size w w' := by
  subst hv
  have H1 := Lib.hid h1
  have H2 := Lib.hid h2
  have HFit := Lib.hid (fun (W : World) => fit_any W)
  have HB := Lib.hid (show Below w.heap.size w (w.alloc (Obj.cells #[.int .i64 D, .slice a n c] 24)) from (Below.refl _ _).alloc (Nat.le_refl _) _)
  have hk := heap_alloc_new w (Obj.cells #[.int .i64 D, .slice a n c] 24)
  have tf : ¬ (1000 : Int) < (n : Int) := by omega
  clear h1 h2 hn
  go_enter Try.func3, Try.ntmps3
  go_wp2_with fail
  refine (HFit.out _).mono ?_
  rintro e w1 ⟨rfl, hb1⟩
  have hk1 : w1.heap[w.heap.size]? = some (Obj.cells #[.int .i64 D, .slice a n c] 24) := by rw [hb1.block _ (by simp)]; exact hk
  have HB1 := Lib.hid (HB.out.trans (hb1.mono HB.out.size))
  obtain ⟨c0, c1⟩ := (⟨by rw [cell_of_row _ _ 0 _ 24 (0, 0) hk1]; rfl, by rw [cell_of_row _ _ 1 _ 24 (0, 0) hk1]; rfl⟩ : w1.cell? ⟨w.heap.size, 0, none⟩ = some (.int .i64 D) ∧ w1.cell? ⟨w.heap.size, 1, none⟩ = some (.slice a n c))
  have hS : ∀ wx, Below w1.heap.size w1 wx → wx.cell? ⟨w.heap.size, 0, none⟩ = some (.int .i64 D) ∧ wx.cell? ⟨w.heap.size, 1, none⟩ = some (.slice a n c) := fun wx hx => by
    have : wx.heap[w.heap.size]? = some (Obj.cells #[.int .i64 D, .slice a n c] 24) := by rw [hx.block _ (Array.getElem?_eq_some_iff.1 hk1).1]; exact hk1
    exact ⟨by rw [cell_of_row _ _ 0 _ 24 (0, 0) this]; rfl, by rw [cell_of_row _ _ 1 _ 24 (0, 0) this]; rfl⟩
  have HS := Lib.hid hS
  have hcall := Lib.hid ((Below.refl w1.heap.size w1).drew)
  clear hb1 hk hk1 hS
  go_upto_region 5 with fail
  go_region_held3 (fun w' => w'.cell? ⟨w.heap.size, 0, none⟩ = some (.int .i64 D) ∧ w'.cell? ⟨w.heap.size, 1, none⟩ = some (.slice a n c))
    (first
      | exact HS.out _ hcall.out)
    (first
      | (go_at_call_of 12 (Value.agg #[Value.int .i64 D, .slice a n c])
         refine (H1.out _ (HB1.out.trans (hcall.out.mono HB1.out.size))).mono ?_
         rintro e wq ⟨rfl, hb'⟩
         replace hcall := Lib.hid (hcall.out.trans (hb'.mono hcall.out.size))
         clear hb')
      | (go_at_call_of 13 (Value.agg #[Value.int .i64 D, .slice a n c])
         refine (H2.out _ (HB1.out.trans (hcall.out.mono HB1.out.size))).mono ?_
         rintro e wq ⟨rfl, hb'⟩
         replace hcall := Lib.hid (hcall.out.trans (hb'.mono hcall.out.size))
         clear hb'))
  all_goals
    go_wp2_with fail
    go_ret
    exact ⟨by first | rfl | simp, HB1.out.trans (hcall.out.mono HB1.out.size)⟩
theorem right_law (D : Int) (v : Value) (w : World) (h : Came w v) :
    Calls Try.prog 3 #[.agg #[.int .i64 D, v]] w fun e w' => e = .returned (.bool true) ∧ Below w.heap.size w w' := by
  rcases h with ⟨a, c, rfl⟩ | ⟨a, n, c, rfl, hn⟩ | ⟨ps, hr, hn⟩
  · exact right_both D _ w (Lab.right D []) (fun W _ => pright_empty D a c W) (fun W _ => right_empty D a c W) a 0 c rfl (by omega)
  · have HFit := Lib.hid (fun (W : World) => fit_any W)
    have HB := Lib.hid (show Below w.heap.size w (w.alloc (Obj.cells #[.int .i64 D, .slice a n c] 24)) from (Below.refl _ _).alloc (Nat.le_refl _) _)
    have hk := heap_alloc_new w (Obj.cells #[.int .i64 D, .slice a n c] 24)
    have tf : (1000 : Int) < (n : Int) := by omega
    clear hn
    go_enter Try.func3, Try.ntmps3
    go_wp2_with fail
    refine (HFit.out _).mono ?_
    rintro e w1 ⟨rfl, hb1⟩
    have hk1 : w1.heap[w.heap.size]? = some (Obj.cells #[.int .i64 D, .slice a n c] 24) := by rw [hb1.block _ (by simp)]; exact hk
    have HB1 := Lib.hid (HB.out.trans (hb1.mono HB.out.size))
    have c1 : w1.cell? ⟨w.heap.size, 1, none⟩ = some (.slice a n c) := by rw [cell_of_row _ _ 1 _ 24 (0, 0) hk1]; rfl
    clear hb1 hk hk1
    go_wp2_with fail
    go_ret
    exact ⟨rfl, HB1.out⟩
  · obtain ⟨a, c, e⟩ := hr.form
    exact right_both D v w (Lab.right D ps) (fun W hW => pright_any v ps D W (hr.below hW)) (fun W hW => right_any v ps D W (hr.below hW)) a ps.length c e hn
end Go.Proofs.Ytlkhbbdigljpjaa
