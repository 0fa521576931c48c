import Derived.Test.YtjmfjehjlnghmaaKe
import Derived.Laws.BytesArg
import Derived.WideShapes
namespace Go.Proofs.Ytjmfjehjlnghmaa
open Go.RowKit
set_option linter.unusedVariables false
set_option linter.unusedSimpArgs false

/-- Bytes as a string. -/
def Str (bs : List Nat) : ByteArray := strOfNums (bs.map fun (x : Nat) => (x : Int))
theorem str_inj : ∀ {cs bs : List Nat}, (∀ x ∈ cs, x < 256) → (∀ x ∈ bs, x < 256) → Str cs = Str bs → cs = bs := by
  intro cs bs h1 h2 h
  have e : (Str cs).data.toList = (Str bs).data.toList := by rw [h]
  unfold Str at e
  rw [strOfNums_data, strOfNums_data, List.map_map, List.map_map] at e
  clear h
  induction cs generalizing bs with
  | nil =>
    cases bs with
    | nil => rfl
    | cons y r => simp at e
  | cons x r ih =>
    cases bs with
    | nil => simp at e
    | cons y s =>
      simp only [List.map_cons, List.cons.injEq, Function.comp] at e
      have hx := h1 x (by simp)
      have hy := h2 y (by simp)
      have e1 : x = y := by
        have := congrArg UInt8.toNat e.1
        simp at this
        omega
      rw [e1, ih (fun z hz => h1 z (by simp [hz])) (fun z hz => h2 z (by simp [hz])) e.2]
theorem conv_bytes (w : World) (A : Option Addr) (n c : Nat) (bs : List Nat) (hn : bs.length = n) (hr : BR w A bs) : (convert 24 9 (.slice A n c)).run Try.prog w = .ok (.string (Str bs)) w := by
  subst hn
  cases bs with
  | nil =>
    rw [run_convert_bytes_string w 24 9 5 _ _ c Try.underlying24 Try.underlying5 Try.underlying9]
    cases A <;> simp [Conv.bytesToString, loadCells]
    all_goals rfl
  | cons x r =>
    obtain ⟨b, off, rfl, hb, _⟩ := hr 0 x rfl
    refine run_convert_bytes_arg w 24 5 Try.underlying24 Try.underlying5 b off _ c _ (by simp) (fun i hi => ?_) 9 Try.underlying9
    obtain ⟨b', off', e, _, hc⟩ := hr i ((x :: r)[i]) (List.getElem?_eq_getElem hi)
    injection e with e
    injection e with e1 e2
    subst e1 e2
    rw [hc]
    congr 2
    rw [List.getD_eq_getElem?_getD, List.getElem?_map, List.getElem?_eq_getElem hi]
    rfl
theorem same_any_b (A B : Option Addr) (n m c d : Nat) (cs bs : List Nat) (r : Bool) (w : World) (hn : cs.length = n) (hm : bs.length = m) (h1 : BR w A cs) (h2 : BR w B bs) (b1 : ∀ x ∈ cs, x < 256) (b2 : ∀ x ∈ bs, x < 256) (hr : r = decide (cs = bs)) :
    Calls Try.prog 14 #[.slice A n c, .slice B m d] w fun e w' => e = .returned (.bool r) ∧ w = w' := by
  have g1 := conv_bytes w A n c cs hn h1
  have g2 := conv_bytes w B m d bs hm h2
  by_cases he : cs = bs
  · subst he
    rw [decide_eq_true rfl] at hr
    subst hr
    obtain ⟨s, es⟩ : ∃ s, Str cs = s := ⟨_, rfl⟩
    rw [es] at g1 g2
    clear es hn hm h1 h2 b1 b2
    go_enter Try.func14, Try.ntmps14
    go_wp2_with fail
    go_ret
    exact ⟨by simp, rfl⟩
  · rw [decide_eq_false he] at hr
    subst hr
    have hne : Str cs ≠ Str bs := fun e => he (str_inj b1 b2 e)
    obtain ⟨s, es⟩ : ∃ s, Str cs = s := ⟨_, rfl⟩
    obtain ⟨t, et⟩ : ∃ t, Str bs = t := ⟨_, rfl⟩
    rw [es] at g1 hne
    rw [et] at g2 hne
    have HNE := Lib.hid hne
    clear es et hn hm h1 h2 b1 b2 he hne
    go_enter Try.func14, Try.ntmps14
    go_wp2_with fail
    go_ret
    refine ⟨?_, rfl⟩
    have hnt : ¬ s.toList = t.toList := fun e => HNE.out (Go.WideShapes.bytes_inj (by rw [← ByteArray.toList_eq, ← ByteArray.toList_eq]; exact e))
    simp [hnt]
end Go.Proofs.Ytjmfjehjlnghmaa
