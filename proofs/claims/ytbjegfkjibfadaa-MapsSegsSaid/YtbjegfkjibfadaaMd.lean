/- Remove. -/
import Derived.Test.YtbjegfkjibfadaaMc
import Derived.Test.YtbjegfkjibfadaaVr
set_option linter.unusedVariables false
set_option linter.unusedSimpArgs false
namespace Go.Proofs.Ytbjegfkjibfadaa
open Go.RowKit
set_option linter.unusedVariables false
set_option linter.unusedSimpArgs false
section
variable {w w' : World} {A : Option Addr} {us : List Mp} {i b o : Nat} {m : Mp} {t : TypeId}
theorem LV.take (h : LV 5 encM w A us) (k : Nat) : LV 5 encM w A (us.take k) := fun i x hi => by
  rw [List.getElem?_take] at hi
  split at hi
  · exact h i x hi
  · cases hi
theorem LV.drop (h : LV 5 encM w A us) {k c : Nat} (hc : us.length ≤ c) : LV 5 encM w (if c = k then A else A.map (·.add (k * 5))) (us.drop k) := fun i x hi => by
  rw [List.getElem?_drop] at hi
  have hl := (List.getElem?_eq_some_iff.1 hi).1
  rw [if_neg (by omega)]
  obtain ⟨b, off, rfl, h2, h3⟩ := h _ x hi
  exact ⟨b, off + k * 5, by rw [Option.map_some, addr_add], h2, fun j u hu => by rw [← h3 j u hu]; congr 2; rw [Nat.add_mul]; omega⟩
end
/-- How Remove ends. -/
def Gone (own : Nat → Prop) (us : List Mp) (x : Int) (e : Ending) (w' : World) : Prop :=
  ((∀ m ∈ us, m.a ≠ x) ∧ e = .returned (.tuple #[.slice none 0 0, .int .i64 2])) ∨ ∃ l1 m l2 v, us = l1 ++ m :: l2 ∧ m.a = x ∧ e = .returned (.tuple #[v, .int .i64 0]) ∧ RV own 26 5 encM w' v (l1 ++ l2)
set_option maxRecDepth 100000 in
set_option maxHeartbeats 1000000 in
theorem remove_any {w : World} {A : Option Addr} {l c : Nat} {us : List Mp} (x : Int) (hl : us.length = l) (hm : l ≤ 1000) (hc : l ≤ c) (hcm : c ≤ maxLen) (hr : LV 5 encM w A us) :
    Calls Try.prog 9 #[.slice A l c, .int .i64 x] w fun e w' =>
      Gone (fun b => w.heap.size ≤ b) us x e w' ∧ Below w.heap.size w w' := by
  have b1 := below_alloc1 w (Obj.cells #[.int .i64 x] 3)
  have hP : (w.alloc (Obj.cells #[.int .i64 x] 3)).cell? ⟨w.heap.size, 0, none⟩ = some (.int .i64 x) := by rw [cell_of_row _ _ 0 _ _ _ (heap_alloc_new w _)]; rfl
  have CI := Lib.hid (index_any (c := c) hl hm (hr.below b1) hP)
  have B1 := Lib.hid b1
  have HR := Lib.hid hr
  have HL := Lib.hid hl
  have HM := Lib.hid (And.intro hc (And.intro hcm hm))
  clear b1 hP hr hl hc hcm hm
  go_enter Try.func9, Try.ntmps9
  go_wp2_with fail
  refine CI.out.mono ?_; rintro e w1 ⟨r, rfl, hi, hb1⟩
  have HB := Lib.hid (below_up B1.out hb1)
  clear CI hb1
  rcases hi with ⟨rfl, hn⟩ | ⟨k, m, rfl, hk, hx⟩
  · have HN := Lib.hid hn
    clear hn
    go_wp2_with fail
    go_ret2
    exact ⟨.inl ⟨HN.out, rfl⟩, HB.out⟩
  · obtain ⟨hc, hcm, hm⟩ := HM.out
    have hkl : k < l := by rw [← HL.out]; exact (List.getElem?_eq_some_iff.1 hk).1
    obtain ⟨b, o, rfl⟩ := HR.out.some_ (by have := HL.out; omega)
    have HK := Lib.hid (And.intro hk hx)
    have hc' : c ≤ 9223372036854775807 := hcm
    have n0 : ¬ (k : Int) < 0 := by omega
    obtain ⟨K, eK⟩ : ∃ K, k + 1 = K := ⟨_, rfl⟩
    have i1 : IntKind.i64.wrap ((k : Int) + 1) = (K : Int) := by rw [IntKind.wrap_i64]; omega
    have i4 : (K : Int) ≤ l := by omega
    have i5 : (l : Int) ≤ c := by omega
    have i6 : (0 : Int) ≤ K := by omega
    have HE := Lib.hid eK
    clear eK
    have i3 : (k : Int) ≤ c := by omega
    clear hk hx hcm
    obtain ⟨W1, eW1⟩ : ∃ W1, (w1.alloc (Obj.cells #[.slice (some ⟨b, o, none⟩) k c, .slice (if c = K then some ⟨b, o, none⟩ else some ⟨b, o + K * 5, none⟩) (l - K) (c - K)] 22)).drew = W1 := ⟨_, rfl⟩
    have hbw : Below w1.heap.size w1 W1 := by rw [← eW1]; exact (below_alloc1 _ _).drew
    have d0 : W1.cell? ⟨w1.heap.size, 0, none⟩ = some (.slice (some ⟨b, o, none⟩) k c) := by
      rw [← eW1]; exact (cell_of_row _ _ 0 _ 22 (0, 0) (heap_alloc_new w1 _)).trans rfl
    have d1 : W1.cell? ⟨w1.heap.size, 1, none⟩ = some (.slice (if c = K then some ⟨b, o, none⟩ else some ⟨b, o + K * 5, none⟩) (l - K) (c - K)) := by
      rw [← eW1]; exact (cell_of_row _ _ 1 _ 22 (0, 0) (heap_alloc_new w1 _)).trans rfl
    have hr1 : LV 5 encM W1 (some ⟨b, o, none⟩) (us.take k) := LV.take (HR.out.below (below_up HB.out hbw)) k
    have hr2 : LV 5 encM W1 (if c = K then some ⟨b, o, none⟩ else some ⟨b, o + K * 5, none⟩) (us.drop K) := by
      have := LV.drop (HR.out.below (below_up HB.out hbw)) (k := K) (c := c) (by rw [HL.out]; exact hc)
      simpa only [Option.map_some, addr_add] using this
    have hHL := HL.out
    have hHE := HE.out
    have lt1 : (us.take k).length = k := by rw [List.length_take]; omega
    have ld1 : (us.drop K).length = l - K := by rw [List.length_drop]; omega
    have CC := concat_any w1.heap.size 2 (fun j => if j = 0 then some ⟨b, o, none⟩ else (if c = K then some ⟨b, o, none⟩ else some ⟨b, o + K * 5, none⟩)) (fun j => if j = 0 then k else l - K) (fun j => if j = 0 then c else c - K) (fun j => if j = 0 then us.take k else us.drop K) W1 (by omega) (fun j hj => by
      match j, hj with
      | 0, _ => exact ⟨d0, lt1, by show k ≤ c; omega, hr1⟩
      | 1, _ => exact ⟨d1, ld1, by show l - K ≤ c - K; omega, hr2⟩) (by
      show (([] ++ us.take k) ++ us.drop K).length ≤ 1000
      rw [List.length_append, List.nil_append, lt1, ld1]; omega)
    have HCC := Lib.hid (show Calls Try.prog 18 #[.slice (some ⟨w1.heap.size, 0, none⟩) 2 2] W1 (fun e w' => ∃ v, e = .returned v ∧ RV (fun b => W1.heap.size ≤ b) 26 5 encM w' v (us.take k ++ us.drop K) ∧ Below W1.heap.size W1 w') by
      have := CC
      simpa [cat] using this)
    have HB1 := Lib.hid (below_up HB.out hbw)
    clear hbw d0 d1 hr1 hr2 hHL hHE lt1 ld1 CC
    go_upto_region 4 with fail
    go_region_law (first
      | (go_simp
         go_at_call 18
         refine HCC.out.mono ?_
         rintro e w2 ⟨v, rfl, hv, hb⟩
         have HV := Lib.hid (And.intro hv hb)
         clear hv hb))
    go_wp2_with fail
    all_goals
      go_ret2
      refine ⟨.inr ⟨us.take k, m, us.drop K, v, ?_, HK.out.2, rfl, HV.out.1.keep fun b cur hb _ => ⟨Nat.le_trans HB1.out.size hb, rfl⟩⟩, below_up HB1.out HV.out.2⟩
      have := drop_at HK.out.1
      rw [← HE.out, ← this, List.take_append_drop]
end Go.Proofs.Ytbjegfkjibfadaa
