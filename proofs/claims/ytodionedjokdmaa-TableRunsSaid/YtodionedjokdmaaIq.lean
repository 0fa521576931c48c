/- All of no map; same, for the law's state. -/
import Derived.Test.YtodionedjokdmaaIp
set_option linter.unusedVariables false
set_option linter.unusedSimpArgs false
namespace Go.Proofs.Ytodionedjokdmaa
open Go.RowKit Go.Maps
set_option linter.unusedVariables false
set_option linter.unusedSimpArgs false
attribute [local go_sem] Oper.semAt_some
theorem sorted_nil {w : World} : Calls Try.prog 34 #[.func (.func 47) #[] #[.pointer (some ⟨w.heap.size, 0, none⟩)]] (w.alloc (Obj.cells #[.map none] 90)) fun e w' => ∃ A c, e = .returned (.slice A 0 c) ∧ Below w.heap.size w w' := by
  have hb := below_alloc1 w (Obj.cells #[.map none] 90)
  have hk := heap_alloc_new w (Obj.cells #[.map none] 90)
  have hs : (w.alloc (Obj.cells #[.map none] 90)).heap.size = w.heap.size + 1 := by simp
  obtain ⟨w1, e1⟩ : ∃ w1, w.alloc (Obj.cells #[.map none] 90) = w1 := ⟨_, rfl⟩
  rw [e1] at hb hk hs ⊢
  refine (sorted_any sort16 w1 (keys_nil w.heap.size) (enters_of Try.func47 (by decide) rfl) (by simp) (by omega) (fun b hb' => ?_) (fun W' hb' => (hb'.block _ (by omega)).trans hk)).mono ?_
  · rw [List.mem_singleton.1 hb']; omega
  · rintro e w2 ⟨v, xs, rfl, hf, hr, hb2⟩
    have hx : xs = [] := List.eq_nil_iff_forall_not_mem.2 fun y hy => by have := (hf.2 y).1 hy; simp at this
    subst hx
    have hbb := hb.trans (hb2.mono (by omega))
    rcases hr with ⟨_, rfl⟩ | ⟨g', o, c, cur, rfl, _⟩
    · exact ⟨none, 0, rfl, hbb⟩
    · exact ⟨_, c, rfl, hbb⟩
set_option maxHeartbeats 4000000 in
set_option maxRecDepth 100000 in
theorem all_nil (t : Nat) (g : Nat → Option (Option Nat)) : Iter Try.prog 22 #[.pointer (some ⟨t, 0, none⟩)] #[] (encA g) ownN [t] (XA []) (fun W => W.heap[t]? = some (Obj.cells #[.map none] 92)) (FinR []) := by
  intro l mm J Jx hJ hJx hY T W hT0 hT hZ h0
  have c0 : W.cell? ⟨t, 0, none⟩ = some (.map none) := by rw [cell_of_row _ _ 0 _ _ (0, 0) hZ]; rfl
  have HS := Lib.hid (And.intro hJ (And.intro hT h0))
  have B := Lib.hid (keys_call none W)
  have C := Lib.hid (sorted_nil (w := W))
  have yn := yield_nil l
  clear hY hJ hJx hT0 hT h0 hZ
  rw [show (#[Value.pointer (some ⟨t, 0, none⟩)] ++ #[Value.func (.yield l) #[] #[]] ++ #[] : Array Value) = #[Value.pointer (some ⟨t, 0, none⟩), Value.func (.yield l) #[] #[]] from rfl]
  go_enter Try.func22, Try.ntmps22
  go_wp2_with fail
  refine B.out.mono ?_; rintro e w1 ⟨rfl, rfl⟩
  clear B
  go_wp2_with fail
  refine C.out.mono ?_; rintro e w2 ⟨A, c, rfl, hb⟩
  have HF : Hid ((∃ xs, FinR [] xs ∧ J T xs w2 ∧ Same T W w2) ∨ ∃ pre, Jx T pre w2 ∧ Same T W w2) := Lib.hid (.inl ⟨[], ⟨List.Pairwise.nil, by simp⟩, HS.out.1.more HS.out.2.2 HS.out.2.1 hb (fun b hm => ⟨.inl hm, Nat.lt_of_lt_of_le (HS.out.2.1 b hm) hb.size⟩), fun b hm => hb.block b (HS.out.2.1 b hm)⟩)
  clear hb C HS c0
  go_wp2_with fail
  go_loopg [20] 0 (fun gh v20 wr => v20 = .int .i64 0 ∧ wr = w2)
  case atStart => exact ⟨rfl, rfl⟩
  case round =>
    obtain ⟨rfl, rfl⟩ := hrel
    go_wp2_with fail
    go_end0
    exact ⟨⟨_, rfl⟩, HF.out⟩
theorem same_ps {W w : World} {T : List Nat} {t mB BO : Nat} {os : List Nat} {G : GM} {gm : Nat → Option CV} {v : Value} (h : PZ W T t mB BO os G gm v w) : Calls Try.prog 11 #[.pointer (some ⟨t, 0, none⟩), .map (some mB), v] w fun e w' => e = .returned (.bool true) ∧ Below w.heap.size w w' := by
  obtain ⟨A, c, ev, _⟩ := h.lp.rw.form
  subst ev
  obtain ⟨M, hts⟩ := h.ts
  obtain ⟨r, htr⟩ := h.tr
  have htb := hts.tb
  have htl := (Array.getElem?_eq_some_iff.1 htb).1
  have ht1 : t ≠ mB := fun e => h.lp.mp.not_row (by rw [← e]; exact htb)
  have ht2 : ∀ cur u, w.heap[t]? = some (Obj.cells cur u) → u = 92 := fun cur u hc => by
    rw [htb] at hc
    injection hc with hc
    injection hc with _ hc
    exact hc.symm
  rcases hts.mp with ⟨e1, e2, e3⟩ | ⟨m, e1, e2, e3⟩
  · subst e1 e2
    refine same_any h (g := fun _ => none) (all_nil t _) (fun b hb => ?_) (fun W' hb => (hb.block t htl).trans htb) (fun x o hx => by rw [e3 x] at hx; cases hx)
    rw [List.mem_singleton.1 hb]
    exact ⟨htl, ht1, ht2⟩
  · subst e1
    have hml := e3.lt
    have hz : ZA t m os (mpG G) w := ⟨htb, e3, fun x hx => u64_of (by have := (htr.nz x hx).2; omega), fun x hx => by
      obtain ⟨o, ho⟩ := Option.isSome_iff_exists.1 ((htr.mem x).1 hx)
      exact ⟨o.b, by unfold mpG; rw [ho]; rfl⟩⟩
    refine same_any h (all_iter sort16 (by omega) t m os (mpG G) (by have := htr.len; omega)) (fun b hb => ?_) (fun W' hb => hz.below hb) (fun x o hx => by unfold mpG; rw [hx]; rfl)
    rcases List.mem_cons.1 hb with rfl | hb
    · exact ⟨htl, ht1, ht2⟩
    · rw [List.mem_singleton.1 hb]
      exact ⟨hml, fun e => e2.2 (by rw [e]; exact h.lp.mt), fun cur u hc => absurd hc e3.not_row⟩
end Go.Proofs.Ytodionedjokdmaa
