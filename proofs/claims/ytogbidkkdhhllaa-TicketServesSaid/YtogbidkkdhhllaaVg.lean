/- Locks beside what else a law has; the example: fit. -/
import Derived.Test.YtogbidkkdhhllaaVf
set_option linter.unusedVariables false
set_option linter.unusedSimpArgs false
namespace Go.Proofs.Ytogbidkkdhhllaa
open Go.RowKit Tk
set_option linter.unusedVariables false
set_option linter.unusedSimpArgs false
variable {own own' : Nat → Prop} {w w' : World} {L L' : Nat} {us us' : List Nat} {n n' : Nat}
def All : Nat → Prop := fun _ => True
theorem LM.all (h : LM own w L us n) : LM All w L us n := h.keep rfl fun _ _ _ _ => ⟨trivial, rfl⟩
/-- Another lock has turned. -/
theorem LM.turn (h : LM own w L us n) (h' : LM own' w L' us' n') (hT : Turn [L'] w w') (hne : L ≠ L') : LM own w' L us n :=
  h.keep (hT.block L h.lt fun hm => hne (List.mem_singleton.1 hm)) fun b cur hb hc => ⟨hb, hT.block b (Array.getElem?_eq_some_iff.1 hc).1 fun hm => by
    obtain ⟨v, h1, _⟩ := h'
    rw [List.mem_singleton.1 hm, h1] at hc
    simp at hc⟩
theorem LM.below (h : LM own w L us n) (hb : Below w.heap.size w w') : LM own w' L us n :=
  h.keep (hb.block L h.lt) fun b cur ho hc => ⟨ho, hb.block b (Array.getElem?_eq_some_iff.1 hc).1⟩
/-- A lock since W. -/
structure LS (W : World) (L : Nat) (us : List Nat) (n : Nat) (w : World) : Prop where
  b : Below W.heap.size W w
  l : W.heap.size ≤ L
  m : LM All w L us n
variable {W : World}
theorem LS.below (h : LS W L us n w) (hb : Below w.heap.size w w') : LS W L us n w' := ⟨h.b.trans (hb.mono h.b.size), h.l, h.m.below hb⟩
theorem LS.new (hb : Below W.heap.size W w) : LS W w.heap.size [] 0 (w.alloc (Obj.cells #[.slice none 0 0, .int .u64 0] 27)) := ⟨hb.alloc hb.size _, hb.size, LM.new w⟩
theorem join_ls (x : Nat) (h : LS W L us n w) (hm : us.length ≤ 10000) (hn : n ≤ 1000000) : Calls Try.prog 7 #[.pointer (some ⟨L, 0, none⟩), .int .u64 (x : Int)] w fun e w' => e = .returned (.tuple #[]) ∧ LS W L (jq us x) (jv us n x) w' ∧ Turn [L] w w' :=
  (join_any x h.m hm hn).mono fun e w' ⟨he, ht, hl⟩ => ⟨he, ⟨h.b.trans (ht.below h.b.size fun b hb => by rw [List.mem_singleton.1 hb]; exact h.l), h.l, hl.all⟩, ht⟩
theorem leave_ls (x : Nat) (h : LS W L us n w) (hm : us.length ≤ 10000) (hn : n ≤ 1000000) : Calls Try.prog 8 #[.pointer (some ⟨L, 0, none⟩), .int .u64 (x : Int)] w fun e w' => e = .returned (.tuple #[]) ∧ LS W L (us.erase x) (lv us n x) w' ∧ Turn [L] w w' :=
  (leave_any x h.m hm hn).mono fun e w' ⟨he, ht, hl⟩ => ⟨he, ⟨h.b.trans (ht.below h.b.size fun b hb => by rw [List.mem_singleton.1 hb]; exact h.l), h.l, hl.all⟩, ht⟩
theorem ver_ls (h : LS W L us n w) : Calls Try.prog 9 #[.pointer (some ⟨L, 0, none⟩)] w fun e w' => e = .returned (.int .u64 (n : Int)) ∧ w' = w := ver_any h.m
theorem busy_ls (h : LS W L us n w) : Calls Try.prog 10 #[.pointer (some ⟨L, 0, none⟩)] w fun e w' => e = .returned (.bool (decide (0 < us.length))) ∧ w' = w := busy_any h.m
theorem holds_ls (x : Nat) (h : LS W L us n w) : Calls Try.prog 11 #[.pointer (some ⟨L, 0, none⟩), .int .u64 (x : Int)] w fun e w' => e = .returned (.bool (decide (us.head? = some x))) ∧ w' = w := holds_any x h.m
theorem queue_ls (h : LS W L us n w) (hm : us.length ≤ 100000) : Calls Try.prog 12 #[.pointer (some ⟨L, 0, none⟩)] w fun e w' => ∃ v, e = .returned v ∧ RW (fun b => w.heap.size ≤ b) 25 enU w' v us ∧ LS W L us n w' ∧ Below w.heap.size w w' :=
  (queue_any h.m hm).mono fun e w' ⟨v, he, hr, hb⟩ => ⟨v, he, hr, h.below hb, hb⟩
set_option maxRecDepth 100000 in
set_option maxHeartbeats 1000000 in
theorem fit_any (w : World) : Calls Try.prog 6 #[] w fun e w' => e = .returned (.bool true) ∧ Below w.heap.size w w' := by
  have HN := Lib.hid (LS.new (W := w) (Below.refl w.heap.size w))
  go_enter Try.func6, Try.ntmps6
  go_wp2_with fail
  refine (join_ls 1 HN.out (by simp) (by omega)).mono ?_; rintro e w1 ⟨rfl, h1, _⟩
  have C := Lib.hid (join_ls 2 h1 (by decide) (by decide))
  clear h1 HN
  go_wp2_with fail
  refine C.out.mono ?_; rintro e w2 ⟨rfl, h2, _⟩
  have C := Lib.hid (leave_ls 1 h2 (by decide) (by decide))
  clear h2
  go_wp2_with fail
  refine C.out.mono ?_; rintro e w3 ⟨rfl, h3, _⟩
  have C1 := Lib.hid (holds_ls 2 h3)
  have C2 := Lib.hid (holds_ls 1 h3)
  have C3 := Lib.hid (ver_ls h3)
  have C4 := Lib.hid (busy_ls h3)
  have HB := Lib.hid h3.b
  clear h3 C
  go_wp2_with fail
  refine C1.out.mono ?_; rintro e w4 ⟨rfl, rfl⟩
  go_wp2_with fail
  refine C2.out.mono ?_; rintro e w5 ⟨rfl, rfl⟩
  go_wp2_with fail
  refine C3.out.mono ?_; rintro e w6 ⟨rfl, rfl⟩
  go_wp2_with fail
  refine C4.out.mono ?_; rintro e w7 ⟨rfl, rfl⟩
  go_wp2_with fail
  go_ret
  exact ⟨rfl, HB.out⟩
end Go.Proofs.Ytogbidkkdhhllaa
