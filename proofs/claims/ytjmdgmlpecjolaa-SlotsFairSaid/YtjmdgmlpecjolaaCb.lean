/- Clocks in memory: Next, Slot, Now, Turn. -/
import Derived.Test.YtjmdgmlpecjolaaCa
import Derived.Test.YtjmdgmlpecjolaaVr
import Derived.BigRegion
set_option linter.unusedVariables false
set_option linter.unusedSimpArgs false
namespace Go.Proofs.Ytjmdgmlpecjolaa
open Go.RowKit
set_option linter.unusedVariables false
set_option linter.unusedSimpArgs false
variable {w w' : World} {b B off n cp k k' : Nat} {c : Ck} {xs : List Sl} {cc x : Int} {A : Option Addr}
/-- A clock behind a turn. -/
def Ck.turn (c : Ck) : Ck := { c with t := updT c.t c.s (c.t c.s + 1) }
theorem below_up {W : World} (h : Below W.heap.size W w) (hs : Below w.heap.size w w') : Below W.heap.size W w' := h.trans (hs.mono h.size)
theorem below_turn {W : World} {S : List Nat} (h : Below W.heap.size W w) (hs : Turn S w w') (hS : ∀ b ∈ S, W.heap.size ≤ b) : Below W.heap.size W w' := h.trans (hs.below h.size hS)
set_option maxHeartbeats 1000000 in
theorem next_any (hv : CV w b c) (hs : c.s < 8) (ht : 0 ≤ c.t c.s ∧ c.t c.s ≤ 1000000) :
    Calls Try.prog 11 #[.pointer (some ⟨b, 0, none⟩)] w fun e w' => e = .returned (.tuple #[]) ∧ Turn [b] w w' ∧ CV w' b c.turn := by
  obtain ⟨s, l, m, t⟩ := c
  simp only at hs ht
  have c0 := hv.c0
  have ci := hv.ct hs
  have fi := hv.f (3 + s)
  simp only at c0 ci
  obtain ⟨y, ey⟩ : ∃ y, t s = y := ⟨_, rfl⟩
  have HX := Lib.hid (show Ck.turn ⟨s, l, m, t⟩ = ⟨s, l, m, updT t s (y + 1)⟩ by unfold Ck.turn; rw [← ey])
  have V := hv.sett hs (y + 1)
  have T := Turn.set w b (3 + s) (.int .u64 (y + 1))
  have H := Lib.hid (And.intro T V)
  rw [ey] at ci ht
  have i1 : IntKind.u64.wrap (y + 1) = y + 1 := by rw [IntKind.wrap_u64]; omega
  have s8 : (s : Int) < 8 := by omega
  clear hv V T ht ey
  go_enter Try.func11, Try.ntmps11
  go_wp2_with fail
  go_region
  exact bodyPost_end (results_none rfl _ _ _) rfl ⟨rfl, H.out.1.trans (Turn.of_below (Below.refl _ _).drew (S := [])) (by simp), by rw [HX.out]; exact H.out.2.drew⟩
theorem slot_any (hv : CV w b c) : Calls Try.prog 12 #[.pointer (some ⟨b, 0, none⟩)] w fun e w' => e = .returned (.int .i64 (c.s : Int)) ∧ w' = w := by
  have c0 := hv.c0
  clear hv
  go_enter Try.func12, Try.ntmps12
  go_wp2_with fail
  go_ret
  exact ⟨rfl, rfl⟩
theorem now_any (hv : CV w b c) : Calls Try.prog 13 #[.pointer (some ⟨b, 0, none⟩)] w fun e w' => e = .returned (.int .u64 c.n) ∧ w' = w := by
  have c0 := hv.c2
  clear hv
  go_enter Try.func13, Try.ntmps13
  go_wp2_with fail
  go_ret
  exact ⟨rfl, rfl⟩
theorem turn_none (n : Int) (hn : n < 1) (w : World) (b : Nat) : Calls Try.prog 14 #[.pointer (some ⟨b, 0, none⟩), .int .i64 n] w fun e w' => e = .returned (.int .i64 (-1)) ∧ w' = w := by
  go_enter Try.func14, Try.ntmps14
  go_wp2_with fail
  go_ret
  exact ⟨rfl, rfl⟩
theorem turn_any (hv : CV w b c) (hs : c.s < 8) (N : Nat) (h1 : 1 ≤ N) (h2 : N ≤ 9223372036854775807) (T : Nat) (hT : c.t c.s = (T : Int)) (r : Nat) (hr : T % N = r) :
    Calls Try.prog 14 #[.pointer (some ⟨b, 0, none⟩), .int .i64 (N : Int)] w fun e w' => e = .returned (.int .i64 (r : Int)) ∧ Below w.heap.size w w' := by
  have c0 := hv.c0
  have ci := hv.ct hs
  rw [hT] at ci
  have n1 : ¬ (N : Int) < 1 := by omega
  have s8 : (c.s : Int) < 8 := by omega
  have i1 : IntKind.u64.wrap (N : Int) = N := by rw [IntKind.wrap_u64]; omega
  have hrN : r < N := by rw [← hr]; exact Nat.mod_lt _ h1
  have i2 : IntKind.i64.wrap (r : Int) = r := by rw [IntKind.wrap_i64]; omega
  have n2 : ¬ (N : Int) = 0 := by omega
  have e1 : (T : Int).tmod N = r := by rw [Int.tmod_eq_emod_of_nonneg (by omega), ← hr]; rfl
  have c0 := Lib.hid c0
  clear hv hr hrN h1 h2 hT
  have c0 := c0.out
  go_enter Try.func14, Try.ntmps14
  go_wp2_with fail
  go_region
  go_wp2_with fail
  go_ret
  exact ⟨rfl, (Below.refl _ _).drew⟩
def Z11 : Array Value := #[.int .i64 0, .int .i64 0, .int .u64 0, .int .u64 0, .int .u64 0, .int .u64 0, .int .u64 0, .int .u64 0, .int .u64 0, .int .u64 0, .int .u64 0]
/-- A clock at the beginning of a slot of x ticks. -/
def ck0 (x : Int) : Ck := ⟨0, x, 0, fun _ => 0⟩
theorem size11 : (Try.prog.info? 29).map (·.size) = some 11 := by kernel_rfl
set_option maxHeartbeats 1000000 in
theorem new_any (ht : TW w B off n cp xs) : Calls Try.prog 9 #[.slice (some ⟨B, off, none⟩) n cp] w fun e w' => e = .returned (.agg #[.int .i64 0, .int .i64 (tk xs 0), .int .u64 0, .int .u64 0, .int .u64 0, .int .u64 0, .int .u64 0, .int .u64 0, .int .u64 0, .int .u64 0, .int .u64 0]) ∧ Below w.heap.size w w' := by
  have b1 := below_alloc1 w (Obj.cells Z11 29)
  obtain ⟨w1, e1⟩ : ∃ w1, w.alloc (Obj.cells Z11 29) = w1 := ⟨_, rfl⟩
  have h1 : w1.heap[w.heap.size]? = some (Obj.cells Z11 29) := by rw [← e1]; exact heap_alloc_new w _
  have s1 : w1.heap.size = w.heap.size + 1 := by rw [← e1]; simp
  rw [e1] at b1
  have b2 := below_alloc1 w1 (Obj.cells Z11 29)
  have V2 : CV (w1.alloc (Obj.cells Z11 29)) w1.heap.size (ck0 0) := heap_alloc_new w1 _
  obtain ⟨w2, e2⟩ : ∃ w2, w1.alloc (Obj.cells Z11 29) = w2 := ⟨_, rfl⟩
  rw [e2] at b2 V2
  have h2 : w2.heap[w.heap.size]? = some (Obj.cells Z11 29) := (b2.block _ (by omega)).trans h1
  have ht2 := (ht.below b1).below b2
  obtain ⟨c, ec⟩ : ∃ c, w1.heap.size = c := ⟨_, rfl⟩
  rw [ec] at V2
  obtain ⟨cc, hx⟩ := tk_at (xs := xs) (i := 0) (by rw [ht.l]; exact ht.h0)
  have hlt := ht.lt
  have C : Calls Try.prog 16 #[.pointer (some ⟨c, 0, none⟩), .slice (some ⟨B, off, none⟩) n cp, .int .i64 0] w2 fun e w' => e = .returned (.tuple #[]) ∧ Turn [c] w2 w' ∧ CV w' c (ck0 (tk xs 0)) :=
    begin_any (c := ck0 0) V2 ht2.l ht2.h0 ht2.h8 ht2.c ht2.m ht2.r (by omega) (k := 0) (k' := 0) (by rw [if_pos ht.h0]) hx
  have C := Lib.hid C
  have HI := Lib.hid (And.intro b1 (And.intro b2 (And.intro h2 (show w.heap.size < c by omega))))
  have HB := Lib.hid (And.intro b1 b2)
  obtain ⟨g, eg⟩ : ∃ g, w.heap.size = g := ⟨_, rfl⟩
  have HG := Lib.hid eg
  have HU := Lib.hid Try.underlying29
  rw [eg] at HI
  unfold Z11 at e1 e2
  clear b1 b2 h1 h2 V2 ht ht2 hx s1 hlt
  go_enter Try.func9, Try.ntmps9
  go_wp2_with fail
  refine C.out.mono ?_; rintro e w3 ⟨rfl, hb, hv⟩
  have hr : w3.heap[g]? = some (Obj.cells Z11 29) := (hb.block _ (Array.getElem?_eq_some_iff.1 HI.out.2.2.1).1 (by have := HI.out.2.2.2; simp; omega)).trans HI.out.2.2.1
  have H3 := Lib.hid (And.intro hb (And.intro hv hr))
  have HZ := Lib.hid size11
  clear hb hv hr C
  obtain ⟨cs, ecs⟩ : ∃ cs, (ck0 (tk xs 0)).cells = cs := ⟨_, rfl⟩
  have HV : Hid (w3.heap[c]? = some (Obj.cells cs 29)) := Lib.hid (by rw [← ecs]; exact H3.out.2.1)
  have HS : Hid ((Try.prog.info? 29).map (·.size) = some cs.size) := Lib.hid (by rw [← ecs]; exact size11)
  have HO : Hid (cs.all (·.oneCell') = true) := Lib.hid (by rw [← ecs]; simp [Ck.cells, Value.oneCell'])
  have HL : Hid (Z11.size = cs.size) := Lib.hid (by rw [← ecs]; rfl)
  go_wp2_with (first | with_reducible refine wpList_load_row rfl 29 (.tmp 3) rfl c rfl 29 cs (0, 0) _ HV.out HU.out rfl HS.out ?_ | with_reducible refine wpList_store_row rfl 29 (.tmp 2) (.tmp 6) rfl g cs rfl rfl 29 Z11 H3.out.2.2 HS.out HL.out HO.out ?_)
  refine bodyPost_ret (results_cell_row (by rfl) _ _ g 29 cs (0, 0) _ (by rfl) (setRow_heap w3 g _ _ _ _ H3.out.2.2) HU.out rfl HS.out) rfl ⟨by rw [← ecs]; rfl, ?_⟩
  have hb3 : Below w.heap.size w w3 := below_turn (below_up HB.out.1 HB.out.2) H3.out.1 (fun b hb => by have := HI.out.2.2.2; have := HG.out; simp at hb; omega)
  exact below_turn hb3 (Turn.row w3 g cs) (fun b hb => by have := HG.out; simp at hb; omega)
end Go.Proofs.Ytjmdgmlpecjolaa
