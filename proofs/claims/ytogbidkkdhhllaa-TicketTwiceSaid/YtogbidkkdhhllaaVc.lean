/- slices.Grow of nil, slices.Concat of two. -/
import Derived.Test.YtogbidkkdhhllaaVb
set_option linter.unusedVariables false
set_option linter.unusedSimpArgs false
namespace Go.Proofs.Ytogbidkkdhhllaa
open Go.RowKit Tk
set_option linter.unusedVariables false
set_option linter.unusedSimpArgs false
variable {w w' : World} {A : Option Addr} {l c : Nat} {us : List Nat}
set_option maxHeartbeats 1000000 in
theorem grow_any (w : World) (n : Nat) (hn : n ≤ 100000) : Calls Try.prog 17 #[.slice none 0 0, .int .i64 (n : Int)] w fun e w' => ∃ v, e = .returned v ∧ RW (fun b => w.heap.size ≤ b) 25 enU w' v [] ∧ Below w.heap.size w w' := by
  by_cases h0 : n = 0
  · subst h0
    go_enter Try.func17, Try.ntmps17
    go_wp2_with fail
    go_ret
    exact ⟨_, rfl, RW.nil _ _, Below.refl _ _⟩
  · obtain ⟨i0, hi, hz0, hz1, hz2⟩ := info_parts infoU
    have hrun := Lib.run_append_grow_zeros (P := Try.prog) w 24 3 24 25 i0 _ .i64 .i64 Try.underlying24 Try.underlying3 hi hz0 none 0 0 [] (by rfl) n (by omega) (by omega) (by omega) (by omega) (by rw [hz2]; omega) (growslice_fits (by omega) (by rw [hz2]; omega))
    have hge := grownCap_ge w n 0 25
    have hmx := grownCap_le_maxLen w n 0 25 (by unfold maxLen; omega)
    rw [Nat.zero_add] at hrun
    obtain ⟨C, eC⟩ : ∃ C, grownCap w n 0 25 = C := ⟨_, rfl⟩
    rw [eC] at hrun hge hmx
    obtain ⟨W2, eW2⟩ : ∃ W2, w.drew.alloc (.cells (([] : List Value).toArray ++ Builtin.zeroCells (Value.int .u64 0).cells n ++ Builtin.zeroCells (Value.int .u64 0).cells (C - n)) 25) = W2 := ⟨_, rfl⟩
    have HE : Hid (RW (fun b => w.heap.size ≤ b) 25 enU W2 (.slice (some ⟨w.heap.size, 0, none⟩) 0 C) [] ∧ Below w.heap.size w W2) := Lib.hid ⟨.inr ⟨w.heap.size, 0, C, _, rfl, Nat.le_refl _, by rw [← eW2]; exact heap_alloc_new w.drew _, by simp [size_zeroCells]; show C ≤ n * 1 + (C - n) * 1; omega, by simp, hmx, by simp⟩, by rw [← eW2]; exact ((Below.refl w.heap.size w).drew).alloc (Nat.le_refl _) _⟩
    rw [eW2] at hrun
    have HR := Lib.hid hrun
    have e1 : IntKind.i64.wrap (n : Int) = n := by rw [IntKind.wrap_i64]; omega
    have e2 : ¬ (n : Int) < 0 := by omega
    have e3 : (n : Int) > 0 := by omega
    have e4 : (0 : Int) < n := by omega
    have e5 : (0 : Int) ≤ C := by omega
    clear hrun eW2 eC
    go_enter Try.func17, Try.ntmps17
    go_wp2_with (at_builtin; refine wpList_append_by rfl (.tmp 20) (.tmp 21) _ _ rfl _ _ _ rfl rfl W2 HR.out ?_)
    go_wp2_with fail
    go_ret
    exact ⟨_, rfl, HE.out⟩
/-- What has been put together of two lists. -/
def part (us vs : List Nat) : Nat → List Nat
  | 0 => []
  | 1 => us
  | _ => us ++ vs
set_option maxRecDepth 100000 in
set_option maxHeartbeats 1000000 in
theorem concat_any (B : Nat) (A1 : Option Addr) (l1 c1 : Nat) (us : List Nat) (A2 : Option Addr) (l2 c2 : Nat) (vs : List Nat) (w : World) (hB0 : w.cell? ⟨B, 0, none⟩ = some (.slice A1 l1 c1)) (hB1 : w.cell? ⟨B, 1, none⟩ = some (.slice A2 l2 c2))
    (h1 : us.length = l1) (h2 : vs.length = l2) (k1 : l1 ≤ c1) (k2 : l2 ≤ c2) (hm : l1 + l2 ≤ 100000) (hr1 : LR enU w A1 us) (hr2 : LR enU w A2 vs) :
    Calls Try.prog 14 #[.slice (some ⟨B, 0, none⟩) 2 2] w fun e w' => ∃ v, e = .returned v ∧ RW (fun b => w.heap.size ≤ b) 25 enU w' v (us ++ vs) ∧ Below w.heap.size w w' := by
  have G := Lib.hid (grow_any w (l1 + l2) hm)
  have hBl := Lib.hid (World.block_lt_of_cell? w _ hB0)
  have HR1 := Lib.hid hr1
  have HR2 := Lib.hid hr2
  have H1 := Lib.hid h1
  have H2 := Lib.hid h2
  have C0 := Lib.hid hB0
  have C1 := Lib.hid hB1
  clear hr1 hr2 h1 h2 hB0 hB1
  go_enter Try.func14, Try.ntmps14
  go_wp2_with fail
  go_loopg [3, 11] 2 (fun gh s i wr => ∃ k : Nat, k ≤ 2 ∧ gh = 2 - k ∧ i = .int .i64 k ∧ (∃ z : Nat, s = .int .i64 z ∧ Hid (z = if k = 0 then 0 else if k = 1 then l1 else l1 + l2)) ∧ w = wr)
  case atStart => exact ⟨0, by omega, by omega, rfl, ⟨0, rfl, Lib.hid rfl⟩, rfl⟩
  case round =>
    obtain ⟨k, hk, hg, rfl, ⟨z, rfl, hz⟩, rfl⟩ := hrel
    have b0 := C0.out
    have b1 := C1.out
    match k, hk with
    | 0, _ =>
      obtain rfl : z = 0 := hz.out
      have i1 : IntKind.i64.wrap (0 + (l1 : Int)) = (l1 : Int) := by rw [IntKind.wrap_i64]; omega
      have i2 : ¬ (l1 : Int) < 0 := by omega
      go_wp2_with fail
      go_roundg 1
      case rel => exact ⟨1, by omega, rfl, rfl, ⟨l1, rfl, Lib.hid rfl⟩, rfl⟩
      case measure => first | omega | simp
    | 1, _ =>
      obtain rfl : z = l1 := hz.out
      have i1 : IntKind.i64.wrap ((z : Int) + (l2 : Int)) = ((z + l2 : Nat) : Int) := by rw [IntKind.wrap_i64]; omega
      have i2 : ¬ ((z + l2 : Nat) : Int) < 0 := by omega
      go_wp2_with fail
      go_roundg 0
      case rel => exact ⟨2, by omega, rfl, rfl, ⟨z + l2, rfl, Lib.hid rfl⟩, rfl⟩
      case measure => first | omega | simp
    | 2, _ =>
      obtain rfl : z = l1 + l2 := hz.out
      clear hz hg
      go_wp2_with fail
      refine G.out.mono ?_; rintro e w1 ⟨v, rfl, hv, hb⟩
      have HV := Lib.hid (And.intro hv hb)
      clear hv hb G
      go_wp2_with fail
      go_loopg [6, 27] 2 (fun gh v i wr => ∃ k : Nat, k ≤ 2 ∧ gh = 2 - k ∧ i = .int .i64 k ∧ Hid (RW (fun b => w.heap.size ≤ b) 25 enU wr v (part us vs k) ∧ Below w.heap.size w wr))
      case atStart => exact ⟨0, by omega, by omega, rfl, HV⟩
      case round =>
        obtain ⟨k, hk, hg, rfl, hI⟩ := hrel
        have hbl := hI.out.2
        have b0 : wr.cell? ⟨B, 0, none⟩ = some (.slice A1 l1 c1) := by rw [hbl.cell (p := ⟨B, 0, none⟩) hBl.out]; exact C0.out
        have b1 : wr.cell? ⟨B, 1, none⟩ = some (.slice A2 l2 c2) := by rw [hbl.cell (p := ⟨B, 1, none⟩) hBl.out]; exact C1.out
        have step : ∀ (v' : Value) (W2 : World) (xs : List Nat) (S : List Nat), RW (fun b => (w.heap.size ≤ b) ∨ wr.heap.size ≤ b) 25 enU W2 v' xs → Turn S wr W2 → (∀ b ∈ S, w.heap.size ≤ b ∧ ∃ cur, wr.heap[b]? = some (Obj.cells cur 25)) → RW (fun b => w.heap.size ≤ b) 25 enU W2 v' xs ∧ Below w.heap.size w W2 := fun v' W2 xs S hu ht hS =>
          ⟨hu.keep fun b cur hb _ => ⟨by rcases hb with h | h; exact h; have := hbl.size; omega, rfl⟩, hbl.trans (ht.below hbl.size fun b hb => (hS b hb).1)⟩
        match k, hk with
        | 0, _ =>
          obtain ⟨v', W2, hrun, hu, S, ht, hS⟩ := append_u 24 hI.out.1 (by show 0 + us.length ≤ _; have := H1.out; omega) A1 l1 c1 H1.out (by have := H1.out; omega) (HR1.out.below hbl)
          have HE := Lib.hid (step v' W2 _ S hu ht hS)
          have HR := Lib.hid hrun
          clear hrun hu ht hS step hbl hI
          go_wp2_with (at_builtin; refine wpList_append_by rfl (.tmp 31) (.tmp 32) _ _ rfl _ _ _ rfl rfl W2 HR.out ?_)
          go_wp2_with fail
          go_roundg 1
          case rel => exact ⟨1, by omega, rfl, rfl, HE⟩
          case measure => first | omega | simp
        | 1, _ =>
          obtain ⟨v', W2, hrun, hu, S, ht, hS⟩ := append_u 24 hI.out.1 (by show us.length + vs.length ≤ _; have := H1.out; have := H2.out; omega) A2 l2 c2 H2.out (by have := H2.out; omega) (HR2.out.below hbl)
          have HE := Lib.hid (step v' W2 _ S hu ht hS)
          have HR := Lib.hid hrun
          clear hrun hu ht hS step hbl hI
          go_wp2_with (at_builtin; refine wpList_append_by rfl (.tmp 31) (.tmp 32) _ _ rfl _ _ _ rfl rfl W2 HR.out ?_)
          go_wp2_with fail
          go_roundg 0
          case rel => exact ⟨2, by omega, rfl, rfl, HE⟩
          case measure => first | omega | simp
        | 2, _ =>
          clear step hbl
          go_wp2_with fail
          go_ret
          exact ⟨_, rfl, hI.out⟩
end Go.Proofs.Ytogbidkkdhhllaa
