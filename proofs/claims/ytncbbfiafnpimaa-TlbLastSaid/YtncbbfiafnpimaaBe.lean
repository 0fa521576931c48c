/- A TLB of the law's own; the example: fit. -/
import Derived.Test.YtncbbfiafnpimaaBd
set_option linter.unusedVariables false
set_option linter.unusedSimpArgs false
namespace Go.Proofs.Ytncbbfiafnpimaa
open Go.RowKit Tl
set_option linter.unusedVariables false
set_option linter.unusedSimpArgs false
theorem tb_new (w : World) : Tb (w.alloc (Obj.cells (tc (fun _ => bare0) 0).toArray 28)) w.heap.size (fun _ => bare0) 0 := heap_alloc_new w _
/-- Since W: a TLB of one's own. -/
structure TS (W : World) (R : Nat) (g : Nat → En) (n : Nat) (w : World) : Prop where
  b : Below W.heap.size W w
  r : W.heap.size ≤ R
  t : Tb w R g n
  ok : Ok g n
variable {W w w' : World} {R : Nat} {g : Nat → En} {n : Nat}
theorem TS.new (h : Below W.heap.size W w) : TS W w.heap.size (fun _ => bare0) 0 (w.alloc (Obj.cells (tc (fun _ => bare0) 0).toArray 28)) :=
  ⟨h.trans ((below_alloc1 w _).mono h.size), h.size, tb_new w, Ok.new⟩
theorem TS.below (h : TS W R g n w) (hb : Below w.heap.size w w') : TS W R g n w' := ⟨h.b.trans (hb.mono h.b.size), h.r, h.t.below hb, h.ok⟩
theorem TS.turn (h : TS W R g n w) {S : List Nat} (hb : Turn S w w') (hS : ∀ b ∈ S, W.heap.size ≤ b ∧ b ≠ R) : TS W R g n w' :=
  ⟨h.b.trans (hb.below h.b.size fun b hm => (hS b hm).1), h.r, h.t.turn hb fun hm => (hS R hm).2 rfl, h.ok⟩
theorem put_ts (h : TS W R g n w) (p f : Int) (b : Bool) : Calls Try.prog 7 #[.pointer (some ⟨R, 0, none⟩), .int .i64 p, .int .i64 f, .bool b] w fun e w' => e = .returned (.tuple #[]) ∧ Turn [R] w w' ∧ TS W R (putG g n p f b) (putN g n p f) w' :=
  (put_any h.t h.ok.next p f b).mono fun e w' ⟨he, h1, h2⟩ => ⟨he, h1, h.b.trans (h1.below h.b.size (by simp [h.r])), h.r, h2, h.ok.put p f b⟩
theorem find_ts (h : TS W R g n w) (p : Int) (b : Bool) (x : Int) (hx : seek g p b = x) : Calls Try.prog 8 #[.pointer (some ⟨R, 0, none⟩), .int .i64 p, .bool b] w fun e w' => e = .returned (.int .i64 x) ∧ Below w.heap.size w w' ∧ TS W R g n w' :=
  (find_any h.t p b x hx).mono fun e w' ⟨he, h1⟩ => ⟨he, h1, h.below h1⟩
theorem len_ts (h : TS W R g n w) (x : Nat) (hx : cnt g 4 = x) : Calls Try.prog 10 #[.pointer (some ⟨R, 0, none⟩)] w fun e w' => e = .returned (.int .i64 (x : Int)) ∧ Below w.heap.size w w' ∧ TS W R g n w' :=
  (len_any h.t x hx).mono fun e w' ⟨he, h1⟩ => ⟨he, h1, h.below h1⟩
theorem flush_ts (h : TS W R g n w) : Calls Try.prog 9 #[.pointer (some ⟨R, 0, none⟩)] w fun e w' => e = .returned (.tuple #[]) ∧ Turn [R] w w' ∧ TS W R (fun _ => bare0) 0 w' :=
  (flush_any h.t).mono fun e w' ⟨he, h1, h2⟩ => ⟨he, h1, h.b.trans (h1.below h.b.size (by simp [h.r])), h.r, h2, Ok.new⟩
/-- Pages 0 to k - 1 have been put. -/
def Q : Nat → (Nat → En) × Nat
  | 0 => (fun _ => bare0, 0)
  | k + 1 => (putG (Q k).1 (Q k).2 (k : Int) ((k : Int) + 1) true, putN (Q k).1 (Q k).2 (k : Int) ((k : Int) + 1))
set_option maxHeartbeats 1000000 in
theorem fit_any (w : World) : Calls Try.prog 6 #[] w fun e w' => e = .returned (.bool true) ∧ Below w.heap.size w w' := by
  have HN := Lib.hid (TS.new (Below.refl w.heap.size w))
  go_enter Try.func6, Try.ntmps6
  go_wp2_with fail
  go_loopg [3] 5 (fun gh i wr => ∃ k : Nat, k ≤ 5 ∧ gh = 5 - k ∧ i = .int .i64 k ∧ Hid (TS w w.heap.size (Q k).1 (Q k).2 wr))
  case atStart => exact ⟨0, by omega, by omega, rfl, HN⟩
  case round =>
    obtain ⟨k, hk, hg, rfl, hI⟩ := hrel
    by_cases hlt : k < 5
    · have P := Lib.hid (put_ts hI.out (k : Int) ((k : Int) + 1) true)
      clear hI HN
      go_wp2_with fail
      refine P.out.mono ?_; rintro e w1 ⟨rfl, _, h1⟩
      have H1 := Lib.hid h1
      clear h1 P
      go_wp2_with fail
      go_roundg (5 - (k + 1))
      case rel => exact ⟨k + 1, by omega, rfl, by simp, H1⟩
      case measure => simp; omega
    · obtain rfl : k = 5 := by omega
      have F0 := Lib.hid (find_ts hI.out 0 false 0 (by kernel_rfl))
      clear HN hlt
      go_wp2_with fail
      refine F0.out.mono ?_; rintro e w1 ⟨rfl, _, h1⟩
      have F4 := Lib.hid (find_ts h1 4 true 5 (by kernel_rfl))
      clear h1 F0 hI
      go_wp2_with fail
      refine F4.out.mono ?_; rintro e w2 ⟨rfl, _, h2⟩
      have FL := Lib.hid (len_ts h2 4 (by kernel_rfl))
      clear h2 F4
      go_wp2_with fail
      refine FL.out.mono ?_; rintro e w3 ⟨rfl, _, h3⟩
      have H3 := Lib.hid h3
      clear h3 FL
      go_wp2_with fail
      go_ret
      exact ⟨rfl, H3.out.b⟩
end Go.Proofs.Ytncbbfiafnpimaa
