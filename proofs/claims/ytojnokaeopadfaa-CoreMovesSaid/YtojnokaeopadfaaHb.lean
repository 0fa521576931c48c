/- A core in memory; a law's memory; what it loads and stores. -/
import Derived.Test.YtojnokaeopadfaaHa
import Derived.Lib.SliceRun
import Derived.Stop.Asserts
set_option linter.unusedVariables false
set_option linter.unusedSimpArgs false
namespace Go.Proofs.Ytojnokaeopadfaa
open Go.RowKit

theorem Turn.drew {S : List Nat} {a b : World} (h : Turn S a b) : Turn S a b.drew := h.trans (S' := []) ⟨rfl, rfl, rfl, Nat.le_refl _, fun _ _ _ => rfl⟩ (by simp)
theorem Turn.set (w : World) (b i : Nat) (v : Value) : Turn [b] w (w.setCell ⟨b, i, none⟩ v) :=
  ⟨rfl, rfl, rfl, by simp, fun k _ hn => heap_setCell_other _ _ _ _ (fun e => hn (by simp [e]))⟩
theorem Turn.more {S S' : List Nat} {a b : World} (h : Turn S a b) (hs : ∀ x ∈ S, x ∈ S') : Turn S' a b := ⟨h.os, h.tape, h.output, h.size, fun k hk hn => h.block k hk fun hm => hn (hs k hm)⟩
/-- A core's cells. -/
def rl (R : Nat → Nat) (pc : Nat) : List Value := [.int .u64 (R 0 : Nat), .int .u64 (R 1 : Nat), .int .u64 (R 2 : Nat), .int .u64 (R 3 : Nat), .int .u64 (R 4 : Nat), .int .u64 (R 5 : Nat), .int .u64 (R 6 : Nat), .int .u64 (R 7 : Nat), .int .u64 (R 8 : Nat), .int .u64 (R 9 : Nat), .int .u64 (R 10 : Nat), .int .u64 (R 11 : Nat), .int .u64 (R 12 : Nat), .int .u64 (R 13 : Nat), .int .u64 (R 14 : Nat), .int .u64 (R 15 : Nat), .int .u64 (pc : Nat)]
theorem rl_at (R : Nat → Nat) (pc : Nat) {k : Nat} (hk : k < 16) : (rl R pc)[k]? = some (.int .u64 (R k : Nat)) := by
  match k, hk with
  | 0, _ => rfl
  | 1, _ => rfl
  | 2, _ => rfl
  | 3, _ => rfl
  | 4, _ => rfl
  | 5, _ => rfl
  | 6, _ => rfl
  | 7, _ => rfl
  | 8, _ => rfl
  | 9, _ => rfl
  | 10, _ => rfl
  | 11, _ => rfl
  | 12, _ => rfl
  | 13, _ => rfl
  | 14, _ => rfl
  | 15, _ => rfl
  | k + 16, h => exact absurd h (by omega)
theorem rl_put (R : Nat → Nat) (pc : Nat) {k : Nat} (hk : k < 16) (v : Nat) : (rl R pc).set k (.int .u64 (v : Nat)) = rl (Cor.put R k v) pc := by
  match k, hk with
  | 0, _ => rfl
  | 1, _ => rfl
  | 2, _ => rfl
  | 3, _ => rfl
  | 4, _ => rfl
  | 5, _ => rfl
  | 6, _ => rfl
  | 7, _ => rfl
  | 8, _ => rfl
  | 9, _ => rfl
  | 10, _ => rfl
  | 11, _ => rfl
  | 12, _ => rfl
  | 13, _ => rfl
  | 14, _ => rfl
  | 15, _ => rfl
  | k + 16, h => exact absurd h (by omega)
/-- A core in block c. -/
def CS (w : World) (c : Nat) (T : TypeId) (R : Nat → Nat) (pc : Nat) : Prop := w.heap[c]? = some (Obj.cells (rl R pc).toArray T)
theorem CS.lt {w : World} {c : Nat} {T : TypeId} {R : Nat → Nat} {pc : Nat} (h : CS w c T R pc) : c < w.heap.size := (Array.getElem?_eq_some_iff.1 h).1
theorem CS.below {w w' : World} {c : Nat} {T : TypeId} {R : Nat → Nat} {pc : Nat} (h : CS w c T R pc) (hb : Below w.heap.size w w') : CS w' c T R pc := (hb.block c h.lt).trans h
theorem CS.turn {w w' : World} {c : Nat} {T : TypeId} {R : Nat → Nat} {pc : Nat} {S : List Nat} (h : CS w c T R pc) (hb : Turn S w w') (hS : c ∉ S) : CS w' c T R pc := (hb.block c h.lt hS).trans h
theorem CS.cell {w : World} {c : Nat} {T : TypeId} {R : Nat → Nat} {pc : Nat} (h : CS w c T R pc) {k : Nat} (hk : k < 16) : w.cell? ⟨c, k, none⟩ = some (.int .u64 (R k : Nat)) := by
  rw [cell_of_row _ _ _ _ T (0, 0) h, List.getElem?_toArray, rl_at R pc hk]
theorem CS.next {w : World} {c : Nat} {T : TypeId} {R : Nat → Nat} {pc : Nat} (h : CS w c T R pc) : w.cell? ⟨c, 16, none⟩ = some (.int .u64 (pc : Nat)) := by
  rw [cell_of_row _ _ _ _ T (0, 0) h]; rfl
theorem CS.free {w : World} {c : Nat} {T : TypeId} {R : Nat → Nat} {pc : Nat} (h : CS w c T R pc) (k : Nat) : w.frozen? ⟨c, k, none⟩ = false := frozen_of_row _ _ k _ T h
theorem CS.put {w : World} {c : Nat} {T : TypeId} {R : Nat → Nat} {pc : Nat} (h : CS w c T R pc) {k : Nat} (hk : k < 16) (v : Nat) : CS (w.setCell ⟨c, k, none⟩ (.int .u64 (v : Nat))) c T (Cor.put R k v) pc := by
  have h1 := heap_setCell_same w c k _ T (.int .u64 (v : Nat)) h
  rw [List.setIfInBounds_toArray, rl_put R pc hk] at h1
  exact h1
theorem CS.go {w : World} {c : Nat} {T : TypeId} {R : Nat → Nat} {pc : Nat} (h : CS w c T R pc) (v : Nat) : CS (w.setCell ⟨c, 16, none⟩ (.int .u64 (v : Nat))) c T R v := heap_setCell_same w c 16 _ T (.int .u64 (v : Nat)) h
theorem CS.drew {w : World} {c : Nat} {T : TypeId} {R : Nat → Nat} {pc : Nat} (h : CS w c T R pc) : CS w.drew c T R pc := h

/-- Bytes in block b. -/
def BK (w : World) (b n : Nat) (f : Nat → Nat) : Prop := ∃ cs : List Value, w.heap[b]? = some (Obj.cells cs.toArray 5) ∧ ∀ i, i < n → cs[i]? = some (.int .u8 (f i : Nat))
theorem BK.lt {w : World} {b n : Nat} {f : Nat → Nat} (h : BK w b n f) : b < w.heap.size := by
  obtain ⟨cs, h1, h2⟩ := h
  exact (Array.getElem?_eq_some_iff.1 h1).1
theorem BK.keep {w w' : World} {b n : Nat} {f : Nat → Nat} (h : BK w b n f) (hk : w'.heap[b]? = w.heap[b]?) : BK w' b n f := by
  obtain ⟨cs, h1, h2⟩ := h
  exact ⟨cs, hk.trans h1, h2⟩
theorem BK.put {w : World} {b n : Nat} {f g : Nat → Nat} (h : BK w b n f) {k : Nat} (hk : k < n) (v : Nat) (hg : ∀ j, j < n → g j = if j = k then v else f j) : BK (w.setCell ⟨b, k, none⟩ (.int .u8 (v : Nat))) b n g := by
  obtain ⟨cs, h2, h6⟩ := h
  have h7 := heap_setCell_same w b k _ 5 (.int .u8 (v : Nat)) h2
  rw [List.setIfInBounds_toArray] at h7
  refine ⟨_, h7, fun i hi => ?_⟩
  rw [hg i hi, List.getElem?_set]
  by_cases e : k = i
  · subst e
    rw [if_pos rfl, if_pos rfl, if_pos (List.getElem?_eq_some_iff.1 (h6 k hk)).1]
  · rw [if_neg e, if_neg (fun h => e h.symm)]
    exact h6 i hi
theorem BK.br {w : World} {b n : Nat} {f : Nat → Nat} (h : BK w b n f) : BR w (some ⟨b, 0, none⟩) ((List.range n).map f) := fun i x hi => by
  have hl := h.lt
  obtain ⟨cs, h2, h6⟩ := h
  have hi2 : i < n := by have := (List.getElem?_eq_some_iff.1 hi).1; simpa using this
  rw [List.getElem?_map, List.getElem?_range hi2] at hi
  simp only [Option.map_some, Option.some.injEq] at hi
  refine ⟨b, 0, rfl, hl, ?_⟩
  rw [cell_of_row _ _ _ _ 5 (0, 0) h2, List.getElem?_toArray, Nat.zero_add, h6 i hi2, hi]
theorem BK.cell {w : World} {b n : Nat} {f : Nat → Nat} (h : BK w b n f) {i : Nat} (hi : i < n) : w.cell? ⟨b, i, none⟩ = some (.int .u8 (f i : Nat)) := by
  obtain ⟨cs, h2, h6⟩ := h
  rw [cell_of_row _ _ _ _ 5 (0, 0) h2, List.getElem?_toArray, h6 i hi]
theorem BK.free {w : World} {b n : Nat} {f : Nat → Nat} (h : BK w b n f) (i : Nat) : w.frozen? ⟨b, i, none⟩ = false := by
  obtain ⟨cs, h2, h6⟩ := h
  exact frozen_of_row _ _ i _ 5 h2
/-- A memory in block m, its bytes in block b. -/
def MS (w : World) (m b n : Nat) (hole : Int) (f : Nat → Nat) : Prop := ∃ (cap : Nat), w.heap[m]? = some (Obj.cells #[.slice (some ⟨b, 0, none⟩) n cap, .int .i64 hole] 31) ∧ BK w b n f ∧ n ≤ cap ∧ n ≤ 100000 ∧ m ≠ b
theorem MS.bk {w : World} {m b n : Nat} {hole : Int} {f : Nat → Nat} (h : MS w m b n hole f) : BK w b n f := by
  obtain ⟨cap, h1, h2, _⟩ := h
  exact h2
theorem MS.lt {w : World} {m b n : Nat} {hole : Int} {f : Nat → Nat} (h : MS w m b n hole f) : m < w.heap.size ∧ b < w.heap.size := by
  have := h.bk.lt
  obtain ⟨cap, h1, h2, _⟩ := h
  exact ⟨(Array.getElem?_eq_some_iff.1 h1).1, this⟩
theorem MS.turn {w w' : World} {m b n : Nat} {hole : Int} {f : Nat → Nat} {S : List Nat} (h : MS w m b n hole f) (hb : Turn S w w') (hm : m ∉ S) (hS : b ∉ S) : MS w' m b n hole f := by
  have hl := h.lt
  obtain ⟨cap, h1, h2, h3⟩ := h
  exact ⟨cap, (hb.block m hl.1 hm).trans h1, h2.keep (hb.block b hl.2 hS), h3⟩
theorem MS.below {w w' : World} {m b n : Nat} {hole : Int} {f : Nat → Nat} (h : MS w m b n hole f) (hb : Below w.heap.size w w') : MS w' m b n hole f := h.turn (Turn.of_below (S := []) hb) (by simp) (by simp)
theorem MS.drew {w : World} {m b n : Nat} {hole : Int} {f : Nat → Nat} (h : MS w m b n hole f) : MS w.drew m b n hole f := h
theorem MS.put {w : World} {m b n : Nat} {hole : Int} {f g : Nat → Nat} (h : MS w m b n hole f) {k : Nat} (hk : k < n) (v : Nat) (hg : ∀ j, j < n → g j = if j = k then v else f j) : MS (w.setCell ⟨b, k, none⟩ (.int .u8 (v : Nat))) m b n hole g := by
  obtain ⟨cap, h1, h2, h3, h4, h5⟩ := h
  exact ⟨cap, (heap_setCell_other _ _ _ _ h5).trans h1, h2.put hk v hg, h3, h4, h5⟩
theorem MS.cells {w : World} {m b n : Nat} {hole : Int} {f : Nat → Nat} (h : MS w m b n hole f) : ∃ cap, w.cell? ⟨m, 0, none⟩ = some (.slice (some ⟨b, 0, none⟩) n cap) ∧ w.cell? ⟨m, 1, none⟩ = some (.int .i64 hole) ∧ n ≤ cap ∧ n ≤ 100000 ∧ (∀ i, i < n → w.cell? ⟨b, i, none⟩ = some (.int .u8 (f i : Nat))) ∧ ∀ i, w.frozen? ⟨b, i, none⟩ = false := by
  obtain ⟨cap, h1, h2, h3, h4, h5⟩ := h
  exact ⟨cap, by rw [cell_of_row _ _ _ _ 31 (0, 0) h1]; rfl, by rw [cell_of_row _ _ _ _ 31 (0, 0) h1]; rfl, h3, h4, fun i hi => h2.cell hi, h2.free⟩

/-- May bytes be reached? -/
theorem mok_any {m b n : Nat} {hole : Int} {f : Nat → Nat} (va wd : Nat) (w : World) (h : MS w m b n hole f) (hv : va ≤ 262144) (hw : wd ≤ 8) : Calls Try.prog 26 #[.pointer (some ⟨m, 0, none⟩), .int .i64 (va : Nat), .int .i64 (wd : Nat)] w fun e w' => e = .returned (.bool (Cor.ok n hole va wd)) ∧ w = w' := by
  obtain ⟨cap, k0, k1, _, hn, _⟩ := h.cells
  have h0 : ((va : Int) ≥ 0) := by omega
  obtain ⟨z, hz⟩ : ∃ z : Int, (va : Int) + wd = z := ⟨_, rfl⟩
  have z1 : z ≤ 262152 ∧ 0 ≤ z := by omega
  by_cases p1 : va + wd ≤ n
  · have p1' : (va : Int) + wd ≤ n := by omega
    by_cases p2 : hole = 0
    · have HC := Lib.hid (show Cor.ok n hole va wd = true by unfold Cor.ok; simp [p1, p2])
      subst p2
      go_enter Try.func26, Try.ntmps26
      go_wp2_with fail
      go_ret
      rw [HC.out]
      exact ⟨rfl, rfl⟩
    · have p2b : (hole == 0) = false := by simp [p2]
      by_cases p3 : (va : Int) < hole
      · have HC := Lib.hid (show Cor.ok n hole va wd = true by unfold Cor.ok; simp [p1, p2, p3])
        have p3b : decide ((va : Int) < hole) = true := by simp [p3]
        go_enter Try.func26, Try.ntmps26
        go_wp2_with fail
        go_ret
        rw [HC.out]
        exact ⟨by simp [p2b, p3], rfl⟩
      · have HC := Lib.hid (show Cor.ok n hole va wd = false by unfold Cor.ok; simp [p1, p2, p3])
        have p3b : decide ((va : Int) < hole) = false := by simp [p3]
        go_enter Try.func26, Try.ntmps26
        go_wp2_with fail
        go_ret
        rw [HC.out]
        exact ⟨by simp [p2b, p3], rfl⟩
  · have p1' : ¬ ((va : Int) + wd ≤ n) := by omega
    have HC := Lib.hid (show Cor.ok n hole va wd = false by unfold Cor.ok; simp [p1])
    go_enter Try.func26, Try.ntmps26
    go_wp2_with fail
    go_ret
    rw [HC.out]
    exact ⟨rfl, rfl⟩
end Go.Proofs.Ytojnokaeopadfaa
-- with Hc
set_option linter.unusedVariables false
set_option linter.unusedSimpArgs false
namespace Go.Proofs.Ytojnokaeopadfaa
open Go.RowKit

theorem or_byte (q y : Nat) (hq : q < 72057594037927936) (hy : y < 256) : bits .or .u64 ((q : Int) * 256) (y : Int) = ((q * 256 + y : Nat) : Int) := by
  have e := Alu.or_u64 (q * 256) y (by omega) (by omega)
  have e2 : q * 256 ||| y = q * 256 + y := by
    have := Nat.shiftLeft_add_eq_or_of_lt (i := 8) (b := y) (by simpa using hy) q
    rw [Nat.shiftLeft_eq] at this
    exact this.symm
  rw [e2] at e
  exact e
set_option maxRecDepth 100000 in
theorem mload_any {m b n : Nat} {hole : Int} {f : Nat → Nat} (va wd : Nat) (w : World) (h : MS w m b n hole f) (hv : va ≤ 262144) (hf : ∀ i, f i < 256) (hw : wd = 1 ∨ wd = 4 ∨ wd = 8) : Calls Try.prog 15 #[.pointer (some ⟨m, 0, none⟩), .int .i64 (va : Nat), .int .i64 (wd : Nat)] w fun e w' => e = .returned (.tuple #[.int .u64 (if Cor.ok n hole va wd then Cor.ldf f va wd else 0 : Nat), .bool (Cor.ok n hole va wd)]) ∧ w = w' := by
  have C := Lib.hid (mok_any va wd w h hv (by omega))
  obtain ⟨cap, k0, k1, hcap, hn, kb, _⟩ := h.cells
  have KB := Lib.hid kb
  clear kb
  cases hok : Cor.ok n hole va wd
  · rw [hok] at C
    go_enter Try.func15, Try.ntmps15
    go_wp2_with fail
    refine C.out.mono ?_; rintro e w1 ⟨rfl, rfl⟩
    go_wp2_with fail
    go_ret2
    exact ⟨by simp, rfl⟩
  · rw [hok] at C
    have hr : va + wd ≤ n := by unfold Cor.ok at hok; simp at hok; exact hok.1
    have hw1 : 1 ≤ wd := by omega
    have hw8 : wd ≤ 8 := by omega
    have h0 : (((0 : Nat) : Int)) = 0 := rfl
    have HW := Lib.hid hw
    have HF := Lib.hid hf
    clear hw hok hf h
    go_enter Try.func15, Try.ntmps15
    go_wp2_with fail
    refine C.out.mono ?_; rintro e w1 ⟨rfl, rfl⟩
    clear C
    go_wp2_with fail
    go_loopg [8, 10, 26] wd (fun gh x c i wr => ∃ k : Nat, k ≤ wd ∧ gh = wd - k ∧ i = .int .i64 k ∧ (∃ xv : Nat, x = .int .u64 xv ∧ Hid (xv = Cor.ldf f va k)) ∧ wr = w)
    case atStart => exact ⟨0, by omega, by omega, rfl, ⟨0, rfl, Lib.hid rfl⟩, rfl⟩
    case round =>
      obtain ⟨k, hk, hg, rfl, ⟨xv, rfl, hx⟩, rfl⟩ := hrel
      by_cases hlt : k < wd
      · have c0 := KB.out (va + k) (by omega)
        have HB := Lib.hid (And.intro (HF.out (va + k)) (show xv < 72057594037927936 from by
          have h1 := Cor.ldf_lt HF.out va k
          have h2 : 256 ^ k ≤ 256 ^ 7 := Nat.pow_le_pow_right (by decide) (by omega)
          have h3 : (256 : Nat) ^ 7 = 72057594037927936 := by decide
          have := hx.out
          omega))
        have e0 := or_byte xv (f (va + k)) HB.out.2 HB.out.1
        have e1 : bits .or .u64 ((xv : Int) * 256) (IntKind.u64.wrap (f (va + k) : Int)) = ((xv * 256 + f (va + k) : Nat) : Int) := by
          rw [Alu.wraps (f (va + k) : Int) (by omega) (by have := HB.out.1; omega)]; exact e0
        clear e0
        have w1 : IntKind.u64.wrap ((xv : Int) * 256) = (xv : Int) * 256 := Alu.wraps _ (by omega) (by have := HB.out.2; omega)
        have HN := Lib.hid (show xv * 256 + f (va + k) = Cor.ldf f va (k + 1) by rw [Cor.ldf, hx.out])
        clear hx
        go_wp2_with fail
        go_roundg (wd - (k + 1))
        case rel => exact ⟨k + 1, by omega, rfl, by simp, ⟨_, rfl, HN⟩, rfl⟩
        case measure => first | omega | (simp; omega)
      · obtain rfl : k = wd := by omega
        have HR := Lib.hid hx.out
        clear hx
        go_wp2_with fail
        go_ret2
        exact ⟨by simp [HR.out], rfl⟩
end Go.Proofs.Ytojnokaeopadfaa
-- with Hd
set_option linter.unusedVariables false
set_option linter.unusedSimpArgs false
namespace Go.Proofs.Ytojnokaeopadfaa
open Go.RowKit

set_option maxRecDepth 100000 in
theorem mstore_any {m b n : Nat} {hole : Int} {f : Nat → Nat} (va wd x : Nat) (w : World) (h : MS w m b n hole f) (hv : va ≤ 262144) (hx : x < 18446744073709551616) (hw : wd = 1 ∨ wd = 4 ∨ wd = 8) : Calls Try.prog 18 #[.pointer (some ⟨m, 0, none⟩), .int .i64 (va : Nat), .int .i64 (wd : Nat), .int .u64 (x : Nat)] w fun e w' => e = .returned (.bool (Cor.ok n hole va wd)) ∧ MS w' m b n hole (if Cor.ok n hole va wd then Cor.sti f va wd x wd else f) ∧ Turn [b] w w' := by
  have C := Lib.hid (mok_any va wd w h hv (by omega))
  have HX := Lib.hid hx
  clear hx
  cases hok : Cor.ok n hole va wd
  · rw [hok] at C
    have HS := Lib.hid h
    go_enter Try.func18, Try.ntmps18
    go_wp2_with fail
    refine C.out.mono ?_; rintro e w1 ⟨rfl, rfl⟩
    go_wp2_with fail
    go_ret
    exact ⟨rfl, HS.out, Turn.refl _ _⟩
  · rw [hok] at C
    have hr : va + wd ≤ n := by unfold Cor.ok at hok; simp at hok; exact hok.1
    have hw1 : 1 ≤ wd := by omega
    have hw8 : wd ≤ 8 := by omega
    have h0 : (((0 : Nat) : Int)) = 0 := rfl
    have HW := Lib.hid hw
    have HS := Lib.hid (show MS w m b n hole (Cor.sti f va wd x 0) ∧ Turn [b] w w from ⟨by rw [Cor.sti_zero]; exact h, Turn.refl _ _⟩)
    clear hw hok h
    go_enter Try.func18, Try.ntmps18
    go_wp2_with fail
    refine C.out.mono ?_; rintro e w1 ⟨rfl, rfl⟩
    clear C
    go_wp2_with fail
    go_loopg [9, 16] wd (fun gh c i wr => ∃ k : Nat, k ≤ wd ∧ gh = wd - k ∧ i = .int .i64 k ∧ Hid (MS wr m b n hole (Cor.sti f va wd x k) ∧ Turn [b] w wr))
    case atStart => exact ⟨0, by omega, by omega, rfl, HS⟩
    case round =>
      obtain ⟨k, hk, hg, rfl, hI⟩ := hrel
      clear HS
      by_cases hlt : k < wd
      · obtain ⟨cap, k0, k1, hcap, hn, kb, kf⟩ := hI.out.1.cells
        have c0 := kb (va + k) (by omega)
        have c1 := kf (va + k)
        clear kb kf k1
        have hn8 : 8 * (wd - 1 - k) < 64 := by omega
        have HP := Lib.hid (show MS (wr.setCell ⟨b, va + k, none⟩ (.int .u8 ((x : Int) / 2 ^ (8 * (wd - 1 - k)) % 256))) m b n hole (Cor.sti f va wd x (k + 1)) ∧ Turn [b] w (wr.setCell ⟨b, va + k, none⟩ (.int .u8 ((x : Int) / 2 ^ (8 * (wd - 1 - k)) % 256))) from
          ⟨by
            rw [show (x : Int) / 2 ^ (8 * (wd - 1 - k)) % 256 = ((x / 2 ^ (8 * (wd - 1 - k)) % 256 : Nat) : Int) by simp]
            exact hI.out.1.put (by omega) _ (fun j _ => Cor.sti_next f va wd x k j), hI.out.2.trans (Turn.set _ _ _ _) (by simp)⟩)
        clear hI HX
        go_wp2_with fail
        go_roundg (wd - (k + 1))
        case rel => exact ⟨k + 1, by omega, rfl, by simp, HP⟩
        case measure => first | omega | (simp; omega)
      · obtain rfl : k = wd := by omega
        go_wp2_with fail
        go_ret
        exact ⟨rfl, by simpa using hI.out.1, hI.out.2⟩
set_option maxRecDepth 100000 in
/-- The eight bytes of a number, as split lays them. -/
theorem split_any (x : Nat) (o : Bool) (w : World) : Calls Try.prog 21 #[.int .u64 (x : Nat), .bool o] w fun e w' => ∃ g, e = .returned (.tuple #[.slice (some ⟨g, 0, none⟩) 8 8, .bool o]) ∧ BK w' g 8 (Cor.sti (fun _ => 0) 0 8 x 8) ∧ Below w.heap.size w w' := by
  have hmk := run_bytes w 8 (by omega)
  rw [show ((8 : Nat) : Int) = 8 from rfl] at hmk
  have h0 : (((0 : Nat) : Int)) = 0 := rfl
  obtain ⟨W1, eW⟩ : ∃ W1, W1 = w.alloc (Obj.cells (Y (List.replicate 8 0)).toArray 5) := ⟨_, rfl⟩
  obtain ⟨G, eG⟩ : ∃ G, w.heap.size = G := ⟨_, rfl⟩
  have hb1 : Below w.heap.size w W1 := by rw [eW]; exact (Below.refl _ _).alloc (Nat.le_refl _) _
  have hg1 : BK W1 G 8 (Cor.sti (fun _ => 0) 0 8 x 0) := by
    rw [Cor.sti_zero]
    refine ⟨_, by rw [eW, ← eG]; exact heap_alloc_new w _, fun i hi => Y_at ?_⟩
    rw [List.getElem?_replicate, if_pos hi]
  have HS := Lib.hid (And.intro hg1 hb1)
  have hwG : w.heap.size ≤ G := by omega
  rw [← eW, eG] at hmk
  clear hg1 hb1 eW
  have EG := Lib.hid eG
  clear eG
  go_enter Try.func21, Try.ntmps21
  go_wp2_with fail
  go_loopg [7, 11] 8 (fun gh c i wr => ∃ k : Nat, k ≤ 8 ∧ gh = 8 - k ∧ i = .int .i64 k ∧ Hid (BK wr G 8 (Cor.sti (fun _ => 0) 0 8 x k) ∧ Below w.heap.size w wr))
  case atStart => exact ⟨0, by omega, by omega, rfl, HS⟩
  case round =>
    obtain ⟨k, hk, hg, rfl, hI⟩ := hrel
    clear HS hmk
    by_cases hlt : k < 8
    · have c0 := hI.out.1.cell hlt
      have c1 := hI.out.1.free k
      have hn8 : 8 * (7 - k) < 64 := by omega
      have HP := Lib.hid (show BK (wr.setCell ⟨G, k, none⟩ (.int .u8 ((x : Int) / 2 ^ (8 * (7 - k)) % 256))) G 8 (Cor.sti (fun _ => 0) 0 8 x (k + 1)) ∧ Below w.heap.size w (wr.setCell ⟨G, k, none⟩ (.int .u8 ((x : Int) / 2 ^ (8 * (7 - k)) % 256))) from
          ⟨by
            rw [show (x : Int) / 2 ^ (8 * (7 - k)) % 256 = ((x / 2 ^ (8 * (7 - k)) % 256 : Nat) : Int) by simp]
            exact hI.out.1.put (by omega) _ (fun j _ => by have := Cor.sti_next (fun _ => 0) 0 8 x k j; rw [Nat.zero_add] at this; exact this), hI.out.2.setCell hwG _⟩)
      clear hI
      go_wp2_with fail
      go_roundg (8 - (k + 1))
      case rel => exact ⟨k + 1, by omega, rfl, by simp, HP⟩
      case measure => first | omega | (simp; omega)
    · obtain rfl : k = 8 := by omega
      go_wp2_with fail
      go_ret2
      exact ⟨G, rfl, hI.out.1, hI.out.2⟩
end Go.Proofs.Ytojnokaeopadfaa
-- with He
set_option linter.unusedVariables false
set_option linter.unusedSimpArgs false
namespace Cor
/-- The bytes that were loaded come out again. -/
theorem sti_ldf {f : Nat → Nat} (h : ∀ i, f i < 256) (va i : Nat) (hi : i < 8) : sti (fun _ => 0) 0 8 (ldf f va 8) 8 i = f (va + i) := by
  have h0 := h (va + 0)
  have h1 := h (va + 1)
  have h2 := h (va + 2)
  have h3 := h (va + 3)
  have h4 := h (va + 4)
  have h5 := h (va + 5)
  have h6 := h (va + 6)
  have h7 := h (va + 7)
  unfold sti
  rw [if_pos (by omega)]
  simp only [ldf, Nat.zero_mul, Nat.zero_add, Nat.sub_zero]
  match i, hi with
  | 0, _ => show _ / 72057594037927936 % 256 = _; omega
  | 1, _ => show _ / 281474976710656 % 256 = _; omega
  | 2, _ => show _ / 1099511627776 % 256 = _; omega
  | 3, _ => show _ / 4294967296 % 256 = _; omega
  | 4, _ => show _ / 16777216 % 256 = _; omega
  | 5, _ => show _ / 65536 % 256 = _; omega
  | 6, _ => show _ / 256 % 256 = _; omega
  | 7, _ => show _ / 1 % 256 = _; omega
  | k + 8, h => omega
end Cor
namespace Go.Proofs.Ytojnokaeopadfaa
open Go.RowKit

/-- A law's memory, as an interface value. -/
def IV (m : Nat) : Value := .iface 29 (.pointer (some ⟨m, 0, none⟩))
theorem no_nf (a : Option Addr) (xT : TypeId) (w : World) : (Instr.typeAssert (.iface 29 (.pointer a)) xT 65 true).run Try.prog w = .ok (.tuple #[.nilIface, .bool false]) w := run_typeAssert_lacksB Try.underlying65 (by kernel_rfl) (by kernel_rfl) _ xT w
theorem no_bf (a : Option Addr) (xT : TypeId) (w : World) : (Instr.typeAssert (.iface 29 (.pointer a)) xT 70 true).run Try.prog w = .ok (.tuple #[.nilIface, .bool false]) w := run_typeAssert_lacksB Try.underlying70 (by kernel_rfl) (by kernel_rfl) _ xT w
theorem no_af (a : Option Addr) (xT : TypeId) (w : World) : (Instr.typeAssert (.iface 29 (.pointer a)) xT 74 true).run Try.prog w = .ok (.tuple #[.nilIface, .bool false]) w := run_typeAssert_lacksB Try.underlying74 (by kernel_rfl) (by kernel_rfl) _ xT w
/-! 222: how many types the program has, and 100. -/
theorem to_load (a : Addr) (w : World) : (method 222 29 (.pointer (some a)) "Load").run Try.prog w = .ok (15, .pointer (some a)) w := by kernel_rfl
theorem to_store (a : Addr) (w : World) : (method 222 29 (.pointer (some a)) "Store").run Try.prog w = .ok (18, .pointer (some a)) w := by kernel_rfl
theorem nil_ahead (a : Addr) (w : World) : (nilAhead 222 29 (.pointer (some a)) "Store").run Try.prog w = .ok (some false) w := by kernel_rfl
set_option maxRecDepth 100000 in
theorem fetch_any {m b n : Nat} {hole : Int} {f : Nat → Nat} (va : Nat) (w : World) (h : MS w m b n hole f) (hv : va ≤ 262144) (hf : ∀ i, f i < 256) : Calls Try.prog 12 #[IV m, .int .i64 (va : Nat)] w fun e w' => ∃ g, e = .returned (.tuple #[.slice (some ⟨g, 0, none⟩) 8 8, .bool (Cor.ok n hole va 8)]) ∧ (Cor.ok n hole va 8 = true → BR w' (some ⟨g, 0, none⟩) [f va, f (va + 1), f (va + 2), f (va + 3), f (va + 4), f (va + 5), f (va + 6), f (va + 7)]) ∧ Below w.heap.size w w' := by
  have C := Lib.hid (mload_any va 8 w h hv hf (.inr (.inr rfl)))
  have D := Lib.hid (fun (x : Nat) (o : Bool) (W : World) => split_any x o W)
  have a1 := no_nf (some ⟨m, 0, none⟩)
  have a2 := no_bf (some ⟨m, 0, none⟩)
  have a3 := no_af (some ⟨m, 0, none⟩)
  obtain ⟨xv, hx⟩ : ∃ xv, (if Cor.ok n hole va 8 then Cor.ldf f va 8 else 0) = xv := ⟨_, rfl⟩
  obtain ⟨o, ho⟩ : ∃ o, Cor.ok n hole va 8 = o := ⟨_, rfl⟩
  rw [hx, ho] at C
  rw [ho] at hx
  have HX := Lib.hid (And.intro hx ho)
  have HF := Lib.hid hf
  clear hx ho hf h
  have q1 := to_load ⟨m, 0, none⟩
  unfold IV
  go_enter Try.func12, Try.ntmps12
  go_wp2_with fail
  refine C.out.mono ?_; rintro e w1 ⟨rfl, rfl⟩
  go_wp2_with fail
  refine (D.out xv o _).mono ?_; rintro e w2 ⟨g, rfl, hb, hl⟩
  have HE := Lib.hid (show o = true → BR w2 (some ⟨g, 0, none⟩) [f va, f (va + 1), f (va + 2), f (va + 3), f (va + 4), f (va + 5), f (va + 6), f (va + 7)] from fun h => by
    subst h
    have := hb.br
    have hx := HX.out.1
    rw [if_pos rfl] at hx
    rw [← hx] at this
    have e : (List.range 8).map (Cor.sti (fun _ => 0) 0 8 (Cor.ldf f va 8) 8) = [f va, f (va + 1), f (va + 2), f (va + 3), f (va + 4), f (va + 5), f (va + 6), f (va + 7)] := by
      rw [← Cor.sti_ldf HF.out va 7 (by omega), ← Cor.sti_ldf HF.out va 6 (by omega), ← Cor.sti_ldf HF.out va 5 (by omega), ← Cor.sti_ldf HF.out va 4 (by omega), ← Cor.sti_ldf HF.out va 3 (by omega), ← Cor.sti_ldf HF.out va 2 (by omega), ← Cor.sti_ldf HF.out va 1 (by omega)]
      have e0 := Cor.sti_ldf HF.out va 0 (by omega)
      rw [Nat.add_zero] at e0
      rw [← e0]
      rfl
    rw [e] at this
    exact this)
  have HL := Lib.hid hl
  clear hb hl
  go_wp2_with fail
  go_ret2
  exact ⟨g, (by rw [HX.out.2]; rfl), fun h => HE.out (HX.out.2 ▸ h), HL.out⟩
end Go.Proofs.Ytojnokaeopadfaa
