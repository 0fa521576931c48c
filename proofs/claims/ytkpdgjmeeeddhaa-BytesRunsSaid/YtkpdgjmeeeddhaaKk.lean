import Derived.Test.YtkpdgjmeeeddhaaKe
import Derived.Laws.MakeOwn
import Derived.Laws.CopyOwn
set_option linter.unusedVariables false
set_option linter.unusedSimpArgs false
namespace Pk
theorem enc_cons : ∀ (n x : Nat), enc (n + 1) x = (x / 256 ^ n % 256) :: enc n x
  | 0, x => by simp [enc]
  | n + 1, x => by
      rw [enc, enc_cons n (x / 256)]
      conv => rhs; rw [enc]
      rw [List.cons_append, Nat.div_div_eq_div_mul, Nat.pow_succ, Nat.mul_comm 256]
theorem enc_zero : ∀ (m j x : Nat), x / 256 ^ j = 0 → enc (j + m) x = List.replicate m 0 ++ enc j x
  | 0, j, x, h => rfl
  | m + 1, j, x, h => by
      rw [← Nat.add_assoc, enc_cons, enc_zero m j x h, List.replicate_succ, List.cons_append]
      congr 1
      rw [Nat.pow_add, ← Nat.div_div_eq_div_mul, h]
      simp
/-- A buffer that is filled from its end on. -/
def buf (bs : List Nat) (k x j : Nat) : List Nat := bs ++ (List.replicate (k - j) 0 ++ enc j x)
theorem buf_len (bs : List Nat) {k x j : Nat} (h : j ≤ k) : (buf bs k x j).length = bs.length + k := by
  unfold buf; rw [List.length_append, List.length_append, List.length_replicate, enc_len]; omega
theorem buf_set (bs : List Nat) {k x j : Nat} (h : j < k) : (buf bs k x j).set (bs.length + k - 1 - j) (x / 256 ^ j % 256) = buf bs k x (j + 1) := by
  unfold buf
  rw [List.set_append_right _ _ (by omega), List.set_append_left _ _ (by rw [List.length_replicate]; omega), enc_cons]
  congr 1
  rw [show k - j = (k - (j + 1)) + 1 by omega, List.replicate_succ', show bs.length + k - 1 - j - bs.length = (k - (j + 1)) by omega]
  rw [List.set_append_right _ _ (by rw [List.length_replicate]; omega), List.length_replicate, Nat.sub_self]
  simp
theorem buf_end {bs : List Nat} {k x j : Nat} (h : j ≤ k) (hx : j = k ∨ x / 256 ^ j = 0) : buf bs k x j = bs ++ enc k x := by
  unfold buf
  rcases hx with rfl | hx
  · simp
  · have := enc_zero (k - j) j x hx
    rw [show j + (k - j) = k by omega] at this
    rw [this]
theorem div_step (x j : Nat) : x / 256 ^ j / 256 = x / 256 ^ (j + 1) := by rw [Nat.div_div_eq_div_mul, Nat.pow_succ]
end Pk
namespace Go.Proofs.Ytkpdgjmeeeddhaa
open Go.RowKit
set_option linter.unusedVariables false
set_option linter.unusedSimpArgs false

/-- What holds while a number is put. -/
def PutN (w : World) (G : Nat) (L : List Nat) (wr : World) : Prop := wr.heap[G]? = some (Obj.cells (Y L).toArray 5) ∧ Below w.heap.size w wr ∧ w.heap.size ≤ G
theorem PutN.nb {w wr : World} {G : Nat} {L : List Nat} (h : PutN w G L wr) (hl : L.length ≤ maxLen) : NB w.heap.size wr L (.slice (some ⟨G, 0, none⟩) L.length L.length) :=
  ⟨by rw [Y_len, Nat.mul_one], .inr ⟨G, L.length, _, rfl, h.2.2, h.1, Nat.le_refl _, hl, by simp [Y_len], by rw [Nat.mul_one]; simp [← Y_len]⟩⟩
theorem PutN.set {w wr : World} {G i x : Nat} {L : List Nat} (h : PutN w G L wr) : PutN w G (L.set i x) (wr.setCell ⟨G, i, none⟩ (.int .u8 (x : Int))) := by
  refine ⟨?_, h.2.1.setCell (p := ⟨G, i, none⟩) h.2.2 _, h.2.2⟩
  have := heap_setCell_same wr G i _ 5 (.int .u8 (x : Int)) h.1
  rw [this]
  congr 2
  unfold Y
  rw [List.setIfInBounds_toArray, List.map_set]
theorem PutN.cell {w wr : World} {G i : Nat} {L : List Nat} (h : PutN w G L wr) (hi : i < L.length) : (∃ y : Nat, wr.cell? ⟨G, i, none⟩ = some (.int .u8 (y : Int))) ∧ wr.frozen? ⟨G, i, none⟩ = false := by
  refine ⟨⟨L[i], ?_⟩, frozen_of_row _ _ _ _ 5 h.1⟩
  rw [cell_of_row _ _ _ _ 5 (0, 0) h.1]
  simp [Y, hi]
set_option maxRecDepth 100000 in
set_option maxHeartbeats 2000000 in
theorem put_any (A : Option Addr) (c n k x : Nat) (bs : List Nat) (w : World) (hn : bs.length = n) (hm : n ≤ 1000000) (hr : BR w A bs) (hk1 : 1 ≤ k) (hk8 : k ≤ 8) (hx : x < 18446744073709551616) :
    Calls Try.prog 30 #[.slice A n c, .int .i64 k, .int .u64 x] w (NBs w (bs ++ Pk.enc k x)) := by
  have hmk := run_bytes w (n + k) (by omega)
  obtain ⟨Z, eZ⟩ : ∃ Z, Y (List.replicate (n + k) 0) = Z := ⟨_, rfl⟩
  obtain ⟨Cs, eC⟩ : ∃ Cs, Y bs = Cs := ⟨_, rfl⟩
  rw [eZ, Int.natCast_add] at hmk
  have hbuf : splice Z 0 Cs = Y (Pk.buf bs k x 0) := by
    rw [← eZ, ← eC]
    unfold splice Pk.buf
    rw [List.take_zero, List.nil_append, Y_app, Y_app, Y_len, hn]
    congr 1
    simp [Y, Pk.enc]
  obtain ⟨W1, eW⟩ : ∃ W1, W1 = w.alloc (Obj.cells Z.toArray 5) := ⟨_, rfl⟩
  obtain ⟨G, eG⟩ : ∃ G, w.heap.size = G := ⟨_, rfl⟩
  have hb1 : Below w.heap.size w W1 := by rw [eW]; exact (Below.refl _ _).alloc (Nat.le_refl _) _
  have hg1 : W1.heap[G]? = some (Obj.cells Z.toArray 5) := by rw [eW, ← eG]; exact heap_alloc_new w _
  have hC1 : Cs.length = n := by rw [← eC, Y_len, hn]
  have hC2 : ∀ u ∈ Cs, u.oneCell' = true := by rw [← eC]; exact Y_one bs
  have hC3 : 0 < Cs.length → (some (⟨G, 0, none⟩ : Addr)) = some ⟨G, 0, none⟩ ∧ ∃ ad, A = some ad ∧ ∀ j v, Cs[j]? = some v → W1.cell? (ad.add j) = some v := by
    intro hpos
    rw [← eC] at hpos ⊢
    have hpos' : 0 < bs.length := by rw [Y_len] at hpos; exact hpos
    have h0 : bs[0]? = some bs[0] := List.getElem?_eq_getElem hpos'
    obtain ⟨b, off, hA, _, _⟩ := hr 0 _ h0
    refine ⟨rfl, ⟨b, off, none⟩, hA, fun j v hv => ?_⟩
    obtain ⟨y, hy, rfl⟩ := Y_get hv
    obtain ⟨b', off', hA', _, hc'⟩ := (hr.below hb1) j y hy
    rw [hA] at hA'
    injection hA' with e
    injection e with e1 e2
    subst e1 e2
    rw [addr_add]; exact hc'
  have hZ : Z.length = n + k := by rw [← eZ, Y_len]; simp
  have hCm : Cs.length = Nat.min n (n + k) := by rw [hC1]; exact (Nat.min_eq_left (by omega)).symm
  have HN := Lib.hid hn
  have H1 := Lib.hid hC1
  have H2 := Lib.hid hC2
  have H3 := Lib.hid hC3
  have HZ := Lib.hid hZ
  have HM := Lib.hid hCm
  have HB1 := Lib.hid hb1
  have HG1 := Lib.hid hg1
  have HBF := Lib.hid hbuf
  have hwG : w.heap.size ≤ G := by omega
  rw [← eW, eG] at hmk
  clear hn hr eZ eC hbuf hb1 hg1 hC1 hC2 hC3 hZ hCm eW
  have EG := Lib.hid eG
  clear eG
  go_enter Try.func30, Try.ntmps30
  go_wp2_with (with_reducible refine wpList_copy_splice rfl (.tmp 25) (.tmp 26) 30 30 rfl 5 Try.underlying30 size5 _ _ _ _ _ _ rfl rfl G 0 Z 5 HG1.out Cs HM.out H3.out ?c1 H2.out w.heap.size w HB1.out hwG ?_)
  case c1 => rw [H1.out, HZ.out]; omega
  intro w2 hg2 hb2
  have HP := Lib.hid (show PutN w G (Pk.buf bs k x 0) w2 from ⟨by rw [← HBF.out]; exact hg2.out, hb2, hwG⟩)
  clear hg2 hb2 hmk HG1 HB1 H1 H2 H3 HZ HM HBF
  go_wp2_with fail
  go_loopg [2, 8] k (fun g xv i wr => ∃ (j y : Nat) (iv : Int), j ≤ k ∧ Hid (g = k - j) ∧ i = .int .i64 iv ∧ Hid (iv = (n : Int) + k - 1 - j) ∧ xv = .int .u64 y ∧ Hid (y = x / 256 ^ j) ∧ Hid (PutN w G (Pk.buf bs k x j) wr))
  case atStart => exact ⟨0, x, _, by omega, Lib.hid (by omega), rfl, Lib.hid (by omega), rfl, Lib.hid (by simp), HP⟩
  case round =>
    obtain ⟨j, y, iv, hj, hg, rfl, hiv, rfl, hy, hrl⟩ := hrel
    clear HP
    have hyx : y < 18446744073709551616 := by rw [hy.out]; exact Nat.lt_of_le_of_lt (Nat.div_le_self _ _) hx
    have hb1 := hiv.out
    have i1 : -1 ≤ iv := by omega
    have i2 : iv ≤ 1000100 := by omega
    clear hb1
    by_cases hjk : j < k
    · by_cases hy0 : 0 < y
      · obtain ⟨q, rfl⟩ : ∃ q : Nat, iv = (q : Int) := ⟨iv.toNat, by have := hiv.out; omega⟩
        have hq : q = bs.length + k - 1 - j := by have := hiv.out; have := HN.out; omega
        have hnq : n ≤ q := by have := hiv.out; omega
        have hqk : q < n + k := by have := hiv.out; omega
        have hbl := Pk.buf_len bs (k := k) (x := x) (j := j) (by omega)
        obtain ⟨⟨yo, y1⟩, y2⟩ := hrl.out.cell (i := q) (by rw [hbl, HN.out]; omega)
        have hnx := Lib.hid (show PutN w G (Pk.buf bs k x (j + 1)) (wr.setCell ⟨G, q, none⟩ (.int .u8 ((y : Int) % 256))) from by
          rw [show ((y : Int) % 256) = ((y % 256 : Nat) : Int) from rfl]
          rw [← Pk.buf_set bs hjk, ← hq, ← hy.out]
          exact hrl.out.set)
        have HQ := Lib.hid hq
        clear hq hbl
        have HX := Lib.hid (And.intro hx hyx)
        clear hx hyx
        go_wp2_with fail
        go_roundg (k - (j + 1))
        case measure => rw [hg.out]; omega
        case rel => exact ⟨j + 1, y / 256, _, by omega, Lib.hid rfl, rfl, Lib.hid (by have := hiv.out; omega), by go_num, Lib.hid (by rw [hy.out]; exact Pk.div_step x j), hnx⟩
      · obtain rfl : y = 0 := by omega
        have hi0 : (n : Int) ≤ iv := by have := hiv.out; omega
        have hend := Lib.hid (Pk.buf_end (bs := bs) (k := k) (x := x) hj (.inr hy.out.symm))
        have hl := Pk.buf_len bs (k := k) (x := x) hj
        have HE := Lib.hid (show NBs w (bs ++ Pk.enc k x) (.returned (.slice (some ⟨G, 0, none⟩) (n + k) (n + k))) wr from
          ⟨_, rfl, by have := hrl.out.nb (by rw [hl, HN.out]; unfold maxLen; omega); rw [hl, HN.out, hend.out] at this; exact this, hrl.out.2.1⟩)
        clear hl hx hyx hy hy0
        go_wp2_with fail
        go_ret
        exact HE.out
    · obtain rfl : j = k := by omega
      have hi0 : iv < (n : Int) := by have := hiv.out; omega
      have hend := Lib.hid (Pk.buf_end (bs := bs) (k := j) (x := x) hj (.inl rfl))
      have hl := Pk.buf_len bs (k := j) (x := x) hj
      have HE := Lib.hid (show NBs w (bs ++ Pk.enc j x) (.returned (.slice (some ⟨G, 0, none⟩) (n + j) (n + j))) wr from
        ⟨_, rfl, by have := hrl.out.nb (by rw [hl, HN.out]; unfold maxLen; omega); rw [hl, HN.out, hend.out] at this; exact this, hrl.out.2.1⟩)
      clear hl hx hyx hy
      go_wp2_with fail
      go_ret
      exact HE.out
end Go.Proofs.Ytkpdgjmeeeddhaa

