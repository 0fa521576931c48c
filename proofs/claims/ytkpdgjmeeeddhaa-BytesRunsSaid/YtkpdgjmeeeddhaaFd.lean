/- Read, Write. -/
import Derived.Test.YtkpdgjmeeeddhaaFc
namespace Go.Proofs.Ytkpdgjmeeeddhaa
open Go.RowKit
set_option linter.unusedVariables false
set_option linter.unusedSimpArgs false
theorem BR.at' {w : World} {A : Option Addr} {bs : List Nat} (h : BR w A bs) (h0 : 0 < bs.length) : ∃ b off, A = some ⟨b, off, none⟩ ∧ ∀ j v, (Y bs)[j]? = some v → w.cell? ((⟨b, off, none⟩ : Addr).add j) = some v := by
  obtain ⟨b, off, rfl, _, _⟩ := h 0 _ (List.getElem?_eq_getElem h0)
  refine ⟨b, off, rfl, fun j v hv => ?_⟩
  obtain ⟨x, hx, rfl⟩ := Y_get hv
  obtain ⟨b', off', e, _, hc⟩ := h j x hx
  injection e with e
  injection e with e1 e2
  subst e1 e2
  rw [addr_add]; exact hc
/-- Bytes are copied into a block, or nothing is. -/
theorem copy_any (w : World) (ty t : TypeId) (b x dl dc sl sc n : Nat) (A : Option Addr) (cur : List Value) (bs : List Nat) (hd : w.heap[b]? = some (Obj.cells cur.toArray t)) (hn : bs.length = n) (h1 : Nat.min sl dl = n) (hfit : n = 0 ∨ x + n ≤ cur.length) (hr : BR w A bs) :
    ∃ w', (Builtin.copy_ #[30, 30] ty #[.slice (some ⟨b, x, none⟩) dl dc, .slice A sl sc]).run Try.prog w = .ok (goInt n) w' ∧ w'.heap[b]? = some (Obj.cells (if n = 0 then cur else splice cur x (Y bs)).toArray t) ∧ Turn [b] w w' := by
  by_cases h0 : n = 0
  · subst h0
    exact ⟨w, run_copy_none w _ _ ty 5 _ _ _ _ _ _ Try.underlying30 size5 h1, by rw [if_pos rfl]; exact hd, Turn.refl _ _⟩
  · obtain ⟨sb, so, rfl, hs⟩ := hr.at' (by omega)
    have hrun := run_copy_row (P := Try.prog) w 30 30 ty 5 b x dl dc ⟨sb, so, none⟩ sl sc cur.toArray t (Y bs) Try.underlying30 size5 hd (by rw [Y_len, hn, h1]) hs (by rw [Y_len, hn, List.size_toArray]; omega) (Y_one bs)
    rw [Y_len, hn] at hrun
    refine ⟨_, hrun, ?_, ?_⟩
    · rw [setRow_heap w b _ _ _ _ hd, if_neg h0]
      congr 2
      unfold splice
      rw [Y_len, hn]
      simp
    · exact ⟨rfl, rfl, rfl, by simp [World.setRow], fun k hk hn => setRow_other w b k _ (fun e => hn (by simp [e]))⟩
theorem slice49 (w : World) (B x a : Nat) (ha : a ≤ 64) : ∃ y, (Instr.sliceAt 66 (.pointer (some ⟨B, x, none⟩)) (some (.int .i64 (a : Int))) none none).run Try.prog w = .ok (.slice (some ⟨B, y, none⟩) (64 - a) (64 - a)) w ∧ (a < 64 → y = x + a) := by
  have hL : Try.prog.arrayLen 66 = 64 := by kernel_rfl
  have hE : Try.prog.elem 66 = 5 := by kernel_rfl
  have hz : (sizeOf 5).run Try.prog w = .ok 1 w := by kernel_rfl
  refine ⟨if 64 = a then x else x + a, ?_, fun h => by rw [if_neg (by omega)]⟩
  have := run_sliceAt_array_l (P := Try.prog) w 66 ⟨B, x, none⟩ (by rw [hL, hE]; exact Try.underlying66) .i64 (a : Int) (by omega) (by rw [hL]; omega)
  rw [this, hE, hz]
  simp only [Result.andThen_ok, slicedAt, hL, Int.toNat_natCast, Nat.mul_one, addr_add]
  congr 2
  split <;> rfl
/-- What is read of a frame lies there. -/
theorem Fs.br {w : World} {B : Nat} {os : List Nat} {ds : List (List Nat)} {cs : List Value} (h : Fs os ds cs) (hb : w.heap[B]? = some (Obj.cells cs.toArray 68)) {k a l : Nat} (hk : k < os.length) (x : Nat) (hx : 0 < l → x = k * 65 + 1 + a) (ha : a + l ≤ 64) : BR w (some ⟨B, x, none⟩) (((ds.getD k []).drop a).take l) := by
  intro i y hi
  obtain ⟨f1, f2, f3, f4⟩ := h
  have e0 : ds[k]? = some (ds.getD k []) := by rw [List.getD_eq_getElem?_getD, List.getElem?_eq_getElem (by omega)]; rfl
  obtain ⟨q1, q2, q3⟩ := f4 k _ e0
  rw [List.getElem?_take] at hi
  split at hi
  · rw [List.getElem?_drop] at hi
    obtain rfl := hx (by omega)
    refine ⟨B, _, rfl, (Array.getElem?_eq_some_iff.1 hb).1, ?_⟩
    rw [cell_of_row _ _ _ _ 68 (0, 0) hb, List.getElem?_toArray, show k * 65 + 1 + a + i = k * 65 + 1 + (a + i) by omega]
    exact q3 _ _ hi
  · cases hi
theorem may_out {os : List Nat} {f off n : Int} (h : Fr.may os f off n = true) : ∃ k a l : Nat, f = (k : Int) + 1 ∧ off = a ∧ n = l ∧ k < os.length ∧ a + l ≤ 64 := by
  obtain ⟨h1, h2, h3, h4⟩ := of_decide_eq_true h
  obtain ⟨k, h5, h6, _⟩ := own_in h1
  exact ⟨k, off.toNat, n.toNat, h5, by omega, by omega, h6, by omega⟩
/-- What a read answers. -/
def Reads (W : World) (bs : List Nat) (e : Ending) (w' : World) : Prop := ∃ A c, e = .returned (.slice A bs.length c) ∧ BR w' A bs ∧ Below W.heap.size W w'
set_option maxHeartbeats 1000000 in
theorem read_no {R : Nat} {S os : List Nat} {ds : List (List Nat)} (f off n : Int) (w : World) (h : Pl w R S os ds) (f1 : -9223372036854775808 ≤ f) (f2 : f ≤ 9223372036854775807) (o1 : -9223372036854775808 ≤ off) (o2 : off ≤ 9223372036854775807) (n1 : -9223372036854775808 ≤ n) (n2 : n ≤ 9223372036854775807) (m : Fr.may os f off n = false) : Calls Try.prog 25 #[.pointer (some ⟨R, 0, none⟩), .int .i64 f, .int .i64 off, .int .i64 n] w (Reads w []) := by
  have C := Lib.hid (within_any f off n w h f1 f2 o1 o2 n1 n2)
  rw [m] at C
  have HE := Lib.hid (show Reads w [] (.returned (.slice none 0 0)) w from ⟨none, 0, rfl, BR.nil _ _, Below.refl _ _⟩)
  clear h m f1 f2 o1 o2 n1 n2
  go_enter Try.func25, Try.ntmps25
  go_wp2_with fail
  refine C.out.mono ?_
  rintro e w1 ⟨rfl, rfl⟩
  go_wp2_with fail
  go_ret
  exact HE.out
set_option maxHeartbeats 1000000 in
theorem read_yes {R : Nat} {S os : List Nat} {ds : List (List Nat)} (k a l : Nat) (w : World) (h : Pl w R S os ds) (m : Fr.may os ((k : Int) + 1) a l = true) (hk : k < os.length) (ha : a + l ≤ 64) : Calls Try.prog 25 #[.pointer (some ⟨R, 0, none⟩), .int .i64 ((k : Int) + 1), .int .i64 a, .int .i64 l] w (Reads w (((ds.getD k []).drop a).take l)) := by
  obtain ⟨_, l1, l2, _⟩ := h.len
  have C := Lib.hid (within_any ((k : Int) + 1) a l w h (by omega) (by omega) (by omega) (by omega) (by omega) (by omega))
  rw [m] at C
  obtain ⟨B, cs, rfl, g1, g2, l1', l2', hf⟩ := h
  have c0 : w.cell? ⟨R, 0, none⟩ = some (.slice (some ⟨B, 0, none⟩) os.length os.length) := by rw [cell_of_row _ _ _ _ 56 (0, 0) g1]; rfl
  have c1 := frozen_of_row _ _ 0 _ 56 g1
  have hmk := run_bytes w l (by omega)
  obtain ⟨Zc, eZ⟩ : ∃ Zc, Obj.cells (Y (List.replicate l 0)).toArray 5 = Zc := ⟨_, rfl⟩
  rw [eZ] at hmk
  have lR := (Array.getElem?_eq_some_iff.1 g1).1
  have d0 : (w.alloc Zc).cell? ⟨R, 0, none⟩ = some (.slice (some ⟨B, 0, none⟩) os.length os.length) := by rw [← c0]; exact (below_alloc1 w Zc).cell (p := ⟨R, 0, none⟩) lR
  obtain ⟨n, en⟩ : ∃ n, os.length = n := ⟨_, rfl⟩
  rw [en] at c0 d0 l1 l2 hk
  have hkn : k < n := hk
  have j1 : (k : Int) ≤ 4096 := by omega
  have e1 : IntKind.i64.wrap ((k : Int) + 1 - 1) = k := by rw [IntWalk.i64_in _ (by omega)]; omega
  obtain ⟨y, hsl, hy⟩ := slice49 (w.alloc Zc) B (k * 65 + 1) a (by omega)
  obtain ⟨q, eq⟩ : ∃ q, ((ds.getD k []).drop a).take l = q := ⟨_, rfl⟩
  have hql : q.length = l := by
    rw [← eq, List.length_take, List.length_drop]
    have e0 : ds[k]? = some (ds.getD k []) := by rw [List.getD_eq_getElem?_getD, List.getElem?_eq_getElem (by rw [hf.2.1, en]; omega)]; rfl
    rw [(hf.2.2.2 k _ e0).1]
    omega
  have hbr : BR (w.alloc Zc) (some ⟨B, y, none⟩) q := by
    rw [← eq]
    refine BR.below (hf.br g2 (k := k) (a := a) (l := l) (by omega) y (fun h => by rw [hy (by omega)]) ha) (below_alloc1 w Zc)
  obtain ⟨w', hrun, hw1, hw2⟩ := copy_any (w.alloc Zc) 3 5 w.heap.size 0 l l (64 - a) (64 - a) l _ _ q (by rw [← eZ]; exact heap_alloc_new w _) hql (by have : Nat.min (64 - a) l = min (64 - a) l := rfl; omega) (by simp [Y_len]) hbr
  have HE := Lib.hid (show Reads w q (.returned (.slice (some ⟨w.heap.size, 0, none⟩) l l)) w' from by
    have hb : Below w.heap.size w w' := (below_alloc1 w Zc).trans (hw2.below (by simp) (by simp))
    refine ⟨_, l, by rw [hql], fun i x hi => ⟨_, _, rfl, by have := hw2.size; simp at this; omega, ?_⟩, hb⟩
    rw [cell_of_row _ _ _ _ 5 (0, 0) hw1, List.getElem?_toArray]
    have hil : i < l := by rw [← hql]; exact (List.getElem?_eq_some_iff.1 hi).1
    rw [if_neg (by omega), splice_get _ _ _ _ (by rw [Y_len, hql]; simp [Y_len]), if_neg (by omega), if_pos (by rw [Y_len]; omega), Nat.add_sub_cancel_left]
    exact Y_at hi)
  rw [eq]
  clear g1 g2 hf m en eq hql hbr hw1 hw2 hy eZ
  go_enter Try.func25, Try.ntmps25
  go_wp2_with fail
  refine C.out.mono ?_
  rintro e w1 ⟨rfl, rfl⟩
  go_wp2_with fail
  go_ret
  exact HE.out
/-- What a write answers. -/
def Writes (W : World) (R : Nat) (S os : List Nat) (ds : List (List Nat)) (t : Bool) (e : Ending) (w' : World) : Prop := e = .returned (.bool t) ∧ PlT W R S os ds w'
set_option maxHeartbeats 1000000 in
theorem write_no {R : Nat} {S os : List Nat} {ds : List (List Nat)} (f off : Int) (A : Option Addr) (n c : Nat) (w : World) (h : Pl w R S os ds) (f1 : -9223372036854775808 ≤ f) (f2 : f ≤ 9223372036854775807) (o1 : -9223372036854775808 ≤ off) (o2 : off ≤ 9223372036854775807) (hm : n ≤ 140737488351232) (m : Fr.may os f off n = false) : Calls Try.prog 34 #[.pointer (some ⟨R, 0, none⟩), .int .i64 f, .int .i64 off, .slice A n c] w (Writes w R S os ds false) := by
  have C := Lib.hid (within_any f off n w h f1 f2 o1 o2 (by omega) (by omega))
  rw [m] at C
  have HE := Lib.hid (show Writes w R S os ds false (.returned (.bool false)) w from ⟨rfl, S, h, Turn.refl _ _, fun b hb => .inl hb⟩)
  clear h m f1 f2 o1 o2
  go_enter Try.func34, Try.ntmps34
  go_wp2_with fail
  refine C.out.mono ?_
  rintro e w1 ⟨rfl, rfl⟩
  go_wp2_with fail
  go_ret
  exact HE.out
set_option maxHeartbeats 1000000 in
theorem write_yes {R : Nat} {S os : List Nat} {ds : List (List Nat)} (k a l : Nat) (A : Option Addr) (c : Nat) (b : List Nat) (w : World) (h : Pl w R S os ds) (m : Fr.may os ((k : Int) + 1) a l = true) (hk : k < os.length) (ha : a + l ≤ 64) (hn : b.length = l) (hr : BR w A b) (hb : ∀ x ∈ b, x < 256) : Calls Try.prog 34 #[.pointer (some ⟨R, 0, none⟩), .int .i64 ((k : Int) + 1), .int .i64 a, .slice A l c] w (Writes w R S os (ds.set k (Fr.lay (ds.getD k []) a b)) true) := by
  obtain ⟨_, l1, l2, _⟩ := h.len
  have C := Lib.hid (within_any ((k : Int) + 1) a l w h (by omega) (by omega) (by omega) (by omega) (by omega) (by omega))
  rw [m] at C
  obtain ⟨B, cs, rfl, g1, g2, l1', l2', hf⟩ := h
  have c0 : w.cell? ⟨R, 0, none⟩ = some (.slice (some ⟨B, 0, none⟩) os.length os.length) := by rw [cell_of_row _ _ _ _ 56 (0, 0) g1]; rfl
  have c1 := frozen_of_row _ _ 0 _ 56 g1
  obtain ⟨y, hsl, hy⟩ := slice49 w B (k * 65 + 1) a (by omega)
  obtain ⟨w', hrun, hw1, hw2⟩ := copy_any w 3 68 B y (64 - a) (64 - a) l c l A cs b g2 hn (by have : Nat.min l (64 - a) = min l (64 - a) := rfl; omega) (by
    by_cases h0 : l = 0
    · exact .inl h0
    · exact .inr (by rw [hy (by omega), hf.1]; omega)) hr
  have HE := Lib.hid (show Writes w R [R, B] os (ds.set k (Fr.lay (ds.getD k []) a b)) true (.returned (.bool true)) w' from by
    refine ⟨rfl, [R, B], ⟨B, _, rfl, ?_, hw1, l1', l2', ?_⟩, ⟨hw2.os, hw2.tape, hw2.output, hw2.size, fun j hj hm => hw2.block j hj (fun e => hm (List.mem_cons_of_mem _ e))⟩, fun b hb => .inl hb⟩
    · rw [hw2.block R (Array.getElem?_eq_some_iff.1 g1).1 (fun e => by obtain rfl := List.mem_singleton.1 e; rw [g1] at g2; simp at g2)]; exact g1
    · by_cases h0 : l = 0
      · subst h0
        obtain rfl := List.eq_nil_of_length_eq_zero hn
        rw [if_pos rfl]
        have e0 : Fr.lay (ds.getD k []) a [] = ds.getD k [] := by unfold Fr.lay; simp
        have e1 : ds.set k (ds.getD k []) = ds := by
          rw [List.getD_eq_getElem?_getD, List.getElem?_eq_getElem (by rw [hf.2.1]; exact hk)]; simp
        rw [e0, e1]; exact hf
      · rw [if_neg h0, hy (by omega)]
        exact hf.lay hk (by omega) hb)
  obtain ⟨n, en⟩ : ∃ n, os.length = n := ⟨_, rfl⟩
  rw [en] at c0 l1 l2 hk
  have hkn : k < n := hk
  have j1 : (k : Int) ≤ 4096 := by omega
  have e1 : IntKind.i64.wrap ((k : Int) + 1 - 1) = k := by rw [IntWalk.i64_in _ (by omega)]; omega
  obtain ⟨D, eD⟩ : ∃ D, ds.set k (Fr.lay (ds.getD k []) a b) = D := ⟨_, rfl⟩
  rw [eD] at HE ⊢
  clear g1 g2 hf m en hn hr hb hw1 hw2 hy eD
  go_enter Try.func34, Try.ntmps34
  go_wp2_with fail
  refine C.out.mono ?_
  rintro e w1 ⟨rfl, rfl⟩
  go_wp2_with fail
  go_ret
  exact HE.out
end Go.Proofs.Ytkpdgjmeeeddhaa
