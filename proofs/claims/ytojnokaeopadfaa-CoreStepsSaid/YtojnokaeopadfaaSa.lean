/- Bytes that are appended to a slice of one's own; a memory of it. -/
import Derived.Test.YtojnokaeopadfaaKc
import Derived.Lib.AppendZerosOnto
import Derived.Laws.AppendOwn
import Derived.Test.YtojnokaeopadfaaJe
import Derived.Test.YtojnokaeopadfaaTa
set_option linter.unusedVariables false
set_option linter.unusedSimpArgs false
namespace Go.Proofs.Ytojnokaeopadfaa
open Go.RowKit

theorem info_u8m : (Try.prog.info? 5).map (fun i => (i.zero, i.size, i.bytes)) = some (some (.int .u8 0), 1, 1) := by kernel_rfl
theorem info_u8 : ∃ i, Try.prog.info? 5 = some i ∧ i.zero = some (.int .u8 0) ∧ i.size = 1 ∧ i.bytes = 1 := by
  obtain ⟨i, hi, e⟩ := Option.map_eq_some_iff.1 info_u8m
  injection e with e1 e2
  injection e2 with e2 e3
  exact ⟨i, hi, e1, e2, e3⟩
theorem zero8 : (Value.int .u8 0).cells.size = 1 := rfl
set_option maxRecDepth 100000 in
/-- Bytes are appended. -/
theorem append_own8 {w : World} {B n : Nat} {v : Value} {bs : List Nat} (h : w.ownsRow B 5 1 v n (Y bs)) (ty : TypeId) (g m c : Nat) (ns : List Nat) (hl : ns.length = m) (hr : BR w (some ⟨g, 0, none⟩) ns) (hm : n + m ≤ 100000) (hB : B ≤ w.heap.size) :
    ∃ v' w', (Builtin.append_ #[25, 25] ty #[v, .slice (some ⟨g, 0, none⟩) m c]).run Try.prog w = .ok v' w' ∧ w'.ownsRow B 5 1 v' (n + m) (Y (bs ++ ns)) ∧ w.grownBy w' v.ownBlock := by
  obtain ⟨i, hi, hz, hs, hb⟩ := info_u8
  obtain ⟨v', w', h1, h2, h3, _⟩ := run_append_own (P := Try.prog) w B 25 ty 5 i _ 1 1 Try.underlying25 hi hz hs hb zero8 (by decide) v n (Y bs) h ⟨g, 0, none⟩ m c (Y ns) (by rw [Y_len, hl, Nat.mul_one]) (fun j u hu => by
    obtain ⟨x, hx, rfl⟩ := Y_get hu
    obtain ⟨b', o', e, _, hc⟩ := hr j x hx
    injection e with e
    injection e with e1 e2
    subst e1 e2
    rw [addr_add]; exact hc) (Y_one ns) (by unfold maxLen; omega) (by omega) hB
  rw [← Y_app] at h2
  exact ⟨v', w', h1, h2, h3⟩
theorem zeros8 (k : Nat) : (Builtin.zeroCells (Value.int .u8 0).cells k).toList = Y (List.replicate k 0) := by
  refine List.ext_getElem? fun j => ?_
  unfold Y Builtin.zeroCells
  simp only [Array.toList_map, Array.toList_range, List.getElem?_map, List.map_replicate, zero8, Nat.mul_one]
  by_cases hj : j < k
  · rw [List.getElem?_replicate, if_pos hj, List.getElem?_range hj]
    simp only [Option.map_some, Nat.mod_one]
    rfl
  · rw [List.getElem?_replicate, if_neg hj, List.getElem?_eq_none (by simpa using hj)]
    rfl
theorem zeros8a (k : Nat) : Builtin.zeroCells (Value.int .u8 0).cells k = (Y (List.replicate k 0)).toArray := by
  rw [← zeros8]
/-- A row of one's own: what is laid anew. -/
theorem owned_new (w : World) (B n cap : Nat) (cs : List Value) (rest : Array Value) (hl : cs.length = n) (hn : n ≤ cap) (hc : cap ≤ maxLen) (hr : rest.size = cap - n) (hB : B ≤ w.heap.size) (row : Option Nat) :
    (w.drew.alloc (.cells (cs.toArray ++ rest) 5)).ownsRow B 5 1 (.slice (some ⟨w.heap.size, 0, none⟩) n cap) n cs ∧ w.grownBy (w.drew.alloc (.cells (cs.toArray ++ rest) 5)) row := by
  refine ⟨⟨by rw [hl, Nat.mul_one], .inr ⟨w.heap.size, _, _, rfl, hB, heap_alloc_new w.drew _, hn, hc, ?_, ?_⟩⟩, ⟨rfl, rfl, rfl, by simp, fun k hk _ => heap_alloc_old w.drew _ hk⟩⟩
  · simp only [Array.size_append, List.size_toArray, hl, hr]; omega
  · simp only [Array.toList_append, Nat.mul_one, ← hl]
    exact List.take_left
set_option maxHeartbeats 1000000 in
/-- Zeros are appended. -/
theorem append_zeros8 {w : World} {B n : Nat} {v : Value} {bs : List Nat} (h : w.ownsRow B 5 1 v n (Y bs)) (ty : TypeId) (k : Nat) (h0 : 0 < k) (hm : n + k ≤ 100000) (hB : B ≤ w.heap.size) :
    ∃ v' w', (Builtin.append_ #[25, 3] ty #[v, .int .i64 (k : Nat)]).run Try.prog w = .ok v' w' ∧ w'.ownsRow B 5 1 v' (n + k) (Y (bs ++ List.replicate k 0)) ∧ w.grownBy w' v.ownBlock := by
  obtain ⟨i, hi, hz, hs, hb⟩ := info_u8
  have hlen : (Y (bs ++ List.replicate k 0)).length = n + k := by
    have := h.1
    rw [Y_len] at this
    rw [Y_len, List.length_append, List.length_replicate]; omega
  have grow : ∀ (base : Option Addr) (cap : Nat), cap < n + k → (Builtin.firstCells i.size n (.slice base n cap)).run Try.prog w.drew = .ok (Y bs).toArray w.drew → ∀ row,
      ∃ v' w', (Builtin.append_ #[25, 3] ty #[.slice base n cap, .int .i64 (k : Nat)]).run Try.prog w = .ok v' w' ∧ w'.ownsRow B 5 1 v' (n + k) (Y (bs ++ List.replicate k 0)) ∧ w.grownBy w' row := by
    intro base cap hc hold row
    have hrun := Lib.run_append_grow_zeros (P := Try.prog) w 25 3 ty 5 i _ .i64 .i64 Try.underlying25 Try.underlying3 hi hz base n cap (Y bs) hold k h0 (by omega) hc (by omega) (by rw [hb]; omega) (growslice_fits hc (by rw [hb]; omega))
    have eA : (Y bs).toArray ++ (Y (List.replicate k 0)).toArray = (Y (bs ++ List.replicate k 0)).toArray := by rw [List.append_toArray, ← Y_app]
    rw [zeros8a k, eA] at hrun
    have hcm : grownCap w (n + k) cap 5 ≤ maxLen := grownCap_le_maxLen w (n + k) cap 5 (by unfold maxLen; omega)
    obtain ⟨h1, h2⟩ := owned_new w B (n + k) (grownCap w (n + k) cap 5) (Y (bs ++ List.replicate k 0)) (Builtin.zeroCells (Value.int .u8 0).cells (grownCap w (n + k) cap 5 - (n + k))) hlen (grownCap_ge _ _ _ _) hcm (by rw [size_zeroCells, zero8, Nat.mul_one]) hB row
    exact ⟨_, _, hrun, h1, h2⟩
  rcases h.2 with ⟨rfl, rfl⟩ | ⟨g, cap, cur, rfl, hbg, hg, hnc, hcm, hcs, htake⟩
  · obtain rfl : bs = [] := List.eq_nil_of_length_eq_zero (by have := h.1; rw [Y_len] at this; omega)
    exact grow none 0 (by omega) (by simp [Builtin.firstCells, Y]) _
  · by_cases hroom : n + k ≤ cap
    · have hw : IntKind.i64.wrap (k : Int) = k := by rw [IntKind.wrap_i64]; omega
      have hk : k ≠ 0 := by omega
      have hneg : ¬ ((k : Int) < 0) := by omega
      have h48 : ¬ (281474976710656 < (k : Int) * (i.bytes : Int)) := by rw [hb]; omega
      have hns : ¬ (k * i.size = 0) := by rw [hs]; omega
      have hst := run_storeCells_at Try.prog g n 5 (Y (List.replicate k 0)) 0 cur w hg (by rw [Y_len, List.length_replicate]; omega) (Y_one _)
      simp only [Nat.add_zero] at hst
      refine ⟨.slice (some ⟨g, 0, none⟩) (n + k) cap, w.setRow g (cur.toList.take n ++ Y (List.replicate k 0) ++ cur.toList.drop (n + (Y (List.replicate k 0)).length)).toArray, ?_, ⟨by rw [hlen, Nat.mul_one], .inr ⟨g, cap, _, rfl, hbg, setRow_heap w g cur _ 5 _ hg, hroom, hcm, ?_, ?_⟩⟩, ⟨rfl, rfl, rfl, by simp [World.setRow], fun j _ hj => setRow_other w g j _ (fun e => hj (by simp [Value.ownBlock, e]))⟩⟩
      · simp [Builtin.append_, run_underlying Try.underlying25, run_underlying Try.underlying3, sizeOf, typeInfo, zeroValue, hi, hz, asInt, asIntOf, hw, hroom, hneg, h48, hns, hs, Addr.add_lit, zeros8, hst]
        intro hk0
        exact absurd hk0 hk
      · simp only [List.size_toArray, List.length_append, List.length_take, List.length_drop, Array.length_toList, Y_len, List.length_replicate]
        omega
      · rw [Nat.mul_one] at htake
        rw [htake, ← Y_app, Nat.mul_one, ← hlen]
        exact List.take_left
    · exact grow _ cap (by omega) (by
        rw [hs]
        exact run_firstCells_some (P := Try.prog) w.drew 1 n ⟨g, 0, none⟩ n cap (Y bs) h.1 (h.cells (g := g) rfl)) _
/-- The bytes of a slice of one's own. -/
theorem bk_owned {w : World} {B n : Nat} {v : Value} {bs : List Nat} (h : w.ownsRow B 5 1 v n (Y bs)) (hn : 0 < n) : ∃ g cap, v = .slice (some ⟨g, 0, none⟩) n cap ∧ B ≤ g ∧ n ≤ cap ∧ BK w g n (fun j => bs.getD j 0) := by
  rcases h.2 with ⟨rfl, rfl⟩ | ⟨g, cap, cur, rfl, hbg, hg, hnc, hcm, hcs, htake⟩
  · omega
  · refine ⟨g, cap, rfl, hbg, hnc, cur.toList, by simpa using hg, fun j hj => ?_⟩
    have hl := h.1
    rw [Y_len] at hl
    have e : (Y bs)[j]? = some (.int .u8 ((bs.getD j 0 : Nat) : Int)) := Y_at (by rw [List.getD_eq_getElem?_getD, List.getElem?_eq_getElem (by omega)]; rfl)
    rw [← htake, List.getElem?_take, if_pos (by omega)] at e
    exact e
theorem ms_of {w : World} {g n cap : Nat} {f : Nat → Nat} (hk : BK w g n f) (hc : n ≤ cap) (hn : n ≤ 100000) (hole : Int) : MS (w.alloc (Obj.cells #[.slice (some ⟨g, 0, none⟩) n cap, .int .i64 hole] 31)) w.heap.size g n hole f :=
  ⟨cap, heap_alloc_new w _, hk.keep (heap_alloc_old w _ hk.lt), hc, hn, by have := hk.lt; omega⟩
theorem Nr.own {a w w' : World} {v : Value} (h : Nr [] a w) (hg : w.grownBy w' v.ownBlock) (hb : ∀ k, v.ownBlock = some k → a.heap.size ≤ k) : Nr [] a w' :=
  ⟨hg.os.trans h.os, hg.output.trans h.output, Nat.le_trans h.size hg.size, fun i hi hn =>
    (hg.block i (Nat.lt_of_lt_of_le hi h.size) (fun e => by have := hb i e.symm; omega)).trans (h.block i hi hn)⟩
theorem owned_below {w w' : World} {B n : Nat} {v : Value} {xs : List Value} (h : w.ownsRow B 5 1 v n xs) (hb : Nr [] w w') : w'.ownsRow B 5 1 v n xs := by
  refine ⟨h.1, ?_⟩
  rcases h.2 with hn | ⟨g, cap, cur, rfl, hbg, hgg, rest⟩
  · exact .inl hn
  · exact .inr ⟨g, cap, cur, rfl, hbg, (hb.block g (Array.getElem?_eq_some_iff.1 hgg).1 (by simp)).trans hgg, rest⟩
theorem wpList_append_by {P : Program} {ops : Array Oper} {rest : List Oper} {o : Oper} {a : Act} {w : World} {Q : Exit → Act → World → Prop} (hgd : o.guard = none) (d s : Operand) (dT sT : TypeId)
    (ho : o.op = .call { callee := .builtin .append, args := #[d, s], argTypes := #[dT, sT] }) (x y r : Value) (hd : a.eval d = x) (hs : a.eval s = y) (w' : World)
    (hrun : (Builtin.append_ #[dT, sT] o.type #[x, y]).run P w = .ok r w') (h : wpList P ops Q rest (a.put o.dst r) w') : wpList P ops Q (o :: rest) a w := by
  refine wpList_plain hgd fun K hK => ?_
  unfold Oper.wp
  simp [execOp, ho, resolve, invoke, builtin, hd, hs, hrun, Result.andThen]
  exact hK _ _ h
end Go.Proofs.Ytojnokaeopadfaa
-- with Sb
set_option linter.unusedVariables false
set_option linter.unusedSimpArgs false
namespace Cor
/-- An instruction as it came in. -/
structure In where
  o : Int
  a : Int
  b : Int
  c : Int
  m : Int
end Cor
namespace Go.Proofs.Ytojnokaeopadfaa
open Go.RowKit

/-- Instructions that came in. -/
def InsR (w : World) (A : Option Addr) (xs : List Cor.In) : Prop := ∀ (i : Nat) (x : Cor.In), xs[i]? = some x → ∃ b off, A = some ⟨b, off, none⟩ ∧ b < w.heap.size ∧
  w.cell? ⟨b, off + i * 5, none⟩ = some (.int .i64 x.o) ∧ w.cell? ⟨b, off + i * 5 + 1, none⟩ = some (.int .i64 x.a) ∧ w.cell? ⟨b, off + i * 5 + 2, none⟩ = some (.int .i64 x.b) ∧ w.cell? ⟨b, off + i * 5 + 3, none⟩ = some (.int .i64 x.c) ∧ w.cell? ⟨b, off + i * 5 + 4, none⟩ = some (.int .i32 x.m)
theorem BK.same {w : World} {b n : Nat} {f g : Nat → Nat} (h : BK w b n f) (e : ∀ i, i < n → f i = g i) : BK w b n g := by
  obtain ⟨cs, h1, h2⟩ := h
  exact ⟨cs, h1, fun i hi => by rw [h2 i hi, e i hi]⟩
theorem rem2000 (n : Int) : -2000 < n.tmod 2000 ∧ n.tmod 2000 < 2000 := by
  rcases Int.le_total 0 n with h | h
  · rw [Int.tmod_eq_emod_of_nonneg h]; omega
  · obtain ⟨k, rfl⟩ : ∃ k : Nat, n = -(k : Int) := ⟨n.natAbs, by omega⟩
    rw [Int.neg_tmod, Int.tmod_eq_emod_of_nonneg (by omega)]; omega
/-- Too many: nothing is done. -/
theorem steps_many (A1 : Option Addr) (l c1 : Nat) (A : Option Addr) (n cp : Nat) (hole : Int) (w : World) (h : 100 < l ∨ 16 < n) :
    Calls Try.prog 3 #[.slice A1 l c1, .slice A n cp, .int .i64 hole] w fun e w' => e = .returned (.bool true) ∧ Nr [] w w' := by
  have F := Lib.hid (fun (W : World) => fit_any W)
  by_cases h1 : 100 < l
  · have g1 : (100 : Int) < l := by omega
    go_enter Try.func3, Try.ntmps3
    go_wp2_with fail
    refine (F.out _).mono ?_; rintro e w1 ⟨rfl, hf⟩
    have HF := Lib.hid hf
    clear F hf
    go_wp2_with fail
    go_ret
    exact ⟨rfl, HF.out⟩
  · have g1 : ¬ (100 : Int) < l := by omega
    have g2 : (16 : Int) < n := by omega
    go_enter Try.func3, Try.ntmps3
    go_wp2_with fail
    refine (F.out _).mono ?_; rintro e w1 ⟨rfl, hf⟩
    have HF := Lib.hid hf
    clear F hf
    go_wp2_with fail
    go_ret
    exact ⟨rfl, HF.out⟩
set_option maxRecDepth 100000 in
set_option maxHeartbeats 8000000 in
theorem steps_all (A1 : Option Addr) (l c1 : Nat) (xs : List Cor.In) (A : Option Addr) (n cp : Nat) (us : List Nat) (hole : Int) (w : World) (hl : xs.length = l) (h100 : l ≤ 100) (hxs : InsR w A1 xs)
    (hn : us.length = n) (h16 : n ≤ 16) (hu : ∀ x ∈ us, x < 18446744073709551616) (hr : UR w A us) :
    Calls Try.prog 3 #[.slice A1 l c1, .slice A n cp, .int .i64 hole] w fun e w' => e = .returned (.bool true) ∧ Nr [] w w' := by
  have F := Lib.hid (fun (W : World) => fit_any W)
  have HU := Lib.hid (And.intro hn (And.intro hu hr))
  have HX := Lib.hid (And.intro hl hxs)
  have g1 : ¬ (100 : Int) < l := by omega
  have g2 : ¬ (16 : Int) < n := by omega
  clear hn hu hr hl hxs
  go_enter Try.func3, Try.ntmps3
  go_wp2_with fail
  refine (F.out _).mono ?_; rintro e w1 ⟨rfl, hf⟩
  have HL := Lib.hid (show ∃ bs : List Nat, w1.ownsRow w.heap.size 5 1 (.slice none 0 0) (8 * 0) (Y bs) ∧ (∀ x ∈ bs, x < 256) ∧ Nr [] w w1 from ⟨[], World.ownsRow_nil _ _ _ _, by simp, hf⟩)
  clear F hf
  go_wp2_with fail
  have h0 : (((0 : Nat) : Int)) = 0 := rfl
  clear g1 g2
  go_loopg [7, 9, 28] l (fun gh bv xv i wr => ∃ k : Nat, k ≤ l ∧ gh = l - k ∧ i = .int .i64 k ∧ Hid (∃ bs : List Nat, wr.ownsRow w.heap.size 5 1 bv (8 * k) (Y bs) ∧ (∀ x ∈ bs, x < 256) ∧ Nr [] w wr))
  case atStart => exact ⟨0, by omega, by omega, rfl, HL⟩
  case round =>
    obtain ⟨k, hk, hg, rfl, hI⟩ := hrel
    clear HL
    by_cases hlt : k < l
    · as_aux_lemma =>
        obtain ⟨x, hx⟩ : ∃ x, xs[k]? = some x := ⟨_, List.getElem?_eq_getElem (by rw [HX.out.1]; exact hlt)⟩
        obtain ⟨b, off, rfl, hb, c0, c1', c2, c3, c4⟩ := HX.out.2 k x hx
        obtain ⟨o, a, bb, d, m⟩ := x
        dsimp only at c0 c1' c2 c3 c4
        obtain ⟨bs, hown, hbs, hnr⟩ := hI.out
        have e := hnr.block b hb (by simp)
        replace c0 := (World.cell?_of_block (w := w) (w' := wr) (a := ⟨b, off + k * 5, none⟩) e).trans c0
        replace c1' := (World.cell?_of_block (w := w) (w' := wr) (a := ⟨b, off + k * 5 + 1, none⟩) e).trans c1'
        replace c2 := (World.cell?_of_block (w := w) (w' := wr) (a := ⟨b, off + k * 5 + 2, none⟩) e).trans c2
        replace c3 := (World.cell?_of_block (w := w) (w' := wr) (a := ⟨b, off + k * 5 + 3, none⟩) e).trans c3
        replace c4 := (World.cell?_of_block (w := w) (w' := wr) (a := ⟨b, off + k * 5 + 4, none⟩) e).trans c4
        have HO := Lib.hid (And.intro hown (And.intro hbs hnr))
        clear hown hbs hnr hI e hx hb
        have a1 := i64_and15 a
        have a2 := i64_and15 bb
        have a3 := i64_and15 d
        obtain ⟨ra, ea⟩ : ∃ ra, (a % 16).toNat = ra := ⟨_, rfl⟩
        obtain ⟨rb, eb⟩ : ∃ rb, (bb % 16).toNat = rb := ⟨_, rfl⟩
        obtain ⟨rd, ed⟩ : ∃ rd, (d % 16).toNat = rd := ⟨_, rfl⟩
        rw [ea] at a1
        rw [eb] at a2
        rw [ed] at a3
        clear ea eb ed
        obtain ⟨X, eX⟩ : ∃ X, wr.heap.size = X := ⟨_, rfl⟩
        obtain ⟨W1, e1⟩ : ∃ W1, wr.alloc (Obj.cells #[.int .i64 o, .int .i64 a, .int .i64 bb, .int .i64 d, .int .i32 m] 27) = W1 := ⟨_, rfl⟩
        have hx1 : W1.heap[X]? = some (Obj.cells #[.int .i64 o, .int .i64 a, .int .i64 bb, .int .i64 d, .int .i32 m] 27) := by rw [← e1, ← eX]; exact heap_alloc_new wr _
        have hb1 : Nr [] wr W1 := by rw [← e1]; exact (Nr.refl _ _).alloc _
        have q1 := cell_of_row _ _ 1 _ 27 (0, 0) hx1
        have q2 := cell_of_row _ _ 2 _ 27 (0, 0) hx1
        have q3 := cell_of_row _ _ 3 _ 27 (0, 0) hx1
        have f1 := frozen_of_row _ _ 1 _ 27 hx1
        have f2 := frozen_of_row _ _ 2 _ 27 hx1
        have f3 := frozen_of_row _ _ 3 _ 27 hx1
        simp only [List.getElem?_toArray, List.getElem?_cons_zero, List.getElem?_cons_succ] at q1 q2 q3
        have HXR := Lib.hid hx1
        have hXr : wr.heap.size ≤ X := by omega
        have HB1 := Lib.hid hb1
        have C := Lib.hid (fun (W : World) => encode_any o ra rb rd m W)
        have HE0 := Lib.hid (byte_enc o ra rb rd m)
        clear hx1 hb1
        go_upto_region 10 with fail
        clear c0 c1' c2 c3 c4 a1 a2 a3 q1 q2 q3 f1 f2 f3 e1
        obtain ⟨W2, e2⟩ : ∃ W2, (((W1.setCell ⟨X, 1, none⟩ (.int .i64 (ra : Nat))).setCell ⟨X, 2, none⟩ (.int .i64 (rb : Nat))).setCell ⟨X, 3, none⟩ (.int .i64 (rd : Nat))) = W2 := ⟨_, rfl⟩
        have hx2 : XS W2 X o ra rb rd m := by
          rw [← e2]
          exact heap_setCell_same _ _ 3 _ 27 (.int .i64 (rd : Nat)) (heap_setCell_same _ _ 2 _ 27 (.int .i64 (rb : Nat)) (heap_setCell_same _ _ 1 _ 27 (.int .i64 (ra : Nat)) HXR.out))
        have hb2 : Nr [] wr W2 := by
          rw [← e2]
          exact ((HB1.out.set (b := X) (.inr hXr) 1 _).set (b := X) (.inr hXr) 2 _).set (b := X) (.inr hXr) 3 _
        rw [e2]
        obtain ⟨x0, x1, x2, x3, x4⟩ := hx2.cells
        have HB2 := Lib.hid hb2
        clear hx2 hb2 e2 HXR HB1 hXr
        go_wp2_with fail
        refine (C.out _).mono ?_; rintro e wq ⟨z, rfl, hbr, hb⟩
        have hnq : Nr [] wr wq := HB2.out.next (Nr.of_below hb)
        obtain ⟨v', w8, hrun, hown8, hgrow⟩ := append_own8 (owned_below HO.out.1 hnq) 25 z 8 8 _ rfl hbr (by omega) (Nat.le_trans HO.out.2.2.size hnq.size)
        have HE := Lib.hid (show ∃ bs : List Nat, w8.ownsRow w.heap.size 5 1 v' (8 * (k + 1)) (Y bs) ∧ (∀ x ∈ bs, x < 256) ∧ Nr [] w w8 from
          ⟨_, hown8, fun x hx => by
            rcases List.mem_append.1 hx with h | h
            · exact HO.out.2.1 x h
            · exact HE0.out x h, (HO.out.2.2.next hnq).own hgrow (fun j hj => (HO.out.1.lt j hj).1)⟩)
        clear hnq hbr hb HO HB2 hown8 hgrow x0 x1 x2 x3 x4 C HE0
        go_wp2_with (at_builtin; refine wpList_append_by rfl _ _ _ _ rfl _ _ _ rfl rfl w8 hrun ?_)
        clear hrun
        go_roundg (l - (k + 1))
        case rel => exact ⟨k + 1, by omega, rfl, by simp, HE⟩
        case measure => first | omega | (simp; omega)
    · as_aux_lemma =>
        obtain rfl : k = l := by omega
        obtain ⟨bs, hown, hbs, hnr⟩ := hI.out
        clear hI HX h0 hlt hg hk
        obtain ⟨r, er⟩ : ∃ r, hole.tmod 2000 = r := ⟨_, rfl⟩
        have r1 : -2000 < r := by rw [← er]; exact (rem2000 hole).1
        have r2 : r < 2000 := by rw [← er]; exact (rem2000 hole).2
        obtain ⟨h, eh⟩ : ∃ h : Nat, (r + 2000).tmod 2000 = (h : Int) := ⟨((r + 2000) % 2000).toNat, by rw [Int.tmod_eq_emod_of_nonneg (by omega)]; omega⟩
        obtain ⟨v1, W2, hrun, hown2, hgrow⟩ := append_zeros8 hown 25 512 (by decide) (by omega) hnr.size
        rw [show ((512 : Nat) : Int) = 512 from rfl] at hrun
        obtain ⟨y, cap, rfl, hby, hcap, hbk⟩ := bk_owned hown2 (by omega)
        have hn2 : Nr [] w W2 := hnr.own hgrow (fun j hj => (hown.lt j hj).1)
        obtain ⟨N, eN⟩ : ∃ N, 8 * k + 512 = N := ⟨_, rfl⟩
        have hN : N ≤ 2000 := by omega
        have hN0 : 0 < N := by omega
        obtain ⟨f, ef⟩ : ∃ f, (fun j => (bs ++ List.replicate 512 0).getD j 0) = f := ⟨_, rfl⟩
        have hf : ∀ i, f i < 256 := by
          intro i
          rw [← ef]
          show (bs ++ List.replicate 512 0).getD i 0 < 256
          rw [List.getD_eq_getElem?_getD]
          cases e : (bs ++ List.replicate 512 0)[i]? with
          | none => exact Nat.zero_lt_succ _
          | some x =>
            rcases List.mem_append.1 (List.mem_of_getElem? e) with h | h
            · exact hbs x h
            · rw [(List.mem_replicate.1 h).2]; exact Nat.zero_lt_succ _
        rw [eN] at hrun hown2 hcap hbk
        rw [ef] at hbk
        have hm := ms_of hbk hcap (by omega) (h : Int)
        have hyg := hbk.lt
        obtain ⟨W3, e3⟩ : ∃ W3, W2.alloc (Obj.cells #[.slice (some ⟨y, 0, none⟩) N cap, .int .i64 (h : Nat)] 31) = W3 := ⟨_, rfl⟩
        have es3 : W3.heap.size = W2.heap.size + 1 := by rw [← e3, World.size_alloc]
        have hn3 : Nr [] w W3 := by rw [← e3]; exact hn2.alloc _
        obtain ⟨g, eg⟩ : ∃ g, W2.heap.size = g := ⟨_, rfl⟩
        rw [e3, eg] at hm
        rw [eg] at es3 hyg
        obtain ⟨v2, W4, hrun2, hown4, hgrow4⟩ := append_own8 (show W3.ownsRow W3.heap.size 5 1 (.slice none 0 0) 0 (Y []) from World.ownsRow_nil _ _ _ _) 25 y N cap ((List.range N).map f) (by simp) hm.bk.br (by omega) (Nat.le_refl _)
        rw [Nat.zero_add, List.nil_append] at hown4
        obtain ⟨y2, cap2, rfl, hy2, hcap2, hbk4⟩ := bk_owned hown4 hN0
        have hbk2 : BK W4 y2 N f := hbk4.same (fun i hi => by
          show ((List.range N).map f).getD i 0 = f i
          rw [List.getD_eq_getElem?_getD, List.getElem?_map, List.getElem?_range hi]; rfl)
        have hn34 : Nr [] W3 W4 := (Nr.refl [] W3).own hgrow4 (by simp [Value.ownBlock])
        have hm4 := hm.nr hn34 (by simp) (by simp)
        have hn4 := hn3.next hn34
        have hm2 := ms_of hbk2 hcap2 (by omega) (h : Int)
        have hyg2 := hbk2.lt
        obtain ⟨W5, e5⟩ : ∃ W5, W4.alloc (Obj.cells #[.slice (some ⟨y2, 0, none⟩) N cap2, .int .i64 (h : Nat)] 31) = W5 := ⟨_, rfl⟩
        have es5 : W5.heap.size = W4.heap.size + 1 := by rw [← e5, World.size_alloc]
        have hn45 : Nr [] W4 W5 := by rw [← e5]; exact (Nr.refl _ _).alloc _
        obtain ⟨g2, eg2⟩ : ∃ g2, W4.heap.size = g2 := ⟨_, rfl⟩
        rw [e5, eg2] at hm2
        rw [eg2] at es5 hyg2
        have hm5 := hm4.nr hn45 (by simp) (by simp)
        have hn5 := hn4.next hn45
        obtain ⟨W6, e6⟩ : ∃ W6, W5.alloc (Obj.cells (rl (fun _ => 0) 0).toArray 35) = W6 := ⟨_, rfl⟩
        obtain ⟨c, ec⟩ : ∃ c, W5.heap.size = c := ⟨_, rfl⟩
        have es6 : W6.heap.size = W5.heap.size + 1 := by rw [← e6, World.size_alloc]
        have hc6 : CS W6 c 35 (fun _ => 0) 0 := by rw [← e6, ← ec]; exact heap_alloc_new W5 _
        have hn56 : Nr [] W5 W6 := by rw [← e6]; exact (Nr.refl _ _).alloc _
        obtain ⟨W7, e7⟩ : ∃ W7, W6.alloc (Obj.cells (rl (fun _ => 0) 0).toArray 36) = W7 := ⟨_, rfl⟩
        obtain ⟨d, ed⟩ : ∃ d, W6.heap.size = d := ⟨_, rfl⟩
        have hd7 : CS W7 d 36 (fun _ => 0) 0 := by rw [← e7, ← ed]; exact heap_alloc_new W6 _
        have hn67 : Nr [] W6 W7 := by rw [← e7]; exact (Nr.refl _ _).alloc _
        have hn57 := hn56.next hn67
        obtain ⟨w8, hrun8, hc8, ht8⟩ := copy_core (hc6.nr hn67 (by simp)) 3 A n cp us HU.out.1 h16 (HU.out.2.2.nr (hn5.next hn57))
        have hcd : c ≠ d := by omega
        have hn8 : Nr [c] W7 w8 := Nr.of_turn ht8
        have hd8 := hd7.nr hn8 (by simpa using fun e => hcd e.symm)
        have hwc : w.heap.size ≤ c := by rw [← ec]; exact hn5.size
        have hwd : w.heap.size ≤ d := by omega
        have hw8 : Nr [] w w8 := (hn5.next hn57).trans hn8 (by simpa using hwc)
        obtain ⟨w9, hrun9, hd9, ht9⟩ := copy_core hd8 3 A n cp us HU.out.1 h16 (HU.out.2.2.nr hw8)
        have hn9 : Nr [d] w8 w9 := Nr.of_turn ht9
        have hc9 := hc8.nr hn9 (by simpa using hcd)
        have hw9 : Nr [] w w9 := hw8.trans hn9 (by simpa using hwd)
        have D := Lib.hid (show y < g ∧ g < y2 ∧ y2 < g2 ∧ g2 < c ∧ c < d ∧ w.heap.size ≤ y ∧ w.heap.size ≤ y2 from ⟨hyg, by omega, hyg2, by omega, by omega, hby, by have := hn3.size; omega⟩)
        have hm9 : MS w9 g y N h f := ((hm5.nr hn57 (by simp) (by simp)).nr hn8 (by have := D.out; simp; omega) (by have := D.out; simp; omega)).nr hn9 (by have := D.out; simp; omega) (by have := D.out; simp; omega)
        have hq9 : MS w9 g2 y2 N h f := ((hm2.nr hn57 (by simp) (by simp)).nr hn8 (by have := D.out; simp; omega) (by have := D.out; simp; omega)).nr hn9 (by have := D.out; simp; omega) (by have := D.out; simp; omega)
        obtain ⟨capm, km, _⟩ := hm.cells
        have e6' : W5.alloc (Obj.cells #[.int .u64 0, .int .u64 0, .int .u64 0, .int .u64 0, .int .u64 0, .int .u64 0, .int .u64 0, .int .u64 0, .int .u64 0, .int .u64 0, .int .u64 0, .int .u64 0, .int .u64 0, .int .u64 0, .int .u64 0, .int .u64 0, .int .u64 0] 35) = W6 := e6
        have e7' : W6.alloc (Obj.cells #[.int .u64 0, .int .u64 0, .int .u64 0, .int .u64 0, .int .u64 0, .int .u64 0, .int .u64 0, .int .u64 0, .int .u64 0, .int .u64 0, .int .u64 0, .int .u64 0, .int .u64 0, .int .u64 0, .int .u64 0, .int .u64 0, .int .u64 0] 36) = W7 := e7
        have hQ : ∀ i, Cor.fill us (fun _ => 0) i < 18446744073709551616 := Cor.fill_lt (fun _ => Nat.zero_lt_succ _) HU.out.2.1
        have HL := Lib.hid (show ∃ s : Cor.S, Cor.Ok s ∧ CS w9 c 35 s.R s.pc ∧ MS w9 g y N h s.f ∧ CS w9 d 36 s.R s.pc ∧ MS w9 g2 y2 N h s.f ∧ Nr [] w w9 from
          ⟨⟨Cor.fill us (fun _ => 0), 0, f⟩, ⟨hQ, Nat.zero_lt_succ _, hf⟩, hc9, hm9, hd9, hq9, hw9⟩)
        clear hQ hm9 hq9 hc9 hd9 hw9 hw8 hn9 hn8 hd8 ht9 ht8 hc8 hn57 hn67 hd7 hn56 hc6 hn5 hn45 hm5 hm4 hm2 hn34 hn4 hn3 hn2 hown hown2 hown4 hgrow hgrow4 hbk hbk2 hbk4 hm e6 e7 hf ef hbs hnr hwc hwd hcd HU es3 es5 es6
        go_upto_region 14 with (at_builtin; refine wpList_append_by rfl _ _ _ _ rfl _ _ _ rfl rfl W2 hrun ?_)
        go_upto_region 15 with (at_builtin; refine wpList_append_by rfl _ _ _ _ rfl _ _ _ rfl rfl W4 hrun2 ?_)
        go_upto_region 19 with fail
        have HL2 := HL
        clear hrun hrun2 hrun8 hrun9 e3 e5 e6' e7' km eg eg2 ec ed er r1 r2 eh eN hcap hcap2 hby hyg hyg2 hy2 hN0 HL
        have hcg : c ≠ g := by have := D.out; omega
        have hcy : c ≠ y := by have := D.out; omega
        have hdg : d ≠ g2 := by have := D.out; omega
        have hdy : d ≠ y2 := by have := D.out; omega
        have h0 : (((0 : Nat) : Int)) = 0 := rfl
        go_wp2_with fail
        go_loopg [14, 15, 74] 200 (fun gh xv yv i wr => ∃ t : Nat, t ≤ 200 ∧ gh = 200 - t ∧ i = .int .i64 t ∧ Hid (∃ s : Cor.S, Cor.Ok s ∧ CS wr c 35 s.R s.pc ∧ MS wr g y N h s.f ∧ CS wr d 36 s.R s.pc ∧ MS wr g2 y2 N h s.f ∧ Nr [] w wr))
        case atStart => exact ⟨0, by omega, by omega, rfl, HL2⟩
        case round =>
          obtain ⟨t, ht, hg, rfl, hI⟩ := hrel
          clear HL2
          by_cases hlt : t < 200
          · as_aux_lemma =>
              obtain ⟨s, hok, h1, h2, h3, h4, h5⟩ := hI.out
              have S1 := Lib.hid (step_any (s := s) _ h1 h2 hok hcg hcy)
              have S2 := Lib.hid (fun (W : World) (hd : CS W d 36 s.R s.pc) (hm : MS W g2 y2 N h s.f) => lstep_any (s := s) W hd hm hok hdg hdy)
              have H0 := Lib.hid (And.intro h3 (And.intro h4 h5))
              have hsk := Cor.stp_ok N h s hok
              obtain ⟨⟨Q, pc, f2⟩, r2, hs⟩ : ∃ (s2 : Cor.S) (r2 : Int), Cor.stp N h s = (s2, r2) := ⟨_, _, rfl⟩
              rw [hs] at S1 S2 hsk
              have HK := Lib.hid hsk
              clear hI h1 h2 h3 h4 h5 hs hsk
              unfold IV at S1
              go_wp2_with fail
              refine S1.out.mono ?_; rintro e w10 ⟨rfl, a1, a2, a3⟩
              have T2 := Lib.hid (S2.out w10 (H0.out.1.nr a3 (by have := D.out; simp; omega)) (H0.out.2.1.nr a3 (by have := D.out; simp; omega) (by have := D.out; simp; omega)))
              have H1 := Lib.hid (And.intro a1 (And.intro a2 (H0.out.2.2.trans a3 (by intro x hx; have := D.out; simp only [List.mem_cons, List.mem_nil_iff, or_false] at hx; rcases hx with rfl | rfl <;> (right; omega)))))
              clear S1 S2 a1 a2 a3 H0
              go_wp2_with fail
              refine T2.out.mono ?_; rintro e w11 ⟨rfl, a1, a2, a3⟩
              dsimp only at a1 a2
              have H2 := Lib.hid (show CS w11 c 35 Q pc ∧ MS w11 g y N h f2 ∧ CS w11 d 36 Q pc ∧ MS w11 g2 y2 N h f2 ∧ Nr [] w w11 from
                ⟨H1.out.1.nr a3 (by have := D.out; simp; omega), H1.out.2.1.nr a3 (by have := D.out; simp; omega) (by have := D.out; simp; omega), a1, a2,
                  H1.out.2.2.trans a3 (by intro x hx; have := D.out; simp only [List.mem_cons, List.mem_nil_iff, or_false] at hx; rcases hx with rfl | rfl <;> (right; omega))⟩)
              clear a1 a2 a3 T2 H1
              go_upto_region 22 with fail
              obtain ⟨cap1, km1, _⟩ := H2.out.2.1.cells
              obtain ⟨cap2, km2, _⟩ := H2.out.2.2.2.1.cells
              obtain ⟨ST, eS⟩ : ∃ ST, Str ((List.range N).map f2) = ST := ⟨_, rfl⟩
              have K1 := Lib.hid (fun p : Nearby w11 => (H2.out.1.nr p.near (by simp)).all)
              have K2 := Lib.hid (fun p : Nearby w11 => (H2.out.2.2.1.nr p.near (by simp)).all)
              have n1 : ∀ p : Nearby w11, p.W.cell? ⟨g, 0, none⟩ = some (.slice (some ⟨y, 0, none⟩) N cap1) := fun p => by rw [World.cell?_of_block (w := w11) (p.near.block g (block_lt_of_cell km1) (by simp))]; exact km1
              have n2 : ∀ p : Nearby w11, p.W.cell? ⟨g2, 0, none⟩ = some (.slice (some ⟨y2, 0, none⟩) N cap2) := fun p => by rw [World.cell?_of_block (w := w11) (p.near.block g2 (block_lt_of_cell km2) (by simp))]; exact km2
              have v1 : ∀ p : Nearby w11, (convert 25 9 (.slice (some ⟨y, 0, none⟩) N cap1)).run Try.prog p.W = .ok (.string ST) p.W := fun p => by rw [← eS]; exact conv_bytes p.W (some ⟨y, 0, none⟩) N cap1 _ (by simp) (H2.out.2.1.nr p.near (by simp) (by simp)).bk.br
              have v2 : ∀ p : Nearby w11, (convert 25 9 (.slice (some ⟨y2, 0, none⟩) N cap2)).run Try.prog p.W = .ok (.string ST) p.W := fun p => by rw [← eS]; exact conv_bytes p.W (some ⟨y2, 0, none⟩) N cap2 _ (by simp) (H2.out.2.2.2.1.nr p.near (by simp) (by simp)).bk.br
              have qa : ∀ p : Nearby w11, (Op.equalIn 10000 33 (.agg #[.int .u64 (Q 0 : Nat), .int .u64 (Q 1 : Nat), .int .u64 (Q 2 : Nat), .int .u64 (Q 3 : Nat), .int .u64 (Q 4 : Nat), .int .u64 (Q 5 : Nat), .int .u64 (Q 6 : Nat), .int .u64 (Q 7 : Nat), .int .u64 (Q 8 : Nat), .int .u64 (Q 9 : Nat), .int .u64 (Q 10 : Nat), .int .u64 (Q 11 : Nat), .int .u64 (Q 12 : Nat), .int .u64 (Q 13 : Nat), .int .u64 (Q 14 : Nat), .int .u64 (Q 15 : Nat)]) (.agg #[.int .u64 (Q 0 : Nat), .int .u64 (Q 1 : Nat), .int .u64 (Q 2 : Nat), .int .u64 (Q 3 : Nat), .int .u64 (Q 4 : Nat), .int .u64 (Q 5 : Nat), .int .u64 (Q 6 : Nat), .int .u64 (Q 7 : Nat), .int .u64 (Q 8 : Nat), .int .u64 (Q 9 : Nat), .int .u64 (Q 10 : Nat), .int .u64 (Q 11 : Nat), .int .u64 (Q 12 : Nat), .int .u64 (Q 13 : Nat), .int .u64 (Q 14 : Nat), .int .u64 (Q 15 : Nat)])).run Try.prog p.W = .ok true p.W := fun p => equal_arr Q HK.out.R p.W 9996
              have cA0 := fun p : Nearby w11 => (K1.out p).1
              have cA1 := fun p : Nearby w11 => (K1.out p).2.1
              have cA2 := fun p : Nearby w11 => (K1.out p).2.2.1
              have cA3 := fun p : Nearby w11 => (K1.out p).2.2.2.1
              have cA4 := fun p : Nearby w11 => (K1.out p).2.2.2.2.1
              have cA5 := fun p : Nearby w11 => (K1.out p).2.2.2.2.2.1
              have cA6 := fun p : Nearby w11 => (K1.out p).2.2.2.2.2.2.1
              have cA7 := fun p : Nearby w11 => (K1.out p).2.2.2.2.2.2.2.1
              have cA8 := fun p : Nearby w11 => (K1.out p).2.2.2.2.2.2.2.2.1
              have cA9 := fun p : Nearby w11 => (K1.out p).2.2.2.2.2.2.2.2.2.1
              have cA10 := fun p : Nearby w11 => (K1.out p).2.2.2.2.2.2.2.2.2.2.1
              have cA11 := fun p : Nearby w11 => (K1.out p).2.2.2.2.2.2.2.2.2.2.2.1
              have cA12 := fun p : Nearby w11 => (K1.out p).2.2.2.2.2.2.2.2.2.2.2.2.1
              have cA13 := fun p : Nearby w11 => (K1.out p).2.2.2.2.2.2.2.2.2.2.2.2.2.1
              have cA14 := fun p : Nearby w11 => (K1.out p).2.2.2.2.2.2.2.2.2.2.2.2.2.2.1
              have cA15 := fun p : Nearby w11 => (K1.out p).2.2.2.2.2.2.2.2.2.2.2.2.2.2.2.1
              have cA16 := fun p : Nearby w11 => (K1.out p).2.2.2.2.2.2.2.2.2.2.2.2.2.2.2.2
              have cB0 := fun p : Nearby w11 => (K2.out p).1
              have cB1 := fun p : Nearby w11 => (K2.out p).2.1
              have cB2 := fun p : Nearby w11 => (K2.out p).2.2.1
              have cB3 := fun p : Nearby w11 => (K2.out p).2.2.2.1
              have cB4 := fun p : Nearby w11 => (K2.out p).2.2.2.2.1
              have cB5 := fun p : Nearby w11 => (K2.out p).2.2.2.2.2.1
              have cB6 := fun p : Nearby w11 => (K2.out p).2.2.2.2.2.2.1
              have cB7 := fun p : Nearby w11 => (K2.out p).2.2.2.2.2.2.2.1
              have cB8 := fun p : Nearby w11 => (K2.out p).2.2.2.2.2.2.2.2.1
              have cB9 := fun p : Nearby w11 => (K2.out p).2.2.2.2.2.2.2.2.2.1
              have cB10 := fun p : Nearby w11 => (K2.out p).2.2.2.2.2.2.2.2.2.2.1
              have cB11 := fun p : Nearby w11 => (K2.out p).2.2.2.2.2.2.2.2.2.2.2.1
              have cB12 := fun p : Nearby w11 => (K2.out p).2.2.2.2.2.2.2.2.2.2.2.2.1
              have cB13 := fun p : Nearby w11 => (K2.out p).2.2.2.2.2.2.2.2.2.2.2.2.2.1
              have cB14 := fun p : Nearby w11 => (K2.out p).2.2.2.2.2.2.2.2.2.2.2.2.2.2.1
              have cB15 := fun p : Nearby w11 => (K2.out p).2.2.2.2.2.2.2.2.2.2.2.2.2.2.2.1
              have cB16 := fun p : Nearby w11 => (K2.out p).2.2.2.2.2.2.2.2.2.2.2.2.2.2.2.2
              clear K1 K2 km1 km2 eS
              refine wp_region_near (by kernel_rfl) (by kernel_rfl) ?_
              repeat (quiet_step (fail))
              refine wpQuiet_nil ?_
              intro _ hw'
              obtain ⟨p, hw''⟩ := hw'
              subst hw''
              obtain ⟨W12, hp⟩ := p
              have HE := Lib.hid (show ∃ s : Cor.S, Cor.Ok s ∧ CS W12 c 35 s.R s.pc ∧ MS W12 g y N h s.f ∧ CS W12 d 36 s.R s.pc ∧ MS W12 g2 y2 N h s.f ∧ Nr [] w W12 from
                ⟨⟨Q, pc, f2⟩, HK.out, H2.out.1.nr hp (by simp), H2.out.2.1.nr hp (by simp) (by simp), H2.out.2.2.1.nr hp (by simp), H2.out.2.2.2.1.nr hp (by simp) (by simp), H2.out.2.2.2.2.next hp⟩)
              dsimp only
              clear H2 HK n1 n2 v1 v2 qa hp cA0 cB0 cA1 cB1 cA2 cB2 cA3 cB3 cA4 cB4 cA5 cB5 cA6 cB6 cA7 cB7 cA8 cB8 cA9 cB9 cA10 cB10 cA11 cB11 cA12 cB12 cA13 cB13 cA14 cB14 cA15 cB15 cA16 cB16
              as_aux_lemma =>
                by_cases hr : 1 < r2
                · go_wp2_with fail
                  go_ret
                  obtain ⟨_, _, _, _, _, _, hN⟩ := HE.out
                  exact ⟨rfl, hN⟩
                · go_wp2_with fail
                  go_roundg (200 - (t + 1))
                  case rel => exact ⟨t + 1, by omega, rfl, by simp, HE⟩
                  case measure => first | omega | (simp; omega)
          · as_aux_lemma =>
              obtain ⟨s, hok, h1, h2, h3, h4, h5⟩ := hI.out
              have HN := Lib.hid h5
              clear h1 h2 h3 h4 h5 hok hI
              go_wp2_with fail
              go_ret
              exact ⟨rfl, HN.out⟩
end Go.Proofs.Ytojnokaeopadfaa
-- with Td
set_option linter.unusedVariables false
set_option linter.unusedSimpArgs false
namespace Go.Proofs.Ytojnokaeopadfaa
open Go.ChangeShapes Go.WideShapes Go.ChangeAt Go.RowKit Go.Joins
/-- Instructions, as an argument has them. -/
def CameI (w : World) (v : Value) : Prop := ∃ (A : Option Addr) (n c : Nat), v = .slice A n c ∧ (100 < n ∨ ∃ xs : List Cor.In, xs.length = n ∧ n ≤ 100 ∧ InsR w A xs)
section
variable {H : Type} {enc : TypeId × Value → H} {W : World} {base : Nat} {spare : Nat → Bool} {held : Bool}
theorem cells_i64 : Try.prog.cellsOf 3 = 1 := by kernel_rfl
theorem cells_i32 : Try.prog.cellsOf 21 = 1 := by kernel_rfl
set_option maxRecDepth 100000 in
theorem ins_of {fuel : Nat} {cs : List Value} {y : DataW H × List MemPlace} (h : DataW.trod enc Try.prog W 0 (fun _ => true) true fuel 27 cs = some y) (hl : cs.length = 5) :
    ∃ x : Cor.In, cs = [.int .i64 x.o, .int .i64 x.a, .int .i64 x.b, .int .i64 x.c, .int .i32 x.m] := by
  obtain ⟨xs, m, _, _, _, hx, hg⟩ := DataW.trod_struct Try.underlying27 h
  have g0 : DataW.trod enc Try.prog W 0 (fun _ => true) true m 3 ((cs.drop 0).take (Try.prog.cellsOf 3)) = xs[0]? := hg 0 _ rfl
  have g1 : DataW.trod enc Try.prog W 0 (fun _ => true) true m 3 ((cs.drop 1).take (Try.prog.cellsOf 3)) = xs[1]? := hg 1 _ rfl
  have g2 : DataW.trod enc Try.prog W 0 (fun _ => true) true m 3 ((cs.drop 2).take (Try.prog.cellsOf 3)) = xs[2]? := hg 2 _ rfl
  have g3 : DataW.trod enc Try.prog W 0 (fun _ => true) true m 3 ((cs.drop 3).take (Try.prog.cellsOf 3)) = xs[3]? := hg 3 _ rfl
  have g4 : DataW.trod enc Try.prog W 0 (fun _ => true) true m 21 ((cs.drop 4).take (Try.prog.cellsOf 21)) = xs[4]? := hg 4 _ rfl
  rw [cells_i64] at g0 g1 g2 g3
  rw [cells_i32] at g4
  match cs, hl, xs, hx with
  | [x0, x1, x2, x3, x4], _, [y0, y1, y2, y3, y4], _ =>
    obtain ⟨k, e0, _, w0⟩ := DataW.trod_int Try.underlying3 (x := y0) (by simpa using g0)
    obtain ⟨f, e1, _, w1⟩ := DataW.trod_int Try.underlying3 (x := y1) (by simpa using g1)
    obtain ⟨o, e2, _, w2⟩ := DataW.trod_int Try.underlying3 (x := y2) (by simpa using g2)
    obtain ⟨n, e3, _, w3⟩ := DataW.trod_int Try.underlying3 (x := y3) (by simpa using g3)
    obtain ⟨u, e4, _, w4⟩ := DataW.trod_int Try.underlying21 (x := y4) (by simpa using g4)
    simp at e0 e1 e2 e3 e4
    subst e0 e1 e2 e3 e4
    exact ⟨⟨k, f, o, n, u⟩, rfl⟩
set_option maxRecDepth 100000 in
theorem open_inss {v : Value} {d : DataW H} {p : List MemPlace} (hv : Value.okWide Try.prog W .any base 22 v) (h : DataW.Trod enc Try.prog W 0 (fun _ => true) true 22 v d p) : CameI W v := by
  obtain ⟨a0, len, cap, rfl⟩ := okWide_slice Try.underlying22 hv
  obtain ⟨fuel, h⟩ := h
  rcases DataW.trod_slice Try.underlying22 h with ⟨hcs, hx⟩ | ⟨a, len', cap', elems, rest, m, _, hcs, hx, hb, hl, hm, hlen, hel, _, _⟩
  · simp [Value.cells] at hcs; obtain ⟨rfl, rfl, rfl⟩ := hcs
    exact ⟨_, _, _, rfl, .inr ⟨[], rfl, by omega, fun i q hi => by simp at hi⟩⟩
  · simp [Value.cells] at hcs; obtain ⟨rfl, el, ec⟩ := hcs; subst el ec
    refine ⟨_, _, _, rfl, ?_⟩
    by_cases hbig : 100 < len
    · exact .inl hbig
    · right
      rw [cells23] at hel
      obtain ⟨b, off, spot⟩ := a
      have hspot : 0 < len → spot = none := by
        intro h0
        have hei := hel 0 h0
        rw [show elems[0]? = some (elems[0]'(by omega)) from List.getElem?_eq_getElem (by omega)] at hei
        obtain ⟨cs, hcs, htr⟩ := Option.bind_eq_some_iff.1 hei
        obtain ⟨_, hcl, hcell⟩ := World.cells?_some hcs
        have hc0 := hcell 0 (by omega)
        rw [List.getElem?_eq_getElem (by omega)] at hc0
        simpa [Addr.add] using World.cell?_spot hc0
      have each : ∀ i, ∃ x : Cor.In, i < len → b < W.heap.size ∧
          W.cell? ⟨b, off + i * 5, none⟩ = some (.int .i64 x.o) ∧ W.cell? ⟨b, off + i * 5 + 1, none⟩ = some (.int .i64 x.a) ∧ W.cell? ⟨b, off + i * 5 + 2, none⟩ = some (.int .i64 x.b) ∧ W.cell? ⟨b, off + i * 5 + 3, none⟩ = some (.int .i64 x.c) ∧ W.cell? ⟨b, off + i * 5 + 4, none⟩ = some (.int .i32 x.m) := by
        intro i
        by_cases hi : i < len
        · have hei := hel i hi
          obtain ⟨y, hy⟩ : ∃ y, elems[i]? = some y := ⟨_, List.getElem?_eq_getElem (by omega)⟩
          rw [hy] at hei
          obtain ⟨cs, hcs, htr⟩ := Option.bind_eq_some_iff.1 hei
          obtain ⟨_, hcl, hcell⟩ := World.cells?_some hcs
          obtain ⟨x, rfl⟩ := ins_of htr hcl
          obtain rfl := hspot (by omega)
          have c0 := hcell 0 (by omega)
          have c1 := hcell 1 (by omega)
          have c2 := hcell 2 (by omega)
          have c3 := hcell 3 (by omega)
          have c4 := hcell 4 (by omega)
          simp only [addr_add] at c0 c1 c2 c3 c4
          have c0' : W.cell? ⟨b, off + i * 5, none⟩ = some (.int .i64 x.o) := by simpa using c0
          exact ⟨x, fun _ => ⟨block_lt_of_cell c0', c0', by simpa using c1, by simpa using c2, by simpa using c3, by simpa using c4⟩⟩
        · exact ⟨⟨0, 0, 0, 0, 0⟩, fun h => absurd h hi⟩
      obtain ⟨g, hg⟩ := Classical.axiomOfChoice each
      refine ⟨(List.range len).map g, by simp, by omega, fun i q hp => ?_⟩
      have hi : i < len := by have := (List.getElem?_eq_some_iff.1 hp).1; simpa using this
      have hpi : g i = q := by simpa [hi] using hp
      obtain ⟨h1, h2⟩ := hg i hi
      rw [hpi] at h2
      exact ⟨b, off, by rw [hspot (by omega)], h1, h2⟩
end
theorem steps_law (v1 v2 : Value) (hole : Int) (w : World) (h1 : CameI w v1) (h2 : CameU w v2) :
    Calls Try.prog 3 #[v1, v2, .int .i64 hole] w fun e w' => e = .returned (.bool true) ∧ Nr [] w w' := by
  obtain ⟨A1, l, c1, rfl, h | ⟨xs, a1, a2, a3⟩⟩ := h1
  · obtain ⟨A, n, cp, rfl, _⟩ := h2
    exact steps_many A1 l c1 A n cp hole w (.inl h)
  · obtain ⟨A, n, cp, rfl, h | ⟨us, b1, b2, b3, b4⟩⟩ := h2
    · exact steps_many A1 l c1 A n cp hole w (.inr h)
    · exact steps_all A1 l c1 xs A n cp us hole w a1 a2 a3 b1 b2 b4 b3
end Go.Proofs.Ytojnokaeopadfaa
