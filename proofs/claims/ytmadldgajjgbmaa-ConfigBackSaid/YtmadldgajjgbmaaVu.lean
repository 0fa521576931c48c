/- What came in: the openers. -/
import Derived.Test.YtmadldgajjgbmaaVt
set_option linter.unusedVariables false
set_option linter.unusedSimpArgs false
namespace Go.Proofs.Ytmadldgajjgbmaa
open Go.ChangeShapes Go.WideShapes Go.ChangeAt Go.RowKit Go.Joins
set_option linter.unusedVariables false
set_option linter.unusedSimpArgs false
set_option maxRecDepth 100000
section
variable {H : Type} {enc : TypeId × Value → H} {W : World} {base : Nat} {spare : Nat → Bool} {held : Bool}
theorem byte_of {fuel : Nat} {cs : List Value} {y : DataW H × List MemPlace} (h : DataW.trod enc Try.prog W 0 (fun _ => true) true fuel 5 cs = some y) : ∃ x : Nat, x < 256 ∧ cs = [inB x] := by
  obtain ⟨x, e0, _, wx⟩ := DataW.trod_int Try.underlying5 h
  have := bounds_u8 wx
  exact ⟨x.toNat, by omega, by rw [e0]; unfold inB; rw [Int.toNat_of_nonneg this.1]⟩
theorem slot_of {fuel : Nat} {cs : List Value} {y : DataW H × List MemPlace} (h : DataW.trod enc Try.prog W 0 (fun _ => true) true fuel 49 cs = some y) (hl : cs.length = 2) : ∃ x : Sl, x.Ok ∧ cs = encSl x := by
  obtain ⟨xs, m, _, _, _, hx, hg⟩ := DataW.trod_struct Try.underlying49 h
  have g0 : DataW.trod enc Try.prog W 0 (fun _ => true) true m 47 ((cs.drop 0).take (Try.prog.cellsOf 47)) = xs[0]? := hg 0 _ rfl
  have g1 : DataW.trod enc Try.prog W 0 (fun _ => true) true m 3 ((cs.drop 1).take (Try.prog.cellsOf 3)) = xs[1]? := hg 1 _ rfl
  simp only [cellsU, cellsI] at g0 g1
  match cs, hl, xs, hx with
  | [x0, x1], _, [y0, y1], _ =>
    obtain ⟨k, e0, _, w0⟩ := DataW.trod_int Try.underlying47 (x := y0) (by simpa using g0)
    obtain ⟨p, e1, _, w1⟩ := DataW.trod_int Try.underlying3 (x := y1) (by simpa using g1)
    simp at e0 e1
    subst e0 e1
    have b0 := bounds_u64 w0
    refine ⟨⟨k.toNat, p⟩, ⟨by show (k.toNat : Int) ≤ _; omega, bounds_i64 w1⟩, ?_⟩
    simp only [encSl, inU]
    rw [Int.toNat_of_nonneg b0.1]
theorem map_of {fuel : Nat} {cs : List Value} {y : DataW H × List MemPlace} (h : DataW.trod enc Try.prog W 0 (fun _ => true) true fuel 93 cs = some y) (hl : cs.length = 5) : ∃ x : Mp, x.Ok ∧ cs = encM x := by
  obtain ⟨xs, m, _, _, _, hx, hg⟩ := DataW.trod_struct Try.underlying93 h
  have g0 : DataW.trod enc Try.prog W 0 (fun _ => true) true m 3 ((cs.drop 0).take (Try.prog.cellsOf 3)) = xs[0]? := hg 0 _ rfl
  have g1 : DataW.trod enc Try.prog W 0 (fun _ => true) true m 47 ((cs.drop 1).take (Try.prog.cellsOf 47)) = xs[1]? := hg 1 _ rfl
  have g2 : DataW.trod enc Try.prog W 0 (fun _ => true) true m 3 ((cs.drop 2).take (Try.prog.cellsOf 3)) = xs[2]? := hg 2 _ rfl
  have g3 : DataW.trod enc Try.prog W 0 (fun _ => true) true m 3 ((cs.drop 3).take (Try.prog.cellsOf 3)) = xs[3]? := hg 3 _ rfl
  have g4 : DataW.trod enc Try.prog W 0 (fun _ => true) true m 4 ((cs.drop 4).take (Try.prog.cellsOf 4)) = xs[4]? := hg 4 _ rfl
  simp only [cellsU, cellsI, cellsBo] at g0 g1 g2 g3 g4
  match cs, hl, xs, hx with
  | [x0, x1, x2, x3, x4], _, [y0, y1, y2, y3, y4], _ =>
    obtain ⟨k, e0, _, w0⟩ := DataW.trod_int Try.underlying3 (x := y0) (by simpa using g0)
    obtain ⟨p, e1, _, w1⟩ := DataW.trod_int Try.underlying47 (x := y1) (by simpa using g1)
    obtain ⟨q, e2, _, w2⟩ := DataW.trod_int Try.underlying3 (x := y2) (by simpa using g2)
    obtain ⟨r, e3, _, w3⟩ := DataW.trod_int Try.underlying3 (x := y3) (by simpa using g3)
    obtain ⟨s, e4, _⟩ := DataW.trod_bool Try.underlying4 (x := y4) (by simpa using g4)
    simp at e0 e1 e2 e3 e4
    subst e0 e1 e2 e3 e4
    have b1 := bounds_u64 w1
    refine ⟨⟨k, p.toNat, q, r, s⟩, ⟨bounds_i64 w0, by show (p.toNat : Int) ≤ _; omega, bounds_i64 w2, bounds_i64 w3⟩, ?_⟩
    simp only [encM, inU]
    rw [Int.toNat_of_nonneg b1.1]
theorem ints_of {fuel : Nat} {v1 : Value} {y1 : DataW H × List MemPlace} (h1 : DataW.trod enc Try.prog W 0 (fun _ => true) true fuel 55 [v1] = some y1) (hz : ∀ n ∈ y1.1.weights Try.prog 55, n ≤ reachBytes) : ∃ ls, IntsL W v1 ls := by
  obtain ⟨A, l, c, xs, rfl, hlc, hcm, hxl, hb, hr, _⟩ := row_of (sz := 1) Try.underlying55 cellsI (by omega) (fun x : Int => [.int .i64 x]) (fun _ => rfl) (fun _ => True) 0 (fun fuel cs y h hl _ => by
    obtain ⟨x, e0, _, _⟩ := DataW.trod_int Try.underlying3 h
    exact ⟨x, trivial, e0⟩) h1 hz
  rw [bytesI] at hb
  unfold reachBytes at hb
  by_cases h0 : l = 0
  · subst h0
    obtain rfl := List.length_eq_zero_iff.1 hxl
    exact ⟨[], .inl ⟨⟨A, c, rfl⟩, rfl⟩⟩
  · obtain ⟨b, off, rfl⟩ := hr.some_ (by omega)
    refine ⟨xs, .inr ⟨b, off, c, l, rfl, hxl, by omega, ?_, fun i x hi => ?_⟩⟩
    · have := hr.at_ (i := 0) (j := 0) (x := xs[0]'(by omega)) (u := .int .i64 (xs[0]'(by omega))) (List.getElem?_eq_getElem _) rfl
      exact lt_of_cell this
    · have := hr.at_ (j := 0) hi (u := .int .i64 x) rfl
      simpa using this
theorem bytes_of {fuel : Nat} {v1 : Value} {y1 : DataW H × List MemPlace} (h1 : DataW.trod enc Try.prog W 0 (fun _ => true) true fuel 33 [v1] = some y1) (hz : ∀ n ∈ y1.1.weights Try.prog 33, n ≤ reachBytes) : ∃ xs, BRd W v1 xs := by
  obtain ⟨A, l, c, xs, rfl, hlc, hcm, hxl, hb, hr, hq⟩ := row_of (sz := 1) Try.underlying33 cellsB (by omega) (fun x : Nat => [inB x]) (fun _ => rfl) (fun x => x < 256) 0 (fun fuel cs y h hl _ => byte_of h) h1 hz
  rw [bytesB] at hb
  unfold reachBytes at hb
  refine ⟨xs, A, l, c, rfl, hlc, hcm, hxl, by omega, fun i x hi => ?_, hq⟩
  obtain ⟨b, off, e, h2, h3⟩ := hr i x hi
  exact ⟨b, off, e, h2, by have := h3 0 (inB x) rfl; simpa using this⟩
theorem maps_of {fuel : Nat} {v1 : Value} {y1 : DataW H × List MemPlace} (h1 : DataW.trod enc Try.prog W 0 (fun _ => true) true fuel 42 [v1] = some y1) (hz : ∀ n ∈ y1.1.weights Try.prog 42, n ≤ reachBytes) : ∃ xs, MRd W v1 xs := by
  obtain ⟨A, l, c, xs, rfl, hlc, hcm, hxl, hb, hr, hq⟩ := row_of Try.underlying42 cellsM (by omega) encM (fun _ => rfl) Mp.Ok ⟨0, 0, 0, 0, false⟩ (fun fuel cs y h hl _ => map_of h hl) h1 hz
  rw [bytesM] at hb
  unfold reachBytes at hb
  exact ⟨xs, A, l, c, rfl, hlc, hcm, hxl, by omega, hr, hq⟩
theorem lseed_of {fuel : Nat} {c0 c1 : Value} {y : DataW H × List MemPlace} (h : DataW.trod enc Try.prog W 0 (fun _ => true) true fuel 57 [c0, c1] = some y) (hz : ∀ n ∈ y.1.weights Try.prog 57, n ≤ reachBytes) : ∃ (S : Int) (ls : List Int), c0 = .int .i64 S ∧ IntsL W c1 ls := by
  obtain ⟨xs, m, _, hxd, _, hx, hg⟩ := DataW.trod_struct Try.underlying57 h
  have g0 : DataW.trod enc Try.prog W 0 (fun _ => true) true m 3 (([c0, c1].drop 0).take (Try.prog.cellsOf 3)) = xs[0]? := hg 0 _ rfl
  have g1 : DataW.trod enc Try.prog W 0 (fun _ => true) true m 55 (([c0, c1].drop 1).take (Try.prog.cellsOf 55)) = xs[1]? := hg 1 _ rfl
  rw [hxd] at hz
  simp only [cellsI, cellsIs] at g0 g1
  match xs, hx with
  | [y0, y1], _ =>
    have hz1 : ∀ n ∈ y1.1.weights Try.prog 55, n ≤ reachBytes := wt_field Try.underlying57 (i := 1) (xs := [y0, y1]) rfl rfl hz
    obtain ⟨k, e0, _, _⟩ := DataW.trod_int Try.underlying3 (x := y0) (by simpa using g0)
    obtain ⟨ls, hls⟩ := ints_of (v1 := c1) (y1 := y1) (by simpa using g1) hz1
    simp at e0
    exact ⟨k, ls, e0, hls⟩
theorem seed_of {fuel : Nat} {cs : List Value} {y : DataW H × List MemPlace} (h : DataW.trod enc Try.prog W 0 (fun _ => true) true fuel 59 cs = some y) (hl : cs.length = 12) (hz : ∀ n ∈ y.1.weights Try.prog 59, n ≤ reachBytes) : ∃ s : Sd, s.Ok W ∧ cs = encS s := by
  obtain ⟨xs, m, _, hxd, _, hx, hg⟩ := DataW.trod_struct Try.underlying59 h
  have g0 : DataW.trod enc Try.prog W 0 (fun _ => true) true m 3 ((cs.drop 0).take (Try.prog.cellsOf 3)) = xs[0]? := hg 0 _ rfl
  have g1 : DataW.trod enc Try.prog W 0 (fun _ => true) true m 3 ((cs.drop 1).take (Try.prog.cellsOf 3)) = xs[1]? := hg 1 _ rfl
  have g2 : DataW.trod enc Try.prog W 0 (fun _ => true) true m 57 ((cs.drop 2).take (Try.prog.cellsOf 57)) = xs[2]? := hg 2 _ rfl
  have g3 : DataW.trod enc Try.prog W 0 (fun _ => true) true m 57 ((cs.drop 4).take (Try.prog.cellsOf 57)) = xs[3]? := hg 3 _ rfl
  have g4 : DataW.trod enc Try.prog W 0 (fun _ => true) true m 3 ((cs.drop 6).take (Try.prog.cellsOf 3)) = xs[4]? := hg 4 _ rfl
  have g5 : DataW.trod enc Try.prog W 0 (fun _ => true) true m 3 ((cs.drop 7).take (Try.prog.cellsOf 3)) = xs[5]? := hg 5 _ rfl
  have g6 : DataW.trod enc Try.prog W 0 (fun _ => true) true m 33 ((cs.drop 8).take (Try.prog.cellsOf 33)) = xs[6]? := hg 6 _ rfl
  have g7 : DataW.trod enc Try.prog W 0 (fun _ => true) true m 42 ((cs.drop 9).take (Try.prog.cellsOf 42)) = xs[7]? := hg 7 _ rfl
  have g8 : DataW.trod enc Try.prog W 0 (fun _ => true) true m 3 ((cs.drop 10).take (Try.prog.cellsOf 3)) = xs[8]? := hg 8 _ rfl
  have g9 : DataW.trod enc Try.prog W 0 (fun _ => true) true m 3 ((cs.drop 11).take (Try.prog.cellsOf 3)) = xs[9]? := hg 9 _ rfl
  rw [hxd] at hz
  simp only [cellsI, cellsSe, cellsBs, cellsMs] at g0 g1 g2 g3 g4 g5 g6 g7 g8 g9
  match cs, hl, xs, hx with
  | [x0, x1, x2, x3, x4, x5, x6, x7, x8, x9, x10, x11], _, [y0, y1, y2, y3, y4, y5, y6, y7, y8, y9], _ =>
    have z2 : ∀ n ∈ y2.1.weights Try.prog 57, n ≤ reachBytes := wt_field Try.underlying59 (i := 2) (xs := [y0, y1, y2, y3, y4, y5, y6, y7, y8, y9]) rfl rfl hz
    have z3 : ∀ n ∈ y3.1.weights Try.prog 57, n ≤ reachBytes := wt_field Try.underlying59 (i := 3) (xs := [y0, y1, y2, y3, y4, y5, y6, y7, y8, y9]) rfl rfl hz
    have z6 : ∀ n ∈ y6.1.weights Try.prog 33, n ≤ reachBytes := wt_field Try.underlying59 (i := 6) (xs := [y0, y1, y2, y3, y4, y5, y6, y7, y8, y9]) rfl rfl hz
    have z7 : ∀ n ∈ y7.1.weights Try.prog 42, n ≤ reachBytes := wt_field Try.underlying59 (i := 7) (xs := [y0, y1, y2, y3, y4, y5, y6, y7, y8, y9]) rfl rfl hz
    obtain ⟨k0, e0, _, w0⟩ := DataW.trod_int Try.underlying3 (x := y0) (by simpa using g0)
    obtain ⟨k1, e1, _, w1⟩ := DataW.trod_int Try.underlying3 (x := y1) (by simpa using g1)
    obtain ⟨k4, e4, _, w4⟩ := DataW.trod_int Try.underlying3 (x := y4) (by simpa using g4)
    obtain ⟨k5, e5, _, w5⟩ := DataW.trod_int Try.underlying3 (x := y5) (by simpa using g5)
    obtain ⟨k8, e8, _, w8⟩ := DataW.trod_int Try.underlying3 (x := y8) (by simpa using g8)
    obtain ⟨k9, e9, _, w9⟩ := DataW.trod_int Try.underlying3 (x := y9) (by simpa using g9)
    obtain ⟨lS, ls, e2, h2⟩ := lseed_of (c0 := x2) (c1 := x3) (y := y2) (by simpa using g2) z2
    obtain ⟨cS, lc, e3, h3⟩ := lseed_of (c0 := x4) (c1 := x5) (y := y3) (by simpa using g3) z3
    obtain ⟨da, h6⟩ := bytes_of (v1 := x8) (y1 := y6) (by simpa using g6) z6
    obtain ⟨mp, h7⟩ := maps_of (v1 := x9) (y1 := y7) (by simpa using g7) z7
    simp at e0 e1 e4 e5 e8 e9
    subst e0 e1 e2 e3 e4 e5 e8 e9
    exact ⟨⟨k0, k1, lS, x3, cS, x5, k4, k5, x8, x9, k8, k9, ls, lc, da, mp⟩, ⟨h2, h3, h6, h7, ⟨bounds_i64 w0, bounds_i64 w1⟩, ⟨bounds_i64 w4, bounds_i64 w5⟩, bounds_i64 w8, bounds_i64 w9⟩, rfl⟩
/-- A plan that came in. -/
theorem open_plan {v : Value} {d : DataW H} {p : List MemPlace} (hv : Value.okWide Try.prog W .any base 25 v) (h : DataW.Trod enc Try.prog W 0 (fun _ => true) true 25 v d p) (hz : ∀ n ∈ d.weights Try.prog 25, n ≤ reachBytes) : CameP W v := by
  have hc : ∃ cs : Array Value, v = .agg cs ∧ cs.size = 5 := by
    simp only [Value.okWide, Try.underlying25] at hv
    obtain ⟨cs, h1, h2, _⟩ := hv
    exact ⟨cs, h1, by rw [h2]; exact cellsPl⟩
  obtain ⟨arr, rfl, hs⟩ := hc
  obtain ⟨c0, c1, c2, c3, c4, rfl⟩ := agg5 hs
  obtain ⟨fuel, hf⟩ := h
  obtain ⟨xs, m, _, hxd, _, hx, hg⟩ := DataW.trod_struct Try.underlying25 hf
  have g0 : DataW.trod enc Try.prog W 0 (fun _ => true) true m 3 (([c0, c1, c2, c3, c4].drop 0).take (Try.prog.cellsOf 3)) = xs[0]? := hg 0 _ rfl
  have g1 : DataW.trod enc Try.prog W 0 (fun _ => true) true m 3 (([c0, c1, c2, c3, c4].drop 1).take (Try.prog.cellsOf 3)) = xs[1]? := hg 1 _ rfl
  have g2 : DataW.trod enc Try.prog W 0 (fun _ => true) true m 3 (([c0, c1, c2, c3, c4].drop 2).take (Try.prog.cellsOf 3)) = xs[2]? := hg 2 _ rfl
  have g3 : DataW.trod enc Try.prog W 0 (fun _ => true) true m 22 (([c0, c1, c2, c3, c4].drop 3).take (Try.prog.cellsOf 22)) = xs[3]? := hg 3 _ rfl
  have g4 : DataW.trod enc Try.prog W 0 (fun _ => true) true m 23 (([c0, c1, c2, c3, c4].drop 4).take (Try.prog.cellsOf 23)) = xs[4]? := hg 4 _ rfl
  rw [show d = .agg (xs.map (·.1)) from congrArg Prod.fst hxd] at hz
  simp only [cellsI, cellsSs, cellsLs] at g0 g1 g2 g3 g4
  match xs, hx with
  | [y0, y1, y2, y3, y4], _ =>
    have z3 : ∀ n ∈ y3.1.weights Try.prog 22, n ≤ reachBytes := wt_field Try.underlying25 (i := 3) (xs := [y0, y1, y2, y3, y4]) rfl rfl hz
    have z4 : ∀ n ∈ y4.1.weights Try.prog 23, n ≤ reachBytes := wt_field Try.underlying25 (i := 4) (xs := [y0, y1, y2, y3, y4]) rfl rfl hz
    obtain ⟨k0, e0, _, w0⟩ := DataW.trod_int Try.underlying3 (x := y0) (by simpa using g0)
    obtain ⟨k1, e1, _, w1⟩ := DataW.trod_int Try.underlying3 (x := y1) (by simpa using g1)
    obtain ⟨k2, e2, _, w2⟩ := DataW.trod_int Try.underlying3 (x := y2) (by simpa using g2)
    obtain ⟨A1, l1, c1', xs1, e3, a1, a2, a3, a4, a5, a6⟩ := row_of Try.underlying22 cellsSl (by omega) encSl (fun _ => rfl) Sl.Ok ⟨0, 0⟩ (fun fuel cs y h hl _ => slot_of h hl) (v := c3) (y := y3) (by simpa using g3) z3
    obtain ⟨A2, l2, c2', ss, e4, b1, b2, b3, b4, b5, b6⟩ := row_of Try.underlying23 cellsS20 (by omega) encS (fun _ => rfl) (fun s => s.Ok W) ⟨0, 0, 0, .slice none 0 0, 0, .slice none 0 0, 0, 0, .slice none 0 0, .slice none 0 0, 0, 0, [], [], [], []⟩ (fun fuel cs y h hl hz => seed_of h hl hz) (v := c4) (y := y4) (by simpa using g4) z4
    rw [bytesSl] at a4
    have hb20 := bytesS20
    have b4' : l2 ≤ reachBytes := by
      have : l2 * 1 ≤ l2 * Try.prog.bytesOf 59 := Nat.mul_le_mul_left _ hb20
      omega
    unfold reachBytes at a4 b4'
    simp at e0 e1 e2
    subst e0 e1 e2 e3 e4
    exact ⟨k0, k1, k2, A1, A2, l1, c1', l2, c2', xs1, ss, rfl, ⟨bounds_i64 w0, bounds_i64 w1, bounds_i64 w2⟩, ⟨a1, a2, a3, by omega, a5, a6⟩, b1, b2, b3, by omega, b5, b6⟩
theorem open_i64 {v : Value} {d : DataW H} {p : List MemPlace} (hv : Value.okWide Try.prog W .any base 3 v) (h : DataW.Trod enc Try.prog W 0 (fun _ => true) true 3 v d p) : ∃ x : Int, v = .int .i64 x ∧ -9223372036854775808 ≤ x ∧ x ≤ 9223372036854775807 := by
  obtain ⟨y, rfl⟩ := okWide_int Try.underlying3 hv
  obtain ⟨fuel, h⟩ := h
  obtain ⟨x, e0, _, wx⟩ := DataW.trod_int Try.underlying3 h
  simp [Value.cells] at e0
  subst e0
  have := bounds_i64 wx
  exact ⟨_, rfl, this.1, this.2⟩
theorem open_u8 {v : Value} {d : DataW H} {p : List MemPlace} (hv : Value.okWide Try.prog W .any base 5 v) (h : DataW.Trod enc Try.prog W 0 (fun _ => true) true 5 v d p) : ∃ x : Nat, v = inB x ∧ x < 256 := by
  obtain ⟨y, rfl⟩ := okWide_int Try.underlying5 hv
  obtain ⟨fuel, h⟩ := h
  obtain ⟨x, hx, e0⟩ := byte_of h
  simp [Value.cells] at e0
  exact ⟨x, e0, hx⟩
end
end Go.Proofs.Ytmadldgajjgbmaa
