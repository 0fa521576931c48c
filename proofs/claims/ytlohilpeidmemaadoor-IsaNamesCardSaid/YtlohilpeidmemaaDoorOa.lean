import Derived.Test.YtlohilpeidmemaaDoorAi
import Derived.Test.YtlohilpeidmemaaDoorRows
import Derived.ProofKit
import Derived.OpenShut
import Derived.SizedLaws
import Derived.LaidMore
import Derived.Lay
import Derived.Stop.LaidErr
import Derived.Stop.Joined
import Derived.Shelf.Vars
namespace Go.Proofs.YtlohilpeidmemaaDoor
open Go.ChangeShapes Go.WideShapes Go.ChangeAt Go.RowKit Go.Joins
set_option linter.unusedVariables false
set_option linter.unusedSimpArgs false

theorem ownKnob_none : ownKnob Tryd.prog.godebug = none := by kernel_rfl
theorem laidOut : laidOutB Tryd.prog = true := by kernel_rfl
theorem cells9 : Tryd.prog.cellsOf 9 = 1 := by kernel_rfl
theorem cells5 : Tryd.prog.cellsOf 5 = 1 := by kernel_rfl
theorem bytes5 : Tryd.prog.bytesOf 5 = 1 := by kernel_rfl
theorem cells23 : Tryd.prog.cellsOf 23 = 5 := by kernel_rfl
theorem cells39 : Tryd.prog.cellsOf 39 = 44 := by kernel_rfl

/-- A row that lists variables, with the world's shape handed on. -/
theorem handed_laid {H : Type} {enc : TypeId × Value → H} {a : Assume} {C : Checked} {os : Os} {f : FuncId} {fn : Func} {s : ChangeSpec} {conds : List PathCond} {apart fresh handsOn again : Bool} {laid : List (String × DataW Unit)}
    (own : ownKnob C.prog.godebug = none) (started : os.Started) (noInit : C.prog.inits.idxOf? f = none) (hfn : C.prog.funcs[f]? = some fn)
    (witness : ∃ (w : World) (tape : Tape) (i : Input), w.os = os ∧ (w.forCall tape i).Shaped C.prog ∧ i.vars = [] ∧ Input.okWide C.prog (w.forCall tape i) .any w.heap.size f i ∧
      ((s.pre enc C.prog fn conds apart (w.forCall tape i).memory i.args ∧ laidMetH C.prog laid (w.forCall tape i).memory) ∧ sizedMet enc C.prog fn (OpenSpec.ofChange s) apart (w.forCall tape i).memory i.args) ∧ a.holds C.prog (lone (Frame.enter C.prog f i.args .normal) [] (w.forCall tape i)))
    (contract : ∀ (W : World) (base : Nat) (args : Array Value) (ds gs : List (DataW H)) (before : List MemPlace),
      (∀ (j : Nat) t v, fn.params[j]? = some t → args[j]? = some v → Value.okWide C.prog W .any base t v) →
      DataW.Whole enc C.prog fn.params.toList s.vars apart W args.toList ds gs before →
      (DataW.weightsEach C.prog (fn.params.toList ++ s.plain.varTypes C.prog) (ds ++ gs)).all (· ≤ reachBytes) = true → laidMetH C.prog laid W → W.ShapedOpen C.prog →
      Calls C.prog f args W fun e W' => ∃ v, e = .returned v ∧ s.post enc C.prog fn apart fresh handsOn again W args v W') :
    ReturnsInHanded a C os f .any (fun w args => (s.pre enc C.prog fn conds apart w args ∧ laidMetH C.prog laid w) ∧ sizedMet enc C.prog fn (OpenSpec.ofChange s) apart w args) (s.post enc C.prog fn apart fresh handsOn again) := by
  refine returnsInHanded_of_calls own started noInit witness ?_
  intro w tape i _ hsh _ hok hpre _
  obtain ⟨_, _, _, fn', hfn', _, _, _, _, hval⟩ := hok
  obtain rfl : fn' = fn := Option.some.inj (hfn'.symm.trans hfn)
  obtain ⟨⟨⟨ds, gs, before, hw, _⟩, hl⟩, hz⟩ := hpre
  have hw' := DataW.Whole.of_heap (w' := w.forCall tape i) (by rfl) hw
  refine (contract (w.forCall tape i) w.heap.size i.args ds gs before hval hw' (hz.weights hw) (hl.of_heap (by rfl)) hsh).mono fun e W' ⟨v, he, hp⟩ => ?_
  subst he
  exact ChangeSpec.post_blind hp

/-! the listed variables -/
theorem namesG : Tryd.prog.globalNamed "glacis/isa.names" = some 0 := by kernel_rfl
theorem namesT : (Tryd.prog.globals[0]?).map (·.type) = some 39 := by kernel_rfl
theorem powT : (Tryd.prog.globals[4]?).map (·.type) = some 79 := by kernel_rfl
theorem names_data {H : Type} : (Rows.laid_glacis_isa_names : DataW H) = .agg (Isa.names.map fun l => .lit (.string l)) := rfl
theorem pow_data : (Rows.laid_internal_strconv_uint64pow10 : DataW Unit) = Lib.tabData .u64 Lib.pow10Tab := by kernel_rfl
theorem names_of_head {rest : List (String × DataW Unit)} {W : World} (h : laidMet Tryd.prog (("glacis/isa.names", Rows.laid_glacis_isa_names) :: rest) W) :
    ∀ i : Nat, i < 44 → W.cell? ⟨0, i, none⟩ = some (.string (S (Isa.names.getD i []))) := by
  obtain ⟨ps, ⟨g0, t0, cs0, f0, p0, q0, hg0, ht0, hv0, hd0, _, _⟩, _, _⟩ := h
  obtain rfl := Option.some.inj (namesG.symm.trans hg0)
  obtain rfl := Option.some.inj (namesT.symm.trans ht0)
  obtain ⟨xs, m, rfl, hx, hl, hn, hel⟩ := DataW.trod_array Tryd.underlying39 hd0
  rw [names_data] at hx
  simp only [Prod.mk.injEq, DataW.agg.injEq] at hx
  intro i hi
  have he := hel i hi
  rw [cells9, Nat.mul_one] at he
  obtain ⟨y, hy⟩ : ∃ y, xs[i]? = some y := ⟨_, List.getElem?_eq_getElem (by omega)⟩
  rw [hy] at he
  obtain ⟨s, hc, hs, _⟩ := DataW.trod_string Tryd.underlying9 he
  have h1 : (xs.map (·.1))[i]? = some (.lit (.string s.data.toList)) := by rw [List.getElem?_map, hy, hs]; rfl
  rw [← hx.1, List.getElem?_map] at h1
  have hlen : Isa.names.length = 44 := rfl
  obtain ⟨z, hz⟩ : ∃ z, Isa.names[i]? = some z := ⟨_, List.getElem?_eq_getElem (by omega)⟩
  rw [hz] at h1
  have hzs : z = s.data.toList := by simpa using h1
  have hcell := World.var?_cell hg0 hv0 i
  rw [hcell, List.getD_eq_getElem?_getD, hz, Option.getD_some, hzs, S_of]
  have h2 : (cs0.toList.drop i)[0]? = some (.string s) := by
    have := congrArg (fun l => l[0]?) hc
    simpa [List.getElem?_take] using this
  rw [List.getElem?_drop, Nat.add_zero, Array.getElem?_toList] at h2
  exact h2
theorem tab_of_head {rest : List (String × DataW Unit)} {W : World} (h : laidMet Tryd.prog (("internal/strconv.uint64pow10", Rows.laid_internal_strconv_uint64pow10) :: rest) W) :
    Lib.TabIs Tryd.prog W "internal/strconv.uint64pow10" .u64 Lib.pow10Tab := by
  rw [pow_data] at h
  exact Lib.tabIs_of_head tabG powT Tryd.underlying79 Tryd.underlying57 (by kernel_rfl) (by kernel_rfl) h
theorem laid4 {a b : String × DataW Unit} {W : World} (h : laidMet Tryd.prog [a, b, ("internal/strconv.uint64pow10", Rows.laid_internal_strconv_uint64pow10), ("glacis/isa.names", Rows.laid_glacis_isa_names)] W) : Laid W :=
  ⟨tab_of_head h.tail.tail, names_of_head h.tail.tail.tail⟩
theorem star : "*" ++ "errors.errorString" = "*errors.errorString" := by decide
theorem row86 (u : TypeId) (h : Tryd.prog.typeName? 3 u = some "*errors.errorString") : u = 86 :=
  typeName_ptr_named (nm := "errors.errorString") (by rw [star]; kernel_rfl) (by kernel_rfl) (by decide) u (by rw [star]; exact h)
theorem laid8 {a b c d : String × DataW Unit} {W : World} (h : laidMet Tryd.prog [a, b, ("internal/strconv.uint64pow10", Rows.laid_internal_strconv_uint64pow10), c, ("strconv.ErrRange", Rows.laid_strconv_ErrRange), ("strconv.ErrSyntax", Rows.laid_strconv_ErrSyntax), ("glacis/isa.names", Rows.laid_glacis_isa_names), d] W)
    (hsh : W.ShapedOpen Tryd.prog) : LaidP W := by
  refine ⟨⟨tab_of_head h.tail.tail, names_of_head h.tail.tail.tail.tail.tail.tail⟩, ?_, ?_, ?_⟩
  · exact cell_of_shapedOpen_int (t := 3) (zero := #[.int .i64 0]) hsh (of_decide_eq_true (by kernel_rfl)) (by kernel_rfl) (by kernel_rfl) (by kernel_rfl) (by kernel_rfl) Tryd.underlying3
  · obtain ⟨p, s, hv, _⟩ := laid_sentinel (g := 2) h.tail.tail.tail.tail.tail synG (by kernel_rfl) Tryd.underlying47 row86 Tryd.underlying86 Tryd.underlying88 rfl rfl Tryd.underlying9 (by kernel_rfl) cells9
    exact ⟨_, _, hv⟩
  · obtain ⟨p, s, hv, _⟩ := laid_sentinel (g := 3) h.tail.tail.tail.tail rngG (by kernel_rfl) Tryd.underlying47 row86 Tryd.underlying86 Tryd.underlying88 rfl rfl Tryd.underlying9 (by kernel_rfl) cells9
    exact ⟨_, _, hv⟩

/-! what came in -/
section
variable {H : Type} {enc : TypeId × Value → H} {W : World} {base : Nat}
theorem array5 {α : Type} {cs : Array α} (h : cs.size = 5) : ∃ c0 c1 c2 c3 c4, cs = #[c0, c1, c2, c3, c4] := by
  obtain ⟨l⟩ := cs
  match l, h with
  | [c0, c1, c2, c3, c4], _ => exact ⟨c0, c1, c2, c3, c4, rfl⟩
/-- An instruction that came in. -/
theorem open_ins {v : Value} {d : DataW H} {p : List MemPlace} (hv : Value.okWide Tryd.prog W .any base 23 v) (h : DataW.Trod enc Tryd.prog W 0 (fun _ => true) true 23 v d p) :
    ∃ o a b c m : Int, v = .agg #[.int .i64 o, .int .i64 a, .int .i64 b, .int .i64 c, .int .i32 m] ∧ -2147483648 ≤ m ∧ m ≤ 2147483647 := by
  obtain ⟨cs, rfl, hsz⟩ := okWide_struct Tryd.underlying23 hv
  obtain ⟨c0, c1, c2, c3, c4, rfl⟩ := array5 (hsz.trans cells23)
  obtain ⟨fuel, hf⟩ := h
  obtain ⟨xs, n, rfl, hx, hl, hn, hel⟩ := DataW.trod_struct Tryd.underlying23 hf
  have t : ∀ (i : Nat) (f : Field), (#[f]).size = 1 → i < xs.length → ∃ y, xs[i]? = some y := fun i f _ hi => ⟨_, List.getElem?_eq_getElem hi⟩
  have hn5 : xs.length = 5 := hn
  obtain ⟨y0, e0⟩ : ∃ y, xs[0]? = some y := ⟨_, List.getElem?_eq_getElem (by omega)⟩
  obtain ⟨y1, e1⟩ : ∃ y, xs[1]? = some y := ⟨_, List.getElem?_eq_getElem (by omega)⟩
  obtain ⟨y2, e2⟩ : ∃ y, xs[2]? = some y := ⟨_, List.getElem?_eq_getElem (by omega)⟩
  obtain ⟨y3, e3⟩ : ∃ y, xs[3]? = some y := ⟨_, List.getElem?_eq_getElem (by omega)⟩
  obtain ⟨y4, e4⟩ : ∃ y, xs[4]? = some y := ⟨_, List.getElem?_eq_getElem (by omega)⟩
  have g0 := hel 0 _ rfl
  have g1 := hel 1 _ rfl
  have g2 := hel 2 _ rfl
  have g3 := hel 3 _ rfl
  have g4 := hel 4 _ rfl
  rw [e0] at g0
  rw [e1] at g1
  rw [e2] at g2
  rw [e3] at g3
  rw [e4] at g4
  have k3 : Tryd.prog.cellsOf 3 = 1 := by kernel_rfl
  have k21 : Tryd.prog.cellsOf 21 = 1 := by kernel_rfl
  obtain ⟨o, w0, _, _⟩ := DataW.trod_int Tryd.underlying3 g0
  obtain ⟨a, w1, _, _⟩ := DataW.trod_int Tryd.underlying3 g1
  obtain ⟨b, w2, _, _⟩ := DataW.trod_int Tryd.underlying3 g2
  obtain ⟨c, w3, _, _⟩ := DataW.trod_int Tryd.underlying3 g3
  obtain ⟨m, w4, _, wf⟩ := DataW.trod_int Tryd.underlying21 g4
  simp [Value.cells, k3] at w0 w1 w2 w3
  simp [Value.cells, k21] at w4
  subst w0 w1 w2 w3 w4
  have := bounds_i32 wf
  exact ⟨o, a, b, c, m, rfl, this.1, this.2⟩
theorem add_at (b off j : Nat) : (⟨b, off, none⟩ : Addr).add j = ⟨b, off + j, none⟩ := by
  unfold Addr.add
  split <;> simp_all
/-- Bytes that came in. -/
theorem open_bytes {v : Value} {d : DataW H} {p : List MemPlace} (hv : Value.okWide Tryd.prog W .any base 27 v) (h : DataW.Trod enc Tryd.prog W 0 (fun _ => true) true 27 v d p) (hz : ∀ n ∈ d.weights Tryd.prog 27, n ≤ reachBytes) :
    ∃ A n c bs, v = .slice A n c ∧ bs.length = n ∧ n ≤ c ∧ n ≤ 9223372036854775807 ∧ BR W A bs ∧ ∀ y ∈ bs, y < 256 := by
  obtain ⟨a0, len, cap, rfl⟩ := okWide_slice Tryd.underlying27 hv
  obtain ⟨fuel, h⟩ := h
  rcases open_ints Tryd.underlying27 Tryd.underlying5 cells5 h with ⟨hcs, hx⟩ | ⟨a, len', cap', zs, hcs, _, hl, hmx, hz1, hx, hcell, hwz⟩
  · simp [Value.cells] at hcs; obtain ⟨rfl, rfl, rfl⟩ := hcs
    exact ⟨none, 0, 0, [], rfl, rfl, by omega, by omega, fun i x hi => by simp at hi, by simp⟩
  · simp [Value.cells] at hcs; obtain ⟨rfl, el, ec⟩ := hcs; subst el ec
    by_cases h0 : len = 0
    · subst h0
      exact ⟨some a, 0, cap, [], rfl, rfl, by omega, by omega, fun i x hi => by simp at hi, by simp⟩
    · have hzl : len ≤ zs.length := by rw [hz1]; split <;> omega
      have hlen : len ≤ 9223372036854775807 := by unfold maxLen at hmx; omega
      obtain ⟨b, off, spot⟩ := a
      have hspot : spot = none := by simpa [Addr.add] using World.cell?_spot (hcell 0 (by omega))
      subst hspot
      have hc : ∀ j, j < zs.length → W.cell? ⟨b, off + j, none⟩ = some (.int .u8 (zs.getD j 0)) := fun j hj => by
        have := hcell j hj
        rwa [add_at] at this
      have hb : b < W.heap.size := block_lt_of_cell (hc 0 (by omega))
      have hpos : ∀ n ∈ zs, 0 ≤ n ∧ n ≤ 255 := fun n hn => bounds_u8 (hwz n hn)
      refine ⟨_, len, cap, (zs.take len).map Int.toNat, rfl, by simp; omega, hl, hlen, fun i x hx => ?_, fun x hx => ?_⟩
      · rw [List.getElem?_map] at hx
        cases hy : (zs.take len)[i]? with
        | none => rw [hy] at hx; cases hx
        | some y =>
          rw [hy] at hx
          obtain rfl : y.toNat = x := by simpa using hx
          have hi : i < len := by have := (List.getElem?_eq_some_iff.1 hy).1; rw [List.length_take] at this; omega
          rw [List.getElem?_take_of_lt hi] at hy
          refine ⟨b, off, rfl, hb, ?_⟩
          rw [hc i (by omega), List.getD_eq_getElem?_getD, hy]
          have := hpos y (List.mem_of_getElem? hy)
          simp [Int.toNat_of_nonneg this.1]
      · obtain ⟨y, hy, rfl⟩ := List.mem_map.1 hx
        have := hpos y (List.mem_of_mem_take hy)
        omega
theorem open_i64 {v : Value} (hv : Value.okWide Tryd.prog W .any base 3 v) : ∃ x : Int, v = .int .i64 x := by
  obtain ⟨x, rfl⟩ := okWide_int Tryd.underlying3 hv
  exact ⟨x, rfl⟩
end
end Go.Proofs.YtlohilpeidmemaaDoor
