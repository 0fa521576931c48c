/- What came in: a plan of a configuration. -/
import Derived.Test.YtmadldgajjgbmaaSh
import Derived.Test.YtmadldgajjgbmaaVs
import Derived.ProofKit
import Derived.OpenShut
import Derived.SizedLaws
import Derived.Lib.SmallJoins
set_option linter.unusedVariables false
set_option linter.unusedSimpArgs false
namespace Go.Proofs.Ytmadldgajjgbmaa
open Go.ChangeShapes Go.WideShapes Go.ChangeAt Go.RowKit Go.Joins
set_option linter.unusedVariables false
set_option linter.unusedSimpArgs false
set_option maxRecDepth 100000
theorem laidOut : laidOutB Try.prog = true := by kernel_rfl
theorem cellsI : Try.prog.cellsOf 3 = 1 := by kernel_rfl
theorem cellsU : Try.prog.cellsOf 47 = 1 := by kernel_rfl
theorem cellsB : Try.prog.cellsOf 5 = 1 := by kernel_rfl
theorem cellsBo : Try.prog.cellsOf 4 = 1 := by kernel_rfl
theorem cellsIs : Try.prog.cellsOf 55 = 1 := by kernel_rfl
theorem cellsBs : Try.prog.cellsOf 33 = 1 := by kernel_rfl
theorem cellsMs : Try.prog.cellsOf 42 = 1 := by kernel_rfl
theorem cellsSs : Try.prog.cellsOf 22 = 1 := by kernel_rfl
theorem cellsLs : Try.prog.cellsOf 23 = 1 := by kernel_rfl
theorem cellsSe : Try.prog.cellsOf 57 = 2 := by kernel_rfl
theorem cellsM : Try.prog.cellsOf 93 = 5 := by kernel_rfl
theorem cellsSl : Try.prog.cellsOf 49 = 2 := by kernel_rfl
theorem cellsS20 : Try.prog.cellsOf 59 = 12 := by kernel_rfl
theorem cellsPl : Try.prog.cellsOf 25 = 5 := by kernel_rfl
theorem bytesI : Try.prog.bytesOf 3 = 8 := by kernel_rfl
theorem bytesB : Try.prog.bytesOf 5 = 1 := by kernel_rfl
theorem bytesM : Try.prog.bytesOf 93 = 40 := by kernel_rfl
theorem bytesSl : Try.prog.bytesOf 49 = 16 := by kernel_rfl
theorem bytesS20 : 1 ≤ Try.prog.bytesOf 59 := of_decide_eq_true (by kernel_rfl)
def Bi (x : Int) : Prop := -9223372036854775808 ≤ x ∧ x ≤ 9223372036854775807
def inU (x : Nat) : Value := .int .u64 (x : Int)
def inB (x : Nat) : Value := .int .u8 (x : Int)
/-- A map of a plan. -/
structure Mp where
  at_ : Int
  sg : Nat
  fr : Int
  n : Int
  wr : Bool
structure Mp.Ok (x : Mp) : Prop where
  a : Bi x.at_
  s : (x.sg : Int) ≤ 18446744073709551615
  f : Bi x.fr
  n : Bi x.n
def encM (x : Mp) : List Value := [.int .i64 x.at_, inU x.sg, .int .i64 x.fr, .int .i64 x.n, .bool x.wr]
/-- A slot. -/
structure Sl where
  ct : Nat
  tk : Int
structure Sl.Ok (x : Sl) : Prop where
  c : (x.ct : Int) ≤ 18446744073709551615
  t : Bi x.tk
def encSl (x : Sl) : List Value := [inU x.ct, .int .i64 x.tk]
/-- A seed of an object, and what its lists hold. -/
structure Sd where
  kd : Int
  pa : Int
  lS : Int
  lv : Value
  cS : Int
  cv : Value
  pg : Int
  nm : Int
  dv : Value
  mv : Value
  sp : Int
  pc : Int
  ls : List Int
  cs : List Int
  da : List Nat
  mp : List Mp
def encS (s : Sd) : List Value := [.int .i64 s.kd, .int .i64 s.pa, .int .i64 s.lS, s.lv, .int .i64 s.cS, s.cv, .int .i64 s.pg, .int .i64 s.nm, s.dv, s.mv, .int .i64 s.sp, .int .i64 s.pc]
/-- Bytes that are there to be read. -/
def BRd (w : World) (v : Value) (xs : List Nat) : Prop := ∃ (A : Option Addr) (n c : Nat), v = .slice A n c ∧ n ≤ c ∧ c ≤ maxLen ∧ xs.length = n ∧ n ≤ 140737488351232 ∧ LR inB w A xs ∧ ∀ x ∈ xs, x < 256
def MRd (w : World) (v : Value) (xs : List Mp) : Prop := ∃ (A : Option Addr) (n c : Nat), v = .slice A n c ∧ n ≤ c ∧ c ≤ maxLen ∧ xs.length = n ∧ n ≤ 140737488351232 ∧ LV 5 encM w A xs ∧ ∀ x ∈ xs, x.Ok
structure Sd.Ok (w : World) (s : Sd) : Prop where
  l : IntsL w s.lv s.ls
  c : IntsL w s.cv s.cs
  d : BRd w s.dv s.da
  m : MRd w s.mv s.mp
  b : (Bi s.kd ∧ Bi s.pa) ∧ (Bi s.pg ∧ Bi s.nm) ∧ Bi s.sp ∧ Bi s.pc
/-- A plan. -/
def CameP (w : World) (v : Value) : Prop := ∃ (co fr nm : Int) (A1 A2 : Option Addr) (l1 c1 l2 c2 : Nat) (xs : List Sl) (ss : List Sd), v = .agg #[.int .i64 co, .int .i64 fr, .int .i64 nm, .slice A1 l1 c1, .slice A2 l2 c2] ∧ (Bi co ∧ Bi fr ∧ Bi nm) ∧
  (l1 ≤ c1 ∧ c1 ≤ maxLen ∧ xs.length = l1 ∧ l1 ≤ 140737488351232 ∧ LV 2 encSl w A1 xs ∧ ∀ x ∈ xs, x.Ok) ∧ (l2 ≤ c2 ∧ c2 ≤ maxLen ∧ ss.length = l2 ∧ l2 ≤ 140737488351232 ∧ LV 12 encS w A2 ss ∧ ∀ s ∈ ss, s.Ok w)
theorem lt_of_cell {w : World} {b o : Nat} {v : Value} (h : w.cell? ⟨b, o, none⟩ = some v) : b < w.heap.size := World.block_lt_of_cell? w _ h
theorem agg5 {cs : Array Value} (h : cs.size = 5) : ∃ a b c d e, cs = #[a, b, c, d, e] := by
  obtain ⟨l⟩ := cs
  match l, h with
  | [a, b, c, d, e], _ => exact ⟨a, b, c, d, e, rfl⟩
section
variable {H : Type} {enc : TypeId × Value → H} {W : World} {base : Nat} {spare : Nat → Bool} {held : Bool}
theorem wt_field {t : TypeId} {fs : Array Field} (ht : Try.prog.underlying t = some (.struct fs)) {xs : List (DataW H × List MemPlace)} {i : Nat} {f : Field} {y : DataW H × List MemPlace} (hf : fs[i]? = some f) (hd : xs[i]? = some y) (hz : ∀ n ∈ (DataW.agg (xs.map (·.1))).weights Try.prog t, n ≤ reachBytes) : ∀ n ∈ y.1.weights Try.prog f.type, n ≤ reachBytes := fun n hn => hz n (by
  rw [DataW.weights, ht]
  exact DataW.weights_mem_each (j := i) (by simp [hf]) (by rw [List.getElem?_map, hd]; rfl) n hn)
theorem weightsAll_mem {P : Program} {e : TypeId} : ∀ {l : List (DataW H)} {d : DataW H}, d ∈ l → ∀ n ∈ d.weights P e, n ∈ DataW.weightsAll P e l
  | [], d, h, n, hn => by cases h
  | x :: r, d, h, n, hn => by
      rw [DataW.weightsAll]
      rcases List.mem_cons.1 h with rfl | h
      · exact List.mem_append_left _ hn
      · exact List.mem_append_right _ (weightsAll_mem h n hn)
/-- A row of things that came in. -/
theorem row_of {α : Type} {sz : Nat} {t e : TypeId} (ht : Try.prog.underlying t = some (.slice e)) (hc : Try.prog.cellsOf e = sz) (hsz : 0 < sz) (en : α → List Value) (hen : ∀ x, (en x).length = sz) (Q : α → Prop) (dflt : α)
    (hone : ∀ (fuel : Nat) (cs : List Value) (y : DataW H × List MemPlace), DataW.trod enc Try.prog W 0 (fun _ => true) true fuel e cs = some y → cs.length = sz → (∀ n ∈ y.1.weights Try.prog e, n ≤ reachBytes) → ∃ x, Q x ∧ cs = en x)
    {fuel : Nat} {v : Value} {y : DataW H × List MemPlace} (h : DataW.trod enc Try.prog W 0 (fun _ => true) true fuel t [v] = some y) (hz : ∀ n ∈ y.1.weights Try.prog t, n ≤ reachBytes) :
    ∃ (A : Option Addr) (l c : Nat) (xs : List α), v = .slice A l c ∧ l ≤ c ∧ c ≤ maxLen ∧ xs.length = l ∧ l * Try.prog.bytesOf e ≤ reachBytes ∧ LV sz en W A xs ∧ ∀ x ∈ xs, Q x := by
  rcases DataW.trod_slice ht h with ⟨hcs, hx⟩ | ⟨a, len, cap, elems, rest, m, _, hcs, hx, hb, hl, hm, hlen, hel, _, _⟩
  · injection hcs with hcs _
    exact ⟨none, 0, 0, [], hcs, Nat.le_refl _, Nat.zero_le _, rfl, by omega, LV.nil _ _, by simp⟩
  · injection hcs with hcs _
    rw [hc] at hel
    have hzb : len * Try.prog.bytesOf e ≤ reachBytes := by
      have := hz (((elems.map (·.1)).length + (rest.map (·.1)).length) * Try.prog.bytesOf e) (by
        rw [hx, DataW.weights, ht]
        exact List.mem_cons_self)
      rw [List.length_map, hlen, Nat.add_mul] at this
      omega
    obtain ⟨b, off, spot⟩ := a
    have hspot : 0 < len → spot = none := by
      intro h0
      have hei := hel 0 h0
      rw [show elems[0]? = some (elems[0]'(by omega)) from List.getElem?_eq_getElem (by omega)] at hei
      obtain ⟨cs, hcs, htr⟩ := Option.bind_eq_some_iff.1 hei
      obtain ⟨_, hcl, hcell⟩ := World.cells?_some hcs
      have hc0 := hcell 0 (by omega)
      rw [List.getElem?_eq_getElem (by omega)] at hc0
      simpa [Addr.add] using World.cell?_spot hc0
    have each : ∀ i, ∃ x : α, i < len → Q x ∧ b < W.heap.size ∧ ∀ j u, (en x)[j]? = some u → W.cell? ⟨b, off + i * sz + j, none⟩ = some u := by
      intro i
      by_cases hi : i < len
      · have hei := hel i hi
        obtain ⟨z, hy⟩ : ∃ z, elems[i]? = some z := ⟨_, List.getElem?_eq_getElem (by omega)⟩
        rw [hy] at hei
        obtain ⟨cs, hcs, htr⟩ := Option.bind_eq_some_iff.1 hei
        obtain ⟨_, hcl, hcell⟩ := World.cells?_some hcs
        obtain ⟨x, hok, rfl⟩ := hone m cs z htr hcl (fun n hn => hz n (by
          rw [hx, DataW.weights, ht]
          exact List.mem_cons_of_mem _ (List.mem_append_left _ (weightsAll_mem (List.mem_map.2 ⟨z, List.mem_of_getElem? hy, rfl⟩) n hn))))
        obtain rfl := hspot (by omega)
        have hc : ∀ j u, (en x)[j]? = some u → W.cell? ⟨b, off + i * sz + j, none⟩ = some u := fun j u hu => by
          have hj : j < sz := by rw [← hen x]; exact (List.getElem?_eq_some_iff.1 hu).1
          have := hcell j (by omega)
          simp only [addr_add] at this
          rw [this]
          exact hu
        refine ⟨x, fun _ => ⟨hok, ?_, hc⟩⟩
        obtain ⟨u, hu⟩ : ∃ u, (en x)[0]? = some u := ⟨_, List.getElem?_eq_getElem (by rw [hen]; exact hsz)⟩
        exact lt_of_cell (hc 0 u hu)
      · exact ⟨dflt, fun h => absurd h hi⟩
    obtain ⟨g, hg⟩ := Classical.axiomOfChoice each
    refine ⟨_, _, _, (List.range len).map g, hcs, hl, hm, by simp, hzb, fun i q hp => ?_, fun x hx => ?_⟩
    · have hi : i < len := by have := (List.getElem?_eq_some_iff.1 hp).1; simpa using this
      have hpi : g i = q := by simpa [hi] using hp
      obtain ⟨_, h1, h2⟩ := hg i hi
      rw [hpi] at h2
      exact ⟨b, off, by rw [hspot (by omega)], h1, h2⟩
    · obtain ⟨i, hi, rfl⟩ := List.mem_map.1 hx
      exact (hg i (by simpa using hi)).1
end
end Go.Proofs.Ytmadldgajjgbmaa
