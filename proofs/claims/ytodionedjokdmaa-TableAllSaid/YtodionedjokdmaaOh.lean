/- What is taken out of a table: take. -/
import Derived.Test.YtodionedjokdmaaOg
set_option linter.unusedVariables false
set_option linter.unusedSimpArgs false
namespace Go.Proofs.Ytodionedjokdmaa
open Go.RowKit
set_option linter.unusedVariables false
set_option linter.unusedSimpArgs false
section
variable {W w w' w1 w2 : World} {T T' : List Nat} {t : Nat} {M : Option Nat} {ns : List Nat} {G : Nat → Option Ob} {n c hm : Nat} {o ho : Ob}
/-- All rows but those of pointers stay. -/
def KC (w w' : World) : Prop := ∀ (b : Nat) (cur : Array Value) (u : TypeId), u ≠ 35 → w.heap[b]? = some (Obj.cells cur u) → w'.heap[b]? = w.heap[b]?
theorem KC.refl (w : World) : KC w w := fun _ _ _ _ _ => rfl
theorem KC.trans (h : KC w w1) (h' : KC w1 w2) : KC w w2 := fun b cur u hu hc => (h' b cur u hu ((h b cur u hu hc).trans hc)).trans (h b cur u hu hc)
theorem KC.below (h : Below w.heap.size w w') : KC w w' := fun b cur u hu hc => h.block b (Array.getElem?_eq_some_iff.1 hc).1
theorem OB.kc {own : Nat → Prop} (h : OB own w n o) (hk : KC w w') : OB own w' n o := h.keepc fun b cur u hb hu hc => ⟨hb, hk b cur u hu hc⟩
/-- Rows of pointers have turned, of which T has none. -/
theorem TS.rows {S : List Nat} (h : TS W T t M ns G w) (ht : Turn S w w') (hS : ∀ b ∈ S, own_ W T b ∧ ∃ cur, w.heap[b]? = some (Obj.cells cur 35)) : TS W T t M ns G w' ∧ Same T w w' ∧ KC w w' := by
  have hkc : KC w w' := fun b cur u hu hc => ht.block b (Array.getElem?_eq_some_iff.1 hc).1 fun hm => by
    obtain ⟨_, cur', hc'⟩ := hS b hm
    rw [hc] at hc'
    injection hc' with hc'
    injection hc' with _ hc'
    exact hu hc'
  refine ⟨⟨h.b.trans (ht.below h.b.size fun b hb => (hS b hb).1.1), fun b hb => Nat.lt_of_lt_of_le (h.tl b hb) ht.size, (hkc _ _ _ (by decide) h.tb).trans h.tb, h.ow, ?_, fun k o hk => (h.ob k o hk).kc hkc⟩, fun b hb => ht.block b (h.tl b hb) fun hm => (hS b hm).1.2 hb, hkc⟩
  rcases h.mp with h1 | ⟨m, h1, h2, h3⟩
  · exact .inl h1
  · refine .inr ⟨m, h1, h2, h3.same (ht.block m h3.lt fun hm => ?_)⟩
    obtain ⟨_, cur', hc'⟩ := hS m hm
    exact h3.not_row hc'
theorem infoP : (Try.prog.info? 35).map (fun i => (i.zero, i.size, i.bytes)) = some (some (.pointer none), 1, 8) := by kernel_rfl
/-- Names, as pointers. -/
def encB (B : Nat → Option Nat) (x : Nat) : Value := vP (B x)
theorem encB_one (B : Nat → Option Nat) (x : Nat) : (encB B x).oneCell' = true := rfl
theorem append_p {own : Nat → Prop} {B : Nat → Option Nat} {v : Value} {xs ys : List Nat} (ty : TypeId) (h : RW own 35 (encB B) w v xs) (hl : xs.length + ys.length ≤ 100000) (A2 : Option Addr) (n2 c2 : Nat) (hn : ys.length = n2) (hc2 : ys.length ≤ c2) (hr : LR (encB B) w A2 ys) :
    ∃ v' w', (Builtin.append_ #[75, 75] ty #[v, .slice A2 n2 c2]).run Try.prog w = .ok v' w' ∧ RW (fun b => own b ∨ w.heap.size ≤ b) 35 (encB B) w' v' (xs ++ ys) ∧ ∃ S, Turn S w w' ∧ ∀ b ∈ S, own b ∧ ∃ cur, w.heap[b]? = some (Obj.cells cur 35) := by
  obtain ⟨i0, hi, hz0, hz1, hz2⟩ := info_partsU infoP
  subst hn
  exact append_rw 75 ty i0 (.pointer none) 8 Try.underlying75 hi hz0 hz1 hz2 (by omega) rfl (encB_one B) h hl A2 c2 hc2 hr
theorem lr_oneP {B : Nat → Option Nat} {Q n b : Nat} (h : w.heap[Q]? = some (Obj.cells #[.pointer (some ⟨b, 0, none⟩)] 35)) (hB : B n = some b) : LR (encB B) w (some ⟨Q, 0, none⟩) [n] := fun i x hi => by
  match i with
  | 0 =>
    obtain rfl : n = x := by simpa using hi
    exact ⟨Q, 0, rfl, (Array.getElem?_eq_some_iff.1 h).1, by rw [cell_of_row _ _ _ _ _ (0, 0) h]; unfold encB; rw [hB]; rfl⟩
  | i + 1 => simp at hi
/-- It is taken out of the map. -/
theorem TS.drop {m : Nat} (h : TS W T t (some m) ns G w) (hn : U64 n) (ty : TypeId) :
    ∃ w', (Builtin.delete_ #[90, 28] ty #[.map (some m), .int .u64 (n : Int)]).run Try.prog w = .ok (.tuple #[]) w' ∧ TS W T t (some m) (ns.filter (· != n)) (updN G n none) w' ∧ Same T w w' ∧ KC w w' ∧ Turn [m] w w' := by
  obtain ⟨w', hrun, hm, ht⟩ := h.mapG.2.drop Try.underlying90 hn ty
  have e : updN (mpG G) n none = mpG (updN G n none) := by
    funext k
    unfold mpG
    by_cases hk : k = n
    · subst hk; rw [updN_same, updN_same]; rfl
    · rw [updN_other _ _ hk, updN_other _ _ hk]
  rw [e] at hm
  have h2 := h.map ht hm.tight fun k o' hk => by
    by_cases e : k = n
    · subst e; rw [updN_same] at hk; cases hk
    · rw [updN_other _ _ e] at hk; exact h.ob k o' hk
  exact ⟨w', hrun, h2.1, h2.2, fun b cur u _ hc => ht.block b (Array.getElem?_eq_some_iff.1 hc).1 fun hmm => by
    rw [List.mem_singleton.1 hmm] at hc
    exact h.mapG.2.not_row hc, ht⟩
end
/-- What is taken: what is left of the table, and the names, each ahead of those in it. -/
def tkS (rec : (Nat → Option Ob) → Nat → (Nat → Option Ob) × List Nat) (n : Nat) (s : (Nat → Option Ob) × List Nat) (k : Nat) : (Nat → Option Ob) × List Nat :=
  match kdd s.1 n k with
  | some _ => ((rec s.1 k).1, s.2 ++ (rec s.1 k).2)
  | none => s
def tk : Nat → (Nat → Option Ob) → Nat → (Nat → Option Ob) × List Nat
  | 0, G, _ => (G, [])
  | f + 1, G, n => (match G n with | some o => o.ks | none => []).foldl (tkS (tk f) n) (updN G n none, [n])
theorem tk_succ (f : Nat) (G : Nat → Option Ob) (n : Nat) {o : Ob} (h : G n = some o) : tk (f + 1) G n = o.ks.foldl (tkS (tk f) n) (updN G n none, [n]) := by
  show (match G n with | some o => o.ks | none => []).foldl _ _ = _
  rw [h]
/-- What is left of G: no more. -/
def Sub (G' G : Nat → Option Ob) : Prop := ∀ x o, G' x = some o → G x = some o
/-- What take does. -/
def TkC (W : World) (T : List Nat) (t m N : Nat) (B : Nat → Option Nat) (f : Nat) : Prop := ∀ (G : Nat → Option Ob) (ns : List Nat) (n : Nat) (o : Ob) (w : World) (v : Value) (L : List Nat),
  TS W T t (some m) ns G w → ns.length ≤ f → G n = some o → (∀ x o, G x = some o → B x = some o.b ∧ o.ks.length ≤ 1000) → RW (fun b => N ≤ b) 35 (encB B) w v L → L.length + ns.length ≤ 100000 → W.heap.size ≤ N → (∀ b ∈ T, b < N) → N ≤ w.heap.size →
  Calls Try.prog 36 #[.pointer (some ⟨t, 0, none⟩), v, .pointer (some ⟨o.b, 0, none⟩), .int .u64 (n : Int)] w fun e w' => ∃ v', e = .returned v' ∧
    (∃ ns', TS W T t (some m) ns' (tk f G n).1 w' ∧ ns'.length + (tk f G n).2.length ≤ ns.length) ∧ RW (fun b => N ≤ b) 35 (encB B) w' v' (L ++ (tk f G n).2) ∧ Same T w w' ∧ KC w w' ∧ Sub (tk f G n).1 G ∧ w.heap.size ≤ w'.heap.size
end Go.Proofs.Ytodionedjokdmaa
