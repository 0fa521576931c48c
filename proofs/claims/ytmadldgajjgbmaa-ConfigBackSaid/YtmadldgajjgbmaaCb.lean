/- A configuration: its objects in memory. -/
import Derived.Test.YtmadldgajjgbmaaCa
import Derived.Test.YtmadldgajjgbmaaVw
import Derived.Test.YtmadldgajjgbmaaSj
import Derived.Laws.Tables
import Derived.Laws.Rows
set_option linter.unusedVariables false
set_option linter.unusedSimpArgs false
namespace Go.Proofs.Ytmadldgajjgbmaa
open Go.RowKit
set_option linter.unusedVariables false
set_option linter.unusedSimpArgs false
/-- An object of a configuration. -/
structure Om where
  kd : Int
  pa : Int
  lD : Int
  lP : LP
  cD : Int
  cP : LP
  pg : Int
  nm : Int
  da : List Nat
  mp : List Mp
  sp : Int
  pc : Int
/-- A slice. -/
structure SlV where
  a : Option Addr
  n : Nat
  c : Nat
abbrev SlV.v (s : SlV) : Value := .slice s.a s.n s.c
/-- .. and its slices in memory. -/
structure Ov where
  m : Om
  lv : SlV
  cv : SlV
  dv : SlV
  mv : SlV
def arO (o : Ov) : Array Value := #[.int .i64 o.m.kd, .int .i64 o.m.pa, .int .i64 o.m.lD, o.lv.v, .int .i64 o.m.cD, o.cv.v, .int .i64 o.m.pg, .int .i64 o.m.nm, o.dv.v, o.mv.v, .int .i64 o.m.sp, .int .i64 o.m.pc]
def encO (o : Ov) : List Value := [.int .i64 o.m.kd, .int .i64 o.m.pa, .int .i64 o.m.lD, o.lv.v, .int .i64 o.m.cD, o.cv.v, .int .i64 o.m.pg, .int .i64 o.m.nm, o.dv.v, o.mv.v, .int .i64 o.m.sp, .int .i64 o.m.pc]
/-- A label's slice, laid since B. -/
def LOv (B : Nat) (w : World) (D : Int) (v : Value) (P : LP) : Prop := ∃ a n c, v = .slice a n c ∧ LO 12 B w D a n c P
/-- An object's slices, laid since B. -/
structure Ov.Own (B : Nat) (w : World) (o : Ov) : Prop where
  l : LOv B w o.m.lD o.lv.v o.m.lP
  c : LOv B w o.m.cD o.cv.v o.m.cP
  d : RW (fun b => B ≤ b) 5 inB w o.dv.v o.m.da ∧ ∀ x ∈ o.m.da, x < 256
  p : RV (fun b => B ≤ b) 93 5 encM w o.mv.v o.m.mp ∧ ∀ x ∈ o.m.mp, x.Ok
theorem LOv.below {B : Nat} {w w' : World} {D : Int} {v : Value} {P : LP} (h : LOv B w D v P) (hb : Below w.heap.size w w') : LOv B w' D v P := by
  obtain ⟨a, n, c, e, h⟩ := h
  exact ⟨a, n, c, e, h.below hb⟩
theorem LOv.nil (B : Nat) (w : World) (D : Int) : LOv B w D (.slice none 0 0) [] := ⟨none, 0, 0, rfl, Lab.ok_nil D, by simp, World.ownsRow_nil _ _ _ _⟩
theorem LOv.slice {B : Nat} {w : World} {D : Int} {v : Value} {P : LP} (h : LOv B w D v P) : ∃ a n c, v = .slice a n c := by
  obtain ⟨a, n, c, e, h⟩ := h
  exact ⟨a, n, c, e⟩
theorem LOv.keep {B : Nat} {w w' : World} {D : Int} {v : Value} {P : LP} (h : LOv B w D v P) (hk : ∀ b cur, B ≤ b → w.heap[b]? = some (Obj.cells cur 80) → w'.heap[b]? = w.heap[b]?) : LOv B w' D v P := by
  obtain ⟨a, n, c, e, h1, h2, h3, h4⟩ := h
  refine ⟨a, n, c, e, h1, h2, h3, h4.imp id fun ⟨g, cap, cur, e, k1, k2, r⟩ => ⟨g, cap, cur, e, k1, (hk g cur k1 k2).trans k2, r⟩⟩
theorem Ov.Own.keep {B : Nat} {w w' : World} {o : Ov} (h : o.Own B w) (hk : ∀ b cur u, B ≤ b → u ≠ 44 → w.heap[b]? = some (Obj.cells cur u) → w'.heap[b]? = w.heap[b]?) : o.Own B w' :=
  ⟨h.l.keep fun b cur h1 h2 => hk b cur _ h1 (by decide) h2, h.c.keep fun b cur h1 h2 => hk b cur _ h1 (by decide) h2, ⟨h.d.1.keep fun b cur h1 h2 => ⟨h1, hk b cur _ h1 (by decide) h2⟩, h.d.2⟩, ⟨h.p.1.keep fun b cur h1 h2 => ⟨h1, hk b cur _ h1 (by decide) h2⟩, h.p.2⟩⟩
theorem Ov.Own.other {B O : Nat} {w w' : World} {o : Ov} {cs : Array Value} (h : o.Own B w) (hO : w.heap[O]? = some (Obj.cells cs 44)) (hw : ∀ b, b ≠ O → w'.heap[b]? = w.heap[b]?) : o.Own B w' := h.keep fun b cur u _ hu hb => hw b fun e => by
  rw [e, hO] at hb
  injection hb with hb
  injection hb with _ hb
  exact hu hb.symm
theorem Ov.Own.below {B : Nat} {w w' : World} {o : Ov} (h : o.Own B w) (hb : Below w.heap.size w w') : o.Own B w' :=
  ⟨h.l.below hb, h.c.below hb, ⟨h.d.1.keep fun b cur h1 h2 => ⟨h1, hb.block b (Array.getElem?_eq_some_iff.1 h2).1⟩, h.d.2⟩, ⟨h.p.1.keep fun b cur h1 h2 => ⟨h1, hb.block b (Array.getElem?_eq_some_iff.1 h2).1⟩, h.p.2⟩⟩
/-- What a seed makes. -/
def cfgO (s : Sd) : Om :=
  if s.kd = 1 then ⟨s.kd, s.pa, Lab.seedD s.lS, Lab.seedP s.lS s.ls, 0, [], s.pg, s.nm, [], [], 0, 0⟩
  else if s.kd = 2 then ⟨s.kd, s.pa, Lab.seedD s.lS, Lab.seedP s.lS s.ls, 0, [], s.pg, 0, s.da, [], 0, 0⟩
  else if s.kd = 4 then ⟨s.kd, s.pa, Lab.seedD s.lS, Lab.seedP s.lS s.ls, 0, [], 0, 0, [], s.mp, 0, 0⟩
  else if s.kd = 3 ∨ s.kd = 5 then ⟨s.kd, s.pa, Lab.seedD s.lS, Lab.seedP s.lS s.ls, Lab.seedD s.cS, Lab.seedP s.cS s.cs, 0, 0, [], [], s.sp, s.pc⟩
  else ⟨s.kd, s.pa, Lab.seedD s.lS, Lab.seedP s.lS s.ls, 0, [], 0, 0, [], [], 0, 0⟩
/-- A seed's label, as a row. -/
theorem lov_of {B : Nat} {Sd : Int} {ls : List Int} {w w' : World} {e : Ending} (h : SeedIs Sd ls w e w') (hB : B ≤ w.heap.size) : ∃ a n c, e = .returned (.agg #[.int .i64 (Lab.seedD Sd), .slice a n c]) ∧ LOv B w' (Lab.seedD Sd) (.slice a n c) (Lab.seedP Sd ls) ∧ Below w.heap.size w w' := by
  obtain ⟨v, rfl, hf, ho, hb⟩ := h
  obtain ⟨a, n, c, rfl⟩ := RC.form (rc_of_owns ho (by have := hf.2.2.2.2; omega))
  refine ⟨a, n, c, rfl, ⟨a, n, c, rfl, hf.1, ⟨hf.2.2.2.2, by omega⟩, ?_⟩, hb⟩
  exact ⟨ho.1, ho.2.imp id fun ⟨g, cap, cur, e, h2, r⟩ => ⟨g, cap, cur, e, Nat.le_trans hB h2, r⟩⟩
section
variable {w : World} {A : Option Addr} {n c : Nat}
theorem info_parts {i : Option TypeInfo} {z : Value} {s b : Nat} (h : i.map (fun i => (i.zero, i.size, i.bytes)) = some (some z, s, b)) : ∃ j, i = some j ∧ j.zero = some z ∧ j.size = s ∧ j.bytes = b := by
  obtain ⟨j, rfl, e⟩ := Option.map_eq_some_iff.1 h
  injection e with e1 e2
  injection e2 with e2 e3
  exact ⟨j, rfl, e1, e2, e3⟩
theorem infoSl : (Try.prog.info? 49).map (fun i => (i.zero, i.size, i.bytes)) = some (some (.agg #[.int .u64 0, .int .i64 0]), 2, 16) := by kernel_rfl
theorem infoB : (Try.prog.info? 5).map (fun i => (i.zero, i.size, i.bytes)) = some (some (.int .u8 0), 1, 1) := by kernel_rfl
theorem infoM : (Try.prog.info? 93).map (fun i => (i.zero, i.size, i.bytes)) = some (some (.agg #[.int .i64 0, .int .u64 0, .int .i64 0, .int .i64 0, .bool false]), 5, 40) := by kernel_rfl
theorem infoO : (Try.prog.info? 44).map (fun i => (i.zero, i.size, i.bytes)) = some (some (.agg #[.int .i64 0, .int .i64 0, .int .i64 0, .slice none 0 0, .int .i64 0, .slice none 0 0, .int .i64 0, .int .i64 0, .slice none 0 0, .slice none 0 0, .int .i64 0, .int .i64 0]), 12, 160) := by kernel_rfl
theorem encSl_one (y : Sl) : ∀ u ∈ encSl y, u.oneCell' = true := by simp [encSl, inU, Value.oneCell']
theorem encM_one (y : Mp) : ∀ u ∈ encM y, u.oneCell' = true := by simp [encM, inU, Value.oneCell']
theorem below_none {S : List Nat} {w w' : World} (h : Turn S w w') (hS : ∀ b ∈ S, False) : Below w.heap.size w w' := h.below (Nat.le_refl _) fun b hb => (hS b hb).elim
/-- Appended to nothing. -/
theorem app_sl {xs : List Sl} (ty : TypeId) (hl : xs.length = n) (hn : n ≤ 100000) (hc : n ≤ c) (hr : LV 2 encSl w A xs) :
    ∃ v' w', (Builtin.append_ #[22, 22] ty #[.slice none 0 0, .slice A n c]).run Try.prog w = .ok v' w' ∧ RV (fun b => w.heap.size ≤ b) 49 2 encSl w' v' xs ∧ Below w.heap.size w w' := by
  obtain ⟨i, hi, hz, hsz, hby⟩ := info_parts infoSl
  subst hl
  obtain ⟨v', w', h1, h2, S, h3, h4⟩ := append_rv (P := Try.prog) (own := fun _ => False) (xs := []) (ys := xs) 22 ty i _ 16 Try.underlying22 hi hz hsz hby (by omega) rfl (fun _ => rfl) encSl_one (by omega) (RV.nil _ w) (by simpa using hn) A c hc hr
  exact ⟨v', w', h1, h2.keep fun b cur hb _ => ⟨hb.resolve_left id, rfl⟩, below_none h3 fun b hb => (h4 b hb).1⟩
theorem app_mp {xs : List Mp} (ty : TypeId) (hl : xs.length = n) (hn : n ≤ 100000) (hc : n ≤ c) (hr : LV 5 encM w A xs) :
    ∃ v' w', (Builtin.append_ #[42, 42] ty #[.slice none 0 0, .slice A n c]).run Try.prog w = .ok v' w' ∧ RV (fun b => w.heap.size ≤ b) 93 5 encM w' v' xs ∧ Below w.heap.size w w' := by
  obtain ⟨i, hi, hz, hsz, hby⟩ := info_parts infoM
  subst hl
  obtain ⟨v', w', h1, h2, S, h3, h4⟩ := append_rv (P := Try.prog) (own := fun _ => False) (xs := []) (ys := xs) 42 ty i _ 40 Try.underlying42 hi hz hsz hby (by omega) rfl (fun _ => rfl) encM_one (by omega) (RV.nil _ w) (by simpa using hn) A c hc hr
  exact ⟨v', w', h1, h2.keep fun b cur hb _ => ⟨hb.resolve_left id, rfl⟩, below_none h3 fun b hb => (h4 b hb).1⟩
theorem app_by {xs : List Nat} (ty : TypeId) (hl : xs.length = n) (hn : n ≤ 100000) (hc : n ≤ c) (hr : LR inB w A xs) :
    ∃ v' w', (Builtin.append_ #[33, 33] ty #[.slice none 0 0, .slice A n c]).run Try.prog w = .ok v' w' ∧ RW (fun b => w.heap.size ≤ b) 5 inB w' v' xs ∧ Below w.heap.size w w' := by
  obtain ⟨i, hi, hz, hsz, hby⟩ := info_parts infoB
  subst hl
  obtain ⟨v', w', h1, h2, S, h3, h4⟩ := append_rw (P := Try.prog) (own := fun _ => False) (xs := []) (ys := xs) 33 ty i _ 1 Try.underlying33 hi hz hsz hby (by omega) rfl (fun _ => rfl) (RW.nil _ w) (by simpa using hn) A c hc hr
  exact ⟨v', w', h1, h2.keep fun b cur hb _ => ⟨hb.resolve_left id, rfl⟩, below_none h3 fun b hb => (h4 b hb).1⟩
theorem encO_one (o : Ov) : ∀ u ∈ encO o, u.oneCell' = true := by simp [encO, Value.oneCell']
theorem encO_len (o : Ov) : (encO o).length = 12 := rfl
theorem arO_one (o : Ov) : (arO o).all (·.oneCell') = true := by simp [arO, Value.oneCell']
end
end Go.Proofs.Ytmadldgajjgbmaa
