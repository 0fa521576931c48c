/- What a configuration may be. -/
import Derived.Test.YtmadldgajjgbmaaCe
import Derived.Test.YtmadldgajjgbmaaCd
set_option linter.unusedVariables false
set_option linter.unusedSimpArgs false
namespace Go.Proofs.Ytmadldgajjgbmaa
open Go.RowKit
set_option linter.unusedVariables false
set_option linter.unusedSimpArgs false
/-- An object's slices, to be read. -/
structure Ov.Rd (w : World) (o : Ov) : Prop where
  l : LA 300 w o.m.lD o.lv.a o.lv.n o.lv.c o.m.lP
  c : LA 300 w o.m.cD o.cv.a o.cv.n o.cv.c o.m.cP
  d : o.m.da.length = o.dv.n ∧ o.dv.n ≤ o.dv.c ∧ LR inB w o.dv.a o.m.da ∧ (∀ x ∈ o.m.da, x < 256) ∧ o.dv.n ≤ 100000
  p : o.m.mp.length = o.mv.n ∧ o.mv.n ≤ o.mv.c ∧ LV 5 encM w o.mv.a o.m.mp ∧ (∀ x ∈ o.m.mp, x.Ok) ∧ o.mv.n ≤ 100000
theorem Ov.Rd.below {w w' : World} {o : Ov} (h : o.Rd w) (hb : Below w.heap.size w w') : o.Rd w' :=
  ⟨h.l.below hb, h.c.below hb, ⟨h.d.1, h.d.2.1, h.d.2.2.1.below hb, h.d.2.2.2⟩, ⟨h.p.1, h.p.2.1, h.p.2.2.1.below hb, h.p.2.2.2⟩⟩
theorem Ov.Own.rd {B : Nat} {w : World} {o : Ov} (h : o.Own B w) (hd : o.m.da.length ≤ 100000) (hm : o.m.mp.length ≤ 100000) : o.Rd w := by
  obtain ⟨a1, n1, c1, e1, h1⟩ := h.l
  obtain ⟨a2, n2, c2, e2, h2⟩ := h.c
  obtain ⟨A3, c3, e3, h3, _, h4⟩ := h.d.1.form
  obtain ⟨A5, c5, e5, h5, _, h6⟩ := h.p.1.form
  injection e1 with e11 e12 e13
  injection e2 with e21 e22 e23
  injection e3 with e31 e32 e33
  injection e5 with e51 e52 e53
  subst e11 e12 e13 e21 e22 e23 e31 e33 e51 e53
  exact ⟨h1.la.mono (by omega), h2.la.mono (by omega), ⟨e32.symm, by omega, h4, h.d.2, by omega⟩, ⟨e52.symm, by omega, h6, h.p.2, by omega⟩⟩
/-- A configuration in memory, to be read. -/
structure CfR (w : World) (A1 A2 : Option Addr) (l1 l2 : Nat) (xs : List Sl) (ovs : List Ov) : Prop where
  n1 : xs.length = l1 ∧ l1 ≤ 100000
  r1 : LV 2 encSl w A1 xs
  o1 : ∀ x ∈ xs, x.Ok
  n2 : ovs.length = l2 ∧ l2 ≤ 100000
  r2 : LV 12 encO w A2 ovs
  o2 : ∀ o ∈ ovs, o.Rd w
theorem CfR.below {w w' : World} {A1 A2 : Option Addr} {l1 l2 : Nat} {xs : List Sl} {ovs : List Ov} (h : CfR w A1 A2 l1 l2 xs ovs) (hb : Below w.heap.size w w') : CfR w' A1 A2 l1 l2 xs ovs :=
  ⟨h.n1, h.r1.below hb, h.o1, h.n2, h.r2.below hb, fun o ho => (h.o2 o ho).below hb⟩
/-- The home's label, if it is a container. -/
def homeB (os : List Om) (pa : Int) : Option (Int × LP) := if pa = 0 then some (2, []) else match os[(pa - 1).toNat]? with
  | some p => if p.kd = 1 then some (p.lD, p.lP) else none
  | none => none
def hdrB (co fr nm : Int) (n s : Nat) : Bool := decide (1 ≤ co ∧ co ≤ 4 ∧ 1 ≤ fr ∧ fr ≤ 4096 ∧ 0 ≤ nm ∧ nm ≤ 4194302 ∧ n ≤ 64 ∧ 1 ≤ s ∧ s ≤ 8)
def slB (n : Nat) (x : Sl) : Bool := decide (1 ≤ x.tk ∧ x.tk ≤ 16 ∧ x.ct ≤ n)
def pln (P : LP) : Bool := decide ((Lab.owns P).length = 0)
def kindB (n : Nat) (o : Om) : Bool :=
  if o.kd = 1 then pln o.lP && decide (0 ≤ o.pg ∧ o.pg ≤ 4096 ∧ 0 ≤ o.nm ∧ o.nm ≤ 4194304)
  else if o.kd = 2 then pln o.lP && decide (0 ≤ o.pg ∧ o.pg ≤ 16 ∧ (o.da.length : Int) ≤ 64 * o.pg)
  else if o.kd = 4 then pln o.lP && mapsB n o.mp
  else if o.kd = 3 ∨ o.kd = 5 then Lab.right o.cD o.cP && (lq o.lD o.lP o.cD o.cP && decide (0 ≤ o.pc ∧ o.pc < 262144 ∧ 0 ≤ o.sp ∧ o.sp ≤ n))
  else if o.kd = 6 then pln o.lP else false
def homeOk (h : Option (Int × LP)) (o : Om) : Bool := match h with
  | none => false
  | some h => Lab.right o.lD o.lP && lq h.1 h.2 (Lab.turn 0 2 o.lD) (Lab.tn 0 2 o.lD o.lP)
def objB (os : List Om) (i : Nat) (o : Om) : Bool := decide (0 ≤ o.pa ∧ o.pa ≤ i) && (homeOk (homeB os o.pa) o && kindB os.length o)
def objsB (os : List Om) : Nat → List Om → Bool
  | _, [] => true
  | i, o :: r => objB os i o && objsB os (i + 1) r
def rightB (co fr nm : Int) (xs : List Sl) (os : List Om) : Bool := hdrB co fr nm os.length xs.length && xs.all (slB os.length) && objsB os 0 os
end Go.Proofs.Ytmadldgajjgbmaa
