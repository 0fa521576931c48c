/- Words for what the calls of pages do. -/
import Derived.Test.YtliljicmkgbfpaaHb
set_option linter.unusedVariables false
set_option linter.unusedSimpArgs false
namespace Pg
/-- Where a page leads, whatever number it is. -/
def at_ (mp : Nat → Option (Nat × Bool)) (page : Int) : Option (Nat × Bool) := if 0 ≤ page ∧ page < 4096 then mp page.toNat else none
def fr (x : Option (Nat × Bool)) : Nat := match x with
  | some y => y.1
  | none => 0
def ok (x : Option (Nat × Bool)) : Bool := match x with
  | some y => y.2
  | none => false
def many (mp : Nat → Option (Nat × Bool)) (f : Nat) : Nat := ((List.range 4096).filter fun p => match mp p with
  | some x => x.1 == f
  | none => false).length
/-- What others have is as it was. -/
def Oth (o : Nat) (os : List Nat) (ds : List (List Nat)) (os' : List Nat) (ds' : List (List Nat)) : Prop :=
  os'.length = os.length ∧ ds'.length = ds.length ∧ ∀ x, x ≠ 0 → x ≠ o → os'.count x = os.count x ∧ ∀ f, 1 ≤ f → f ≤ os.length → os.getD (f - 1) 0 = x → os'.getD (f - 1) 0 = x ∧ ds'.getD (f - 1) [] = ds.getD (f - 1) []
theorem Tb.oth {os os' : List Nat} {ds ds' : List (List Nat)} {o x : Nat} {ks : List (Nat × Nat)} {nd : Nat → Nat → Nat} {mp : Nat → Option (Nat × Bool)} (h : Tb os ds x ks nd mp) (k : Oth o os ds os' ds') (hx : x ≠ o) : Tb os' ds' x ks nd mp :=
  h.keep k.1 k.2.1 (k.2.2 x h.own0 hx).1 (k.2.2 x h.own0 hx).2
theorem need_of (ks : List (Nat × Nat)) (p : Nat) : ∃ n, n ≤ 3 ∧ (fill ks p).length = ks.length + n := ⟨(fill ks p).length - ks.length, by have := fill_len ks p; omega, by have := fill_len ks p; omega⟩
end Pg
