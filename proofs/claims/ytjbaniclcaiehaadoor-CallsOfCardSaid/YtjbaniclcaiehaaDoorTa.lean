/- A call's text, read rune by rune: what it tells; the answer's block and its two lists of numbers. -/
import Derived.Test.YtjbaniclcaiehaaDoorSa
import Derived.Lib.OthersKept
import Derived.Laws.Runes
import Derived.Laws.Concat
set_option linter.unusedVariables false
set_option linter.unusedSimpArgs false
namespace Go.Proofs.YtjbaniclcaiehaaDoor
open Go.RowKit
set_option linter.unusedVariables false
set_option linter.unusedSimpArgs false
/-- The program's table of texts, as it is laid: each call's text stands at its number. -/
def TXL : List (List UInt8) := [[], [99, 97, 116, 110, 101, 119], [115, 101, 108, 102, 108, 97, 98, 101, 108], [115, 101, 108, 102, 99, 108, 101, 97, 114], [115, 101, 108, 102], [108, 97, 98, 101, 108, 111, 102, 32, 58, 49], [99, 111, 110, 116, 110, 101, 119, 32, 49, 58], [115, 101, 103, 110, 101, 119, 32, 49, 58], [115, 112, 97, 99, 101, 110, 101, 119, 32, 49, 58], [116, 104, 114, 101, 97, 100, 110, 101, 119, 32, 49, 58], [103, 97, 116, 101, 110, 101, 119, 32, 49, 58], [117, 110, 114, 101, 102, 32, 49, 32, 50, 58], [115, 116, 97, 116, 32, 58, 49], [108, 105, 115, 116, 32, 58, 49], [113, 117, 111, 116, 97, 32, 58, 49], [109, 111, 118, 101, 32, 49, 32, 50, 58], [114, 101, 115, 105, 122, 101, 32, 49, 58], [114, 101, 97, 100, 32, 58, 49], [119, 114, 105, 116, 101, 32, 49, 58], [99, 111, 112, 121, 32, 49, 58, 51], [109, 97, 112, 32, 49, 58, 51], [117, 110, 109, 97, 112, 32, 49, 58], [117, 115, 101, 32, 58, 49], [101, 110, 116, 101, 114, 32, 58, 49], [104, 97, 108, 116], [115, 116, 97, 114, 116, 32, 49, 58], [119, 97, 105, 116, 32, 58, 49], [119, 97, 107, 101, 32, 49, 58], [97, 108, 101, 114, 116, 32, 49, 58], [97, 108, 101, 114, 116, 103, 101, 116], [100, 101, 118, 114, 101, 97, 100, 32, 49, 58], [100, 101, 118, 119, 114, 105, 116, 101, 32, 49, 58], [99, 108, 111, 99, 107], [121, 105, 101, 108, 100], [115, 101, 116, 105, 110, 102, 111, 32, 49, 58], [105, 110, 102, 111, 32, 58, 49], [109, 97, 112, 97, 116, 32, 58, 49], [104, 111, 109, 101, 111, 102, 32, 58, 49], [111, 119, 110, 101, 100], [108, 101, 118, 101, 108, 32, 58, 49], [114, 105, 103, 104, 116, 115, 32, 58, 49]]
/-- What was read of a text: name, two lists, and whether the colon was passed. -/
structure Pt where
  nm : List UInt8
  l1 : List Int
  l2 : List Int
  r : Bool
def stp (x : Pt) (c : UInt8) : Pt :=
  if c.toNat = 58 then { x with r := true }
  else if 49 ≤ c.toNat ∧ c.toNat ≤ 53 then (if x.r = true then { x with l2 := x.l2 ++ [((c.toNat - 48 : Nat) : Int)] } else { x with l1 := x.l1 ++ [((c.toNat - 48 : Nat) : Int)] })
  else if c.toNat = 32 then x
  else { x with nm := x.nm ++ [c] }
def prs (l : List UInt8) : Pt := l.foldl stp ⟨[], [], [], false⟩
theorem prs_snoc (l : List UInt8) (c : UInt8) : prs (l ++ [c]) = stp (prs l) c := by unfold prs; rw [List.foldl_append]; rfl
theorem stp_len (x : Pt) (c : UInt8) : (stp x c).nm.length ≤ x.nm.length + 1 ∧ (stp x c).l1.length ≤ x.l1.length + 1 ∧ (stp x c).l2.length ≤ x.l2.length + 1 := by
  unfold stp
  split
  · exact ⟨Nat.le_succ _, Nat.le_succ _, Nat.le_succ _⟩
  · split
    · split
      · refine ⟨Nat.le_succ _, Nat.le_succ _, ?_⟩; simp
      · refine ⟨Nat.le_succ _, ?_, Nat.le_succ _⟩; simp
    · split
      · exact ⟨Nat.le_succ _, Nat.le_succ _, Nat.le_succ _⟩
      · refine ⟨?_, Nat.le_succ _, Nat.le_succ _⟩; simp
theorem foldl_len : ∀ (l : List UInt8) (x : Pt), (l.foldl stp x).nm.length ≤ x.nm.length + l.length ∧ (l.foldl stp x).l1.length ≤ x.l1.length + l.length ∧ (l.foldl stp x).l2.length ≤ x.l2.length + l.length
  | [], x => ⟨Nat.le_refl _, Nat.le_refl _, Nat.le_refl _⟩
  | c :: l, x => by
    have h := foldl_len l (stp x c)
    have k := stp_len x c
    simp only [List.foldl_cons, List.length_cons]
    omega
theorem prs_len (l : List UInt8) : (prs l).nm.length ≤ l.length ∧ (prs l).l1.length ≤ l.length ∧ (prs l).l2.length ≤ l.length := by
  have h := foldl_len l ⟨[], [], [], false⟩
  simpa [prs] using h
theorem txl_at {k : Nat} (h1 : 1 ≤ k) (h2 : k ≤ 40) : (prs (TXL.getD k [])).nm = (spO k).1 ∧ (prs (TXL.getD k [])).l1 = (spO k).2.1 ∧ (prs (TXL.getD k [])).l2 = (spO k).2.2 ∧ (TXL.getD k []).length ≤ 20 ∧ ∀ c ∈ TXL.getD k [], c.toNat < 128 := by
  rcases (by omega : k = 1 ∨ k = 2 ∨ k = 3 ∨ k = 4 ∨ k = 5 ∨ k = 6 ∨ k = 7 ∨ k = 8 ∨ k = 9 ∨ k = 10 ∨ k = 11 ∨ k = 12 ∨ k = 13 ∨ k = 14 ∨ k = 15 ∨ k = 16 ∨ k = 17 ∨ k = 18 ∨ k = 19 ∨ k = 20 ∨ k = 21 ∨ k = 22 ∨ k = 23 ∨ k = 24 ∨ k = 25 ∨ k = 26 ∨ k = 27 ∨ k = 28 ∨ k = 29 ∨ k = 30 ∨ k = 31 ∨ k = 32 ∨ k = 33 ∨ k = 34 ∨ k = 35 ∨ k = 36 ∨ k = 37 ∨ k = 38 ∨ k = 39 ∨ k = 40) with rfl | rfl | rfl | rfl | rfl | rfl | rfl | rfl | rfl | rfl | rfl | rfl | rfl | rfl | rfl | rfl | rfl | rfl | rfl | rfl | rfl | rfl | rfl | rfl | rfl | rfl | rfl | rfl | rfl | rfl | rfl | rfl | rfl | rfl | rfl | rfl | rfl | rfl | rfl | rfl <;> decide +kernel
theorem enc_ascii {n : Nat} (h : n < 128) : Utf8.encode (n : Int) = S [UInt8.ofNat n] := by
  have hv : Utf8.valid (n : Int) = true := by
    have : ∀ n < 128, Utf8.valid ((n : Nat) : Int) = true := by decide +kernel
    exact this n h
  unfold Utf8.encode
  simp only [hv, if_true, Int.toNat_natCast, h]
  rfl
theorem at_txt {l : List UInt8} {k : Nat} {c : UInt8} (hk : l[k]? = some c) : ∃ h : k < (S l).size, (S l)[k]'h = c := by
  have hl : k < l.length := (List.getElem?_eq_some_iff.1 hk).1
  have hs : k < (S l).size := by rw [S_size]; exact hl
  refine ⟨hs, ?_⟩
  have h2 := (List.getElem?_eq_some_iff.1 hk).2
  show (S l).data[k]'_ = _
  simp [S, h2]
/-- Numbers are appended to a list of one's own; blocks that are no rows of numbers stay. -/
theorem app_m {w : World} {B n c : Nat} {v : Value} {A : Option Addr} {xs ys : List Int} (ty : TypeId) (hl : ys.length = n) (hn : xs.length + n ≤ 100000) (hc : n ≤ c) (hB : B ≤ w.heap.size) (hv : RW (fun b => B ≤ b) 3 inI w v xs) (hr : NR w A ys) :
    ∃ (v' : Value) (w' : World), (Builtin.append_ #[27, 27] ty #[v, .slice A n c]).run Tryd.prog w = .ok v' w' ∧ RW (fun b => B ≤ b) 3 inI w' v' (xs ++ ys) ∧ Below B w w' ∧ Lib.OthersKept 3 none w w' := by
  obtain ⟨i, hi, hz, hsz, hby⟩ := info_parts infoI
  subst hl
  obtain ⟨v', w', h1, h2, Z, h3, h4⟩ := append_rw (P := Tryd.prog) (own := fun b => B ≤ b) (xs := xs) (ys := ys) (enc := inI) 27 ty i _ 8 Tryd.underlying27 hi hz hsz hby (by omega) rfl (fun _ => rfl) hv hn A c hc hr
  exact ⟨v', w', h1, h2.keep fun b cur hb _ => ⟨hb.elim id fun h => Nat.le_trans hB h, rfl⟩, h3.below hB fun b hb => (h4 b hb).1, fun b o hb _ ho => (h3.block b (Array.getElem?_eq_some_iff.1 hb).1 fun hm => by
    obtain ⟨_, cur, hc⟩ := h4 b hm
    rw [hb] at hc
    exact ho _ _ (Option.some.inj hc)).trans hb⟩
def zSp : Array Value := #[.string ⟨#[]⟩, .slice none 0 0, .slice none 0 0]
/-- The answer is being made: R its place, X what is made, IT the iterator. -/
structure SI (W : World) (R X IT : Nat) (s : ByteArray) (x : Pt) (k : Nat) (w : World) : Prop where
  b : Below W.heap.size W w
  lo : W.heap.size ≤ R ∧ W.heap.size ≤ X ∧ W.heap.size ≤ IT ∧ R ≠ X
  i : w.heap[IT]? = some (Obj.stringIter s k)
  z : w.heap[R]? = some (Obj.cells zSp 29)
  x : ∃ A1 c1 A2 c2, w.heap[X]? = some (Obj.cells #[.string (S x.nm), .slice A1 x.l1.length c1, .slice A2 x.l2.length c2] 29) ∧
    ∃ D, W.heap.size ≤ D ∧ D ≤ w.heap.size ∧ RW (fun b => W.heap.size ≤ b ∧ b < D) 3 inI w (.slice A1 x.l1.length c1) x.l1 ∧ RW (fun b => D ≤ b) 3 inI w (.slice A2 x.l2.length c2) x.l2 ∧ (x.r = false → x.l2 = [] ∧ A2 = none ∧ c2 = 0)
section
variable {W w : World} {R X IT k : Nat} {s : ByteArray} {x : Pt}
theorem row_keep {own : Nat → Prop} {v : Value} {l : List Int} {w' : World} (h : RW own 3 inI w v l) (hk : ∀ (b : Nat) (cur : Array Value), w.heap[b]? = some (Obj.cells cur 3) → w'.heap[b]? = w.heap[b]?) : RW own 3 inI w' v l :=
  h.keep fun b cur h1 h2 => ⟨h1, hk b cur h2⟩
theorem SI.iter (h : SI W R X IT s x k w) : SI W R X IT s x (k + 1) (w.iterAt IT s (k + 1)) := by
  have hne : ∀ {b o}, w.heap[b]? = some o → (∀ s p, o ≠ Obj.stringIter s p) → b ≠ IT := fun hb ho e => by
    rw [e, h.i] at hb
    exact ho _ _ (Option.some.inj hb).symm
  have ho : ∀ {b o}, w.heap[b]? = some o → (∀ s p, o ≠ Obj.stringIter s p) → (w.iterAt IT s (k + 1)).heap[b]? = w.heap[b]? := fun hb ho => Lib.iterAt_other w IT _ s (k + 1) (hne hb ho)
  obtain ⟨A1, c1, A2, c2, hX, D, hD, hDw, r1, r2, hr⟩ := h.x
  refine ⟨Lib.below_iterAt h.b h.lo.2.2.1 s (k + 1), h.lo, Lib.iterAt_heap w IT s k (k + 1) h.i, (ho h.z (fun _ _ => Obj.noConfusion)).trans h.z, A1, c1, A2, c2, (ho hX (fun _ _ => Obj.noConfusion)).trans hX, D, hD, by rw [Lib.iterAt_size]; exact hDw, ?_, ?_, hr⟩
  · exact row_keep r1 fun b cur hb => ho hb (fun _ _ => Obj.noConfusion)
  · exact row_keep r2 fun b cur hb => ho hb (fun _ _ => Obj.noConfusion)
theorem SI.mark (h : SI W R X IT s x k w) : SI W R X IT s { x with r := true } k w := by
  obtain ⟨A1, c1, A2, c2, hX, D, hD, hDw, r1, r2, hr⟩ := h.x
  exact ⟨h.b, h.lo, h.i, h.z, A1, c1, A2, c2, hX, D, hD, hDw, r1, r2, fun e => by cases e⟩
theorem ne_iter {b : Nat} {cs : Array Value} {t : TypeId} (h : SI W R X IT s x k w) (hb : w.heap[b]? = some (Obj.cells cs t)) : IT ≠ b := fun e => by
  rw [← e, h.i] at hb
  cases hb
theorem ne_row {b g : Nat} {cs cur : Array Value} (hb : w.heap[b]? = some (Obj.cells cs 29)) (hg : w.heap[g]? = some (Obj.cells cur 3)) : g ≠ b := fun e => by
  rw [e, hb] at hg
  simp at hg
theorem SI.name (h : SI W R X IT s x k w) (c : UInt8) : SI W R X IT s { x with nm := x.nm ++ [c] } k (w.setCell ⟨X, 0, none⟩ (.string (S (x.nm ++ [c])))) := by
  obtain ⟨A1, c1, A2, c2, hX, D, hD, hDw, r1, r2, hr⟩ := h.x
  have ht := Turn.set w X 0 (.string (S (x.nm ++ [c])))
  refine ⟨h.b.trans (ht.below h.b.size fun b hb => by rw [List.mem_singleton.1 hb]; exact h.lo.2.1), h.lo, (heap_setCell_other w ⟨X, 0, none⟩ _ _ (ne_iter h hX)).trans h.i, (heap_setCell_other w ⟨X, 0, none⟩ _ _ h.lo.2.2.2).trans h.z, A1, c1, A2, c2, heap_setCell_same w X 0 _ _ _ hX, D, hD, Nat.le_trans hDw ht.size, ?_, ?_, hr⟩
  · exact row_keep r1 fun b cur hb => heap_setCell_other w ⟨X, 0, none⟩ _ _ (ne_row hX hb)
  · exact row_keep r2 fun b cur hb => heap_setCell_other w ⟨X, 0, none⟩ _ _ (ne_row hX hb)
theorem nr_one {n : Int} : NR (w.alloc (Obj.cells #[.int .i64 n] 3)) (some ⟨w.heap.size, 0, none⟩) [n] := fun i y hi => by
  have hn2 := heap_alloc_new w (Obj.cells #[.int .i64 n] 3)
  match i, hi with
  | 0, hi => obtain rfl : n = y := by simpa using hi
             exact ⟨_, _, rfl, (Array.getElem?_eq_some_iff.1 hn2).1, by rw [cell_of_row _ _ _ _ _ (0, 0) hn2]; rfl⟩
/-- A number ahead of the colon. -/
theorem SI.num1 (h : SI W R X IT s x k w) (hr : x.r = false) (hl : x.l1.length ≤ 1000) (n : Int) {A1 A2 : Option Addr} {c1 c2 : Nat} (hX : w.heap[X]? = some (Obj.cells #[.string (S x.nm), .slice A1 x.l1.length c1, .slice A2 x.l2.length c2] 29)) :
    ∃ A' c' w', (Builtin.append_ #[27, 27] 27 #[.slice A1 x.l1.length c1, .slice (some ⟨w.heap.size, 0, none⟩) 1 1]).run Tryd.prog (w.alloc (Obj.cells #[.int .i64 n] 3)) = .ok (.slice A' (x.l1 ++ [n]).length c') w' ∧ ((∃ o, w'.cell? ⟨X, 1, none⟩ = some o) ∧ w'.frozen? ⟨X, 1, none⟩ = false) ∧
      SI W R X IT s { x with l1 := x.l1 ++ [n] } k (w'.setCell ⟨X, 1, none⟩ (.slice A' (x.l1 ++ [n]).length c')) := by
  obtain ⟨A1', c1', A2', c2', hX', D, hD, hDw, r1, r2, hre⟩ := h.x
  obtain ⟨e1, e2⟩ : (Value.slice A1 x.l1.length c1 = Value.slice A1' x.l1.length c1') ∧ (Value.slice A2 x.l2.length c2 = Value.slice A2' x.l2.length c2') := by
    rw [hX] at hX'
    have := congrArg (fun o => match o with | some (Obj.cells cs _ _) => cs.toList | _ => []) hX'
    simp only [List.cons.injEq] at this
    exact ⟨this.2.1, this.2.2.1⟩
  rw [← e1] at r1
  obtain ⟨el2, eA2, ec2⟩ := hre hr
  obtain ⟨rfl, rfl⟩ : A2 = none ∧ c2 = 0 := by
    injection e2 with p q r
    exact ⟨p.trans eA2, r.trans ec2⟩
  have hb := below_alloc1 w (Obj.cells #[.int .i64 n] 3)
  have hbl : ∀ {b o}, w.heap[b]? = some o → (w.alloc (Obj.cells #[.int .i64 n] 3)).heap[b]? = some o := fun hb' => (hb.block _ (Array.getElem?_eq_some_iff.1 hb').1).trans hb'
  obtain ⟨v', w', hrun, hv', hb3, hot⟩ := app_m (B := W.heap.size) (w := w.alloc (Obj.cells #[.int .i64 n] 3)) (n := 1) (c := 1) (A := some ⟨w.heap.size, 0, none⟩) (v := .slice A1 x.l1.length c1) (xs := x.l1) (ys := [n]) 27 rfl (by omega) (by omega) (Nat.le_trans h.b.size hb.size) (r1.keep fun b cur q1 q2 => ⟨q1.1, hb.block b (Array.getElem?_eq_some_iff.1 q2).1⟩) nr_one
  have hX3 := hot X _ (hbl hX) (by simp) (fun _ _ e => by simp at e)
  have hR3 := hot R _ (hbl h.z) (by simp) (fun _ _ e => by simp at e)
  have hI3 := hot IT _ (hbl h.i) (by simp) (fun _ _ e => by cases e)
  obtain ⟨A', c', rfl, _, _, _⟩ := hv'.form
  have ht := Turn.set w' X 1 (.slice A' (x.l1 ++ [n]).length c')
  have hB : Below W.heap.size W w' := h.b.trans ((hb.mono h.b.size).trans hb3)
  have hXI : IT ≠ X := ne_iter h hX
  refine ⟨A', c', w', hrun, ⟨⟨_, by rw [cell_of_row _ _ _ _ _ (0, 0) hX3]; rfl⟩, frozen_of_row _ _ _ _ _ hX3⟩, hB.trans (ht.below hB.size fun b hb => by rw [List.mem_singleton.1 hb]; exact h.lo.2.1), h.lo, (heap_setCell_other w' ⟨X, 1, none⟩ _ _ hXI).trans hI3, (heap_setCell_other w' ⟨X, 1, none⟩ _ _ h.lo.2.2.2).trans hR3, A', c', none, 0, heap_setCell_same w' X 1 _ _ _ hX3, w'.heap.size, hB.size, ht.size, ?_, ?_, fun _ => ⟨el2, rfl, rfl⟩⟩
  · exact hv'.keep fun b cur q1 q2 => ⟨⟨q1, (Array.getElem?_eq_some_iff.1 q2).1⟩, heap_setCell_other w' ⟨X, 1, none⟩ _ _ (ne_row hX3 q2)⟩
  · show RW _ _ _ _ (.slice none x.l2.length 0) x.l2
    rw [el2]
    exact RW.nil _ _
/-- A number behind the colon. -/
theorem SI.num2 (h : SI W R X IT s x k w) (hr : x.r = true) (hl : x.l2.length ≤ 1000) (n : Int) {A1 A2 : Option Addr} {c1 c2 : Nat} (hX : w.heap[X]? = some (Obj.cells #[.string (S x.nm), .slice A1 x.l1.length c1, .slice A2 x.l2.length c2] 29)) :
    ∃ A' c' w', (Builtin.append_ #[27, 27] 27 #[.slice A2 x.l2.length c2, .slice (some ⟨w.heap.size, 0, none⟩) 1 1]).run Tryd.prog (w.alloc (Obj.cells #[.int .i64 n] 3)) = .ok (.slice A' (x.l2 ++ [n]).length c') w' ∧ ((∃ o, w'.cell? ⟨X, 2, none⟩ = some o) ∧ w'.frozen? ⟨X, 2, none⟩ = false) ∧
      SI W R X IT s { x with l2 := x.l2 ++ [n] } k (w'.setCell ⟨X, 2, none⟩ (.slice A' (x.l2 ++ [n]).length c')) := by
  obtain ⟨A1', c1', A2', c2', hX', D, hD, hDw, r1, r2, hre⟩ := h.x
  obtain ⟨e1, e2⟩ : (Value.slice A1 x.l1.length c1 = Value.slice A1' x.l1.length c1') ∧ (Value.slice A2 x.l2.length c2 = Value.slice A2' x.l2.length c2') := by
    rw [hX] at hX'
    have := congrArg (fun o => match o with | some (Obj.cells cs _ _) => cs.toList | _ => []) hX'
    simp only [List.cons.injEq] at this
    exact ⟨this.2.1, this.2.2.1⟩
  rw [← e1] at r1
  rw [← e2] at r2
  have hb := below_alloc1 w (Obj.cells #[.int .i64 n] 3)
  have hbl : ∀ {b o}, w.heap[b]? = some o → (w.alloc (Obj.cells #[.int .i64 n] 3)).heap[b]? = some o := fun hb' => (hb.block _ (Array.getElem?_eq_some_iff.1 hb').1).trans hb'
  obtain ⟨v', w', hrun, hv', hb3, hot⟩ := app_m (B := D) (w := w.alloc (Obj.cells #[.int .i64 n] 3)) (n := 1) (c := 1) (A := some ⟨w.heap.size, 0, none⟩) (v := .slice A2 x.l2.length c2) (xs := x.l2) (ys := [n]) 27 rfl (by omega) (by omega) (Nat.le_trans hDw hb.size) (r2.keep fun b cur q1 q2 => ⟨q1, hb.block b (Array.getElem?_eq_some_iff.1 q2).1⟩) nr_one
  have hX3 := hot X _ (hbl hX) (by simp) (fun _ _ e => by simp at e)
  have hR3 := hot R _ (hbl h.z) (by simp) (fun _ _ e => by simp at e)
  have hI3 := hot IT _ (hbl h.i) (by simp) (fun _ _ e => by cases e)
  obtain ⟨A', c', rfl, _, _, _⟩ := hv'.form
  have ht := Turn.set w' X 2 (.slice A' (x.l2 ++ [n]).length c')
  have hDB : Below D w w' := (hb.mono hDw).trans hb3
  have hB : Below W.heap.size W w' := h.b.trans (hDB.mono hD)
  have hXI : IT ≠ X := ne_iter h hX
  refine ⟨A', c', w', hrun, ⟨⟨_, by rw [cell_of_row _ _ _ _ _ (0, 0) hX3]; rfl⟩, frozen_of_row _ _ _ _ _ hX3⟩, hB.trans (ht.below hB.size fun b hb => by rw [List.mem_singleton.1 hb]; exact h.lo.2.1), h.lo, (heap_setCell_other w' ⟨X, 2, none⟩ _ _ hXI).trans hI3, (heap_setCell_other w' ⟨X, 2, none⟩ _ _ h.lo.2.2.2).trans hR3, A1, c1, A', c', heap_setCell_same w' X 2 _ _ _ hX3, D, hD, Nat.le_trans hDw (Nat.le_trans hDB.size ht.size), ?_, ?_, fun e => by rw [show x.r = false from e] at hr; cases hr⟩
  · exact r1.keep fun b cur q1 q2 => ⟨q1, (heap_setCell_other w' ⟨X, 2, none⟩ _ _ (ne_row hX q2)).trans (hDB.block b q1.2)⟩
  · exact hv'.keep fun b cur q1 q2 => ⟨q1, heap_setCell_other w' ⟨X, 2, none⟩ _ _ (ne_row hX3 q2)⟩
end
end Go.Proofs.YtjbaniclcaiehaaDoor
