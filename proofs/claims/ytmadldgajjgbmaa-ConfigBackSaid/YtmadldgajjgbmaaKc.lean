import Derived.Test.YtmadldgajjgbmaaKa
import Derived.Test.YtmadldgajjgbmaaSj
import Derived.Laws.Rows
import Derived.Deep.AppendLies
import Derived.Maps.AppendAt
import Derived.Lib.SliceRun
import Derived.Laws.AppendOwnNone
namespace Go.Proofs.Ytmadldgajjgbmaa
open Go.RowKit
set_option linter.unusedVariables false
set_option linter.unusedSimpArgs false

theorem info5 : (Try.prog.info? 5).map (fun i => (i.zero, i.size, i.bytes)) = some (some (.int .u8 0), 1, 1) := by kernel_rfl
/-- Bytes, as cells. -/
def Y (bs : List Nat) : List Value := bs.map (fun (c : Nat) => Value.int .u8 (c : Int))
theorem Y_len (bs : List Nat) : (Y bs).length = bs.length := by simp [Y]
theorem Y_app (ds bs : List Nat) : Y (ds ++ bs) = Y ds ++ Y bs := by simp [Y]
theorem Y_get {bs : List Nat} {i : Nat} {u : Value} (h : (Y bs)[i]? = some u) : ∃ x : Nat, bs[i]? = some x ∧ u = .int .u8 (x : Int) := by
  unfold Y at h
  rw [List.getElem?_map] at h
  cases hb : bs[i]? with
  | none => rw [hb] at h; cases h
  | some x => rw [hb] at h; exact ⟨x, rfl, by simpa using h.symm⟩
theorem Y_at {bs : List Nat} {i x : Nat} (h : bs[i]? = some x) : (Y bs)[i]? = some (.int .u8 (x : Int)) := by
  unfold Y; rw [List.getElem?_map, h]; rfl
theorem Y_one (bs : List Nat) : ∀ u ∈ Y bs, u.oneCell' = true := by
  intro u hu
  obtain ⟨j, hj⟩ := List.mem_iff_getElem?.1 hu
  obtain ⟨x, _, rfl⟩ := Y_get hj
  rfl
/-- Bytes that are read at A. -/
def BR (w : World) (A : Option Addr) (bs : List Nat) : Prop := ∀ (i x : Nat), bs[i]? = some x → ∃ b off, A = some ⟨b, off, none⟩ ∧ b < w.heap.size ∧ w.cell? ⟨b, off + i, none⟩ = some (.int .u8 (x : Int))
theorem BR.nil (w : World) (A : Option Addr) : BR w A [] := fun i x h => by simp at h
theorem BR.below {w w' : World} {A : Option Addr} {bs : List Nat} (h : BR w A bs) (hb : Below w.heap.size w w') : BR w' A bs := fun i x hi => by
  obtain ⟨b, off, h1, h2, h3⟩ := h i x hi
  exact ⟨b, off, h1, Nat.lt_of_lt_of_le h2 hb.size, by rw [hb.cell (p := ⟨b, _, none⟩) h2]; exact h3⟩
/-- Bytes in a block of bytes. -/
def YR (w : World) (A : Option Addr) (bs : List Nat) : Prop := ∀ (i x : Nat), bs[i]? = some x → ∃ b off cs, A = some ⟨b, off, none⟩ ∧ w.heap[b]? = some (Obj.cells cs 5) ∧ cs[off + i]? = some (.int .u8 (x : Int))
theorem YR.br {w : World} {A : Option Addr} {bs : List Nat} (h : YR w A bs) : BR w A bs := fun i x hi => by
  obtain ⟨b, off, cs, h1, h2, h3⟩ := h i x hi
  exact ⟨b, off, h1, (Array.getElem?_eq_some_iff.1 h2).1, by rw [cell_of_row _ _ _ _ 5 (0, 0) h2]; exact h3⟩
theorem YR.kept {w w' : World} {A : Option Addr} {bs : List Nat} (h : YR w A bs) (hk : ∀ (b : Nat) (cs : Array Value), w.heap[b]? = some (Obj.cells cs 5) → w'.heap[b]? = some (Obj.cells cs 5)) : YR w' A bs := fun i x hi => by
  obtain ⟨b, off, cs, h1, h2, h3⟩ := h i x hi
  exact ⟨b, off, cs, h1, hk b cs h2, h3⟩
theorem YR.take {w : World} {A : Option Addr} {bs : List Nat} (h : YR w A bs) (k : Nat) : YR w A (bs.take k) := fun i x hi => by
  rw [List.getElem?_take] at hi
  split at hi
  · exact h i x hi
  · cases hi
theorem YR.drop {w : World} {A : Option Addr} {bs : List Nat} (h : YR w A bs) {k c : Nat} (hc : bs.length ≤ c) : YR w (if c = k then A else A.map (·.add k)) (bs.drop k) := fun i x hi => by
  rw [List.getElem?_drop] at hi
  have hl := (List.getElem?_eq_some_iff.1 hi).1
  rw [if_neg (by omega)]
  obtain ⟨b, off, cs, rfl, h2, h3⟩ := h _ x hi
  exact ⟨b, off + k, cs, by rw [Option.map_some, addr_addq], h2, by rw [← h3]; congr 1; omega⟩
/-- Bytes of a call's own. -/
def NB (X : Nat) (w : World) (bs : List Nat) (v : Value) : Prop := w.ownsRow X 5 1 v bs.length (Y bs)
theorem NB.nil (X : Nat) (w : World) : NB X w [] (.slice none 0 0) := World.ownsRow_nil _ _ _ _
theorem NB.form {X : Nat} {w : World} {bs : List Nat} {v : Value} (h : NB X w bs v) : ∃ A c, v = .slice A bs.length c ∧ bs.length ≤ c ∧ YR w A bs ∧ (A = none → c = 0) := by
  rcases h.2 with ⟨h1, h2⟩ | ⟨g, cap, cur, h1, hg, hh, hc, h3⟩
  · have hl : bs.length = 0 := h2
    obtain rfl := List.eq_nil_of_length_eq_zero hl
    exact ⟨none, 0, h1, Nat.le_refl _, fun i x hi => by simp at hi, fun _ => rfl⟩
  · refine ⟨_, cap, h1, hc, fun i x hi => ⟨g, 0, cur, rfl, hh, ?_⟩, fun e => by cases e⟩
    have := h.cells (g := g) (by rw [h1]; rfl) i _ (Y_at hi)
    rw [addr_addq, cell_of_row _ _ _ _ 5 (0, 0) hh] at this
    exact this
theorem NB.mono {X X' : Nat} {w : World} {bs : List Nat} {v : Value} (h : NB X w bs v) (hX : X' ≤ X) : NB X' w bs v := owns_mono h hX
/-- A reader in memory. -/
def Rd (w : World) (R : Nat) (bs : List Nat) (bad : Bool) : Prop :=
  ∃ A c, w.heap[R]? = some (Obj.cells #[.slice A bs.length c, .bool bad] 100) ∧ bs.length ≤ c ∧ bs.length ≤ 140737488351232 ∧ YR w A bs ∧ (∀ x ∈ bs, x < 256) ∧ (A = none → c = 0)
theorem Rd.lt {w : World} {R : Nat} {bs : List Nat} {bad : Bool} (h : Rd w R bs bad) : R < w.heap.size := by
  obtain ⟨A, c, h1, _⟩ := h
  exact (Array.getElem?_eq_some_iff.1 h1).1
theorem Rd.kept {w w' : World} {R : Nat} {bs : List Nat} {bad : Bool} (h : Rd w R bs bad) (hk : ∀ (b : Nat) (cs : Array Value), w.heap[b]? = some (Obj.cells cs 5) → w'.heap[b]? = some (Obj.cells cs 5)) (hR : w'.heap[R]? = w.heap[R]?) : Rd w' R bs bad := by
  obtain ⟨A, c, h1, h2, h3, h4, h5⟩ := h
  exact ⟨A, c, by rw [hR]; exact h1, h2, h3, h4.kept hk, h5⟩
theorem Rd.below {w w' : World} {R : Nat} {bs : List Nat} {bad : Bool} (h : Rd w R bs bad) (hb : Below w.heap.size w w') : Rd w' R bs bad :=
  h.kept (fun b cs hh => by rw [hb.block _ (Array.getElem?_eq_some_iff.1 hh).1]; exact hh) (hb.block _ h.lt)
/-- Another reader has turned. -/
theorem Rd.grown {w w' : World} {R S : Nat} {bs cs : List Nat} {bad bad' : Bool} (h : Rd w R bs bad) (hs : Rd w S cs bad') (hg : w.grownBy w' (some S)) (hne : R ≠ S) : Rd w' R bs bad := by
  obtain ⟨A, c, s1, _⟩ := hs
  refine h.kept (fun b cs hh => ?_) (hg.block _ h.lt (by simpa using hne))
  rw [hg.block _ (Array.getElem?_eq_some_iff.1 hh).1 (fun e => ?_)]
  · exact hh
  · injection e with e
    subst e
    rw [hh] at s1
    simp at s1
theorem Rd.cells {w : World} {R : Nat} {bs : List Nat} {bad : Bool} (h : Rd w R bs bad) : ∃ A c, w.heap[R]? = some (Obj.cells #[.slice A bs.length c, .bool bad] 100) ∧ w.cell? ⟨R, 0, none⟩ = some (.slice A bs.length c) ∧ w.cell? ⟨R, 1, none⟩ = some (.bool bad) ∧ w.frozen? ⟨R, 0, none⟩ = false ∧ w.frozen? ⟨R, 1, none⟩ = false ∧
    bs.length ≤ c ∧ bs.length ≤ 140737488351232 ∧ YR w A bs ∧ (∀ x ∈ bs, x < 256) ∧ (A = none → c = 0) := by
  obtain ⟨A, c, h1, h2, h3, h4, h5⟩ := h
  exact ⟨A, c, h1, by rw [cell_of_row _ _ _ _ 100 (0, 0) h1]; rfl, by rw [cell_of_row _ _ _ _ 100 (0, 0) h1]; rfl, frozen_of_row _ _ 0 _ 100 h1, frozen_of_row _ _ 1 _ 100 h1, h2, h3, h4, h5⟩
/-- Only a reader has turned, and what is new. -/
theorem grown_set {w : World} {R i : Nat} (u : Value) : w.grownBy (w.setCell ⟨R, i, none⟩ u) (some R) := ⟨rfl, rfl, rfl, by simp, fun k _ hk => heap_setCell_other w _ k u (fun e => hk (by simp [e]))⟩
theorem grown_below {w w' : World} {row : Option Nat} (h : Below w.heap.size w w') : w.grownBy w' row := ⟨h.os, h.tape, h.output, h.size, fun k hk _ => h.block k hk⟩
theorem grown_trans {a b c : World} {row : Option Nat} (h : a.grownBy b row) (k : b.grownBy c row) : a.grownBy c row :=
  ⟨k.os.trans h.os, k.tape.trans h.tape, k.output.trans h.output, Nat.le_trans h.size k.size, fun i hi hr => (k.block i (Nat.lt_of_lt_of_le hi h.size) hr).trans (h.block i hi hr)⟩
theorem below_grown {X w w' : World} {R : Nat} (h : Below X.heap.size X w) (hg : w.grownBy w' (some R)) (hR : X.heap.size ≤ R) : Below X.heap.size X w' :=
  h.grown hg h.size fun k hk => by injection hk with hk; omega
/-- The flag is set. -/
theorem Rd.fail {w : World} {R : Nat} {bs : List Nat} {bad : Bool} (h : Rd w R bs bad) : Rd (w.setCell ⟨R, 1, none⟩ (.bool true)) R bs true := by
  obtain ⟨A, c, h1, h2, h3, h4, h5⟩ := h
  refine ⟨A, c, ?_, h2, h3, h4.kept fun b cs hh => ?_, h5⟩
  · have := heap_setCell_same _ _ 1 _ 100 (.bool true) h1; simpa using this
  · rw [heap_setCell_other _ _ _ _ (fun e => ?_)]
    · exact hh
    · simp only at e; subst e; rw [hh] at h1; simp at h1
/-- The bytes go on. -/
theorem Rd.cut {w : World} {R : Nat} {bs : List Nat} {bad : Bool} {A : Option Addr} {c k : Nat} (h1 : w.heap[R]? = some (Obj.cells #[.slice A bs.length c, .bool bad] 100)) (h2 : bs.length ≤ c) (h3 : bs.length ≤ 140737488351232) (h4 : YR w A bs) (h5 : ∀ x ∈ bs, x < 256) (h6 : A = none → c = 0) (hk : k ≤ bs.length) :
    Rd (w.setCell ⟨R, 0, none⟩ (.slice (if c = k then A else A.map (·.add k)) (bs.length - k) (c - k))) R (bs.drop k) bad := by
  refine ⟨if c = k then A else A.map (·.add k), c - k, ?_, by simp; omega, by simp; omega, ?_, fun x hx => h5 x (List.mem_of_mem_drop hx), fun e => ?_⟩
  · have := heap_setCell_same _ _ 0 _ 100 (.slice (if c = k then A else A.map (·.add k)) (bs.length - k) (c - k)) h1; simpa using this
  · refine (h4.drop h2).kept fun b cs hh => ?_
    rw [heap_setCell_other _ _ _ _ (fun e => ?_)]
    · exact hh
    · simp only at e; subst e; rw [hh] at h1; simp at h1
  · split at e
    · have := h6 e; omega
    · have := h6 (by simpa using e); omega
end Go.Proofs.Ytmadldgajjgbmaa
-- with Kd
namespace Go.Proofs.Ytmadldgajjgbmaa
open Go.RowKit
set_option linter.unusedVariables false
set_option linter.unusedSimpArgs false

/-- Bytes appended, be they nil or not: the library's two laws in one. -/
theorem wpList_append_bytes {P : Program} (w : World) {ops : Array Oper} {rest : List Oper} {o : Oper} {a : Act} {Q : Exit → Act → World → Prop} (hgd : o.guard = none) (s x : Operand) (t : TypeId)
    (ho : o.op = .call { callee := .builtin .append, args := #[s, x], argTypes := #[t, t] })
    (base : Nat) (e : TypeId) (i : TypeInfo) (z : Value) (bytes : Nat) (ht : P.underlying t = some (.slice e)) (hi : P.info? e = some i) (hz : i.zero = some z)
    (hsize : i.size = 1) (hby : i.bytes = bytes) (hzs : z.cells.size = 1)
    (v : Value) (n : Nat) (xs : List Value) (hs : a.eval s = v) (hown : w.ownsRow base e 1 v n xs)
    (A : Option Addr) (m c : Nat) (bs : List Nat) (hm : bs.length = m) (hx : a.eval x = .slice A m c) (hr : BR w A bs) (hA : A = none → c = 0)
    (h63 : n + m ≤ maxLen) (hbytes : (n + m) * bytes ≤ 140737488355328) (hbase : base ≤ w.heap.size)
    (h : ∀ v' w', w'.ownsRow base e 1 v' (n + m) (xs ++ Y bs) → w.grownBy w' v.ownBlock → wpList P ops Q rest (a.put o.dst v') w') : wpList P ops Q (o :: rest) a w := by
  cases A with
  | none =>
    have h0 : bs = [] := by
      match bs, hr with
      | [], _ => rfl
      | y :: r, hr => obtain ⟨_, _, e, _⟩ := hr 0 y rfl; cases e
    subst h0
    obtain rfl : 0 = m := hm
    rw [hA rfl] at hx
    exact wpList_append_own_none hgd s x t ho base e i 1 ht hi v n xs hs hown hx (h v w (by simpa [Y] using hown) (World.grownBy.refl w _))
  | some ad =>
    refine wpList_append_own w hgd s x t ho base e i z 1 bytes ht hi hz hsize hby hzs (by omega) v n xs hs hown ad m c (Y bs) hx (by rw [Y_len, hm, Nat.mul_one]) (fun k u hu => ?_) (Y_one bs) h63 hbytes hbase (fun v' w' h1 h2 _ => h v' w' h1 h2)
    obtain ⟨y, hy, rfl⟩ := Y_get hu
    obtain ⟨b, off, e1, _, hc⟩ := hr k y hy
    obtain rfl : ad = ⟨b, off, none⟩ := by injection e1
    rw [addr_addq]; exact hc
/-- Bytes of a call's own, as it answers them. -/
def NBs (W : World) (bs : List Nat) (e : Ending) (w' : World) : Prop := ∃ v, e = .returned v ∧ NB W.heap.size w' bs v ∧ Below W.heap.size W w'
theorem nil24 (w : World) (a : Option Addr) (n c : Nat) : (binOp .eql 33 (.slice a n c) (.slice none 0 0)).run Try.prog w = .ok (.bool a.isNone) w := Lib.run_eql_slice_nil w _ _ a n c 0 0 Try.underlying33
set_option maxHeartbeats 1000000 in
theorem clone_any (A : Option Addr) (c n : Nat) (bs : List Nat) (w : World) (hn : bs.length = n) (hm : n ≤ 140737488351232) (hr : BR w A bs) (hA : A = none → c = 0) :
    Calls Try.prog 44 #[.slice A n c] w (NBs w bs) := by
  obtain ⟨i0, hi, hz0, hz1, hz2⟩ := info_parts info5
  have HN := Lib.hid hn
  have HR := Lib.hid hr
  clear hn hr
  rcases A with _ | ad
  · obtain rfl : c = 0 := hA rfl
    have hb : bs = [] := by
      cases bs with
      | nil => rfl
      | cons x r => obtain ⟨b, off, h, _⟩ := HR.out 0 x rfl; cases h
    subst hb
    obtain rfl : 0 = n := HN.out
    clear hA
    have qT := nil24
    go_enter Try.func44, Try.ntmps44
    go_wp2_with fail
    go_ret
    exact ⟨_, rfl, NB.nil _ _, Below.refl _ _⟩
  · clear hA
    have qT := nil24
    go_enter Try.func44, Try.ntmps44
    have hr1 := Lib.hid (HR.out.below (((Below.refl w.heap.size w).alloc (Nat.le_refl _) (Obj.cells #[] 5))))
    have hown0 := Lib.hid (World.ownsRow_made (base := w.heap.size) (e := 5) (size := 1) w #[] 0 (Nat.le_refl _) (by unfold maxLen; omega) rfl)
    go_wp2_with (at_builtin; refine wpList_append_bytes _ rfl (.tmp 5) (.tmp 6) 33 rfl w.heap.size 5 i0 (.int .u8 0) 1 Try.underlying33 hi hz0 hz1 hz2 rfl _ 0 [] rfl hown0.out (some ad) n c bs HN.out rfl hr1.out (fun e => by cases e) ?c1 ?c2 ?c3 ?_)
    case c1 => unfold maxLen; omega
    case c2 => omega
    case c3 => simp
    intro v' w' hown' hg'
    have hb' : Below w.heap.size w w' := ((Below.refl w.heap.size w).alloc (Nat.le_refl _) (Obj.cells #[] 5)).grown hg' (by simp) (fun k hk => by simp [Value.ownBlock] at hk; omega)
    have H1 := Lib.hid hown'
    have H2 := Lib.hid hb'
    clear hown' hg' hb'
    go_wp2_with fail
    go_ret
    refine ⟨_, rfl, ?_, H2.out⟩
    have h := H1.out
    rw [← HN.out] at h
    exact h
theorem bad_any (R : Nat) (bs : List Nat) (bad : Bool) (w : World) (h : Rd w R bs bad) : Calls Try.prog 30 #[.pointer (some ⟨R, 0, none⟩)] w fun e w' => e = .returned (.bool bad) ∧ w = w' := by
  obtain ⟨A, c, h1, c0, c1, f0, f1, h2, h3, h4, h5, h6⟩ := h.cells
  clear h1 h2 h3 h4 h5 h6 h
  go_enter Try.func30, Try.ntmps30
  go_wp2_with fail
  go_ret
  exact ⟨rfl, rfl⟩
theorem rd_rest (R : Nat) (bs : List Nat) (bad : Bool) (w : World) (h : Rd w R bs bad) : Calls Try.prog 31 #[.pointer (some ⟨R, 0, none⟩)] w fun e w' => e = .returned (.int .i64 bs.length) ∧ w = w' := by
  obtain ⟨A, c, h1, c0, c1, f0, f1, h2, h3, h4, h5, h6⟩ := h.cells
  clear h1 h2 h4 h5 h6 h
  go_enter Try.func31, Try.ntmps31
  go_wp2_with fail
  go_ret
  exact ⟨rfl, rfl⟩
theorem fail_any (R : Nat) (bs : List Nat) (bad : Bool) (w : World) (h : Rd w R bs bad) : Calls Try.prog 70 #[.pointer (some ⟨R, 0, none⟩)] w fun e w' => e = .returned (.tuple #[]) ∧ Rd w' R bs true ∧ w.grownBy w' (some R) := by
  have HF := Lib.hid h.fail
  obtain ⟨A, c, h1, c0, c1, f0, f1, h2, h3, h4, h5, h6⟩ := h.cells
  clear h1 h2 h3 h4 h5 h6 h
  go_enter Try.func70, Try.ntmps70
  go_wp2_with fail
  go_end0
  exact ⟨rfl, HF.out, grown_set _⟩
end Go.Proofs.Ytmadldgajjgbmaa
-- with Ke
namespace Go.Proofs.Ytmadldgajjgbmaa
open Go.RowKit
set_option linter.unusedVariables false
set_option linter.unusedSimpArgs false

/-- A new reader. -/
def News (W : World) (bs : List Nat) (e : Ending) (w' : World) : Prop := ∃ R, e = .returned (.pointer (some ⟨R, 0, none⟩)) ∧ W.heap.size ≤ R ∧ Rd w' R bs false ∧ Below W.heap.size W w'
set_option maxHeartbeats 1000000 in
theorem new_any (A : Option Addr) (c n : Nat) (bs : List Nat) (w : World) (hn : bs.length = n) (hm : n ≤ 140737488351232) (hr : BR w A bs) (hA : A = none → c = 0) (hb : ∀ x ∈ bs, x < 256) :
    Calls Try.prog 28 #[.slice A n c] w (News w bs) := by
  have C := Lib.hid (clone_any A c n bs w hn hm hr hA)
  have HN := Lib.hid hn
  have HB := Lib.hid hb
  clear hn hr hA hb
  go_enter Try.func28, Try.ntmps28
  go_wp2_with fail
  refine C.out.mono ?_
  rintro e w1 ⟨v, rfl, h1, h2⟩
  obtain ⟨A', c', rfl, h3, h4, h6⟩ := h1.form
  have hl := HN.out
  have H2 := Lib.hid h2
  have H3 := Lib.hid h3
  have H4 := Lib.hid h4
  have H6 := Lib.hid h6
  clear h1 h2 h3 h4 h6
  rw [hl] at H3 ⊢
  have HR : Hid (Rd (w1.alloc (Obj.cells #[.slice A' n c', .bool false] 100)) w1.heap.size bs false) := by
    refine ⟨A', c', ?_, by rw [hl]; exact H3.out, by rw [hl]; exact hm, H4.out.kept fun b cs hh => ?_, HB.out, H6.out⟩
    · rw [hl]; exact heap_alloc_new w1 _
    · rw [Below.heap_alloc _ _ _ (Array.getElem?_eq_some_iff.1 hh).1]; exact hh
  clear hl
  go_wp2_with fail
  go_ret
  exact ⟨_, rfl, H2.out.size, HR.out, H2.out.alloc H2.out.size _⟩
/-- What a reader's Take answers. -/
def Took (W : World) (R : Nat) (ts : List Nat) (bs : List Nat) (bad : Bool) (e : Ending) (w' : World) : Prop := ∃ A c, e = .returned (.slice A ts.length c) ∧ ts.length ≤ c ∧ YR w' A ts ∧ Rd w' R bs bad ∧ W.grownBy w' (some R)
set_option maxHeartbeats 1000000 in
theorem take_bad (R : Nat) (bs : List Nat) (n : Int) (w : World) (h : Rd w R bs true) : Calls Try.prog 61 #[.pointer (some ⟨R, 0, none⟩), .int .i64 n] w (Took w R [] bs true) := by
  have C := Lib.hid (bad_any R bs true w h)
  have H := Lib.hid h
  clear h
  go_enter Try.func61, Try.ntmps61
  go_wp2_with fail
  refine C.out.mono ?_
  rintro e w1 ⟨rfl, rfl⟩
  go_wp2_with fail
  go_ret
  exact ⟨none, 0, rfl, Nat.le_refl _, fun i x hi => by simp at hi, H.out, World.grownBy.refl _ _⟩
set_option maxHeartbeats 1000000 in
theorem take_out (R : Nat) (bs : List Nat) (n : Int) (w : World) (h : Rd w R bs false) (hn : n < 0 ∨ bs.length < n) : Calls Try.prog 61 #[.pointer (some ⟨R, 0, none⟩), .int .i64 n] w (Took w R [] bs true) := by
  have C := Lib.hid (bad_any R bs false w h)
  have C2 := Lib.hid (fail_any R bs false w h)
  obtain ⟨A, c, h1, c0, c1, f0, f1, h2, h3, h4, h5, h6⟩ := h.cells
  obtain ⟨k, ek⟩ : ∃ k, bs.length = k := ⟨_, rfl⟩
  rw [ek] at h1 c0 h2 h3 hn
  clear h1 h4 h5 h6 h ek
  by_cases h0 : n < 0
  all_goals
    try have t1 : (k : Int) < n := by omega
    clear hn
    go_enter Try.func61, Try.ntmps61
    go_wp2_with fail
    refine C.out.mono ?_
    rintro e w1 ⟨rfl, rfl⟩
    go_wp2_with fail
    refine C2.out.mono ?_
    rintro e w1 ⟨rfl, hr, hg⟩
    have HR := Lib.hid hr
    have HG := Lib.hid hg
    clear hr hg c0 c1 f0 f1
    go_wp2_with fail
    go_ret
    exact ⟨none, 0, rfl, Nat.le_refl _, fun i x hi => by simp at hi, HR.out, HG.out⟩
set_option maxHeartbeats 1000000 in
theorem take_in (R : Nat) (bs : List Nat) (k : Nat) (w : World) (h : Rd w R bs false) (hk : k ≤ bs.length) : Calls Try.prog 61 #[.pointer (some ⟨R, 0, none⟩), .int .i64 k] w (Took w R (bs.take k) (bs.drop k) false) := by
  have C := Lib.hid (bad_any R bs false w h)
  obtain ⟨A, c, h1, c0, c1, f0, f1, h2, h3, h4, h5, h6⟩ := h.cells
  obtain ⟨m, em⟩ : ∃ m, bs.length = m := ⟨_, rfl⟩
  have CC := Lib.hid (clone_any A c k (bs.take k) w (by simp; omega) (by omega) (h4.take k).br h6)
  have HC := Lib.hid (fun (w' : World) (h1 : w'.heap[R]? = some (Obj.cells #[.slice A bs.length c, .bool false] 100)) (h4 : YR w' A bs) => Rd.cut h1 h2 h3 h4 h5 h6 hk)
  have H := Lib.hid h
  have H1 := Lib.hid h1
  have H4 := Lib.hid h4
  rw [em] at c0 h2 h3 hk HC H1
  have EM := Lib.hid em
  clear h1 h4 h5 h6 h em
  go_enter Try.func61, Try.ntmps61
  go_wp2_with fail
  refine C.out.mono ?_
  rintro e w1 ⟨rfl, rfl⟩
  go_wp2_with fail
  refine CC.out.mono ?_
  rintro e w1 ⟨v, rfl, hn1, hb1⟩
  have HN := Lib.hid hn1
  have HB := Lib.hid hb1
  have k1 := hb1.block R (Array.getElem?_eq_some_iff.1 H1.out).1
  have K1 := Lib.hid (k1.trans H1.out)
  have KC := Lib.hid (HC.out w1 K1.out (H4.out.kept fun b cs hh => by rw [hb1.block _ (Array.getElem?_eq_some_iff.1 hh).1]; exact hh))
  have KT : ∀ u, w1.setCell ⟨R, 0, none⟩ (.slice (if c = k then A else A.map (·.add k)) (m - k) (c - k)) = u → Took w R (bs.take k) (bs.drop k) false (.returned v) u := fun u eu => by
    subst eu
    obtain ⟨A', c', e1, e2, e3, _⟩ := hn1.form
    refine ⟨A', c', by rw [e1], e2, e3.kept fun b cs hh => ?_, KC.out, grown_trans (grown_below hb1) (grown_set _)⟩
    rw [heap_setCell_other _ _ _ _ (fun e => ?_)]
    · exact hh
    · simp only at e; subst e; rw [K1.out] at hh; simp at hh
  have HT := Lib.hid KT
  have d0 : w1.cell? ⟨R, 0, none⟩ = some (.slice A m c) := by rw [cell_of_row _ _ _ _ 100 (0, 0) K1.out]; rfl
  have d1 : w1.frozen? ⟨R, 0, none⟩ = false := frozen_of_row _ _ 0 _ 100 K1.out
  clear hn1 hb1 k1 c0 c1 f0 f1 KT
  go_wp2_with fail
  · go_ret
    exact HT.out _ (by have hck : c = k := (by assumption); rw [if_pos hck, hck, Nat.sub_self])
  · go_ret
    exact HT.out _ (by have hck : ¬ c = k := (by assumption); rw [if_neg hck])
end Go.Proofs.Ytmadldgajjgbmaa
-- with Kf
namespace Pk
/-- The bytes that a number is read from. -/
def tk (n : Nat) (s : St) : List Nat := if s.2 = false ∧ n ≤ s.1.length then s.1.take n else []
theorem tk_num (n : Nat) (s : St) : (nx n s).1 = num (tk n s) := by unfold nx tk; split <;> rfl
theorem tk_len (n : Nat) (s : St) : (tk n s).length ≤ n := by
  unfold tk; split
  · exact List.length_take_le _ _
  · simp
theorem tk_byte {n : Nat} {s : St} (h : ∀ c ∈ s.1, c < 256) : ∀ c ∈ tk n s, c < 256 := by
  unfold tk; split
  · exact fun c hc => h c (List.mem_of_mem_take hc)
  · simp
end Pk
namespace Go.Proofs.Ytmadldgajjgbmaa
open Go.RowKit
set_option linter.unusedVariables false
set_option linter.unusedSimpArgs false

theorem take_any (R : Nat) (bs : List Nat) (bad : Bool) (n : Nat) (w : World) (h : Rd w R bs bad) :
    Calls Try.prog 61 #[.pointer (some ⟨R, 0, none⟩), .int .i64 n] w (Took w R (Pk.tk n (bs, bad)) (Pk.nx n (bs, bad)).2.1 (Pk.nx n (bs, bad)).2.2) := by
  unfold Pk.tk Pk.nx
  by_cases hb : bad = true
  · subst hb
    rw [if_neg (by simp), if_neg (by simp)]
    exact take_bad R bs n w h
  · obtain rfl : bad = false := by simpa using hb
    by_cases hl : n ≤ bs.length
    · rw [if_pos ⟨rfl, hl⟩, if_pos ⟨rfl, hl⟩]
      exact take_in R bs n w h hl
    · rw [if_neg (fun e => hl e.2), if_neg (fun e => hl e.2)]
      exact take_out R bs n w h (.inr (by omega))
theorem Rd.byte {w : World} {R : Nat} {bs : List Nat} {bad : Bool} (h : Rd w R bs bad) : ∀ x ∈ bs, x < 256 := by
  obtain ⟨_, _, _, _, _, _, h, _⟩ := h
  exact h
theorem or_byte (q y : Nat) (hq : q < 72057594037927936) (hy : y < 256) : bits .or .u64 (IntKind.u64.wrap ((q : Int) * 256)) (IntKind.u64.wrap (y : Int)) = ((q * 256 + y : Nat) : Int) := by
  have e1 : IntKind.u64.wrap ((q : Int) * 256) = ((q * 256 : Nat) : Int) := by rw [IntKind.wrap_u64]; omega
  have e2 : IntKind.u64.wrap (y : Int) = (y : Int) := by rw [IntKind.wrap_u64]; omega
  rw [e1, e2]
  have h1 : (BitVec.ofInt 64 ((q * 256 : Nat) : Int)).toNat = q * 256 := by rw [BitVec.toNat_ofInt]; omega
  have h2 : (BitVec.ofInt 64 (y : Int)).toNat = y := by rw [BitVec.toNat_ofInt]; omega
  show IntKind.u64.wrap ((BitVec.ofInt 64 ((q * 256 : Nat) : Int) ||| BitVec.ofInt 64 (y : Int)).toNat : Nat) = _
  rw [BitVec.toNat_or, h1, h2]
  have e : q * 256 ||| y = q * 256 + y := by
    have := Nat.shiftLeft_add_eq_or_of_lt (i := 8) (b := y) (by simpa using hy) q
    rw [Nat.shiftLeft_eq] at this
    exact this.symm
  rw [e, IntKind.wrap_u64]
  omega
theorem ret_u64 {a b : Int} (h : a = b) : Ending.returned (.int .u64 a) = .returned (.int .u64 b) := by rw [h]
/-- What a reader's Num answers. -/
def Numd (W : World) (R : Nat) (r : Nat × Pk.St) (e : Ending) (w' : World) : Prop := e = .returned (.int .u64 (r.1 : Int)) ∧ Rd w' R r.2.1 r.2.2 ∧ W.grownBy w' (some R)
set_option maxHeartbeats 1000000 in
theorem num_any (R : Nat) (bs : List Nat) (bad : Bool) (n : Nat) (w : World) (h : Rd w R bs bad) (h1 : 1 ≤ n) (h8 : n ≤ 8) :
    Calls Try.prog 59 #[.pointer (some ⟨R, 0, none⟩), .int .i64 n] w (Numd w R (Pk.nx n (bs, bad))) := by
  have C := Lib.hid (take_any R bs bad n w h)
  have hby := Lib.hid (Pk.tk_byte (n := n) (s := (bs, bad)) h.byte)
  have hnum := Lib.hid (Pk.tk_num n (bs, bad))
  have hl := Pk.tk_len n (bs, bad)
  obtain ⟨ts, et⟩ : ∃ ts, Pk.tk n (bs, bad) = ts := ⟨_, rfl⟩
  obtain ⟨s, es⟩ : ∃ s, Pk.nx n (bs, bad) = s := ⟨_, rfl⟩
  obtain ⟨m, em⟩ : ∃ m, ts.length = m := ⟨_, rfl⟩
  rw [et] at C hby hnum hl
  rw [es] at C hnum ⊢
  rw [em] at hl
  have EM := Lib.hid em
  clear et es em h
  go_enter Try.func59, Try.ntmps59
  go_wp2_with fail
  refine C.out.mono ?_
  rintro e w1 ⟨A, c, rfl, hc, hy, hr, hg⟩
  have HY := Lib.hid hy
  have HR := Lib.hid hr
  have HG := Lib.hid hg
  rw [EM.out] at hc ⊢
  clear hy hr hg
  go_wp2_with fail
  go_loop [5, 20] (fun x i => ∃ k : Nat, k ≤ m ∧ i = .int .i64 k ∧ x = .int .u64 (Pk.num (ts.take k))) (fun _ i => m - (intOf i).toNat)
  case atStart => exact ⟨0, Nat.zero_le _, rfl, rfl⟩
  case round =>
    obtain ⟨k, hk, rfl, rfl⟩ := hrel
    by_cases hlt : k < m
    · obtain ⟨y, hy⟩ : ∃ y, ts[k]? = some y := ⟨_, List.getElem?_eq_getElem (by rw [EM.out]; exact hlt)⟩
      obtain ⟨b, off, rfl, hb, hcell⟩ := HY.out.br k y hy
      have hnt := Lib.hid (Pk.num_take hy)
      obtain ⟨q, eq⟩ : ∃ q, Pk.num (ts.take k) = q := ⟨_, rfl⟩
      rw [eq] at hnt ⊢
      have hy2 := hby.out y (List.mem_of_getElem? hy)
      have hq : q < 72057594037927936 := by
        have := Pk.num_lt k (ts.take k) (by rw [List.length_take, EM.out]; omega) (fun c hc => hby.out c (List.mem_of_mem_take hc))
        rw [eq] at this
        exact Nat.lt_of_lt_of_le this (Nat.le_trans (Nat.pow_le_pow_right (by omega) (show k ≤ 7 by omega)) (by decide))
      have hor := or_byte q y hq hy2
      clear hy eq hq hy2
      go_wp2_with fail
      clear hor
      go_round
      case rel => exact ⟨k + 1, by omega, by go_num, by rw [hnt.out]; go_num⟩
      case measure => simp [intOf]; omega
    · have hall := Lib.hid (List.take_of_length_le (l := ts) (i := k) (by rw [EM.out]; omega))
      go_wp2_with fail
      go_ret
      exact ⟨ret_u64 (by rw [hnum.out, hall.out]), HR.out, HG.out⟩
end Go.Proofs.Ytmadldgajjgbmaa
