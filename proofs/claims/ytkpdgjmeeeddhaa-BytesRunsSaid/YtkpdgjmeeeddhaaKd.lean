import Derived.Test.YtkpdgjmeeeddhaaKc
import Derived.Lib.SliceRun
import Derived.Laws.AppendOwnNone
set_option linter.unusedVariables false
set_option linter.unusedSimpArgs false
namespace Go.Proofs.Ytkpdgjmeeeddhaa
open Go.RowKit
set_option linter.unusedVariables false
set_option linter.unusedSimpArgs false

/-- Bytes appended, be they nil or not: the library's two laws in one. -/
theorem wpList_append_bytes {P : Program} (w : World) {ops : Array Oper} {rest : List Oper} {o : Oper} {a : Act} {Q : Exit → Act → World → Prop} (hgd : o.guard = none) (s x : Operand) (t : TypeId)
    (ho : o.op = .call { callee := .builtin .append, args := #[s, x], argTypes := #[t, t] })
    (base : Nat) (e : TypeId) (i : TypeInfo) (z : Value) (bytes : Nat) (ht : P.underlying t = some (.slice e)) (hi : P.info? e = some i) (hz : i.zero = some z)
    (hsize : i.size = 1) (hby : i.bytes = bytes) (hzs : z.cells.size = 1)
    (v : Value) (n : Nat) (xs : List Value) (hs : a.eval s = v) (hown : w.ownsRow base e 1 v n xs)
    (A : Option Addr) (m c : Nat) (bs : List Nat) (hm : bs.length = m) (hx : a.eval x = .slice A m c) (hr : BR w A bs) (hA : A = none → c = 0)
    (h63 : n + m ≤ maxLen) (hbytes : (n + m) * bytes ≤ 140737488355328) (hbase : base ≤ w.heap.size)
    (h : ∀ v' w', w'.ownsRow base e 1 v' (n + m) (xs ++ Y bs) → w.grownBy w' v.ownBlock → wpList P ops Q rest (a.put o.dst v') w') : wpList P ops Q (o :: rest) a w := by
  cases A with
  | none =>
    have h0 : bs = [] := by
      match bs, hr with
      | [], _ => rfl
      | y :: r, hr => obtain ⟨_, _, e, _⟩ := hr 0 y rfl; cases e
    subst h0
    obtain rfl : 0 = m := hm
    rw [hA rfl] at hx
    exact wpList_append_own_none hgd s x t ho base e i 1 ht hi v n xs hs hown hx (h v w (by simpa [Y] using hown) (World.grownBy.refl w _))
  | some ad =>
    refine wpList_append_own w hgd s x t ho base e i z 1 bytes ht hi hz hsize hby hzs (by omega) v n xs hs hown ad m c (Y bs) hx (by rw [Y_len, hm, Nat.mul_one]) (fun k u hu => ?_) (Y_one bs) h63 hbytes hbase (fun v' w' h1 h2 _ => h v' w' h1 h2)
    obtain ⟨y, hy, rfl⟩ := Y_get hu
    obtain ⟨b, off, e1, _, hc⟩ := hr k y hy
    obtain rfl : ad = ⟨b, off, none⟩ := by injection e1
    rw [addr_add]; exact hc
/-- Bytes of a call's own, as it answers them. -/
def NBs (W : World) (bs : List Nat) (e : Ending) (w' : World) : Prop := ∃ v, e = .returned v ∧ NB W.heap.size w' bs v ∧ Below W.heap.size W w'
theorem nil24 (w : World) (a : Option Addr) (n c : Nat) : (binOp .eql 30 (.slice a n c) (.slice none 0 0)).run Try.prog w = .ok (.bool a.isNone) w := Lib.run_eql_slice_nil w _ _ a n c 0 0 Try.underlying30
set_option maxHeartbeats 1000000 in
theorem clone_any (A : Option Addr) (c n : Nat) (bs : List Nat) (w : World) (hn : bs.length = n) (hm : n ≤ 140737488351232) (hr : BR w A bs) (hA : A = none → c = 0) :
    Calls Try.prog 36 #[.slice A n c] w (NBs w bs) := by
  obtain ⟨i0, hi, hz0, hz1, hz2⟩ := info_parts info5
  have HN := Lib.hid hn
  have HR := Lib.hid hr
  clear hn hr
  rcases A with _ | ad
  · obtain rfl : c = 0 := hA rfl
    have hb : bs = [] := by
      cases bs with
      | nil => rfl
      | cons x r => obtain ⟨b, off, h, _⟩ := HR.out 0 x rfl; cases h
    subst hb
    obtain rfl : 0 = n := HN.out
    clear hA
    have qT := nil24
    go_enter Try.func36, Try.ntmps36
    go_wp2_with fail
    go_ret
    exact ⟨_, rfl, NB.nil _ _, Below.refl _ _⟩
  · clear hA
    have qT := nil24
    go_enter Try.func36, Try.ntmps36
    have hr1 := Lib.hid (HR.out.below (((Below.refl w.heap.size w).alloc (Nat.le_refl _) (Obj.cells #[] 5))))
    have hown0 := Lib.hid (World.ownsRow_made (base := w.heap.size) (e := 5) (size := 1) w #[] 0 (Nat.le_refl _) (by unfold maxLen; omega) rfl)
    go_wp2_with (at_builtin; refine wpList_append_bytes _ rfl (.tmp 5) (.tmp 6) 30 rfl w.heap.size 5 i0 (.int .u8 0) 1 Try.underlying30 hi hz0 hz1 hz2 rfl _ 0 [] rfl hown0.out (some ad) n c bs HN.out rfl hr1.out (fun e => by cases e) ?c1 ?c2 ?c3 ?_)
    case c1 => unfold maxLen; omega
    case c2 => omega
    case c3 => simp
    intro v' w' hown' hg'
    have hb' : Below w.heap.size w w' := ((Below.refl w.heap.size w).alloc (Nat.le_refl _) (Obj.cells #[] 5)).grown hg' (by simp) (fun k hk => by simp [Value.ownBlock] at hk; omega)
    have H1 := Lib.hid hown'
    have H2 := Lib.hid hb'
    clear hown' hg' hb'
    go_wp2_with fail
    go_ret
    refine ⟨_, rfl, ?_, H2.out⟩
    have h := H1.out
    rw [← HN.out] at h
    exact h
theorem bad_any (R : Nat) (bs : List Nat) (bad : Bool) (w : World) (h : Rd w R bs bad) : Calls Try.prog 33 #[.pointer (some ⟨R, 0, none⟩)] w fun e w' => e = .returned (.bool bad) ∧ w = w' := by
  obtain ⟨A, c, h1, c0, c1, f0, f1, h2, h3, h4, h5, h6⟩ := h.cells
  clear h1 h2 h3 h4 h5 h6 h
  go_enter Try.func33, Try.ntmps33
  go_wp2_with fail
  go_ret
  exact ⟨rfl, rfl⟩
theorem fail_any (R : Nat) (bs : List Nat) (bad : Bool) (w : World) (h : Rd w R bs bad) : Calls Try.prog 37 #[.pointer (some ⟨R, 0, none⟩)] w fun e w' => e = .returned (.tuple #[]) ∧ Rd w' R bs true ∧ w.grownBy w' (some R) := by
  have HF := Lib.hid h.fail
  obtain ⟨A, c, h1, c0, c1, f0, f1, h2, h3, h4, h5, h6⟩ := h.cells
  clear h1 h2 h3 h4 h5 h6 h
  go_enter Try.func37, Try.ntmps37
  go_wp2_with fail
  go_end0
  exact ⟨rfl, HF.out, grown_set _⟩
end Go.Proofs.Ytkpdgjmeeeddhaa

