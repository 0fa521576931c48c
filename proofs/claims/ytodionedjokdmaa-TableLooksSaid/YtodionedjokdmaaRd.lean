import Derived.Test.YtodionedjokdmaaRb
import Derived.Test.YtodionedjokdmaaNa
import Derived.Laws.AppendOwnNone
import Derived.Deep.AppendLies
import Derived.Deep.RegionHeldLaw
import Derived.Deep.DeepCutAuto
import Derived.Deep.CutBlock
import Derived.IntWalk
import Derived.Laws.AppendOwn
import Derived.Laws.OwnMore
import Derived.OwnWalk
namespace Go.Proofs.Ytodionedjokdmaa
open Go.RowKit
set_option linter.unusedVariables false
set_option linter.unusedSimpArgs false

theorem info47 : (Try.prog.info? 101).map (fun i => (i.zero, i.size, i.bytes)) = some (some (.agg #[.int .u32 0, .int .i64 0]), 2, 16) := by kernel_rfl
/-- Pairs, as cells. -/
def F (ps : List (Nat × Int)) : List Value := ps.flatMap (fun (p : Nat × Int) => [Value.int .u32 (p.1 : Int), Value.int .i64 p.2])
theorem F_len (ps : List (Nat × Int)) : (F ps).length = ps.length * 2 := by
  unfold F; induction ps with
  | nil => rfl
  | cons p r ih => simp [ih]; omega
theorem F_append (ps qs : List (Nat × Int)) : F (ps ++ qs) = F ps ++ F qs := by simp [F]
theorem F_snoc (ps : List (Nat × Int)) (c : Nat) (n : Int) : F (ps ++ [(c, n)]) = F ps ++ [.int .u32 (c : Int), .int .i64 n] := by simp [F]
theorem F_at : ∀ {ps : List (Nat × Int)} {i : Nat} {p : Nat × Int}, ps[i]? = some p → (F ps)[i * 2]? = some (.int .u32 (p.1 : Int)) ∧ (F ps)[i * 2 + 1]? = some (.int .i64 p.2)
  | [], i, p, h => by simp at h
  | q :: r, 0, p, h => by simp at h; subst h; simp [F]
  | q :: r, i + 1, p, h => by
      have := F_at (ps := r) (i := i) (p := p) (by simpa using h)
      have e : F (q :: r) = Value.int .u32 (q.1 : Int) :: Value.int .i64 q.2 :: F r := by simp [F]
      rw [e, show (i + 1) * 2 = i * 2 + 2 from by omega]
      simpa using this
theorem F_get : ∀ {ps : List (Nat × Int)} {j : Nat} {u : Value}, (F ps)[j]? = some u → ∃ i p, ps[i]? = some p ∧ (j = i * 2 ∧ u = .int .u32 (p.1 : Int) ∨ j = i * 2 + 1 ∧ u = .int .i64 p.2)
  | [], j, u, h => by simp [F] at h
  | q :: r, 0, u, h => by simp [F] at h; exact ⟨0, q, rfl, .inl ⟨rfl, h.symm⟩⟩
  | q :: r, 1, u, h => by simp [F] at h; exact ⟨0, q, rfl, .inr ⟨rfl, h.symm⟩⟩
  | q :: r, j + 2, u, h => by
      have e : F (q :: r) = Value.int .u32 (q.1 : Int) :: Value.int .i64 q.2 :: F r := by simp [F]
      rw [e] at h
      obtain ⟨i, p, hp, hh⟩ := F_get (ps := r) (j := j) (u := u) (by simpa using h)
      refine ⟨i + 1, p, by simpa using hp, ?_⟩
      rcases hh with ⟨h1, h2⟩ | ⟨h1, h2⟩
      · exact .inl ⟨by omega, h2⟩
      · exact .inr ⟨by omega, h2⟩
theorem F_one (ps : List (Nat × Int)) : ∀ u ∈ F ps, u.oneCell' = true := by
  intro u hu
  obtain ⟨j, hj⟩ := List.mem_iff_getElem?.1 hu
  obtain ⟨i, p, hp, ⟨_, rfl⟩ | ⟨_, rfl⟩⟩ := F_get hj <;> rfl
theorem owns_mono {w : World} {base base' : Nat} {e : TypeId} {size : Nat} {v : Value} {n : Nat} {xs : List Value} (h : w.ownsRow base e size v n xs) (hb : base' ≤ base) : w.ownsRow base' e size v n xs := by
  refine ⟨h.1, ?_⟩
  rcases h.2 with h | ⟨g, cap, cur, h1, h2, h3⟩
  · exact .inl h
  · exact .inr ⟨g, cap, cur, h1, Nat.le_trans hb h2, h3⟩
theorem addr_addq (b off j : Nat) : (⟨b, off, none⟩ : Addr).add j = ⟨b, off + j, none⟩ := by
  unfold Addr.add; split <;> simp_all
/-- The cells of a slice that reads as pairs. -/
theorem news_of {w : World} {b off : Nat} {ps : List (Nat × Int)}
   (h : ∀ i p, ps[i]? = some p → w.cell? ⟨b, off + i * 2, none⟩ = some (.int .u32 p.1) ∧ w.cell? ⟨b, off + i * 2 + 1, none⟩ = some (.int .i64 p.2)) :
    ∀ j u, (F ps)[j]? = some u → w.cell? ((⟨b, off, none⟩ : Addr).add j) = some u := by
  intro j u hu
  rw [addr_addq]
  obtain ⟨i, p, hp, ⟨rfl, rfl⟩ | ⟨rfl, rfl⟩⟩ := F_get hu
  · exact (h i p hp).1
  · rw [← Nat.add_assoc]; exact (h i p hp).2
theorem step_append_own {P : Program} (w : World) {ops : Array Oper} {o : Oper} {a : Act} {K : Act → World → Prop} {Q : Exit → Act → World → Prop} {E : Prop} (hgd : o.guard = none) (s x : Operand) (t : TypeId)
    (ho : o.op = .call { callee := .builtin .append, args := #[s, x], argTypes := #[t, t] })
    (base : Nat) (e : TypeId) (i : TypeInfo) (z : Value) (size bytes : Nat) (ht : P.underlying t = some (.slice e)) (hi : P.info? e = some i) (hz : i.zero = some z)
    (hsize : i.size = size) (hby : i.bytes = bytes) (hzs : z.cells.size = size) (hsz : 0 < size)
    (v : Value) (n : Nat) (xs : List Value) (hs : a.eval s = v) (hown : w.ownsRow base e size v n xs)
    (ad : Addr) (m c : Nat) (news : List Value) (hx : a.eval x = .slice (some ad) m c) (hl : news.length = m * size) (hnews : ∀ j u, news[j]? = some u → w.cell? (ad.add j) = some u) (h1 : ∀ u ∈ news, u.oneCell' = true)
    (h63 : n + m ≤ maxLen) (hbytes : (n + m) * bytes ≤ 140737488355328) (hbase : base ≤ w.heap.size)
    (h : ∀ v' w', w'.ownsRow base e size v' (n + m) (xs ++ news) → w.grownBy w' v.ownBlock → (v' = .slice none 0 0 ↔ v = .slice none 0 0 ∧ m = 0) → K (a.put o.dst v') w') :
    if Region.wanted o (yielded ops a.tmps) = true then Oper.wp P o a w K Q else E := by
  have hw : Region.wanted o (yielded ops a.tmps) = true := by simp [Region.wanted, hgd]
  rw [if_pos hw]
  exact wp_append_own w s x t ho base e i z size bytes ht hi hz hsize hby hzs hsz v n xs hs hown ad m c news hx hl hnews h1 h63 hbytes hbase h
theorem step_append_none {P : Program} (w : World) {ops : Array Oper} {o : Oper} {a : Act} {K : Act → World → Prop} {Q : Exit → Act → World → Prop} {E : Prop} (hgd : o.guard = none) (s x : Operand) (t : TypeId)
    (ho : o.op = .call { callee := .builtin .append, args := #[s, x], argTypes := #[t, t] })
    (base : Nat) (e : TypeId) (i : TypeInfo) (size : Nat) (ht : P.underlying t = some (.slice e)) (hi : P.info? e = some i)
    (v : Value) (n : Nat) (xs : List Value) (hs : a.eval s = v) (hown : w.ownsRow base e size v n xs) (hx : a.eval x = .slice none 0 0) (d : Option Nat) (hd : o.dst = d)
    (h : K (a.put d v) w) :
    if Region.wanted o (yielded ops a.tmps) = true then Oper.wp P o a w K Q else E := by
  subst hd
  have hw : Region.wanted o (yielded ops a.tmps) = true := by simp [Region.wanted, hgd]
  rw [if_pos hw]
  have hrun := run_append_owned_none (P := P) (w := w) base t o.type e i size ht hi v n xs hown
  unfold Oper.wp
  simp [execOp, ho, resolve, invoke, builtin, hs, hx, hrun, Result.andThen]
  exact h
end Go.Proofs.Ytodionedjokdmaa
