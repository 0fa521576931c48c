/- Packets and rings: what they contain, and how they lie in memory. -/
import Derived.Test.YtoccgbfnbpkphaaGa
import Derived.Deep.MidRow
import Derived.Laws.CopyRow
import Derived.Laws.IdiomCopy
import Derived.Laws.OwnMore
set_option linter.unusedVariables false
set_option linter.unusedSimpArgs false
namespace Rn
/-- A packet's 32 bytes, and how many of them are its. -/
structure Pk where
  d : List Nat
  n : Nat
def Pk.ok (p : Pk) : Prop := p.d.length = 32 ∧ p.n ≤ 32 ∧ ∀ x ∈ p.d, x < 256
def Pk.bs (p : Pk) : List Nat := p.d.take p.n
def bare : Pk := ⟨List.replicate 32 0, 0⟩
theorem bare_ok : bare.ok := ⟨rfl, by decide, fun x hx => by rw [(List.mem_replicate.1 hx).2]; omega⟩
theorem Pk.ok.bs_len {p : Pk} (h : p.ok) : p.bs.length = p.n := by unfold Pk.bs; rw [List.length_take, h.1]; exact Nat.min_eq_left h.2.1
theorem Pk.ok.bs_lt {p : Pk} (h : p.ok) : ∀ x ∈ p.bs, x < 256 := fun x hx => h.2.2 x (List.mem_of_mem_take hx)
def upd (g : Nat → Pk) (k : Nat) (e : Pk) : Nat → Pk := fun i => if i = k then e else g i
theorem upd_same (g : Nat → Pk) (k : Nat) (e : Pk) : upd g k e k = e := if_pos rfl
theorem upd_ne (g : Nat → Pk) {k i : Nat} (e : Pk) (h : i ≠ k) : upd g k e i = g i := if_neg h
/-- The packets that wait, as bytes. -/
def wait (g : Nat → Pk) (n : Nat) : List (List Nat) := (List.range n).map fun i => (g i).bs
theorem wait_len (g : Nat → Pk) (n : Nat) : (wait g n).length = n := by simp [wait]
theorem wait_succ (g : Nat → Pk) (n : Nat) : wait g (n + 1) = wait g n ++ [(g n).bs] := by unfold wait; rw [List.range_succ]; simp
theorem wait_congr {g g' : Nat → Pk} {n : Nat} (h : ∀ i, i < n → g i = g' i) : wait g n = wait g' n := by
  unfold wait
  exact List.map_congr_left fun i hi => by rw [h i (List.mem_range.1 hi)]
theorem wait_cons (g : Nat → Pk) (n : Nat) : wait g (n + 1) = (g 0).bs :: wait (fun i => g (i + 1)) n := by
  unfold wait; rw [List.range_succ_eq_map]; simp [Function.comp]
theorem wait_at (g : Nat → Pk) {n i : Nat} (h : i < n) : (wait g n)[i]? = some (g i).bs := by
  unfold wait; rw [List.getElem?_map, List.getElem?_range h]; rfl
/-- What a packet becomes of bytes that come. -/
def come (p : Pk) (b : List Nat) : Pk := ⟨b.take 32 ++ p.d.drop (min b.length 32), min b.length 32⟩
theorem come_bs (p : Pk) (b : List Nat) : (come p b).bs = b.take 32 := by
  have hl : (b.take 32).length = min b.length 32 := by rw [List.length_take, Nat.min_comm]
  unfold come Pk.bs
  show (b.take 32 ++ _).take (min b.length 32) = _
  rw [List.take_append_of_le_length (by omega), List.take_of_length_le (by omega)]
theorem come_ok {p : Pk} (h : p.ok) {b : List Nat} (hb : ∀ x ∈ b, x < 256) : (come p b).ok := by
  refine ⟨?_, ?_, fun x hx => ?_⟩
  · unfold come; have := h.1; simp; omega
  · unfold come; simp only; omega
  · unfold come at hx
    rcases List.mem_append.1 hx with hx | hx
    · exact hb x (List.mem_of_mem_take hx)
    · exact h.2.2 x (List.mem_of_mem_drop hx)
/-- The packets behind the first one move down: those of which so many wait. -/
def down (g : Nat → Pk) (m : Nat) : Nat → Pk := fun i => if i < m then g (i + 1) else g i
theorem wait_down (g : Nat → Pk) (m : Nat) : wait (upd (down g m) m bare) m = wait (fun i => g (i + 1)) m := wait_congr fun i hi => by
  rw [upd_ne _ _ (by omega)]; exact if_pos hi
end Rn
namespace Go.Proofs.Ytoccgbfnbpkphaa
open Go.RowKit Rn
set_option linter.unusedVariables false
set_option linter.unusedSimpArgs false
/-- A packet's cells. -/
def kc (p : Pk) : List Value := Y p.d ++ [.int .i64 (p.n : Int)]
theorem kc_len {p : Pk} (h : p.d.length = 32) : (kc p).length = 33 := by unfold kc; rw [List.length_append, Y_len, h]; rfl
theorem kc_one (p : Pk) : ∀ v ∈ kc p, v.oneCell' = true := fun v hv => by
  unfold kc at hv
  rcases List.mem_append.1 hv with h | h
  · exact Y_one _ v h
  · rw [List.mem_singleton.1 h]; rfl
theorem kc_data {p : Pk} {j x : Nat} (hj : p.d[j]? = some x) : (kc p)[j]? = some (.int .u8 (x : Int)) := by
  unfold kc
  rw [List.getElem?_append_left (by rw [Y_len]; exact (List.getElem?_eq_some_iff.1 hj).1)]
  exact Y_at hj
theorem kc_n {p : Pk} (h : p.d.length = 32) : (kc p)[32]? = some (.int .i64 (p.n : Int)) := by
  unfold kc
  rw [List.getElem?_append_right (by rw [Y_len, h]; omega), Y_len, h]; rfl
/-- A ring's cells. -/
structure Rg (g : Nat → Pk) (n lost : Nat) (v : Value) (cs : List Value) : Prop where
  len : cs.length = 267
  ok : ∀ k, k < 8 → (g k).ok
  cell : ∀ k, k < 8 → ∀ j x, (kc (g k))[j]? = some x → cs[k * 33 + j]? = some x
  cn : cs[264]? = some (.int .i64 (n : Int))
  cl : cs[265]? = some (.int .i64 (lost : Int))
  co : cs[266]? = some v
theorem splice_get {α : Type} (L cs : List α) (o i : Nat) (h : o + cs.length ≤ L.length) : (splice L o cs)[i]? = if i < o then L[i]? else if i < o + cs.length then cs[i - o]? else L[i]? := by
  unfold splice
  rw [List.getElem?_append, List.length_take, Nat.min_eq_left (by omega)]
  by_cases h1 : i < o
  · rw [if_pos h1, if_pos h1, List.getElem?_take, if_pos h1]
  · rw [if_neg h1, if_neg h1, List.getElem?_append]
    by_cases h2 : i < o + cs.length
    · rw [if_pos h2, if_pos (by omega)]
    · rw [if_neg h2, if_neg (by omega), List.getElem?_drop]
      congr 1
      omega
theorem splice_step {α : Type} (cs r : List α) (o : Nat) (v : α) (h : o + (r.length + 1) ≤ cs.length) : splice (cs.set o v) (o + 1) r = splice cs o (v :: r) := by
  apply List.ext_getElem?
  intro i
  rw [splice_get _ _ _ _ (by rw [List.length_set]; omega), splice_get _ _ _ _ (by simpa using h), List.length_cons]
  by_cases h1 : i < o
  · rw [if_pos (by omega), if_pos h1, List.getElem?_set_ne (by omega)]
  · rw [if_neg h1]
    by_cases h2 : i = o
    · subst h2
      rw [if_pos (by omega), if_pos (by omega), Nat.sub_self, List.getElem?_set_self (by omega)]
      rfl
    · rw [if_neg (by omega)]
      by_cases h3 : i < o + (r.length + 1)
      · rw [if_pos (by omega), if_pos h3, show i - o = (i - (o + 1)) + 1 by omega]
        rfl
      · rw [if_neg (by omega), if_neg h3, List.getElem?_set_ne (by omega)]
theorem setCells_heap (b : Nat) (t : TypeId) : ∀ (vs : List Value) (o : Nat) (w : World) (cs : List Value), w.heap[b]? = some (Obj.cells cs.toArray t) → o + vs.length ≤ cs.length → (w.setCells b o vs).heap[b]? = some (Obj.cells (splice cs o vs).toArray t)
  | [], o, w, cs, h, _ => by
      unfold World.setCells splice
      simpa using h
  | v :: r, o, w, cs, h, hl => by
      unfold World.setCells
      simp only [List.length_cons] at hl
      have h1 := heap_setCell_same w b o cs.toArray t v h
      rw [List.setIfInBounds_toArray] at h1
      rw [setCells_heap b t r (o + 1) _ (cs.set o v) h1 (by simp; omega), splice_step cs r o v hl]
theorem setCells_other (b : Nat) : ∀ (vs : List Value) (o : Nat) (w : World) (k : Nat), k ≠ b → (w.setCells b o vs).heap[k]? = w.heap[k]?
  | [], o, w, k, h => rfl
  | v :: r, o, w, k, h => by
      unfold World.setCells
      rw [setCells_other b r (o + 1) _ k h, heap_setCell_other _ _ _ _ h]
theorem setCells_turn (b : Nat) : ∀ (vs : List Value) (o : Nat) (w : World), Turn [b] w (w.setCells b o vs)
  | [], o, w => Turn.refl _ _
  | v :: r, o, w => by
      unfold World.setCells
      refine Turn.trans ?_ (setCells_turn b r (o + 1) _) (fun x hx => .inl hx)
      exact ⟨rfl, rfl, rfl, by simp, fun k _ hn => heap_setCell_other _ _ _ _ (fun e => hn (by simp [e]))⟩
theorem Turn.set (w : World) (b i : Nat) (v : Value) : Turn [b] w (w.setCell ⟨b, i, none⟩ v) :=
  ⟨rfl, rfl, rfl, by simp, fun k _ hn => heap_setCell_other _ _ _ _ (fun e => hn (by simp [e]))⟩
theorem Turn.row (w : World) (b : Nat) (cs : Array Value) : Turn [b] w (w.setRow b cs) :=
  ⟨rfl, rfl, rfl, by simp [World.setRow], fun k hk hn => setRow_other w b k _ (fun e => hn (by simp [e]))⟩
variable {g : Nat → Pk} {n lost : Nat} {v : Value} {cs : List Value}
/-- A ring's number is stored. -/
theorem Rg.setn (h : Rg g n lost v cs) (m : Nat) : Rg g m lost v (cs.set 264 (.int .i64 (m : Int))) :=
  ⟨by rw [List.length_set]; exact h.len, h.ok, fun k hk j x hx => by
      have hj : j < 33 := by rw [← kc_len (h.ok k hk).1]; exact (List.getElem?_eq_some_iff.1 hx).1
      rw [List.getElem?_set_ne (by omega)]; exact h.cell k hk j x hx,
    by rw [List.getElem?_set_self (by rw [h.len]; omega)], by rw [List.getElem?_set_ne (by omega)]; exact h.cl, by rw [List.getElem?_set_ne (by omega)]; exact h.co⟩
theorem Rg.setl (h : Rg g n lost v cs) (m : Nat) : Rg g n m v (cs.set 265 (.int .i64 (m : Int))) :=
  ⟨by rw [List.length_set]; exact h.len, h.ok, fun k hk j x hx => by
      have hj : j < 33 := by rw [← kc_len (h.ok k hk).1]; exact (List.getElem?_eq_some_iff.1 hx).1
      rw [List.getElem?_set_ne (by omega)]; exact h.cell k hk j x hx,
    by rw [List.getElem?_set_ne (by omega)]; exact h.cn, by rw [List.getElem?_set_self (by rw [h.len]; omega)], by rw [List.getElem?_set_ne (by omega)]; exact h.co⟩
theorem Rg.seto (h : Rg g n lost v cs) (u : Value) : Rg g n lost u (cs.set 266 u) :=
  ⟨by rw [List.length_set]; exact h.len, h.ok, fun k hk j x hx => by
      have hj : j < 33 := by rw [← kc_len (h.ok k hk).1]; exact (List.getElem?_eq_some_iff.1 hx).1
      rw [List.getElem?_set_ne (by omega)]; exact h.cell k hk j x hx,
    by rw [List.getElem?_set_ne (by omega)]; exact h.cn, by rw [List.getElem?_set_ne (by omega)]; exact h.cl, by rw [List.getElem?_set_self (by rw [h.len]; omega)]⟩
/-- A packet comes into the ring's cells: bytes, then how many. -/
theorem Rg.come (h : Rg g n lost v cs) {k : Nat} (hk : k < 8) {b : List Nat} (hb : ∀ x ∈ b, x < 256) {m : Nat} (hm : min b.length 32 = m) :
    Rg (upd g k (come (g k) b)) n lost v ((splice cs (k * 33) (Y (b.take 32))).set (k * 33 + 32) (.int .i64 (m : Int))) := by
  have hl : (Y (b.take 32)).length = m := by rw [Y_len, List.length_take, Nat.min_comm, hm]
  have hm32 : m ≤ 32 := by omega
  have hfit : k * 33 + (Y (b.take 32)).length ≤ cs.length := by rw [hl, h.len]; omega
  have hs : (splice cs (k * 33) (Y (b.take 32))).length = 267 := by rw [length_splice _ _ _ hfit, h.len]
  have far : ∀ i, (k * 33 + 33 ≤ i ∨ i < k * 33) → ((splice cs (k * 33) (Y (b.take 32))).set (k * 33 + 32) (.int .i64 (m : Int)))[i]? = cs[i]? := fun i hi => by
    rw [List.getElem?_set_ne (by omega), splice_get _ _ _ _ hfit, hl]
    rcases hi with hi | hi
    · rw [if_neg (by omega), if_neg (by omega)]
    · rw [if_pos hi]
  refine ⟨by rw [List.length_set, hs], fun i hi => ?_, fun i hi j x hx => ?_, by rw [far _ (by omega)]; exact h.cn, by rw [far _ (by omega)]; exact h.cl, by rw [far _ (by omega)]; exact h.co⟩
  · by_cases e : i = k
    · subst e; rw [upd_same]; exact come_ok (h.ok _ hi) hb
    · rw [upd_ne _ _ e]; exact h.ok i hi
  · by_cases e : i = k
    · subst e
      rw [upd_same] at hx
      have hok := come_ok (h.ok i hi) hb
      have hj : j < 33 := by rw [← kc_len hok.1]; exact (List.getElem?_eq_some_iff.1 hx).1
      by_cases hj2 : j = 32
      · subst hj2
        rw [kc_n hok.1] at hx
        rw [List.getElem?_set_self (by rw [hs]; omega), ← hx]
        show _ = some (Value.int .i64 ((min b.length 32 : Nat) : Int))
        rw [hm]
      · rw [List.getElem?_set_ne (by omega), splice_get _ _ _ _ hfit, hl, if_neg (by omega)]
        obtain ⟨y, hy⟩ : ∃ y, (Rn.come (g i) b).d[j]? = some y := ⟨_, List.getElem?_eq_getElem (by rw [hok.1]; omega)⟩
        rw [kc_data hy] at hx
        have hy' := hy
        unfold Rn.come at hy'
        simp only at hy'
        by_cases hjm : j < m
        · rw [if_pos (by omega), show i * 33 + j - i * 33 = j by omega, ← hx]
          rw [List.getElem?_append_left (by rw [List.length_take]; omega)] at hy'
          exact Y_at hy'
        · rw [if_neg (by omega)]
          rw [List.getElem?_append_right (by rw [List.length_take]; omega), List.length_take, List.getElem?_drop] at hy'
          have e2 : min b.length 32 + (j - min 32 b.length) = j := by omega
          rw [e2] at hy'
          rw [← hx]
          exact h.cell i hi j _ (kc_data hy')
    · rw [upd_ne _ _ e] at hx
      have hj : j < 33 := by rw [← kc_len (h.ok i hi).1]; exact (List.getElem?_eq_some_iff.1 hx).1
      rw [far _ (by omega)]
      exact h.cell i hi j x hx
/-- The cells of packets 1 to m, as a list. -/
def ks (g : Nat → Pk) (m : Nat) : List Value := (List.range m).flatMap fun i => kc (g i)
theorem ks_len {g : Nat → Pk} : ∀ {m : Nat}, (∀ k, k < m → (g k).ok) → (ks g m).length = m * 33
  | 0, _ => rfl
  | m + 1, h => by
    have ih := ks_len (g := g) (m := m) fun k hk => h k (by omega)
    unfold ks at *
    rw [List.range_succ, List.flatMap_append, List.length_append, ih]
    simp [kc_len (h m (by omega)).1]
    omega
theorem ks_at {m : Nat} (h : ∀ k, k < m → (g k).ok) {i j : Nat} (hi : i < m) (hj : j < 33) : (ks g m)[i * 33 + j]? = (kc (g i))[j]? := by
  induction m with
  | zero => omega
  | succ m ih =>
    have hl := ks_len (g := g) (m := m) fun k hk => h k (by omega)
    have e : ks g (m + 1) = ks g m ++ kc (g m) := by unfold ks; rw [List.range_succ, List.flatMap_append]; simp
    rw [e]
    by_cases him : i = m
    · subst him
      rw [List.getElem?_append_right (by omega), hl]
      congr 1
      omega
    · rw [List.getElem?_append_left (by omega)]
      exact ih (fun k hk => h k (by omega)) (by omega)
theorem ks_one (g : Nat → Pk) (m : Nat) : ∀ v ∈ ks g m, v.oneCell' = true := fun v hv => by
  unfold ks at hv
  obtain ⟨i, _, hi⟩ := List.mem_flatMap.1 hv
  exact kc_one _ v hi
theorem ks_split {m i : Nat} (h : i < m * 33) : ∃ k j, i = k * 33 + j ∧ k < m ∧ j < 33 := ⟨i / 33, i % 33, by omega, by omega, by omega⟩
/-- The packets move down. -/
theorem Rg.down (h : Rg g n lost v cs) {m : Nat} (hm : m < 8) : Rg (Rn.down g m) n lost v (splice cs 0 (ks (fun i => g (i + 1)) m)) := by
  have hok : ∀ k, k < m → (g (k + 1)).ok := fun k hk => h.ok _ (by omega)
  have hl := ks_len (g := fun i => g (i + 1)) hok
  have hfit : 0 + (ks (fun i => g (i + 1)) m).length ≤ cs.length := by rw [hl, h.len]; omega
  have far : ∀ i, m * 33 ≤ i → (splice cs 0 (ks (fun i => g (i + 1)) m))[i]? = cs[i]? := fun i hi => by
    rw [splice_get _ _ _ _ hfit, hl, if_neg (by omega), if_neg (by omega)]
  refine ⟨by rw [length_splice _ _ _ hfit, h.len], fun i hi => ?_, fun i hi j x hx => ?_, by rw [far _ (by omega)]; exact h.cn, by rw [far _ (by omega)]; exact h.cl, by rw [far _ (by omega)]; exact h.co⟩
  · unfold Rn.down
    split
    · exact h.ok _ (by omega)
    · exact h.ok _ hi
  · unfold Rn.down at hx
    split at hx
    · rename_i him
      have hj : j < 33 := by rw [← kc_len (hok i him).1]; exact (List.getElem?_eq_some_iff.1 hx).1
      rw [splice_get _ _ _ _ hfit, hl, if_neg (by omega), if_pos (by omega), Nat.sub_zero, ks_at (g := fun i => g (i + 1)) hok him hj]
      exact hx
    · rename_i him
      have hj : j < 33 := by rw [← kc_len (h.ok i hi).1]; exact (List.getElem?_eq_some_iff.1 hx).1
      rw [far _ (by omega)]
      exact h.cell i hi j x hx
/-- A whole packet is stored. -/
theorem Rg.put (h : Rg g n lost v cs) {k : Nat} (hk : k < 8) {e : Pk} (he : e.ok) : Rg (upd g k e) n lost v (splice cs (k * 33) (kc e)) := by
  have hl := kc_len he.1
  have hfit : k * 33 + (kc e).length ≤ cs.length := by rw [hl, h.len]; omega
  have far : ∀ i, (k * 33 + 33 ≤ i ∨ i < k * 33) → (splice cs (k * 33) (kc e))[i]? = cs[i]? := fun i hi => by
    rw [splice_get _ _ _ _ hfit, hl]
    rcases hi with hi | hi
    · rw [if_neg (by omega), if_neg (by omega)]
    · rw [if_pos hi]
  refine ⟨by rw [length_splice _ _ _ hfit, h.len], fun i hi => ?_, fun i hi j x hx => ?_, by rw [far _ (by omega)]; exact h.cn, by rw [far _ (by omega)]; exact h.cl, by rw [far _ (by omega)]; exact h.co⟩
  · by_cases e : i = k
    · subst e; rw [upd_same]; exact he
    · rw [upd_ne _ _ e]; exact h.ok i hi
  · by_cases e : i = k
    · subst e
      rw [upd_same] at hx
      have hj : j < 33 := by rw [← hl]; exact (List.getElem?_eq_some_iff.1 hx).1
      rw [splice_get _ _ _ _ hfit, hl, if_neg (by omega), if_pos (by omega), show i * 33 + j - i * 33 = j by omega]
      exact hx
    · rw [upd_ne _ _ e] at hx
      have hj : j < 33 := by rw [← kc_len (h.ok i hi).1]; exact (List.getElem?_eq_some_iff.1 hx).1
      rw [far _ (by omega)]
      exact h.cell i hi j x hx
end Go.Proofs.Ytoccgbfnbpkphaa
