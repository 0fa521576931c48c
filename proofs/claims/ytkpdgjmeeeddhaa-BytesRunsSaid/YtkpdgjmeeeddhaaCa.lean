/- BytesRuns: two segments of one pool, and the bytes that the law keeps of them. -/
import Derived.Test.YtkpdgjmeeeddhaaBk
import Derived.Test.YtkpdgjmeeeddhaaTb
set_option linter.unusedVariables false
set_option linter.unusedSimpArgs false
namespace Go.Proofs.Ytkpdgjmeeeddhaa
open Go.RowKit
set_option linter.unusedVariables false
set_option linter.unusedSimpArgs false
variable {W w w' w1 w2 : World} {R B M N i g off n : Nat} {v : Value} {bs dat os os' : List Nat} {ds ds' : List (List Nat)} {A : Option Addr}
/-- Bytes that the law keeps: nil, or all of a block. -/
def MR (N : Nat) (w : World) (v : Value) (g : Nat) (bs : List Nat) : Prop := (bs = [] ∧ v = .slice none 0 0) ∨ (v = .slice (some ⟨g, 0, none⟩) bs.length bs.length ∧ w.heap[g]? = some (Obj.cells (Y bs).toArray 5) ∧ N ≤ g)
theorem MR.form (h : MR N w v g bs) : ∃ A, v = .slice A bs.length bs.length ∧ BR w A bs := by
  rcases h with ⟨rfl, rfl⟩ | ⟨rfl, h, _⟩
  · exact ⟨_, rfl, BR.nil _ _⟩
  · exact ⟨_, rfl, br_block h⟩
theorem MR.keep (h : MR N w v g bs) (hk : ∀ cs, w.heap[g]? = some (Obj.cells cs 5) → w'.heap[g]? = w.heap[g]?) : MR N w' v g bs := by
  rcases h with h | ⟨h1, h2, h3⟩
  · exact .inl h
  · exact .inr ⟨h1, (hk _ h2).trans h2, h3⟩
/-- Bytes are copied into them. -/
theorem MR.copy {Ax : Option Addr} {L dl dc c : Nat} (ty : TypeId) (h : MR N w (.slice Ax L L) g bs) (hL : bs.length = L) (ho : off + n ≤ L) (hdl : n ≤ dl) (hd : dat.length = n) (hr : BR w A dat) :
    ∃ w', (Builtin.copy_ #[30, 30] ty #[.slice (if L = off then Ax else Ax.map (·.add off)) dl dc, .slice A n c]).run Try.prog w = .ok (goInt n) w' ∧ MR N w' (.slice Ax L L) g (Fr.lay bs off dat) ∧ Turn [g] w w' ∧ (n = 0 → w' = w) := by
  have hmin : Nat.min n dl = n := Nat.min_eq_left hdl
  by_cases h0 : n = 0
  · subst h0
    obtain rfl := List.eq_nil_of_length_eq_zero hd
    rw [Sg.lay_none]
    exact ⟨w, run_copy_none w _ _ ty 5 _ _ _ _ _ _ Try.underlying30 size5 hmin, h, Turn.refl _ _, fun _ => rfl⟩
  · rcases h with ⟨rfl, _⟩ | ⟨e, h2, h3⟩
    · simp at hL; omega
    · injection e with e1 e2 e3
      subst e1
      rw [if_neg (by omega), Option.map_some, addr_add, Nat.zero_add]
      obtain ⟨w', k1, k2, k3⟩ := copy_any w ty 5 g off dl dc n c n A (Y bs) dat h2 hd hmin (.inr (by rw [Y_len]; omega)) hr
      rw [if_neg h0, y_splice] at k2
      have hl : (Fr.lay bs off dat).length = L := by rw [Sg.lay_length (by rw [hd]; omega), hL]
      exact ⟨w', k1, .inr ⟨by rw [hl], k2, h3⟩, k3, fun h => absurd h h0⟩
def up {α : Type} (f : Nat → α) (i : Nat) (a : α) : Nat → α := fun j => if j = i then a else f j
theorem up_same {α : Type} (f : Nat → α) (i : Nat) (a : α) : up f i a i = a := by unfold up; rw [if_pos rfl]
theorem up_other {α : Type} (f : Nat → α) (a : α) {i j : Nat} (h : j ≠ i) : up f i a j = f j := by unfold up; rw [if_neg h]
/-- The law's state since W. -/
structure QS (W : World) (R B M : Nat) (os : List Nat) (ds : List (List Nat)) (fs : Nat → List Nat) (x : Nat → Value) (g : Nat → Nat) (mc : Nat → List Nat) (w : World) : Prop where
  lw : LW W R os ds w
  sv : ∀ i, i < 2 → ∃ v, SV w B i v (fs i)
  ow : ∀ i, i < 2 → Sg.Own os (i + 1) (fs i)
  sum : os.count 0 + os.count 1 + os.count 2 = 20
  hB : W.heap.size ≤ B
  hM : W.heap.size ≤ M
  mm : w.heap[M]? = some (Obj.cells #[x 0, x 1] 30)
  mr : ∀ i, i < 2 → MR W.heap.size w (x i) (g i) (mc i)
  gl : ∀ i, i < 2 → g i < w.heap.size
  ne : g 0 ≠ g 1
variable {fs : Nat → List Nat} {x : Nat → Value} {gs : Nat → Nat} {mc : Nat → List Nat}
theorem QS.below (h : QS W R B M os ds fs x gs mc w) (hb : Below w.heap.size w w') : QS W R B M os ds fs x gs mc w' :=
  ⟨h.lw.below hb, fun i hi => by obtain ⟨v, hv⟩ := h.sv i hi; exact ⟨v, hv.below hb⟩, h.ow, h.sum, h.hB, h.hM, (hb.block M (Array.getElem?_eq_some_iff.1 h.mm).1).trans h.mm,
   fun i hi => (h.mr i hi).keep fun cs hc => hb.block _ (Array.getElem?_eq_some_iff.1 hc).1, fun i hi => Nat.lt_of_lt_of_le (h.gl i hi) hb.size, h.ne⟩
theorem QS.drewN (h : QS W R B M os ds fs x gs mc w) (n : Nat) : QS W R B M os ds fs x gs mc (w.drewN n) := h.below ⟨rfl, rfl, rfl, Nat.le_refl _, fun _ _ => rfl⟩
theorem QS.drew (h : QS W R B M os ds fs x gs mc w) : QS W R B M os ds fs x gs mc w.drew := h.below ((Below.refl _ _).drew)
/-- What a segment and the law's bytes are told by. -/
theorem QS.cellM (h : QS W R B M os ds fs x gs mc w) (hi : i < 2) : w.cell? ⟨M, i, none⟩ = some (x i) ∧ w.frozen? ⟨M, i, none⟩ = false := by
  refine ⟨?_, frozen_of_row _ _ _ _ _ h.mm⟩
  rw [cell_of_row _ _ _ _ _ (0, 0) h.mm]
  match i, hi with
  | 0, _ => rfl
  | 1, _ => rfl
/-- Some bytes of a segment are others. -/
theorem QS.wrd (h : QS W R B M os ds fs x gs mc w) (hi : i < 2) (hw : WRd W w R (i + 1) os ds (fs i) off bs w') :
    ∃ ds', QS W R B M os ds' fs x gs mc w' ∧ Sg.cont ds' (fs i) = Fr.lay (Sg.cont ds (fs i)) off bs ∧ ∀ j, j < 2 → j ≠ i → Sg.cont ds' (fs j) = Sg.cont ds (fs j) := by
  obtain ⟨ds', h1, h2, h3, h4⟩ := hw
  refine ⟨ds', ⟨h1, fun i hi => by obtain ⟨v, hv⟩ := h.sv i hi; exact ⟨v, hv.kp h2⟩, h.ow, h.sum, h.hB, h.hM, (h2.block M _ _ h.mm (by decide) (by decide)).trans h.mm,
   fun i hi => (h.mr i hi).keep fun cs hc => h2.block _ cs _ hc (by decide) (by decide), fun i hi => Nat.lt_of_lt_of_le (h.gl i hi) h2.size, h.ne⟩, h3, fun j hj hne => ((h.ow j hj).oth (by omega) h4).2⟩
/-- A segment is longer or shorter. -/
theorem QS.rzd (h : QS W R B M os ds fs x gs mc w) (hi : i < 2) (hz : RZd W w B i R (i + 1) os ds (fs i) n w') :
    ∃ os' ds' f', QS W R B M os' ds' (up fs i f') x gs mc w' ∧ f'.length = n ∧ Sg.cont ds' f' = Sg.rsz (Sg.cont ds (fs i)) n ∧ ∀ j, j < 2 → j ≠ i → Sg.cont ds' (fs j) = Sg.cont ds (fs j) := by
  obtain ⟨v', os', ds', f', z1, z2, z3, z4, z5, z6, z7, z8, z9⟩ := hz
  obtain ⟨v0, s0⟩ := h.sv i hi
  obtain ⟨csB, hcB⟩ := s0.h
  have hne : ∀ (k : Nat) (cs : Array Value) (t : TypeId), w.heap[k]? = some (Obj.cells cs t) → t ≠ 37 → k ≠ B := fun k cs t hk ht e => by
    rw [e, hcB] at hk; injection hk with hk; injection hk with _ hk; exact ht hk.symm
  refine ⟨os', ds', f', ⟨z1, fun j hj => ?_, fun j hj => ?_, ?_, h.hB, h.hM, (z8.block M _ _ h.mm (by decide) (by decide) (hne _ _ _ h.mm (by decide))).trans h.mm, fun j hj => (h.mr j hj).keep fun cs hc => z8.block _ cs _ hc (by decide) (by decide) (hne _ _ _ hc (by decide)), fun j hj => Nat.lt_of_lt_of_le (h.gl j hj) z8.size, h.ne⟩, z4, z6, fun j hj hne => ((h.ow j hj).oth (by omega) z7).2⟩
  · by_cases e : j = i
    · subst e; rw [up_same]; exact ⟨_, z2⟩
    · rw [up_other _ _ e]
      obtain ⟨vj, sj⟩ := h.sv j hj
      exact ⟨vj, z9 _ _ _ _ sj (.inr e)⟩
  · by_cases e : j = i
    · subst e; rw [up_same]; exact z3
    · rw [up_other _ _ e]
      exact ((h.ow j hj).oth (by omega) z7).1
  · have h1 := z7.sum
    have h2 := h.sum
    match i, hi with
    | 0, _ =>
      have h3 := z7.cnt 2 (by omega) (by omega)
      simp only [Nat.zero_add] at h1
      omega
    | 1, _ =>
      have h3 := z7.cnt 1 (by omega) (by omega)
      have h1' : os'.count 0 + os'.count 2 = os.count 0 + os.count 2 := h1
      omega
/-- The law's bytes of one segment are others, in place. -/
theorem QS.row (h : QS W R B M os ds fs x gs mc w) (hi : i < 2) (hT : Turn [gs i] w w') (hm : MR W.heap.size w' (x i) (gs i) bs) (hsame : mc i = [] → w' = w) : QS W R B M os ds fs x gs (up mc i bs) w' := by
  by_cases h0 : mc i = []
  · obtain rfl := hsame h0
    refine ⟨h.lw, h.sv, h.ow, h.sum, h.hB, h.hM, h.mm, fun j hj => ?_, h.gl, h.ne⟩
    by_cases e : j = i
    · subst e; rw [up_same]; exact hm
    · rw [up_other _ _ e]; exact h.mr j hj
  · obtain ⟨h1, h2, h3⟩ : x i = .slice (some ⟨gs i, 0, none⟩) (mc i).length (mc i).length ∧ w.heap[gs i]? = some (Obj.cells (Y (mc i)).toArray 5) ∧ W.heap.size ≤ gs i := by
      rcases h.mr i hi with ⟨e, _⟩ | h
      · exact absurd e h0
      · exact h
    have hkp : Kb (gs i) w w' := ⟨hT.size, fun k cs t hk _ _ hne => hT.block k (Array.getElem?_eq_some_iff.1 hk).1 (by simpa using hne)⟩
    have hty : ∀ (k : Nat) (cs : Array Value) (t : TypeId), w.heap[k]? = some (Obj.cells cs t) → t ≠ 5 → w'.heap[k]? = w.heap[k]? := fun k cs t hk ht => hT.block k (Array.getElem?_eq_some_iff.1 hk).1 (fun hm => by
      rw [List.mem_singleton.1 hm, h2] at hk; injection hk with hk; injection hk with _ hk; exact ht hk.symm)
    obtain ⟨l1, S, hp, hS⟩ := h.lw
    refine ⟨⟨l1.trans (hT.below l1.size (by intro y hy; rw [List.mem_singleton.1 hy]; exact h3)), S, hp.keep fun b hb => ?_, hS⟩, fun j hj => ?_, h.ow, h.sum, h.hB, h.hM, (hty M _ _ h.mm (by decide)).trans h.mm, fun j hj => ?_, fun j hj => Nat.lt_of_lt_of_le (h.gl j hj) hT.size, h.ne⟩
    · obtain ⟨B', cs, rfl, g1, g2, _⟩ := hp
      rcases List.mem_cons.1 hb with rfl | hb
      · exact hty _ _ _ g1 (by decide)
      · obtain rfl := List.mem_singleton.1 hb
        exact hty _ _ _ g2 (by decide)
    · obtain ⟨v, s⟩ := h.sv j hj
      obtain ⟨cs, hc⟩ := s.h
      have e := hty B _ _ hc (by decide)
      exact ⟨v, by rw [World.cell?_of_block (w := w) e]; exact s.c, ⟨cs, e.trans hc⟩, RW.keep s.r fun k cur _ hk => ⟨trivial, hty k _ _ hk (by decide)⟩, s.l⟩
    · by_cases e : j = i
      · subst e; rw [up_same]; exact hm
      · rw [up_other _ _ e]
        refine (h.mr j hj).keep fun cs hc => hT.block _ (h.gl j hj) (fun hm => ?_)
        have hg := List.mem_singleton.1 hm
        have hne := h.ne
        match i, j, hi, hj with
        | 0, 0, _, _ => exact e rfl
        | 0, 1, _, _ => exact hne hg.symm
        | 1, 0, _, _ => exact hne hg
        | 1, 1, _, _ => exact e rfl
/-- The law's bytes of one segment are a new row. -/
theorem QS.put (h : QS W R B M os ds fs x gs mc w) (hi : i < 2) {G : Nat} (hG : w.heap[G]? = some (Obj.cells (Y bs).toArray 5)) (hN : W.heap.size ≤ G) (hne : ∀ j, j < 2 → gs j ≠ G) :
    QS W R B M os ds fs (up x i (.slice (some ⟨G, 0, none⟩) bs.length bs.length)) (up gs i G) (up mc i bs) (w.setCell ⟨M, i, none⟩ (.slice (some ⟨G, 0, none⟩) bs.length bs.length)) := by
  have hty : ∀ (k : Nat) (cs : Array Value) (t : TypeId), w.heap[k]? = some (Obj.cells cs t) → t ≠ 30 → (w.setCell ⟨M, i, none⟩ (.slice (some ⟨G, 0, none⟩) bs.length bs.length)).heap[k]? = w.heap[k]? := fun k cs t hk ht => heap_setCell_other _ _ _ _ (fun e => by
    have e' : k = M := e
    rw [e', h.mm] at hk; injection hk with hk; injection hk with _ hk; exact ht hk.symm)
  obtain ⟨l1, S, hp, hS⟩ := h.lw
  refine ⟨⟨l1.setCell (p := ⟨M, i, none⟩) h.hM _, S, hp.keep fun b hb => ?_, hS⟩, fun j hj => ?_, h.ow, h.sum, h.hB, h.hM, ?_, fun j hj => ?_, fun j hj => ?_, ?_⟩
  · obtain ⟨B', cs, rfl, g1, g2, _⟩ := hp
    rcases List.mem_cons.1 hb with rfl | hb
    · exact hty _ _ _ g1 (by decide)
    · obtain rfl := List.mem_singleton.1 hb
      exact hty _ _ _ g2 (by decide)
  · obtain ⟨v, s⟩ := h.sv j hj
    obtain ⟨cs, hc⟩ := s.h
    have e := hty B _ _ hc (by decide)
    exact ⟨v, by rw [World.cell?_of_block (w := w) e]; exact s.c, ⟨cs, e.trans hc⟩, RW.keep s.r fun k cur _ hk => ⟨trivial, hty k _ _ hk (by decide)⟩, s.l⟩
  · have := heap_setCell_same w M i _ 30 (.slice (some ⟨G, 0, none⟩) bs.length bs.length) h.mm
    rw [this]
    match i, hi with
    | 0, _ => rfl
    | 1, _ => rfl
  · by_cases e : j = i
    · subst e; rw [up_same, up_same, up_same]
      exact .inr ⟨rfl, (hty G _ _ hG (by decide)).trans hG, hN⟩
    · rw [up_other _ _ e, up_other _ _ e, up_other _ _ e]
      exact (h.mr j hj).keep fun cs hc => hty _ cs _ hc (by decide)
  · rw [World.size_setCell]
    by_cases e : j = i
    · subst e; rw [up_same]; exact (Array.getElem?_eq_some_iff.1 hG).1
    · rw [up_other _ _ e]; exact h.gl j hj
  · match i, hi with
    | 0, _ => rw [up_same, up_other _ _ (by omega)]; exact Ne.symm (hne 1 (by omega))
    | 1, _ => rw [up_same, up_other _ _ (by omega)]; exact hne 0 (by omega)
/-- Between two calls. -/
def PI (W : World) (R B M : Nat) (w : World) : Prop := ∃ os ds fs x gs mc, QS W R B M os ds fs x gs mc w ∧ ∀ i, i < 2 → mc i = Sg.cont ds (fs i)
theorem QS.len (h : QS W R B M os ds fs x gs mc w) (hi : i < 2) : (Sg.cont ds (fs i)).length = 64 * (fs i).length ∧ (fs i).length ≤ 16 := by
  obtain ⟨v, s⟩ := h.sv i hi
  exact ⟨Sg.cont_len h.lw.dw (fun f hf => (h.ow i hi).lt hf), s.l⟩
/-- The law's bytes are those of the segments again. -/
theorem eq_up {ds2 : List (List Nat)} (he : ∀ j, j < 2 → mc j = Sg.cont ds (fs j)) (h1 : bs = Sg.cont ds2 (fs i)) (h2 : ∀ j, j < 2 → j ≠ i → Sg.cont ds2 (fs j) = Sg.cont ds (fs j)) : ∀ j, j < 2 → up mc i bs j = Sg.cont ds2 (fs j) := fun j hj => by
  by_cases e : j = i
  · subst e; rw [up_same]; exact h1
  · rw [up_other _ _ e, h2 j hj e]; exact he j hj
/-- A slice of what was read. -/
theorem br_at {Ax : Option Addr} {L : Nat} (h : BR w Ax bs) (hL : bs.length = L) (off n : Nat) : BR w (if L = off then Ax else Ax.map (·.add off)) ((bs.drop off).take n) := br_take (br_cut (n := 0) h (Nat.le_of_eq hL) off) n
theorem bw_drewN {own : Nat → Prop} (h : BR w A bs) (z : Nat) : BR (w.drewN z) A bs := h.below ⟨rfl, rfl, rfl, Nat.le_refl _, fun _ _ => rfl⟩
theorem shr_byte {m j d z b : Nat} (hj : j < m) (hm : m ≤ 8) (hd : m - 1 - j = d) (hb : z / 256 ^ (m - 1 - j) % 256 = b) :
    (z : Int) / 2 ^ min (IntKind.u64.wrap (8 * IntKind.u64.wrap (d : Int))).toNat 64 % 256 = (b : Int) := by
  have e1 : IntKind.u64.wrap (d : Int) = (d : Int) := by rw [IntKind.wrap_u64]; omega
  have e2 : IntKind.u64.wrap (8 * (d : Int)) = ((8 * d : Nat) : Int) := by rw [IntKind.wrap_u64]; omega
  have e3 : min (IntKind.u64.wrap (8 * IntKind.u64.wrap (d : Int))).toNat 64 = 8 * d := by rw [e1, e2, Int.toNat_natCast]; omega
  rw [e3]
  have e4 : ((2 : Int) ^ (8 * d)) = ((256 ^ d : Nat) : Int) := by rw [show 256 ^ d = 2 ^ (8 * d) by rw [Nat.pow_mul]]; simp
  rw [e4, ← hb, hd]
  simp
theorem shr_wrap {m j d z b : Nat} (hj : j < m) (hm : m ≤ 8) (hd : m - 1 - j = d) (hb : z / 256 ^ (m - 1 - j) % 256 = b) :
    IntKind.u8.wrap ((z : Int) / 2 ^ min (IntKind.u64.wrap (8 * IntKind.u64.wrap (d : Int))).toNat 64) = (b : Int) := by
  rw [IntKind.wrap_u8]; exact shr_byte hj hm hd hb
theorem up_up {α : Type} (f : Nat → α) (i : Nat) (a b : α) : up (up f i a) i b = up f i b := funext fun j => by unfold up; split <;> rfl
theorem up_self {α : Type} (f : Nat → α) (i : Nat) : up f i (f i) = f := funext fun j => by
  unfold up; split
  · rename_i h; rw [h]
  · rfl
theorem lay_succ {m b : List Nat} {off j y : Nat} (h : off + b.length ≤ m.length) (hj : b[j]? = some y) : Fr.lay m off (b.take (j + 1)) = (Fr.lay m off (b.take j)).set (off + j) y := by
  have hjl := (List.getElem?_eq_some_iff.1 hj).1
  have l1 : (b.take (j + 1)).length = j + 1 := by rw [List.length_take]; omega
  have l2 : (b.take j).length = j := by rw [List.length_take]; omega
  apply List.ext_getElem?
  intro i
  rw [Sg.lay_at _ _ _ _ (by omega), l1, List.getElem?_set, Sg.lay_length (by omega), Sg.lay_at _ _ _ _ (by omega), l2]
  by_cases h1 : i < off
  · rw [if_pos h1, if_neg (by omega), if_pos h1]
  · rw [if_neg h1, if_neg h1]
    by_cases h2 : i < off + j
    · rw [if_pos (by omega), if_neg (by omega), if_pos h2, List.getElem?_take, List.getElem?_take, if_pos (by omega), if_pos (by omega)]
    · by_cases h3 : off + j = i
      · rw [if_pos (by omega), if_pos h3, if_pos (by omega), List.getElem?_take, if_pos (by omega), ← hj]; congr 1; omega
      · rw [if_neg (by omega), if_neg h3, if_neg h2]
theorem meas {j m : Nat} (h : j + 1 ≤ m) : m - (j + 1) < m - j := by omega
theorem div_seg {L f : Nat} (h : L = 64 * f) : (L : Int).tdiv 64 = (f : Int) := by rw [h, Int.tdiv_eq_ediv_of_nonneg (by omega)]; omega
theorem w_nat {a : Nat} (h : a ≤ 5000) : RowKit.wrap64 (a : Int) = (a : Int) := by unfold RowKit.wrap64; omega
theorem w_u64 {a : Nat} (h : a ≤ 5000) : IntKind.u64.wrap (a : Int) = (a : Int) := by rw [IntKind.wrap_u64]; omega
theorem w_succ {j m : Nat} (h : j < m) (hm : m ≤ 2000) : RowKit.wrap64 ((j : Int) + 1) = (j : Int) + 1 := by unfold RowKit.wrap64; omega
theorem w_pred {m : Nat} (h1 : 1 ≤ m) (hm : m ≤ 2000) : RowKit.wrap64 ((m : Int) - 1) = (m : Int) - 1 := by unfold RowKit.wrap64; omega
theorem w_rest {j m d : Nat} (h : j < m) (hm : m ≤ 2000) (hd : m - 1 - j = d) : RowKit.wrap64 ((m : Int) - 1 - (j : Int)) = (d : Int) := by unfold RowKit.wrap64; omega
theorem w_pred' {m : Nat} (h1 : 1 ≤ m) (hm : m ≤ 2000) : IntKind.i64.wrap ((m : Int) - 1) = (m : Int) - 1 := by rw [IntKind.wrap_i64]; omega
theorem w_rest' {j m d : Nat} (h : j < m) (hm : m ≤ 2000) (hd : m - 1 - j = d) : IntKind.i64.wrap ((m : Int) - 1 - (j : Int)) = (d : Int) := by rw [IntKind.wrap_i64]; omega
theorem w_add {a b c : Nat} (h : a + b ≤ 5000) (hc : a + b = c) : RowKit.wrap64 ((a : Int) + (b : Int)) = (c : Int) ∧ IntKind.i64.wrap ((a : Int) + (b : Int)) = (c : Int) := ⟨by unfold RowKit.wrap64; omega, by rw [IntKind.wrap_i64]; omega⟩
/-- A call's box. -/
def CB (w : World) (C : Nat) (y : Cl) : Prop := w.heap[C]? = some (Obj.cells y.cs.toArray 32)
theorem CB.cells {C : Nat} {y : Cl} (h : CB w C y) : w.cell? ⟨C, 0, none⟩ = some (.int .i64 y.k) ∧ w.cell? ⟨C, 1, none⟩ = some (.int .i64 y.h) ∧ w.cell? ⟨C, 2, none⟩ = some (.int .i64 y.o) ∧ w.cell? ⟨C, 3, none⟩ = some (.int .i64 y.n) ∧ w.cell? ⟨C, 4, none⟩ = some (.int .i64 y.a) ∧ w.cell? ⟨C, 5, none⟩ = some (.int .u64 (y.x : Int)) ∧ w.cell? ⟨C, 6, none⟩ = some (.slice y.A y.l y.c) := by
  refine ⟨?_, ?_, ?_, ?_, ?_, ?_, ?_⟩
  all_goals rw [cell_of_row _ _ _ _ _ (0, 0) h]; rfl
theorem CB.kp {C : Nat} {y : Cl} (h : CB w C y) (hk : Kp w w') : CB w' C y := (hk.block C _ _ h (by decide) (by decide)).trans h
theorem CB.below {C : Nat} {y : Cl} (h : CB w C y) (hb : Below w.heap.size w w') : CB w' C y := h.kp (Kp.below hb)
/-- One byte of the law's own is another one. -/
theorem QS.byte {G j y L : Nat} (h : QS W R B M os ds fs x gs mc w) (hi : i < 2) (hx : x i = .slice (some ⟨G, 0, none⟩) L L) (hj : j < (mc i).length) :
    QS W R B M os ds fs x gs (up mc i ((mc i).set j y)) (w.setCell ⟨G, j, none⟩ (.int .u8 (y : Int))) ∧ (∃ y' : Nat, w.cell? ⟨G, j, none⟩ = some (.int .u8 (y' : Int))) ∧ w.frozen? ⟨G, j, none⟩ = false ∧ ∀ C z, CB w C z → CB (w.setCell ⟨G, j, none⟩ (.int .u8 (y : Int))) C z := by
  rcases h.mr i hi with ⟨e, _⟩ | ⟨h1, h2, h3⟩
  · rw [e] at hj; simp at hj
  · rw [hx] at h1
    injection h1 with e1 e2 e3
    injection e1 with e1
    injection e1 with e1
    rw [e1]
    have hs := heap_setCell_same w (gs i) j _ 5 (.int .u8 (y : Int)) h2
    refine ⟨h.row hi (Turn.set w (gs i) j _) (.inr ⟨?_, ?_, h3⟩) (fun e => by rw [e] at hj; simp at hj), ?_, frozen_of_row _ _ _ _ _ h2, fun C z hC => ?_⟩
    · rw [hx, List.length_set, ← e2, e1]
    · rw [hs]
      congr 1
      unfold Y
      rw [List.map_set, List.setIfInBounds_toArray]
    · refine ⟨(mc i)[j], ?_⟩
      rw [cell_of_row _ _ _ _ _ (0, 0) h2, List.getElem?_toArray]
      exact Y_at (List.getElem?_eq_getElem hj)
    · refine (heap_setCell_other _ _ _ _ (fun e => ?_)).trans hC
      have e' : C = gs i := e
      unfold CB at hC
      rw [e', h2] at hC; simp at hC
/-- Do they lie within? -/
def wi (s o n : Int) : Bool := decide (0 ≤ n) && decide (0 ≤ o) && decide (o ≤ s) && decide (n ≤ s - o)
theorem wi_iff {s o n : Int} : wi s o n = true ↔ 0 ≤ n ∧ 0 ≤ o ∧ o + n ≤ s := by
  unfold wi
  simp only [Bool.and_eq_true, decide_eq_true_eq]
  omega
set_option maxHeartbeats 1000000 in
theorem within_c (s : Nat) (o n : Int) (w : World) (hs : s ≤ 2000) (ho : Bi o) (hn : Bi n) : Calls Try.prog 22 #[.int .i64 (s : Int), .int .i64 o, .int .i64 n] w fun e w' => e = .returned (.bool (wi s o n)) ∧ w' = w := by
  obtain ⟨ho1, ho2⟩ := ho
  obtain ⟨hn1, hn2⟩ := hn
  by_cases h0 : 0 ≤ n
  · by_cases h1 : 0 ≤ o
    · by_cases h2 : o ≤ s
      · have e : wi s o n = decide (n ≤ (s : Int) - o) := by unfold wi; rw [decide_eq_true h0, decide_eq_true h1, decide_eq_true h2]; rfl
        have e1 : RowKit.wrap64 ((s : Int) - o) = (s : Int) - o := by unfold RowKit.wrap64; omega
        obtain ⟨d, ed⟩ : ∃ d, (s : Int) - o = d := ⟨_, rfl⟩
        rw [ed] at e
        rw [ed] at e1
        have e2 : RowKit.wrap64 ((s : Int) - o) = d := by rw [ed]; exact e1
        obtain ⟨t, et⟩ : ∃ t, decide (n ≤ d) = t := ⟨_, rfl⟩
        rw [e, et]
        have h2' : decide (o ≤ (s : Int)) = true := decide_eq_true h2
        clear e e1 ed hs ho1 ho2 hn1 hn2
        go_enter Try.func22, Try.ntmps22
        go_wp2_with fail
        go_ret
        exact ⟨rfl, rfl⟩
      · have e : wi s o n = false := by unfold wi; rw [decide_eq_false h2]; simp
        rw [e]
        clear e hs ho1 ho2 hn1 hn2
        have h2' : decide (o ≤ (s : Int)) = false := decide_eq_false h2
        go_enter Try.func22, Try.ntmps22
        go_wp2_with fail
        go_ret
        exact ⟨rfl, rfl⟩
    · have e : wi s o n = false := by unfold wi; rw [decide_eq_false h1]; simp
      rw [e]
      clear e hs ho1 ho2 hn1 hn2
      go_enter Try.func22, Try.ntmps22
      go_wp2_with fail
      go_ret
      exact ⟨rfl, rfl⟩
  · have e : wi s o n = false := by unfold wi; rw [decide_eq_false h0]; simp
    rw [e]
    clear e hs ho1 ho2 hn1 hn2
    go_enter Try.func22, Try.ntmps22
    go_wp2_with fail
    go_ret
    exact ⟨rfl, rfl⟩
end Go.Proofs.Ytkpdgjmeeeddhaa
