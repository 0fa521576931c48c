import Derived.Test.YtlkhbbdigljpjaaUe
namespace Go.Proofs.Ytlkhbbdigljpjaa
open Go.RowKit
set_option linter.unusedVariables false
set_option linter.unusedSimpArgs false

theorem leq_self (D : Int) (ps : List (Nat × Int)) : ∀ c, Lab.at' D ps c ≤ Lab.at' D ps c := fun c => Int.le_refl _
theorem leq_anti {D E : Int} {ps qs : List (Nat × Int)} (o1 : Lab.Ok D ps) (o2 : Lab.Ok E qs) (h1 : ∀ c, Lab.at' D ps c ≤ Lab.at' E qs c) (h2 : ∀ c, Lab.at' E qs c ≤ Lab.at' D ps c) : D = E ∧ ps = qs :=
  pair_ext o1 o2 (by have a := h1 0; have b := h2 0; rw [Lab.at_zero o1, Lab.at_zero o2] at a b; omega) fun c => by have := h1 c; have := h2 c; omega
theorem leq_jn {D E F : Int} {ps qs rs : List (Nat × Int)} (o1 : Lab.Ok D ps) (o2 : Lab.Ok E qs) : (∀ c, Lab.at' (max D E) (Lab.jn D ps E qs) c ≤ Lab.at' F rs c) ↔ (∀ c, Lab.at' D ps c ≤ Lab.at' F rs c) ∧ ∀ c, Lab.at' E qs c ≤ Lab.at' F rs c := by
  constructor
  · intro h
    exact ⟨fun c => by have := h c; rw [Lab.jn_at o1 o2] at this; omega, fun c => by have := h c; rw [Lab.jn_at o1 o2] at this; omega⟩
  · rintro ⟨h1, h2⟩ c
    have := h1 c; have := h2 c
    rw [Lab.jn_at o1 o2]; omega
theorem order_cases {pab pba pbc pac pjc pE : Prop} {rab rba rbc rac rjc : Bool} (h1 : rab = true ↔ pab) (h2 : rba = true ↔ pba) (h3 : rbc = true ↔ pbc) (h4 : rac = true ↔ pac) (h5 : rjc = true ↔ pjc)
    (k1 : pab → pba → pE) (k2 : pab → pbc → pac) (k3 : pjc ↔ pac ∧ pbc) :
    (rab = false ∧ rjc = false) ∨ (rab = false ∧ rjc = true ∧ rac = true ∧ rbc = true) ∨ (rab = true ∧ rba = false ∧ rbc = false ∧ rjc = false) ∨ (rab = true ∧ rba = false ∧ rbc = true ∧ rac = true ∧ rjc = true) ∨
      (rab = true ∧ rba = true ∧ rbc = false ∧ rjc = false ∧ pE) ∨ (rab = true ∧ rba = true ∧ rbc = true ∧ rac = true ∧ rjc = true ∧ pE) := by
  cases rab <;> cases rba <;> cases rbc <;> cases rac <;> cases rjc <;> simp_all
/-- A list of categories, as it is read. -/
def OR (w : World) (a : Option Addr) (cs : List Nat) : Prop := ∀ k x, cs[k]? = some x → ∃ bc oc, a = some ⟨bc, oc, none⟩ ∧ bc < w.heap.size ∧ w.cell? ⟨bc, oc + k, none⟩ = some (.int .u32 (x : Nat))
theorem OR.below {w w' : World} {a : Option Addr} {cs : List Nat} (h : OR w a cs) (hb : Below w.heap.size w w') : OR w' a cs := fun k x hk => by
  obtain ⟨bc, oc, h1, h2, h3⟩ := h k x hk
  exact ⟨bc, oc, h1, Nat.lt_of_lt_of_le h2 hb.size, by rw [hb.cell (p := ⟨bc, _, none⟩) h2]; exact h3⟩
/-- What Owns gives, as it is read. -/
def OG (W : World) (cs : List Nat) (e : Ending) (w' : World) : Prop := ∃ a c, e = .returned (.slice a cs.length c) ∧ OR w' a cs ∧ Below W.heap.size W w'
theorem og_of {W w' : World} {v : Value} {cs : List Nat} {e : Ending} (h1 : e = .returned v) (h2 : w'.ownsRow (W.heap.size + 1) 37 1 v cs.length (U cs)) (h3 : Below W.heap.size W w') (hn : cs.length ≤ 1000000) : OG W cs e w' := by
  rcases readsV_of_owns h2 (by omega) with ⟨rfl, hc⟩ | ⟨bc, oc, cc, rfl, hbc, _, hcc⟩
  · have : cs = [] := by simpa [U] using hc
    subst this
    exact ⟨none, 0, h1, fun k x hk => by simp at hk, h3⟩
  · exact ⟨some ⟨bc, oc, none⟩, cc, by simpa [U] using h1, fun k x hk => ⟨bc, oc, rfl, hbc, hcc k _ (by unfold U; rw [List.getElem?_map, hk]; rfl)⟩, h3⟩
theorem Lab.owns_le (ps : List (Nat × Int)) : (Lab.owns ps).length ≤ ps.length := by have := Lab.owns_len ps ps.length; rwa [List.take_length] at this
theorem owns_c {D : Int} {v1 : Value} {ps : List (Nat × Int)} {W : World} (r1 : RC W.heap.size W v1 ps) (hn : ps.length ≤ 1000000) : Calls Try.prog 26 #[.agg #[.int .i64 D, v1]] W (OG W (Lab.owns ps)) :=
  (powns_any v1 ps D W (r1.reads (Nat.le_refl _)) (by omega)).mono fun e w' ⟨v, h1, h2, h3⟩ => og_of h1 h2 h3 (by have := Lab.owns_le ps; omega)
theorem rowns_c {D : Int} {v1 : Value} {ps : List (Nat × Int)} {W : World} (r1 : RC W.heap.size W v1 ps) (hn : ps.length ≤ 1000000) : Calls Try.prog 27 #[.agg #[.int .i64 D, v1]] W (OG W (Lab.owns ps)) :=
  (owns_any v1 ps D W (r1.reads (Nat.le_refl _)) (by omega)).mono fun e w' ⟨v, h1, h2, h3⟩ => og_of h1 h2 h3 (by have := Lab.owns_le ps; omega)
theorem at_c {D l : Int} {v1 : Value} {ps : List (Nat × Int)} {W : World} {c : Nat} (o1 : Lab.Ok D ps) (r1 : RC W.heap.size W v1 ps) (h : Lab.at' D ps c = l) : Calls Try.prog 28 #[.agg #[.int .i64 D, v1], .int .u32 c] W fun e w' => e = .returned (.int .i64 l) ∧ Below W.heap.size W w' := by
  have := pat_any v1 ps D c W o1.1 (r1.reads (Nat.le_refl _)); rwa [h] at this
theorem rat_c {D l : Int} {v1 : Value} {ps : List (Nat × Int)} {W : World} {c : Nat} (r1 : RC W.heap.size W v1 ps) (h : Lab.at' D ps c = l) : Calls Try.prog 29 #[.agg #[.int .i64 D, v1], .int .u32 c] W fun e w' => e = .returned (.int .i64 l) ∧ Below W.heap.size W w' := by
  have := at_any v1 ps D c W (r1.reads (Nat.le_refl _)); rwa [h] at this
theorem turn_ge {b x : Int} (h0 : 0 ≤ x) (hb : 0 ≤ b) : x ≤ Lab.turn 0 b x := by unfold Lab.turn; split <;> omega
theorem leq_turn {b D : Int} {ps : List (Nat × Int)} (h : Lab.Fine D ps) (hb : 0 ≤ b) : ∀ c, Lab.at' D ps c ≤ Lab.at' (Lab.turn 0 b D) (Lab.tn 0 b D ps) c := fun c => by
  rw [Lab.tn_at h.1]; exact turn_ge (fine_at h c).1 hb
theorem leq_raise_of {D E : Int} {ps qs : List (Nat × Int)} (h2 : Lab.Fine E qs) (h : ∀ c, Lab.at' D ps c ≤ Lab.at' E qs c) : ∀ c, Lab.at' D ps c ≤ Lab.at' (Lab.turn 0 5 E) (Lab.tn 0 5 E qs) c := fun c => Int.le_trans (h c) (leq_turn h2 (by omega) c)
theorem mem_owns {ps : List (Nat × Int)} {c : Nat} (h : c ∈ Lab.owns ps) : (c, (0 : Int)) ∈ ps := by
  unfold Lab.owns at h
  obtain ⟨p, hp, rfl⟩ := List.mem_map.1 h
  obtain ⟨h1, h2⟩ := List.mem_filter.1 hp
  have : p.2 = 0 := by simpa using h2
  rw [← this]; exact h1
theorem at_owned {b D : Int} {ps : List (Nat × Int)} (o : Lab.Ok D ps) {c : Nat} {k : Nat} (h : (Lab.owns ps)[k]? = some c) : Lab.at' (Lab.turn 0 b D) (Lab.tn 0 b D ps) c = b := by
  rw [Lab.tn_at o, Lab.at_mem o.1 (mem_owns (List.mem_of_getElem? h))]; simp [Lab.turn]
theorem owns_raised {D : Int} {ps : List (Nat × Int)} (o : Lab.Ok D ps) : Lab.owns (Lab.tn 0 5 D ps) = [] := by
  rw [List.eq_nil_iff_forall_not_mem]
  intro c hc
  have h1 := Lab.at_mem (D := Lab.turn 0 5 D) (Lab.tn_ok (a := 0) (b := 5) o).1 (mem_owns hc)
  rw [Lab.tn_at o] at h1
  unfold Lab.turn at h1
  split at h1 <;> simp_all
theorem same_raised {D : Int} {ps : List (Nat × Int)} (h : Lab.Fine D ps) (hn : (Lab.owns ps).length = 0) : D = Lab.turn 0 5 D ∧ ps = Lab.tn 0 5 D ps := by
  have hD : D = Lab.turn 0 5 D := by unfold Lab.turn; rw [if_neg (by have := h.2.1; omega)]
  refine pair_ext h.1 (Lab.tn_ok h.1) hD fun c => ?_
  rw [Lab.tn_at h.1]
  unfold Lab.turn
  split
  · next he =>
    exfalso
    have hD1 := h.2.1
    obtain ⟨p, hp, rfl⟩ := Lab.at_ne (D := D) (ps := ps) (c := c) (by omega)
    rw [Lab.at_mem h.1.1 hp] at he
    have : p.1 ∈ Lab.owns ps := by unfold Lab.owns; exact List.mem_map.2 ⟨p, List.mem_filter.2 ⟨hp, by simp [he]⟩, rfl⟩
    rw [List.eq_nil_of_length_eq_zero hn] at this
    cases this
  · rfl
end Go.Proofs.Ytlkhbbdigljpjaa
