/- A ring of the law's own, beside what else it has; All. -/
import Derived.Test.YtoccgbfnbpkphaaRe
set_option linter.unusedVariables false
set_option linter.unusedSimpArgs false
namespace Go.Proofs.Ytoccgbfnbpkphaa
open Go.RowKit Rn
set_option linter.unusedVariables false
set_option linter.unusedSimpArgs false
/-- Since W: a ring in blocks of its own, beside the blocks T. -/
structure RS (W : World) (T : List Nat) (R : Nat) (ps : List (List Nat)) (lost : Nat) (us : List Nat) (w : World) : Prop where
  b : Below W.heap.size W w
  t : ∀ b ∈ T, b < w.heap.size
  r : W.heap.size ≤ R
  rt : R ∉ T
  np : ps.length ≤ 8
  nu : us.length ≤ 1024
  m : ∃ g v, RM w R g ps.length lost v ∧ wait g ps.length = ps ∧ UO (fun b => W.heap.size ≤ b ∧ b ∉ T ∧ b ≠ R) w us v
/-- What T holds reads as before. -/
def Same (T : List Nat) (w w' : World) : Prop := ∀ b ∈ T, w'.heap[b]? = w.heap[b]?
theorem Same.refl (T : List Nat) (w : World) : Same T w w := fun _ _ => rfl
theorem Same.trans {T : List Nat} {a b c : World} (h : Same T a b) (k : Same T b c) : Same T a c := fun x hx => (k x hx).trans (h x hx)
theorem Same.less {T T' : List Nat} {a b : World} (h : Same T a b) (k : ∀ x ∈ T', x ∈ T) : Same T' a b := fun x hx => h x (k x hx)
variable {W w w' : World} {T T' : List Nat} {R : Nat} {ps : List (List Nat)} {lost : Nat} {us : List Nat}
/-- The ring's own blocks are kept: the ring is. -/
theorem RS.keep (h : RS W T R ps lost us w) (hb : Below W.heap.size W w') (hs : ∀ b, b < w.heap.size → W.heap.size ≤ b → b ∉ T → w'.heap[b]? = w.heap[b]?) (hT : ∀ b ∈ T', (b ∈ T ∨ w.heap.size ≤ b) ∧ b < w'.heap.size) : RS W T' R ps lost us w' := by
  obtain ⟨g, v, h1, h2, h3⟩ := h.m
  refine ⟨hb, fun b hb => (hT b hb).2, h.r, fun hm => ?_, h.np, h.nu, g, v, h1.same (hs R h1.lt h.r h.rt), h2, h3.keep fun b ⟨q1, q2, q3⟩ hlt => ⟨⟨q1, fun hm => ?_, q3⟩, hs b hlt q1 q2⟩⟩
  · rcases (hT R hm).1 with e | e
    · exact h.rt e
    · have := h1.lt; omega
  · rcases (hT b hm).1 with e | e
    · exact q2 e
    · omega
theorem RS.below (h : RS W T R ps lost us w) (hb : Below w.heap.size w w') : RS W T R ps lost us w' :=
  h.keep (h.b.trans (hb.mono h.b.size)) (fun b hl _ _ => hb.block b hl) fun b hm => ⟨.inl hm, Nat.lt_of_lt_of_le (h.t b hm) hb.size⟩
theorem RS.drew (h : RS W T R ps lost us w) : RS W T R ps lost us w.drew := h.below (Below.refl _ _).drew
/-- T has turned: the ring hasn't. -/
theorem RS.turn (h : RS W T R ps lost us w) (hb : Turn T w w') (hT : ∀ b ∈ T, W.heap.size ≤ b) : RS W T R ps lost us w' :=
  h.keep (h.b.trans (hb.below h.b.size hT)) (fun b hl _ hn => hb.block b hl hn) fun b hm => ⟨.inl hm, Nat.lt_of_lt_of_le (h.t b hm) hb.size⟩
theorem RS.more (h : RS W T R ps lost us w) (hb : Below w.heap.size w w') (hT : ∀ b ∈ T', (b ∈ T ∨ w.heap.size ≤ b) ∧ b < w'.heap.size) : RS W T' R ps lost us w' :=
  h.keep (h.b.trans (hb.mono h.b.size)) (fun b hl _ _ => hb.block b hl) hT
theorem RS.alloc (h : RS W T R ps lost us w) (o : Obj) : RS W (w.heap.size :: T) R ps lost us (w.alloc o) :=
  h.more (below_alloc1 w o) fun b hm => by
    rcases List.mem_cons.1 hm with hb | hb
    · exact ⟨.inr (by omega), by rw [hb]; simp⟩
    · exact ⟨.inl hb, by have := h.t b hb; simp; omega⟩
theorem RS.less (h : RS W T R ps lost us w) (hT : ∀ b ∈ T', b ∈ T) : RS W T' R ps lost us w :=
  h.more (Below.refl _ _) fun b hm => ⟨.inl (hT b hm), h.t b (hT b hm)⟩
theorem RS.set (h : RS W T R ps lost us w) (M i : Nat) (v : Value) (hM : M ∈ T) (hW : W.heap.size ≤ M) : RS W T R ps lost us (w.setCell ⟨M, i, none⟩ v) :=
  h.keep (h.b.setCell (p := ⟨M, i, none⟩) hW v) (fun b hl _ hn => Below.heap_setCell _ _ _ _ (fun e => hn (by rw [e]; exact hM))) fun b hm => ⟨.inl hm, by have := h.t b hm; simp; omega⟩
theorem RS.same (h : RS W T R ps lost us w) (hb : Below w.heap.size w w') : Same T w w' := fun b hm => hb.block b (h.t b hm)
/-- A call of the ring's turns the ring. -/
theorem RS.of (h : RS W T R ps lost us w) (ht : Turn [R] w w') {ps' : List (List Nat)} {lost' : Nat} {g : Nat → Pk} {v : Value} {us' : List Nat} (np : ps'.length ≤ 8) (nu : us'.length ≤ 1024) (hm : RM w' R g ps'.length lost' v) (hw : wait g ps'.length = ps') (ho : UO (fun b => (W.heap.size ≤ b ∧ b ∉ T ∧ b ≠ R) ∨ w.heap.size ≤ b) w' us' v) : RS W T R ps' lost' us' w' ∧ Same T w w' := by
  have hlt := h.m
  obtain ⟨g0, v0, h1, _⟩ := hlt
  refine ⟨⟨h.b.trans (ht.below h.b.size fun b hb => by rw [List.mem_singleton.1 hb]; exact h.r), fun b hb => Nat.lt_of_lt_of_le (h.t b hb) ht.size, h.r, h.rt, np, nu, g, v, hm, hw, ho.keep fun b hq hl => ⟨?_, rfl⟩⟩, fun b hb => ht.block b (h.t b hb) fun hr => h.rt (by rw [← List.mem_singleton.1 hr]; exact hb)⟩
  rcases hq with hq | hq
  · exact hq
  · exact ⟨Nat.le_trans h.b.size hq, fun hm => by have := h.t b hm; omega, fun e => by have := h1.lt; omega⟩
theorem RS.lt (h : RS W T R ps lost us w) : R < w.heap.size := by
  obtain ⟨g, v, h1, _⟩ := h.m; exact h1.lt
theorem RM.ok {w : World} {R : Nat} {g : Nat → Pk} {n lost : Nat} {v : Value} (h : RM w R g n lost v) : ∀ k, k < 8 → (g k).ok := by
  obtain ⟨_, _, h2⟩ := h; exact h2.ok
theorem RS.bytes (h : RS W T R ps lost us w) : ∀ p ∈ ps, p.length ≤ 32 ∧ ∀ x ∈ p, x < 256 := fun p hp => by
  obtain ⟨g, v, h1, h2, _⟩ := h.m
  rw [← h2] at hp
  unfold wait at hp
  obtain ⟨i, hi, rfl⟩ := List.mem_map.1 hp
  have hk := h1.ok i (by have := List.mem_range.1 hi; have := h.np; omega)
  exact ⟨by rw [hk.bs_len]; exact hk.2.1, hk.bs_lt⟩
/-- A ring's zero value. -/
def zr : List Value := ks (fun _ => bare) 8 ++ [.int .i64 0, .int .i64 0, .slice none 0 0]
set_option maxRecDepth 100000 in
theorem zero_ring (W : World) : (zeroValue 30).run Try.prog W = .ok (.agg zr.toArray) W := by kernel_rfl
set_option maxRecDepth 100000 in
theorem zring : RM (w.alloc (Obj.cells zr.toArray 30)) w.heap.size (fun _ => bare) 0 0 (.slice none 0 0) := by
  refine ⟨zr, heap_alloc_new w _, ?_⟩
  have hl : (ks (fun _ => bare) 8).length = 264 := rfl
  refine ⟨rfl, fun _ _ => bare_ok, fun k hk j x hx => ?_, rfl, rfl, rfl⟩
  have hj : j < 33 := (List.getElem?_eq_some_iff.1 hx).1
  unfold zr
  rw [List.getElem?_append_left (by rw [hl]; omega), ks_at (fun _ _ => bare_ok) hk hj]
  exact hx
/-- A ring is made. -/
theorem new_rs0 (o : Obj) (hb : Below W.heap.size W w) (hT : ∀ b ∈ T, b < w.heap.size) (hm : RM (w.alloc o) w.heap.size (fun _ => bare) 0 0 (.slice none 0 0)) : RS W T w.heap.size [] 0 [] (w.alloc o) :=
  ⟨hb.alloc hb.size _, fun b hm => by have := hT b hm; simp; omega, hb.size, fun hm => by have := hT _ hm; omega, by simp, by simp, _, _, hm, rfl, .inl ⟨rfl, rfl⟩⟩
set_option maxRecDepth 100000 in
theorem new_rs (hb : Below W.heap.size W w) (hT : ∀ b ∈ T, b < w.heap.size) : RS W T w.heap.size [] 0 [] (w.alloc (Obj.cells zr.toArray 30)) :=
  new_rs0 _ hb hT zring
theorem len_rs (h : RS W T R ps lost us w) : Calls Try.prog 13 #[.pointer (some ⟨R, 0, none⟩)] w fun e w' => e = .returned (.int .i64 (ps.length : Int)) ∧ w' = w := by
  obtain ⟨g, v, h1, _⟩ := h.m; exact len_any h1
theorem lost_rs (h : RS W T R ps lost us w) : Calls Try.prog 14 #[.pointer (some ⟨R, 0, none⟩)] w fun e w' => e = .returned (.int .i64 (lost : Int)) ∧ w' = w := by
  obtain ⟨g, v, h1, _⟩ := h.m; exact lost_any h1
theorem push_rs (h : RS W T R ps lost us w) (hl : ps.length < 8) (A : Option Addr) (l c : Nat) (bs : List Nat) (hbl : bs.length = l) (hbr : BR w A bs) (hb : ∀ x ∈ bs, x < 256) (hm : l ≤ 1000000) : Calls Try.prog 8 #[.pointer (some ⟨R, 0, none⟩), .slice A l c] w fun e w' =>
    e = .returned (.bool true) ∧ RS W T R (ps ++ [bs.take 32]) lost us w' ∧ Same T w w' := by
  obtain ⟨g, v, h1, h2, h3⟩ := h.m
  refine (push_any h1 hl A l c bs hbl hbr hb (by omega)).mono fun e w' ⟨he, ht, hm'⟩ => ⟨he, ?_⟩
  have e1 : (ps ++ [bs.take 32]).length = ps.length + 1 := by simp
  refine h.of ht (by rw [e1]; omega) h.nu (by rw [e1]; exact hm') ?_ (h3.keep fun b hq hlt => ⟨.inl hq, ht.block b hlt fun hr => hq.2.2 (List.mem_singleton.1 hr)⟩)
  rw [e1, wait_succ, upd_same, come_bs]
  congr 1
  rw [← h2, wait_len]
  rw [h2]
  exact (wait_congr fun i hi => upd_ne _ _ (by omega)).trans h2
theorem push_rs_full (h : RS W T R ps lost us w) (hl : ps.length = 8) (hlo : lost ≤ 1000000) (A : Option Addr) (l c : Nat) : Calls Try.prog 8 #[.pointer (some ⟨R, 0, none⟩), .slice A l c] w fun e w' =>
    e = .returned (.bool false) ∧ RS W T R ps (lost + 1) us w' ∧ Same T w w' := by
  obtain ⟨g, v, h1, h2, h3⟩ := h.m
  rw [hl] at h1
  refine (push_full h1 hlo A l c).mono fun e w' ⟨he, ht, hm'⟩ => ⟨he, ?_⟩
  exact h.of ht h.np h.nu (by rw [hl]; exact hm') h2 (h3.keep fun b hq hlt => ⟨.inl hq, ht.block b hlt fun hr => hq.2.2 (List.mem_singleton.1 hr)⟩)
/-- Bytes in a block of their own, as a slice from its beginning. -/
def NB (w : World) (b : Nat) (p : List Nat) (v : Value) : Prop := ∃ c cur, v = .slice (some ⟨b, 0, none⟩) p.length c ∧ w.heap[b]? = some (Obj.cells cur 5) ∧ p.length ≤ c ∧ c ≤ maxLen ∧ cur.toList.take p.length = Y p
theorem NB.same {b : Nat} {p : List Nat} {v : Value} (h : NB w b p v) (hs : w'.heap[b]? = w.heap[b]?) : NB w' b p v := by
  obtain ⟨c, cur, h1, h2, h3⟩ := h; exact ⟨c, cur, h1, hs.trans h2, h3⟩
theorem NB.br {b : Nat} {p : List Nat} {v : Value} (h : NB w b p v) : BR w (some ⟨b, 0, none⟩) p := fun i x hi => by
  obtain ⟨c, cur, h1, h2, h3, h4, h5⟩ := h
  refine ⟨b, 0, rfl, (Array.getElem?_eq_some_iff.1 h2).1, ?_⟩
  rw [Nat.zero_add, cell_of_row _ _ _ _ 5 (0, 0) h2]
  exact take_at h5 (Y_at hi)
theorem BR.take' {w : World} {A : Option Addr} {bs : List Nat} (h : BR w A bs) (k : Nat) : BR w A (bs.take k) := h.take k
theorem NB.conv {w : World} {b : Nat} {p : List Nat} {A : Option Addr} {n c : Nat} (h : NB w b p (.slice A n c)) : ∀ q, (convert 32 9 (.slice A n c)).run Try.prog (w.drewN q) = .ok (.string (Str p)) (w.drewN q) := fun q => by
  obtain ⟨c', cur, e, h2⟩ := h
  injection e with e1 e2 e3
  subst e1 e2 e3
  exact conv_bytes _ _ _ _ _ rfl (BR.same (NB.br ⟨_, cur, rfl, h2⟩) rfl)
theorem below_drewN0 (w : World) (n : Nat) : Below w.heap.size w (w.drewN n) := ⟨rfl, rfl, rfl, Nat.le_refl _, fun _ _ => rfl⟩
theorem pop_rs {p : List Nat} (h : RS W T R (p :: ps) lost us w) : Calls Try.prog 9 #[.pointer (some ⟨R, 0, none⟩)] w fun e w' =>
    ∃ b v', e = .returned (.tuple #[v', .bool true]) ∧ NB w' b p v' ∧ RS W (b :: T) R ps lost us w' ∧ Same T w w' ∧ w.heap.size ≤ b ∧ b ∉ T := by
  obtain ⟨g, v, h1, h2, h3⟩ := h.m
  have hn : ps.length < 8 := by have := h.np; simp at this; omega
  have hw : wait g (ps.length + 1) = p :: ps := h2
  rw [wait_cons] at hw
  injection hw with hw1 hw2
  have hok := h1.ok 0 (by omega)
  refine (pop_any (m := ps.length) h1 hn hok).mono fun e w' ⟨v', he, hN, ht, hm'⟩ => ?_
  obtain ⟨b, cap, cur, e1, e2, e3, e4, e5, e6, e7⟩ := hN
  have hlp : (g 0).n = p.length := by rw [← hw1, hok.bs_len]
  obtain ⟨hr, hs⟩ := h.of (ps' := ps) ht (by omega) h.nu hm' (by rw [wait_down]; exact hw2) (h3.keep fun b hq hlt => ⟨.inl hq, ht.block b hlt fun hr => hq.2.2 (List.mem_singleton.1 hr)⟩)
  have hbT : b ∉ T := fun hm => by have := h.t b hm; omega
  have hbR : b ≠ R := fun e => by have := h.lt; omega
  have hb' := (Array.getElem?_eq_some_iff.1 e3).1
  refine ⟨b, v', he, ⟨cap, cur, by rw [e1, hlp], e3, by omega, e5, by rw [← hlp]; rw [Nat.mul_one] at e6; rw [e6, hw1]⟩, ?_, hs, e2, hbT⟩
  obtain ⟨g', v'', k1, k2, k3⟩ := hr.m
  refine ⟨hr.b, fun x hx => ?_, hr.r, fun hm => ?_, hr.np, hr.nu, _, v, hm', by rw [wait_down]; exact hw2, h3.keep fun x hq hlt => ⟨⟨hq.1, fun hm => ?_, hq.2.2⟩, ht.block x hlt fun hr => hq.2.2 (List.mem_singleton.1 hr)⟩⟩
  · rcases List.mem_cons.1 hx with rfl | hx
    · exact hb'
    · exact hr.t x hx
  · rcases List.mem_cons.1 hm with e | e
    · exact hbR e.symm
    · exact hr.rt e
  · rcases List.mem_cons.1 hm with e | e
    · omega
    · exact hq.2.1 e
theorem pop_rs_none (h : RS W T R [] lost us w) : Calls Try.prog 9 #[.pointer (some ⟨R, 0, none⟩)] w fun e w' => e = .returned (.tuple #[.slice none 0 0, .bool false]) ∧ w' = w := by
  obtain ⟨g, v, h1, _⟩ := h.m; exact pop_empty h1
theorem put_rs (h : RS W T R ps lost us w) (hl : us.length < 1024) (x : Nat) : Calls Try.prog 10 #[.pointer (some ⟨R, 0, none⟩), .int .u64 (x : Int)] w fun e w' => e = .returned (.bool true) ∧ RS W T R ps lost (us ++ [x]) w' ∧ Same T w w' := by
  obtain ⟨g, v, h1, h2, h3⟩ := h.m
  refine (put_any h1 h3 hl x).mono fun e w' ⟨he, ht, v', hm', ho'⟩ => ⟨he, ?_⟩
  exact h.of ht h.np (by simp; omega) hm' h2 (ho'.keep fun b hq _ => ⟨.inr hq, rfl⟩)
theorem put_rs_full (h : RS W T R ps lost us w) (hl : us.length = 1024) (x : Nat) : Calls Try.prog 10 #[.pointer (some ⟨R, 0, none⟩), .int .u64 (x : Int)] w fun e w' => e = .returned (.bool false) ∧ w' = w := by
  obtain ⟨g, v, h1, h2, h3⟩ := h.m
  exact put_full h1 h3 hl x
theorem out_rs (h : RS W T R ps lost us w) : Calls Try.prog 12 #[.pointer (some ⟨R, 0, none⟩)] w fun e w' => ∃ v', e = .returned v' ∧ Below w.heap.size w w' ∧ UO (fun b => w.heap.size ≤ b) w' us v' ∧ RS W T R ps lost us w' ∧ Same T w w' := by
  obtain ⟨g, v, h1, h2, h3⟩ := h.m
  exact (out_any h1 h3 h.nu).mono fun e w' ⟨v', he, hb, ho⟩ => ⟨v', he, hb, ho, h.below hb, h.same hb⟩
end Go.Proofs.Ytoccgbfnbpkphaa
