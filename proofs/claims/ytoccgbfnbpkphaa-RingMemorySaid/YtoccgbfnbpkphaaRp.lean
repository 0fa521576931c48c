/- RingMemory. -/
import Derived.Test.YtoccgbfnbpkphaaRn
set_option linter.unusedVariables false
set_option linter.unusedSimpArgs false
namespace Go.Proofs.Ytoccgbfnbpkphaa
open Go.RowKit Rn
set_option linter.unusedVariables false
set_option linter.unusedSimpArgs false
attribute [local go_sem] Oper.semAt_some
/-- The law's own copy of the bytes. -/
def Mine (w : World) (T : List Nat) (l : Nat) (bs : List Nat) (MA : Option Addr) (mc : Nat) : Prop := BR w MA bs ∧ (l = 0 ∨ ∃ M, MA = some ⟨M, 0, none⟩ ∧ M ∈ T ∧ MB w M l)
theorem Mine.same {w w' : World} {T : List Nat} {l : Nat} {bs : List Nat} {MA : Option Addr} {mc : Nat} (h : Mine w T l bs MA mc) (hl : bs.length = l) (hs : Same T w w') : Mine w' T l bs MA mc := by
  obtain ⟨h1, h2⟩ := h
  rcases h2 with h0 | ⟨M, rfl, hM, hb⟩
  · exact ⟨by rw [List.eq_nil_of_length_eq_zero (hl.trans h0)]; exact BR.nil _ _, .inl h0⟩
  · refine ⟨fun i x hi => ?_, .inr ⟨M, rfl, hM, hb.same (hs M hM)⟩⟩
    obtain ⟨b, off, e, hb', hc⟩ := h1 i x hi
    injection e with e
    injection e with e1 e2
    subst e1 e2
    have e := hs M hM
    refine ⟨M, 0, rfl, ?_, ?_⟩
    · rw [Array.getElem?_eq_getElem hb'] at e
      exact (Array.getElem?_eq_some_iff.1 e).1
    · rw [← hc]; unfold World.cell?; simp only; rw [e]
theorem Mine.mono {w : World} {T T' : List Nat} {l : Nat} {bs : List Nat} {MA : Option Addr} {mc : Nat} (h : Mine w T l bs MA mc) (hs : ∀ b ∈ T, b ∈ T') : Mine w T' l bs MA mc := by
  obtain ⟨h1, h2⟩ := h
  refine ⟨h1, ?_⟩
  rcases h2 with h0 | ⟨M, e, hM, hb⟩
  · exact .inl h0
  · exact .inr ⟨M, e, hs M hM, hb⟩
/-- The law's variables that do not turn: stop, the result, what is wanted. -/
def Held3 (w : World) (stop : Int) (S : ByteArray) (Q BT BW : Nat) : Prop := w.heap[Q]? = some (Obj.cells #[.int .i64 stop] 3) ∧ w.heap[BT]? = some (Obj.cells #[.bool false] 4) ∧ w.heap[BW]? = some (Obj.cells #[.string S] 9)
theorem Held3.same {w w' : World} {stop : Int} {S : ByteArray} {Q BT BW : Nat} (h : Held3 w stop S Q BT BW) {T : List Nat} (hs : Same T w w') (h1 : Q ∈ T) (h2 : BT ∈ T) (h3 : BW ∈ T) : Held3 w' stop S Q BT BW :=
  ⟨(hs Q h1).trans h.1, (hs BT h2).trans h.2.1, (hs BW h3).trans h.2.2⟩
theorem Held3.set {w : World} {stop : Int} {S : ByteArray} {Q BT BW M l : Nat} (h : Held3 w stop S Q BT BW) (hM : MB w M l) (i : Nat) (u : Value) : Held3 (w.setCell ⟨M, i, none⟩ u) stop S Q BT BW := by
  obtain ⟨cur, hm, _⟩ := hM
  obtain ⟨h1, h2, h3⟩ := h
  refine ⟨(Below.heap_setCell _ _ _ _ (fun e => ?_)).trans h1, (Below.heap_setCell _ _ _ _ (fun e => ?_)).trans h2, (Below.heap_setCell _ _ _ _ (fun e => ?_)).trans h3⟩
  · simp only at e; subst e; rw [h1] at hm; simp at hm
  · simp only at e; subst e; rw [h2] at hm; simp at hm
  · simp only at e; subst e; rw [h3] at hm; simp at hm
theorem Held3.cells {w : World} {stop : Int} {S : ByteArray} {Q BT BW : Nat} (h : Held3 w stop S Q BT BW) : w.cell? ⟨Q, 0, none⟩ = some (.int .i64 stop) ∧ w.cell? ⟨BT, 0, none⟩ = some (.bool false) ∧ w.frozen? ⟨BT, 0, none⟩ = false ∧ w.cell? ⟨BW, 0, none⟩ = some (.string S) :=
  ⟨by rw [cell_of_row _ _ 0 _ 3 (0, 0) h.1]; rfl, by rw [cell_of_row _ _ 0 _ 4 (0, 0) h.2.1]; rfl, frozen_of_row _ _ 0 _ 4 h.2.1, by rw [cell_of_row _ _ 0 _ 9 (0, 0) h.2.2]; rfl⟩
theorem mem_many (A : Option Addr) (l c : Nat) (stop : Int) (w : World) (hm : 100 < l) :
    Calls Try.prog 4 #[.slice A l c, .int .i64 stop] w fun e w' => e = .returned (.bool true) ∧ Below w.heap.size w w' := by
  have B := Lib.hid (fit_any)
  have h100 : (100 : Int) < l := by omega
  go_enter Try.func4, Try.ntmps4
  go_wp2_with fail
  refine (B.out _).mono ?_; rintro e w1 ⟨rfl, hb⟩
  have hb0 : Below w.heap.size w ((w.alloc (Obj.cells #[.int .i64 stop] 3)).alloc (Obj.cells #[.bool false] 4)) := (below_alloc1 _ _).alloc (by simp) _
  have hs0 : ((w.alloc (Obj.cells #[.int .i64 stop] 3)).alloc (Obj.cells #[.bool false] 4)).heap.size = w.heap.size + 2 := by simp
  have h1 : w1.heap[w.heap.size + 1]? = some (Obj.cells #[.bool false] 4) := by
    rw [hb.block _ (by omega)]
    have := heap_alloc_new (w.alloc (Obj.cells #[.int .i64 stop] 3)) (Obj.cells #[.bool false] 4)
    rwa [World.size_alloc] at this
  have c1 : w1.cell? ⟨w.heap.size + 1, 0, none⟩ = some (.bool false) := by rw [cell_of_row _ _ 0 _ 4 (0, 0) h1]; rfl
  have f1 := frozen_of_row _ _ 0 _ 4 h1
  have HB := Lib.hid (And.intro (hb0.trans (hb.mono hb0.size)) h1)
  clear B hb hb0 hs0 h1
  go_wp2_with fail
  refine bodyPost_ret (results_cell1 (by rfl) _ _ (w.heap.size + 1) true rfl ?_) rfl ⟨rfl, ?_⟩
  · rw [cell_of_row _ _ 0 _ 4 (0, 0) (heap_setCell_same w1 _ 0 _ 4 _ HB.out.2)]; rfl
  · exact HB.out.1.setCell (p := ⟨w.heap.size + 1, 0, none⟩) (by show w.heap.size ≤ w.heap.size + 1; omega) _
set_option maxRecDepth 100000 in
set_option maxHeartbeats 4000000 in
theorem mem_all (A : Option Addr) (l c : Nat) (bs : List Nat) (stop : Int) (w : World) (hn : bs.length = l) (hm : l ≤ 100) (hlc : l ≤ c) (hr : BR w A bs) (hb : ∀ y ∈ bs, y < 256) :
    Calls Try.prog 4 #[.slice A l c, .int .i64 stop] w fun e w' => e = .returned (.bool true) ∧ Below w.heap.size w w' := by
  have B := Lib.hid fit_any
  have h100 : ¬ (100 : Int) < l := by omega
  have HA := Lib.hid (And.intro hn (And.intro hr (And.intro hb (And.intro hm hlc))))
  have zv := zero_ring
  obtain ⟨Z, eZ⟩ : ∃ Z, zr.toArray = Z := ⟨_, rfl⟩
  rw [eZ] at zv
  have EZ := Lib.hid eZ
  clear eZ hn hr hb hm hlc
  refine (callsIn_wide (n := 5)).1 ?_
  refine callsIn_of_wp_marks Try.func4 rfl trivial ?_ rfl
  simp only [Try.ntmps4, List.size_toArray, List.length_cons, List.length_nil, Nat.reduceAdd, Nat.reduceSub, Array.replicate_succ, Array.replicate_zero, List.push_toArray, List.append_toArray, List.nil_append, List.cons_append]
  refine wpIn_wide.2 ?_
  go_wp2_with fail
  refine (B.out _).mono ?_; rintro e w1 ⟨rfl, g1⟩
  obtain ⟨Q, eQ⟩ : ∃ Q, w.heap.size = Q := ⟨_, rfl⟩
  obtain ⟨w0, ew0⟩ : ∃ w0, (w.alloc (Obj.cells #[.int .i64 stop] 3)).alloc (Obj.cells #[.bool false] 4) = w0 := ⟨_, rfl⟩
  have hb0 : Below w.heap.size w w0 := by rw [← ew0]; exact (below_alloc1 _ _).alloc (by simp) _
  have hs0 : w0.heap.size = Q + 2 := by rw [← ew0, ← eQ]; simp
  have hQ0 : w0.heap[Q]? = some (Obj.cells #[.int .i64 stop] 3) := by
    rw [← ew0, ← eQ, Below.heap_alloc _ _ _ (by simp)]; exact heap_alloc_new _ _
  have hT0 : w0.heap[Q + 1]? = some (Obj.cells #[.bool false] 4) := by
    have := heap_alloc_new (w.alloc (Obj.cells #[.int .i64 stop] 3)) (Obj.cells #[.bool false] 4)
    rw [World.size_alloc, eQ, ew0] at this; exact this
  rw [ew0] at g1
  have hb1 := hb0.trans (g1.mono hb0.size)
  have hQ1 : w1.heap[Q]? = _ := (g1.block Q (by omega)).trans hQ0
  have hT1 : w1.heap[Q + 1]? = _ := (g1.block (Q + 1) (by omega)).trans hT0
  have hn := new_rs (T := [Q, Q + 1]) hb1 (fun b hb => by have := g1.size; simp at hb; omega)
  rw [EZ.out] at hn
  have hQ2 := (Below.heap_alloc w1 (Obj.cells Z 30) Q (by have := g1.size; omega)).trans hQ1
  have hT2 := (Below.heap_alloc w1 (Obj.cells Z 30) (Q + 1) (by have := g1.size; omega)).trans hT1
  have hs1 : Q + 2 ≤ w1.heap.size := by have := g1.size; omega
  rw [eQ]
  obtain ⟨R, eR⟩ : ∃ R, w1.heap.size = R := ⟨_, rfl⟩
  obtain ⟨w2, ew2⟩ : ∃ w2, w1.alloc (Obj.cells Z 30) = w2 := ⟨_, rfl⟩
  rw [ew2] at hn hQ2 hT2
  rw [eR] at hn
  obtain ⟨v3, w3, hrun, hb3, hmine⟩ := append_bytes0 w2 32 A l c bs HA.out.1 (by have := HA.out.2.2.2.1; omega) (HA.out.2.1.below hn.b)
  obtain ⟨q, eq⟩ : ∃ q, bs.take 32 = q := ⟨_, rfl⟩
  have hmm : ∃ MA mc T, v3 = .slice MA l mc ∧ RS w T R [] 0 [] w3 ∧ Mine w3 T l bs MA mc ∧ (∀ b ∈ T, Q ≤ b) ∧ Q ∈ T ∧ Q + 1 ∈ T := by
    have hbs := HA.out.1
    rcases hmine with ⟨h0, rfl⟩ | ⟨M, hM, hMs⟩
    · exact ⟨none, 0, [Q, Q + 1], by rw [h0], hn.below hb3, ⟨by rw [List.eq_nil_of_length_eq_zero (hbs.trans h0)]; exact BR.nil _ _, .inl h0⟩, by simp, by simp, by simp⟩
    · obtain ⟨mc, cur, e1, e2, e3⟩ := hM
      refine ⟨some ⟨M, 0, none⟩, mc, [M, Q, Q + 1], by rw [e1, hbs], hn.more hb3 (fun b hb => ?_), ⟨NB.br ⟨mc, cur, e1, e2, e3⟩, .inr ⟨M, rfl, by simp, by rw [← hbs]; exact NB.mb ⟨mc, cur, e1, e2, e3⟩⟩⟩, fun b hb => ?_, by simp, by simp⟩
      · have hM := (Array.getElem?_eq_some_iff.1 e2).1
        rcases List.mem_cons.1 hb with rfl | hb
        · exact ⟨.inr hMs, hM⟩
        · exact ⟨.inl hb, Nat.lt_of_lt_of_le (hn.t b hb) hb3.size⟩
      · have := hn.b.size
        simp at hb; omega
  obtain ⟨MA, mc, T, rfl, hn3, hmn, hTQ, hQT, hTT⟩ := hmm
  have HR := Lib.hid hrun
  have hQ3 := (hb3.block Q (Array.getElem?_eq_some_iff.1 hQ2).1).trans hQ2
  have hT3 := (hb3.block (Q + 1) (Array.getElem?_eq_some_iff.1 hT2).1).trans hT2
  have H3 := Lib.hid (And.intro hn3 (And.intro hmn (And.intro hTQ (And.intro hQT (And.intro hTT (And.intro hQ3 hT3))))))
  obtain ⟨m, em⟩ : ∃ m, q.length = m := ⟨_, rfl⟩
  have hm2 : min l 32 = m := by rw [← em, ← eq, List.length_take, HA.out.1, Nat.min_comm]
  have mi : min (l : Int) 32 = (m : Int) := by omega
  have q1 : (m : Int) ≤ c := by have := HA.out.2.2.2.2; omega
  have q2 : 0 ≤ (m : Int) := by omega
  have hbt : bs.take m = q := by
    rw [← eq, ← hm2]
    by_cases h : l ≤ 32
    · rw [Nat.min_eq_left h, List.take_of_length_le (by rw [HA.out.1]; omega), List.take_of_length_le (by rw [HA.out.1]; omega)]
    · rw [Nat.min_eq_right (by omega)]
  have hcv : (convert 32 9 (.slice A m c)).run Try.prog w3 = .ok (.string (Str q)) w3 := by
    refine conv_bytes _ _ _ _ _ em ?_
    rw [← hbt]; exact (HA.out.2.1.below hn3.b).take m
  obtain ⟨S, eS⟩ : ∃ S, Str q = S := ⟨_, rfl⟩
  rw [eS] at hcv
  have HS := Lib.hid (And.intro eS (And.intro eq (And.intro em (And.intro hbt (show m ≤ 32 by omega)))))
  clear hn hQ0 hT0 hQ1 hT1 hQ2 hT2 hb0 hs0 hb1 g1 hb3 hmine hrun hn3 hmn hTQ hQT hTT hQ3 hT3 eS eq em hbt hm2 hs1 B EZ ew0
  go_upto_region 6 with fail
  go_wp2_with (at_builtin; refine wpList_append_by rfl _ _ _ _ rfl _ _ _ rfl rfl w3 HR.out ?_)
  obtain ⟨hn3, hmn, hTQ, hQT, hTT, hQ3, hT3⟩ := H3.out
  obtain ⟨BW, eBW⟩ : ∃ BW, w3.heap.size = BW := ⟨_, rfl⟩
  obtain ⟨w4, ew4⟩ : ∃ w4, w3.alloc (Obj.cells #[.string S] 9) = w4 := ⟨_, rfl⟩
  have hn4 := hn3.alloc (Obj.cells #[.string S] 9)
  have hk4 : Held3 w4 stop S Q (Q + 1) BW := ⟨by rw [← ew4, Below.heap_alloc _ _ _ (Array.getElem?_eq_some_iff.1 hQ3).1]; exact hQ3, by rw [← ew4, Below.heap_alloc _ _ _ (Array.getElem?_eq_some_iff.1 hT3).1]; exact hT3, by rw [← ew4, ← eBW]; exact heap_alloc_new _ _⟩
  have hm4 : Mine w4 (BW :: T) l bs MA mc := (hmn.same HA.out.1 (fun b hb => by rw [← ew4]; exact Below.heap_alloc _ _ _ (hn3.t b hb))).mono fun b hb => List.mem_cons_of_mem _ hb
  have hWQ := hn3.b.size
  rw [ew4, eBW] at hn4
  rw [ew4, eBW]
  have P := Lib.hid (push_rs hn4 (by simp) MA l mc bs HA.out.1 hm4.1 HA.out.2.2.1 (by have := HA.out.2.2.2.1; omega))
  obtain ⟨T4, eT4⟩ : ∃ T4, BW :: T = T4 := ⟨_, rfl⟩
  have hT4 : (∀ b ∈ T4, Q ≤ b) ∧ Q ∈ T4 ∧ Q + 1 ∈ T4 ∧ BW ∈ T4 := by
    rw [← eT4]
    refine ⟨fun b hb => ?_, List.mem_cons_of_mem _ hQT, List.mem_cons_of_mem _ hTT, by simp⟩
    rcases List.mem_cons.1 hb with rfl | hb
    · have := hn3.t Q hQT; omega
    · exact hTQ b hb
  rw [eT4] at hm4 hn4 P
  have H4 := Lib.hid (And.intro hm4 (And.intro hk4 hT4))
  clear hn3 hmn hTQ hQT hTT hQ3 hT3 hn4 hk4 hm4 hWQ hT4 eT4 ew4 eBW H3 HR mi q1 q2 hcv
  refine P.out.mono ?_; rintro e w5 ⟨rfl, h5, s5⟩
  have hm5 := H4.out.1.same HA.out.1 s5
  rw [List.nil_append, HS.out.2.1] at h5
  have P2 := Lib.hid (push_rs h5 (by simp) MA l mc bs HA.out.1 hm5.1 HA.out.2.2.1 (by have := HA.out.2.2.2.1; omega))
  rw [HS.out.2.1] at P2
  have H5 := Lib.hid (And.intro hm5 s5)
  clear h5 s5 hm5 P
  go_wp2_with fail
  refine P2.out.mono ?_; rintro e w6 ⟨rfl, h6, s6⟩
  have H6 := Lib.hid (And.intro h6 (And.intro (H5.out.1.same HA.out.1 s6) (H4.out.2.1.same (H5.out.2.trans s6) H4.out.2.2.2.1 H4.out.2.2.2.2.1 H4.out.2.2.2.2.2)))
  clear h6 s6 P2 H5
  go_wp2_with fail
  go_loopg [40] l (fun gh i wr => ∃ k : Nat, k ≤ l ∧ gh = l - k ∧ i = .int .i64 k ∧ Hid (RS w T4 R [q, q] 0 [] wr ∧ (l = 0 ∨ ∃ M, MA = some ⟨M, 0, none⟩ ∧ M ∈ T4 ∧ MB wr M l) ∧ Held3 wr stop S Q (Q + 1) BW))
  case atStart => exact ⟨0, by omega, by omega, rfl, Lib.hid ⟨H6.out.1, H6.out.2.1.2, H6.out.2.2⟩⟩
  case round =>
    obtain ⟨k, hk, hg, rfl, hI⟩ := hrel
    by_cases hlt : k < l
    · obtain ⟨hrs, hM, hk3⟩ := hI.out
      rcases hM with h0 | ⟨M, rfl, hMT, hmb⟩
      · omega
      obtain ⟨⟨z, hc0⟩, hf0⟩ := hmb.cell hlt
      obtain ⟨z', hz'⟩ : ∃ z' : Int, bits .xor .u8 z 255 = z' := ⟨_, rfl⟩
      have l1 : (k : Int) < l := by omega
      have hWM : w.heap.size ≤ M := by have := H4.out.2.2.1 M hMT; omega
      have HE := Lib.hid (And.intro (hrs.set M k (.int .u8 z') hMT hWM) (And.intro hMT (And.intro (hmb.set k z') (hk3.set hmb k (.int .u8 z')))))
      clear hrs hk3 hmb hI hMT hWM H6
      go_wp2_with fail
      go_roundg (l - (k + 1))
      case rel => exact ⟨k + 1, by omega, rfl, by simp, Lib.hid ⟨HE.out.1, .inr ⟨M, rfl, HE.out.2.1, HE.out.2.2.1⟩, HE.out.2.2.2⟩⟩
      case measure => first | omega | (simp; omega)
    · obtain rfl : k = l := by omega
      clear H6 hg hk
      go_wp2_with fail
      obtain ⟨hrs, _, hk3⟩ := hI.out
      obtain ⟨N, eN⟩ : ∃ N, wr.heap.size = N := ⟨_, rfl⟩
      have hrs7 := hrs.alloc (Obj.cells #[.int .i64 0] 3)
      have hN7 := heap_alloc_new wr (Obj.cells #[.int .i64 0] 3)
      have hk7 : Held3 (wr.alloc (Obj.cells #[.int .i64 0] 3)) stop S Q (Q + 1) BW := hk3.same (T := T4) (hrs.same (below_alloc1 _ _)) H4.out.2.2.2.1 H4.out.2.2.2.2.1 H4.out.2.2.2.2.2
      obtain ⟨w7, ew7⟩ : ∃ w7, wr.alloc (Obj.cells #[.int .i64 0] 3) = w7 := ⟨_, rfl⟩
      have hNT : N ∉ T4 := fun hm => by have := hrs.t N hm; omega
      have hWN : Q ≤ N := by have := hrs.b.size; omega
      rw [ew7, eN] at hrs7 hN7
      rw [ew7] at hk7
      rw [ew7, eN]
      have AL := Lib.hid (all_rs hrs7)
      have H7 := Lib.hid (And.intro hN7 (And.intro hk7 (And.intro hNT hWN)))
      clear hrs hrs7 hN7 hk7 hk3 hI hlt hNT ew7 eN
      refine AL.out.mono ?_; rintro e w8 ⟨B, NN, g, rfl, hz8, hw8, hok8, h8, s8, hB8, hN8⟩
      go_wp2_with fail
      have hcr : CR w [Q, Q + 1, BW] N R [q, q] 0 [] w8 [B, NN] 0 w8 := by
        obtain ⟨hN7, hk7, hNT, hWN⟩ := H7.out
        refine ⟨fun b hb => ?_, h8.less (fun b hb => ?_), fun b hb hm => ?_, Same.refl _ _, (s8 N (by simp)).trans hN7⟩
        · have := w7.heap.size; have h9 := (Array.getElem?_eq_some_iff.1 hN7).1; simp at hb; omega
        · simp at hb ⊢
          rcases hb with rfl | rfl | rfl | rfl | rfl | rfl
          · exact .inr (.inr (.inl rfl))
          · exact .inr (.inr (.inr H4.out.2.2.2.1))
          · exact .inr (.inr (.inr H4.out.2.2.2.2.1))
          · exact .inr (.inr (.inr H4.out.2.2.2.2.2))
          · exact .inl rfl
          · exact .inr (.inl rfl)
        · have h9 := (Array.getElem?_eq_some_iff.1 hN7).1
          have h10 := (Array.getElem?_eq_some_iff.1 hk7.1).1
          have h11 := (Array.getElem?_eq_some_iff.1 hk7.2.1).1
          have h12 := (Array.getElem?_eq_some_iff.1 hk7.2.2).1
          simp at hb hm
          rcases hb with rfl | rfl | rfl | rfl <;> omega
      have hk8 : Held3 w8 stop S Q (Q + 1) BW := H7.out.2.1.same (T := N :: T4) s8 (List.mem_cons_of_mem _ H4.out.2.2.2.1) (List.mem_cons_of_mem _ H4.out.2.2.2.2.1) (List.mem_cons_of_mem _ H4.out.2.2.2.2.2)
      have hNo : N ∉ [Q, Q + 1, BW] := fun hm => H7.out.2.2.1 (by
        simp at hm
        rcases hm with rfl | rfl | rfl
        · exact H4.out.2.2.2.1
        · exact H4.out.2.2.2.2.1
        · exact H4.out.2.2.2.2.2)
      have hw2 : wait g 2 = [q, q] := hw8
      have EI := Lib.hid (all_iter B NN g 2 (by omega) hok8)
      have H8 := Lib.hid (And.intro hcr (And.intro hk8 (And.intro hNo (And.intro hw2 (And.intro hz8 H7.out.2.2.2)))))
      clear hcr hk8 hNo hw2 hz8 hw8 hok8 h8 s8 hB8 hN8 AL H7
      refine (wpIn_wide (n := 5)).1 ?_
      refine range_exit (m := 4) (gf := 18) (lb := #[.pointer (some ⟨B, 0, none⟩)]) rfl (enters_of Try.func18 (by decide) rfl) EI.out (fun _ => rfl)
        (fun TT pre X => CR w [Q, Q + 1, BW] N R [q, q] 0 [] w8 TT (pre.length : Nat) X) (fun c TT pre X => c = .exit 2 ∧ ∃ v, CR w [Q, Q + 1, BW] N R [q, q] 0 [] w8 TT v X) (fun _ _ _ _ _ h _ ht hn => h.grow ht hn) (fun c _ _ _ _ _ h _ ht hn => ⟨h.1, h.2.choose, h.2.choose_spec.grow ht hn⟩) [B, NN] ?hT (fun b hb => hb) ?hZ H8.out.1 ?round
        2 (fun _ _ h => h) (fun TT X => ∃ v : Int, CR w [Q, Q + 1, BW] N R [q, q] 0 [] w8 TT v X) (fun T xs X _ h => ⟨_, h⟩) (fun c T pre X h => ⟨h.1, h.2⟩) ?rest
      case hT => intro b hb; exact H8.out.1.2.1.t b (List.mem_append_right _ hb)
      case hZ =>
        intro X hX
        obtain ⟨_, _, z1, z2, _⟩ := H8.out.2.2.2.2.1
        exact H8.out.2.2.2.2.1.same (hX.block _ (Array.getElem?_eq_some_iff.1 z1).1) (hX.block _ (Array.getElem?_eq_some_iff.1 z2).1)
      case round =>
        rintro l1 TT pre ⟨p, b, cc⟩ Wr hl1 hrec hox hTO ⟨hpre, hnb⟩ hI
        have hbT : b ∉ TT := hox b (by simp [ownI])
        rw [H8.out.2.2.2.1] at hpre
        have hpq : p = q := by
          have hmem : p ∈ ((pre ++ [(⟨p, b, cc⟩ : It)]).map It.p) := by simp
          have := hpre.subset hmem
          simpa using this
        have hlen : pre.length ≤ 1 := by
          have := hpre.length_le
          simp at this; omega
        subst hpq
        have HI2 := Lib.hid (And.intro hI (And.intro hTO (And.intro hl1 (And.intro hnb (And.intro hbT hlen)))))
        dsimp only [encI, It.v]
        rw [HS.out.2.2.1]
        clear hI hTO hl1 hrec hox hpre hnb hbT hlen
        gi_wp2
        refine ⟨Same.refl _ _, fun W2 ht hsz _ hr2 => ?_⟩
        obtain ⟨hI, hTO, hl1, hnb, hbT, hlen⟩ := HI2.out
        have hlb : l1 ∈ ownI ⟨p, b, cc⟩ ++ TT := List.mem_append_right _ hl1
        have hc := hI.grow (ht.mono (S' := ownI ⟨p, b, cc⟩ ++ TT) (fun x hx => by rw [List.mem_singleton.1 hx]; exact hlb)) (T' := ownI ⟨p, b, cc⟩ ++ TT) (fun b' hb' => ⟨.inl hb', by rw [hsz]; exact hTO b' hb'⟩)
        have hbl : b ≠ l1 := fun e => hbT (e ▸ hl1)
        have hnb2 : NB W2 b p (.slice (some ⟨b, 0, none⟩) p.length cc) := hnb.same (ht.block b (hTO b (by simp [ownI])) (by simpa using hbl))
        have hcv := hnb2.conv0
        have hmb := hnb2.mb
        rw [HS.out.1, HS.out.2.2.1] at hcv
        rw [HS.out.2.2.1] at hmb
        have hk2 : Held3 W2 stop S Q (Q + 1) BW := H8.out.2.1.same hc.2.2.2.1 (by simp) (by simp) (by simp)
        obtain ⟨k1, k2, k3, k4⟩ := hk2.cells
        obtain ⟨n, en⟩ : ∃ n : Nat, pre.length = n := ⟨_, rfl⟩
        rw [en] at hc hlen
        have HC := Lib.hid (And.intro hc (And.intro hmb (And.intro hbT (And.intro en hlen))))
        clear hI hTO hl1 hnb hbT hlen hlb hc hbl hnb2 hmb ht hsz hr2 en HI2
        gi_wp2_with fail
        gi_loopw [58] (fun i wr => ∃ k : Nat, k ≤ m ∧ i = .int .i64 k ∧ Hid (CR w [Q, Q + 1, BW] N R [p, p] 0 [] w8 (b :: TT) (n : Nat) wr ∧ MB wr b m ∧ Same TT W2 wr)) (fun i wr => m - (intOf i).toNat)
        case atStart => exact ⟨0, by omega, rfl, Lib.hid ⟨HC.out.1, HC.out.2.1, Same.refl _ _⟩⟩
        case round =>
          obtain ⟨k, hk, rfl, hI⟩ := hrel
          by_cases hlt : k < m
          · obtain ⟨hc, hmb, hsm⟩ := hI.out
            obtain ⟨⟨z, hc0⟩, hf0⟩ := hmb.cell hlt
            obtain ⟨z', hz'⟩ : ∃ z' : Int, bits .xor .u8 z 1 = z' := ⟨_, rfl⟩
            have l1 : (k : Int) < m := by omega
            have HE := Lib.hid (show CR w [Q, Q + 1, BW] N R [p, p] 0 [] w8 (b :: TT) (n : Nat) (wr.setCell ⟨b, k, none⟩ (.int .u8 z')) ∧ MB (wr.setCell ⟨b, k, none⟩ (.int .u8 z')) b m ∧ Same TT W2 (wr.setCell ⟨b, k, none⟩ (.int .u8 z')) from
              ⟨hc.turn1 (Turn.set _ _ _ _), hmb.set k z', hsm.trans fun b' hb' => Below.heap_setCell _ _ _ _ (fun e => HC.out.2.2.1 (by rw [← show b' = b from e]; exact hb'))⟩)
            have HK := Lib.hid hlt
            clear hc hmb hsm hI
            have IW := Lib.hid (show RowKit.wrap64 ((k : Int) + 1) = ((k + 1 : Nat) : Int) by have := HS.out.2.2.2.2; unfold RowKit.wrap64; omega)
            gi_wp2_with fail
            go_roundw
            case rel => exact ⟨k + 1, HK.out, by rw [IW.out], HE⟩
            case measure =>
              have := HK.out
              rw [IW.out]
              show m - (intOf (Value.int .i64 ((k + 1 : Nat) : Int))).toNat < m - (intOf (Value.int .i64 (k : Int))).toNat
              simp only [intOf, Int.toNat_natCast]
              omega
          · obtain rfl : k = m := by omega
            obtain ⟨hc, hmb, hsm⟩ := hI.out
            have hc1 := hc.less (T' := TT) (fun b' hb' => List.mem_cons_of_mem _ hb')
            obtain ⟨c1, c2⟩ := hc1.cells
            have hk3 : Held3 wr stop S Q (Q + 1) BW := H8.out.2.1.same hc1.2.2.2.1 (by simp) (by simp) (by simp)
            obtain ⟨k5, _, _, _⟩ := hk3.cells
            have hN := hc1.2.1.t
            have hNQ : Q ≠ N := fun e => H8.out.2.2.1 (by rw [← e]; simp)
            have i1 : IntKind.i64.wrap ((n : Int) + 1) = (n : Int) + 1 := by rw [IntKind.wrap_i64]; have := HC.out.2.2.2.2; omega
            have hset := hc1.set (by have := H8.out.2.2.2.2.2; omega) H8.out.2.2.1 ((n : Int) + 1)
            have k6 : (wr.setCell ⟨N, 0, none⟩ (.int .i64 ((n : Int) + 1))).cell? ⟨Q, 0, none⟩ = some (.int .i64 stop) := by
              rw [World.cell?_setCell_other _ _ _ _ (fun e => hNQ (by injection e with e; exact e.symm))]; exact k5
            have HE := Lib.hid (And.intro hset hsm)
            clear hc hmb hsm hI hc1 hk3 hN hset hlt hk
            obtain ⟨b1, eb1⟩ : ∃ b1 : Bool, ((n : Int) + 1 == stop) = b1 := ⟨_, rfl⟩
            cases b1
            · gi_wp2_with fail
              have hs := HE.out.1.1
              refine ⟨HE.out.2.trans HE.out.1.2, ?_⟩
              have hl : (((pre ++ [(⟨p, b, cc⟩ : It)]).length : Nat) : Int) = (n : Int) + 1 := by rw [List.length_append, HC.out.2.2.2.1]; rfl
              dsimp only
              rw [hl]
              exact hs
            · gi_wp2_with fail
              exact ⟨HE.out.2.trans HE.out.1.2, rfl, _, HE.out.1.1⟩
      case rest =>
        rintro D X hD hDX hDT ⟨v, hc⟩ hKD hsm
        obtain ⟨T9, eT9⟩ : ∃ T9, (N :: [Q, Q + 1, BW]) ++ D :: [B, NN] = T9 := ⟨_, rfl⟩
        have hrs := hc.2.1
        have hkX : Held3 X stop S Q (Q + 1) BW := H8.out.2.1.same hc.2.2.2.1 (by simp) (by simp) (by simp)
        have hm9 : Q ∈ T9 ∧ Q + 1 ∈ T9 ∧ BW ∈ T9 ∧ D ∈ T9 ∧ w.heap.size ≤ D := by
          rw [← eT9]
          exact ⟨by simp, by simp, by simp, by simp, hc.1 D (by simp)⟩
        rw [eT9] at hrs
        have P1 := Lib.hid (pop_rs hrs)
        have HX := Lib.hid (And.intro hkX (And.intro hKD hm9))
        clear hc hsm hDX hD hDT hkX hKD hm9 eT9 hrs H8 EI
        go_wp2_with fail
        refine P1.out.mono ?_; rintro e w9 ⟨b1, v1, rfl, ⟨c1, cu1, rfl, n1⟩, h9, s9, _, _⟩
        have hx1 : NB w9 b1 q (.slice (some ⟨b1, 0, none⟩) q.length c1) := ⟨c1, cu1, rfl, n1⟩
        have P2 := Lib.hid (pop_rs h9)
        have H9 := Lib.hid (And.intro hx1 s9)
        clear n1 h9 s9 hx1 P1
        go_wp2_with fail
        refine P2.out.mono ?_; rintro e w10 ⟨b2, v2, rfl, ⟨c2, cu2, rfl, n2⟩, h10, s10, _, _⟩
        have hy1 : NB w10 b2 q (.slice (some ⟨b2, 0, none⟩) q.length c2) := ⟨c2, cu2, rfl, n2⟩
        have P3 := Lib.hid (pop_rs_none h10)
        have hx2 : NB w10 b1 q (.slice (some ⟨b1, 0, none⟩) q.length c1) := H9.out.1.same (s10 b1 (by simp))
        have s10' : Same T9 X w10 := H9.out.2.trans (s10.less fun b hb => List.mem_cons_of_mem _ hb)
        have hk10 := HX.out.1.same s10' HX.out.2.2.1 HX.out.2.2.2.1 HX.out.2.2.2.2.1
        have cvx := hx2.conv0
        have cvy := hy1.conv0
        rw [HS.out.1] at cvx cvy
        obtain ⟨_, k2, k3, k4⟩ := hk10.cells
        have HZ := Lib.hid (And.intro h10.b (And.intro hk10 ((s10' D HX.out.2.2.2.2.2.1).trans HX.out.2.1)))
        clear n2 h10 s10 hy1 hx2 s10' hk10 P2 H9
        go_wp2_with fail
        refine P3.out.mono ?_; rintro e w11 ⟨rfl, rfl⟩
        clear P3
        go_wp2_with fail
        refine (pop_none _).mono ?_; rintro e w12 ⟨rfl, rfl⟩
        go_wp2_with fail
        refine (push_none _ _ _ _).mono ?_; rintro e w13 ⟨rfl, rfl⟩
        go_wp2_with fail
        refine (len_none _).mono ?_; rintro e w14 ⟨rfl, rfl⟩
        go_wp2_with fail
        refine (lost_none _).mono ?_; rintro e w15 ⟨rfl, rfl⟩
        go_wp2_with fail
        refine (out_none _).mono ?_; rintro e w16 ⟨rfl, rfl⟩
        go_wp2_with fail
        refine (put_none _ 1).mono ?_; rintro e w17 ⟨rfl, rfl⟩
        go_wp2_with fail
        obtain ⟨hb, hk, hD⟩ := HZ.out
        have hDw := HX.out.2.2.2.2.2.2
        have hTD : Q + 1 ≠ D := fun e => by
          have h2 := hk.2.1
          rw [e] at h2
          rw [h2] at hD
          cases hD
        have hT := heap_setCell_same w17 (Q + 1) 0 _ 4 (.bool true) hk.2.1
        have hD2 : (w17.setCell ⟨Q + 1, 0, none⟩ (.bool true)).heap[D]? = some (.deferred (some [])) := (Below.heap_setCell _ _ _ _ (fun e => hTD e.symm)).trans hD
        have hb2 : Below w.heap.size w (w17.setCell ⟨Q + 1, 0, none⟩ (.bool true)) := hb.setCell (p := ⟨Q + 1, 0, none⟩) (by show w.heap.size ≤ Q + 1; omega) _
        refine ⟨by simp, .inl ⟨_, _, rfl, run_takeDeferred hD2, ?_⟩⟩
        refine ⟨_, results_cell1 (by rfl) _ _ (Q + 1) true rfl ?_, rfl, hb2.trans ((Turn.put (w17.setCell ⟨Q + 1, 0, none⟩ (.bool true)) D (.deferred none)).below hb2.size (fun b hb => by obtain rfl := List.mem_singleton.1 hb; exact hDw))⟩
        rw [cell_of_row _ _ 0 _ 4 (0, 0) ((World.putObj_heap_other hTD).trans hT)]; rfl
end Go.Proofs.Ytoccgbfnbpkphaa
