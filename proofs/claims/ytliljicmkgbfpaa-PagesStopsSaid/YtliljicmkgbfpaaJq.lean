/- Drop: the walk. -/
import Derived.Test.YtliljicmkgbfpaaJp
set_option linter.unusedVariables false
set_option linter.unusedSimpArgs false
namespace Go.Proofs.Ytliljicmkgbfpaa
open Go.RowKit Go.Shelf Pg
set_option linter.unusedVariables false
set_option linter.unusedSimpArgs false
attribute [local go_sem] Oper.semAt_some
variable {W : World} {T : List Nat} {R : Nat} {os : List Nat} {ds : List (List Nat)} {o : Nat} {ks : List (Nat × Nat)} {nd : Nat → Nat → Nat} {mp : Nat → Option (Nat × Bool)} {w w' : World}
/-- What empty's loop keeps. -/
def EI (W : World) (own1 : List Nat) (N R : Nat) (o : Nat) (os1 : List Nat) (ds1 : List (List Nat)) (ks : List (Nat × Nat)) (nd : Nat → Nat → Nat) (k l q : Nat) (w3 : World) (TT : List Nat) (pre : List (Nat × Nat)) (X : World) : Prop :=
  ∃ os2 ds2, (∀ b ∈ TT, W.heap.size ≤ b) ∧ St W ((N :: own1) ++ TT) R os2 ds2 X ∧ (∀ b ∈ N :: own1, b ∉ TT) ∧ EmI o os1 ds1 ks nd k l q pre os2 ds2 ∧ Same own1 w3 X ∧ X.heap[N]? = some (Obj.cells #[.int .i64 (((dk ks k l q pre).length : Nat) : Int)] 3)
theorem EI.grows (W : World) (own1 : List Nat) (N R : Nat) (o : Nat) (os1 : List Nat) (ds1 : List (List Nat)) (ks : List (Nat × Nat)) (nd : Nat → Nat → Nat) (k l q : Nat) (w3 : World) : Grows (EI W own1 N R o os1 ds1 ks nd k l q w3) := by
  rintro T T' s w w' ⟨os2, ds2, h1, h2, h3, h4, h6, h7⟩ hT ht hn
  have ho : ∀ b ∈ N :: own1, b < w.heap.size := fun b hb => h2.2.1 b (List.mem_append_left _ hb)
  have hs := same_turn ho h3 ht
  exact ⟨os2, ds2, new_up h2.b h1 hn, h2.grow h1 ht hn, new_out ho h3 hn, h4, h6.trans (fun b hb => hs b (List.mem_cons_of_mem _ hb)), (hs N (by simp)).trans h7⟩
/-- The tables below one are freed, and it leads nowhere. -/
def Emp (W : World) (R : Nat) (os : List Nat) (ds : List (List Nat)) (o : Nat) (ks : List (Nat × Nat)) (nd : Nat → Nat → Nat) (k l q : Nat) : Prop :=
  ∀ (T : List Nat) (os1 : List Nat) (ds1 : List (List Nat)) (w : World), St W T R os1 ds1 w → Fit os ds o nd ((l, q) :: sk ks k l q) os1 ds1 →
    Calls Try.prog 31 #[.pointer (some ⟨R, 0, none⟩), .int .i64 ((nd l q : Nat) : Int), .int .i64 (l : Int)] w fun e w' => e = .returned (.int .i64 (((sk ks k l q).length : Nat) : Int)) ∧
      ∃ os2 ds2, St W T R os2 ds2 w' ∧ Em o os1 ds1 ((sk ks k l q).map (nk nd)) (nd l q) os2 ds2 ∧ (ds2.getD (nd l q - 1) []).length = 64 ∧ (∀ i, i < 8 → there (ent ds2 (nd l q) i) = false) ∧ Same T w w'
theorem own_getD {os : List Nat} {f : Nat} (f1 : 1 ≤ f) (f2 : f ≤ os.length) : Fr.own os (f : Int) = os.getD (f - 1) 0 := own_of f1 f2 rfl
set_option maxRecDepth 100000 in
set_option maxHeartbeats 4000000 in
theorem empty_step (t : Tb os ds o ks nd mp) (k l q : Nat) (hlk : l + k = 3) (hk : (l, q) ∈ ks) (child : ∀ k', k = k' + 1 → ∀ i, i < 8 → (l + 1, 8 * q + i) ∈ ks → Emp W R os ds o ks nd k' (l + 1) (8 * q + i)) : Emp W R os ds o ks nd k l q := by
  intro T os1 ds1 w h ft
  obtain ⟨f1, f2, f3, f4⟩ := t.own l q hk
  have hst := EmI.start (k := k) t ft hk
  have f5 : nd l q ≤ 4096 := by have := h.len.2.2.1; have := ft.1; omega
  obtain ⟨f, ef⟩ : ∃ f, nd l q = f := ⟨_, rfl⟩
  obtain ⟨c, ec⟩ : ∃ c : Int, (((sk ks k l q).length : Nat) : Int) = c := ⟨_, rfl⟩
  rw [ec]
  rw [ef] at f1 f2 f3 f4 f5 ⊢
  have EF := Lib.hid (And.intro ef (And.intro f1 (And.intro f2 (And.intro f5 ec))))
  have HH := Lib.hid h
  have HT := Lib.hid t
  have HC := Lib.hid child
  have HFT := Lib.hid (And.intro ft (And.intro hk (And.intro hlk hst)))
  have LD := Lib.hid (fun (X : World) => leading_any (R := R) (f : Int) X)
  have hl3 : l ≤ 3 := by omega
  clear h t child ft hk hst ef f1 f2 f3 f4 f5 ec hlk
  refine (callsIn_wide (n := 5)).1 ?_
  refine callsIn_of_wp_marks Try.func31 rfl trivial ?_ rfl
  simp only [Try.ntmps31, List.size_toArray, List.length_cons, List.length_nil, Nat.reduceAdd, Nat.reduceSub, Array.replicate_succ, Array.replicate_zero, List.push_toArray, List.append_toArray, List.nil_append, List.cons_append]
  refine wpIn_wide.2 ?_
  go_wp2_with fail
  refine (LD.out _).mono ?_; rintro e w3 ⟨rfl, e3⟩
  go_wp2_with fail
  rw [← e3]
  obtain ⟨P, eP⟩ : ∃ P, w.heap.size = P := ⟨_, rfl⟩
  have hF : Below w.heap.size w w3 ∧ w3.heap.size = P + 6 ∧ w3.heap[P]? = some (Obj.cells #[.pointer (some ⟨R, 0, none⟩)] 24) ∧ w3.heap[P + 1]? = some (Obj.cells #[.int .i64 (f : Int)] 3) ∧ w3.heap[P + 1 + 1]? = some (Obj.cells #[.int .i64 (l : Int)] 3) ∧ w3.heap[P + 1 + 1 + 1]? = some (Obj.cells #[.int .i64 0] 3) ∧ LZ R f (P + 1 + 1 + 1 + 1) (P + 1 + 1 + 1 + 1 + 1) w3 := by
    obtain ⟨wa, ea⟩ : ∃ x, w.alloc (Obj.cells #[.pointer (some ⟨R, 0, none⟩)] 24) = x := ⟨_, rfl⟩
    obtain ⟨wb, eb⟩ : ∃ x, wa.alloc (Obj.cells #[.int .i64 (f : Int)] 3) = x := ⟨_, rfl⟩
    obtain ⟨wc, ecc⟩ : ∃ x, wb.alloc (Obj.cells #[.int .i64 (l : Int)] 3) = x := ⟨_, rfl⟩
    obtain ⟨wd, ed⟩ : ∃ x, wc.alloc (Obj.cells #[.int .i64 0] 3) = x := ⟨_, rfl⟩
    obtain ⟨we, ee⟩ : ∃ x, wd.alloc (Obj.cells #[.pointer (some ⟨R, 0, none⟩)] 24) = x := ⟨_, rfl⟩
    rw [ea, eb, ecc, ed, ee] at e3
    have al : ∀ (x y : World) (ob : Obj), x.alloc ob = y → Below x.heap.size x y ∧ y.heap.size = x.heap.size + 1 ∧ y.heap[x.heap.size]? = some ob := fun x y ob e => by
      subst e; exact ⟨below_alloc1 x ob, by simp, heap_alloc_new x ob⟩
    obtain ⟨a1, a2, a3⟩ := al _ _ _ ea
    obtain ⟨b1, b2, b3⟩ := al _ _ _ eb
    obtain ⟨c1, c2, c3⟩ := al _ _ _ ecc
    obtain ⟨d1, d2, d3⟩ := al _ _ _ ed
    obtain ⟨g1, g2, g3⟩ := al _ _ _ ee
    obtain ⟨k1, k2, k3⟩ := al _ _ _ e3.symm
    rw [eP] at a2 a3
    rw [a2] at b2 b3
    rw [b2] at c2 c3
    rw [c2] at d2 d3
    rw [d2] at g2 g3
    rw [g2] at k2 k3
    refine ⟨a1.trans ((b1.mono (by omega)).trans ((c1.mono (by omega)).trans ((d1.mono (by omega)).trans ((g1.mono (by omega)).trans (k1.mono (by omega)))))), by omega, ?_, ?_, ?_, ?_, ?_, k3⟩
    · rw [k1.block _ (by omega), g1.block _ (by omega), d1.block _ (by omega), c1.block _ (by omega), b1.block _ (by omega)]; exact a3
    · rw [k1.block _ (by omega), g1.block _ (by omega), d1.block _ (by omega), c1.block _ (by omega)]; exact b3
    · rw [k1.block _ (by omega), g1.block _ (by omega), d1.block _ (by omega)]; exact c3
    · rw [k1.block _ (by omega), g1.block _ (by omega)]; exact d3
    · rw [k1.block _ (by omega)]; exact g3
  clear e3
  obtain ⟨hb3, hs3, hP3, hA3, hL3, hN3, hZ3⟩ := hF
  rw [eP]
  obtain ⟨A, eA⟩ : ∃ b, P + 1 = b := ⟨_, rfl⟩
  obtain ⟨L, eL⟩ : ∃ b, A + 1 = b := ⟨_, rfl⟩
  obtain ⟨N, eN⟩ : ∃ b, L + 1 = b := ⟨_, rfl⟩
  obtain ⟨B1, eB1⟩ : ∃ b, N + 1 = b := ⟨_, rfl⟩
  obtain ⟨B2, eB2⟩ : ∃ b, B1 + 1 = b := ⟨_, rfl⟩
  rw [eA] at hA3 hL3 hN3 hZ3 ⊢
  rw [eL] at hL3 hN3 hZ3 ⊢
  rw [eN] at hN3 hZ3 ⊢
  rw [eB1] at hZ3 ⊢
  rw [eB2] at hZ3 ⊢
  have hTw := HH.out.2.1
  have hWw := HH.out.b.size
  have hst3 : St W ((N :: P :: A :: L :: T) ++ [B1, B2]) R os1 ds1 w3 := HH.out.more hb3 (fun b hb => by
    simp only [List.cons_append, List.mem_cons, List.mem_append, List.not_mem_nil, or_false] at hb
    by_cases hbT : b ∈ T
    · exact ⟨.inl hbT, by have := hTw b hbT; omega⟩
    · simp only [hbT, false_or] at hb; exact ⟨.inr (by omega), by omega⟩)
  have hd3 : ∀ b ∈ N :: P :: A :: L :: T, b ∉ [B1, B2] := fun b hb hm => by
    simp only [List.mem_cons, List.not_mem_nil, or_false] at hb hm
    by_cases hbT : b ∈ T
    · have := hTw b hbT; omega
    · simp only [hbT, or_false] at hb; omega
  have edk : dk ks k l q [] = [] := by unfold dk; cases k <;> rfl
  have h0 : EI W (P :: A :: L :: T) N R o os1 ds1 ks nd k l q w3 [B1, B2] [] w3 :=
    ⟨os1, ds1, fun b hb => (by simp only [List.mem_cons, List.not_mem_nil, or_false] at hb; omega), hst3, hd3, HFT.out.2.2.2, Same.refl _ _, by rw [edk]; exact hN3⟩
  have HB3 := Lib.hid (And.intro hb3 (And.intro hs3 (And.intro hP3 (And.intro hA3 (And.intro hL3 (And.intro eP (And.intro eA (And.intro eL (And.intro eN (And.intro hTw hWw))))))))))
  have hsT : Same T w w3 := fun b hb => hb3.block b (hTw b hb)
  have HST := Lib.hid hsT
  have HBS := Lib.hid (And.intro eB1 eB2)
  clear hb3 hP3 hA3 hL3 hN3 hst3 hd3 hsT eB1 eB2 hTw hWw edk
  refine (wpIn_wide (n := 5)).1 ?_
  refine range_out (m := 4) (gf := 45) (lb := #[.pointer (some ⟨B1, 0, none⟩), .pointer (some ⟨B2, 0, none⟩)]) rfl (enters_of Try.func45 (by kernel_rfl) rfl) (leading_iter (W0 := W) (R := R) f B1 B2 (En ks nd mp l q)) (fun _ => rfl)
    (EI W (P :: A :: L :: T) N R o os1 ds1 ks nd k l q w3) (fun c T s X => False) (EI.grows _ _ _ _ _ _ _ _ _ _ _ _ _)
    (fun c => grows_off) ?hV [B1, B2] ?hT (fun b hb => hb) ?hZ h0 ?round ?done ?stop
  case hT => intro b hb; have := HBS.out; have := HB3.out; simp at hb; omega
  case hZ => intro X hX; have := HBS.out; have := HB3.out; exact ⟨by rw [hX.block _ (by omega)]; exact hZ3.1, by rw [hX.block _ (by omega)]; exact hZ3.2⟩
  case hV =>
    rintro TT pre X hX ⟨os2, ds2, h1, h2, h3, h4, h6, h7⟩
    obtain ⟨ft, hk, hlk, _⟩ := HFT.out
    obtain ⟨o1, o2, o3⟩ := h4.own HT.out ft hlk hk
    rw [EF.out.1] at o1
    refine ⟨os2, ds2, h2.less (fun b hb => List.mem_append_right _ hb), ?_, fun i hi hp => ?_⟩
    · rw [own_getD EF.out.2.1 (by have := EF.out.2.2.1; omega), o1]; exact HT.out.own0
    · have := h4.gn HT.out ft hlk hk hi hp
      rwa [EF.out.1] at this
  case stop => rintro D c pre X hD hDX hDT hpre hI; exact hI.elim
  case done =>
    rintro D X hD hDX hDT ⟨os2, ds2, h1, h2, h3, h4, h6, h7⟩ hK hsm
    obtain ⟨ft, hk, hlk, _⟩ := HFT.out
    rw [dk_end hlk, EF.out.2.2.2.2] at h7
    obtain ⟨m1, m2⟩ := h4.done HT.out ft hlk hk
    have m3 := h4.len
    rw [EF.out.1] at m1 m2 m3
    have cN : X.cell? ⟨N, 0, none⟩ = some (.int .i64 c) := by rw [cell_of_row _ _ 0 _ 3 (0, 0) h7]; rfl
    have hF : St W T R os2 ds2 (X.putObj D (.deferred none)) ∧ Same T w (X.putObj D (.deferred none)) := by
      have hown : ∀ b ∈ N :: P :: A :: L :: T, b < X.heap.size := fun b hb => h2.2.1 b (List.mem_append_left _ hb)
      have ht := (Turn.put X D (.deferred none)).mono (S' := D :: [B1, B2]) (by simp)
      have hg := h2.grow h1 ht (TT' := []) (fun b hb => by cases hb)
      rw [List.append_nil] at hg
      exact ⟨hg.less (fun b hb => by simp [hb]), (HST.out.trans (fun b hb => h6 b (by simp [hb]))).trans (fun b hb => same_turn hown h3 ht b (by simp [hb]))⟩
    have HF := Lib.hid (And.intro hF (And.intro m1 (And.intro m2 (And.intro m3 hK))))
    clear h1 h2 h3 h4 h6 h7 hsm hK hF m1 m2 m3 ft hk hlk
    go_wp2_with fail
    refine ⟨by simp, .inl ⟨_, _, rfl, run_takeDeferred HF.out.2.2.2.2, ?_⟩⟩
    exact ⟨_, results_tmp rfl _ _ _, rfl, os2, ds2, HF.out.1.1, HF.out.2.1, HF.out.2.2.2.1, HF.out.2.2.1, HF.out.1.2⟩
  case round =>
    rintro l1 TT pre ⟨i, nx⟩ Wr hl1 hrec hTT hpre hI
    obtain ⟨hi8, hEn⟩ := ld_some (hpre.subset (List.mem_append_right _ (List.mem_singleton.2 rfl)))
    dsimp only at hi8 hEn
    dsimp only [enc2]
    have HI2 := Lib.hid (And.intro hI (And.intro hTT (And.intro hl1 (And.intro hpre hEn))))
    clear hI hTT hl1 hrec hpre hEn h0 hs3 hZ3
    gi_wp2
    refine ⟨Same.refl _ _, fun W2 ht hsz hr2 => ?_⟩
    obtain ⟨hI, hTT, hl1, hpre, hEn⟩ := HI2.out
    have hTT2 : ∀ b ∈ TT, b < W2.heap.size := fun b hb => by rw [hsz]; exact hTT b hb
    obtain ⟨os2, ds2, i1, i2, i3, i4, i6, i7⟩ := EI.grows W (P :: A :: L :: T) N R o os1 ds1 ks nd k l q w3 TT TT pre Wr W2 hI hTT (ht.mono (by simpa using hl1)) (fun b hb => ⟨.inl hb, hTT2 b hb⟩)
    have hP5 : W2.heap[P]? = some (Obj.cells #[.pointer (some ⟨R, 0, none⟩)] 24) := (i6 P (by simp)).trans HB3.out.2.2.1
    have hA5 : W2.heap[A]? = some (Obj.cells #[.int .i64 (f : Int)] 3) := (i6 A (by simp)).trans HB3.out.2.2.2.1
    have hL5 : W2.heap[L]? = some (Obj.cells #[.int .i64 (l : Int)] 3) := (i6 L (by simp)).trans HB3.out.2.2.2.2.1
    have cell1 : ∀ X : World, Same (P :: A :: L :: T) W2 X → X.cell? ⟨P, 0, none⟩ = some (.pointer (some ⟨R, 0, none⟩)) ∧ X.cell? ⟨A, 0, none⟩ = some (.int .i64 (f : Int)) ∧ X.cell? ⟨L, 0, none⟩ = some (.int .i64 (l : Int)) := fun X hs =>
      ⟨by rw [cell_of_row _ _ 0 _ 24 (0, 0) ((hs P (by simp)).trans hP5)]; rfl, by rw [cell_of_row _ _ 0 _ 3 (0, 0) ((hs A (by simp)).trans hA5)]; rfl, by rw [cell_of_row _ _ 0 _ 3 (0, 0) ((hs L (by simp)).trans hL5)]; rfl⟩
    obtain ⟨cP, cA, cL⟩ := cell1 W2 (Same.refl _ _)
    obtain ⟨ft, hk, hlk, _⟩ := HFT.out
    obtain ⟨o1, o2, o3⟩ := i4.own HT.out ft hlk hk
    rw [EF.out.1] at o1
    have hown : Fr.own os2 (f : Int) ≠ 0 := by rw [own_getD EF.out.2.1 (by have := EF.out.2.2.1; omega), o1]; exact HT.out.own0
    have KS := Lib.hid cell1
    have HW := Lib.hid (And.intro i1 (And.intro i2 (And.intro i3 (And.intro i4 (And.intro i6 (And.intro i7 (And.intro hown (And.intro hTT2 (And.intro o1 (And.intro o2 o3))))))))))
    by_cases h3 : l = 3
    · subst h3
      obtain rfl : k = 0 := by omega
      have hb : decide (((3 : Nat) : Int) < 3) = false := by simp
      have PT := put_st i2 f i 0 hown hi8 (by omega)
      rw [show ((0 : Nat) : Int) = 0 from rfl] at PT
      have PT := Lib.hid PT
      clear hI hTT hl1 hpre hEn hTT2 i1 i2 i3 i4 i6 i7 hP5 hA5 hL5 cell1 ft hk hlk o1 o2 o3 hown ht hsz hr2
      gi_wp2_with fail
      refine ⟨trivial, ?_⟩
      refine (CallsIn.inRound l1 (callsIn_wide.2 PT.out)).mono ?_; rintro e w7 ⟨rfl, hst7, hsm7⟩
      have H7 := Lib.hid (And.intro hst7 hsm7)
      clear hst7 hsm7
      gi_wp2_with fail
      obtain ⟨hI, hTT, hl1, hpre, hEn⟩ := HI2.out
      obtain ⟨i1, i2, i3, i4, i6, i7, hown, hTT2, o1, o2, o3⟩ := HW.out
      obtain ⟨ft, hk, hlk, _⟩ := HFT.out
      have hnext := i4.next0 HT.out ft hk hi8 (nx := nx)
      rw [EF.out.1] at hnext
      exact ⟨fun b hb => H7.out.2 b (List.mem_append_right _ hb), os2, _, i1, H7.out.1, i3, hnext, i6.trans (fun b hb => H7.out.2 b (List.mem_append_left _ (List.mem_cons_of_mem _ hb))), (H7.out.2 N (by simp)).trans i7⟩
    · obtain ⟨k', rfl⟩ : ∃ k', k = k' + 1 := ⟨k - 1, by omega⟩
      have hb : decide ((l : Int) < 3) = true := by simp; omega
      have hm : (l + 1, 8 * q + i) ∈ ks ∧ nd (l + 1) (8 * q + i) = nx := by
        unfold En at hEn
        rw [if_neg h3] at hEn
        split at hEn
        · injection hEn with hEn; exact ⟨by assumption, hEn⟩
        · cases hEn
      have hfit := i4.fit HT.out ft hlk hk hpre hm.1 hi8
      have hch := HC.out k' rfl i hi8 hm.1 _ os2 ds2 W2.drew i2.drew hfit
      rw [hm.2, show (((l + 1 : Nat)) : Int) = (l : Int) + 1 by omega] at hch
      obtain ⟨sn, esn⟩ : ∃ sn : Nat, (sk ks k' (l + 1) (8 * q + i)).length = sn := ⟨_, rfl⟩
      obtain ⟨cn, ecn⟩ : ∃ cn : Nat, (dk ks (k' + 1) l q pre).length = cn := ⟨_, rfl⟩
      rw [esn] at hch
      rw [ecn] at i7
      have hcn : cn + os2.count o ≤ 4096 ∧ os2.length ≤ 4096 := by
        have e1 := i4.em.co
        rw [List.length_map, ecn] at e1
        have e2 := List.count_le_length (a := o) (l := os1)
        have := HH.out.len.2.2.1
        have := ft.1
        exact ⟨by omega, by omega⟩
      have cN : W2.cell? ⟨N, 0, none⟩ = some (.int .i64 (cn : Int)) := by rw [cell_of_row _ _ 0 _ 3 (0, 0) i7]; rfl
      have CH := Lib.hid hch
      have HX := Lib.hid (And.intro hm (And.intro esn (And.intro ecn (And.intro hcn i7))))
      have hNl : N ≠ P ∧ N ≠ L ∧ N ≠ A ∧ N ∉ T ∧ W.heap.size ≤ N := by
        have := HB3.out
        exact ⟨by omega, by omega, by omega, fun e => by have := this.2.2.2.2.2.2.2.2.2.1 N e; omega, by omega⟩
      have HN := Lib.hid hNl
      have hNP : ¬ N = P := hNl.1
      have hwl : IntKind.i64.wrap ((l : Int) + 1) = (l : Int) + 1 := by rw [IntKind.wrap_i64]; omega
      have hNL : ¬ N = L := hNl.2.1
      clear hI hTT hl1 hpre hEn hTT2 i1 i2 i3 i4 i6 i7 hP5 hA5 hL5 cell1 ft hk hlk o1 o2 o3 hown ht hsz hr2 hm hfit hch esn ecn hcn hNl cA
      gi_wp2_with fail
      refine region_held_round (S := fun w' => w'.cell? ⟨P, 0, none⟩ = some (.pointer (some ⟨R, 0, none⟩)) ∧ w'.cell? ⟨L, 0, none⟩ = some (.int .i64 (l : Int))) (by kernel_rfl) (by kernel_rfl) (fun ⟨_, _, h⟩ => h) (⟨cP, cL⟩) (fun hHeld => ?_)
      refine wpAnyH_take (i := 1) (oi := { dst := some 18, op := Op.load 24 (Operand.tmp 3), type := 24, pos := "pages.go:151", after := #[], guard := none }) (v := ?vv1_1) rfl (by kernel_rfl) (by kernel_rfl) (by kernel_rfl) (fun _ _ _ h => h) (Or.inl ⟨by rfl, ?hy1_1⟩) hHeld ?rest1_1
      case hy1_1 => (intro wS hSw; (try dsimp only at hSw); go_simp; try with_reducible rfl)
      simp only [Act.put, List.setIfInBounds_toArray, List.set_cons_zero, List.set_cons_succ]
      refine wpAnyH_take (i := 2) (oi := { dst := some 19, op := Op.move (Operand.tmp 9), type := 3, pos := "pages.go:151", after := #[], guard := none }) (v := ?vv1_2) rfl (by kernel_rfl) (by kernel_rfl) (by kernel_rfl) (fun _ _ _ h => h) (Or.inl ⟨by rfl, ?hy1_2⟩) hHeld ?rest1_2
      case hy1_2 => (intro wS hSw; (try dsimp only at hSw); go_simp; try with_reducible rfl)
      simp only [Act.put, List.setIfInBounds_toArray, List.set_cons_zero, List.set_cons_succ]
      refine wpAnyH_take (i := 3) (oi := { dst := some 20, op := Op.load 3 (Operand.tmp 5), type := 3, pos := "pages.go:151", after := #[], guard := none }) (v := ?vv1_3) rfl (by kernel_rfl) (by kernel_rfl) (by kernel_rfl) (fun _ _ _ h => h) (Or.inl ⟨by rfl, ?hy1_3⟩) hHeld ?rest1_3
      case hy1_3 => (intro wS hSw; (try dsimp only at hSw); go_simp; try with_reducible rfl)
      simp only [Act.put, List.setIfInBounds_toArray, List.set_cons_zero, List.set_cons_succ]
      refine wpAnyH_take (i := 4) (oi := { dst := some 21, op := Op.binOp BinOp.add 3 (Operand.tmp 20) (Operand.const (Value.int IntKind.i64 1)) 3, type := 3, pos := "pages.go:151", after := #[{ on := 3, ground := Ground.data }], guard := none }) (v := ?vv1_4) rfl (by kernel_rfl) (by kernel_rfl) (by kernel_rfl) (fun _ _ _ h => h) (Or.inl ⟨by rfl, ?hy1_4⟩) hHeld ?rest1_4
      case hy1_4 => (intro wS hSw; (try dsimp only at hSw); go_simp; try with_reducible rfl)
      simp only [Act.put, List.setIfInBounds_toArray, List.set_cons_zero, List.set_cons_succ]
      refine wpAnyH_ready (rs := [0, 5]) (by kernel_rfl) (by simp) ?_
      refine AllReadyH.cons (o := { dst := some 17, op := Op.load 3 (Operand.tmp 7), type := 3, pos := "pages.go:151", after := #[], guard := none }) rfl (fun K hK => ?_) ?_
      · skip
        skip
        go_simp
        clear hHeld
        refine hK.out _ _ (by first | exact hcall.out | exact ⟨cP, cL⟩ | exact ⟨by rw [World.cell?_setCell_far _ _ _ _ hNP]; exact hcall.out.1, by rw [World.cell?_setCell_far _ _ _ _ hNL]; exact hcall.out.2⟩) (fun hHeld => ?_)
        clear hK K
        try simp only [Act.put, List.setIfInBounds_toArray, List.set_cons_zero, List.set_cons_succ]
        refine wpAnyH_ready (rs := [5]) (by kernel_rfl) (by simp) ?_
        refine AllReadyH.cons (o := { dst := some 22, op := Op.call { callee := Callee.value (Operand.func 31), args := #[Operand.tmp 18, Operand.tmp 19, Operand.tmp 21], argTypes := #[24, 3, 3] }, type := 3, pos := "pages.go:151", after := #[{ on := 1, ground := Ground.data }, { on := 2, ground := Ground.data }, { on := 4, ground := Ground.data }], guard := none }) rfl (fun K hK => ?_) AllReadyH.nil
        go_simp
        with_reducible refine (CH.out).mono ?_
        rintro e w6 ⟨rfl, hex⟩
        obtain ⟨os3, ds3, hst3, hem, h64, hth, hsm⟩ := hex
        have hcs := KS.out w6 (fun b hb => hsm b (List.mem_append_left _ (List.mem_cons_of_mem _ hb)))
        have n6 := (hsm N (by simp)).trans HX.out.2.2.2.2
        have cN6 : w6.cell? ⟨N, 0, none⟩ = some (.int .i64 (cn : Int)) := by rw [cell_of_row _ _ 0 _ 3 (0, 0) n6]; rfl
        have fN6 : w6.frozen? ⟨N, 0, none⟩ = false := frozen_of_row _ _ 0 _ 3 n6
        have hsn : cn + sn ≤ 4096 := by
          have e1 := hem.co
          rw [List.length_map, HX.out.2.1] at e1
          have := HX.out.2.2.2.1.1
          omega
        have hw1 : IntKind.i64.wrap ((sn : Int) + 1) = (sn : Int) + 1 := by rw [IntKind.wrap_i64]; omega
        have hw2 : IntKind.i64.wrap ((cn : Int) + ((sn : Int) + 1)) = (cn : Int) + ((sn : Int) + 1) := by rw [IntKind.wrap_i64]; omega
        have hcall := Lib.hid (And.intro hcs.1 hcs.2.2)
        have H6 := Lib.hid (And.intro hst3 (And.intro hem (And.intro h64 (And.intro hth (And.intro hsm (And.intro n6 hsn))))))
        clear hst3 hem h64 hth hsm hcs n6 hsn
        clear hHeld
        try go_wp2_with fail
        refine hK.out _ _ (by first | exact hcall.out | exact ⟨cP, cL⟩ | exact ⟨by rw [World.cell?_setCell_far _ _ _ _ hNP]; exact hcall.out.1, by rw [World.cell?_setCell_far _ _ _ _ hNL]; exact hcall.out.2⟩) (fun hHeld => ?_)
        clear hK K
        try simp only [Act.put, List.setIfInBounds_toArray, List.set_cons_zero, List.set_cons_succ]
        refine wpAnyH_take (i := 6) (oi := { dst := some 23, op := Op.binOp BinOp.add 3 (Operand.tmp 22) (Operand.const (Value.int IntKind.i64 1)) 3, type := 3, pos := "pages.go:151", after := #[{ on := 5, ground := Ground.data }], guard := none }) (v := ?vv1_5) rfl (by kernel_rfl) (by kernel_rfl) (by kernel_rfl) (fun _ _ _ h => h) (Or.inl ⟨by rfl, ?hy1_5⟩) hHeld ?rest1_5
        case hy1_5 => (intro wS hSw; (try dsimp only at hSw); go_simp; try with_reducible rfl)
        simp only [Act.put, List.setIfInBounds_toArray, List.set_cons_zero, List.set_cons_succ]
        refine wpAnyH_take (i := 7) (oi := { dst := some 24, op := Op.binOp BinOp.add 3 (Operand.tmp 17) (Operand.tmp 23) 3, type := 3, pos := "pages.go:151", after := #[{ on := 0, ground := Ground.data }, { on := 6, ground := Ground.data }], guard := none }) (v := ?vv1_6) rfl (by kernel_rfl) (by kernel_rfl) (by kernel_rfl) (fun _ _ _ h => h) (Or.inl ⟨by rfl, ?hy1_6⟩) hHeld ?rest1_6
        case hy1_6 => (intro wS hSw; (try dsimp only at hSw); go_simp; try with_reducible rfl)
        simp only [Act.put, List.setIfInBounds_toArray, List.set_cons_zero, List.set_cons_succ]
        refine wpAnyH_ready (rs := [8]) (by kernel_rfl) (by simp) ?_
        refine AllReadyH.cons (o := { dst := none, op := Op.store 3 (Operand.tmp 7) (Operand.tmp 24), type := 0, pos := "pages.go:151", after := #[{ on := 7, ground := Ground.data }, { on := 5, ground := Ground.chain }, { on := 0, ground := Ground.phase }, { on := 1, ground := Ground.phase }, { on := 2, ground := Ground.phase }, { on := 3, ground := Ground.phase }, { on := 4, ground := Ground.phase }, { on := 5, ground := Ground.phase }, { on := 6, ground := Ground.phase }, { on := 7, ground := Ground.phase }], guard := none }) rfl (fun K hK => ?_) AllReadyH.nil
        skip
        go_simp
        clear hHeld
        refine hK.out _ _ (by first | exact hcall.out | exact ⟨cP, cL⟩ | exact ⟨by rw [World.cell?_setCell_far _ _ _ _ hNP]; exact hcall.out.1, by rw [World.cell?_setCell_far _ _ _ _ hNL]; exact hcall.out.2⟩) (fun hHeld => ?_)
        clear hK K
        try simp only [Act.put, List.setIfInBounds_toArray, List.set_cons_zero, List.set_cons_succ]
        refine wpAnyH_done (by kernel_rfl) ?_ _
        try gi_wp2_with fail
        have hst8 := H6.out.1.set N 0 (.int .i64 ((cn : Int) + ((sn : Int) + 1))) (by simp) HN.out.2.2.2.2
        have n8 := heap_setCell_same w6 N 0 _ 3 (.int .i64 ((cn : Int) + ((sn : Int) + 1))) H6.out.2.2.2.2.2.1
        have ho8 : ∀ b, b ≠ N → (w6.setCell ⟨N, 0, none⟩ (.int .i64 ((cn : Int) + ((sn : Int) + 1)))).heap[b]? = w6.heap[b]? := fun b hb => Below.heap_setCell _ _ _ _ hb
        obtain ⟨⟨x1, x2, x3, x4⟩, hEM⟩ := HW.out.2.2.2.1.next HT.out HFT.out.1 HFT.out.2.2.1 HFT.out.2.1 HI2.out.2.2.2.1 HX.out.1.1 hi8 HX.out.1.2 H6.out.2.1
        rw [EF.out.1] at hEM x4
        have hx4 : nx ≤ 4096 := by have := H6.out.1.len.2.2.1; omega
        have FRx := Lib.hid (free_st (nx : Int) hst8 (by omega) (by omega) (os3.set (nx - 1) 0) (by unfold Fr.free; rw [if_pos (by omega), Int.toNat_natCast]))
        have H8 := Lib.hid (And.intro n8 (And.intro ho8 (And.intro hEM (And.intro x4 x2))))
        clear hst8 n8 ho8 hEM x1 x2 x3 x4 hx4
        refine ⟨trivial, ?_⟩
        refine (CallsIn.inRound l1 (callsIn_wide.2 FRx.out)).mono ?_; rintro e w9 ⟨rfl, hst9, hsm9⟩
        have hs9 : Same (P :: A :: L :: T) W2 w9 := fun b hb => by
          rw [hsm9 b (List.mem_append_left _ (List.mem_cons_of_mem _ hb)), H8.out.2.1 b (fun e => by
            subst e
            rcases List.mem_cons.1 hb with e | hb
            · exact HN.out.1 e
            · rcases List.mem_cons.1 hb with e | hb
              · exact HN.out.2.2.1 e
              · rcases List.mem_cons.1 hb with e | hb
                · exact HN.out.2.1 e
                · exact HN.out.2.2.2.1 hb)]
          exact H6.out.2.2.2.2.1 b (List.mem_append_left _ (List.mem_cons_of_mem _ hb))
        obtain ⟨cP9, cA9, cL9⟩ := KS.out w9 hs9
        have hown9 : Fr.own (os3.set (nx - 1) 0) (f : Int) ≠ 0 := by
          rw [own_getD EF.out.2.1 (by rw [List.length_set]; have := EF.out.2.2.1; have := H6.out.2.1.oth.1; have := HW.out.2.2.2.2.2.2.2.2.2.1; omega), H8.out.2.2.2.1]; exact HT.out.own0
        have PT := put_st hst9 f i 0 hown9 hi8 (by omega)
        rw [show ((0 : Nat) : Int) = 0 from rfl] at PT
        have PT := Lib.hid PT
        have H9 := Lib.hid (And.intro hsm9 hs9)
        clear hst9 hsm9 hs9 hown9
        gi_wp2_with fail
        refine ⟨trivial, ?_⟩
        refine (CallsIn.inRound l1 (callsIn_wide.2 PT.out)).mono ?_; rintro e wA ⟨rfl, hstA, hsmA⟩
        have HA := Lib.hid (And.intro hstA hsmA)
        clear hstA hsmA
        gi_wp2_with fail
        obtain ⟨i1, i2, i3, i4, i6, i7, hown, hTT2, o1, o2, o3⟩ := HW.out
        refine ⟨fun b hb => ?_, _, _, i1, HA.out.1, i3, H8.out.2.2.1, fun b hb => ?_, ?_⟩
        · rw [HA.out.2 b (List.mem_append_right _ hb), H9.out.1 b (List.mem_append_right _ hb), H8.out.2.1 b (fun e => i3 N (by simp) (e ▸ hb))]
          exact H6.out.2.2.2.2.1 b (List.mem_append_right _ hb)
        · rw [HA.out.2 b (List.mem_append_left _ (List.mem_cons_of_mem _ hb)), H9.out.2 b hb]; exact i6 b hb
        · rw [HA.out.2 N (by simp), H9.out.1 N (by simp), H8.out.1, dk_snoc, List.length_append, HX.out.2.2.1, List.length_cons, HX.out.2.1]
          simp
      refine AllReadyH.cons (o := { dst := some 22, op := Op.call { callee := Callee.value (Operand.func 31), args := #[Operand.tmp 18, Operand.tmp 19, Operand.tmp 21], argTypes := #[24, 3, 3] }, type := 3, pos := "pages.go:151", after := #[{ on := 1, ground := Ground.data }, { on := 2, ground := Ground.data }, { on := 4, ground := Ground.data }], guard := none }) rfl (fun K hK => ?_) AllReadyH.nil
      go_simp
      with_reducible refine (CH.out).mono ?_
      rintro e w6 ⟨rfl, hex⟩
      obtain ⟨os3, ds3, hst3, hem, h64, hth, hsm⟩ := hex
      have hcs := KS.out w6 (fun b hb => hsm b (List.mem_append_left _ (List.mem_cons_of_mem _ hb)))
      have n6 := (hsm N (by simp)).trans HX.out.2.2.2.2
      have cN6 : w6.cell? ⟨N, 0, none⟩ = some (.int .i64 (cn : Int)) := by rw [cell_of_row _ _ 0 _ 3 (0, 0) n6]; rfl
      have fN6 : w6.frozen? ⟨N, 0, none⟩ = false := frozen_of_row _ _ 0 _ 3 n6
      have hsn : cn + sn ≤ 4096 := by
        have e1 := hem.co
        rw [List.length_map, HX.out.2.1] at e1
        have := HX.out.2.2.2.1.1
        omega
      have hw1 : IntKind.i64.wrap ((sn : Int) + 1) = (sn : Int) + 1 := by rw [IntKind.wrap_i64]; omega
      have hw2 : IntKind.i64.wrap ((cn : Int) + ((sn : Int) + 1)) = (cn : Int) + ((sn : Int) + 1) := by rw [IntKind.wrap_i64]; omega
      have hcall := Lib.hid (And.intro hcs.1 hcs.2.2)
      have H6 := Lib.hid (And.intro hst3 (And.intro hem (And.intro h64 (And.intro hth (And.intro hsm (And.intro n6 hsn))))))
      clear hst3 hem h64 hth hsm hcs n6 hsn
      clear hHeld
      try go_wp2_with fail
      refine hK.out _ _ (by first | exact hcall.out | exact ⟨cP, cL⟩ | exact ⟨by rw [World.cell?_setCell_far _ _ _ _ hNP]; exact hcall.out.1, by rw [World.cell?_setCell_far _ _ _ _ hNL]; exact hcall.out.2⟩) (fun hHeld => ?_)
      clear hK K
      try simp only [Act.put, List.setIfInBounds_toArray, List.set_cons_zero, List.set_cons_succ]
      refine wpAnyH_take (i := 6) (oi := { dst := some 23, op := Op.binOp BinOp.add 3 (Operand.tmp 22) (Operand.const (Value.int IntKind.i64 1)) 3, type := 3, pos := "pages.go:151", after := #[{ on := 5, ground := Ground.data }], guard := none }) (v := ?vv1_7) rfl (by kernel_rfl) (by kernel_rfl) (by kernel_rfl) (fun _ _ _ h => h) (Or.inl ⟨by rfl, ?hy1_7⟩) hHeld ?rest1_7
      case hy1_7 => (intro wS hSw; (try dsimp only at hSw); go_simp; try with_reducible rfl)
      simp only [Act.put, List.setIfInBounds_toArray, List.set_cons_zero, List.set_cons_succ]
      refine wpAnyH_ready (rs := [0]) (by kernel_rfl) (by simp) ?_
      refine AllReadyH.cons (o := { dst := some 17, op := Op.load 3 (Operand.tmp 7), type := 3, pos := "pages.go:151", after := #[], guard := none }) rfl (fun K hK => ?_) AllReadyH.nil
      skip
      go_simp
      clear hHeld
      refine hK.out _ _ (by first | exact hcall.out | exact ⟨cP, cL⟩ | exact ⟨by rw [World.cell?_setCell_far _ _ _ _ hNP]; exact hcall.out.1, by rw [World.cell?_setCell_far _ _ _ _ hNL]; exact hcall.out.2⟩) (fun hHeld => ?_)
      clear hK K
      try simp only [Act.put, List.setIfInBounds_toArray, List.set_cons_zero, List.set_cons_succ]
      refine wpAnyH_take (i := 7) (oi := { dst := some 24, op := Op.binOp BinOp.add 3 (Operand.tmp 17) (Operand.tmp 23) 3, type := 3, pos := "pages.go:151", after := #[{ on := 0, ground := Ground.data }, { on := 6, ground := Ground.data }], guard := none }) (v := ?vv1_8) rfl (by kernel_rfl) (by kernel_rfl) (by kernel_rfl) (fun _ _ _ h => h) (Or.inl ⟨by rfl, ?hy1_8⟩) hHeld ?rest1_8
      case hy1_8 => (intro wS hSw; (try dsimp only at hSw); go_simp; try with_reducible rfl)
      simp only [Act.put, List.setIfInBounds_toArray, List.set_cons_zero, List.set_cons_succ]
      refine wpAnyH_ready (rs := [8]) (by kernel_rfl) (by simp) ?_
      refine AllReadyH.cons (o := { dst := none, op := Op.store 3 (Operand.tmp 7) (Operand.tmp 24), type := 0, pos := "pages.go:151", after := #[{ on := 7, ground := Ground.data }, { on := 5, ground := Ground.chain }, { on := 0, ground := Ground.phase }, { on := 1, ground := Ground.phase }, { on := 2, ground := Ground.phase }, { on := 3, ground := Ground.phase }, { on := 4, ground := Ground.phase }, { on := 5, ground := Ground.phase }, { on := 6, ground := Ground.phase }, { on := 7, ground := Ground.phase }], guard := none }) rfl (fun K hK => ?_) AllReadyH.nil
      skip
      go_simp
      clear hHeld
      refine hK.out _ _ (by first | exact hcall.out | exact ⟨cP, cL⟩ | exact ⟨by rw [World.cell?_setCell_far _ _ _ _ hNP]; exact hcall.out.1, by rw [World.cell?_setCell_far _ _ _ _ hNL]; exact hcall.out.2⟩) (fun hHeld => ?_)
      clear hK K
      try simp only [Act.put, List.setIfInBounds_toArray, List.set_cons_zero, List.set_cons_succ]
      refine wpAnyH_done (by kernel_rfl) ?_ _
      try gi_wp2_with fail
      have hst8 := H6.out.1.set N 0 (.int .i64 ((cn : Int) + ((sn : Int) + 1))) (by simp) HN.out.2.2.2.2
      have n8 := heap_setCell_same w6 N 0 _ 3 (.int .i64 ((cn : Int) + ((sn : Int) + 1))) H6.out.2.2.2.2.2.1
      have ho8 : ∀ b, b ≠ N → (w6.setCell ⟨N, 0, none⟩ (.int .i64 ((cn : Int) + ((sn : Int) + 1)))).heap[b]? = w6.heap[b]? := fun b hb => Below.heap_setCell _ _ _ _ hb
      obtain ⟨⟨x1, x2, x3, x4⟩, hEM⟩ := HW.out.2.2.2.1.next HT.out HFT.out.1 HFT.out.2.2.1 HFT.out.2.1 HI2.out.2.2.2.1 HX.out.1.1 hi8 HX.out.1.2 H6.out.2.1
      rw [EF.out.1] at hEM x4
      have hx4 : nx ≤ 4096 := by have := H6.out.1.len.2.2.1; omega
      have FRx := Lib.hid (free_st (nx : Int) hst8 (by omega) (by omega) (os3.set (nx - 1) 0) (by unfold Fr.free; rw [if_pos (by omega), Int.toNat_natCast]))
      have H8 := Lib.hid (And.intro n8 (And.intro ho8 (And.intro hEM (And.intro x4 x2))))
      clear hst8 n8 ho8 hEM x1 x2 x3 x4 hx4
      refine ⟨trivial, ?_⟩
      refine (CallsIn.inRound l1 (callsIn_wide.2 FRx.out)).mono ?_; rintro e w9 ⟨rfl, hst9, hsm9⟩
      have hs9 : Same (P :: A :: L :: T) W2 w9 := fun b hb => by
        rw [hsm9 b (List.mem_append_left _ (List.mem_cons_of_mem _ hb)), H8.out.2.1 b (fun e => by
          subst e
          rcases List.mem_cons.1 hb with e | hb
          · exact HN.out.1 e
          · rcases List.mem_cons.1 hb with e | hb
            · exact HN.out.2.2.1 e
            · rcases List.mem_cons.1 hb with e | hb
              · exact HN.out.2.1 e
              · exact HN.out.2.2.2.1 hb)]
        exact H6.out.2.2.2.2.1 b (List.mem_append_left _ (List.mem_cons_of_mem _ hb))
      obtain ⟨cP9, cA9, cL9⟩ := KS.out w9 hs9
      have hown9 : Fr.own (os3.set (nx - 1) 0) (f : Int) ≠ 0 := by
        rw [own_getD EF.out.2.1 (by rw [List.length_set]; have := EF.out.2.2.1; have := H6.out.2.1.oth.1; have := HW.out.2.2.2.2.2.2.2.2.2.1; omega), H8.out.2.2.2.1]; exact HT.out.own0
      have PT := put_st hst9 f i 0 hown9 hi8 (by omega)
      rw [show ((0 : Nat) : Int) = 0 from rfl] at PT
      have PT := Lib.hid PT
      have H9 := Lib.hid (And.intro hsm9 hs9)
      clear hst9 hsm9 hs9 hown9
      gi_wp2_with fail
      refine ⟨trivial, ?_⟩
      refine (CallsIn.inRound l1 (callsIn_wide.2 PT.out)).mono ?_; rintro e wA ⟨rfl, hstA, hsmA⟩
      have HA := Lib.hid (And.intro hstA hsmA)
      clear hstA hsmA
      gi_wp2_with fail
      obtain ⟨i1, i2, i3, i4, i6, i7, hown, hTT2, o1, o2, o3⟩ := HW.out
      refine ⟨fun b hb => ?_, _, _, i1, HA.out.1, i3, H8.out.2.2.1, fun b hb => ?_, ?_⟩
      · rw [HA.out.2 b (List.mem_append_right _ hb), H9.out.1 b (List.mem_append_right _ hb), H8.out.2.1 b (fun e => i3 N (by simp) (e ▸ hb))]
        exact H6.out.2.2.2.2.1 b (List.mem_append_right _ hb)
      · rw [HA.out.2 b (List.mem_append_left _ (List.mem_cons_of_mem _ hb)), H9.out.2 b hb]; exact i6 b hb
      · rw [HA.out.2 N (by simp), H9.out.1 N (by simp), H8.out.1, dk_snoc, List.length_append, HX.out.2.2.1, List.length_cons, HX.out.2.1]
        simp
end Go.Proofs.Ytliljicmkgbfpaa
