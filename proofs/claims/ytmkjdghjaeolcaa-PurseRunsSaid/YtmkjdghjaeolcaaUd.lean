/- PurseWays. -/
import Derived.Test.YtmkjdghjaeolcaaUc
import Derived.BigRegion
set_option linter.unusedVariables false
set_option linter.unusedSimpArgs false
namespace Go.Proofs.Ytmkjdghjaeolcaa
open Go.RowKit
set_option linter.unusedVariables false
set_option linter.unusedSimpArgs false
theorem tk0 {l u g n : Int} (h0 : 0 ≤ n) (h : n ≤ l - u - g) : tk l u g n = 0 := by
  unfold tk; rw [if_neg (by omega), if_neg (by omega)]
theorem tk5 {l u g n : Int} (h0 : 0 ≤ n) (h : l - u - g < n) : tk l u g n = 5 := by
  unfold tk; rw [if_neg (by omega), if_pos h]
theorem mv0 {l u g x y z n : Int} (h : n ≠ -9223372036854775808) (h1 : n ≤ l - u - g) (h2 : -n ≤ x - y - z) : mv l u g x y z n = 0 := by
  unfold mv; rw [if_neg h, if_neg (by omega)]
theorem mv5 {l u g x y z n : Int} (h : n ≠ -9223372036854775808) (h1 : l - u - g < n ∨ x - y - z < -n) : mv l u g x y z n = 5 := by
  unfold mv; rw [if_neg h, if_pos h1]
/-- Two purses, and what they were. -/
structure WS (W : World) (P Q A B : Nat) (L G l u g x y z : Int) (w : World) : Prop where
  b : Below W.heap.size W w
  hp : W.heap.size ≤ P
  hq : W.heap.size ≤ Q
  p : PV w P 0 l u g
  q : PV w Q 0 x y z
  a : PV w A 0 L 0 G
  c : PV w B 0 G 0 0
  ne : P ≠ Q ∧ P ≠ A ∧ P ≠ B ∧ Q ≠ A ∧ Q ≠ B
section
variable {W w w' : World} {P Q A B : Nat} {L G l u g x y z m x2 : Int}
theorem WS.below (h : WS W P Q A B L G l u g x y z w) (hb : Below w.heap.size w w') : WS W P Q A B L G l u g x y z w' :=
  ⟨below_up h.b hb, h.hp, h.hq, h.p.below hb, h.q.below hb, h.a.below hb, h.c.below hb, h.ne⟩
theorem WS.p1 (h : WS W P Q A B L G l u g x y z w) (hb : Below w.heap.size (w.setCell ⟨P, 1, none⟩ (.int .i64 m)) w') : WS W P Q A B L G l m g x y z w' :=
  ⟨below_put h.b h.hp hb, h.hp, h.hq, h.p.put1 (o := 0) hb, h.q.other hb (fun e => absurd e.symm h.ne.1), h.a.other hb (fun e => absurd e.symm h.ne.2.1), h.c.other hb (fun e => absurd e.symm h.ne.2.2.1), h.ne⟩
theorem WS.p2 (h : WS W P Q A B L G l u g x y z w) (hb : Below w.heap.size (w.setCell ⟨P, 2, none⟩ (.int .i64 m)) w') : WS W P Q A B L G l u m x y z w' :=
  ⟨below_put h.b h.hp hb, h.hp, h.hq, h.p.put2 (o := 0) hb, h.q.other hb (fun e => absurd e.symm h.ne.1), h.a.other hb (fun e => absurd e.symm h.ne.2.1), h.c.other hb (fun e => absurd e.symm h.ne.2.2.1), h.ne⟩
theorem WS.q1 (h : WS W P Q A B L G l u g x y z w) (hb : Below w.heap.size (w.setCell ⟨Q, 1, none⟩ (.int .i64 m)) w') : WS W P Q A B L G l u g x m z w' :=
  ⟨below_put h.b h.hq hb, h.hp, h.hq, h.p.other hb (fun e => absurd e h.ne.1), h.q.put1 (o := 0) hb, h.a.other hb (fun e => absurd e.symm h.ne.2.2.2.1), h.c.other hb (fun e => absurd e.symm h.ne.2.2.2.2), h.ne⟩
theorem WS.mv (h : WS W P Q A B L G l u g x y z w) (hb : Below w.heap.size ((w.setCell ⟨P, 2, none⟩ (.int .i64 m)).setCell ⟨Q, 0, none⟩ (.int .i64 x2)) w') : WS W P Q A B L G l u m x2 y z w' := by
  have h1 := h.p2 (Below.refl _ (w.setCell ⟨P, 2, none⟩ (.int .i64 m)))
  have hb' : Below (w.setCell ⟨P, 2, none⟩ (.int .i64 m)).heap.size ((w.setCell ⟨P, 2, none⟩ (.int .i64 m)).setCell ⟨Q, 0, none⟩ (.int .i64 x2)) w' := by rw [World.size_setCell]; exact hb
  exact ⟨below_put h1.b h.hq hb', h.hp, h.hq, h1.p.other hb' (fun e => absurd e h.ne.1), h1.q.put0 (o := 0) hb', h1.a.other hb' (fun e => absurd e.symm h.ne.2.2.2.1), h1.c.other hb' (fun e => absurd e.symm h.ne.2.2.2.2), h.ne⟩
theorem WS.made (hb : Below W.heap.size W w) (hp : W.heap.size ≤ P) (hq : W.heap.size ≤ Q) (hpq : P ≠ Q) (h : PV w P 0 L 0 G ∧ PV w Q 0 G 0 0) :
    WS W P Q w.heap.size (w.heap.size + 1) L G L 0 G G 0 0 ((w.alloc (Obj.cells #[.int .i64 L, .int .i64 0, .int .i64 G] 26)).alloc (Obj.cells #[.int .i64 G, .int .i64 0, .int .i64 0] 26)).drew := by
  have b1 := below_alloc1 w (Obj.cells #[.int .i64 L, .int .i64 0, .int .i64 G] 26)
  have b2 := below_alloc1 (w.alloc (Obj.cells #[.int .i64 L, .int .i64 0, .int .i64 G] 26)) (Obj.cells #[.int .i64 G, .int .i64 0, .int .i64 0] 26)
  have n1 := (PV.new w L 0 G).below b2
  have n2 := PV.new (w.alloc (Obj.cells #[.int .i64 L, .int .i64 0, .int .i64 G] 26)) G 0 0
  simp only [World.size_alloc] at n2
  have l1 := h.1.lt
  have l2 := h.2.lt
  exact ⟨(below_up (below_up hb b1) b2).drew, hp, hq, ((h.1.below b1).below b2).drew, ((h.2.below b1).below b2).drew, n1.drew, n2.drew, ⟨hpq, by omega, by omega, by omega, by omega⟩⟩
theorem WS.made' (hb : Below W.heap.size W w) (hp : W.heap.size ≤ P) (hq : W.heap.size ≤ Q) (hpq : P ≠ Q) (h : PV w P 0 L 0 G ∧ PV w Q 0 G 0 0) :
    WS W P Q (w.heap.size + 1) w.heap.size L G L 0 G G 0 0 ((w.alloc (Obj.cells #[.int .i64 G, .int .i64 0, .int .i64 0] 26)).alloc (Obj.cells #[.int .i64 L, .int .i64 0, .int .i64 G] 26)).drew := by
  have b1 := below_alloc1 w (Obj.cells #[.int .i64 G, .int .i64 0, .int .i64 0] 26)
  have b2 := below_alloc1 (w.alloc (Obj.cells #[.int .i64 G, .int .i64 0, .int .i64 0] 26)) (Obj.cells #[.int .i64 L, .int .i64 0, .int .i64 G] 26)
  have n1 := (PV.new w G 0 0).below b2
  have n2 := PV.new (w.alloc (Obj.cells #[.int .i64 G, .int .i64 0, .int .i64 0] 26)) L 0 G
  simp only [World.size_alloc] at n2
  have l1 := h.1.lt
  have l2 := h.2.lt
  exact ⟨(below_up (below_up hb b1) b2).drew, hp, hq, ((h.1.below b1).below b2).drew, ((h.2.below b1).below b2).drew, n2.drew, n1.drew, ⟨hpq, by omega, by omega, by omega, by omega⟩⟩
end
set_option maxRecDepth 100000 in
set_option maxHeartbeats 1000000 in
theorem ways_all (a0 a1 n : Int) (w : World) (hn : -9223372036854775808 ≤ n ∧ n ≤ 9223372036854775807) :
    Calls Try.prog 5 #[.int .i64 a0, .int .i64 a1, .int .i64 n] w fun e w' => e = .returned (.bool true) ∧ Below w.heap.size w w' := by
  have C0 := Lib.hid (fit_any w)
  obtain ⟨L, eL, hL0, hL⟩ := and30 a0
  obtain ⟨G, eG, hG0, hG⟩ := and30 a1
  have HB := Lib.hid (And.intro hL0 (And.intro hL (And.intro hG0 (And.intro hG hn))))
  clear hL0 hL hG0 hG hn
  have hOk0 : Hid (Ok L 0 0) := Lib.hid (by have := HB.out; unfold Ok; omega)
  by_cases hGL : L < G
  · have e5 : Hid (tk L 0 0 G = 5) := Lib.hid (tk5 (by have := HB.out; omega) (by omega))
    have g1 : G > L := hGL
    go_enter Try.func5, Try.ntmps5
    go_wp2_with fail
    refine C0.out.mono ?_; rintro e w1 ⟨rfl, hb⟩
    have B1 := Lib.hid (below_up hb (below_alloc1 w1 (Obj.cells #[.int .i64 L, .int .i64 0, .int .i64 0] 26)))
    have H1 := Lib.hid (PV.new w1 L 0 0)
    have HP := Lib.hid hb.size
    clear hb C0
    go_wp2_with fail
    refine (give_bad G hOk0.out H1.out (by rw [e5.out]; omega)).mono ?_; rintro e w2 ⟨rfl, hb⟩
    rw [e5.out]
    have H2 := Lib.hid (H1.out.below hb)
    have B2 := Lib.hid (below_up (below_up B1.out hb) (below_alloc1 w2 (Obj.cells #[.int .i64 0, .int .i64 0, .int .i64 0] 26)))
    obtain ⟨c0, c1, c2, _, _, _⟩ := H2.out.below (below_alloc1 w2 (Obj.cells #[.int .i64 0, .int .i64 0, .int .i64 0] 26))
    clear hb
    go_wp2_with fail
    go_ret
    exact ⟨rfl, B2.out⟩
  · have e0 : Hid (tk L 0 0 G = 0) := Lib.hid (tk0 (by have := HB.out; omega) (by omega))
    go_enter Try.func5, Try.ntmps5
    go_wp2_with fail
    refine C0.out.mono ?_; rintro e w1 ⟨rfl, hb⟩
    have B1 := Lib.hid (below_up hb (below_alloc1 w1 (Obj.cells #[.int .i64 L, .int .i64 0, .int .i64 0] 26)))
    have H1 := Lib.hid (PV.new w1 L 0 0)
    have HP := Lib.hid hb.size
    clear hb C0
    go_wp2_with fail
    refine (give_ok G hOk0.out H1.out e0.out).mono ?_; rintro e w2 ⟨rfl, hb⟩
    have H2 := Lib.hid (H1.out.put2 (o := 0) hb)
    have B2 := Lib.hid (below_put B1.out HP.out hb)
    have HS2 : Hid (w1.heap.size < w2.heap.size) := Lib.hid (by have := hb.size; simp at this; omega)
    have e2 : (0 : Int) + G = G := by omega
    rw [e2] at H2
    clear hb B1 H1 e0 e2
    obtain ⟨P, eP⟩ : ∃ P, w1.heap.size = P := ⟨_, rfl⟩
    rw [eP] at H2 HS2 HP ⊢
    clear eP
    have H3 := Lib.hid (And.intro (H2.out.below (below_alloc1 w2 (Obj.cells #[.int .i64 G, .int .i64 0, .int .i64 0] 26))) (PV.new w2 G 0 0))
    have B3 := Lib.hid (below_up B2.out (below_alloc1 w2 (Obj.cells #[.int .i64 G, .int .i64 0, .int .i64 0] 26)))
    have HQ := Lib.hid B2.out.size
    clear H2 B2
    go_upto_region 9 with fail
    obtain ⟨Q, eQ⟩ : ∃ Q, w2.heap.size = Q := ⟨_, rfl⟩
    obtain ⟨W3, eW3⟩ : ∃ W3, w2.alloc (Obj.cells #[.int .i64 G, .int .i64 0, .int .i64 0] 26) = W3 := ⟨_, rfl⟩
    have HS3 : Hid (Q < W3.heap.size) := Lib.hid (by rw [← eW3, ← eQ]; simp)
    rw [eQ, eW3] at H3 
    rw [eQ] at HS2 HQ
    rw [eW3] at B3
    rw [eQ, eW3]
    clear eQ eW3 w2 w1
    go_cut [10, 11] (fun va vb wr => ∃ A B wz, wz = wr ∧ va = .pointer (some ⟨A, 0, none⟩) ∧ vb = .pointer (some ⟨B, 0, none⟩) ∧ Hid (WS w P Q A B L G L 0 G G 0 0 wz))
    case first =>
      obtain ⟨p0, p1, p2, _, _, _⟩ := H3.out.1
      obtain ⟨q0, q1, q2, _, _, _⟩ := H3.out.2
      have s1 : Q < W3.heap.size := HS3.out
      have s2 : P < W3.heap.size := H3.out.1.lt
      go_region
      all_goals (go_wp2_with fail; go_meet; first | exact ⟨_, _, _, rfl, rfl, rfl, Lib.hid (WS.made B3.out HP.out HQ.out (by have := HS2.out; omega) H3.out)⟩ | exact ⟨_, _, _, rfl, rfl, rfl, Lib.hid (WS.made' B3.out HP.out HQ.out (by have := HS2.out; omega) H3.out)⟩)
    case rest =>
      obtain ⟨A, B, wz, rfl, rfl, rfl, HW⟩ := hcut
      clear H3 B3 HS3 HS2 HP HQ
      have hOk1 : Hid (Ok L 0 G ∧ Ok G 0 0) := Lib.hid (by have := HB.out; unfold Ok; omega)
      have e4 : Hid (RowKit.wrap64 (L - G) = L - G ∧ RowKit.wrap64 (-G) = -G) := Lib.hid (by have := HB.out; unfold RowKit.wrap64; omega)
      obtain ⟨D, eD⟩ : ∃ D, L - G = D := ⟨_, rfl⟩
      obtain ⟨N, eN⟩ : ∃ N, -G = N := ⟨_, rfl⟩
      have e5 : RowKit.wrap64 (L - G) = D := e4.out.1.trans eD
      have e6 : RowKit.wrap64 (-G) = N := e4.out.2.trans eN
      have HE := Lib.hid (And.intro eD eN)
      clear e4 eD eN
      by_cases hm : mv L 0 G G 0 0 n = 0
      · have hnn : n ≠ -9223372036854775808 ∧ n ≤ L - G ∧ -n ≤ G := by
          have h1 := mv_sum hOk1.out.1 hOk1.out.2 hm
          omega
        have C := Lib.hid (move_ok n hOk1.out.1 hOk1.out.2 HW.out.p HW.out.q (fun e => absurd e HW.out.ne.1) hm)
        obtain ⟨X, eX⟩ : ∃ X, G + n = X := ⟨_, rfl⟩
        obtain ⟨R, eR⟩ : ∃ R, D - n = R := ⟨_, rfl⟩
        obtain ⟨m, em⟩ : ∃ m, -n = m := ⟨_, rfl⟩
        have HF := Lib.hid (And.intro hnn (And.intro eX (And.intro eR (And.intro em HE.out))))
        have e7 : RowKit.wrap64 (D - n) = R := by have := HF.out; have := HB.out; unfold RowKit.wrap64; omega
        have e8 : RowKit.wrap64 (G + n) = X := by have := HF.out; have := HB.out; unfold RowKit.wrap64; omega
        have e9 : RowKit.wrap64 (-n) = m := by have := HF.out; have := HB.out; unfold RowKit.wrap64; omega
        rw [eX] at C
        have hOk2 : Hid (Ok L 0 X ∧ Ok X 0 0) := Lib.hid (by have := HB.out; have := HF.out; unfold Ok; omega)
        have m2 : Hid (mv L 0 X X 0 0 m = 0) := Lib.hid (mv0 (by have := HB.out; have := HF.out; omega) (by have := HB.out; have := HF.out; omega) (by have := HB.out; have := HF.out; omega))
        clear hnn eX eR em hm
        go_wp2_with fail
        refine C.out.mono ?_; rintro e w1 ⟨rfl, hb⟩
        have H1 := Lib.hid (HW.out.mv hb)
        clear hb C HW
        obtain ⟨p0, p1, p2, _, _, _⟩ := H1.out.p
        have CL := Lib.hid (fun W => left_ok hOk2.out.1 W)
        rw [show L - 0 - X = R by have := HF.out; omega] at CL
        go_wp2_with fail
        refine (CL.out _).mono ?_; rintro e w2 ⟨rfl, hb⟩
        have H2 := Lib.hid (H1.out.below hb)
        clear hb H1 p0 p1 p2 CL
        obtain ⟨p0, p1, p2, _, _, _⟩ := H2.out.q
        have CL := Lib.hid (fun W => left_ok hOk2.out.2 W)
        rw [show X - 0 - 0 = X by omega] at CL
        go_wp2_with fail
        refine (CL.out _).mono ?_; rintro e w3 ⟨rfl, hb⟩
        have H3 := Lib.hid (H2.out.below hb)
        clear hb H2 p0 p1 p2 CL
        have C := Lib.hid (move_ok m hOk2.out.1 hOk2.out.2 H3.out.p H3.out.q (fun e => absurd e H3.out.ne.1) m2.out)
        rw [show X + m = G by have := HF.out; omega] at C
        go_wp2_with fail
        refine C.out.mono ?_; rintro e w4 ⟨rfl, hb⟩
        have H4 := Lib.hid (H3.out.mv hb)
        clear hb H3 C e7 e8 m2
        obtain ⟨p0, p1, p2, _, _, _⟩ := H4.out.p
        obtain ⟨q0, q1, q2, _, _, _⟩ := H4.out.q
        obtain ⟨a0, a1, a2, _, _, _⟩ := H4.out.a
        obtain ⟨b0, b1, b2, _, _, _⟩ := H4.out.c
        have CL := Lib.hid (fun W => left_ok hOk1.out.1 W)
        rw [show L - 0 - G = D by have := HF.out; omega] at CL
        go_wp2_with fail
        refine (CL.out _).mono ?_; rintro e w5 ⟨rfl, hb⟩
        have H5 := Lib.hid (H4.out.below hb)
        clear hb H4 p0 p1 p2 q0 q1 q2 a0 a1 a2 b0 b1 b2 CL
        have C := Lib.hid (take_ok D hOk1.out.1 H5.out.p (tk0 (by have := HF.out; have := HB.out; omega) (by have := HF.out; omega)))
        rw [show (0 : Int) + D = D by omega] at C
        go_wp2_with fail
        refine C.out.mono ?_; rintro e w6 ⟨rfl, hb⟩
        have H6 := Lib.hid (H5.out.p1 hb)
        clear hb H5 C
        have hOk3 : Hid (Ok L D G) := Lib.hid (by have := HB.out; have := HF.out; unfold Ok; omega)
        obtain ⟨p0, p1, p2, _, _, _⟩ := H6.out.p
        have CL := Lib.hid (fun W => left_ok hOk3.out W)
        rw [show L - D - G = 0 by have := HF.out; omega] at CL
        go_wp2_with fail
        refine (CL.out _).mono ?_; rintro e w7 ⟨rfl, hb⟩
        have H7 := Lib.hid (H6.out.below hb)
        clear hb H6 p0 p1 p2 CL
        have m5 : mv L D G G 0 0 1 = 5 := mv5 (by omega) (.inl (by have := HF.out; omega))
        have C := Lib.hid (move_bad 1 (by omega) hOk3.out hOk1.out.2 H7.out.p H7.out.q (by rw [m5]; omega))
        rw [m5] at C
        clear m5
        go_wp2_with fail
        refine C.out.mono ?_; rintro e w8 ⟨rfl, hb⟩
        have H8 := Lib.hid (H7.out.below hb)
        clear hb H7 C
        obtain ⟨p0, p1, p2, _, _, _⟩ := H8.out.q
        have CL := Lib.hid (fun W => left_ok hOk1.out.2 W)
        rw [show G - 0 - 0 = G by omega] at CL
        go_wp2_with fail
        refine (CL.out _).mono ?_; rintro e w9 ⟨rfl, hb⟩
        have H9 := Lib.hid (H8.out.below hb)
        clear hb H8 p0 p1 p2 CL
        have C := Lib.hid (take_ok G hOk1.out.2 H9.out.q (tk0 (by have := HB.out; omega) (by omega)))
        rw [show (0 : Int) + G = G by omega] at C
        go_wp2_with fail
        refine C.out.mono ?_; rintro e wa ⟨rfl, hb⟩
        have Ha := Lib.hid (H9.out.q1 hb)
        clear hb H9 C
        have hOk4 : Hid (Ok G G 0) := Lib.hid (by have := HB.out; unfold Ok; omega)
        have m5 : mv L D G G G 0 (-1) = 5 := mv5 (by omega) (.inr (by omega))
        have C := Lib.hid (move_bad (-1) (by omega) hOk3.out hOk4.out Ha.out.p Ha.out.q (by rw [m5]; omega))
        rw [m5] at C
        clear m5
        go_wp2_with fail
        refine C.out.mono ?_; rintro e wb ⟨rfl, hb⟩
        have Hb := Lib.hid (Ha.out.below hb)
        clear hb Ha C
        have C := Lib.hid (return_ok G hOk3.out Hb.out.p (by have := HB.out; omega))
        rw [show G - G = 0 by omega] at C
        go_wp2_with fail
        refine C.out.mono ?_; rintro e wc ⟨rfl, hb⟩
        have Hc := Lib.hid (Hb.out.p2 hb)
        clear hb Hb C
        have C := Lib.hid (return_bad 1 Hc.out.p (.inr (by omega)))
        go_wp2_with fail
        refine C.out.mono ?_; rintro e wd ⟨rfl, hb⟩
        have Hd := Lib.hid (Hc.out.below hb)
        clear hb Hc C
        go_wp2_with fail
        go_ret
        exact ⟨rfl, Hd.out.b⟩
      · have C := Lib.hid (move_bad n HB.out.2.2.2.2 hOk1.out.1 hOk1.out.2 HW.out.p HW.out.q hm)
        obtain ⟨f, ef⟩ : ∃ f, mv L 0 G G 0 0 n = f := ⟨_, rfl⟩
        have hor : n > D ∨ n < N := by
          have h1 := HE.out; have h2 := HB.out
          unfold mv at hm
          by_cases h0 : n = -9223372036854775808
          · omega
          · rw [if_neg h0] at hm
            by_cases h3 : L - 0 - G < n ∨ G - 0 - 0 < -n
            · omega
            · rw [if_neg h3] at hm; exact absurd rfl hm
        rw [ef] at C hm
        clear ef
        by_cases h1 : n > D
        · have h1' : D < n := h1
          go_wp2_with fail
          refine C.out.mono ?_; rintro e w1 ⟨rfl, hb⟩
          have H1 := Lib.hid (HW.out.below hb)
          clear hb C HW
          obtain ⟨p0, p1, p2, _, _, _⟩ := H1.out.p
          obtain ⟨q0, q1, q2, _, _, _⟩ := H1.out.q
          obtain ⟨a0, a1, a2, _, _, _⟩ := H1.out.a
          obtain ⟨b0, b1, b2, _, _, _⟩ := H1.out.c
          go_wp2_with fail
          go_ret
          exact ⟨rfl, H1.out.b⟩
        · have h2 : n < N := by omega
          have h1' : ¬ D < n := h1
          go_wp2_with fail
          refine C.out.mono ?_; rintro e w1 ⟨rfl, hb⟩
          have H1 := Lib.hid (HW.out.below hb)
          clear hb C HW
          obtain ⟨p0, p1, p2, _, _, _⟩ := H1.out.p
          obtain ⟨q0, q1, q2, _, _, _⟩ := H1.out.q
          obtain ⟨a0, a1, a2, _, _, _⟩ := H1.out.a
          obtain ⟨b0, b1, b2, _, _, _⟩ := H1.out.c
          go_wp2_with fail
          go_ret
          exact ⟨rfl, H1.out.b⟩

end Go.Proofs.Ytmkjdghjaeolcaa
