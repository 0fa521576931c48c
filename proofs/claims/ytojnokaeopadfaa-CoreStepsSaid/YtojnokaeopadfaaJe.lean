/- The law's own step: loads and stores; any. Written by genJd.py. -/
import Derived.Test.YtojnokaeopadfaaJd
import Derived.Test.YtojnokaeopadfaaHh
set_option linter.unusedVariables false
set_option linter.unusedSimpArgs false
namespace Go.Proofs.Ytojnokaeopadfaa
open Go.RowKit

set_option maxRecDepth 100000 in
set_option maxHeartbeats 1000000 in
theorem ls_move {c g y n : Nat} {hole : Int} {s : Cor.S} (w : World) (h : CS w c 36 s.R s.pc) (hm : MS w g y n hole s.f) (hs : Cor.Ok s) (hcg : c ≠ g) (hcy : c ≠ y) (hp : s.pc < 262144) (ho : s.pc % 8 = 0) (hok : Cor.ok n hole s.pc 8 = true) (o a b d : Nat) (m : Int) (v0 : s.f s.pc = o) (v1 : s.f (s.pc + 1) = a) (v2 : s.f (s.pc + 2) = b) (v3 : s.f (s.pc + 3) = d) (v4 : Isa.im [s.f (s.pc + 4), s.f (s.pc + 5), s.f (s.pc + 6), s.f (s.pc + 7)] = m) (hr : decide (Isa.Right o a b d) = true) (ml : 19 ≤ (o : Int)) (mu : (o : Int) ≤ 24) :
    Calls Try.prog 10 #[.pointer (some ⟨c, 0, none⟩), .pointer (some ⟨g, 0, none⟩)] w fun e w' => EO 36 c g y n hole (Cor.exec n hole o a b d m s) w e w' := by
  have hri : Isa.Right o a b d := of_decide_eq_true hr
  have ho1 : (1 : Int) ≤ o := by unfold Isa.Right at hri; omega
  have ho2 : (o : Int) ≤ 43 := by unfold Isa.Right at hri; omega
  have ha : a < 16 := by unfold Isa.Right at hri; omega
  have hb : b < 16 := by unfold Isa.Right at hri; omega
  have hd : d < 16 := by unfold Isa.Right at hri; omega
  have i1 : -2147483648 ≤ m := by rw [← v4]; exact (Cor.im_in' _).1
  have i2 : m ≤ 2147483647 := by rw [← v4]; exact (Cor.im_in' _).2
  have DO := Lib.hid (fun (L : Nat) (W : World) (h : CS W c 36 s.R s.pc) => do_any a b d m L W h hs ha hb hd i1 i2 o ho1 ho2)
  have kn := h.next
  have g1 : ¬ 262144 ≤ (s.pc : Int) := by omega
  have p1 : IntKind.i64.wrap (s.pc : Int) = s.pc := IntWalk.i64_in _ (by omega)
  have p2 : (s.pc : Int).tmod 8 = 0 := by rw [Int.tmod_eq_emod_of_nonneg (by omega)]; omega
  have M := Lib.hid (mload_any s.pc 8 w hm (by omega) hs.f (.inr (.inr rfl)))
  rw [hok, show ((8 : Nat) : Int) = 8 from rfl] at M
  obtain ⟨lx, l0, l1, l2, l3, l4⟩ := Cor.ldf_parts hs.f s.pc
  simp only [if_true] at M
  obtain ⟨x, ex⟩ : ∃ x, Cor.ldf s.f s.pc 8 = x := ⟨_, rfl⟩
  rw [ex] at lx l0 l1 l2 l3 l4 M
  rw [v0] at l0
  rw [v1] at l1
  rw [v2] at l2
  rw [v3] at l3
  rw [v4] at l4
  have D := Lib.hid (fun (W : World) => rdec_any x W lx o a b d m l0 l1 l2 l3 l4 true hr)
  have HC := Lib.hid (And.intro h hm)
  have HS := Lib.hid hs
  have N := Lib.hid (fun (W : World) (h : CS W c 36 s.R s.pc) => need_move (o : Int) a b d m W h hs.R hb ml mu i1 i2)
  have hwd := Cor.wid_in o
  obtain ⟨wd, ew⟩ : ∃ wd, Cor.wid o = wd := ⟨_, rfl⟩
  rw [ew] at N hwd
  obtain ⟨at_, okp, ep⟩ : ∃ at_ okp, Alu.place (s.R b) m wd = (at_, okp) := ⟨_, _, rfl⟩
  rw [ep] at N
  have hin := Cor.place_in (b := s.R b) (m := m) (w := wd)
  rw [ep] at hin
  have hex : Cor.exec n hole o a b d m s = if okp = false then (s, 6) else if Cor.ok n hole at_.toNat wd = false then (s, 3) else if 22 ≤ (o : Int) then ({s with f := Cor.sti s.f at_.toNat wd (Cor.low (s.R a) wd) wd, pc := Cor.nxt s.pc}, 0) else ({s with R := Cor.put s.R a (Cor.ldf s.f at_.toNat wd), pc := Cor.nxt s.pc}, 0) := by
    have h1 : Cor.isMove o = true := by unfold Cor.isMove; exact decide_eq_true ⟨ml, mu⟩
    unfold Cor.exec
    rw [h1, if_pos rfl]
    unfold Cor.move
    simp only [ew, ep]
  rw [hex]
  have w0 : (0 : Int) < (wd : Int) := by omega
  have HI := Lib.hid (And.intro hwd hin)
  obtain ⟨st, es⟩ : ∃ st, decide (22 ≤ (o : Int)) = st := ⟨_, rfl⟩
  rw [es] at N
  cases okp
  · rw [if_pos rfl]
    clear h hm hs hp ho hok lx l0 l1 l2 l3 l4 ex v0 v1 v2 v3 v4 hr hri ho1 ho2 ha hb hd i1 i2 ml mu ew ep hin hex hwd es
    go_enter Try.func10, Try.ntmps10
    go_wp2_with fail
    refine M.out.mono ?_; rintro e w1 ⟨rfl, rfl⟩
    clear g1 p1 p2 kn
    go_wp2_with fail
    refine (D.out _).mono ?_; rintro e w2 ⟨rfl, hb2⟩
    clear D M
    obtain ⟨W3, e3⟩ : ∃ W3, w2.alloc (Obj.cells #[.int .i64 (o : Nat), .int .i64 (a : Nat), .int .i64 (b : Nat), .int .i64 (d : Nat), .int .i32 m] 27) = W3 := ⟨_, rfl⟩
    obtain ⟨X, eX⟩ : ∃ X, w2.heap.size = X := ⟨_, rfl⟩
    have hx3 : XS W3 X o a b d m := by rw [← e3, ← eX]; exact heap_alloc_new w2 _
    have hb3 : Below w.heap.size w W3 := by rw [← e3]; exact hb2.alloc hb2.size _
    have hXc : c ≠ X := by have := HC.out.1.lt; have := hb2.size; omega
    have hXy : y ≠ X := by have := HC.out.2.lt.2; have := hb2.size; omega
    have HX := Lib.hid hx3
    have H3 := Lib.hid (And.intro (HC.out.1.below hb3) (And.intro (HC.out.2.below hb3) (Nr.of_below (S := [c, y]) hb3)))
    clear hx3 hb3 hb2
    obtain ⟨x0, x1, x2, x3, x4⟩ := HX.out.cells
    have xr := HX.out
    unfold XS at xr
    go_wp2_with fail
    refine (N.out _ H3.out.1).mono ?_; rintro e w4 ⟨rfl, h4⟩
    have HX4 := Lib.hid (HX.out.nr h4 (by simp))
    have H4 := Lib.hid (And.intro (H3.out.1.nr h4 (by simp)) (And.intro (H3.out.2.1.nr h4 (by simp) (by simp)) (H3.out.2.2.next h4)))
    clear N xr x0 x1 x2 x3 x4 h4
    go_wp2_with fail
    go_ret
    exact ⟨rfl, H4.out⟩
  · rw [if_neg (by decide)]
    obtain ⟨v, hv, hv2⟩ := hin rfl
    subst hv
    rw [Int.toNat_natCast]
    have HA := Lib.hid (And.intro ha hs)
    have a1 : (a : Int) < 16 := by omega
    cases st
    · have h22 : ¬ 22 ≤ (o : Int) := by simpa using es
      have M2 := Lib.hid (fun (W : World) (h : MS W g y n hole s.f) => mload_any v wd W h hv2 hs.f hwd)
      cases hk : Cor.ok n hole v wd
      · rw [if_pos rfl]
        rw [hk] at M2
        clear h hm hs hp ho hok lx l0 l1 l2 l3 l4 ex v0 v1 v2 v3 v4 hr hri ho1 ho2 ha hb hd i1 i2 ml mu ew ep hin hex hwd es h22 hk hv2 a1
        go_enter Try.func10, Try.ntmps10
        go_wp2_with fail
        refine M.out.mono ?_; rintro e w1 ⟨rfl, rfl⟩
        clear g1 p1 p2 kn
        go_wp2_with fail
        refine (D.out _).mono ?_; rintro e w2 ⟨rfl, hb2⟩
        clear D M
        obtain ⟨W3, e3⟩ : ∃ W3, w2.alloc (Obj.cells #[.int .i64 (o : Nat), .int .i64 (a : Nat), .int .i64 (b : Nat), .int .i64 (d : Nat), .int .i32 m] 27) = W3 := ⟨_, rfl⟩
        obtain ⟨X, eX⟩ : ∃ X, w2.heap.size = X := ⟨_, rfl⟩
        have hx3 : XS W3 X o a b d m := by rw [← e3, ← eX]; exact heap_alloc_new w2 _
        have hb3 : Below w.heap.size w W3 := by rw [← e3]; exact hb2.alloc hb2.size _
        have hXc : c ≠ X := by have := HC.out.1.lt; have := hb2.size; omega
        have hXy : y ≠ X := by have := HC.out.2.lt.2; have := hb2.size; omega
        have HX := Lib.hid hx3
        have H3 := Lib.hid (And.intro (HC.out.1.below hb3) (And.intro (HC.out.2.below hb3) (Nr.of_below (S := [c, y]) hb3)))
        clear hx3 hb3 hb2
        obtain ⟨x0, x1, x2, x3, x4⟩ := HX.out.cells
        have xr := HX.out
        unfold XS at xr
        go_wp2_with fail
        refine (N.out _ H3.out.1).mono ?_; rintro e w4 ⟨rfl, h4⟩
        have HX4 := Lib.hid (HX.out.nr h4 (by simp))
        have H4 := Lib.hid (And.intro (H3.out.1.nr h4 (by simp)) (And.intro (H3.out.2.1.nr h4 (by simp) (by simp)) (H3.out.2.2.next h4)))
        clear N xr x0 x1 x2 x3 x4 h4
        obtain ⟨x0, x1, x2, x3, x4⟩ := HX4.out.cells
        go_wp2_with fail
        refine (M2.out _ H4.out.2.1).mono ?_; rintro e w5 ⟨rfl, rfl⟩
        go_wp2_with fail
        go_ret
        exact ⟨rfl, H4.out⟩
      · rw [if_neg (by decide), if_neg h22]
        rw [hk] at M2
        simp only [if_true] at M2
        obtain ⟨L, eL⟩ : ∃ L, Cor.ldf s.f v wd = L := ⟨_, rfl⟩
        rw [eL] at M2
        rw [eL]
        have ed : Cor.doing o a b d m L s = ({s with R := Cor.put s.R a L, pc := Cor.nxt s.pc}, 0) := by unfold Cor.doing; rw [if_pos (by omega)]
        have DL := Lib.hid (DO.out L)
        rw [ed] at DL
        clear h hm hs hp ho hok lx l0 l1 l2 l3 l4 ex v0 v1 v2 v3 v4 hr hri ho1 ho2 ha hb hd i1 i2 ml mu ew ep hin hex hwd es h22 hk hv2 a1 eL ed DO
        go_enter Try.func10, Try.ntmps10
        go_wp2_with fail
        refine M.out.mono ?_; rintro e w1 ⟨rfl, rfl⟩
        clear g1 p1 p2 kn
        go_wp2_with fail
        refine (D.out _).mono ?_; rintro e w2 ⟨rfl, hb2⟩
        clear D M
        obtain ⟨W3, e3⟩ : ∃ W3, w2.alloc (Obj.cells #[.int .i64 (o : Nat), .int .i64 (a : Nat), .int .i64 (b : Nat), .int .i64 (d : Nat), .int .i32 m] 27) = W3 := ⟨_, rfl⟩
        obtain ⟨X, eX⟩ : ∃ X, w2.heap.size = X := ⟨_, rfl⟩
        have hx3 : XS W3 X o a b d m := by rw [← e3, ← eX]; exact heap_alloc_new w2 _
        have hb3 : Below w.heap.size w W3 := by rw [← e3]; exact hb2.alloc hb2.size _
        have hXc : c ≠ X := by have := HC.out.1.lt; have := hb2.size; omega
        have hXy : y ≠ X := by have := HC.out.2.lt.2; have := hb2.size; omega
        have HX := Lib.hid hx3
        have H3 := Lib.hid (And.intro (HC.out.1.below hb3) (And.intro (HC.out.2.below hb3) (Nr.of_below (S := [c, y]) hb3)))
        clear hx3 hb3 hb2
        obtain ⟨x0, x1, x2, x3, x4⟩ := HX.out.cells
        have xr := HX.out
        unfold XS at xr
        go_wp2_with fail
        refine (N.out _ H3.out.1).mono ?_; rintro e w4 ⟨rfl, h4⟩
        have HX4 := Lib.hid (HX.out.nr h4 (by simp))
        have H4 := Lib.hid (And.intro (H3.out.1.nr h4 (by simp)) (And.intro (H3.out.2.1.nr h4 (by simp) (by simp)) (H3.out.2.2.next h4)))
        clear N xr x0 x1 x2 x3 x4 h4
        obtain ⟨x0, x1, x2, x3, x4⟩ := HX4.out.cells
        have xr := HX4.out
        unfold XS at xr
        go_wp2_with fail
        refine (M2.out _ H4.out.2.1).mono ?_; rintro e w5 ⟨rfl, rfl⟩
        go_wp2_with fail
        refine (DL.out _ H4.out.1).mono ?_; rintro e w5 ⟨rfl, h5, h6⟩
        have HE := Lib.hid (And.intro h5 (And.intro (H4.out.2.1.nr h6 (by simpa using fun e => hcg e.symm) (by simpa using fun e => hcy e.symm)) (H4.out.2.2.trans h6 (fun x hx => .inl (by simpa using .inl (by simpa using hx))))))
        clear h5 h6 DL
        go_wp2_with fail
        go_ret
        exact ⟨rfl, HE.out⟩
    · have h22 : 22 ≤ (o : Int) := by simpa using es
      have LW := Lib.hid (fun (W : World) => low_core (s.R a) wd W (hs.R a) hwd)
      have lx2 : Cor.low (s.R a) wd < 18446744073709551616 := Nat.lt_of_le_of_lt (Nat.mod_le _ _) (hs.R a)
      obtain ⟨q, eq⟩ : ∃ q, Cor.low (s.R a) wd = q := ⟨_, rfl⟩
      rw [eq] at LW lx2
      rw [eq]
      have M2 := Lib.hid (fun (W : World) (h : MS W g y n hole s.f) => mstore_any v wd q W h hv2 lx2 hwd)
      have ed : Cor.doing o a b d m 0 s = ({s with pc := Cor.nxt s.pc}, 0) := by unfold Cor.doing; rw [if_neg (by omega), if_pos (by omega)]
      have DL := Lib.hid (DO.out 0)
      rw [ed] at DL
      rw [if_pos h22]
      obtain ⟨k, hk⟩ : ∃ k, Cor.ok n hole v wd = k := ⟨_, rfl⟩
      rw [hk] at M2
      rw [hk]
      clear h hm hs hp ho hok lx l0 l1 l2 l3 l4 ex v0 v1 v2 v3 v4 hr hri ho1 ho2  hb hd i1 i2 ml mu ew ep hin hex ha hwd es h22 hk hv2 lx2 eq ed DO
      go_enter Try.func10, Try.ntmps10
      go_wp2_with fail
      refine M.out.mono ?_; rintro e w1 ⟨rfl, rfl⟩
      clear g1 p1 p2 kn
      go_wp2_with fail
      refine (D.out _).mono ?_; rintro e w2 ⟨rfl, hb2⟩
      clear D M
      obtain ⟨W3, e3⟩ : ∃ W3, w2.alloc (Obj.cells #[.int .i64 (o : Nat), .int .i64 (a : Nat), .int .i64 (b : Nat), .int .i64 (d : Nat), .int .i32 m] 27) = W3 := ⟨_, rfl⟩
      obtain ⟨X, eX⟩ : ∃ X, w2.heap.size = X := ⟨_, rfl⟩
      have hx3 : XS W3 X o a b d m := by rw [← e3, ← eX]; exact heap_alloc_new w2 _
      have hb3 : Below w.heap.size w W3 := by rw [← e3]; exact hb2.alloc hb2.size _
      have hXc : c ≠ X := by have := HC.out.1.lt; have := hb2.size; omega
      have hXy : y ≠ X := by have := HC.out.2.lt.2; have := hb2.size; omega
      have HX := Lib.hid hx3
      have H3 := Lib.hid (And.intro (HC.out.1.below hb3) (And.intro (HC.out.2.below hb3) (Nr.of_below (S := [c, y]) hb3)))
      clear hx3 hb3 hb2
      obtain ⟨x0, x1, x2, x3, x4⟩ := HX.out.cells
      have xr := HX.out
      unfold XS at xr
      go_wp2_with fail
      refine (N.out _ H3.out.1).mono ?_; rintro e w4 ⟨rfl, h4⟩
      have HX4 := Lib.hid (HX.out.nr h4 (by simp))
      have H4 := Lib.hid (And.intro (H3.out.1.nr h4 (by simp)) (And.intro (H3.out.2.1.nr h4 (by simp) (by simp)) (H3.out.2.2.next h4)))
      clear N xr x0 x1 x2 x3 x4 h4
      obtain ⟨W5, e5⟩ : ∃ W5, w4.drew = W5 := ⟨_, rfl⟩
      have hx5 : XS W5 X o a b d m := by rw [← e5]; exact HX4.out
      have hc5 : CS W5 c 36 s.R s.pc := by rw [← e5]; exact H4.out.1
      have hm5 : MS W5 g y n hole s.f := by rw [← e5]; exact H4.out.2.1
      have hn5 : Nr [c, y] w W5 := by rw [← e5]; exact H4.out.2.2.drew
      have M3 := Lib.hid (M2.out W5 hm5)
      have KD := Lib.hid (show W5.cell? ⟨X, 1, none⟩ = some (.int .i64 (a : Nat)) ∧ W5.cell? ⟨c, a, none⟩ = some (.int .u64 (s.R a : Nat)) from ⟨hx5.cells.2.1, hc5.cell HA.out.1⟩)
      have KS := Lib.hid (fun (W6 : World) (h : Turn [y] W5 W6) => (show W6.cell? ⟨X, 1, none⟩ = some (.int .i64 (a : Nat)) ∧ W6.cell? ⟨c, a, none⟩ = some (.int .u64 (s.R a : Nat)) from
        ⟨(hx5.nr (Nr.of_turn h) (by simpa using fun e => hXy e.symm)).cells.2.1, (hc5.turn h (by simpa using hcy)).cell HA.out.1⟩))
      have HE5 := Lib.hid (fun (W6 : World) (h : Turn [y] W5 W6) => (show CS W6 c 36 s.R s.pc ∧ Nr [c, y] w W6 ∧ XS W6 X o a b d m from
        ⟨hc5.turn h (by simpa using hcy), hn5.trans (Nr.of_turn h) (by simp), hx5.nr (Nr.of_turn h) (by simpa using fun e => hXy e.symm)⟩))
      clear hx5 hc5 hm5 hn5 M2
      have KE := Lib.hid e5
      go_upto_region 14 with fail
      subst e5
      go_region_held3 (fun w' => w'.cell? ⟨X, 1, none⟩ = some (.int .i64 (a : Nat)) ∧ w'.cell? ⟨c, a, none⟩ = some (.int .u64 (s.R a : Nat)))
        (first | exact KD.out | exact KS.out _ hcall.out.2)
        (first
          | (go_at_call 19; refine (LW.out _).mono ?_; rintro e wq ⟨rfl, rfl⟩)
          | (go_at_call 18; refine M3.out.mono ?_; rintro e wq ⟨rfl, hq⟩; have hcall := Lib.hid hq; clear hq))
      all_goals
        have h7 := HE5.out _ hcall.out.2
        have HB7 := Lib.hid (And.intro h7.1 (And.intro hcall.out.1 h7.2.1))
        have xr := h7.2.2
        have xc := h7.2.2.cells
        obtain ⟨x0, x1, x2, x3, x4⟩ := xc
        unfold XS at xr
        clear h7 hcall
        cases k
        · go_wp2_with fail
          go_ret
          exact ⟨rfl, HB7.out⟩
        · have h0 : (((0 : Nat) : Int)) = 0 := rfl
          go_wp2_with fail
          refine (DL.out _ HB7.out.1).mono ?_; rintro e w8 ⟨rfl, h5, h6⟩
          have HE := Lib.hid (And.intro h5 (And.intro (HB7.out.2.1.nr h6 (by simpa using fun e => hcg e.symm) (by simpa using fun e => hcy e.symm)) (HB7.out.2.2.trans h6 (fun x hx => .inl (by simpa using .inl (by simpa using hx))))))
          clear h5 h6 DL
          go_wp2_with fail
          go_ret
          exact ⟨rfl, HE.out⟩
theorem lstep_any {c g y n : Nat} {hole : Int} {s : Cor.S} (w : World) (h : CS w c 36 s.R s.pc) (hm : MS w g y n hole s.f) (hs : Cor.Ok s) (hcg : c ≠ g) (hcy : c ≠ y) :
    Calls Try.prog 10 #[.pointer (some ⟨c, 0, none⟩), .pointer (some ⟨g, 0, none⟩)] w fun e w' => EO 36 c g y n hole (Cor.stp n hole s) w e w' := by
  have hst : Cor.stp n hole s = if 262144 ≤ s.pc ∨ s.pc % 8 ≠ 0 then (s, 6) else if Cor.ok n hole s.pc 8 = false then (s, 3) else if Isa.Right (s.f s.pc : Nat) (s.f (s.pc + 1) : Nat) (s.f (s.pc + 2) : Nat) (s.f (s.pc + 3) : Nat) then Cor.exec n hole (s.f s.pc : Nat) (s.f (s.pc + 1)) (s.f (s.pc + 2)) (s.f (s.pc + 3)) (Isa.im [s.f (s.pc + 4), s.f (s.pc + 5), s.f (s.pc + 6), s.f (s.pc + 7)]) s else (s, 4) := rfl
  rw [hst]
  by_cases h1 : 262144 ≤ s.pc
  · rw [if_pos (.inl h1)]; exact ls_far w h hm hs hcg hcy h1
  by_cases h2 : s.pc % 8 ≠ 0
  · rw [if_pos (.inr h2)]; exact ls_odd w h hm hs hcg hcy (by omega) h2
  rw [if_neg (by omega)]
  cases h3 : Cor.ok n hole s.pc 8
  · rw [if_pos rfl]; exact ls_none w h hm hs hcg hcy (by omega) (by omega) h3
  rw [if_neg (by decide)]
  by_cases hr : Isa.Right (s.f s.pc : Nat) (s.f (s.pc + 1) : Nat) (s.f (s.pc + 2) : Nat) (s.f (s.pc + 3) : Nat)
  · rw [if_pos hr]
    cases hmv : Cor.isMove (s.f s.pc : Nat)
    · exact ls_plain w h hm hs hcg hcy (by omega) (by omega) h3 _ _ _ _ _ rfl rfl rfl rfl rfl (decide_eq_true hr) hmv
    · have hl : 19 ≤ ((s.f s.pc : Nat) : Int) ∧ ((s.f s.pc : Nat) : Int) ≤ 24 := by unfold Cor.isMove at hmv; simpa using hmv
      exact ls_move w h hm hs hcg hcy (by omega) (by omega) h3 _ _ _ _ _ rfl rfl rfl rfl rfl (decide_eq_true hr) hl.1 hl.2
  · rw [if_neg hr]
    exact ls_bad w h hm hs hcg hcy (by omega) (by omega) h3 _ _ _ _ _ rfl rfl rfl rfl rfl (decide_eq_false hr)
end Go.Proofs.Ytojnokaeopadfaa
