/- A core's loads and stores. -/
import Derived.Test.YtojnokaeopadfaaHf
set_option linter.unusedVariables false
set_option linter.unusedSimpArgs false
namespace Go.Proofs.Ytojnokaeopadfaa
open Go.RowKit

/-- What is left of an instruction: how it ended, a core in block c, a memory in g, its bytes in y. -/
def EO (T : TypeId) (c g y n : Nat) (hole : Int) (r : Cor.S × Int) (w : World) (e : Ending) (w' : World) : Prop :=
  e = .returned (.int .i64 r.2) ∧ CS w' c T r.1.R r.1.pc ∧ MS w' g y n hole r.1.f ∧ Nr [c, y] w w'
set_option maxRecDepth 100000 in
set_option maxHeartbeats 1000000 in
theorem move_core {c g y n : Nat} {hole : Int} {s : Cor.S} (op : Int) (a b d : Nat) (m : Int) (w : World) (h : CS w c 35 s.R s.pc) (hm : MS w g y n hole s.f) (hs : Cor.Ok s) (hcg : c ≠ g) (hcy : c ≠ y) (ha : a < 16) (hb : b < 16) (l : 19 ≤ op) (u : op ≤ 24) (i1 : -2147483648 ≤ m) (i2 : m ≤ 2147483647) :
    Calls Try.prog 24 #[.pointer (some ⟨c, 0, none⟩), .agg #[.int .i64 op, .int .i64 (a : Nat), .int .i64 (b : Nat), .int .i64 (d : Nat), .int .i32 m], IV g] w fun e w' => EO 35 c g y n hole ({(Cor.move n hole op a b m s).1 with pc := s.pc}, (Cor.move n hole op a b m s).2) w e w' := by
  obtain ⟨R, pc, f⟩ := s
  obtain ⟨hR, _, hf⟩ := hs
  dsimp only at h hm hR hf ⊢
  have C1 := Lib.hid (fun (W : World) => width_core op W l u)
  have hwd := Cor.wid_in op
  obtain ⟨wd, ew⟩ : ∃ wd, Cor.wid op = wd := ⟨_, rfl⟩
  rw [ew] at C1 hwd
  obtain ⟨st, es⟩ : ∃ st, decide (22 ≤ op) = st := ⟨_, rfl⟩
  rw [es] at C1
  obtain ⟨at_, okp, ep⟩ : ∃ at_ okp, Alu.place (R b) m wd = (at_, okp) := ⟨_, _, rfl⟩
  have C2 := Lib.hid (fun (W : World) => place_core (R b) m wd W hwd (hR b) i1 i2)
  rw [ep] at C2
  have hin := Cor.place_in (b := R b) (m := m) (w := wd)
  rw [ep] at hin
  have hmv : Cor.move n hole op a b m ⟨R, pc, f⟩ = if okp = false then (⟨R, pc, f⟩, 6) else if Cor.ok n hole at_.toNat wd = false then (⟨R, pc, f⟩, 3) else if 22 ≤ op then (⟨R, Cor.nxt pc, Cor.sti f at_.toNat wd (Cor.low (R a) wd) wd⟩, 0) else (⟨Cor.put R a (Cor.ldf f at_.toNat wd), Cor.nxt pc, f⟩, 0) := by
    unfold Cor.move
    simp only [ew, ep]
  obtain ⟨W1, e1⟩ : ∃ W1, w.alloc (Obj.cells #[.int .i64 op, .int .i64 (a : Nat), .int .i64 (b : Nat), .int .i64 (d : Nat), .int .i32 m] 27) = W1 := ⟨_, rfl⟩
  obtain ⟨X, eX⟩ : ∃ X, w.heap.size = X := ⟨_, rfl⟩
  have hx1 : XS W1 X op a b d m := by rw [← e1, ← eX]; exact heap_alloc_new w _
  have hn1 : Nr [c, y] w W1 := by rw [← e1]; exact (Nr.refl _ _).alloc _
  have hc1 : CS W1 c 35 R pc := h.below (by rw [← e1]; exact below_alloc1 w _)
  have hm1 : MS W1 g y n hole f := hm.below (by rw [← e1]; exact below_alloc1 w _)
  have hcX : X ≠ c := by have := h.lt; omega
  have hyX : X ≠ y := by have := hm.lt.2; omega
  have x0 := hx1.cells.1
  have kx : ∀ p : Nearby W1, p.W.cell? ⟨X, 2, none⟩ = some (.int .i64 (b : Nat)) ∧ p.W.cell? ⟨X, 4, none⟩ = some (.int .i32 m) := fun p => by
    obtain ⟨x0, x1, x2, x3, x4⟩ := (hx1.nr p.near (by simp)).cells
    exact ⟨x2, x4⟩
  have k2 := fun p => (kx p).1
  have k4 := fun p => (kx p).2
  have kb : ∀ p : Nearby W1, p.W.cell? ⟨c, b, none⟩ = some (.int .u64 (R b : Nat)) := fun p => (hc1.nr p.near (by simp)).cell hb
  have Q := Lib.hid (fun p : Nearby W1 => Calls.near_of ((C2.out p.W).mono fun e w'' h => ⟨h.1, h.2 ▸ Nr.refl [] p.W⟩))
  have hb' : (b : Int) < 16 := by omega
  have ha' : (a : Int) < 16 := by omega
  have HH := Lib.hid (And.intro hx1 (And.intro hn1 (And.intro hc1 hm1)))
  have HI := Lib.hid (And.intro hwd (And.intro hR (And.intro hf hin)))
  have HO := Lib.hid (And.intro es hmv)
  clear kx C2 hR h hx1 hn1 hc1 hf hm hm1 ep ew es hwd hin hmv i1 i2
  unfold IV
  go_enter Try.func24, Try.ntmps24
  go_wp2_with fail
  refine (C1.out _).mono ?_; rintro e w1 ⟨rfl, rfl⟩
  clear C1
  go_upto_region 2 with fail
  refine wp_region_near (by kernel_rfl) (by kernel_rfl) ?_
  repeat (quiet_step (first | with_reducible exact Q.out _))
  refine wpQuiet_nil ?_
  intro _ hw'
  obtain ⟨p, hw''⟩ := hw'
  subst hw''
  obtain ⟨W2, hp⟩ := p
  have HC := Lib.hid (HH.out.2.2.1.nr hp (by simp))
  have HM := Lib.hid (HH.out.2.2.2.nr hp (by simp) (by simp))
  have HX := Lib.hid (HH.out.1.nr hp (by simp))
  have HN := Lib.hid (HH.out.2.1.next hp)
  dsimp only
  clear HH kb k2 k4 Q hp e1 x0
  cases okp
  · go_wp2_with fail
    go_ret
    rw [HO.out.2]
    exact ⟨rfl, HC.out, HM.out, HN.out⟩
  · obtain ⟨v, hv, hv2⟩ := HI.out.2.2.2 rfl
    subst hv
    rw [Int.toNat_natCast] at HO
    have ES := HO.out.1
    have hmv := HO.out.2
    simp only [Bool.true_eq_false, if_false] at hmv
    clear HO
    cases st
    · have h22 : ¬ 22 ≤ op := by simpa using ES
      simp only [h22, if_false] at hmv
      have C3 := Lib.hid (mload_any v wd W2 HM.out hv2 HI.out.2.2.1 HI.out.1)
      have q1 := to_load ⟨g, 0, none⟩
      cases hok : Cor.ok n hole v wd
      · rw [hok] at hmv C3
        simp only [if_true] at hmv
        have HO := Lib.hid hmv
        clear hmv hok hv2 ES h22
        go_wp2_with fail
        refine C3.out.mono ?_; rintro e w1 ⟨rfl, rfl⟩
        go_wp2_with fail
        go_ret
        rw [HO.out]
        exact ⟨rfl, HC.out, HM.out, HN.out⟩
      · rw [hok] at hmv C3
        simp only [Bool.true_eq_false, if_false] at hmv
        simp only [if_true] at C3
        obtain ⟨x, hx⟩ : ∃ x, Cor.ldf f v wd = x := ⟨_, rfl⟩
        rw [hx] at hmv C3
        have HO := Lib.hid hmv
        have k1 := HX.out.cells.2.1
        have kc := HC.out.cell ha
        have kf := HC.out.free a
        have HE := Lib.hid (And.intro (HC.out.put ha x) (And.intro (HM.out.nr (Nr.of_turn (Turn.set W2 c a (.int .u64 (x : Nat)))) (by simpa using fun e => hcg e.symm) (by simpa using fun e => hcy e.symm)) (HN.out.set (b := c) (.inl (by simp)) a (.int .u64 (x : Nat)))))
        have KD := Lib.hid (show W2.drew.cell? ⟨X, 1, none⟩ = some (.int .i64 (a : Nat)) from k1)
        have KS := Lib.hid (show (W2.drew.setCell ⟨c, a, none⟩ (.int .u64 (x : Nat))).cell? ⟨X, 1, none⟩ = some (.int .i64 (a : Nat)) from by
          rw [World.cell?_of_block (w := W2.drew) (heap_setCell_other _ _ _ _ hcX)]; exact k1)
        clear hmv hok hv2 ES h22 hx
        go_wp2_with fail
        refine C3.out.mono ?_; rintro e w1 ⟨rfl, rfl⟩
        go_upto_region 12 with fail
        go_region_held3 (fun w' => w'.cell? ⟨X, 1, none⟩ = some (.int .i64 (a : Nat))) (first | exact KD.out | exact KS.out) (fail)
        go_wp2_with fail
        go_ret
        rw [HO.out]
        exact ⟨rfl, HE.out.1.drew, HE.out.2.1.drew, HE.out.2.2.drew⟩
    · have h22 : 22 ≤ op := by simpa using ES
      simp only [h22, if_true] at hmv
      have L := Lib.hid (fun (W : World) => lowest_core (R a) wd W (HI.out.2.1 a) HI.out.1)
      have lx : Cor.low (R a) wd < 18446744073709551616 := Nat.lt_of_le_of_lt (Nat.mod_le _ _) (HI.out.2.1 a)
      obtain ⟨x, ex⟩ : ∃ x, Cor.low (R a) wd = x := ⟨_, rfl⟩
      rw [ex] at L lx hmv
      have M := Lib.hid (mstore_any v wd x W2.drew HM.out.drew hv2 lx HI.out.1)
      have q2 := to_store ⟨g, 0, none⟩
      have q3 := nil_ahead ⟨g, 0, none⟩
      obtain ⟨k, hok⟩ : ∃ k, Cor.ok n hole v wd = k := ⟨_, rfl⟩
      rw [hok] at hmv M
      have HO := Lib.hid hmv
      have KD := Lib.hid (show W2.drew.cell? ⟨X, 1, none⟩ = some (.int .i64 (a : Nat)) ∧ W2.drew.cell? ⟨c, a, none⟩ = some (.int .u64 (R a : Nat)) from ⟨HX.out.cells.2.1, HC.out.cell ha⟩)
      have KS := Lib.hid (fun (W3 : World) (h : Turn [y] W2.drew W3) => (show W3.cell? ⟨X, 1, none⟩ = some (.int .i64 (a : Nat)) ∧ W3.cell? ⟨c, a, none⟩ = some (.int .u64 (R a : Nat)) from
        ⟨(XS.nr (w := W2.drew) HX.out (Nr.of_turn h) (by simpa using hyX)).cells.2.1, (HC.out.drew.turn h (by simpa using hcy)).cell ha⟩))
      have HE := Lib.hid (fun (W3 : World) (h : Turn [y] W2.drew W3) => (show CS W3 c 35 R pc ∧ Nr [c, y] w W3 from
        ⟨HC.out.drew.turn h (by simpa using hcy), HN.out.drew.trans (Nr.of_turn h) (by simp)⟩))
      clear hmv hok hv2 ES h22 ex lx
      go_upto_region 6 with fail
      go_region_held3 (fun w' => w'.cell? ⟨X, 1, none⟩ = some (.int .i64 (a : Nat)) ∧ w'.cell? ⟨c, a, none⟩ = some (.int .u64 (R a : Nat)))
        (first | exact KD.out | exact KS.out _ hcall.out.2)
        (first
          | (go_at_call 33; refine (L.out _).mono ?_; rintro e wq ⟨rfl, rfl⟩)
          | (go_at_call 18; refine M.out.mono ?_; rintro e wq ⟨rfl, hq⟩; have hcall := Lib.hid hq; clear hq))
      all_goals
        cases k
        · go_wp2_with fail
          go_ret
          rw [HO.out]
          exact ⟨rfl, (HE.out _ hcall.out.2).1, hcall.out.1, (HE.out _ hcall.out.2).2⟩
        · go_wp2_with fail
          go_ret
          rw [HO.out]
          exact ⟨rfl, (HE.out _ hcall.out.2).1, hcall.out.1, (HE.out _ hcall.out.2).2⟩
end Go.Proofs.Ytojnokaeopadfaa
