/- The reference's Decode. -/
import Derived.Test.YtojnokaeopadfaaHf
import Derived.BigRegion
set_option linter.unusedVariables false
set_option linter.unusedSimpArgs false
namespace Go.Proofs.Ytojnokaeopadfaa
open Go.RowKit

theorem results_tmps4 {fn : Func} {t u v z : Tmp} (h : fn.results = #[.tmp t, .tmp u, .tmp v, .tmp z]) (tmps : Array Value) (w : World) :
    (results fn tmps).run Try.prog w = .ok (.tuple #[tmps.getD t undef, tmps.getD u undef, tmps.getD v undef, tmps.getD z undef]) w := by simp [results, h]
theorem and255 (q : Nat) (hq : q < 18446744073709551616) : bits .and .u64 (q : Int) 255 = ((q % 256 : Nat) : Int) := by
  have := Alu.and_u64 q 255 hq (by omega)
  rw [show (255 : Nat) = 2 ^ 8 - 1 from rfl, Nat.and_two_pow_sub_one_eq_mod] at this
  exact this
set_option maxRecDepth 100000 in
theorem rdec_any (x : Nat) (w : World) (hx : x < 18446744073709551616) (o a b d : Nat) (m : Int) (ho : x / 72057594037927936 = o) (ha : x / 281474976710656 % 256 = a) (hb : x / 1099511627776 % 256 = b) (hd : x / 4294967296 % 256 = d) (hm : wrap32 (x : Nat) = m) (r : Bool) (hr : decide (Isa.Right o a b d) = r) :
    Calls Try.prog 16 #[.int .u64 (x : Nat)] w fun e w' => e = .returned (.tuple #[.agg #[.int .i64 (o : Nat), .int .i64 (a : Nat), .int .i64 (b : Nat), .int .i64 (d : Nat), .int .i32 m], .bool r]) ∧ Below w.heap.size w w' := by
  have s0 : (x : Int) / 72057594037927936 = (o : Nat) := by omega
  obtain ⟨q1, e1⟩ : ∃ q1 : Nat, x / 281474976710656 = q1 := ⟨_, rfl⟩
  obtain ⟨q2, e2⟩ : ∃ q2 : Nat, x / 1099511627776 = q2 := ⟨_, rfl⟩
  obtain ⟨q3, e3⟩ : ∃ q3 : Nat, x / 4294967296 = q3 := ⟨_, rfl⟩
  have s1 : (x : Int) / 281474976710656 = (q1 : Nat) := by omega
  have s2 : (x : Int) / 1099511627776 = (q2 : Nat) := by omega
  have s3 : (x : Int) / 4294967296 = (q3 : Nat) := by omega
  have t1 : bits .and .u64 (q1 : Int) 255 = (a : Nat) := by rw [and255 q1 (by omega), ← e1, ha]
  have t2 : bits .and .u64 (q2 : Int) 255 = (b : Nat) := by rw [and255 q2 (by omega), ← e2, hb]
  have t3 : bits .and .u64 (q3 : Int) 255 = (d : Nat) := by rw [and255 q3 (by omega), ← e3, hd]
  have c0 : IntKind.i64.wrap (o : Int) = o := IntWalk.i64_in _ (by omega)
  have c1 : IntKind.i64.wrap (a : Int) = a := IntWalk.i64_in _ (by omega)
  have c2 : IntKind.i64.wrap (b : Int) = b := IntWalk.i64_in _ (by omega)
  have c3 : IntKind.i64.wrap (d : Int) = d := IntWalk.i64_in _ (by omega)
  have hm2 : wrap32 ((x : Int) % 4294967296) = m := by rw [← hm]; unfold wrap32; omega
  have HR := Lib.hid hr
  have HM := Lib.hid hm
  clear hr hm e1 e2 e3 ho ha hb hd
  have HX := Lib.hid hx
  clear hx
  go_enter Try.func16, Try.ntmps16
  go_upto_region 2 with fail
  clear s0 s1 s2 s3 t1 t2 t3 c0 c1 c2 c3 hm2
  by_cases h1 : 1 ≤ (o : Int)
  · by_cases h2 : (o : Int) ≤ 43
    · by_cases h3 : (a : Int) < 16
      · by_cases h4 : (b : Int) < 16
        · by_cases h5 : (d : Int) < 16
          · go_region
            all_goals
              have hz : r = true := by rw [← HR.out]; exact decide_eq_true (by unfold Isa.Right; omega)
              subst hz
              have HZ := Lib.hid (show (((w.alloc (Obj.cells #[.int .i64 (o : Nat), .int .i64 (a : Nat), .int .i64 (b : Nat), .int .i64 (d : Nat), .int .i32 m] 27)).alloc (Obj.cells #[.int .i64 (o : Nat), .int .i64 (a : Nat), .int .i64 (b : Nat), .int .i64 (d : Nat), .int .i32 m] 27)).drew).heap[w.heap.size]? = some (Obj.cells #[.int .i64 (o : Nat), .int .i64 (a : Nat), .int .i64 (b : Nat), .int .i64 (d : Nat), .int .i32 m] 27) by
                show ((w.alloc _).alloc _).heap[w.heap.size]? = _
                rw [heap_alloc_old _ _ (by simp)]
                exact heap_alloc_new w _)
              go_wp2_with fail
              refine bodyPost_ret (results_cell2 (by rfl) _ _ w.heap.size 27 _ (0, 0) (by rfl) HZ.out rfl) rfl ⟨rfl, (((Below.refl w.heap.size w).alloc (Nat.le_refl _) _).alloc (by simp) _).drew⟩
          · go_region
            all_goals
              have hz : r = false := by rw [← HR.out]; exact decide_eq_false (by unfold Isa.Right; omega)
              subst hz
              have HZ := Lib.hid (show (((w.alloc (Obj.cells #[.int .i64 (o : Nat), .int .i64 (a : Nat), .int .i64 (b : Nat), .int .i64 (d : Nat), .int .i32 m] 27)).alloc (Obj.cells #[.int .i64 (o : Nat), .int .i64 (a : Nat), .int .i64 (b : Nat), .int .i64 (d : Nat), .int .i32 m] 27)).drew).heap[w.heap.size]? = some (Obj.cells #[.int .i64 (o : Nat), .int .i64 (a : Nat), .int .i64 (b : Nat), .int .i64 (d : Nat), .int .i32 m] 27) by
                show ((w.alloc _).alloc _).heap[w.heap.size]? = _
                rw [heap_alloc_old _ _ (by simp)]
                exact heap_alloc_new w _)
              go_wp2_with fail
              refine bodyPost_ret (results_cell2 (by rfl) _ _ w.heap.size 27 _ (0, 0) (by rfl) HZ.out rfl) rfl ⟨rfl, (((Below.refl w.heap.size w).alloc (Nat.le_refl _) _).alloc (by simp) _).drew⟩
        · go_region
          all_goals
            have hz : r = false := by rw [← HR.out]; exact decide_eq_false (by unfold Isa.Right; omega)
            subst hz
            have HZ := Lib.hid (show (((w.alloc (Obj.cells #[.int .i64 (o : Nat), .int .i64 (a : Nat), .int .i64 (b : Nat), .int .i64 (d : Nat), .int .i32 m] 27)).alloc (Obj.cells #[.int .i64 (o : Nat), .int .i64 (a : Nat), .int .i64 (b : Nat), .int .i64 (d : Nat), .int .i32 m] 27)).drew).heap[w.heap.size]? = some (Obj.cells #[.int .i64 (o : Nat), .int .i64 (a : Nat), .int .i64 (b : Nat), .int .i64 (d : Nat), .int .i32 m] 27) by
              show ((w.alloc _).alloc _).heap[w.heap.size]? = _
              rw [heap_alloc_old _ _ (by simp)]
              exact heap_alloc_new w _)
            go_wp2_with fail
            refine bodyPost_ret (results_cell2 (by rfl) _ _ w.heap.size 27 _ (0, 0) (by rfl) HZ.out rfl) rfl ⟨rfl, (((Below.refl w.heap.size w).alloc (Nat.le_refl _) _).alloc (by simp) _).drew⟩
      · go_region
        all_goals
          have hz : r = false := by rw [← HR.out]; exact decide_eq_false (by unfold Isa.Right; omega)
          subst hz
          have HZ := Lib.hid (show (((w.alloc (Obj.cells #[.int .i64 (o : Nat), .int .i64 (a : Nat), .int .i64 (b : Nat), .int .i64 (d : Nat), .int .i32 m] 27)).alloc (Obj.cells #[.int .i64 (o : Nat), .int .i64 (a : Nat), .int .i64 (b : Nat), .int .i64 (d : Nat), .int .i32 m] 27)).drew).heap[w.heap.size]? = some (Obj.cells #[.int .i64 (o : Nat), .int .i64 (a : Nat), .int .i64 (b : Nat), .int .i64 (d : Nat), .int .i32 m] 27) by
            show ((w.alloc _).alloc _).heap[w.heap.size]? = _
            rw [heap_alloc_old _ _ (by simp)]
            exact heap_alloc_new w _)
          go_wp2_with fail
          refine bodyPost_ret (results_cell2 (by rfl) _ _ w.heap.size 27 _ (0, 0) (by rfl) HZ.out rfl) rfl ⟨rfl, (((Below.refl w.heap.size w).alloc (Nat.le_refl _) _).alloc (by simp) _).drew⟩
    · go_region
      all_goals
        have hz : r = false := by rw [← HR.out]; exact decide_eq_false (by unfold Isa.Right; omega)
        subst hz
        have HZ := Lib.hid (show (((w.alloc (Obj.cells #[.int .i64 (o : Nat), .int .i64 (a : Nat), .int .i64 (b : Nat), .int .i64 (d : Nat), .int .i32 m] 27)).alloc (Obj.cells #[.int .i64 (o : Nat), .int .i64 (a : Nat), .int .i64 (b : Nat), .int .i64 (d : Nat), .int .i32 m] 27)).drew).heap[w.heap.size]? = some (Obj.cells #[.int .i64 (o : Nat), .int .i64 (a : Nat), .int .i64 (b : Nat), .int .i64 (d : Nat), .int .i32 m] 27) by
          show ((w.alloc _).alloc _).heap[w.heap.size]? = _
          rw [heap_alloc_old _ _ (by simp)]
          exact heap_alloc_new w _)
        go_wp2_with fail
        refine bodyPost_ret (results_cell2 (by rfl) _ _ w.heap.size 27 _ (0, 0) (by rfl) HZ.out rfl) rfl ⟨rfl, (((Below.refl w.heap.size w).alloc (Nat.le_refl _) _).alloc (by simp) _).drew⟩
  · go_region
    all_goals
      have hz : r = false := by rw [← HR.out]; exact decide_eq_false (by unfold Isa.Right; omega)
      subst hz
      have HZ := Lib.hid (show (((w.alloc (Obj.cells #[.int .i64 (o : Nat), .int .i64 (a : Nat), .int .i64 (b : Nat), .int .i64 (d : Nat), .int .i32 m] 27)).alloc (Obj.cells #[.int .i64 (o : Nat), .int .i64 (a : Nat), .int .i64 (b : Nat), .int .i64 (d : Nat), .int .i32 m] 27)).drew).heap[w.heap.size]? = some (Obj.cells #[.int .i64 (o : Nat), .int .i64 (a : Nat), .int .i64 (b : Nat), .int .i64 (d : Nat), .int .i32 m] 27) by
        show ((w.alloc _).alloc _).heap[w.heap.size]? = _
        rw [heap_alloc_old _ _ (by simp)]
        exact heap_alloc_new w _)
      go_wp2_with fail
      refine bodyPost_ret (results_cell2 (by rfl) _ _ w.heap.size 27 _ (0, 0) (by rfl) HZ.out rfl) rfl ⟨rfl, (((Below.refl w.heap.size w).alloc (Nat.le_refl _) _).alloc (by simp) _).drew⟩
set_option maxRecDepth 100000 in
/-- What is loaded or stored, and where. -/
theorem need_none {c : Nat} (T : TypeId) (op : Int) (a b d : Nat) (m : Int) (w : World) (hm : Cor.isMove op = false) :
    Calls Try.prog 17 #[.pointer (some ⟨c, 0, none⟩), .agg #[.int .i64 op, .int .i64 (a : Nat), .int .i64 (b : Nat), .int .i64 (d : Nat), .int .i32 m]] w fun e w' => e = .returned (.tuple #[.int .i64 0, .int .i64 0, .bool false, .bool true]) ∧ Nr [] w w' := by
  have C := Lib.hid (fun (W : World) => rwidth_any op W)
  have e : Alu.width op = (0, false) := by
    have h1 : ¬ (19 ≤ op ∧ op ≤ 24) := by unfold Cor.isMove at hm; simpa using hm
    unfold Alu.width
    rw [if_neg (by omega), if_neg (by omega), if_neg (by omega), if_neg (by omega), if_neg (by omega), if_neg (by omega)]
  rw [e] at C
  unfold TwoI at C
  have HN := Lib.hid (fun o : Obj => (Nr.refl [] w).alloc o)
  clear e
  go_enter Try.func17, Try.ntmps17
  go_wp2_with fail
  refine (C.out _).mono ?_; rintro e w1 ⟨rfl, rfl⟩
  go_wp2_with fail
  refine bodyPost_ret (results_tmps4 rfl _ _) rfl ⟨rfl, HN.out _⟩
set_option maxRecDepth 100000 in
theorem need_move {c : Nat} {R : Nat → Nat} {pc : Nat} (op : Int) (a b d : Nat) (m : Int) (w : World) (h : CS w c 36 R pc) (hR : ∀ i, R i < 18446744073709551616) (hb : b < 16) (l : 19 ≤ op) (u : op ≤ 24) (i1 : -2147483648 ≤ m) (i2 : m ≤ 2147483647) :
    Calls Try.prog 17 #[.pointer (some ⟨c, 0, none⟩), .agg #[.int .i64 op, .int .i64 (a : Nat), .int .i64 (b : Nat), .int .i64 (d : Nat), .int .i32 m]] w fun e w' => e = .returned (.tuple #[.int .i64 (Alu.place (R b) m (Cor.wid op : Nat)).1, .int .i64 (Cor.wid op : Nat), .bool (decide (22 ≤ op)), .bool (Alu.place (R b) m (Cor.wid op : Nat)).2]) ∧ Nr [] w w' := by
  have C := Lib.hid (fun (W : World) => rwidth_any op W)
  rw [Cor.width_is l u] at C
  unfold TwoI at C
  have hwd := Cor.wid_in op
  obtain ⟨wd, ew⟩ : ∃ wd, Cor.wid op = wd := ⟨_, rfl⟩
  rw [ew] at C hwd ⊢
  obtain ⟨st, es⟩ : ∃ st, decide (22 ≤ op) = st := ⟨_, rfl⟩
  rw [es] at C ⊢
  obtain ⟨at_, okp, ep⟩ : ∃ at_ okp, Alu.place (R b) m wd = (at_, okp) := ⟨_, _, rfl⟩
  have C2 := Lib.hid (fun (W : World) => rplace_any (R b) m wd W (hR b) i1 i2)
  rw [ep] at C2 ⊢
  unfold TwoI at C2
  dsimp only at C C2 ⊢
  obtain ⟨W1, e1⟩ : ∃ W1, w.alloc (Obj.cells #[.int .i64 op, .int .i64 (a : Nat), .int .i64 (b : Nat), .int .i64 (d : Nat), .int .i32 m] 27) = W1 := ⟨_, rfl⟩
  obtain ⟨X, eX⟩ : ∃ X, w.heap.size = X := ⟨_, rfl⟩
  have hx1 : XS W1 X op a b d m := by rw [← e1, ← eX]; exact heap_alloc_new w _
  have hn1 : Nr [] w W1 := by rw [← e1]; exact (Nr.refl _ _).alloc _
  have hc1 : CS W1 c 36 R pc := h.below (by rw [← e1]; exact below_alloc1 w _)
  have x0 := hx1.cells.1
  have kx : ∀ p : Nearby W1, p.W.cell? ⟨X, 2, none⟩ = some (.int .i64 (b : Nat)) ∧ p.W.cell? ⟨X, 4, none⟩ = some (.int .i32 m) := fun p => by
    obtain ⟨x0, x1, x2, x3, x4⟩ := (hx1.nr p.near (by simp)).cells
    exact ⟨x2, x4⟩
  have k2 := fun p => (kx p).1
  have k4 := fun p => (kx p).2
  have kb : ∀ p : Nearby W1, p.W.cell? ⟨c, b, none⟩ = some (.int .u64 (R b : Nat)) := fun p => (hc1.nr p.near (by simp)).cell hb
  have Q := Lib.hid (fun p : Nearby W1 => Calls.near_of ((C2.out p.W).mono fun e w'' h => ⟨h.1, h.2 ▸ Nr.refl [] p.W⟩))
  have hb' : (b : Int) < 16 := by omega
  have hw0 : ((wd : Int) == 0) = false := by rcases hwd with rfl | rfl | rfl <;> rfl
  have HN := Lib.hid hn1
  clear kx C2 hR h hx1 hc1 ep ew es hwd i1 i2 hn1
  go_enter Try.func17, Try.ntmps17
  go_wp2_with fail
  refine (C.out _).mono ?_; rintro e w1 ⟨rfl, rfl⟩
  clear C
  go_upto_region 4 with fail
  refine wp_region_near (by kernel_rfl) (by kernel_rfl) ?_
  repeat (quiet_step (first | with_reducible exact Q.out _))
  refine wpQuiet_nil ?_
  intro _ hw'
  obtain ⟨p, hw''⟩ := hw'
  subst hw''
  obtain ⟨W2, hp⟩ := p
  have HN2 := Lib.hid (HN.out.next hp)
  dsimp only
  clear kb k2 k4 Q hp e1 x0
  go_wp2_with fail
  refine bodyPost_ret (results_tmps4 rfl _ _) rfl ⟨rfl, HN2.out⟩
theorem low_core (x wd : Nat) (w : World) (hx : x < 18446744073709551616) (hw : wd = 1 ∨ wd = 4 ∨ wd = 8) : Calls Try.prog 19 #[.int .u64 (x : Nat), .int .i64 (wd : Nat)] w fun e w' => e = .returned (.int .u64 (Cor.low x wd : Nat)) ∧ w = w' := by
  rcases hw with rfl | rfl | rfl
  · have e : Cor.low x 1 = x % 256 := rfl
    rw [e, show ((1 : Nat) : Int) = 1 from rfl]
    have t1 : (x : Int).tmod 256 = ((x % 256 : Nat) : Int) := by rw [Int.tmod_eq_emod_of_nonneg (by omega)]; omega
    clear hx e
    go_enter Try.func19, Try.ntmps19
    go_wp2_with fail
    go_ret
    exact ⟨rfl, rfl⟩
  · have e : Cor.low x 4 = x % 4294967296 := rfl
    rw [e, show ((4 : Nat) : Int) = 4 from rfl]
    have t1 : (x : Int).tmod 4294967296 = ((x % 4294967296 : Nat) : Int) := by rw [Int.tmod_eq_emod_of_nonneg (by omega)]; omega
    clear hx e
    go_enter Try.func19, Try.ntmps19
    go_wp2_with fail
    go_ret
    exact ⟨rfl, rfl⟩
  · have e : Cor.low x 8 = x := Nat.mod_eq_of_lt (by simpa using hx)
    rw [e, show ((8 : Nat) : Int) = 8 from rfl]
    clear hx e
    go_enter Try.func19, Try.ntmps19
    go_wp2_with fail
    go_ret
    exact ⟨rfl, rfl⟩
end Go.Proofs.Ytojnokaeopadfaa
