/- Package isa's Encode and Decode, and bytes that become strings. Written out of isa's texts. -/
import Derived.Test.YtojnokaeopadfaaGa
set_option linter.unusedVariables false
set_option linter.unusedSimpArgs false
namespace Isa
def Right (o a b c : Int) : Prop := 1 ≤ o ∧ o ≤ 43 ∧ 0 ≤ a ∧ a < 16 ∧ 0 ≤ b ∧ b < 16 ∧ 0 ≤ c ∧ c < 16
instance (o a b c : Int) : Decidable (Right o a b c) := by unfold Right; infer_instance
/-- An instruction's bytes. -/
def enc (o a b c m : Int) : List Nat := [(o % 256).toNat, (a % 256).toNat, (b % 256).toNat, (c % 256).toNat, (m / 16777216 % 256).toNat, (m / 65536 % 256).toNat, (m / 256 % 256).toNat, (m % 256).toNat]
def num (bs : List Nat) : Nat := bs.foldl (fun q y => q * 256 + y) 0
theorem num_take {bs : List Nat} {k y : Nat} (h : bs[k]? = some y) : num (bs.take (k + 1)) = num (bs.take k) * 256 + y := by
  unfold num
  rw [List.take_add_one, h, List.foldl_append]
  rfl
def im (bs : List Nat) : Int := Go.RowKit.wrap32 (num bs)
end Isa
namespace Go.Proofs.Ytojnokaeopadfaa
open Go.RowKit
theorem isreg_any (n : Int) (w : World) : Calls Try.prog 31 #[.int .i64 n] w fun e w' => e = .returned (.bool (decide (0 ≤ n ∧ n < 16))) ∧ w = w' := by
  by_cases h0 : 0 ≤ n
  · by_cases h1 : n < 16
    · go_enter Try.func31, Try.ntmps31
      go_wp2_with fail
      go_ret
      exact ⟨by simp [h0, h1], rfl⟩
    · go_enter Try.func31, Try.ntmps31
      go_wp2_with fail
      go_ret
      exact ⟨by simp [h0, h1], rfl⟩
  · go_enter Try.func31, Try.ntmps31
    go_wp2_with fail
    go_ret
    exact ⟨by simp; omega, rfl⟩
theorem ret_bool {b : Bool} {p : Prop} [Decidable p] (h : b = true ↔ p) : Ending.returned (.bool b) = .returned (.bool (decide p)) := by
  congr 2
  cases b
  · simp only [Bool.false_eq_true, false_iff] at h; simp [h]
  · simp only [true_iff] at h; simp [h]
set_option maxHeartbeats 1000000 in
theorem right_any (o a b c m : Int) (w : World) : Calls Try.prog 22 #[.agg #[.int .i64 o, .int .i64 a, .int .i64 b, .int .i64 c, .int .i32 m]] w fun e w' => e = .returned (.bool (decide (Isa.Right o a b c))) ∧ Below w.heap.size w w' := by
  obtain ⟨ra, ea⟩ : ∃ r, decide (0 ≤ a ∧ a < 16) = r := ⟨_, rfl⟩
  obtain ⟨rb, eb⟩ : ∃ r, decide (0 ≤ b ∧ b < 16) = r := ⟨_, rfl⟩
  obtain ⟨rc, ec⟩ : ∃ r, decide (0 ≤ c ∧ c < 16) = r := ⟨_, rfl⟩
  have C1 := Lib.hid (fun (W : World) => isreg_any a W)
  have C2 := Lib.hid (fun (W : World) => isreg_any b W)
  have C3 := Lib.hid (fun (W : World) => isreg_any c W)
  rw [ea] at C1
  rw [eb] at C2
  rw [ec] at C3
  have EA := Lib.hid (show ra = true ↔ (0 ≤ a ∧ a < 16) by rw [← ea]; exact decide_eq_true_iff)
  have EB := Lib.hid (show rb = true ↔ (0 ≤ b ∧ b < 16) by rw [← eb]; exact decide_eq_true_iff)
  have EC := Lib.hid (show rc = true ↔ (0 ≤ c ∧ c < 16) by rw [← ec]; exact decide_eq_true_iff)
  clear ea eb ec
  have HB := Lib.hid (Below.alloc (Below.refl w.heap.size w) (Nat.le_refl _) (Obj.cells #[.int .i64 o, .int .i64 a, .int .i64 b, .int .i64 c, .int .i32 m] 27))
  by_cases h0 : 1 ≤ o
  · by_cases h1 : o < 44
    · cases ra
      · skip
        go_enter Try.func22, Try.ntmps22
        go_wp2_with fail
        refine (C1.out _).mono ?_
        rintro e w1 ⟨rfl, rfl⟩
        go_wp2_with fail
        go_ret
        exact ⟨ret_bool (by unfold Isa.Right; have a1 := EA.out; have b1 := EB.out; have c1 := EC.out; simp only [Bool.false_eq_true, true_iff, false_iff] at a1 b1 c1 ⊢; omega), HB.out⟩
      · cases rb
        · skip
          go_enter Try.func22, Try.ntmps22
          go_wp2_with fail
          refine (C1.out _).mono ?_
          rintro e w1 ⟨rfl, rfl⟩
          go_wp2_with fail
          refine (C2.out _).mono ?_
          rintro e w1 ⟨rfl, rfl⟩
          go_wp2_with fail
          go_ret
          exact ⟨ret_bool (by unfold Isa.Right; have a1 := EA.out; have b1 := EB.out; have c1 := EC.out; simp only [Bool.false_eq_true, true_iff, false_iff] at a1 b1 c1 ⊢; omega), HB.out⟩
        · cases rc
          · skip
            go_enter Try.func22, Try.ntmps22
            go_wp2_with fail
            refine (C1.out _).mono ?_
            rintro e w1 ⟨rfl, rfl⟩
            go_wp2_with fail
            refine (C2.out _).mono ?_
            rintro e w1 ⟨rfl, rfl⟩
            go_wp2_with fail
            refine (C3.out _).mono ?_
            rintro e w1 ⟨rfl, rfl⟩
            go_wp2_with fail
            go_ret
            exact ⟨ret_bool (by unfold Isa.Right; have a1 := EA.out; have b1 := EB.out; have c1 := EC.out; simp only [Bool.false_eq_true, true_iff, false_iff] at a1 b1 c1 ⊢; omega), HB.out⟩
          · skip
            go_enter Try.func22, Try.ntmps22
            go_wp2_with fail
            refine (C1.out _).mono ?_
            rintro e w1 ⟨rfl, rfl⟩
            go_wp2_with fail
            refine (C2.out _).mono ?_
            rintro e w1 ⟨rfl, rfl⟩
            go_wp2_with fail
            refine (C3.out _).mono ?_
            rintro e w1 ⟨rfl, rfl⟩
            go_wp2_with fail
            go_ret
            exact ⟨ret_bool (by unfold Isa.Right; have a1 := EA.out; have b1 := EB.out; have c1 := EC.out; simp only [Bool.false_eq_true, true_iff, false_iff] at a1 b1 c1 ⊢; omega), HB.out⟩
    · skip
      go_enter Try.func22, Try.ntmps22
      go_wp2_with fail
      go_ret
      exact ⟨ret_bool (by unfold Isa.Right; have a1 := EA.out; have b1 := EB.out; have c1 := EC.out; simp only [Bool.false_eq_true, true_iff, false_iff] at a1 b1 c1 ⊢; omega), HB.out⟩
  · skip
    go_enter Try.func22, Try.ntmps22
    go_wp2_with fail
    go_ret
    exact ⟨ret_bool (by unfold Isa.Right; have a1 := EA.out; have b1 := EB.out; have c1 := EC.out; simp only [Bool.false_eq_true, true_iff, false_iff] at a1 b1 c1 ⊢; omega), HB.out⟩
theorem byte_enc (o a b c m : Int) : ∀ y ∈ Isa.enc o a b c m, y < 256 := by
  intro y hy
  unfold Isa.enc at hy
  simp only [List.mem_cons, List.mem_nil_iff, or_false] at hy
  omega
set_option maxHeartbeats 1000000 in
theorem encode_any (o a b c m : Int) (w : World) :
    Calls Try.prog 8 #[.agg #[.int .i64 o, .int .i64 a, .int .i64 b, .int .i64 c, .int .i32 m]] w fun e w' => ∃ g, e = .returned (.slice (some ⟨g, 0, none⟩) 8 8) ∧ BR w' (some ⟨g, 0, none⟩) (Isa.enc o a b c m) ∧ Below w.heap.size w w' := by
  have HB := Lib.hid (fun o1 o2 => ((Below.refl w.heap.size w).alloc (Nat.le_refl _) o1).alloc (by simp) o2)
  have HR : ∀ W : World, Hid (BR (W.alloc (Obj.cells #[.int .u8 (o % 256), .int .u8 (a % 256), .int .u8 (b % 256), .int .u8 (c % 256), .int .u8 (m / 16777216 % 256), .int .u8 (m / 65536 % 256), .int .u8 (m / 256 % 256), .int .u8 (m % 256)] 5)) (some ⟨W.heap.size, 0, none⟩) (Isa.enc o a b c m)) := fun W i x hi => by
    refine ⟨W.heap.size, 0, rfl, by show W.heap.size < (W.heap.push _).size; simp, ?_⟩
    rw [World.cell?_alloc_at _ _ _ _ rfl, Nat.zero_add]
    have hb := byte_enc o a b c m x (List.mem_of_getElem? hi)
    unfold Isa.enc at hi
    match i, hi with
    | 0, hi => simp at hi; subst hi; simp; omega
    | 1, hi => simp at hi; subst hi; simp; omega
    | 2, hi => simp at hi; subst hi; simp; omega
    | 3, hi => simp at hi; subst hi; simp; omega
    | 4, hi => simp at hi; subst hi; simp; omega
    | 5, hi => simp at hi; subst hi; simp; omega
    | 6, hi => simp at hi; subst hi; simp; omega
    | 7, hi => simp at hi; subst hi; simp; omega
    | i + 8, hi => simp at hi
  have HR2 := Lib.hid (HR (w.alloc (Obj.cells #[.int .i64 o, .int .i64 a, .int .i64 b, .int .i64 c, .int .i32 m] 27)))
  clear HR
  go_enter Try.func8, Try.ntmps8
  go_wp2_with fail
  go_ret
  exact ⟨_, rfl, by have := HR2.out.out; rwa [World.size_alloc] at this, HB.out _ _⟩
theorem or32 (q y : Nat) (hy : y < 256) : bits .or .i32 (wrap32 (wrap32 q * 256)) (wrap32 y) = wrap32 ((q * 256 + y : Nat) : Int) := by
  have h1 : (BitVec.ofInt 32 (wrap32 (wrap32 q * 256))).toNat = (q % 16777216) * 256 := by rw [BitVec.toNat_ofInt]; unfold wrap32; omega
  have h2 : (BitVec.ofInt 32 (wrap32 y)).toNat = y := by rw [BitVec.toNat_ofInt]; unfold wrap32; omega
  show IntKind.i32.wrap ((BitVec.ofInt 32 (wrap32 (wrap32 q * 256)) ||| BitVec.ofInt 32 (wrap32 y)).toNat : Nat) = _
  rw [BitVec.toNat_or, h1, h2]
  have e : (q % 16777216) * 256 ||| y = (q % 16777216) * 256 + y := by
    have := Nat.shiftLeft_add_eq_or_of_lt (i := 8) (b := y) (by simpa using hy) (q % 16777216)
    rw [Nat.shiftLeft_eq] at this
    exact this.symm
  rw [e, IntKind.wrap_i32]
  unfold wrap32
  omega
theorem info23 : (Try.prog.info? 27).map (·.size) = some 5 := by kernel_rfl
theorem load23 (w : World) (g : Nat) (t : TypeId) (cs : Array Value) (fr : Nat × Nat) (hg : w.heap[g]? = some (.cells cs t fr)) (hs : cs.size = 5) :
    (loadVar 27 ⟨g, 0, none⟩).run Try.prog w = .ok (.agg cs) w := run_loadVar_row w g t 27 cs fr _ hg Try.underlying27 rfl (by rw [hs]; exact info23)
theorem results_cell2 {fn : Func} {p u : Tmp} (h : fn.results = #[.cell p 27, .tmp u]) (tmps : Array Value) (w : World) (g : Nat) (t : TypeId) (cs : Array Value) (fr : Nat × Nat)
    (hp : tmps.getD p undef = .pointer (some ⟨g, 0, none⟩)) (hg : w.heap[g]? = some (.cells cs t fr)) (hs : cs.size = 5) :
    (results fn tmps).run Try.prog w = .ok (.tuple #[.agg cs, tmps.getD u undef]) w := by
  have hp' : tmps[p]?.getD undef = .pointer (some ⟨g, 0, none⟩) := by simpa using hp
  simp [results, h, hp', asAddr, load23 w g t cs fr hg hs]
/-- Five cells are stored. -/
def set5 (w : World) (R : Nat) (b0 b1 b2 b3 b4 : Value) : World := ((((w.setCell ⟨R, 0, none⟩ b0).setCell ⟨R, 1, none⟩ b1).setCell ⟨R, 2, none⟩ b2).setCell ⟨R, 3, none⟩ b3).setCell ⟨R, 4, none⟩ b4
theorem set5_heap {w : World} {R : Nat} {a0 a1 a2 a3 a4 : Value} {t : TypeId} (h : w.heap[R]? = some (.cells #[a0, a1, a2, a3, a4] t)) (b0 b1 b2 b3 b4 : Value) :
    (set5 w R b0 b1 b2 b3 b4).heap[R]? = some (.cells #[b0, b1, b2, b3, b4] t) := by
  have h0 := heap_setCell_same _ _ 0 _ t b0 h
  have h1 := heap_setCell_same _ _ 1 _ t b1 h0
  have h2 := heap_setCell_same _ _ 2 _ t b2 h1
  have h3 := heap_setCell_same _ _ 3 _ t b3 h2
  have h4 := heap_setCell_same _ _ 4 _ t b4 h3
  exact h4
theorem set5_below {X w : World} {R : Nat} (h : Below X.heap.size X w) (hR : X.heap.size ≤ R) (b0 b1 b2 b3 b4 : Value) : Below X.heap.size X (set5 w R b0 b1 b2 b3 b4) :=
  ((((h.setCell hR b0).setCell hR b1).setCell hR b2).setCell hR b3).setCell hR b4
theorem im_nil : Isa.im [] = 0 := by
  show wrap32 ((0 : Nat) : Int) = 0
  unfold wrap32
  omega
def zeroV : Value := .agg #[.int .i64 0, .int .i64 0, .int .i64 0, .int .i64 0, .int .i32 0]
theorem decode_in (bl off c : Nat) (x0 x1 x2 x3 x4 x5 x6 x7 : Nat) (w : World) (hc : 8 ≤ c) (hr : BR w (some ⟨bl, off, none⟩) [x0, x1, x2, x3, x4, x5, x6, x7]) (hb : ∀ y ∈ [x0, x1, x2, x3, x4, x5, x6, x7], y < 256)
    (m : Int) (hm : Isa.im [x4, x5, x6, x7] = m) (r : Bool) (hr2 : decide (Isa.Right x0 x1 x2 x3) = r) (v : Value) (hv : v = if r then .agg #[.int .i64 x0, .int .i64 x1, .int .i64 x2, .int .i64 x3, .int .i32 m] else zeroV) :
    Calls Try.prog 13 #[.slice (some ⟨bl, off, none⟩) 8 c] w fun e w' => e = .returned (.tuple #[v, .bool r]) ∧ Below w.heap.size w w' := by
  have HM := Lib.hid hm
  have C := Lib.hid (fun (W : World) => right_any x0 x1 x2 x3 m W)
  rw [hr2] at C
  have HV := Lib.hid hv
  clear hm hr2 hv
  have at_ : ∀ (i x : Nat), [x0, x1, x2, x3, x4, x5, x6, x7][i]? = some x → ∀ W, Below w.heap.size w W → W.cell? ⟨bl, off + i, none⟩ = some (.int .u8 (x : Int)) := fun i x hi W hW => by
    obtain ⟨b', off', e, h2, h3⟩ := hr.below hW i x hi
    injection e with e
    injection e with e1 e2
    subst e1 e2
    exact h3
  have hbl : bl < w.heap.size := by
    obtain ⟨b', off', e, h2, h3⟩ := hr 0 x0 rfl
    injection e with e
    injection e with e1 e2
    subst e1
    exact h2
  have K0 := Lib.hid (at_ 0 x0 rfl)
  have K1 := Lib.hid (at_ 1 x1 rfl)
  have K2 := Lib.hid (at_ 2 x2 rfl)
  have K3 := Lib.hid (at_ 3 x3 rfl)
  have KK := Lib.hid at_
  have b0 : x0 < 256 := hb x0 (by simp)
  have b1 : x1 < 256 := hb x1 (by simp)
  have b2 : x2 < 256 := hb x2 (by simp)
  have b3 : x3 < 256 := hb x3 (by simp)
  have g0 : IntKind.i64.wrap (x0 : Int) = x0 := IntWalk.i64_in _ (by omega)
  have g1 : IntKind.i64.wrap (x1 : Int) = x1 := IntWalk.i64_in _ (by omega)
  have g2 : IntKind.i64.wrap (x2 : Int) = x2 := IntWalk.i64_in _ (by omega)
  have g3 : IntKind.i64.wrap (x3 : Int) = x3 := IntWalk.i64_in _ (by omega)
  have HBY := Lib.hid hb
  have HA := Lib.hid (fun o1 => ((Below.refl w.heap.size w).alloc (Nat.le_refl _) o1))
  clear hb at_ hr b0 b1 b2 b3
  go_enter Try.func13, Try.ntmps13
  go_wp2_with fail
  have KS := Lib.hid (fun (W : World) (h : Below w.heap.size w W) => (show W.cell? ⟨bl, off, none⟩ = some (.int .u8 (x0 : Int)) ∧ W.cell? ⟨bl, off + 1, none⟩ = some (.int .u8 (x1 : Int)) ∧ W.cell? ⟨bl, off + 2, none⟩ = some (.int .u8 (x2 : Int)) ∧ W.cell? ⟨bl, off + 3, none⟩ = some (.int .u8 (x3 : Int)) from
    ⟨K0.out W h, K1.out W h, K2.out W h, K3.out W h⟩))
  go_region_held3 (fun w' => w'.cell? ⟨bl, off, none⟩ = some (.int .u8 (x0 : Int)) ∧ w'.cell? ⟨bl, off + 1, none⟩ = some (.int .u8 (x1 : Int)) ∧ w'.cell? ⟨bl, off + 2, none⟩ = some (.int .u8 (x2 : Int)) ∧ w'.cell? ⟨bl, off + 3, none⟩ = some (.int .u8 (x3 : Int))) (first | exact KS.out _ (HA.out _).drew | exact KS.out _ ((HA.out _).alloc (by simp) _).drew) (fail)
  have HR0 := Lib.hid (heap_alloc_new w (Obj.cells #[.int .i64 0, .int .i64 0, .int .i64 0, .int .i64 0, .int .i32 0] 27))
  obtain ⟨w2, ew⟩ : ∃ w2, ((w.alloc (Obj.cells #[.int .i64 0, .int .i64 0, .int .i64 0, .int .i64 0, .int .i32 0] 27)).alloc (Obj.cells #[.int .i64 x0, .int .i64 x1, .int .i64 x2, .int .i64 x3, .int .i32 0] 27)).drew = w2 := ⟨_, rfl⟩
  have H0 : w2.heap[w.heap.size]? = some (Obj.cells #[.int .i64 0, .int .i64 0, .int .i64 0, .int .i64 0, .int .i32 0] 27) := by
    rw [← ew]
    show ((w.alloc _).alloc _).heap[w.heap.size]? = _
    rw [heap_alloc_old _ _ (by simp)]
    exact HR0.out
  have H1 : w2.heap[w.heap.size + 1]? = some (Obj.cells #[.int .i64 x0, .int .i64 x1, .int .i64 x2, .int .i64 x3, .int .i32 0] 27) := by
    rw [← ew]
    exact heap_alloc2_new w _ _
  have H2 : Below w.heap.size w w2 := by
    rw [← ew]
    exact ((HA.out _).alloc (by simp) _).drew
  have HH := Lib.hid (And.intro H0 (And.intro H1 H2))
  rw [ew]
  rename_i hheld
  clear hheld HR0 H0 H1 H2 ew
  go_wp2_with fail
  go_loopw [6, 31] (fun v i wr => ∃ k : Nat, k ≤ 4 ∧ i = .int .i64 k ∧ Hid (wr.heap[w.heap.size]? = some (Obj.cells #[.int .i64 0, .int .i64 0, .int .i64 0, .int .i64 0, .int .i32 0] 27) ∧ wr.heap[w.heap.size + 1]? = some (Obj.cells #[.int .i64 x0, .int .i64 x1, .int .i64 x2, .int .i64 x3, .int .i32 (Isa.im ([x4, x5, x6, x7].take k))] 27) ∧ Below w.heap.size w wr)) (fun _ i _ => 4 - (intOf i).toNat)
  case atStart => exact ⟨0, Nat.zero_le _, rfl, by rw [show Isa.im ([x4, x5, x6, x7].take 0) = 0 from im_nil]; exact HH⟩
  case round =>
    obtain ⟨k, hk, rfl, hI⟩ := hrel
    by_cases hlt : k < 4
    · obtain ⟨y, hy⟩ : ∃ y, [x4, x5, x6, x7][k]? = some y := ⟨_, List.getElem?_eq_getElem (by simpa using hlt)⟩
      have hc1 := KK.out (k + 4) y (by simpa using hy) _ hI.out.2.2
      rw [show off + (k + 4) = off + 4 + k by omega] at hc1
      have q4 := cell_of_row _ _ 4 _ 27 (0, 0) hI.out.2.1
      have f4 := frozen_of_row _ _ 4 _ 27 hI.out.2.1
      simp only [List.getElem?_toArray, List.getElem?_cons_zero, List.getElem?_cons_succ] at q4
      have hk4 : (k : Int) < 4 := by omega
      go_wp2_with fail
      case roundEnd =>
        have hy2 : y < 256 := HBY.out y (by have := List.mem_of_getElem? hy; simp only [List.mem_cons, List.mem_nil_iff, or_false] at this ⊢; omega)
        have e := or32 (Isa.num ([x4, x5, x6, x7].take k)) y hy2
        rw [← Isa.num_take hy] at e
        refine ⟨⟨k + 1, by omega, by go_num, Lib.hid ⟨?_, ?_, ?_⟩⟩, by simp [intOf]; omega⟩
        · rw [heap_setCell_other _ _ _ _ (by simp)]
          exact hI.out.1
        · have := heap_setCell_same _ _ 4 _ 27 (.int .i32 (Isa.im ([x4, x5, x6, x7].take (k + 1)))) hI.out.2.1
          unfold Isa.im at this ⊢
          rw [e]
          simpa using this
        · exact hI.out.2.2.setCell (by simp) _
    · obtain rfl : k = 4 := by omega
      rw [show [x4, x5, x6, x7].take 4 = [x4, x5, x6, x7] from rfl] at hI
      rw [HM.out] at hI
      have q0 := cell_of_row _ _ 0 _ 27 (0, 0) hI.out.2.1
      have q1 := cell_of_row _ _ 1 _ 27 (0, 0) hI.out.2.1
      have q2 := cell_of_row _ _ 2 _ 27 (0, 0) hI.out.2.1
      have q3 := cell_of_row _ _ 3 _ 27 (0, 0) hI.out.2.1
      have q4 := cell_of_row _ _ 4 _ 27 (0, 0) hI.out.2.1
      simp only [List.getElem?_toArray, List.getElem?_cons_zero, List.getElem?_cons_succ] at q0 q1 q2 q3 q4
      clear K0 K1 K2 K3 KK KS HBY HH hk g0 g1 g2 g3 HM
      cases r
      · go_wp2_with fail
        refine (C.out _).mono ?_
        rintro e w3 ⟨rfl, hb⟩
        have B3 := Lib.hid (hI.out.2.2.trans (hb.mono hI.out.2.2.size))
        have HZ := (hb.block _ (Array.getElem?_eq_some_iff.1 hI.out.1).1).trans hI.out.1
        have f0 := frozen_of_row _ _ 0 _ 27 HZ
        have f1 := frozen_of_row _ _ 1 _ 27 HZ
        have f2 := frozen_of_row _ _ 2 _ 27 HZ
        have f3 := frozen_of_row _ _ 3 _ 27 HZ
        have f4 := frozen_of_row _ _ 4 _ 27 HZ
        have z0 := cell_of_row _ _ 0 _ 27 (0, 0) HZ
        have z1 := cell_of_row _ _ 1 _ 27 (0, 0) HZ
        have z2 := cell_of_row _ _ 2 _ 27 (0, 0) HZ
        have z3 := cell_of_row _ _ 3 _ 27 (0, 0) HZ
        have z4 := cell_of_row _ _ 4 _ 27 (0, 0) HZ
        simp only [List.getElem?_toArray, List.getElem?_cons_zero, List.getElem?_cons_succ] at z0 z1 z2 z3 z4
        have HZ := Lib.hid HZ
        clear hb q0 q1 q2 q3 q4
        go_wp2_with fail
        refine bodyPost_ret (results_cell2 (by rfl) _ _ w.heap.size 27 _ (0, 0) (by rfl) (set5_heap HZ.out (.int .i64 0) (.int .i64 0) (.int .i64 0) (.int .i64 0) (.int .i32 0)) rfl) rfl ⟨?_, set5_below B3.out (Nat.le_refl _) _ _ _ _ _⟩
        rw [HV.out]
        rfl
      · go_wp2_with fail
        refine (C.out _).mono ?_
        rintro e w3 ⟨rfl, hb⟩
        have B3 := Lib.hid (hI.out.2.2.trans (hb.mono hI.out.2.2.size))
        have HZ := (hb.block _ (Array.getElem?_eq_some_iff.1 hI.out.1).1).trans hI.out.1
        have f0 := frozen_of_row _ _ 0 _ 27 HZ
        have f1 := frozen_of_row _ _ 1 _ 27 HZ
        have f2 := frozen_of_row _ _ 2 _ 27 HZ
        have f3 := frozen_of_row _ _ 3 _ 27 HZ
        have f4 := frozen_of_row _ _ 4 _ 27 HZ
        have z0 := cell_of_row _ _ 0 _ 27 (0, 0) HZ
        have z1 := cell_of_row _ _ 1 _ 27 (0, 0) HZ
        have z2 := cell_of_row _ _ 2 _ 27 (0, 0) HZ
        have z3 := cell_of_row _ _ 3 _ 27 (0, 0) HZ
        have z4 := cell_of_row _ _ 4 _ 27 (0, 0) HZ
        simp only [List.getElem?_toArray, List.getElem?_cons_zero, List.getElem?_cons_succ] at z0 z1 z2 z3 z4
        have HZ := Lib.hid HZ
        have HX := (hb.block _ (Array.getElem?_eq_some_iff.1 hI.out.2.1).1).trans hI.out.2.1
        have p0 := cell_of_row _ _ 0 _ 27 (0, 0) HX
        have p1 := cell_of_row _ _ 1 _ 27 (0, 0) HX
        have p2 := cell_of_row _ _ 2 _ 27 (0, 0) HX
        have p3 := cell_of_row _ _ 3 _ 27 (0, 0) HX
        have p4 := cell_of_row _ _ 4 _ 27 (0, 0) HX
        simp only [List.getElem?_toArray, List.getElem?_cons_zero, List.getElem?_cons_succ] at p0 p1 p2 p3 p4
        clear hb q0 q1 q2 q3 q4 HX
        go_wp2_with fail
        refine bodyPost_ret (results_cell2 (by rfl) _ _ w.heap.size 27 _ (0, 0) (by rfl) (set5_heap HZ.out (.int .i64 x0) (.int .i64 x1) (.int .i64 x2) (.int .i64 x3) (.int .i32 m)) rfl) rfl ⟨?_, set5_below B3.out (Nat.le_refl _) _ _ _ _ _⟩
        rw [HV.out]
        rfl
end Go.Proofs.Ytojnokaeopadfaa
