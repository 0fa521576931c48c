/- PagesApart. -/
import Derived.Test.YtliljicmkgbfpaaSc
import Derived.Test.YtliljicmkgbfpaaHe
import Derived.Test.YtliljicmkgbfpaaTa
import Derived.Test.YtliljicmkgbfpaaJt
set_option linter.unusedVariables false
set_option linter.unusedSimpArgs false
namespace Go.Proofs.Ytliljicmkgbfpaa
open Go.RowKit Go.Shelf Go.Maps Pg
set_option linter.unusedVariables false
set_option linter.unusedSimpArgs false
variable {W : World} {T : List Nat} {R : Nat} {os : List Nat} {ds : List (List Nat)} {o : Nat} {ks : List (Nat × Nat)} {nd : Nat → Nat → Nat} {mp : Nat → Option (Nat × Bool)} {w w' : World}
theorem and1 (n : Int) : (bits .and .i64 n 1 = 0) ∨ (bits .and .i64 n 1 = 1) := by
  have h1 : (BitVec.ofInt 64 1).toNat = 2 ^ 1 - 1 := by decide
  have key : (BitVec.ofInt 64 n &&& BitVec.ofInt 64 1).toNat = (n % ((2 ^ 64 : Nat) : Int)).toNat % 2 ^ 1 := by
    rw [BitVec.toNat_and, BitVec.toNat_ofInt, h1, Nat.and_two_pow_sub_one_eq_mod]
  show IntKind.i64.wrap ((BitVec.ofInt 64 n &&& BitVec.ofInt 64 1).toNat : Nat) = 0 ∨ IntKind.i64.wrap ((BitVec.ofInt 64 n &&& BitVec.ofInt 64 1).toNat : Nat) = 1
  rw [key, IntKind.wrap_i64]
  omega
/-- Two roots in a memory, and two maps of where their pages lead. -/
def AI (W : World) (T : List Nat) (R M GA GB j : Nat) (wr : World) : Prop := ∃ os ds ksA ndA mpA ksB ndB mpB, St W T R os ds wr ∧ Tb os ds 1 ksA ndA mpA ∧ ndA 0 0 = 1 ∧ Tb os ds 2 ksB ndB mpB ∧ ndB 0 0 = 2 ∧ IntM wr GA j mpA ∧ IntM wr GB j mpB ∧ wr.heap[M]? = some (Obj.cells #[.map (some GA), .map (some GB)] 51) ∧ 398 ≤ os.count 0 + 3 * j ∧ (ksA.length = 1 ∨ ∃ p, (mpA p).isSome = true)
set_option maxRecDepth 100000 in
set_option maxHeartbeats 4000000 in
theorem apart_all (A : Option Addr) (l c : Nat) (xs : List Int) (w : World) (hn : xs.length = l) (hm : l ≤ 40) (hr : Nums w A xs) :
    Calls Try.prog 6 #[.slice A l c] w fun e w' => e = .returned (.bool true) ∧ Below w.heap.size w w' := by
  have B := Lib.hid fit_any
  have h40 : ¬ (40 : Int) < l := by omega
  have h40' : ¬ 40 < l := by omega
  have XR := Lib.hid hr
  have HN := Lib.hid (And.intro hn hm)
  clear hr hn hm
  have hmm := @run_makeMap Try.prog
  go_enter Try.func6, Try.ntmps6
  go_wp2_with fail
  refine (B.out _).mono ?_; rintro e w1 ⟨rfl, g1⟩
  go_wp2_with fail
  refine (new_st 400 w _ [] (by omega) (by omega) g1 (by simp)).mono ?_; rintro e w2 ⟨R, ds0, rfl, h1, _⟩
  have A1 := Lib.hid (alloc_st 1 h1 (by omega) 1 1 ((List.replicate 400 0).set 0 1) rfl rfl)
  have D1 := Lib.hid h1.len.1
  clear h1 g1
  go_wp2_with fail
  refine A1.out.mono ?_; rintro e w3 ⟨rfl, h2, _⟩
  have t2 : Tb ((List.replicate 400 0).set 0 1) (ds0.set 0 Fr.zeros) 1 [(0, 0)] (fun _ _ => 1) (fun _ => none) := root_new (List.replicate 400 0) ds0 1 0 (by omega) rfl rfl (by simp) rfl rfl D1.out
  have A2 := Lib.hid (alloc_st 2 h2 (by omega) 2 2 (((List.replicate 400 0).set 0 1).set 1 2) rfl rfl)
  have D2 := Lib.hid (And.intro h2.len.1 t2)
  clear h2 t2 A1
  go_wp2_with fail
  refine A2.out.mono ?_; rintro e w4 ⟨rfl, h3, _⟩
  have tA : Tb (((List.replicate 400 0).set 0 1).set 1 2) ((ds0.set 0 Fr.zeros).set 1 Fr.zeros) 1 [(0, 0)] (fun _ _ => 1) (fun _ => none) := D2.out.2.oth (Oth.charge (by simp) rfl D2.out.1 Fr.zeros) (by omega)
  have tB : Tb (((List.replicate 400 0).set 0 1).set 1 2) ((ds0.set 0 Fr.zeros).set 1 Fr.zeros) 2 [(0, 0)] (fun _ _ => 2) (fun _ => none) := root_new ((List.replicate 400 0).set 0 1) (ds0.set 0 Fr.zeros) 2 1 (by omega) rfl rfl (by simp) rfl rfl D2.out.1
  have hst : St w [w4.heap.size + 1 + 1, w4.heap.size + 1, w4.heap.size] R (((List.replicate 400 0).set 0 1).set 1 2) ((ds0.set 0 Fr.zeros).set 1 Fr.zeros) (((w4.alloc (.map #[] 0)).alloc (.map #[] 0)).alloc (Obj.cells #[.map (some w4.heap.size), .map (some (w4.heap.size + 1))] 51)) := by
    have := ((h3.alloc (.map #[] 0)).alloc (.map #[] 0)).alloc (Obj.cells #[.map (some w4.heap.size), .map (some (w4.heap.size + 1))] 51)
    simp only [World.size_alloc] at this
    exact this
  have hA : IntM (((w4.alloc (.map #[] 0)).alloc (.map #[] 0)).alloc (Obj.cells #[.map (some w4.heap.size), .map (some (w4.heap.size + 1))] 51)) w4.heap.size 0 (fun _ => none) := (IntM.new w4).same (by rw [Below.heap_alloc _ _ _ (by simp; omega), Below.heap_alloc _ _ _ (by simp)])
  have hB : IntM (((w4.alloc (.map #[] 0)).alloc (.map #[] 0)).alloc (Obj.cells #[.map (some w4.heap.size), .map (some (w4.heap.size + 1))] 51)) (w4.heap.size + 1) 0 (fun _ => none) := by
    have := IntM.new (w4.alloc (.map #[] 0))
    rw [World.size_alloc] at this
    exact this.same (by rw [Below.heap_alloc _ _ _ (by simp)])
  have hM : (((w4.alloc (.map #[] 0)).alloc (.map #[] 0)).alloc (Obj.cells #[.map (some w4.heap.size), .map (some (w4.heap.size + 1))] 51)).heap[w4.heap.size + 1 + 1]? = some (Obj.cells #[.map (some w4.heap.size), .map (some (w4.heap.size + 1))] 51) := by
    have := heap_alloc_new ((w4.alloc (.map #[] 0)).alloc (.map #[] 0)) (Obj.cells #[.map (some w4.heap.size), .map (some (w4.heap.size + 1))] 51)
    simpa using this
  have hW4 := h3.b.size
  obtain ⟨GA, eGA⟩ : ∃ g, w4.heap.size = g := ⟨_, rfl⟩
  have HG := Lib.hid eGA
  rw [eGA] at hst hA hB hM hW4
  have H3 := Lib.hid (And.intro hst (And.intro tA (And.intro tB (And.intro hA (And.intro hB (And.intro hM hW4))))))
  clear h3 A2 tA tB hst hA hB hM hW4 eGA D2
  go_wp2_with fail
  rw [HG.out]
  obtain ⟨GB, eGB⟩ : ∃ g, GA + 1 = g := ⟨_, rfl⟩
  obtain ⟨M, eM⟩ : ∃ g, GB + 1 = g := ⟨_, rfl⟩
  rw [eGB] at H3 ⊢
  rw [eM] at H3 ⊢
  obtain ⟨w5, e5⟩ : ∃ x, ((w4.alloc (.map #[] 0)).alloc (.map #[] 0)).alloc (Obj.cells #[.map (some GA), .map (some GB)] 51) = x := ⟨_, rfl⟩
  rw [e5] at H3 ⊢
  have HGG := Lib.hid (And.intro eGB eM)
  clear e5 eGB eM HG D1 B
  go_loopg [44] l (fun g i wr => ∃ j : Nat, j ≤ l ∧ g = l - j ∧ i = .int .i64 j ∧ Hid (AI w [M, GB, GA] R M GA GB j wr))
  case atStart => exact ⟨0, by omega, by omega, rfl, Lib.hid ⟨_, _, _, _, _, _, _, _, H3.out.1, H3.out.2.1, rfl, H3.out.2.2.1, rfl, H3.out.2.2.2.1, H3.out.2.2.2.2.1, H3.out.2.2.2.2.2.1, by decide, .inl rfl⟩⟩
  case round =>
    obtain ⟨j, hj, hg, rfl, hI⟩ := hrel
    by_cases hlt : j < l
    · obtain ⟨x, hx⟩ : ∃ x, xs[j]? = some x := ⟨_, List.getElem?_eq_getElem (by rw [HN.out.1]; exact hlt)⟩
      obtain ⟨b, of, rfl, hb, hc0, hx0⟩ := XR.out j _ hx
      obtain ⟨os, ds, ksA, ndA, mpA, ksB, ndB, mpB, hst, tA, rA, tB, rB, hA, hB, hM, hcn, hks⟩ := hI.out
      have c0 : wr.cell? ⟨b, of + j, none⟩ = some (.int .i64 x) := by rw [hst.b.cell (p := ⟨b, _, none⟩) hb]; exact hc0
      obtain ⟨p, hp1, hp⟩ := and4095 (x / 2)
      have hGG := HGG.out
      have hW4 := H3.out.2.2.2.2.2.2
      have i1 : IntKind.i64.wrap ((j : Int) + 1) = ((j + 1 : Nat) : Int) := by rw [IntKind.wrap_i64]; have := HN.out; omega
      have i2 : IntKind.i64.wrap (10 + (j : Int)) = 10 + (j : Int) := by rw [IntKind.wrap_i64]; have := HN.out; omega
      have hcM0 : ∀ X : World, X.heap[M]? = wr.heap[M]? → X.cell? ⟨M, 0, none⟩ = some (.map (some GA)) ∧ X.cell? ⟨M, 1, none⟩ = some (.map (some GB)) := fun X e => by
        have := e.trans hM
        exact ⟨by rw [cell_of_row _ _ 0 _ 51 (0, 0) this]; rfl, by rw [cell_of_row _ _ 1 _ 51 (0, 0) this]; rfl⟩
      have HCM := Lib.hid hcM0
      rcases and1 x with hk | hk
      · obtain ⟨need, hn3, hnl⟩ := need_of ksA p
        have FL := Lib.hid (fill_st hst tA 1 (p : Int) (10 + (j : Int)) 3 1 true (by rw [rA]; rfl) p (10 + j) need rfl hp (by omega) (by omega) (by have := HN.out; omega) rfl hnl (by omega) (by omega) (by have := HN.out; omega))
        have HJ := Lib.hid (And.intro hj (And.intro hg (And.intro hlt (And.intro hp (And.intro hn3 (And.intro rA (And.intro hA (And.intro hB (And.intro hM (And.intro hcn (And.intro tB (And.intro rB (And.intro hGG hW4)))))))))))))
        clear hst tA rA tB rB hA hB hM hcn hks hI hj hg hc0 hx0 hb hx hp hn3 hnl hGG hW4 hcM0
        go_wp2_with fail
        refine FL.out.mono ?_; rintro e w6 ⟨rfl, os6, ds6, nd6, h6, t6, r6, o6, c6, sm6⟩
        obtain ⟨hj, hg, hlt, hp, hn3, rA, hA, hB, hM, hcn, tB, rB, hGG, hW4⟩ := HJ.out
        obtain ⟨w7, hrun, hA7, hg7⟩ := (hA.same (sm6 GA (by simp))).store (p := p) (f := 10 + j) (m := true) (x := (p : Int)) (y := 10 + (j : Int)) (by unfold maxLen; have := HN.out; omega) hp (by have := HN.out; omega) rfl (by omega)
        have h7 := h6.turn1 (g := GA) (by simp) (by omega) (Turn.of_grown hg7)
        obtain ⟨c0', c1'⟩ := HCM.out w6 (sm6 M (by simp))
        have hlt6 := h6.2.1
        have hM7 : w7.heap[M]? = some (Obj.cells #[.map (some GA), .map (some GB)] 51) := by
          rw [hg7.block M (hlt6 M (by simp)) (fun e => by have := Option.some.inj e; omega), sm6 M (by simp)]; exact hM
        have hB7 : IntM w7 GB (j + 1) mpB := ((hB.same (sm6 GB (by simp))).same (hg7.block GB (hlt6 GB (by simp)) (fun e => by have := Option.some.inj e; omega))).mono (by omega)
        have HI : Hid (AI w [M, GB, GA] R M GA GB (j + 1) w7) := Lib.hid ⟨_, _, _, _, _, _, _, _, h7, t6, r6.trans rA, tB.oth o6 (by omega), rB, hA7, hB7, hM7, by omega, .inr ⟨p, by unfold upd; simp⟩⟩
        have HJ := Lib.hid (And.intro hj (And.intro hg hlt))
        clear h6 t6 r6 o6 c6 sm6 hA7 hg7 h7 hM7 hB7 hlt6 hj hg hp hn3 rA hA hB hM hcn tB rB hGG hW4 FL
        go_wp2_with fail
        go_roundg (l - (j + 1))
        case rel => exact ⟨j + 1, by have := HJ.out; omega, rfl, by first | rfl | go_num, HI⟩
        case measure => have := HJ.out; omega
      · obtain ⟨need, hn3, hnl⟩ := need_of ksB p
        have FL := Lib.hid (fill_st hst tB 2 (p : Int) (10 + (j : Int)) 3 2 true (by rw [rB]; rfl) p (10 + j) need rfl hp (by omega) (by omega) (by have := HN.out; omega) rfl hnl (by omega) (by omega) (by have := HN.out; omega))
        have HJ := Lib.hid (And.intro hj (And.intro hg (And.intro hlt (And.intro hp (And.intro hn3 (And.intro rA (And.intro hA (And.intro hB (And.intro hM (And.intro hcn (And.intro tA (And.intro rB (And.intro hks (And.intro hGG hW4))))))))))))))
        clear hst tA rA tB rB hA hB hM hcn hks hI hj hg hc0 hx0 hb hx hp hn3 hnl hGG hW4 hcM0
        go_wp2_with fail
        refine FL.out.mono ?_; rintro e w6 ⟨rfl, os6, ds6, nd6, h6, t6, r6, o6, c6, sm6⟩
        obtain ⟨hj, hg, hlt, hp, hn3, rA, hA, hB, hM, hcn, tA, rB, hks, hGG, hW4⟩ := HJ.out
        obtain ⟨w7, hrun, hA7, hg7⟩ := (hB.same (sm6 GB (by simp))).store (p := p) (f := 10 + j) (m := true) (x := (p : Int)) (y := 10 + (j : Int)) (by unfold maxLen; have := HN.out; omega) hp (by have := HN.out; omega) rfl (by omega)
        have h7 := h6.turn1 (g := GB) (by simp) (by omega) (Turn.of_grown hg7)
        obtain ⟨c0', c1'⟩ := HCM.out w6 (sm6 M (by simp))
        have hlt6 := h6.2.1
        have hM7 : w7.heap[M]? = some (Obj.cells #[.map (some GA), .map (some GB)] 51) := by
          rw [hg7.block M (hlt6 M (by simp)) (fun e => by have := Option.some.inj e; omega), sm6 M (by simp)]; exact hM
        have hB7 : IntM w7 GA (j + 1) mpA := ((hA.same (sm6 GA (by simp))).same (hg7.block GA (hlt6 GA (by simp)) (fun e => by have := Option.some.inj e; omega))).mono (by omega)
        have HI : Hid (AI w [M, GB, GA] R M GA GB (j + 1) w7) := Lib.hid ⟨_, _, _, _, _, _, _, _, h7, tA.oth o6 (by omega), rA, t6, r6.trans rB, hB7, hA7, hM7, by omega, hks⟩
        have HJ := Lib.hid (And.intro hj (And.intro hg hlt))
        clear h6 t6 r6 o6 c6 sm6 hA7 hg7 h7 hM7 hB7 hlt6 hj hg hp hn3 rA hA hB hM hcn tA rB hks hGG hW4 FL
        go_wp2_with fail
        go_roundg (l - (j + 1))
        case rel => exact ⟨j + 1, by have := HJ.out; omega, rfl, by first | rfl | go_num, HI⟩
        case measure => have := HJ.out; omega
    · obtain rfl : l = j := by omega
      obtain ⟨os, ds, ksA, ndA, mpA, ksB, ndB, mpB, hst, tA, rA, tB, rB, hA, hB, hM, hcn, hks⟩ := hI.out
      have hGG := HGG.out
      have hW4 := H3.out.2.2.2.2.2.2
      have hst2 := hst.alloc (Obj.cells #[.int .i64 1, .int .i64 2] 3)
      have hV2 := heap_alloc_new wr (Obj.cells #[.int .i64 1, .int .i64 2] 3)
      have hlt := hst.2.1
      have hk2 : ∀ b ∈ [M, GB, GA], (wr.alloc (Obj.cells #[.int .i64 1, .int .i64 2] 3)).heap[b]? = wr.heap[b]? := fun b hb => Below.heap_alloc _ _ _ (hlt b hb)
      have hWr := hst.b.size
      obtain ⟨V, eV⟩ : ∃ V, wr.heap.size = V := ⟨_, rfl⟩
      have HEV := Lib.hid eV
      rw [eV] at hst2 hV2 hlt hWr
      obtain ⟨wv, ewv⟩ : ∃ x, wr.alloc (Obj.cells #[.int .i64 1, .int .i64 2] 3) = x := ⟨_, rfl⟩
      have HEW := Lib.hid ewv
      rw [ewv] at hst2 hV2 hk2
      have HX := Lib.hid (And.intro hst2 (And.intro hV2 (And.intro (hA.same (hk2 GA (by simp))) (And.intro (hB.same (hk2 GB (by simp))) (And.intro ((hk2 M (by simp)).trans hM) (And.intro hWr (And.intro hGG (And.intro hW4 hlt))))))))
      have HT := Lib.hid (And.intro tA (And.intro rA (And.intro tB (And.intro rB hks))))
      clear hst tA rA tB rB hA hB hM hcn hks hst2 hV2 hk2 hWr hGG hW4 hlt eV ewv hI hj hg H3 XR
      go_wp2_with fail
      rw [HEV.out, HEW.out]
      go_loopg [83] 2 (fun g i wr => ∃ k : Nat, k ≤ 2 ∧ g = 2 - k ∧ i = .int .i64 k ∧ Hid (St w [V, M, GB, GA] R os ds wr ∧ Same [V, M, GB, GA] wv wr))
      case atStart => exact ⟨0, by omega, by omega, rfl, Lib.hid ⟨HX.out.1, Same.refl _ _⟩⟩
      case round =>
        obtain ⟨k, hk, hg, rfl, hI⟩ := hrel
        obtain ⟨hst, hsm⟩ := hI.out
        have hA := HX.out.2.2.1.same (hsm GA (by simp))
        have hB := HX.out.2.2.2.1.same (hsm GB (by simp))
        have hM := (hsm M (by simp)).trans HX.out.2.2.2.2.1
        have hV := (hsm V (by simp)).trans HX.out.2.1
        have cM0 : wr.cell? ⟨M, 0, none⟩ = some (.map (some GA)) := by rw [cell_of_row _ _ 0 _ 51 (0, 0) hM]; rfl
        obtain ⟨D, ho, hD1, hD2⟩ := hA.ranges
        have h012 : k = 0 ∨ k = 1 ∨ k = 2 := by omega
        rcases h012 with rfl | rfl | rfl
        · rw [show ((0 : Nat) : Int) = (0 : Int) from rfl]
          have cV : wr.cell? ⟨V, 0, none⟩ = some (.int .i64 1) := by rw [cell_of_row _ _ 0 _ 3 (0, 0) hV]; rfl
          go_wp2_with (first
            | (at_range; refine wpList_range_own _ rfl _ 50 rfl 3 3 keyI Try.underlying50 _ GA _ _ rfl ho ?_; intro w0 hrg0 hg0 hs0)
            | go_in)
          go_frame
          have hb0 : Below wr.heap.size wr w0 := (Below.refl _ _).grown hg0 (Nat.le_refl _) (fun j hj => by cases hj)
          obtain ⟨r, er⟩ : ∃ r, wr.heap.size = r := ⟨_, rfl⟩
          have hlr := hst.2.1
          have hst0 : St w [r, V, M, GB, GA] R os ds w0 := hst.more hb0 (fun b hb => by
            rcases List.mem_cons.1 hb with rfl | hb
            · exact ⟨.inr (by omega), by omega⟩
            · exact ⟨.inl hb, by have := hlr b hb; omega⟩)
          have hsm0 : Same [V, M, GB, GA] wv w0 := hsm.trans (fun b hb => hb0.block b (hlr b hb))
          have hwr := hst.b.size
          rw [er] at hrg0 hlr hwr ⊢
          have hR0 : IntR w0 GA r l mpA D (Maps.has D) (Maps.size D) := ⟨hrg0, hD1, hD2⟩
          have HS0 := Lib.hid (And.intro hst0 (And.intro hsm0 (And.intro hR0 (And.intro hlr (And.intro hwr (And.intro hk hg))))))
          clear hst0 hsm0 hR0 hrg0 hg0 hs0 hb0 hlr hwr hst hsm hA hB hM hV cM0 cV ho hD1 hD2 er hI hk hg
          go_loopw [16] (fun _ wr => ∃ (left : Lit → Bool) (cnt : Nat), Hid (St w [r, V, M, GB, GA] R os ds wr ∧ Same [V, M, GB, GA] wv wr) ∧ IntR wr GA r l mpA D left cnt) (fun _ wr => wr.rangeLeft GA r)
          case atStart => exact ⟨_, _, Lib.hid ⟨HS0.out.1, HS0.out.2.1⟩, HS0.out.2.2.1⟩
          case round =>
            obtain ⟨left, cnt, hS, hR⟩ := hrel
            go_wp2_with (first
              | (at_next; refine wpList_next_ranges_ii _ rfl _ rfl 3 3 .i64 .i64 keyI Try.underlying3 Try.underlying3 GA r l D left cnt rfl hR.1 ?_ ?_)
              | go_in)
            · intro hc0 hl0
              have HS := Lib.hid (show St w [V, M, GB, GA] R os ds wr ∧ Same [V, M, GB, GA] wv wr from ⟨hS.out.1.less (fun b hb => List.mem_cons_of_mem _ hb), hS.out.2⟩)
              clear hS hR hc0 hl0
              go_wp2_with fail
              go_roundg (2 - (0 + 1))
              case rel => exact ⟨0 + 1, by have := HS0.out; omega, rfl, by first | rfl | go_num, HS⟩
              case measure => have := HS0.out; omega
            · intro x c w1 cnt1 hwx hwc hlk hat hrg1 hlt1 hg1 hs1 hen
              obtain ⟨p, rfl, hp, hps⟩ := hR.2.1 x hlk
              obtain ⟨⟨f, m⟩, hm⟩ := Option.isSome_iff_exists.1 hps
              have hcf : c = (f : Int) := by
                have := hat (.lit (.int .i64 0))
                rw [hR.2.2 p f m hm] at this
                injection this with this
                injection this with _ this
                exact this.symm
              have hst1 := hS.out.1.turn1 (g := r) (by simp) HS0.out.2.2.2.2.1 (Turn.of_grown hg1)
              have hr4 : ∀ b ∈ [V, M, GB, GA], b ≠ r := fun b hb e => by have := HS0.out.2.2.2.1 b hb; omega
              have hsm1 : Same [V, M, GB, GA] wv w1 := hS.out.2.trans (fun b hb => hg1.block b (hS.out.1.2.1 b (List.mem_cons_of_mem _ hb)) (fun e => hr4 b hb (Option.some.inj e)))
              have hR1 : IntR w1 GA r l mpA D (fun z => left z && !z.sameKey (.int .i64 (p : Int))) cnt1 := ⟨hrg1, fun y hy => hR.2.1 y (by simp at hy; exact hy.1), hR.2.2⟩
              have hlm : w1.rangeLeft GA r < wr.rangeLeft GA r := by rw [hR1.1.left_eq, hR.1.left_eq]; exact hlt1
              obtain ⟨g, eg⟩ : ∃ g : Int, ((fr (mpA p) : Nat) : Int) = g := ⟨_, rfl⟩
              obtain ⟨bs, ebs⟩ : ∃ bs, (mpA p).isSome = bs := ⟨_, rfl⟩
              obtain ⟨bo, ebo⟩ : ∃ bo, Pg.ok (mpA p) = bo := ⟨_, rfl⟩
              have WK := walk_st hst1 HT.out.1 1 (p : Int) (by rw [HT.out.2.1]; rfl) (by omega) (by omega) (mpA p) (at_in hp) g eg
              rw [ebs, ebo] at WK
              have WK := Lib.hid WK
              have t1 : (bs != bs) = false := by simp
              have t2 : (g != g) = false := by simp
              obtain rfl : g = c := by rw [hcf, ← eg, hm]; rfl
              have HR := Lib.hid (And.intro hR1 (And.intro hsm1 (And.intro hlm (And.intro hp (And.intro eg ebs)))))
              clear hR hS hst1 hsm1 hR1 hlm hrg1 hg1 hs1 hlt1 hat hwx hwc hlk hps hm eg ebs ebo hcf hr4
              go_wp2_with fail
              refine WK.out.mono ?_; rintro e w2 ⟨rfl, hst2, sm2, hb2⟩
              have hsm2 : Same [V, M, GB, GA] wv w2 := HR.out.2.1.trans (fun b hb => sm2 b (List.mem_cons_of_mem _ hb))
              have hM2 := (hsm2 M (by simp)).trans HX.out.2.2.2.2.1
              have cM2 : w2.cell? ⟨M, 0, none⟩ = some (.map (some GA)) := by rw [cell_of_row _ _ 0 _ 51 (0, 0) hM2]; rfl
              have hlook := (HX.out.2.2.1.same (hsm2 GA (by simp))).look p (p : Int) rfl HR.out.2.2.2.1 g HR.out.2.2.2.2.1
              rw [HR.out.2.2.2.2.2] at hlook
              have hR2 := HR.out.1.kept hb2
              have H2 := Lib.hid (And.intro hst2 (And.intro hsm2 hR2))
              have hlm2 : w2.rangeLeft GA r < wr.rangeLeft GA r := by rw [hR2.1.left_eq, ← HR.out.1.1.left_eq]; exact HR.out.2.2.1
              have HL := Lib.hid hlm2
              clear hst2 sm2 hb2 hsm2 hM2 hR2 hlm2
              go_wp2_with fail
              go_roundw
              case rel => exact ⟨_, _, Lib.hid ⟨H2.out.1, H2.out.2.1⟩, H2.out.2.2⟩
              case measure => exact HL.out
        · rw [show ((1 : Nat) : Int) = (1 : Int) from rfl]
          have cV : wr.cell? ⟨V, 1, none⟩ = some (.int .i64 2) := by rw [cell_of_row _ _ 1 _ 3 (0, 0) hV]; rfl
          go_wp2_with (first
            | (at_range; refine wpList_range_own _ rfl _ 50 rfl 3 3 keyI Try.underlying50 _ GA _ _ rfl ho ?_; intro w0 hrg0 hg0 hs0)
            | go_in)
          go_frame
          have hb0 : Below wr.heap.size wr w0 := (Below.refl _ _).grown hg0 (Nat.le_refl _) (fun j hj => by cases hj)
          obtain ⟨r, er⟩ : ∃ r, wr.heap.size = r := ⟨_, rfl⟩
          have hlr := hst.2.1
          have hst0 : St w [r, V, M, GB, GA] R os ds w0 := hst.more hb0 (fun b hb => by
            rcases List.mem_cons.1 hb with rfl | hb
            · exact ⟨.inr (by omega), by omega⟩
            · exact ⟨.inl hb, by have := hlr b hb; omega⟩)
          have hsm0 : Same [V, M, GB, GA] wv w0 := hsm.trans (fun b hb => hb0.block b (hlr b hb))
          have hwr := hst.b.size
          rw [er] at hrg0 hlr hwr ⊢
          have hR0 : IntR w0 GA r l mpA D (Maps.has D) (Maps.size D) := ⟨hrg0, hD1, hD2⟩
          have HS0 := Lib.hid (And.intro hst0 (And.intro hsm0 (And.intro hR0 (And.intro hlr (And.intro hwr (And.intro hk hg))))))
          clear hst0 hsm0 hR0 hrg0 hg0 hs0 hb0 hlr hwr hst hsm hA hB hM hV cM0 cV ho hD1 hD2 er hI hk hg
          go_loopw [16] (fun _ wr => ∃ (left : Lit → Bool) (cnt : Nat), Hid (St w [r, V, M, GB, GA] R os ds wr ∧ Same [V, M, GB, GA] wv wr) ∧ IntR wr GA r l mpA D left cnt) (fun _ wr => wr.rangeLeft GA r)
          case atStart => exact ⟨_, _, Lib.hid ⟨HS0.out.1, HS0.out.2.1⟩, HS0.out.2.2.1⟩
          case round =>
            obtain ⟨left, cnt, hS, hR⟩ := hrel
            go_wp2_with (first
              | (at_next; refine wpList_next_ranges_ii _ rfl _ rfl 3 3 .i64 .i64 keyI Try.underlying3 Try.underlying3 GA r l D left cnt rfl hR.1 ?_ ?_)
              | go_in)
            · intro hc0 hl0
              have HS := Lib.hid (show St w [V, M, GB, GA] R os ds wr ∧ Same [V, M, GB, GA] wv wr from ⟨hS.out.1.less (fun b hb => List.mem_cons_of_mem _ hb), hS.out.2⟩)
              clear hS hR hc0 hl0
              go_wp2_with fail
              go_roundg (2 - (1 + 1))
              case rel => exact ⟨1 + 1, by have := HS0.out; omega, rfl, by first | rfl | go_num, HS⟩
              case measure => have := HS0.out; omega
            · intro x c w1 cnt1 hwx hwc hlk hat hrg1 hlt1 hg1 hs1 hen
              obtain ⟨p, rfl, hp, hps⟩ := hR.2.1 x hlk
              obtain ⟨⟨f, m⟩, hm⟩ := Option.isSome_iff_exists.1 hps
              have hcf : c = (f : Int) := by
                have := hat (.lit (.int .i64 0))
                rw [hR.2.2 p f m hm] at this
                injection this with this
                injection this with _ this
                exact this.symm
              have hst1 := hS.out.1.turn1 (g := r) (by simp) HS0.out.2.2.2.2.1 (Turn.of_grown hg1)
              have hr4 : ∀ b ∈ [V, M, GB, GA], b ≠ r := fun b hb e => by have := HS0.out.2.2.2.1 b hb; omega
              have hsm1 : Same [V, M, GB, GA] wv w1 := hS.out.2.trans (fun b hb => hg1.block b (hS.out.1.2.1 b (List.mem_cons_of_mem _ hb)) (fun e => hr4 b hb (Option.some.inj e)))
              have hR1 : IntR w1 GA r l mpA D (fun z => left z && !z.sameKey (.int .i64 (p : Int))) cnt1 := ⟨hrg1, fun y hy => hR.2.1 y (by simp at hy; exact hy.1), hR.2.2⟩
              have hlm : w1.rangeLeft GA r < wr.rangeLeft GA r := by rw [hR1.1.left_eq, hR.1.left_eq]; exact hlt1
              obtain ⟨g, eg⟩ : ∃ g : Int, ((fr (mpB p) : Nat) : Int) = g := ⟨_, rfl⟩
              obtain ⟨bs, ebs⟩ : ∃ bs, (mpB p).isSome = bs := ⟨_, rfl⟩
              obtain ⟨bo, ebo⟩ : ∃ bo, Pg.ok (mpB p) = bo := ⟨_, rfl⟩
              have WK := walk_st hst1 HT.out.2.2.1 2 (p : Int) (by rw [HT.out.2.2.2.1]; rfl) (by omega) (by omega) (mpB p) (at_in hp) g eg
              rw [ebs, ebo] at WK
              have WK := Lib.hid WK
              have t1 : (bs != bs) = false := by simp
              have t2 : (g != g) = false := by simp
              skip
              have HR := Lib.hid (And.intro hR1 (And.intro hsm1 (And.intro hlm (And.intro hp (And.intro eg ebs)))))
              clear hR hS hst1 hsm1 hR1 hlm hrg1 hg1 hs1 hlt1 hat hwx hwc hlk hps hm eg ebs ebo hcf hr4
              go_wp2_with fail
              refine WK.out.mono ?_; rintro e w2 ⟨rfl, hst2, sm2, hb2⟩
              have hsm2 : Same [V, M, GB, GA] wv w2 := HR.out.2.1.trans (fun b hb => sm2 b (List.mem_cons_of_mem _ hb))
              have hM2 := (hsm2 M (by simp)).trans HX.out.2.2.2.2.1
              have cM2 : w2.cell? ⟨M, 1, none⟩ = some (.map (some GB)) := by rw [cell_of_row _ _ 1 _ 51 (0, 0) hM2]; rfl
              have hlook := (HX.out.2.2.2.1.same (hsm2 GB (by simp))).look p (p : Int) rfl HR.out.2.2.2.1 g HR.out.2.2.2.2.1
              rw [HR.out.2.2.2.2.2] at hlook
              have hR2 := HR.out.1.kept hb2
              have H2 := Lib.hid (And.intro hst2 (And.intro hsm2 hR2))
              have hlm2 : w2.rangeLeft GA r < wr.rangeLeft GA r := by rw [hR2.1.left_eq, ← HR.out.1.1.left_eq]; exact HR.out.2.2.1
              have HL := Lib.hid hlm2
              clear hst2 sm2 hb2 hsm2 hM2 hR2 hlm2
              go_wp2_with fail
              go_roundw
              case rel => exact ⟨_, _, Lib.hid ⟨H2.out.1, H2.out.2.1⟩, H2.out.2.2⟩
              case measure => exact HL.out
        · obtain ⟨hst, hsm⟩ := hI.out
          have DR := Lib.hid (drop_st hst HT.out.1 1 (by rw [HT.out.2.1]; rfl))
          have H8 := Lib.hid hsm
          clear hst hsm hA hB hM hV cM0 ho hD1 hD2 hI hk hg
          go_wp2_with fail
          refine DR.out.mono ?_; rintro e w2 ⟨rfl, os2, ds2, hst2, tA2, oth2, _, sm2⟩
          have hsm2 := H8.out.trans sm2
          have hB := HX.out.2.2.2.1.same (hsm2 GB (by simp))
          have hM := (hsm2 M (by simp)).trans HX.out.2.2.2.2.1
          have cM1 : w2.cell? ⟨M, 1, none⟩ = some (.map (some GB)) := by rw [cell_of_row _ _ 1 _ 51 (0, 0) hM]; rfl
          obtain ⟨D, ho, hD1, hD2⟩ := hB.ranges
          have tB2 := HT.out.2.2.1.oth oth2 (by omega)
          have HT2 := Lib.hid (And.intro tA2 tB2)
          clear DR H8 tA2 oth2 tB2 sm2
          go_wp2_with (first
            | (at_range; refine wpList_range_own _ rfl _ 50 rfl 3 3 keyI Try.underlying50 _ GB _ _ rfl ho ?_; intro w0 hrg0 hg0 hs0)
            | go_in)
          go_frame
          have hb0 : Below w2.heap.size w2 w0 := (Below.refl _ _).grown hg0 (Nat.le_refl _) (fun j hj => by cases hj)
          obtain ⟨r, er⟩ : ∃ r, w2.heap.size = r := ⟨_, rfl⟩
          have hlr := hst2.2.1
          have hst0 : St w [r, V, M, GB, GA] R os2 ds2 w0 := hst2.more hb0 (fun b hb => by
            rcases List.mem_cons.1 hb with rfl | hb
            · exact ⟨.inr (by omega), by omega⟩
            · exact ⟨.inl hb, by have := hlr b hb; omega⟩)
          have hsm0 : Same [V, M, GB, GA] wv w0 := hsm2.trans (fun b hb => hb0.block b (hlr b hb))
          have hwr := hst2.b.size
          rw [er] at hrg0 hlr hwr ⊢
          have hR0 : IntR w0 GB r l mpB D (Maps.has D) (Maps.size D) := ⟨hrg0, hD1, hD2⟩
          have HS0 := Lib.hid (And.intro hst0 (And.intro hsm0 (And.intro hR0 (And.intro hlr hwr))))
          clear hst0 hsm0 hR0 hrg0 hg0 hs0 hb0 hlr hwr hst2 hsm2 hB hM cM1 ho hD1 hD2 er
          go_loopw [24] (fun _ wr => ∃ (left : Lit → Bool) (cnt : Nat), Hid (St w [r, V, M, GB, GA] R os2 ds2 wr ∧ Same [V, M, GB, GA] wv wr) ∧ IntR wr GB r l mpB D left cnt) (fun _ wr => wr.rangeLeft GB r)
          case atStart => exact ⟨_, _, Lib.hid ⟨HS0.out.1, HS0.out.2.1⟩, HS0.out.2.2.1⟩
          case round =>
            obtain ⟨left, cnt, hS, hR⟩ := hrel
            go_wp2_with (first
              | (at_next; refine wpList_next_ranges_ii _ rfl _ rfl 3 3 .i64 .i64 keyI Try.underlying3 Try.underlying3 GB r l D left cnt rfl hR.1 ?_ ?_)
              | go_in)
            · intro hc0 hl0
              have hM := (hS.out.2 M (by simp)).trans HX.out.2.2.2.2.1
              have hA := HX.out.2.2.1.same (hS.out.2 GA (by simp))
              have CO := Lib.hid (count_st 1 hS.out.1 (by omega) 1 (by rw [if_neg (by omega), HT2.out.1.cnt]; rfl))
              obtain ⟨kl, ekl⟩ : ∃ kl : Int, ((ksA.length : Nat) : Int) - 1 = kl := ⟨_, rfl⟩
              obtain ⟨cl, ecl⟩ : ∃ cl : Int, ((cntN mpA 4096 : Nat) : Int) = cl := ⟨_, rfl⟩
              obtain ⟨b, eb⟩ : ∃ b, (kl == 0) = b := ⟨_, rfl⟩
              have eb2 : (cl == 0) = b := by
                rw [← eb, Bool.eq_iff_iff]
                simp only [beq_iff_eq]
                have hpos : 0 < ksA.length := List.length_pos_of_mem HT.out.1.root
                constructor
                · intro h
                  have h0 : cntN mpA 4096 = 0 := by omega
                  have hz := (cntN_zero mpA 4096).1 h0
                  rcases HT.out.2.2.2.2 with hk | ⟨p, hp⟩
                  · omega
                  · rw [hz p (HT.out.1.lt hp)] at hp; cases hp
                · intro h
                  have h1 : ksA.length = 1 := by omega
                  have hz : cntN mpA 4096 = 0 := (cntN_zero mpA 4096).2 (fun p _ => HT.out.1.out p (fun hm => by
                    have h2 : ksA.Nodup := HT.out.1.nodup
                    match ksA, h1, HT.out.1.root, hm with
                    | [a], _, hr, hm =>
                      have e1 := List.mem_singleton.1 hr
                      have e2 := List.mem_singleton.1 hm
                      rw [← e1] at e2
                      injection e2 with e2 _
                      omega))
                  omega
              have t1 : (b == b) = true := by simp
              have HM := Lib.hid (And.intro hM (And.intro hA ecl))
              have HS := Lib.hid hS.out.2
              clear hS hR hc0 hl0 hM hA ecl
              rw [ekl]
              go_wp2_with fail
              refine CO.out.mono ?_; rintro e w3 ⟨rfl, hst3, sm3, _⟩
              have hM3 := (sm3 M (by simp)).trans HM.out.1
              have cM3 : w3.cell? ⟨M, 0, none⟩ = some (.map (some GA)) := by rw [cell_of_row _ _ 0 _ 51 (0, 0) hM3]; rfl
              have hlen := (HM.out.2.1.same (sm3 GA (by simp))).len 3
              rw [HM.out.2.2] at hlen
              have B3 := Lib.hid hst3.b
              clear hst3 sm3 hM3 CO
              go_wp2_with fail
              go_ret
              exact ⟨rfl, B3.out⟩
            · intro x c w1 cnt1 hwx hwc hlk hat hrg1 hlt1 hg1 hs1 hen
              obtain ⟨p, rfl, hp, hps⟩ := hR.2.1 x hlk
              obtain ⟨⟨f, m⟩, hm⟩ := Option.isSome_iff_exists.1 hps
              have hcf : c = (f : Int) := by
                have := hat (.lit (.int .i64 0))
                rw [hR.2.2 p f m hm] at this
                injection this with this
                injection this with _ this
                exact this.symm
              have hst1 := hS.out.1.turn1 (g := r) (by simp) HS0.out.2.2.2.2 (Turn.of_grown hg1)
              have hr4 : ∀ b ∈ [V, M, GB, GA], b ≠ r := fun b hb e => by have := HS0.out.2.2.2.1 b hb; omega
              have hsm1 : Same [V, M, GB, GA] wv w1 := hS.out.2.trans (fun b hb => hg1.block b (hS.out.1.2.1 b (List.mem_cons_of_mem _ hb)) (fun e => hr4 b hb (Option.some.inj e)))
              have hR1 : IntR w1 GB r l mpB D (fun z => left z && !z.sameKey (.int .i64 (p : Int))) cnt1 := ⟨hrg1, fun y hy => hR.2.1 y (by simp at hy; exact hy.1), hR.2.2⟩
              have hlm : w1.rangeLeft GB r < wr.rangeLeft GB r := by rw [hR1.1.left_eq, hR.1.left_eq]; exact hlt1
              have WK := Lib.hid (walk_st hst1 HT2.out.2 2 (p : Int) (by rw [HT.out.2.2.2.1]; rfl) (by omega) (by omega) (some (f, m)) (by rw [at_in hp, hm]) c hcf.symm)
              have t2 : (c != c) = false := by simp
              have HR := Lib.hid (And.intro hR1 (And.intro hsm1 (And.intro hlm hp)))
              clear hR hS hst1 hsm1 hR1 hlm hrg1 hg1 hs1 hlt1 hat hwx hwc hlk hps hm hr4 hcf
              go_wp2_with fail
              refine WK.out.mono ?_; rintro e w3 ⟨rfl, hst3, sm3, hb3⟩
              have hsm3 : Same [V, M, GB, GA] wv w3 := HR.out.2.1.trans (fun b hb => sm3 b (List.mem_cons_of_mem _ hb))
              have hR3 := HR.out.1.kept hb3
              have H3 := Lib.hid (And.intro hst3 (And.intro hsm3 hR3))
              have HL := Lib.hid (show w3.rangeLeft GB r < wr.rangeLeft GB r by rw [hR3.1.left_eq, ← HR.out.1.1.left_eq]; exact HR.out.2.2.1)
              clear hst3 sm3 hb3 hsm3 hR3
              go_wp2_with fail
              go_roundw
              case rel => exact ⟨_, _, Lib.hid ⟨H3.out.1, H3.out.2.1⟩, H3.out.2.2⟩
              case measure => exact HL.out
end Go.Proofs.Ytliljicmkgbfpaa
