/- PagesStops. -/
import Derived.Test.YtliljicmkgbfpaaHg
import Derived.Test.YtliljicmkgbfpaaHd
import Derived.Test.YtliljicmkgbfpaaTa
import Derived.Test.YtliljicmkgbfpaaJt
set_option linter.unusedVariables false
set_option linter.unusedSimpArgs false
namespace Go.Proofs.Ytliljicmkgbfpaa
open Go.RowKit Go.Shelf Go.Maps Pg
set_option linter.unusedVariables false
set_option linter.unusedSimpArgs false
attribute [local go_sem] Oper.semAt_some
theorem pg4096 (x : Int) : ∃ (t u : Int) (p : Nat), x.tmod 4096 = t ∧ RowKit.wrap64 (t + 4096) = u ∧ IntKind.i64.wrap (t + 4096) = u ∧ u.tmod 4096 = (p : Int) ∧ p < 4096 := by
  have h1 := Int.tmod_lt_of_pos x (show (0 : Int) < 4096 by omega)
  have h2 := Int.lt_tmod_of_pos x (show (0 : Int) < 4096 by omega)
  have e : RowKit.wrap64 (x.tmod 4096 + 4096) = x.tmod 4096 + 4096 := by unfold RowKit.wrap64; omega
  have e2 : IntKind.i64.wrap (x.tmod 4096 + 4096) = x.tmod 4096 + 4096 := by rw [IntKind.wrap_i64]; omega
  refine ⟨_, _, ((x.tmod 4096 + 4096) % 4096).toNat, rfl, e, e2, ?_, by omega⟩
  rw [Int.tmod_eq_emod_of_nonneg (by omega)]
  omega
theorem i64_and18 (n : Int) : bits .and .i64 n 262143 = n % 262144 := by
  have h127 : (BitVec.ofInt 64 262143).toNat = 2 ^ 18 - 1 := by decide
  have key : (BitVec.ofInt 64 n &&& BitVec.ofInt 64 262143).toNat = (n % ((2 ^ 64 : Nat) : Int)).toNat % 2 ^ 18 := by
    rw [BitVec.toNat_and, BitVec.toNat_ofInt, h127, Nat.and_two_pow_sub_one_eq_mod]
  show IntKind.i64.wrap ((BitVec.ofInt 64 n &&& BitVec.ofInt 64 262143).toNat : Nat) = n % 262144
  rw [key, IntKind.wrap_i64]
  omega
variable {W : World} {T : List Nat} {R : Nat} {os : List Nat} {ds : List (List Nat)} {o : Nat} {ks : List (Nat × Nat)} {nd : Nat → Nat → Nat} {mp : Nat → Option (Nat × Bool)} {w w' : World}
/-- A root in a memory, and a set of the pages that lead somewhere. -/
def SI (W : World) (T : List Nat) (R N G j : Nat) (wr : World) : Prop := ∃ os ds ks nd mp S, St W T R os ds wr ∧ Tb os ds 1 ks nd mp ∧ nd 0 0 = 1 ∧ SetM wr G j S ∧ (∀ p, p ∈ S ↔ (mp p).isSome = true) ∧ N ≤ os.count 0 + 3 * j ∧ S.length ≤ j
set_option maxRecDepth 100000 in
set_option maxHeartbeats 4000000 in
theorem stops_all (A : Option Addr) (l c : Nat) (xs : List Int) (stop va : Int) (w : World) (hn : xs.length = l) (hm : l ≤ 30) (hr : Nums w A xs) (s1 : -9223372036854775808 ≤ stop) (s2 : stop ≤ 9223372036854775807) (v1 : -9223372036854775808 ≤ va) (v2 : va ≤ 9223372036854775807) :
    Calls Try.prog 4 #[.slice A l c, .int .i64 stop, .int .i64 va] w fun e w' => e = .returned (.bool true) ∧ Below w.heap.size w w' := by
  have B := Lib.hid fit_any
  have h30 : ¬ (30 : Int) < l := by omega
  have h30' : ¬ 30 < l := by omega
  have XR := Lib.hid hr
  have HN := Lib.hid (And.intro hn hm)
  have HV := Lib.hid (And.intro (And.intro s1 s2) (And.intro v1 v2))
  clear hr hn hm s1 s2 v1 v2
  have hmm := @run_makeMap Try.prog
  refine (callsIn_wide (n := 5)).1 ?_
  refine callsIn_of_wp_marks Try.func4 rfl trivial ?_ rfl
  simp only [Try.ntmps4, List.size_toArray, List.length_cons, List.length_nil, Nat.reduceAdd, Nat.reduceSub, Array.replicate_succ, Array.replicate_zero, List.push_toArray, List.append_toArray, List.nil_append, List.cons_append]
  refine wpIn_wide.2 ?_
  go_wp2_with fail
  refine (B.out _).mono ?_; rintro e w1 ⟨rfl, g1⟩
  have hb1 := (below_alloc1 w (Obj.cells #[.int .i64 stop] 3)).trans (g1.mono (by simp))
  have hc1 : w1.heap[w.heap.size]? = some (Obj.cells #[.int .i64 stop] 3) := by rw [g1.block _ (by simp)]; exact heap_alloc_new w _
  have hlt1 : ∀ b ∈ [w.heap.size], b < w1.heap.size := fun b hb => by
    obtain rfl := List.mem_singleton.1 hb
    exact (Array.getElem?_eq_some_iff.1 hc1).1
  have HB1 := Lib.hid (And.intro hb1 (And.intro hc1 hlt1))
  clear hb1 hc1 hlt1 g1
  obtain ⟨Q, eQ⟩ : ∃ Q, w.heap.size = Q := ⟨_, rfl⟩
  rw [eQ] at HB1 ⊢
  go_wp2_with fail
  refine (new_st 200 w _ [Q] (by omega) (by omega) (eQ ▸ HB1.out.1) HB1.out.2.2).mono ?_; rintro e w2 ⟨R, ds0, rfl, h1, sm1⟩
  have A1 := Lib.hid (alloc_st 1 h1 (by omega) 1 1 ((List.replicate 200 0).set 0 1) rfl rfl)
  have D1 := Lib.hid (And.intro h1.len.1 ((sm1 Q (by simp)).trans HB1.out.2.1))
  clear h1 sm1
  go_wp2_with fail
  refine A1.out.mono ?_; rintro e w3 ⟨rfl, h2, sm2⟩
  have t2 : Tb ((List.replicate 200 0).set 0 1) (ds0.set 0 Fr.zeros) 1 [(0, 0)] (fun _ _ => 1) (fun _ => none) := root_new (List.replicate 200 0) ds0 1 0 (by omega) rfl rfl (by simp) rfl rfl D1.out.1
  have H3 := Lib.hid (And.intro (h2.alloc (.map #[] 0)) (And.intro t2 (And.intro ((sm2 Q (by simp)).trans D1.out.2) (And.intro (h2.b.size) (SetM.new w3)))))
  clear h2 t2 sm2 A1
  go_wp2_with fail
  obtain ⟨G, eG⟩ : ∃ G, w3.heap.size = G := ⟨_, rfl⟩
  obtain ⟨W4, eW⟩ : ∃ W4, w3.alloc (.map #[] 0) = W4 := ⟨_, rfl⟩
  rw [eW, eG] at H3
  rw [eW, eG]
  go_loopg [38] l (fun g i wr => ∃ j : Nat, j ≤ l ∧ g = l - j ∧ i = .int .i64 j ∧ Hid (SI w [G, Q] R 199 G j wr ∧ wr.heap[Q]? = some (Obj.cells #[.int .i64 stop] 3)))
  case atStart =>
    refine ⟨0, by omega, by omega, rfl, Lib.hid ⟨⟨_, _, _, _, _, [], H3.out.1, H3.out.2.1, rfl, H3.out.2.2.2.2, fun p => by simp, by decide, by simp⟩, ?_⟩⟩
    have hQ := H3.out.1.2.1 Q (by simp)
    rw [← eW, Below.heap_alloc _ _ _ (Array.getElem?_eq_some_iff.1 H3.out.2.2.1).1]
    exact H3.out.2.2.1
  case round =>
    obtain ⟨j, hj, hg, rfl, hI⟩ := hrel
    by_cases hlt : j < l
    · obtain ⟨x, hx⟩ : ∃ x, xs[j]? = some x := ⟨_, List.getElem?_eq_getElem (by rw [HN.out.1]; exact hlt)⟩
      obtain ⟨b, of, rfl, hb, hc0, hx0⟩ := XR.out j _ hx
      obtain ⟨⟨os, ds, ks, nd, mp, S, hst, ht, hr0, hS, hSm, hcn, hSl⟩, hQ⟩ := hI.out
      have c0 : wr.cell? ⟨b, of + j, none⟩ = some (.int .i64 x) := by rw [hst.b.cell (p := ⟨b, _, none⟩) hb]; exact hc0
      obtain ⟨t, u, p, f1, f2, f2', f3, hp⟩ := pg4096 x
      obtain ⟨need, hn3, hnl⟩ := need_of ks p
      have i1 : IntKind.i64.wrap ((j : Int) + 1) = ((j + 1 : Nat) : Int) := by rw [IntKind.wrap_i64]; have := HN.out; omega
      have FL := Lib.hid (fill_st hst ht 1 (p : Int) 7 3 1 true (by rw [hr0]; rfl) p 7 need rfl hp rfl (by omega) (by omega) rfl hnl (by omega) (by omega) (by have := HN.out; omega))
      have HJ := Lib.hid (And.intro hj (And.intro hg (And.intro hlt (And.intro hp (And.intro hn3 (And.intro hr0 (And.intro hS (And.intro hSm (And.intro hcn (And.intro hSl hQ))))))))))
      clear hst ht hr0 hS hSm hcn hSl hQ hI hj hg hc0 hx0 hb hx hp hn3 hnl
      go_wp2_with fail
      refine FL.out.mono ?_; rintro e w5 ⟨rfl, os5, ds5, nd5, h5, t5, r5, _, c5, sm5⟩
      obtain ⟨w6, hrun, hS6, hg6⟩ := (HJ.out.2.2.2.2.2.2.1.same (sm5 G (by simp))).store (x := (p : Int)) (by unfold maxLen; have := HN.out; have := HJ.out.1; omega) (by have := HJ.out.2.2.2.1; omega) rfl
      have h6 := h5.turn1 (g := G) (by simp) (by have := H3.out.2.2.2.1; omega) (Turn.of_grown hg6)
      have hQ6 : w6.heap[Q]? = some (Obj.cells #[.int .i64 stop] 3) := by
        rw [hg6.block Q (h5.2.1 Q (by simp)) (fun e => by
          have e1 : Q = G := by simpa using e
          have := (Array.getElem?_eq_some_iff.1 H3.out.2.2.1).1
          omega), sm5 Q (by simp)]
        exact HJ.out.2.2.2.2.2.2.2.2.2.2
      have HI : Hid (SI w [G, Q] R 199 G (j + 1) w6 ∧ w6.heap[Q]? = some (Obj.cells #[.int .i64 stop] 3)) := by
        obtain ⟨hj, hg, hlt, hp, hn3, hr0, hS, hSm, hcn, hSl, hQ⟩ := HJ.out
        refine Lib.hid ⟨⟨_, _, _, _, _, _, h6, t5, r5.trans hr0, hS6, fun q => ?_, by omega, ?_⟩, hQ6⟩
        · rw [mem_add, hSm]
          unfold upd
          by_cases e : q = p
          · simp [e]
          · simp [e]
        · unfold add
          split
          · omega
          · simp; omega
      clear h5 t5 r5 c5 sm5 hS6 hg6 h6 hQ6 FL
      go_wp2_with fail
      go_roundg (l - (j + 1))
      case rel => exact ⟨j + 1, by have := HJ.out; omega, rfl, by first | rfl | go_num, HI⟩
      case measure => have := HJ.out; omega
    · obtain rfl : l = j := by omega
      have HI := Lib.hid hI.out
      clear hI hj hg hlt
      go_wp2_with fail
      obtain ⟨⟨os, ds, ks, nd, mp, S, hst, ht, hr0, hS, hSm, hcn, hSl⟩, hQ⟩ := HI.out
      have EA := Lib.hid (fun (X : World) => each_any (R := R) 1 X)
      have EI := Lib.hid (each_iter (W0 := w) (R := R) ⟨ds, ht⟩)
      have HT := Lib.hid (And.intro ht (And.intro hr0 (And.intro hSm hcn)))
      have hWw := hst.b.size
      have hGQ : G ≠ Q := fun e => by
        obtain ⟨_, D, hD, _⟩ := hS
        obtain ⟨es, cl, hes, _⟩ := hD
        rw [e] at hes
        rw [hes] at hQ
        cases hQ
      have hst2 := hst.alloc (Obj.cells #[.int .i64 0] 3)
      obtain ⟨N, eN⟩ : ∃ N, wr.heap.size = N := ⟨_, rfl⟩
      have hGQN : G < N ∧ Q < N := ⟨by rw [← eN]; exact hst.2.1 G (by simp), by rw [← eN]; exact hst.2.1 Q (by simp)⟩
      have hN2 := heap_alloc_new wr (Obj.cells #[.int .i64 0] 3)
      have hQ2 : (wr.alloc (Obj.cells #[.int .i64 0] 3)).heap[Q]? = some (Obj.cells #[.int .i64 stop] 3) := by rw [Below.heap_alloc _ _ _ (by omega)]; exact hQ
      have hS2 : SetM (wr.alloc (Obj.cells #[.int .i64 0] 3)) G l S := hS.same (Below.heap_alloc _ _ _ (by omega))
      have hsz2 : (wr.alloc (Obj.cells #[.int .i64 0] 3)).heap.size = N + 1 := by simp; omega
      rw [eN] at hst2 hN2 hWw ⊢
      obtain ⟨wn, ewn⟩ : ∃ wn, wr.alloc (Obj.cells #[.int .i64 0] 3) = wn := ⟨_, rfl⟩
      rw [ewn] at hst2 hN2 hQ2 hS2 hsz2 ⊢
      have HA := Lib.hid (And.intro hst2 (And.intro hN2 (And.intro hQ2 (And.intro hS2 (And.intro hsz2 (And.intro hWw (And.intro hGQN hGQ)))))))
      clear hst ht hr0 hS hSm hcn hSl hQ hst2 hN2 hQ2 hS2 hWw hGQN hGQ ewn eN HI B H3 HB1 D1
      refine (EA.out _).mono ?_; rintro e w7 ⟨rfl, e7⟩
      go_wp2_with fail
      rw [← e7]
      have hF : Below wn.heap.size wn w7 ∧ w7.heap.size = N + 3 ∧ LZ R 1 (N + 1) (N + 1 + 1) w7 := by
        rw [e7]
        refine ⟨((Below.refl _ _).alloc (Nat.le_refl _) _).alloc (by simp) _, by simp; omega, ?_, ?_⟩
        · rw [Below.heap_alloc _ _ _ (by simp; omega)]; have := heap_alloc_new wn (Obj.cells #[.pointer (some ⟨R, 0, none⟩)] 24); rwa [hsz2] at this
        · have := heap_alloc_new (wn.alloc (Obj.cells #[.pointer (some ⟨R, 0, none⟩)] 24)) (Obj.cells #[.int .i64 ((1 : Nat) : Int)] 3)
          have e : (wn.alloc (Obj.cells #[.pointer (some ⟨R, 0, none⟩)] 24)).heap.size = N + 1 + 1 := by simp; omega
          rw [e] at this
          exact this
      clear e7
      obtain ⟨hb7, hs7, hz7⟩ := hF
      obtain ⟨B1, eB1⟩ : ∃ b, N + 1 = b := ⟨_, rfl⟩
      obtain ⟨B2, eB2⟩ : ∃ b, B1 + 1 = b := ⟨_, rfl⟩
      rw [eB1] at hz7 ⊢
      rw [eB2] at hz7 ⊢
      obtain ⟨hst2, hN2, hQ2, hS2, _, hWw, hGQN, hGQ⟩ := HA.out
      have hst7 : St w ((N :: [G, Q]) ++ [B1, B2]) R os ds w7 := hst2.more hb7 (fun b hb => by
        simp at hb
        rcases hb with rfl | rfl | rfl | rfl | rfl
        · exact ⟨.inl (by simp), by omega⟩
        · exact ⟨.inl (by simp), by omega⟩
        · exact ⟨.inl (by simp), by omega⟩
        · exact ⟨.inr (by omega), by omega⟩
        · exact ⟨.inr (by omega), by omega⟩)
      have hcr : CR w [G, Q] N R os ds w7 [B1, B2] 0 w7 := by
        refine ⟨fun b hb => ?_, hst7, fun b hb hm => ?_, Same.refl _ _, by rw [hb7.block _ (by omega)]; exact hN2⟩
        · simp at hb; omega
        · simp at hb hm; omega
      have H7 := Lib.hid (And.intro hcr (And.intro (show w7.heap[Q]? = some (Obj.cells #[.int .i64 stop] 3) by rw [hb7.block _ (by omega)]; exact hQ2) (And.intro (show SetM w7 G l S from hS2.same (hb7.block _ (by omega))) (And.intro hs7 (And.intro eB1 (And.intro eB2 (And.intro hWw (And.intro hGQN hGQ))))))))
      have EI := Lib.hid (EI.out B1 B2)
      have hr0 := HT.out.2.1
      clear hst2 hN2 hQ2 hS2 hWw hGQN hGQ hst7 hcr hb7 hs7 eB1 eB2 hsz2 HA EA
      refine (wpIn_wide (n := 5)).1 ?_
      refine range_exit (m := 4) (gf := 32) (lb := #[.pointer (some ⟨B1, 0, none⟩), .pointer (some ⟨B2, 0, none⟩)]) rfl (enters_of Try.func32 (by kernel_rfl) rfl) EI.out (fun _ => rfl)
        (fun TT pre X => CR w [G, Q] N R os ds w7 TT (pre.length : Nat) X) (fun c TT pre X => c = .exit 2 ∧ CR w [G, Q] N R os ds w7 TT stop X) (fun _ _ _ _ _ h _ ht hn => h.grow ht hn) (fun c _ _ _ _ _ h _ ht hn => ⟨h.1, h.2.grow ht hn⟩) ?hV [B1, B2] ?hT (fun b hb => hb) ?hZ H7.out.1 ?round
        2 (fun _ _ h => h) (fun TT X => ∃ v : Int, CR w [G, Q] N R os ds w7 TT v X ∧ (v = ((sg mp 0 0).length : Nat) ∨ v = stop)) (fun T X h => ⟨_, h, .inl rfl⟩) (fun c T pre X _ h => ⟨h.1, _, h.2, .inr rfl⟩) ?rest
      case hT => intro b hb; have := H7.out; simp at hb; omega
      case hZ => intro X hX; have := H7.out; rw [hr0]; exact ⟨by rw [hX.block _ (by omega)]; exact hz7.1, by rw [hX.block _ (by omega)]; exact hz7.2⟩
      case hV => intro TT pre X hX h; exact ⟨ds, h.2.1.less (fun b hb => List.mem_append_right _ hb), HT.out.1⟩
      case round =>
        rintro l1 TT pre p Wr hl1 hrec hTT hpre hI
        have HI2 := Lib.hid (And.intro hI (And.intro hTT (And.intro hl1 hpre)))
        obtain ⟨fv, efv⟩ : ∃ fv : Int, ((fr (mp p) : Nat) : Int) = fv := ⟨_, rfl⟩
        have hen : encE mp p = #[.int .i64 (p : Int), .int .i64 fv] := by unfold encE; rw [efv]
        rw [hen]
        clear hI hTT hrec hpre hl1 hz7 hen efv
        gi_wp2
        refine ⟨Same.refl _ _, fun W2 ht hsz hr2 => ?_⟩
        have hc := HI2.out.1.grow (ht.mono (S' := TT) (by simpa using HI2.out.2.2.1)) (fun b hb => ⟨.inl hb, by rw [hsz]; exact HI2.out.2.1 b hb⟩)
        have hcQ : W2.cell? ⟨Q, 0, none⟩ = some (.int .i64 stop) := by rw [cell_of_row _ _ 0 _ 3 (0, 0) ((hc.2.2.2.1 Q (by simp)).trans H7.out.2.1)]; rfl
        obtain ⟨c1, c2⟩ := hc.cells
        obtain ⟨n, en⟩ : ∃ n : Nat, pre.length = n := ⟨_, rfl⟩
        rw [en] at c1 hc
        have hn : n ≤ 4096 := by
          have h2 := HI2.out.2.2.2.length_le
          have h3 : (sg mp 0 0).length ≤ 4096 := by
            unfold sg
            refine Nat.le_trans (List.length_filter_le _ _) ?_
            simp
          simp at h2
          omega
        have i1 : IntKind.i64.wrap ((n : Int) + 1) = (n : Int) + 1 := by rw [IntKind.wrap_i64]; omega
        have HC := Lib.hid (And.intro hc en)
        clear hc hr2 hsz ht hn en
        by_cases e : (n : Int) = stop
        · have hb : ((n : Int) == stop) = true := by simpa using e
          have HE := Lib.hid e
          clear e
          gi_wp2_with fail
          exact ⟨Same.refl _ _, rfl, by rw [← HE.out]; exact HC.out.1⟩
        · have hb : ((n : Int) == stop) = false := by simpa using e
          clear e
          gi_wp2_with fail
          have hset := HC.out.1.set H7.out.2.2.2.2.2.2.1 (by have := H7.out; simp; omega) ((n : Int) + 1)
          refine ⟨hset.2, ?_⟩
          have hl : (((pre ++ [p]).length : Nat) : Int) = (n : Int) + 1 := by rw [List.length_append, HC.out.2]; rfl
          dsimp only
          rw [hl]
          exact hset.1
      case rest =>
        rintro D X hD hDX hDT ⟨v, hc, hv⟩ hK hsm
        have hSX : SetM X G l S := H7.out.2.2.1.same (hc.2.2.2.1 G (by simp))
        have hcQ : X.cell? ⟨Q, 0, none⟩ = some (.int .i64 stop) := by rw [cell_of_row _ _ 0 _ 3 (0, 0) ((hc.2.2.2.1 Q (by simp)).trans H7.out.2.1)]; rfl
        obtain ⟨cN, _⟩ := hc.cells
        have hlen := hSX.len 3
        have hSl : S.length = (sg mp 0 0).length := by
          have hsn : (sg mp 0 0).Nodup := (sg_pair mp 0 0).imp (fun h => Nat.ne_of_lt h)
          refine ((List.perm_ext_iff_of_nodup hSX.1 hsn).2 fun p => ?_).length_eq
          rw [HT.out.2.2.1 p, mem_sg0]
          exact ⟨fun h => ⟨HT.out.1.lt h, h⟩, fun h => h.2⟩
        rw [← hSl] at hv
        obtain ⟨L, eL⟩ : ∃ L : Int, ((S.length : Nat) : Int) = L := ⟨_, rfl⟩
        rw [eL] at hv hlen
        have hDw : w.heap.size ≤ D := hc.1 D (by simp)
        have hstX := hc.2.1.alloc (Obj.cells #[.int .i64 (-1), .int .i64 4096, .int .i64 (-9223372036854775808)] 3)
        have hV2 := heap_alloc_new X (Obj.cells #[.int .i64 (-1), .int .i64 4096, .int .i64 (-9223372036854775808)] 3)
        have hD2 : (X.alloc (Obj.cells #[.int .i64 (-1), .int .i64 4096, .int .i64 (-9223372036854775808)] 3)).heap[D]? = some (.deferred (some [])) := by rw [Below.heap_alloc _ _ _ hDX]; exact hK
        have hWX := hc.2.1.b.size
        obtain ⟨V, eV⟩ : ∃ V, X.heap.size = V := ⟨_, rfl⟩
        have EVh := Lib.hid eV
        rw [eV] at hV2 hstX
        have HX := Lib.hid (And.intro hstX (And.intro hV2 (And.intro hD2 hDw)))
        obtain ⟨b1, eb1⟩ : ∃ b1, (v != L) = b1 := ⟨_, rfl⟩
        obtain ⟨b2, eb2⟩ : ∃ b2, (v != stop) = b2 := ⟨_, rfl⟩
        have hbb : b1 = false ∨ (b1 = true ∧ b2 = false) := by
          by_cases e : v = L
          · left; rw [← eb1, e]; simp
          · right
            rcases hv with hv | hv
            · exact absurd hv e
            · exact ⟨by rw [← eb1]; simpa using e, by rw [← eb2, hv]; simp⟩
        clear hv hSX hSl eL hc hK hsm hDX hDT hD hDw hstX hV2 hD2 hWX eV hz7
        rcases hbb with rfl | ⟨rfl, rfl⟩
        · clear eb2
          go_wp2_with fail
          rw [EVh.out]
          obtain ⟨T8, eT⟩ : ∃ T8, V :: ((N :: [G, Q]) ++ D :: [B1, B2]) = T8 := ⟨_, rfl⟩
          have hTm : V ∈ T8 ∧ D ∈ T8 := by rw [← eT]; simp
          rw [eT] at HX
          obtain ⟨w8, e8⟩ : ∃ w8, X.alloc (Obj.cells #[.int .i64 (-1), .int .i64 4096, .int .i64 (-9223372036854775808)] 3) = w8 := ⟨_, rfl⟩
          rw [e8] at HX ⊢
          clear eT e8 cN hlen
          go_loopg [79] 3 (fun g i wr => ∃ k : Nat, k ≤ 3 ∧ g = 3 - k ∧ i = .int .i64 k ∧ Hid (St w T8 R os ds wr ∧ Same T8 w8 wr))
          case atStart => exact ⟨0, by omega, by omega, rfl, Lib.hid ⟨HX.out.1, Same.refl _ _⟩⟩
          case round =>
            obtain ⟨k, hk, hg, rfl, hI⟩ := hrel
            by_cases hlt : k < 3
            · have hV := (hI.out.2 V hTm.1).trans HX.out.2.1
              obtain ⟨x, hcx, hxo, hx1, hx2⟩ : ∃ x : Int, wr.cell? ⟨V, k, none⟩ = some (.int .i64 x) ∧ ¬ (0 ≤ x ∧ x < 4096) ∧ -9223372036854775808 ≤ x ∧ x ≤ 9223372036854775807 := by
                have h3 : k = 0 ∨ k = 1 ∨ k = 2 := by omega
                rcases h3 with rfl | rfl | rfl
                · exact ⟨-1, by rw [cell_of_row _ _ 0 _ 3 (0, 0) hV]; rfl, by omega, by omega, by omega⟩
                · exact ⟨4096, by rw [cell_of_row _ _ 1 _ 3 (0, 0) hV]; rfl, by omega, by omega, by omega⟩
                · exact ⟨-9223372036854775808, by rw [cell_of_row _ _ 2 _ 3 (0, 0) hV]; rfl, by omega, by omega, by omega⟩
              have WK := Lib.hid (walk_st hI.out.1 HT.out.1 1 x (by rw [HT.out.2.1]; rfl) hx1 hx2 none (at_out hxo) 0 rfl)
              have HK := Lib.hid (And.intro hk (And.intro hg (And.intro hlt (And.intro hxo (And.intro hx1 hx2)))))
              have i1 : IntKind.i64.wrap ((k : Int) + 1) = ((k + 1 : Nat) : Int) := by rw [IntKind.wrap_i64]; omega
              clear hV hk hg hxo hx1 hx2
              go_wp2_with fail
              refine WK.out.mono ?_; rintro e w9 ⟨rfl, h9, sm9, _⟩
              have FB := Lib.hid (fill_bad h9 HT.out.1 1 x 7 9 1 true (.inl ⟨by rw [HT.out.2.1]; rfl, .inl HK.out.2.2.2.1⟩) HK.out.2.2.2.2.1 HK.out.2.2.2.2.2 (by omega) (by omega))
              have H9 := Lib.hid (hI.out.2.trans sm9)
              clear h9 sm9 WK hI
              go_wp2_with fail
              refine FB.out.mono ?_; rintro e w10 ⟨rfl, h10, sm10, _⟩
              have HI := Lib.hid (show St w T8 R os ds w10 ∧ Same T8 w8 w10 from ⟨h10, H9.out.trans sm10⟩)
              clear h10 sm10 FB
              go_wp2_with fail
              go_roundg (3 - (k + 1))
              case rel => exact ⟨k + 1, by have := HK.out; omega, rfl, by first | rfl | go_num, HI⟩
              case measure => have := HK.out; omega
            · obtain rfl : k = 3 := by omega
              have FB := Lib.hid (fill_bad hI.out.1 HT.out.1 1 1 0 9 1 true (.inl ⟨by rw [HT.out.2.1]; rfl, .inr (by omega)⟩) (by omega) (by omega) (by omega) (by omega))
              have H8 := Lib.hid hI.out.2
              clear hI
              go_wp2_with fail
              refine FB.out.mono ?_; rintro e w10 ⟨rfl, h10, sm10, _⟩
              have FB := Lib.hid (fill_bad h10 HT.out.1 0 1 7 9 1 true (.inr rfl) (by omega) (by omega) (by omega) (by omega))
              have H10 := Lib.hid (H8.out.trans sm10)
              clear h10 sm10
              obtain ⟨z, ez⟩ : ∃ z : Int, bits .and .i64 va 262143 = z := ⟨_, rfl⟩
              have hz : 0 ≤ z ∧ z < 262144 := by rw [← ez, i64_and18]; omega
              have PG := Lib.hid (fun (Y : World) => page_any z Y hz.1 (by omega))
              have OF := Lib.hid (fun (Y : World) => offset_any z Y hz.1 (by omega))
              obtain ⟨z1, ez1⟩ : ∃ z1 : Int, z / 64 = z1 := ⟨_, rfl⟩
              obtain ⟨z2, ez2⟩ : ∃ z2 : Int, z % 64 = z2 := ⟨_, rfl⟩
              rw [ez1] at PG
              rw [ez2] at OF
              have i1 : IntKind.i64.wrap (z1 * 64) = z1 * 64 := by rw [IntKind.wrap_i64]; omega
              have i2 : IntKind.i64.wrap (z1 * 64 + z2) = z := by rw [IntKind.wrap_i64]; omega
              have i3 : decide (z2 < 64) = true := by simp; omega
              have i4 : (z == z) = true := by simp
              clear ez1 ez2 hz
              go_wp2_with fail
              refine FB.out.mono ?_; rintro e w11 ⟨rfl, h11, sm11, _⟩
              have H11 := Lib.hid (And.intro h11 (H10.out.trans sm11))
              clear h11 sm11
              go_wp2_with fail
              refine (PG.out _).mono ?_; rintro e w12 ⟨rfl, hb12⟩
              have H12 := Lib.hid (And.intro (H11.out.1.below hb12) (H11.out.2.trans (H11.out.1.same hb12)))
              clear hb12
              go_wp2_with fail
              refine (OF.out _).mono ?_; rintro e w13 ⟨rfl, hb13⟩
              have H13 := Lib.hid (And.intro (H12.out.1.below hb13) (H12.out.2.trans (H12.out.1.same hb13)))
              clear hb13
              go_wp2_with fail
              refine (OF.out _).mono ?_; rintro e w14 ⟨rfl, hb14⟩
              have H14 := Lib.hid (And.intro (H13.out.1.below hb14) (H13.out.2.trans (H13.out.1.same hb14)))
              clear hb14
              go_wp2_with fail
              refine ⟨by simp, .inl ⟨_, _, rfl, run_takeDeferred ((H14.out.2 D hTm.2).trans HX.out.2.2.1), ?_⟩⟩
              exact ⟨_, results_tmp rfl _ _ _, rfl, H14.out.1.b.trans ((Turn.put w14 D (.deferred none)).below H14.out.1.b.size (fun b hb => by obtain rfl := List.mem_singleton.1 hb; exact HX.out.2.2.2))⟩
        · skip
          go_wp2_with fail
          rw [EVh.out]
          obtain ⟨T8, eT⟩ : ∃ T8, V :: ((N :: [G, Q]) ++ D :: [B1, B2]) = T8 := ⟨_, rfl⟩
          have hTm : V ∈ T8 ∧ D ∈ T8 := by rw [← eT]; simp
          rw [eT] at HX
          obtain ⟨w8, e8⟩ : ∃ w8, X.alloc (Obj.cells #[.int .i64 (-1), .int .i64 4096, .int .i64 (-9223372036854775808)] 3) = w8 := ⟨_, rfl⟩
          rw [e8] at HX ⊢
          clear eT e8 cN hlen
          go_loopg [79] 3 (fun g i wr => ∃ k : Nat, k ≤ 3 ∧ g = 3 - k ∧ i = .int .i64 k ∧ Hid (St w T8 R os ds wr ∧ Same T8 w8 wr))
          case atStart => exact ⟨0, by omega, by omega, rfl, Lib.hid ⟨HX.out.1, Same.refl _ _⟩⟩
          case round =>
            obtain ⟨k, hk, hg, rfl, hI⟩ := hrel
            by_cases hlt : k < 3
            · have hV := (hI.out.2 V hTm.1).trans HX.out.2.1
              obtain ⟨x, hcx, hxo, hx1, hx2⟩ : ∃ x : Int, wr.cell? ⟨V, k, none⟩ = some (.int .i64 x) ∧ ¬ (0 ≤ x ∧ x < 4096) ∧ -9223372036854775808 ≤ x ∧ x ≤ 9223372036854775807 := by
                have h3 : k = 0 ∨ k = 1 ∨ k = 2 := by omega
                rcases h3 with rfl | rfl | rfl
                · exact ⟨-1, by rw [cell_of_row _ _ 0 _ 3 (0, 0) hV]; rfl, by omega, by omega, by omega⟩
                · exact ⟨4096, by rw [cell_of_row _ _ 1 _ 3 (0, 0) hV]; rfl, by omega, by omega, by omega⟩
                · exact ⟨-9223372036854775808, by rw [cell_of_row _ _ 2 _ 3 (0, 0) hV]; rfl, by omega, by omega, by omega⟩
              have WK := Lib.hid (walk_st hI.out.1 HT.out.1 1 x (by rw [HT.out.2.1]; rfl) hx1 hx2 none (at_out hxo) 0 rfl)
              have HK := Lib.hid (And.intro hk (And.intro hg (And.intro hlt (And.intro hxo (And.intro hx1 hx2)))))
              have i1 : IntKind.i64.wrap ((k : Int) + 1) = ((k + 1 : Nat) : Int) := by rw [IntKind.wrap_i64]; omega
              clear hV hk hg hxo hx1 hx2
              go_wp2_with fail
              refine WK.out.mono ?_; rintro e w9 ⟨rfl, h9, sm9, _⟩
              have FB := Lib.hid (fill_bad h9 HT.out.1 1 x 7 9 1 true (.inl ⟨by rw [HT.out.2.1]; rfl, .inl HK.out.2.2.2.1⟩) HK.out.2.2.2.2.1 HK.out.2.2.2.2.2 (by omega) (by omega))
              have H9 := Lib.hid (hI.out.2.trans sm9)
              clear h9 sm9 WK hI
              go_wp2_with fail
              refine FB.out.mono ?_; rintro e w10 ⟨rfl, h10, sm10, _⟩
              have HI := Lib.hid (show St w T8 R os ds w10 ∧ Same T8 w8 w10 from ⟨h10, H9.out.trans sm10⟩)
              clear h10 sm10 FB
              go_wp2_with fail
              go_roundg (3 - (k + 1))
              case rel => exact ⟨k + 1, by have := HK.out; omega, rfl, by first | rfl | go_num, HI⟩
              case measure => have := HK.out; omega
            · obtain rfl : k = 3 := by omega
              have FB := Lib.hid (fill_bad hI.out.1 HT.out.1 1 1 0 9 1 true (.inl ⟨by rw [HT.out.2.1]; rfl, .inr (by omega)⟩) (by omega) (by omega) (by omega) (by omega))
              have H8 := Lib.hid hI.out.2
              clear hI
              go_wp2_with fail
              refine FB.out.mono ?_; rintro e w10 ⟨rfl, h10, sm10, _⟩
              have FB := Lib.hid (fill_bad h10 HT.out.1 0 1 7 9 1 true (.inr rfl) (by omega) (by omega) (by omega) (by omega))
              have H10 := Lib.hid (H8.out.trans sm10)
              clear h10 sm10
              obtain ⟨z, ez⟩ : ∃ z : Int, bits .and .i64 va 262143 = z := ⟨_, rfl⟩
              have hz : 0 ≤ z ∧ z < 262144 := by rw [← ez, i64_and18]; omega
              have PG := Lib.hid (fun (Y : World) => page_any z Y hz.1 (by omega))
              have OF := Lib.hid (fun (Y : World) => offset_any z Y hz.1 (by omega))
              obtain ⟨z1, ez1⟩ : ∃ z1 : Int, z / 64 = z1 := ⟨_, rfl⟩
              obtain ⟨z2, ez2⟩ : ∃ z2 : Int, z % 64 = z2 := ⟨_, rfl⟩
              rw [ez1] at PG
              rw [ez2] at OF
              have i1 : IntKind.i64.wrap (z1 * 64) = z1 * 64 := by rw [IntKind.wrap_i64]; omega
              have i2 : IntKind.i64.wrap (z1 * 64 + z2) = z := by rw [IntKind.wrap_i64]; omega
              have i3 : decide (z2 < 64) = true := by simp; omega
              have i4 : (z == z) = true := by simp
              clear ez1 ez2 hz
              go_wp2_with fail
              refine FB.out.mono ?_; rintro e w11 ⟨rfl, h11, sm11, _⟩
              have H11 := Lib.hid (And.intro h11 (H10.out.trans sm11))
              clear h11 sm11
              go_wp2_with fail
              refine (PG.out _).mono ?_; rintro e w12 ⟨rfl, hb12⟩
              have H12 := Lib.hid (And.intro (H11.out.1.below hb12) (H11.out.2.trans (H11.out.1.same hb12)))
              clear hb12
              go_wp2_with fail
              refine (OF.out _).mono ?_; rintro e w13 ⟨rfl, hb13⟩
              have H13 := Lib.hid (And.intro (H12.out.1.below hb13) (H12.out.2.trans (H12.out.1.same hb13)))
              clear hb13
              go_wp2_with fail
              refine (OF.out _).mono ?_; rintro e w14 ⟨rfl, hb14⟩
              have H14 := Lib.hid (And.intro (H13.out.1.below hb14) (H13.out.2.trans (H13.out.1.same hb14)))
              clear hb14
              go_wp2_with fail
              refine ⟨by simp, .inl ⟨_, _, rfl, run_takeDeferred ((H14.out.2 D hTm.2).trans HX.out.2.2.1), ?_⟩⟩
              exact ⟨_, results_tmp rfl _ _ _, rfl, H14.out.1.b.trans ((Turn.put w14 D (.deferred none)).below H14.out.1.b.size (fun b hb => by obtain rfl := List.mem_singleton.1 hb; exact HX.out.2.2.2))⟩
end Go.Proofs.Ytliljicmkgbfpaa
