/- PagesRuns. -/
import Derived.Test.YtliljicmkgbfpaaSg
import Derived.Test.YtliljicmkgbfpaaTb
import Derived.Test.YtliljicmkgbfpaaHd
import Derived.Test.YtliljicmkgbfpaaSa
set_option linter.unusedVariables false
set_option linter.unusedSimpArgs false
namespace Pg
theorem KS.known {ks : List (Nat × Nat)} {kn : Nat → Prop} (h : KS ks kn) {p : Nat} (hp : kn p) : (Pg.fill ks p).length = ks.length := by
  have h1 : (1, p / 512) ∈ ks := (h.mem _ _).2 (.inr (.inl ⟨rfl, p, hp, rfl⟩))
  have h2 : (2, p / 64) ∈ ks := (h.mem _ _).2 (.inr (.inr (.inl ⟨rfl, p, hp, rfl⟩)))
  have h3 : (3, p / 8) ∈ ks := (h.mem _ _).2 (.inr (.inr (.inr ⟨rfl, p, hp, rfl⟩)))
  unfold Pg.fill ins
  rw [if_pos h1, if_pos h2, if_pos h3]
end Pg
namespace Go.Proofs.Ytliljicmkgbfpaa
open Go.RowKit Go.Shelf Go.Maps Pg
set_option linter.unusedVariables false
set_option linter.unusedSimpArgs false
theorem pg50 (x : Int) : ∃ (t u : Int) (p : Nat), x.tmod 50 = t ∧ RowKit.wrap64 (t + 50) = u ∧ IntKind.i64.wrap (t + 50) = u ∧ u.tmod 50 = (p : Int) ∧ p < 50 := by
  have h1 := Int.tmod_lt_of_pos x (show (0 : Int) < 50 by omega)
  have h2 := Int.lt_tmod_of_pos x (show (0 : Int) < 50 by omega)
  have e : RowKit.wrap64 (x.tmod 50 + 50) = x.tmod 50 + 50 := by unfold RowKit.wrap64; omega
  have e2 : IntKind.i64.wrap (x.tmod 50 + 50) = x.tmod 50 + 50 := by rw [IntKind.wrap_i64]; omega
  refine ⟨_, _, ((x.tmod 50 + 50) % 50).toNat, rfl, e, e2, ?_, by omega⟩
  rw [Int.tmod_eq_emod_of_nonneg (by omega)]
  omega
theorem pg4 (x : Int) : ∃ (t u : Int) (p : Nat), x.tmod 4 = t ∧ RowKit.wrap64 (t + 4) = u ∧ IntKind.i64.wrap (t + 4) = u ∧ u.tmod 4 = (p : Int) ∧ p < 4 := by
  have h1 := Int.tmod_lt_of_pos x (show (0 : Int) < 4 by omega)
  have h2 := Int.lt_tmod_of_pos x (show (0 : Int) < 4 by omega)
  have e : RowKit.wrap64 (x.tmod 4 + 4) = x.tmod 4 + 4 := by unfold RowKit.wrap64; omega
  have e2 : IntKind.i64.wrap (x.tmod 4 + 4) = x.tmod 4 + 4 := by rw [IntKind.wrap_i64]; omega
  refine ⟨_, _, ((x.tmod 4 + 4) % 4).toNat, rfl, e, e2, ?_, by omega⟩
  rw [Int.tmod_eq_emod_of_nonneg (by omega)]
  omega
theorem pg6 (x : Int) : ∃ (t u : Int) (p : Nat), x.tmod 6 = t ∧ RowKit.wrap64 (t + 6) = u ∧ IntKind.i64.wrap (t + 6) = u ∧ u.tmod 6 = (p : Int) ∧ p < 6 := by
  have h1 := Int.tmod_lt_of_pos x (show (0 : Int) < 6 by omega)
  have h2 := Int.lt_tmod_of_pos x (show (0 : Int) < 6 by omega)
  have e : RowKit.wrap64 (x.tmod 6 + 6) = x.tmod 6 + 6 := by unfold RowKit.wrap64; omega
  have e2 : IntKind.i64.wrap (x.tmod 6 + 6) = x.tmod 6 + 6 := by rw [IntKind.wrap_i64]; omega
  refine ⟨_, _, ((x.tmod 6 + 6) % 6).toNat, rfl, e, e2, ?_, by omega⟩
  rw [Int.tmod_eq_emod_of_nonneg (by omega)]
  omega
theorem wiped {mp mpc : Nat → Option (Nat × Bool)} {f want : Nat} {left : Lit → Bool} (hA : ∀ q, mpc q = mp q ∨ (mpc q = none ∧ leads mp f q = true)) (hB : ∀ q : Nat, leads mp f q = true → mpc q ≠ none → left (.int .i64 (q : Int)) = true) (hl : ∀ kl, left kl = false) (hC : want + cntN mpc 4096 = cntN mp 4096) : mpc = wipe mp f ∧ want = many mp f := by
  have e : mpc = wipe mp f := by
    funext q
    unfold wipe
    cases hm : mp q with
    | none =>
      rcases hA q with e | e
      · rw [e, hm]
      · exact e.1
    | some x =>
      obtain ⟨g, m⟩ := x
      dsimp only
      by_cases hg : g = f
      · rw [if_pos hg]
        have hlq : leads mp f q = true := by unfold leads; rw [hm]; simp [hg]
        cases hc : mpc q with
        | none => rfl
        | some y => have := hB q hlq (by rw [hc]; simp); rw [hl] at this; cases this
      · rw [if_neg hg]
        rcases hA q with e | e
        · rw [e, hm]
        · have := e.2
          unfold leads at this
          rw [hm] at this
          simp [hg] at this
  refine ⟨e, ?_⟩
  have h1 := cntN_wipe mp f 4096
  rw [e] at hC
  have h2 : many mp f = ((List.range 4096).filter (leads mp f)).length := rfl
  omega
theorem wipe_step {mp mpc : Nat → Option (Nat × Bool)} {f want q g : Nat} {c : Bool} {left : Lit → Bool} (hA : ∀ q, mpc q = mp q ∨ (mpc q = none ∧ leads mp f q = true)) (hB : ∀ q : Nat, leads mp f q = true → mpc q ≠ none → left (.int .i64 (q : Int)) = true) (hC : want + cntN mpc 4096 = cntN mp 4096) (hqm : mpc q = some (g, c)) (hmq : mp q = some (g, c)) (e : g = f) (hq : q < 4096) :
    (∀ x, del mpc q x = mp x ∨ (del mpc q x = none ∧ leads mp f x = true)) ∧ (∀ x : Nat, leads mp f x = true → del mpc q x ≠ none → (fun z : Lit => left z && !z.sameKey (.int .i64 (q : Int))) (.int .i64 (x : Int)) = true) ∧ want + 1 + cntN (del mpc q) 4096 = cntN mp 4096 := by
  refine ⟨fun x => ?_, fun x hx hn => ?_, ?_⟩
  · by_cases ex : x = q
    · subst ex
      exact .inr ⟨del_at _ _, by unfold leads; rw [hmq]; simp [e]⟩
    · rw [del_ne _ ex]; exact hA x
  · by_cases ex : x = q
    · subst ex; exact absurd (del_at mpc x) hn
    · rw [del_ne _ ex] at hn
      dsimp only
      rw [hB x hx hn]
      simp [Lit.sameKey]
      omega
  · have := cntN_del mpc q (by rw [hqm]; rfl) 4096 hq
    omega
theorem wipe_skip {mp mpc : Nat → Option (Nat × Bool)} {f want q g : Nat} {c : Bool} {left : Lit → Bool} (hA : ∀ q, mpc q = mp q ∨ (mpc q = none ∧ leads mp f q = true)) (hB : ∀ q : Nat, leads mp f q = true → mpc q ≠ none → left (.int .i64 (q : Int)) = true) (hC : want + cntN mpc 4096 = cntN mp 4096) (hmq : mp q = some (g, c)) (e : ¬ g = f) :
    (∀ x, mpc x = mp x ∨ (mpc x = none ∧ leads mp f x = true)) ∧ (∀ x : Nat, leads mp f x = true → mpc x ≠ none → (fun z : Lit => left z && !z.sameKey (.int .i64 (q : Int))) (.int .i64 (x : Int)) = true) ∧ want + cntN mpc 4096 = cntN mp 4096 := by
  refine ⟨hA, fun x hx hn => ?_, hC⟩
  by_cases ex : x = q
  · subst ex
    unfold leads at hx
    rw [hmq] at hx
    simp [e] at hx
  · dsimp only
    rw [hB x hx hn]
    simp [Lit.sameKey]
    omega
/-- A root in a memory, a map of where its pages lead, and a set of those that have tables. -/
def RI (W : World) (T : List Nat) (R GM GK j : Nat) (wr : World) : Prop := ∃ os ds ks nd mp kn, St W T R os ds wr ∧ Tb os ds 9 ks nd mp ∧ nd 0 0 = 1 ∧ KS ks (fun p => p ∈ kn) ∧ (∀ p ∈ kn, p < 4096) ∧ WayM wr GM j mp ∧ SetM wr GK j kn ∧ os.count 0 + ks.length = 400 ∧ ks.length ≤ 1 + 3 * j ∧ kn.length ≤ j
set_option maxRecDepth 100000 in
set_option maxHeartbeats 8000000 in
theorem runs_all (A : Option Addr) (l c : Nat) (xs : List Cl) (w : World) (hn : xs.length = l) (hm : l ≤ 100) (hr : Cls w A xs) :
    Calls Try.prog 3 #[.slice A l c] w fun e w' => e = .returned (.bool true) ∧ Below w.heap.size w w' := by
  have B := Lib.hid fit_any
  have h100 : ¬ (100 : Int) < l := by omega
  have h100' : ¬ 100 < l := by omega
  have XR := Lib.hid hr
  have HN := Lib.hid (And.intro hn hm)
  clear hr hn hm
  have hmm := @run_makeMap Try.prog
  go_enter Try.func3, Try.ntmps3
  go_wp2_with fail
  refine (B.out _).mono ?_; rintro e w1 ⟨rfl, g1⟩
  go_wp2_with fail
  refine (new_st 400 w _ [] (by omega) (by omega) g1 (by simp)).mono ?_; rintro e w2 ⟨R, ds0, rfl, h1, _⟩
  have A1 := Lib.hid (alloc_st 9 h1 (by omega) 1 1 ((List.replicate 400 0).set 0 9) rfl rfl)
  have D1 := Lib.hid h1.len.1
  clear h1 g1 B
  go_wp2_with fail
  refine A1.out.mono ?_; rintro e w3 ⟨rfl, h2, _⟩
  have t2 : Tb ((List.replicate 400 0).set 0 9) (ds0.set 0 Fr.zeros) 9 [(0, 0)] (fun _ _ => 1) (fun _ => none) := root_new (List.replicate 400 0) ds0 9 0 (by omega) rfl rfl (by simp) rfl rfl D1.out
  have hst : St w [w3.heap.size + 1, w3.heap.size] R ((List.replicate 400 0).set 0 9) (ds0.set 0 Fr.zeros) ((w3.alloc (.map #[] 0)).alloc (.map #[] 0)) := by
    have := (h2.alloc (.map #[] 0)).alloc (.map #[] 0)
    simp only [World.size_alloc] at this
    exact this
  have hA : WayM ((w3.alloc (.map #[] 0)).alloc (.map #[] 0)) w3.heap.size 0 (fun _ => none) := (WayM.new w3).same (by rw [Below.heap_alloc _ _ _ (by simp)])
  have hB : SetM ((w3.alloc (.map #[] 0)).alloc (.map #[] 0)) (w3.heap.size + 1) 0 [] := by
    have := SetM.new (w3.alloc (.map #[] 0))
    rw [World.size_alloc] at this
    exact this
  have hW3 := h2.b.size
  obtain ⟨GM, eGM⟩ : ∃ g, w3.heap.size = g := ⟨_, rfl⟩
  have HG := Lib.hid eGM
  rw [eGM] at hst hA hB hW3
  have H3 := Lib.hid (And.intro hst (And.intro t2 (And.intro hA (And.intro hB hW3))))
  clear h2 A1 t2 hst hA hB hW3 eGM
  go_wp2_with fail
  rw [HG.out]
  obtain ⟨GK, eGK⟩ : ∃ g, GM + 1 = g := ⟨_, rfl⟩
  rw [eGK] at H3 ⊢
  obtain ⟨w5, e5⟩ : ∃ x, (w3.alloc (.map #[] 0)).alloc (.map #[] 0) = x := ⟨_, rfl⟩
  rw [e5] at H3 ⊢
  have HGG := Lib.hid (And.intro eGK H3.out.2.2.2.2)
  clear e5 eGK HG D1
  go_loopg [36] l (fun g i wr => ∃ j : Nat, j ≤ l ∧ g = l - j ∧ i = .int .i64 j ∧ Hid (RI w [GK, GM] R GM GK j wr))
  case atStart => exact ⟨0, by omega, by omega, rfl, Lib.hid ⟨_, _, _, _, _, [], H3.out.1, H3.out.2.1, rfl, KS.nil.same (fun p => by simp), by simp, H3.out.2.2.1, H3.out.2.2.2.1, by decide, by decide, by simp⟩⟩
  case round =>
    obtain ⟨j, hj, hg, rfl, hI⟩ := hrel
    by_cases hlt : j < l
    · obtain ⟨x, hx⟩ : ∃ x, xs[j]? = some x := ⟨_, List.getElem?_eq_getElem (by rw [HN.out.1]; exact hlt)⟩
      obtain ⟨b, of, rfl, hxo, hb, q0, q1, q2, q3, q4⟩ := XR.out j _ hx
      obtain ⟨os, ds, ks, nd, mp, kn, hst, tb, r0, hks, hkn, hmp, hsk, hcn, hkl, hnl⟩ := hI.out
      have c0 : wr.cell? ⟨b, of + j * 5, none⟩ = some (.int .i64 x.k) := by rw [hst.b.cell (p := ⟨b, _, none⟩) hb]; exact q0
      have c1 : wr.cell? ⟨b, of + j * 5 + 1, none⟩ = some (.int .i64 x.p) := by rw [hst.b.cell (p := ⟨b, _, none⟩) hb]; exact q1
      have c2 : wr.cell? ⟨b, of + j * 5 + 2, none⟩ = some (.int .i64 x.f) := by rw [hst.b.cell (p := ⟨b, _, none⟩) hb]; exact q2
      have c3 : wr.cell? ⟨b, of + j * 5 + 3, none⟩ = some (.int .i64 x.m) := by rw [hst.b.cell (p := ⟨b, _, none⟩) hb]; exact q3
      have c4 : wr.cell? ⟨b, of + j * 5 + 4, none⟩ = some (.bool x.b) := by rw [hst.b.cell (p := ⟨b, _, none⟩) hb]; exact q4
      obtain ⟨xk, xp, xf, xm, xb⟩ := x
      dsimp only at c0 c1 c2 c3 c4
      obtain ⟨pt, pu, p, pf1, pf2, pf2', pf3, hp⟩ := pg4096 xp
      obtain ⟨ft, fu, f0, ff1, ff2, ff2', ff3, hf⟩ := pg50 xf
      obtain ⟨kt, ku, k, kf1, kf2, kf2', kf3, hk⟩ := pg4 xk
      obtain ⟨f, ef⟩ : ∃ f : Nat, f0 + 350 = f := ⟨_, rfl⟩
      have hfb : 1 ≤ f ∧ f ≤ 1000000 := by omega
      have HFB := Lib.hid hfb
      clear hfb
      have ff4 : IntKind.i64.wrap ((f0 : Int) + 350) = (f : Int) := by rw [IntKind.wrap_i64]; omega
      have ff4' : RowKit.wrap64 ((f0 : Int) + 350) = (f : Int) := by unfold RowKit.wrap64; omega
      have i1 : IntKind.i64.wrap ((j : Int) + 1) = ((j + 1 : Nat) : Int) := by rw [IntKind.wrap_i64]; have := HN.out; omega
      have hst2 := hst.alloc (Obj.cells #[.int .i64 xk, .int .i64 xp, .int .i64 xf, .int .i64 xm, .bool xb] 31)
      have hC2 := heap_alloc_new wr (Obj.cells #[.int .i64 xk, .int .i64 xp, .int .i64 xf, .int .i64 xm, .bool xb] 31)
      have hltT := hst.2.1
      have hk2 : ∀ b ∈ [GK, GM], (wr.alloc (Obj.cells #[.int .i64 xk, .int .i64 xp, .int .i64 xf, .int .i64 xm, .bool xb] 31)).heap[b]? = wr.heap[b]? := fun b hb => Below.heap_alloc _ _ _ (hltT b hb)
      have hWr := hst.b.size
      obtain ⟨C, eC⟩ : ∃ C, wr.heap.size = C := ⟨_, rfl⟩
      have HEC := Lib.hid eC
      rw [eC] at hst2 hC2 hltT hWr
      obtain ⟨wc, ewc⟩ : ∃ x, wr.alloc (Obj.cells #[.int .i64 xk, .int .i64 xp, .int .i64 xf, .int .i64 xm, .bool xb] 31) = x := ⟨_, rfl⟩
      have HEW := Lib.hid ewc
      rw [ewc] at hst2 hC2 hk2
      have HX := Lib.hid (And.intro hst2 (And.intro hC2 (And.intro (hmp.same (hk2 GM (by simp))) (And.intro (hsk.same (hk2 GK (by simp))) (And.intro hWr hltT)))))
      have HT := Lib.hid (And.intro tb (And.intro r0 (And.intro hks (And.intro hkn (And.intro hcn (And.intro hkl (And.intro hnl (And.intro hp (And.intro hf (And.intro hk ef))))))))))
      have HJ := Lib.hid (And.intro hj (And.intro hg hlt))
      clear hst tb r0 hks hkn hmp hsk hcn hkl hnl hI hst2 hC2 hk2 hltT hWr eC ewc hx hxo hb q0 q1 q2 q3 q4 ef hf hp hk hj hg
      go_upto_block 2 with fail
      rw [HEC.out, HEW.out]
      go_cut [9] (fun s9 wx => s9 = .int .i64 (p : Int) ∧ Hid (RI w [GK, GM] R GM GK (j + 1) wx))
      case first =>
        clear pf1 pf2 pf2' pf3 ff1 ff2 ff2' ff3 ff4 ff4' kf1 kf2 kf2'
        have hk := HT.out.2.2.2.2.2.2.2.2.2.1
        have h4 : k = 0 ∨ k = 1 ∨ k = 2 ∨ k = 3 := by omega
        clear hk
        have hcell : ∀ X : World, X.heap[C]? = wc.heap[C]? → X.cell? ⟨C, 3, none⟩ = some (.int .i64 xm) ∧ X.cell? ⟨C, 4, none⟩ = some (.bool xb) := fun X e => by
          have := e.trans HX.out.2.1
          exact ⟨by rw [cell_of_row _ _ 3 _ 31 (0, 0) this]; rfl, by rw [cell_of_row _ _ 4 _ 31 (0, 0) this]; rfl⟩
        have HCC := Lib.hid hcell
        clear hcell
        rcases h4 with rfl | rfl | rfl | rfl
        · obtain ⟨mt, mu, m, mf1, mf2, mf2', mf3, hm⟩ := pg6 xm
          obtain ⟨nn, hn3, hnn⟩ := need_of ks p
          have hmb : (m : Int) ≤ 1000000 := by omega
          have HMB := Lib.hid hmb
          clear hmb
          obtain ⟨c3C, _⟩ := HCC.out wc rfl
          obtain ⟨w6, hrun6, hsk6, hg6⟩ := HX.out.2.2.2.1.store (j := p) (x := (p : Int)) (by unfold maxLen; have := HJ.out; have := HN.out; omega) (by have := HT.out.2.2.2.2.2.2.2.1; omega) rfl
          have hltc := HX.out.1.2.1
          have hCne : C ≠ GK ∧ C ≠ GM := by have h1 := HX.out.2.2.2.2.2 GK (by simp); have h2 := HX.out.2.2.2.2.2 GM (by simp); exact ⟨by omega, by omega⟩
          have hne : GK ≠ GM := by have := HGG.out; omega
          have h6 := HX.out.1.turn1 (g := GK) (by simp) (by have := HGG.out; omega) (Turn.of_grown hg6)
          have hmp6 : WayM w6 GM j mp := HX.out.2.2.1.same (hg6.block GM (hltc GM (by simp)) (fun e => hne (Option.some.inj e).symm))
          have hC6 : w6.heap[C]? = wc.heap[C]? := hg6.block C (hltc C (by simp)) (fun e => hCne.1 (Option.some.inj e))
          have hkl' := HT.out.2.2.2.2.2.2.1
          have TA := Lib.hid (tables_any GK (j + 1) (add kn p) w6 hsk6 (fun q hq => by rcases mem_add.1 hq with e | e; exact e ▸ HT.out.2.2.2.2.2.2.2.1; exact HT.out.2.2.2.1 q e) (by unfold add; split; (have := HJ.out; have := HN.out; omega); (simp; have := HJ.out; have := HN.out; omega)))
          obtain ⟨KL, eKL⟩ : ∃ KL : Int, ((ks.length : Nat) : Int) = KL := ⟨_, rfl⟩
          obtain ⟨kl, ekl⟩ : ∃ kl : Int, KL - 1 = kl := ⟨_, rfl⟩
          obtain ⟨sl, esl⟩ : ∃ sl : Int, kl + (nn : Int) = sl := ⟨_, rfl⟩
          have hKLb : 1 ≤ KL ∧ KL ≤ 400 := by
            have := HT.out.2.2.2.2.2.1; have := HJ.out; have := HN.out
            have : 0 < ks.length := List.length_pos_of_mem HT.out.1.root
            omega
          have i5 : IntKind.i64.wrap (KL - 1) = kl := by rw [IntKind.wrap_i64]; omega
          have i6 : IntKind.i64.wrap (sl - kl) = (nn : Int) := by rw [IntKind.wrap_i64]; omega
          have i7 : IntKind.i64.wrap (1 + kl) = KL := by rw [IntKind.wrap_i64]; omega
          have i9 : IntKind.i64.wrap KL = KL := by rw [IntKind.wrap_i64]; omega
          have H6 := Lib.hid (And.intro h6 (And.intro hmp6 (And.intro hC6 (And.intro hsk6 (And.intro hCne (And.intro hne (And.intro hKLb (And.intro eKL (And.intro ekl (And.intro esl (And.intro hn3 (And.intro hnn hm))))))))))))
          clear h6 hmp6 hC6 hsk6 hg6 hltc hCne hkl' hne hKLb eKL ekl esl hn3 hnn hm
          go_wp2_with fail
          clear mf1 mf2 mf2' mf3
          refine TA.out.mono ?_; rintro e w7 ⟨sk, rfl, hsk7, hb7⟩
          have hskl : ((sk.length : Nat) : Int) = sl := by
            have h1 := KS.count ((HT.out.2.2.1.fill p).same (fun q => (mem_add (S := kn) (i := p) (j := q)).symm)) (fun q hq => by rcases mem_add.1 hq with e | e; exact e ▸ HT.out.2.2.2.2.2.2.2.1; exact HT.out.2.2.2.1 q e) sk hsk7.1 hsk7.2
            have := H6.out
            omega
          rw [hskl]
          have h7 := H6.out.1.below hb7
          have hs7 : Same [C, GK, GM] w6 w7 := H6.out.1.same hb7
          have CO := Lib.hid (count_st 9 h7 (by omega) KL (by rw [if_neg (by omega), HT.out.1.cnt]; exact H6.out.2.2.2.2.2.2.2.1))
          have H7 := Lib.hid hs7
          clear h7 hb7 hsk7 hskl hs7 TA
          go_wp2_with fail
          refine CO.out.mono ?_; rintro e w8 ⟨rfl, h8, sm8, _⟩
          have hs8 := H7.out.trans sm8
          have hC8 : w8.heap[C]? = wc.heap[C]? := (hs8 C (by simp)).trans H6.out.2.2.1
          have hsk8 := H6.out.2.2.2.1.same (hs8 GK (by simp))
          have hmp8 := H6.out.2.1.same (hs8 GM (by simp))
          by_cases hmn : nn ≤ m
          · have hgt : decide ((m : Int) < (nn : Int)) = false := by simp; omega
            have hle : decide ((nn : Int) ≤ (m : Int)) = true := by simp; omega
            have hgt' : decide (m < nn) = false := by simp; omega
            have hle' : decide (nn ≤ m) = true := by simp; omega
            have hn1 : ((nn : Int) != (nn : Int)) = false := by simp
            obtain ⟨KN, eKN⟩ : ∃ KN : Int, KL + (nn : Int) = KN := ⟨_, rfl⟩
            have i8 : IntKind.i64.wrap (KL + (nn : Int)) = KN := by rw [IntKind.wrap_i64]; have := H6.out; omega
            have hk1 : (KN != KN) = false := by simp
            obtain ⟨_, c4C⟩ := HCC.out w8 hC8
            have FL := Lib.hid (fill_st h8 HT.out.1 1 (p : Int) (f : Int) (m : Int) 9 xb (by rw [HT.out.2.1]; rfl) p f nn rfl HT.out.2.2.2.2.2.2.2.1 rfl HFB.out.1 HFB.out.2 rfl H6.out.2.2.2.2.2.2.2.2.2.2.2.1 (by omega) HMB.out (by have := H6.out; have := HT.out.2.2.2.2; omega))
            have H8 := Lib.hid (And.intro hC8 (And.intro hsk8 (And.intro hmp8 eKN)))
            clear h8 sm8 hs8 hC8 hsk8 hmp8 hmn eKN CO
            go_wp2_with fail
            refine FL.out.mono ?_; rintro e w9 ⟨rfl, os9, ds9, nd9, h9, t9, r9, o9, c9, sm9⟩
            have hC9 : w9.heap[C]? = wc.heap[C]? := (sm9 C (by simp)).trans H8.out.1
            have CO := Lib.hid (count_st 9 h9 (by omega) KN (by rw [if_neg (by omega), t9.cnt]; have := H6.out; have := H8.out; omega))
            have H9 := Lib.hid (And.intro t9 (And.intro r9 (And.intro c9 (And.intro (H8.out.2.1.same (sm9 GK (by simp))) (And.intro (H8.out.2.2.1.same (sm9 GM (by simp))) hC9)))))
            clear h9 t9 r9 o9 c9 sm9 hC9 FL
            go_wp2_with fail
            refine CO.out.mono ?_; rintro e wA ⟨rfl, hA, smA, _⟩
            obtain ⟨_, c4A⟩ := HCC.out wA ((smA C (by simp)).trans H9.out.2.2.2.2.2)
            obtain ⟨wB, hrunB, hmpB, hgB⟩ := (H9.out.2.2.2.2.1.same (smA GM (by simp))).store (p := p) (f := f) (m := xb) (x := (p : Int)) (y := (f : Int)) (by unfold maxLen; have := HJ.out; have := HN.out; omega) HT.out.2.2.2.2.2.2.2.1 rfl rfl
            have hB := hA.turn1 (g := GM) (by simp) HGG.out.2 (Turn.of_grown hgB)
            have hskB : SetM wB GK (j + 1) (add kn p) := (H9.out.2.2.2.1.same (smA GK (by simp))).same (hgB.block GK (hA.2.1 GK (by simp)) (fun e => H6.out.2.2.2.2.2.1 (Option.some.inj e)))
            have HE : Hid (RI w [GK, GM] R GM GK (j + 1) wB) := by
              obtain ⟨tb, r0, hks, hkn, hcn, hkl, hnl, hp, _⟩ := HT.out
              obtain ⟨t9, r9, c9, _⟩ := H9.out
              have h6 := H6.out
              refine Lib.hid ⟨_, _, _, _, _, add kn p, hB.less (fun b hb => List.mem_cons_of_mem _ hb), t9, r9.trans r0, (hks.fill p).same (fun q => (mem_add (S := kn) (i := p) (j := q)).symm), fun q hq => ?_, hmpB, hskB, by omega, by omega, ?_⟩
              · rcases mem_add.1 hq with e | e
                · exact e ▸ hp
                · exact hkn q e
              · unfold add
                split
                · omega
                · simp; omega
            clear hA smA hmpB hgB hB hskB CO
            go_wp2_with fail
            go_meet
            exact ⟨rfl, HE⟩
          · have hgt : decide ((m : Int) < (nn : Int)) = true := by simp; omega
            have hle : decide ((nn : Int) ≤ (m : Int)) = false := by simp; omega
            have hgt' : decide (m < nn) = true := by simp; omega
            have hle' : decide (nn ≤ m) = false := by simp; omega
            have hk1 : (KL != KL) = false := by simp
            have hpn : p ∉ kn := fun hm' => by
              have h1 := HT.out.2.2.1.known hm'
              have := H6.out
              omega
            obtain ⟨w9, hrun9, hsk9, ht9⟩ := hsk8.drop (j := p) (x := (p : Int)) (by have := HT.out.2.2.2.2.2.2.2.1; omega) rfl 0
            have h9 := h8.turn1 (g := GK) (by simp) (by have := HGG.out; omega) (turn_map ht9)
            have hsk9' : SetM w9 GK (j + 1) kn := by
              have e : (add kn p).erase p = kn := by unfold add; rw [if_neg hpn]; simp
              rwa [e] at hsk9
            have hmp9 := hmp8.same ((turn_map ht9).block GM (h8.2.1 GM (by simp)) (by simpa using H6.out.2.2.2.2.2.1.symm))
            have hC9 : w9.heap[C]? = wc.heap[C]? := ((turn_map ht9).block C (h8.2.1 C (by simp)) (by simpa using H6.out.2.2.2.2.1.1)).trans hC8
            obtain ⟨_, c4C⟩ := HCC.out w9 hC9
            have FL := Lib.hid (fill_few h9 HT.out.1 1 (p : Int) (f : Int) (m : Int) 9 xb (by rw [HT.out.2.1]; rfl) p f nn rfl HT.out.2.2.2.2.2.2.2.1 rfl HFB.out.1 HFB.out.2 rfl H6.out.2.2.2.2.2.2.2.2.2.2.2.1 (by omega) (by omega))
            have H9 := Lib.hid (And.intro hsk9' hmp9)
            clear h8 sm8 hs8 hC8 hsk8 hmp8 hmn hpn hsk9 ht9 h9 hsk9' hmp9 hC9 CO
            go_wp2_with fail
            refine FL.out.mono ?_; rintro e wA ⟨rfl, hA, smA, _⟩
            have CO := Lib.hid (count_st 9 hA (by omega) KL (by rw [if_neg (by omega), HT.out.1.cnt]; exact H6.out.2.2.2.2.2.2.2.1))
            have HA := Lib.hid smA
            clear hA smA FL
            go_wp2_with fail
            refine CO.out.mono ?_; rintro e wB ⟨rfl, hB, smB, _⟩
            have HE : Hid (RI w [GK, GM] R GM GK (j + 1) wB) := by
              obtain ⟨tb, r0, hks, hkn, hcn, hkl, hnl, hp, _⟩ := HT.out
              have hs := HA.out.trans smB
              exact Lib.hid ⟨_, _, _, _, _, kn, hB.less (fun b hb => List.mem_cons_of_mem _ hb), tb, r0, hks, hkn, (H9.out.2.same (hs GM (by simp))).mono (by omega), H9.out.1.same (hs GK (by simp)), hcn, by omega, by omega⟩
            clear hB smB CO
            go_wp2_with fail
            go_meet
            exact ⟨rfl, HE⟩
        · go_wp2_with fail
          go_meet
          obtain ⟨hst, _, hmp, hsk, _⟩ := HX.out
          obtain ⟨tb, r0, hks, hkn, hcn, hkl, hnl, _⟩ := HT.out
          exact ⟨rfl, Lib.hid ⟨_, _, _, _, _, _, hst.less (fun b hb => List.mem_cons_of_mem _ hb), tb, r0, hks, hkn, hmp.mono (by omega), hsk.mono (by omega), hcn, by omega, by omega⟩⟩
        · obtain ⟨D0, ho, hRg⟩ := HX.out.2.2.1.ranges
          go_wp2_with (first
            | (at_range; refine wpList_range_own _ rfl _ 28 rfl 3 36 keyI Try.underlying28 _ GM _ _ rfl ho ?_; intro w0 hrg0 hg0 hs0)
            | go_in)
          go_frame
          have hb0 : Below wc.heap.size wc w0 := (Below.refl _ _).grown hg0 (Nat.le_refl _) (fun j hj => by cases hj)
          obtain ⟨r, er⟩ : ∃ r, wc.heap.size = r := ⟨_, rfl⟩
          have hlr := HX.out.1.2.1
          have hst0 : St w [r, C, GK, GM] R os ds w0 := HX.out.1.more hb0 (fun b hb => by
            rcases List.mem_cons.1 hb with rfl | hb
            · exact ⟨.inr (by omega), by omega⟩
            · exact ⟨.inl hb, by have := hlr b hb; omega⟩)
          have hsm0 : w0.heap[GK]? = wc.heap[GK]? := hb0.block GK (hlr GK (by simp))
          have hwr := HX.out.1.b.size
          rw [er] at hrg0 hlr hwr ⊢
          have hR0 := hRg w0 r hrg0
          have hneK : GK ≠ GM := by have := HGG.out; omega
          have HS0 := Lib.hid (And.intro hst0 (And.intro hsm0 (And.intro hR0 (And.intro hlr (And.intro hwr hneK)))))
          clear hst0 hsm0 hR0 hrg0 hg0 hs0 hb0 hlr hwr ho hRg er hneK
          go_loopw [16] (fun i wr => ∃ (want : Nat) (left : Lit → Bool) (cnt : Nat) (D : DataW Unit) (mpc : Nat → Option (Nat × Bool)), i = .int .i64 want ∧ Hid (St w [r, C, GK, GM] R os ds wr ∧ wr.heap[GK]? = wc.heap[GK]?) ∧ WayR wr GM r j mpc D left cnt ∧ Hid ((∀ q, mpc q = mp q ∨ (mpc q = none ∧ leads mp f q = true)) ∧ (∀ q : Nat, leads mp f q = true → mpc q ≠ none → left (.int .i64 (q : Int)) = true) ∧ want + cntN mpc 4096 = cntN mp 4096)) (fun _ wr => wr.rangeLeft GM r)
          case atStart => exact ⟨0, _, _, _, mp, rfl, Lib.hid ⟨HS0.out.1, HS0.out.2.1⟩, HS0.out.2.2.1, Lib.hid ⟨fun q => .inl rfl, fun q hq _ => by
            rw [HS0.out.2.2.1.has]
            unfold leads at hq
            cases hm : mp q with
            | none => rw [hm] at hq; cases hq
            | some x => simp [hm], by omega⟩⟩
          case round =>
            obtain ⟨want, left, cnt, D, mpc, rfl, hS, hR, hI⟩ := hrel
            go_wp2_with (first
              | (at_next; refine wpList_next_ranges _ rfl _ rfl 3 keyI wayR (Value.int .i64) (fun v : Value => v) (fun key kl hk => by obtain ⟨x, rfl, _⟩ := Maps.keyOf_int_inv Try.underlying3 hk; exact ⟨x, rfl⟩) (fun v y _ => ⟨v, rfl⟩) GM r j D left cnt rfl hR.rg ?_ ?_)
              | go_in)
            · intro hc0 hl0
              have hw := wiped hI.out.1 hI.out.2.1 hl0 hI.out.2.2
              have WI := Lib.hid (wipe_st hS.out.1 HT.out.1 1 (f : Int) (by rw [HT.out.2.1]; rfl) f rfl HFB.out.1 HFB.out.2)
              rw [← hw.2] at WI
              have hmp := hR.done
              rw [hw.1] at hmp
              have hww : ((want : Int) != (want : Int)) = false := by simp
              have HS := Lib.hid (And.intro hS.out.2 hmp)
              clear hc0 hl0 hS hR hI hw hmp
              go_wp2_with fail
              refine WI.out.mono ?_; rintro e w2 ⟨rfl, ds2, h2, t2, _, sm2⟩
              have HE : Hid (RI w [GK, GM] R GM GK (j + 1) w2) := by
                obtain ⟨tb, r0, hks, hkn, hcn, hkl, hnl, hp, _⟩ := HT.out
                exact Lib.hid ⟨_, _, _, _, _, kn, h2.less (fun b hb => List.mem_cons_of_mem _ (List.mem_cons_of_mem _ hb)), t2, r0, hks, hkn, (HS.out.2.same (sm2 GM (by simp))).mono (by omega), (HX.out.2.2.2.1.same ((sm2 GK (by simp)).trans HS.out.1)).mono (by omega), hcn, by omega, by omega⟩
              clear h2 t2 sm2 WI
              go_wp2_with fail
              go_meet
              exact ⟨rfl, HE⟩
            · intro x c kl y yp w1 cnt1 hk hlk hv hat hrg1 hlt1 hg1 hs1 hen
              obtain ⟨x', ex, rfl, hwx⟩ := Maps.keyOf_int_inv Try.underlying3 hk
              cases ex
              obtain ⟨q, rfl, hq4, hqs⟩ := hR.left x hlk
              obtain ⟨⟨g, m⟩, hqm⟩ := Option.isSome_iff_exists.1 hqs
              obtain ⟨c2, ec2⟩ : ∃ c2, m = c2 := ⟨_, rfl⟩
              rw [ec2] at hqm
              have hc : c = .agg #[.int .i64 (g : Int), .bool c2] := by
                obtain ⟨g', m', ey, hz⟩ := wayR_inv hv
                have e1 := hat (.lit (.int .i64 0))
                injection hz with hz _
                rw [hR.at_ q g c2 hqm, hz] at e1
                simp at e1
                rw [ey, e1.1, e1.2]
              subst hc
              clear ec2
              have hR1 := hR.next (p := q) hrg1
              have hst1 := hS.out.1.turn1 (g := r) (by simp) HS0.out.2.2.2.2.1 (Turn.of_grown hg1)
              have hrK : GK ≠ r := by have := HS0.out.2.2.2.1 GK (by simp); omega
              have hsm1 : w1.heap[GK]? = wc.heap[GK]? := (hg1.block GK (hS.out.1.2.1 GK (by simp)) (fun e => hrK (Option.some.inj e))).trans hS.out.2
              have hb2 := below_alloc1 w1 (Obj.cells #[.int .i64 (g : Int), .bool c2] 36)
              have hR2 := hR1.kept hb2
              have hst2 := hst1.below hb2
              have hsm2 : (w1.alloc (Obj.cells #[.int .i64 (g : Int), .bool c2] 36)).heap[GK]? = wc.heap[GK]? := (hb2.block GK (hst1.2.1 GK (by simp))).trans hsm1
              have hlq : (fun z => left z && !z.sameKey (.int .i64 (q : Int))) (.int .i64 (q : Int)) = false := by simp [Lit.sameKey]
              have hwb : want ≤ 4096 := by
                have h1 := hI.out.2.2
                have h2 : cntN mp 4096 ≤ 4096 := by unfold cntN; exact Nat.le_trans (List.length_filter_le _ _) (by simp)
                omega
              have i8 : IntKind.i64.wrap ((want : Int) + 1) = ((want + 1 : Nat) : Int) := by rw [IntKind.wrap_i64]; omega
              have hmq : mp q = some (g, c2) := by
                rcases hI.out.1 q with e | e
                · rw [← e]; exact hqm
                · rw [e.1] at hqm; cases hqm
              by_cases e : g = f
              · have hb : ((g : Int) == (f : Int)) = true := by simp [e]
                obtain ⟨w3, D3, cnt3, hrun3, hR3, hc3, ht3⟩ := hR2.drop hqs hq4 hlq 0
                have hst3 := hst2.turn1 (g := GM) (by simp) HGG.out.2 (turn_map ht3)
                have hsm3 : w3.heap[GK]? = wc.heap[GK]? := ((turn_map ht3).block GK (hst2.2.1 GK (by simp)) (by simpa using HS0.out.2.2.2.2.2)).trans hsm2
                have HE := Lib.hid (show _ ∧ _ ∧ _ ∧ _ from ⟨Lib.hid (And.intro hst3 hsm3), hR3, Lib.hid (wipe_step hI.out.1 hI.out.2.1 hI.out.2.2 hqm hmq e hq4), (show w3.rangeLeft GM r < wr.rangeLeft GM r by rw [hR3.rg.left_eq, hR.rg.left_eq]; omega)⟩)
                clear hR1 hR2 hst1 hst2 hsm1 hsm2 hR3 hc3 ht3 hst3 hsm3 hS hR hI hlq hwb hmq hqm hqs hq4 hk hlk hv hat hrg1 hlt1 hg1 hs1 hwx e hb2
                go_wp2_with fail
                go_roundw
                case rel => exact ⟨want + 1, by first | rfl | go_num | omega, HE.out.1, _, _, _, _, HE.out.2.1, HE.out.2.2.1⟩
                case measure => exact HE.out.2.2.2
              · have hb : ((g : Int) == (f : Int)) = false := by simp; omega
                have HE := Lib.hid (show _ ∧ _ ∧ _ ∧ _ from ⟨Lib.hid (And.intro hst2 hsm2), hR2, Lib.hid (wipe_skip hI.out.1 hI.out.2.1 hI.out.2.2 hmq e), (show (w1.alloc (Obj.cells #[.int .i64 (g : Int), .bool c2] 36)).rangeLeft GM r < wr.rangeLeft GM r by rw [hR2.rg.left_eq, hR.rg.left_eq]; exact hlt1)⟩)
                clear hR1 hR2 hst1 hst2 hsm1 hsm2 hS hR hI hlq hwb hmq hqm hqs hq4 hk hlk hv hat hrg1 hlt1 hg1 hs1 hwx e hb2
                go_wp2_with fail
                go_roundw
                case rel => exact ⟨want, rfl, HE.out.1, _, _, _, _, HE.out.2.1, HE.out.2.2.1⟩
                case measure => exact HE.out.2.2.2
        · have DR := Lib.hid (drop_st HX.out.1 HT.out.1 1 (by rw [HT.out.2.1]; rfl))
          obtain ⟨kl, ekl⟩ : ∃ kl : Int, ((ks.length : Nat) : Int) - 1 = kl := ⟨_, rfl⟩
          rw [ekl] at DR
          have hkk : (kl != kl) = false := by simp
          have HKL := Lib.hid ekl
          clear ekl
          go_wp2_with fail
          refine DR.out.mono ?_; rintro e w6 ⟨rfl, os6, ds6, h6, t6, o6, c6, sm6⟩
          have hsk6 := HX.out.2.2.2.1.same (sm6 GK (by simp))
          have hmp6 := HX.out.2.2.1.same (sm6 GM (by simp))
          have TA := Lib.hid (tables_any GK j kn w6 hsk6 HT.out.2.2.2.1 (by have := HT.out.2.2.2.2.2.2.1; have := HJ.out; have := HN.out; omega))
          have H6 := Lib.hid (And.intro h6 (And.intro t6 (And.intro c6 (And.intro hsk6 hmp6))))
          clear h6 t6 o6 c6 sm6 hsk6 hmp6 DR
          go_wp2_with fail
          refine TA.out.mono ?_; rintro e w7 ⟨sk, rfl, hsk7, hb7⟩
          have hskl : ((sk.length : Nat) : Int) = kl := by
            have := KS.count HT.out.2.2.1 HT.out.2.2.2.1 sk hsk7.1 hsk7.2
            have := HKL.out
            omega
          rw [hskl]
          have h7 := H6.out.1.below hb7
          have CO := Lib.hid (count_st 9 h7 (by omega) 1 (by rw [if_neg (by omega), H6.out.2.1.cnt]; rfl))
          have hs7 : Same [C, GK, GM] w6 w7 := H6.out.1.same hb7
          have H7 := Lib.hid (And.intro hs7 hskl)
          clear h7 hb7 hsk7 hskl hs7 TA
          go_wp2_with fail
          refine CO.out.mono ?_; rintro e w8 ⟨rfl, h8, sm8, _⟩
          have hs8 := H7.out.1.trans sm8
          obtain ⟨w9, hrun9, hmp9, ht9⟩ := (H6.out.2.2.2.2.same (hs8 GM (by simp))).clear 0
          have hlt8 := h8.2.1
          have hne : GK ≠ GM := by have := HGG.out; omega
          have hsk9 : SetM w9 GK j kn := (H6.out.2.2.2.1.same (hs8 GK (by simp))).same ((turn_map ht9).block GK (hlt8 GK (by simp)) (by simpa using hne))
          obtain ⟨w10, hrun10, hsk10, ht10⟩ := hsk9.clear 0
          have h9 := h8.turn1 (g := GM) (by simp) HGG.out.2 (turn_map ht9)
          have h10 := h9.turn1 (g := GK) (by simp) (by have := HGG.out; omega) (turn_map ht10)
          have hmp10 : WayM w10 GM j (fun _ => none) := hmp9.same ((turn_map ht10).block GM (h9.2.1 GM (by simp)) (by simpa using hne.symm))
          have HE : Hid (RI w [GK, GM] R GM GK (j + 1) w10) := by
            refine Lib.hid ⟨_, _, _, _, _, [], h10.less (fun b hb => List.mem_cons_of_mem _ hb), H6.out.2.1, HT.out.2.1, KS.nil.same (fun p => by simp), by simp, hmp10.mono (by omega), hsk10.mono (by omega), ?_, ?_, by simp⟩
            · have := H6.out.2.2.1; have := HT.out.2.2.2.2.1; simp only [List.length_singleton]; omega
            · simp
          clear h8 sm8 hs8 hmp9 ht9 hlt8 hsk9 hsk10 ht10 h9 h10 hmp10 CO
          go_wp2_with fail
          go_meet
          exact ⟨rfl, HE⟩
      case rest =>
        obtain ⟨rfl, hcut⟩ := hcut
        obtain ⟨os, ds, ks, nd, mp, kn, hst, tb, r0, hks, hkn, hmp, hsk, hcn, hkl, hnl⟩ := hcut.out
        have hp := HT.out.2.2.2.2.2.2.2.1
        obtain ⟨g, eg⟩ : ∃ g : Int, ((fr (mp p) : Nat) : Int) = g := ⟨_, rfl⟩
        obtain ⟨bs, ebs⟩ : ∃ bs, (mp p).isSome = bs := ⟨_, rfl⟩
        obtain ⟨bo, ebo⟩ : ∃ bo, Pg.ok (mp p) = bo := ⟨_, rfl⟩
        have WK := walk_st hst tb 1 (p : Int) (by rw [r0]; rfl) (by omega) (by omega) (mp p) (at_in hp) g eg
        rw [ebs, ebo] at WK
        have WK := Lib.hid WK
        have t1 : (bs != bs) = false := by simp
        have t2 : (g != g) = false := by simp
        have t3 : (bo != bo) = false := by simp
        have HR := Lib.hid (And.intro tb (And.intro r0 (And.intro hks (And.intro hkn (And.intro hmp (And.intro hsk (And.intro hcn (And.intro hkl (And.intro hnl (And.intro eg (And.intro ebs ebo)))))))))))
        have HJ2 := Lib.hid HJ.out
        clear hst tb r0 hks hkn hmp hsk hcn hkl hnl hcut eg ebs ebo HX HJ HEC HEW
        go_wp2_with fail
        refine WK.out.mono ?_; rintro e w7 ⟨rfl, h7, sm7, _⟩
        have hlook := (HR.out.2.2.2.2.1.same (sm7 GM (by simp))).look p (p : Int) rfl hp g HR.out.2.2.2.2.2.2.2.2.2.1
        rw [HR.out.2.2.2.2.2.2.2.2.2.2.1, HR.out.2.2.2.2.2.2.2.2.2.2.2] at hlook
        have hlt7 := h7.2.1
        have HI : Hid (RI w [GK, GM] R GM GK (j + 1) (w7.alloc (Obj.cells #[.int .i64 g, .bool bo] 36))) := by
          obtain ⟨tb, r0, hks, hkn, hmp, hsk, hcn, hkl, hnl, _⟩ := HR.out
          exact Lib.hid ⟨_, _, _, _, _, _, h7.below (below_alloc1 _ _), tb, r0, hks, hkn, (hmp.same (sm7 GM (by simp))).same (Below.heap_alloc _ _ _ (hlt7 GM (by simp))), (hsk.same (sm7 GK (by simp))).same (Below.heap_alloc _ _ _ (hlt7 GK (by simp))), hcn, hkl, hnl⟩
        clear h7 sm7 hlt7 WK
        go_wp2_with fail
        go_roundg (l - (j + 1))
        case rel => exact ⟨j + 1, by have := HJ2.out; omega, rfl, by first | rfl | go_num, HI⟩
        case measure => have := HJ2.out; omega
    · obtain rfl : l = j := by omega
      obtain ⟨os, ds, ks, nd, mp, kn, hst, tb, r0, hks, hkn, hmp, hsk, hcn, hkl, hnl⟩ := hI.out
      have WH := Lib.hid (whole_any hst tb 1 (by rw [r0]; rfl) GM l (by simp) hmp)
      clear hst tb r0 hks hkn hmp hsk hcn hkl hnl hI hj hg H3
      go_wp2_with fail
      refine WH.out.mono ?_; rintro e w7 ⟨rfl, hb7⟩
      have H7 := Lib.hid hb7
      clear hb7
      go_wp2_with fail
      go_ret
      exact ⟨rfl, H7.out⟩
end Go.Proofs.Ytliljicmkgbfpaa
