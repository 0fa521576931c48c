/- Walk; what is asked ahead of Fill. -/
import Derived.Test.YtliljicmkgbfpaaJc
import Derived.Test.YtliljicmkgbfpaaHp
set_option linter.unusedVariables false
set_option linter.unusedSimpArgs false
namespace Pg
variable {os os' os'' : List Nat} {ds ds' ds'' : List (List Nat)} {o : Nat} {ks : List (Nat × Nat)} {nd : Nat → Nat → Nat} {mp : Nat → Option (Nat × Bool)}
theorem Oth.refl (o : Nat) (os : List Nat) (ds : List (List Nat)) : Oth o os ds os ds := ⟨rfl, rfl, fun _ _ _ => ⟨rfl, fun _ _ _ h => ⟨h, rfl⟩⟩⟩
theorem Oth.trans (h : Oth o os ds os' ds') (k : Oth o os' ds' os'' ds'') : Oth o os ds os'' ds'' := by
  refine ⟨k.1.trans h.1, k.2.1.trans h.2.1, fun x hx hxo => ⟨(k.2.2 x hx hxo).1.trans (h.2.2 x hx hxo).1, fun f f1 f2 hf => ?_⟩⟩
  obtain ⟨a, b⟩ := (h.2.2 x hx hxo).2 f f1 f2 hf
  obtain ⟨c, d⟩ := (k.2.2 x hx hxo).2 f f1 (by rw [h.1]; exact f2) a
  exact ⟨c, d.trans b⟩
/-- A write into one's own frame. -/
theorem Oth.write {f : Nat} (f1 : 1 ≤ f) (f2 : f ≤ ds.length) (hf : os.getD (f - 1) 0 = o) (d : List Nat) : Oth o os ds os (ds.set (f - 1) d) := by
  refine ⟨rfl, by simp, fun x hx hxo => ⟨rfl, fun g g1 g2 hg => ⟨hg, ?_⟩⟩⟩
  rw [getD_set _ _ _ _ (by omega), if_neg (fun e => hxo (by rw [← hf, ← hg, e]))]
/-- A free frame is charged. -/
theorem Oth.charge {k : Nat} (hk : k < os.length) (h0 : os.getD k 0 = 0) (hl : ds.length = os.length) (d : List Nat) : Oth o os ds (os.set k o) (ds.set k d) := by
  refine ⟨by simp, by simp, fun x hx hxo => ⟨?_, fun g g1 g2 hg => ?_⟩⟩
  · have e : os[k] = 0 := by rw [List.getD_eq_getElem?_getD, List.getElem?_eq_getElem hk] at h0; exact h0
    rw [List.count_set hk, e]
    have e1 : ((0 : Nat) == x) = false := by simpa using fun e => hx e.symm
    have e2 : (o == x) = false := by simpa using fun e => hxo e.symm
    simp [e1, e2]
  · have hne : g - 1 ≠ k := fun e => hx (by rw [← hg, e, h0])
    rw [getD_setN _ _ _ _ hk, if_neg hne, getD_set _ _ _ _ (by omega), if_neg hne]
    exact ⟨hg, rfl⟩
theorem alloc_is {os : List Nat} {ds : List (List Nat)} {o : Nat} (ho : o ≠ 0) (h : 1 ≤ os.count 0) : ∃ k, k < os.length ∧ os.getD k 0 = 0 ∧ Fr.alloc os o = (k + 1, os.set k o) ∧ Fr.allocD os ds o = ds.set k Fr.zeros := by
  cases hl : Fr.least os with
  | none =>
    unfold Fr.least at hl
    rw [List.findIdx?_eq_none_iff] at hl
    have := List.count_pos_iff.1 (by omega : 0 < os.count 0)
    have := hl _ this
    simp at this
  | some k =>
    have hl' := hl
    unfold Fr.least at hl'
    rw [List.findIdx?_eq_some_iff_getElem] at hl'
    obtain ⟨h1, h2, _⟩ := hl'
    refine ⟨k, h1, ?_, ?_, ?_⟩
    · rw [List.getD_eq_getElem?_getD, List.getElem?_eq_getElem h1]; simpa using h2
    · unfold Fr.alloc; rw [if_neg ho, hl]
    · unfold Fr.allocD; rw [if_neg ho, hl]
theorem at_in {p : Nat} (hp : p < 4096) : at_ mp (p : Int) = mp p := by unfold at_; rw [if_pos (by omega)]; simp
theorem at_out {x : Int} (h : ¬ (0 ≤ x ∧ x < 4096)) : at_ mp x = none := by unfold at_; rw [if_neg h]
end Pg
namespace Go.Proofs.Ytliljicmkgbfpaa
open Go.RowKit Pg
set_option linter.unusedVariables false
set_option linter.unusedSimpArgs false
variable {W : World} {T : List Nat} {R : Nat} {os : List Nat} {ds : List (List Nat)} {o : Nat} {ks : List (Nat × Nat)} {nd : Nat → Nat → Nat} {mp : Nat → Option (Nat × Bool)} {w w' : World}
theorem way_no (h : St W T R os ds w) (r page : Int) (hr1 : -9223372036854775808 ≤ r) (hr2 : r ≤ 9223372036854775807) (hb : Fr.own os r = 0 ∨ ¬ (0 ≤ page ∧ page < 4096)) :
    Calls Try.prog 22 #[.pointer (some ⟨R, 0, none⟩), .int .i64 r, .int .i64 page] w fun e w' => e = .returned (.slice none 0 0) ∧ Below w.heap.size w w' := by
  obtain ⟨x, ex⟩ : ∃ x, Fr.own os r = x := ⟨_, rfl⟩
  have O := Lib.hid (owner_st r h hr1 hr2 x (by rw [ex]))
  rw [ex] at hb
  clear h ex
  by_cases hx : x = 0
  · subst hx
    have b1 : (((0 : Nat) : Int) == 0) = true := rfl
    go_enter Try.func22, Try.ntmps22
    go_wp2_with fail
    refine O.out.mono ?_; rintro e w1 ⟨rfl, _, _, hb1⟩
    have H1 := Lib.hid hb1
    clear hb1 O
    go_wp2_with fail
    go_ret
    exact ⟨rfl, H1.out⟩
  · have b1 : ((x : Int) == 0) = false := by simp; omega
    by_cases hn : page < 0
    · have b2 : decide (page < 0) = true := by simpa using hn
      clear hb hn hx
      go_enter Try.func22, Try.ntmps22
      go_wp2_with fail
      refine O.out.mono ?_; rintro e w1 ⟨rfl, _, _, hb1⟩
      have H1 := Lib.hid hb1
      clear hb1 O
      go_wp2_with fail
      go_ret
      exact ⟨rfl, H1.out⟩
    · have b2 : decide (page < 0) = false := by simpa using hn
      have b3 : decide ((4096 : Int) ≤ page) = true := by simp; omega
      clear hb hn hx
      go_enter Try.func22, Try.ntmps22
      go_wp2_with fail
      refine O.out.mono ?_; rintro e w1 ⟨rfl, _, _, hb1⟩
      have H1 := Lib.hid hb1
      clear hb1 O
      go_wp2_with fail
      go_ret
      exact ⟨rfl, H1.out⟩
theorem affords_yes (h : St W T R os ds w) (n : Nat) (ow most : Int) (h1 : (n : Int) ≤ most) (h2 : n ≤ os.count 0) (h3 : ow ≠ 0) :
    Calls Try.prog 24 #[.pointer (some ⟨R, 0, none⟩), .int .i64 (n : Int), .int .u64 ow, .int .i64 most] w fun e w' => e = .returned (.bool true) ∧ Below w.heap.size w w' := by
  obtain ⟨c, ec⟩ : ∃ c, os.count 0 = c := ⟨_, rfl⟩
  have L := Lib.hid (left_st h c (by rw [ec]))
  rw [ec] at h2
  have b1 : decide ((n : Int) ≤ most) = true := by simpa using h1
  have b2 : decide (n ≤ c) = true := by simp; omega
  have b3 : (ow != 0) = true := by simpa using h3
  clear h ec h1 h3
  go_enter Try.func24, Try.ntmps24
  go_wp2_with fail
  refine L.out.mono ?_; rintro e w1 ⟨rfl, _, _, hb1⟩
  have H1 := Lib.hid hb1
  clear hb1 L
  go_wp2_with fail
  go_ret
  exact ⟨rfl, H1.out⟩
theorem affords_no (A : Option Addr) (n : Nat) (ow most : Int) (w : World) (h1 : most < (n : Int)) :
    Calls Try.prog 24 #[.pointer A, .int .i64 (n : Int), .int .u64 ow, .int .i64 most] w fun e w' => e = .returned (.bool false) ∧ Below w.heap.size w w' := by
  have b1 : decide ((n : Int) ≤ most) = false := by simp; omega
  clear h1
  go_enter Try.func24, Try.ntmps24
  go_wp2_with fail
  go_ret
  exact ⟨rfl, Below.refl _ _⟩
set_option maxRecDepth 100000 in
set_option maxHeartbeats 4000000 in
theorem walk_st (h : St W T R os ds w) (t : Tb os ds o ks nd mp) (r page : Int) (hr : ((nd 0 0 : Nat) : Int) = r) (p1 : -9223372036854775808 ≤ page) (p2 : page ≤ 9223372036854775807) (x : Option (Nat × Bool)) (hx : at_ mp page = x) (f : Int) (hf : ((fr x : Nat) : Int) = f) :
    Calls Try.prog 15 #[.pointer (some ⟨R, 0, none⟩), .int .i64 r, .int .i64 page] w fun e w' => e = .returned (.tuple #[.int .i64 f, .bool (ok x), .bool x.isSome]) ∧ St W T R os ds w' ∧ Same T w w' ∧ Below w.heap.size w w' := by
  have HH := Lib.hid h
  have hroot := tb_frame h t t.root
  have fin : ∀ w', Below w.heap.size w w' → St W T R os ds w' ∧ Same T w w' ∧ Below w.heap.size w w' := fun w' hb => ⟨HH.out.below hb, HH.out.same hb, hb⟩
  have FIN := Lib.hid fin
  clear fin
  by_cases hpg : 0 ≤ page ∧ page < 4096
  · obtain ⟨p, rfl⟩ : ∃ p : Nat, page = (p : Int) := ⟨page.toNat, by omega⟩
    have hp : p < 4096 := by omega
    rw [at_in hp] at hx
    have Y := Lib.hid (way_st h t r hr p hp)
    by_cases hd : dep ks p = 4
    · have hm := (t.dep_mem hp (l := 3) (by omega)).1 (by omega)
      have ho := tb_own t hm
      have hq3 : 8 * pf p 3 + idx p 3 = p := by rw [pf_3]; unfold idx; simp; omega
      have hl := t.last (pf p 3) (idx p 3) hm (idx_lt p 3)
      rw [hq3, hx] at hl
      have hnd := tb_frame h t hm
      rw [hd] at Y
      obtain ⟨g0, eg⟩ : ∃ g0, nd 3 (pf p 3) = g0 := ⟨_, rfl⟩
      obtain ⟨i, ei⟩ : ∃ i, idx p 3 = i := ⟨_, rfl⟩
      have hi8 : i < 8 := by rw [← ei]; exact idx_lt p 3
      have IX := Lib.hid (fun (X : World) => index_any p 3 X hp (by omega))
      rw [ei] at IX hl
      rw [eg] at ho hl hnd
      obtain ⟨v, ev⟩ : ∃ v, ent ds g0 i = v := ⟨_, rfl⟩
      have hv := ent_lt h ho hi8
      have G := Lib.hid (fun (X : World) (hb : Below w.heap.size w X) => get_st (HH.out.below hb) g0 i ho hi8 v (by rw [ev]))
      rw [ev] at hv hl
      have FR := Lib.hid (fun (X : World) => frame_any v X hv)
      have hbit := there_bit v hv
      have hmay := may_bit v hv
      have EG := Lib.hid eg
      clear h t hm ho hq3 hnd ev hd eg ei hx
      go_enter Try.func15, Try.ntmps15
      go_wp2_with fail
      refine Y.out.mono ?_; rintro e w1 ⟨⟨v1, rfl, hN⟩, hb1⟩
      obtain ⟨g, cap, rfl, g1, g2, g3, g4⟩ := hN.at_ (by omega)
      have hc := g4 3 _ (wy_get nd (by omega))
      rw [EG.out] at hc
      have r0 := cell_regrown hc
      have H1 := Lib.hid hb1
      clear hN g4 hc hb1 Y
      have Q2 := Lib.hid (show ∀ d os', Calls Try.prog 26 #[.int .i64 (p : Int), .int .i64 3] (Sort.grow (redrawn w1 d) os') fun e w'' => e = .returned (.int .i64 (i : Int)) ∧ ∃ q : Regrown, w'' = Sort.grow (redrawn w1 q.d) q.os from
        fun d os' => Calls.regrown_of ((IX.out _).mono fun e w'' ⟨he, hw⟩ => ⟨he, by subst hw; exact Below.refl _ _⟩))
      have Q3 := Lib.hid (show ∀ d os', Calls Try.prog 29 #[.pointer (some ⟨R, 0, none⟩), .agg #[.int .i64 (g0 : Int), .int .i64 (i : Int)]] (Sort.grow (redrawn w1 d) os') fun e w'' => e = .returned (.int .u64 (v : Int)) ∧ ∃ q : Regrown, w'' = Sort.grow (redrawn w1 q.d) q.os from
        fun d os' => Calls.regrown_of ((G.out _ (H1.out.trans ((below_regrown w1 d os').mono H1.out.size))).mono fun e w'' ⟨he, _, _, hw⟩ => ⟨he, hw⟩))
      go_upto_region 4 with fail
      refine wp_region_quiet_below (by kernel_rfl) (by kernel_rfl) ?_
      repeat (quiet_step (first | with_reducible exact Q2.out _ _ | with_reducible exact Q3.out _ _))
      refine wpQuiet_nil ?_
      intro _ hw'
      obtain ⟨⟨dq, osq⟩, hw''⟩ := hw'
      subst hw''
      have hbW := below_regrown w1 dq osq
      obtain ⟨W2, e2⟩ : ∃ W2, Sort.grow (redrawn w1 dq) osq = W2 := ⟨_, rfl⟩
      rw [e2] at hbW ⊢
      have HB := Lib.hid (H1.out.trans (hbW.mono H1.out.size))
      clear e2 hbW Q2 Q3 r0
      by_cases hth : there v = true
      · have hx2 : v % 2 = 1 := by simpa [there] using hth
        have hbit1 : bits .and .u64 (v : Int) 1 = 1 := by rw [hbit, hx2]; rfl
        have hxs : x = some (frame v, may v) := by rw [hl]; unfold Pg.look; rw [if_pos hth]
        subst hxs
        have hf' : ((frame v : Nat) : Int) = f := hf
        rw [hf'] at FR
        clear hl hth hx2 hbit hf hf'
        by_cases hmy : v / 2 % 2 = 1
        · have hmay1 : bits .and .u64 (v : Int) 2 = 2 := by rw [hmay, hmy]; rfl
          have hres : Pg.ok (some (frame v, may v)) = true := by show may v = true; unfold may; rw [hmy]; rfl
          have HRS := Lib.hid hres
          clear hmay hmy hres
          go_wp2_with fail
          refine (FR.out _).mono ?_; rintro e w3 ⟨rfl, rfl⟩
          go_wp2_with fail
          go_ret3
          exact ⟨by rw [HRS.out]; rfl, FIN.out _ HB.out⟩
        · have hmay1 : bits .and .u64 (v : Int) 2 = 0 := by rw [hmay, show v / 2 % 2 = 0 by omega]; rfl
          have hres : Pg.ok (some (frame v, may v)) = false := by show may v = false; unfold may; rw [show v / 2 % 2 = 0 by omega]; rfl
          have HRS := Lib.hid hres
          clear hmay hmy hres
          go_wp2_with fail
          refine (FR.out _).mono ?_; rintro e w3 ⟨rfl, rfl⟩
          go_wp2_with fail
          go_ret3
          exact ⟨by rw [HRS.out]; rfl, FIN.out _ HB.out⟩
      · have hx2 : v % 2 = 0 := by
          have : ¬ v % 2 = 1 := by simpa [there] using hth
          omega
        have hbit1 : bits .and .u64 (v : Int) 1 = 0 := by rw [hbit, hx2]; rfl
        have hxs : x = none := by rw [hl]; unfold Pg.look; rw [if_neg hth]
        subst hxs hf
        clear hl hth hx2 hbit hmay
        go_wp2_with fail
        go_ret3
        exact ⟨rfl, FIN.out _ HB.out⟩
    · have hd3 : dep ks p < 4 := by have := (dep_range ks p).2; omega
      have hxs : x = none := by
        rw [← hx]
        exact t.out p (fun hh => by have := (t.dep_mem hp (l := 3) (by omega)).2 hh; omega)
      obtain ⟨n, en⟩ : ∃ n, dep ks p = n := ⟨_, rfl⟩
      rw [en] at Y hd3
      have hlt : (n : Int) < 4 := by omega
      subst hxs hf
      clear h t hd en hx
      go_enter Try.func15, Try.ntmps15
      go_wp2_with fail
      refine Y.out.mono ?_; rintro e w1 ⟨⟨v1, rfl, hN⟩, hb1⟩
      have hform : ∃ A c, v1 = .slice A n c := by
        rcases hN.2.2 with ⟨e, e2⟩ | ⟨g, cap, cur, e, _⟩
        · exact ⟨none, 0, by rw [e, e2]⟩
        · exact ⟨_, _, e⟩
      obtain ⟨A, c, rfl⟩ := hform
      have H1 := Lib.hid hb1
      clear hN hb1 Y
      go_wp2_with fail
      go_ret3
      exact ⟨rfl, FIN.out _ H1.out⟩
  · have Y := Lib.hid (way_no h r page (by omega) (by omega) (.inr hpg))
    rw [at_out hpg] at hx
    subst hx hf
    clear h t hpg
    go_enter Try.func15, Try.ntmps15
    go_wp2_with fail
    refine Y.out.mono ?_; rintro e w1 ⟨rfl, hb1⟩
    have H1 := Lib.hid hb1
    clear hb1 Y
    go_wp2_with fail
    go_ret3
    exact ⟨rfl, FIN.out _ H1.out⟩
end Go.Proofs.Ytliljicmkgbfpaa
