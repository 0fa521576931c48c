import Derived.Test.YtjmfjehjlnghmaaLa
namespace Go.Proofs.Ytjmfjehjlnghmaa
open Go.RowKit
set_option linter.unusedVariables false
set_option linter.unusedSimpArgs false

theorem YR.turned {W W' : World} {R : Nat} {bs cs : List Nat} {bad : Bool} {A : Option Addr} (h : YR W A cs) (hr : Rd W R bs bad) (hg : W.grownBy W' (some R)) : YR W' A cs :=
  h.kept fun b cs hh => hr.keeps hg hh (by decide)
theorem field0 (D : Int) (a : Option Addr) (n c : Nat) (w : World) : Sem.run Try.prog (Instr.field 31 (.agg #[.int .i64 D, .slice a n c]) 0) w = .ok (.int .i64 D) w := by rfl
/-- Three readers. -/
def J3 (X : World) (R S T : Nat) (r s t : Pk.St) (W : World) : Prop :=
  Rd W R r.1 r.2 ∧ Rd W S s.1 s.2 ∧ Rd W T t.1 t.2 ∧ Below X.heap.size X W ∧ X.heap.size ≤ R ∧ R < S ∧ S < T
theorem J3.r {X W W' : World} {R S T : Nat} {r s t r' : Pk.St} (h : J3 X R S T r s t W) (hr : Rd W' R r'.1 r'.2) (hg : W.grownBy W' (some R)) : J3 X R S T r' s t W' := by
  obtain ⟨h1, h2, h3, h4, h5, h6, h7⟩ := h
  exact ⟨hr, h2.grown h1 hg (by omega), h3.grown h1 hg (by omega), below_grown h4 hg h5, h5, h6, h7⟩
theorem J3.s {X W W' : World} {R S T : Nat} {r s t s' : Pk.St} (h : J3 X R S T r s t W) (hr : Rd W' S s'.1 s'.2) (hg : W.grownBy W' (some S)) : J3 X R S T r s' t W' := by
  obtain ⟨h1, h2, h3, h4, h5, h6, h7⟩ := h
  exact ⟨h1.grown h2 hg (by omega), hr, h3.grown h2 hg (by omega), below_grown h4 hg (by omega), h5, h6, h7⟩
theorem J3.t {X W W' : World} {R S T : Nat} {r s t t' : Pk.St} (h : J3 X R S T r s t W) (hr : Rd W' T t'.1 t'.2) (hg : W.grownBy W' (some T)) : J3 X R S T r s t' W' := by
  obtain ⟨h1, h2, h3, h4, h5, h6, h7⟩ := h
  exact ⟨h1.grown h3 hg (by omega), h2.grown h3 hg (by omega), hr, below_grown h4 hg (by omega), h5, h6, h7⟩
set_option maxRecDepth 100000 in
set_option maxHeartbeats 4000000 in
theorem joins_law (u v : Value) (q : Int) (w : World) (hu : CameB w u) (hv : CameB w v) :
    Calls Try.prog 6 #[u, v, .int .i64 q] w fun e w' => e = .returned (.bool true) ∧ Below w.heap.size w w' := by
  obtain ⟨A, n, c, ds, rfl, hn, hm, hr, hA, hb⟩ := hu
  obtain ⟨B, m, d, bs, rfl, hn', hm', hr', hB, hb'⟩ := hv
  have HFit := Lib.hid (fit_any w)
  by_cases h5 : 500 < n ∨ 500 < m
  · by_cases h5a : 500 < n
    all_goals
      try have h5b : 500 < m := by omega
      clear hn hr hA hb hn' hr' hB hb' h5
      go_enter Try.func6, Try.ntmps6
      go_wp2_with fail
      refine HFit.out.mono ?_
      rintro e w1 ⟨rfl, hb1⟩
      have HB1 := Lib.hid hb1
      clear hb1
      go_wp2_with fail
      go_ret
      exact ⟨rfl, HB1.out⟩
  · obtain ⟨y, N, k, e1, e2, e3, e4, k1, k8, n0, n7⟩ := eight q
    obtain ⟨i0, hi, hz0, hz1, hz2⟩ := info_parts info5
    have h5a : ¬ 500 < n := by omega
    have h5b : ¬ 500 < m := by omega
    have HN := Lib.hid (And.intro hn hn')
    have HR := Lib.hid (And.intro hr hr')
    have HA := Lib.hid (And.intro hA hB)
    have HB := Lib.hid (And.intro hb hb')
    clear hn hr hA hb hn' hr' hB hb' h5 hm hm'
    go_enter Try.func6, Try.ntmps6
    go_wp2_with fail
    refine HFit.out.mono ?_
    rintro e w1 ⟨rfl, hb1⟩
    have HB1 := Lib.hid hb1
    have CN1 := Lib.hid (new_any A c n ds w1 HN.out.1 (by omega) (HR.out.1.below hb1) HA.out.1 HB.out.1)
    clear hb1 HFit
    go_upto_region 6 with fail
    clear e1 e2 e3 e4 n0 n7
    go_wp2_with fail
    refine CN1.out.mono ?_
    rintro e w2 ⟨R, rfl, hR2, hr2, hb2⟩
    have HB2 := Lib.hid (HB1.out.trans (hb2.mono HB1.out.size))
    have CN2 := Lib.hid (new_any B d m bs w2 HN.out.2 (by omega) (HR.out.2.below HB2.out) HA.out.2 HB.out.2)
    have HRd2 := Lib.hid (And.intro hr2 (Nat.le_trans HB1.out.size hR2))
    clear hr2 hb2 hR2 CN1
    go_wp2_with fail
    refine CN2.out.mono ?_
    rintro e w3 ⟨S, rfl, hS3, hs3, hb3⟩
    have HB3 := Lib.hid (HB2.out.trans (hb3.mono HB2.out.size))
    have HRd3 := Lib.hid (And.intro (HRd2.out.1.below hb3) (And.intro hs3 (And.intro HRd2.out.2 (Nat.lt_of_lt_of_le HRd2.out.1.lt hS3))))
    have hra := Lib.hid (HR.out.1.below HB3.out)
    clear hs3 hb3 hS3 HRd2 HB2 CN2 HB1
    go_wp2_with (at_builtin; refine wpList_append_bytes _ rfl (.const (.slice none 0 0)) (.tmp 31) 24 rfl w3.heap.size 5 i0 (.int .u8 0) 1 Try.underlying24 hi hz0 hz1 hz2 rfl (.slice none 0 0) 0 [] rfl (World.ownsRow_nil _ _ _ _) A n c ds HN.out.1 rfl hra.out HA.out.1 ?c1 ?c2 ?c3 ?_)
    case c1 => unfold maxLen; omega
    case c2 => omega
    case c3 => omega
    intro v1 w4 hown4 hg4
    have hb34 : Below w3.heap.size w3 w4 := (Below.refl _ _).grown hg4 (Nat.le_refl _) (fun k hk => by simp [Value.ownBlock] at hk)
    have hrb := Lib.hid ((HR.out.2.below HB3.out).below hb34)
    have H4 := Lib.hid (And.intro hown4 hb34)
    have hsz4 := hb34.size
    clear hown4 hg4 hb34
    go_wp2_with (at_builtin; refine wpList_append_bytes _ rfl (.tmp 32) (.tmp 33) 24 rfl w3.heap.size 5 i0 (.int .u8 0) 1 Try.underlying24 hi hz0 hz1 hz2 rfl v1 n _ rfl H4.out.1 B m d bs HN.out.2 rfl hrb.out HA.out.2 ?d1 ?d2 ?d3 ?_)
    case d1 => unfold maxLen; omega
    case d2 => omega
    case d3 => omega
    intro v2 w5 hown5 hg5
    have hb35 : Below w3.heap.size w3 w5 := H4.out.2.grown hg5 hsz4 (fun k hk => (H4.out.1.lt k hk).1)
    have hnb : NB w3.heap.size w5 (ds ++ bs) v2 := by
      unfold NB
      rw [List.length_append, HN.out.1, HN.out.2, Y_app]
      simpa using hown5
    obtain ⟨A5, c5, rfl, hc5, hy5, hA5⟩ := hnb.form
    have hl5 : (ds ++ bs).length = n + m := by rw [List.length_append, HN.out.1, HN.out.2]
    have CN3 := Lib.hid (new_any A5 c5 (n + m) (ds ++ bs) w5 hl5 (by omega) hy5.br hA5 (fun x hx => by
      rcases List.mem_append.1 hx with hx | hx
      · exact HB.out.1 x hx
      · exact HB.out.2 x hx))
    have H5 := Lib.hid (And.intro (HRd3.out.1.below hb35) (And.intro (HRd3.out.2.1.below hb35) (And.intro (HB3.out.trans (hb35.mono HB3.out.size)) HRd3.out.2.2)))
    rw [hl5] at hc5 ⊢
    clear hown5 hg5 hb35 hnb hy5 hA5 hl5 H4 hrb hra HRd3 HB3 hsz4
    go_wp2_with fail
    refine CN3.out.mono ?_
    rintro e w6 ⟨T, rfl, hT6, ht6, hb6⟩
    have HJ := Lib.hid (show J3 w R S T (ds, false) (bs, false) (ds ++ bs, false) w6 from
      ⟨H5.out.1.below hb6, H5.out.2.1.below hb6, ht6, H5.out.2.2.1.trans (hb6.mono H5.out.2.2.1.size), H5.out.2.2.2.1, H5.out.2.2.2.2, Nat.lt_of_lt_of_le H5.out.2.1.lt hT6⟩)
    have hdn : ds.take n = ds := List.take_of_length_le (by rw [HN.out.1]; omega)
    have hdd : ds.drop n = [] := List.drop_of_length_le (by rw [HN.out.1]; omega)
    have CT1 := Lib.hid (show Calls Try.prog 20 #[.pointer (some ⟨R, 0, none⟩), .int .i64 n] w6 (Took w6 R ds [] false) from by
      have := take_in R ds n w6 HJ.out.1 (by rw [HN.out.1]; omega)
      rwa [hdn, hdd] at this)
    have htk : (ds ++ bs).take n = ds := by rw [← HN.out.1]; exact List.take_left
    have htd : (ds ++ bs).drop n = bs := by rw [← HN.out.1]; exact List.drop_left
    have CT2 := Lib.hid (fun (W : World) (h : Rd W T (ds ++ bs) false) => (show Calls Try.prog 20 #[.pointer (some ⟨T, 0, none⟩), .int .i64 n] W (Took W T ds bs false) from by
      have := take_in T (ds ++ bs) n W h (by rw [List.length_append, HN.out.1]; omega)
      rwa [htk, htd] at this))
    obtain ⟨⟨yv, st⟩, es⟩ : ∃ s, Pk.nx k (bs, false) = s := ⟨_, rfl⟩
    have CNK := Lib.hid (fun (P : Nat) (W : World) (h : Rd W P bs false) => (show Calls Try.prog 17 #[.pointer (some ⟨P, 0, none⟩), .int .i64 k] W (Numd W P (yv, st)) from by
      rw [← es]; exact num_any P bs false k W h k1 k8))
    clear H5 CN3 hT6 ht6 hb6 hdn hdd htk htd es
    go_wp2_with fail
    refine CT1.out.mono ?_
    rintro e w7 ⟨A7, c7, rfl, hc7, hy7, hr7, hg7⟩
    have J7 := Lib.hid (HJ.out.r (r' := ([], false)) hr7 hg7)
    have C8 := Lib.hid (CNK.out S w7 J7.out.2.1)
    have Y7 := Lib.hid hy7
    rw [HN.out.1] at hc7 ⊢
    clear hy7 hr7 hg7 CT1 HJ
    go_wp2_with fail
    refine C8.out.mono ?_
    rintro e w8 ⟨rfl, hs8, hg8⟩
    have J8 := Lib.hid (J7.out.s hs8 hg8)
    have Y8 := Lib.hid (Y7.out.turned J7.out.2.1 hg8)
    have C9 := Lib.hid (CT2.out w8 J8.out.2.2.1)
    clear hs8 hg8 C8 J7 Y7 CT2
    dsimp only
    go_wp2_with fail
    refine C9.out.mono ?_
    rintro e w9 ⟨A9, c9, rfl, hc9, hy9, ht9, hg9⟩
    have J9 := Lib.hid (J8.out.t (t' := (bs, false)) ht9 hg9)
    have Y9 := Lib.hid (Y8.out.turned J8.out.2.2.1 hg9)
    have CS := Lib.hid (same_any_b A7 A9 n n c7 c9 ds ds true w9 HN.out.1 HN.out.1 Y9.out.br hy9.br HB.out.1 HB.out.1 (by simp))
    have C10 := Lib.hid (CNK.out T w9 J9.out.2.2.1)
    rw [HN.out.1] at hc9 ⊢
    clear hy9 ht9 hg9 C9 J8 Y8 CNK
    go_wp2_with fail
    refine CS.out.mono ?_
    rintro e w10 ⟨rfl, rfl⟩
    go_wp2_with fail
    refine C10.out.mono ?_
    rintro e w10 ⟨rfl, ht10, hg10⟩
    have J10 := Lib.hid (J9.out.t ht10 hg10)
    have CB1 := Lib.hid (bad_any T st.1 st.2 w10 J10.out.2.2.1)
    have CB2 := Lib.hid (bad_any S st.1 st.2 w10 J10.out.2.1)
    have CR1 := Lib.hid (rest_any T st.1 st.2 w10 J10.out.2.2.1)
    have CR2 := Lib.hid (rest_any S st.1 st.2 w10 J10.out.2.1)
    have CR3 := Lib.hid (rest_any R [] false w10 J10.out.1)
    have CB3 := Lib.hid (bad_any R [] false w10 J10.out.1)
    have C11 := Lib.hid (show Calls Try.prog 17 #[.pointer (some ⟨R, 0, none⟩), .int .i64 1] w10 (Numd w10 R (0, ([], true))) from num_any R [] false 1 w10 J10.out.1 (by omega) (by omega))
    obtain ⟨sl, sb⟩ := st
    obtain ⟨sn, esn⟩ : ∃ sn, sl.length = sn := ⟨_, rfl⟩
    simp only [esn] at CR1 CR2
    clear ht10 hg10 CS C10 J9 esn
    dsimp only
    go_wp2_with fail
    refine CB1.out.mono ?_
    rintro e w11 ⟨rfl, rfl⟩
    go_wp2_with fail
    refine CB2.out.mono ?_
    rintro e w11 ⟨rfl, rfl⟩
    go_wp2_with fail
    refine CR1.out.mono ?_
    rintro e w11 ⟨rfl, rfl⟩
    go_wp2_with fail
    refine CR2.out.mono ?_
    rintro e w11 ⟨rfl, rfl⟩
    go_wp2_with fail
    refine CR3.out.mono ?_
    rintro e w11 ⟨rfl, rfl⟩
    simp only [List.length_nil]
    go_wp2_with fail
    refine CB3.out.mono ?_
    rintro e w11 ⟨rfl, rfl⟩
    go_wp2_with fail
    refine C11.out.mono ?_
    rintro e w11 ⟨rfl, hr11, hg11⟩
    have J11 := Lib.hid (J10.out.r hr11 hg11)
    have CB4 := Lib.hid (bad_any R [] true w11 J11.out.1)
    have CF := Lib.hid (fail_any T sl sb w11 J11.out.2.2.1)
    clear hr11 hg11 CB1 CB2 CR1 CR2 CR3 CB3 C11 J10
    dsimp only
    go_wp2_with fail
    refine CB4.out.mono ?_
    rintro e w12 ⟨rfl, rfl⟩
    go_wp2_with fail
    refine CF.out.mono ?_
    rintro e w12 ⟨rfl, ht12, hg12⟩
    have J12 := Lib.hid (J11.out.t (t' := (sl, true)) ht12 hg12)
    have C13 := Lib.hid (show Calls Try.prog 17 #[.pointer (some ⟨T, 0, none⟩), .int .i64 1] w12 (Numd w12 T (0, (sl, true))) from num_any T sl true 1 w12 J12.out.2.2.1 (by omega) (by omega))
    clear ht12 hg12 CF CB4 J11
    go_wp2_with fail
    refine C13.out.mono ?_
    rintro e w13 ⟨rfl, ht13, hg13⟩
    have J13 := Lib.hid (J12.out.t ht13 hg13)
    have C14 := Lib.hid (take_bad T sl 0 w13 J13.out.2.2.1)
    clear ht13 hg13 C13 J12
    dsimp only
    go_wp2_with fail
    refine C14.out.mono ?_
    rintro e w14 ⟨A14, c14, rfl, _, _, ht14, hg14⟩
    have J14 := Lib.hid (J13.out.t (t' := (sl, true)) ht14 hg14)
    have C15 := Lib.hid (label_bad T sl w14 J14.out.2.2.1)
    clear ht14 hg14 C14 J13
    simp only [List.length_nil]
    go_wp2_with fail
    refine C15.out.mono ?_
    rintro e w15 ⟨pv, rfl, ho15, ht15, hg15⟩
    have HW := Lib.hid (J14.out.t ht15 hg15).2.2.2.1
    have hform := form2 ho15
    clear ho15 ht15 hg15 C15 J14
    dsimp only
    rcases hform with rfl | ⟨g', n', c', rfl⟩
    all_goals
      go_wp2_with fail
      rw [field0]
      go_wp2_with fail
      go_ret
      exact ⟨by first | rfl | simp, HW.out⟩
end Go.Proofs.Ytjmfjehjlnghmaa
