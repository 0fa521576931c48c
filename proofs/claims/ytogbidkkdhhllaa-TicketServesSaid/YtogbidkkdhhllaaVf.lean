/- Leave. -/
import Derived.Test.YtogbidkkdhhllaaVe
import Derived.Test.YtogbidkkdhhllaaVr
set_option linter.unusedVariables false
set_option linter.unusedSimpArgs false
namespace Go.Proofs.Ytogbidkkdhhllaa
open Go.RowKit Tk
set_option linter.unusedVariables false
set_option linter.unusedSimpArgs false
variable {own own' : Nat → Prop} {w w' : World} {L : Nat} {us : List Nat} {n : Nat}
theorem erase_at {us : List Nat} {x k : Nat} (h : us.idxOf x = k) : us.erase x = us.take k ++ us.drop (k + 1) := by
  rw [List.erase_eq_eraseIdx_of_idxOf h, List.eraseIdx_eq_take_drop_succ]
set_option maxRecDepth 100000 in
set_option maxHeartbeats 1000000 in
theorem leave_any (x : Nat) (h : LM own w L us n) (hm : us.length ≤ 10000) (hn : n ≤ 1000000) : Calls Try.prog 8 #[.pointer (some ⟨L, 0, none⟩), .int .u64 (x : Int)] w fun e w' => e = .returned (.tuple #[]) ∧ Turn [L] w w' ∧ LM (fun b => own b ∨ w.heap.size ≤ b) w' L (us.erase x) (lv us n x) := by
  have hkeep : LM (fun b => own b ∨ w.heap.size ≤ b) w L us n := h.keep rfl fun b cur hb _ => ⟨.inl hb, rfl⟩
  obtain ⟨v, h1, h2⟩ := h
  obtain ⟨c0, c1, f0, f1⟩ := cells_lk h1
  obtain ⟨A, c, rfl, hc, hcm, hr⟩ := h2.form
  have K := Lib.hid (index_any (c := c) x rfl (by omega) hr)
  by_cases hx : x ∈ us
  · obtain ⟨k, ek⟩ : ∃ k, us.idxOf x = k := ⟨_, rfl⟩
    obtain ⟨l, el⟩ : ∃ l, us.length = l := ⟨_, rfl⟩
    have hk : k < l := by rw [← ek, ← el]; exact List.idxOf_lt_length_iff.2 hx
    rw [ixI, if_pos hx, ek, el] at K
    rw [el] at c0 h1 hc hm
    obtain ⟨b, o, rfl⟩ := hr.some_ (by omega)
    have hc' : c ≤ 9223372036854775807 := hcm
    obtain ⟨A2, eA2⟩ : ∃ A2, (if c = k + 1 then some (⟨b, o, none⟩ : Addr) else (some (⟨b, o, none⟩ : Addr)).map (·.add (k + 1))) = A2 := ⟨_, rfl⟩
    have hd : LR enU w A2 (us.drop (k + 1)) := by rw [← eA2]; exact hr.drop (by omega)
    obtain ⟨m, em⟩ : ∃ m, l - (k + 1) = m := ⟨_, rfl⟩
    obtain ⟨d, ed⟩ : ∃ d, c - (k + 1) = d := ⟨_, rfl⟩
    have lt1 : (us.take k).length = k := by rw [List.length_take]; omega
    have ld1 : (us.drop (k + 1)).length = m := by rw [List.length_drop]; omega
    have EA2 : Hid ((if c = k + 1 then some (⟨b, o, none⟩ : Addr) else some ⟨b, o + (k + 1), none⟩) = A2) := Lib.hid (by rw [← eA2]; simp only [Option.map_some, addr_add])
    have KD : Hid (∀ w2 : World, w2.heap[L]? = w.heap[L]? → w2.cell? ⟨L, 0, none⟩ = some (.slice (some ⟨b, o, none⟩) l c)) := Lib.hid fun w2 e => (cells_lk (e.trans h1)).1
    obtain ⟨W1, eW1⟩ : ∃ W1, w.drew.alloc (Obj.cells #[.slice (some ⟨b, o, none⟩) k c, .slice A2 m d] 24) = W1 := ⟨_, rfl⟩
    have hb1 : Below w.heap.size w W1 := by rw [← eW1]; exact ((Below.refl w.heap.size w).drew).alloc (Nat.le_refl _) _
    have d0 : W1.cell? ⟨w.heap.size, 0, none⟩ = some (.slice (some ⟨b, o, none⟩) k c) := by
      rw [← eW1]; exact (cell_of_row _ _ 0 _ 24 (0, 0) (heap_alloc_new w.drew _)).trans rfl
    have d1 : W1.cell? ⟨w.heap.size, 1, none⟩ = some (.slice A2 m d) := by
      rw [← eW1]; exact (cell_of_row _ _ 1 _ 24 (0, 0) (heap_alloc_new w.drew _)).trans rfl
    have C := Lib.hid (concat_any w.heap.size (some ⟨b, o, none⟩) k c (us.take k) A2 m d (us.drop (k + 1)) W1 d0 d1 lt1 ld1 (by omega) (by omega) (by omega) ((hr.take k).below hb1) (hd.below hb1))
    have HB1 := Lib.hid hb1
    have HH := Lib.hid h1
    have HX := Lib.hid (And.intro hx (And.intro ek el))
    have i1 : IntKind.i64.wrap ((k : Int) + 1) = (k : Int) + 1 := by rw [IntKind.wrap_i64]; omega
    have i2 : ¬ (k : Int) < 0 := by omega
    have i3 : (k : Int) ≤ c := by omega
    clear hkeep h2 hr hd d0 d1 hb1 f1 h1 el hx ek lt1 ld1 eA2
    go_enter Try.func8, Try.ntmps8
    go_wp2_with fail
    refine K.out.mono ?_; rintro e w1 ⟨rfl, rfl⟩
    clear K
    go_upto_region 3 with fail
    refine region_AU (Z := fun i => decide (16 ≤ i)) (S := fun W => W.cell? ⟨L, 0, none⟩ = some (.slice (some ⟨b, o, none⟩) l c)) (by kernel_rfl) (KD.out _ rfl) (fun hHeld => ?_)
    refine AU_take (by kernel_rfl) rfl (i := 0) (oi := _) (v := ?vv0) rfl (by kernel_rfl) (by kernel_rfl) (by kernel_rfl) (fun _ _ _ h => h) (Or.inl ⟨by rfl, ?hy0⟩) hHeld ?rest0
    case hy0 => (intro wS hSw; (try dsimp only at hSw); go_simp; try with_reducible rfl)
    simp only [Act.put, List.getElem_toArray, List.getElem_cons_zero, List.getElem_cons_succ, List.setIfInBounds_toArray, List.set_cons_zero, List.set_cons_succ]
    refine AU_take (by kernel_rfl) rfl (i := 1) (oi := _) (v := ?vv1) rfl (by kernel_rfl) (by kernel_rfl) (by kernel_rfl) (fun _ _ _ h => h) (Or.inl ⟨by rfl, ?hy1⟩) hHeld ?rest1
    case hy1 => (intro wS hSw; (try dsimp only at hSw); go_simp; try with_reducible rfl)
    simp only [Act.put, List.getElem_toArray, List.getElem_cons_zero, List.getElem_cons_succ, List.setIfInBounds_toArray, List.set_cons_zero, List.set_cons_succ]
    refine AU_take (by kernel_rfl) rfl (i := 2) (oi := _) (v := ?vv2) rfl (by kernel_rfl) (by kernel_rfl) (by kernel_rfl) (fun _ _ _ h => h) (Or.inl ⟨by rfl, ?hy2⟩) hHeld ?rest2
    case hy2 => (intro wS hSw; (try dsimp only at hSw); go_simp; try with_reducible rfl)
    simp only [Act.put, List.getElem_toArray, List.getElem_cons_zero, List.getElem_cons_succ, List.setIfInBounds_toArray, List.set_cons_zero, List.set_cons_succ]
    refine AU_take (by kernel_rfl) rfl (i := 3) (oi := _) (v := ?vv3) rfl (by kernel_rfl) (by kernel_rfl) (by kernel_rfl) (fun _ _ _ h => h) (Or.inl ⟨by rfl, ?hy3⟩) hHeld ?rest3
    case hy3 => (intro wS hSw; (try dsimp only at hSw); go_simp; try with_reducible rfl)
    simp only [Act.put, List.getElem_toArray, List.getElem_cons_zero, List.getElem_cons_succ, List.setIfInBounds_toArray, List.set_cons_zero, List.set_cons_succ]
    refine AU_take (by kernel_rfl) rfl (i := 4) (oi := _) (v := ?vv4) rfl (by kernel_rfl) (by kernel_rfl) (by kernel_rfl) (fun _ _ _ h => h) (Or.inl ⟨by rfl, ?hy4⟩) hHeld ?rest4
    case hy4 => (intro wS hSw; (try dsimp only at hSw); go_simp; try with_reducible rfl)
    simp only [Act.put, List.getElem_toArray, List.getElem_cons_zero, List.getElem_cons_succ, List.setIfInBounds_toArray, List.set_cons_zero, List.set_cons_succ]
    refine AU_take (by kernel_rfl) rfl (i := 5) (oi := _) (v := ?vv5) rfl (by kernel_rfl) (by kernel_rfl) (by kernel_rfl) (fun _ _ _ h => h) (Or.inl ⟨by rfl, ?hy5⟩) hHeld ?rest5
    case hy5 => (intro wS hSw; (try dsimp only at hSw); go_simp; try with_reducible rfl)
    simp only [Act.put, List.getElem_toArray, List.getElem_cons_zero, List.getElem_cons_succ, List.setIfInBounds_toArray, List.set_cons_zero, List.set_cons_succ]
    refine AU_take (by kernel_rfl) rfl (i := 6) (oi := _) (v := ?vv6) rfl (by kernel_rfl) (by kernel_rfl) (by kernel_rfl) (fun _ _ _ h => h) (Or.inl ⟨by rfl, ?hy6⟩) hHeld ?rest6
    case hy6 => (intro wS hSw; (try dsimp only at hSw); go_simp; try with_reducible rfl)
    simp only [Act.put, List.getElem_toArray, List.getElem_cons_zero, List.getElem_cons_succ, List.setIfInBounds_toArray, List.set_cons_zero, List.set_cons_succ]
    refine AU_take (by kernel_rfl) rfl (i := 7) (oi := _) (v := ?vv7) rfl (by kernel_rfl) (by kernel_rfl) (by kernel_rfl) (fun _ _ _ h => h) (Or.inl ⟨by rfl, ?hy7⟩) hHeld ?rest7
    case hy7 => (intro wS hSw; (try dsimp only at hSw); go_simp; try with_reducible rfl)
    simp only [Act.put, List.getElem_toArray, List.getElem_cons_zero, List.getElem_cons_succ, List.setIfInBounds_toArray, List.set_cons_zero, List.set_cons_succ]
    refine AU_take (by kernel_rfl) rfl (i := 8) (oi := _) (v := ?vv8) rfl (by kernel_rfl) (by kernel_rfl) (by kernel_rfl) (fun _ _ _ h => h) (Or.inl ⟨by rfl, ?hy8⟩) hHeld ?rest8
    case hy8 => (intro wS hSw; (try dsimp only at hSw); go_simp; try with_reducible rfl)
    simp only [Act.put, List.getElem_toArray, List.getElem_cons_zero, List.getElem_cons_succ, List.setIfInBounds_toArray, List.set_cons_zero, List.set_cons_succ]
    refine AU_take (by kernel_rfl) rfl (i := 9) (oi := _) (v := ?vv9) rfl (by kernel_rfl) (by kernel_rfl) (by kernel_rfl) (fun _ _ _ h => h) (Or.inl ⟨by rfl, ?hy9⟩) hHeld ?rest9
    case hy9 => (intro wS hSw; (try dsimp only at hSw); go_simp; try with_reducible rfl)
    simp only [Act.put, List.getElem_toArray, List.getElem_cons_zero, List.getElem_cons_succ, List.setIfInBounds_toArray, List.set_cons_zero, List.set_cons_succ]
    refine AU_take (by kernel_rfl) rfl (i := 10) (oi := _) (v := ?vv10) rfl (by kernel_rfl) (by kernel_rfl) (by kernel_rfl) (fun _ _ _ h => h) (Or.inl ⟨by rfl, ?hy10⟩) hHeld ?rest10
    case hy10 => (intro wS hSw; (try dsimp only at hSw); go_simp; try with_reducible rfl)
    simp only [Act.put, List.getElem_toArray, List.getElem_cons_zero, List.getElem_cons_succ, List.setIfInBounds_toArray, List.set_cons_zero, List.set_cons_succ]
    refine AU_take (by kernel_rfl) rfl (i := 11) (oi := _) (v := ?vv11) rfl (by kernel_rfl) (by kernel_rfl) (by kernel_rfl) (fun _ _ _ h => h) (Or.inl ⟨by rfl, ?hy11⟩) hHeld ?rest11
    case hy11 => (intro wS hSw; (try dsimp only at hSw); go_simp; try with_reducible rfl)
    simp only [Act.put, List.getElem_toArray, List.getElem_cons_zero, List.getElem_cons_succ, List.setIfInBounds_toArray, List.set_cons_zero, List.set_cons_succ]
    refine AU_take (by kernel_rfl) rfl (i := 12) (oi := _) (v := ?vv12) rfl (by kernel_rfl) (by kernel_rfl) (by kernel_rfl) (fun _ _ _ h => h) (Or.inl ⟨by rfl, ?hy12⟩) hHeld ?rest12
    case hy12 => (intro wS hSw; (try dsimp only at hSw); go_simp; try with_reducible rfl)
    simp only [Act.put, List.getElem_toArray, List.getElem_cons_zero, List.getElem_cons_succ, List.setIfInBounds_toArray, List.set_cons_zero, List.set_cons_succ]
    refine AU_take (by kernel_rfl) rfl (i := 13) (oi := _) (v := .slice A2 m d) rfl (by kernel_rfl) (by kernel_rfl) (by kernel_rfl) (fun _ _ _ h => h) (Or.inl ⟨by rfl, ?hy13⟩) hHeld ?rest13
    case hy13 =>
      intro wS hSw
      have j1 : (0 : Int) ≤ (k : Int) + 1 := by omega
      have j2 : (k : Int) + 1 ≤ l := by omega
      have ea := EA2.out
      go_simp
      try with_reducible rfl
    simp only [Act.put, List.getElem_toArray, List.getElem_cons_zero, List.getElem_cons_succ, List.setIfInBounds_toArray, List.set_cons_zero, List.set_cons_succ]
    refine AU_one (i := 14) (o := _) (by kernel_rfl) rfl (fun K hK => ?_)
    go_simp
    refine hK.out _ _ (fun _ => KD.out _ (HB1.out.block L (Array.getElem?_eq_some_iff.1 HH.out).1)) ?_
    clear hK K
    try simp only [Act.put, List.getElem_toArray, List.getElem_cons_zero, List.getElem_cons_succ, List.setIfInBounds_toArray, List.set_cons_zero, List.set_cons_succ]
    refine AU_one (i := 15) (o := _) (by kernel_rfl) rfl (fun K hK => ?_)
    go_simp
    refine C.out.mono ?_; rintro e W3 ⟨v', rfl, hv, hb3⟩
    have hL : L < w1.heap.size := (Array.getElem?_eq_some_iff.1 HH.out).1
    have h3 : W3.heap[L]? = some (Obj.cells #[.slice (some ⟨b, o, none⟩) l c, .int .u64 (n : Int)] 27) := by
      rw [hb3.block L (Nat.lt_of_lt_of_le hL HB1.out.size), HB1.out.block L hL]; exact HH.out
    refine hK.out _ _ (fun _ => (cells_lk h3).1) ?_
    clear hK K
    try simp only [Act.put, List.getElem_toArray, List.getElem_cons_zero, List.getElem_cons_succ, List.setIfInBounds_toArray, List.set_cons_zero, List.set_cons_succ]
    obtain ⟨e0, e1, g0, g1⟩ := cells_lk h3
    rw [← erase_at HX.out.2.1] at hv
    have HS := Lib.hid ((LM.setq h3 hv).keep (own' := fun b => own b ∨ w1.heap.size ≤ b) (w' := _) rfl fun b cur hb _ => ⟨.inr (Nat.le_trans HB1.out.size hb), rfl⟩)
    have HT : Hid (Turn [L] w1 (W3.setCell ⟨L, 0, none⟩ v')) := Lib.hid ((Turn.of_below (HB1.out.trans (hb3.mono HB1.out.size))).trans (Turn.set W3 L 0 v') (fun b hb => .inl hb))
    obtain ⟨p, hel, hp⟩ : ∃ p, (us.erase x).length = p ∧ Hid (p = l - 1) := ⟨_, rfl, Lib.hid (by rw [List.length_erase_of_mem HX.out.1, HX.out.2.2])⟩
    obtain ⟨A', c', rfl, _⟩ := hv.form
    rw [hel] at HS HT ⊢
    clear hv hb3 h3 C KD em ed
    refine AU_one (i := 16) (o := _) (by kernel_rfl) rfl (fun K hK => ?_)
    go_simp
    refine hK.out _ _ (fun h => nomatch h) ?_
    clear hK K
    try simp only [Act.put, List.getElem_toArray, List.getElem_cons_zero, List.getElem_cons_succ, List.setIfInBounds_toArray, List.set_cons_zero, List.set_cons_succ]
    refine AU_one (i := 17) (o := _) (by kernel_rfl) rfl (fun K hK => ?_)
    go_simp
    refine hK.out _ _ (fun h => nomatch h) ?_
    clear hK K
    try simp only [Act.put, List.getElem_toArray, List.getElem_cons_zero, List.getElem_cons_succ, List.setIfInBounds_toArray, List.set_cons_zero, List.set_cons_succ]
    refine AU_one (i := 18) (o := _) (by kernel_rfl) rfl (fun K hK => ?_)
    go_simp
    refine hK.out _ _ (fun h => nomatch h) ?_
    clear hK K
    try simp only [Act.put, List.getElem_toArray, List.getElem_cons_zero, List.getElem_cons_succ, List.setIfInBounds_toArray, List.set_cons_zero, List.set_cons_succ]
    refine AU_done (by kernel_rfl) ?_ _
    simp only [OnlyN]
    have HEL := Lib.hid hel
    clear hHeld hel
    by_cases hk0 : k = 0
    · subst hk0
      obtain ⟨N, eN⟩ : ∃ N : Nat, n + 1 = N := ⟨_, rfl⟩
      have i4 : IntKind.u64.wrap ((n : Int) + 1) = (N : Int) := by rw [IntKind.wrap_u64]; omega
      have HE := Lib.hid (HS.out.setn N)
      have HT2 := Lib.hid (HT.out.trans (Turn.set _ L 1 (.int .u64 (N : Int))) fun b hb => .inl hb)
      have B := Lib.hid (busy_any HE.out)
      rw [HEL.out] at B
      clear HS HT
      by_cases hl1 : l = 1
      · have ev : Hid (lv us n x = N) := Lib.hid (by rw [lv, if_pos HX.out.1, if_pos HX.out.2.1, if_pos (by rw [HX.out.2.2, hl1]), eN])
        rw [decide_eq_false (by have := hp.out; omega)] at B
        clear eN
        go_wp2_with fail
        refine B.out.mono ?_; rintro e W5 ⟨rfl, rfl⟩
        go_wp2_with fail
        exact bodyPost_end (results_none rfl _ _ _) rfl ⟨rfl, HT2.out, by rw [ev.out]; exact HE.out⟩
      · obtain ⟨M, eM⟩ : ∃ M : Nat, N + 1 = M := ⟨_, rfl⟩
        have i5 : IntKind.u64.wrap ((N : Int) + 1) = (M : Int) := by rw [IntKind.wrap_u64]; omega
        have ev : Hid (lv us n x = M) := Lib.hid (by rw [lv, if_pos HX.out.1, if_pos HX.out.2.1, if_neg (by rw [HX.out.2.2]; exact hl1)]; omega)
        have HE3 := Lib.hid (HE.out.setn M)
        have HT3 := Lib.hid (HT2.out.trans (Turn.set _ L 1 (.int .u64 (M : Int))) fun b hb => .inl hb)
        rw [decide_eq_true (by have := hp.out; omega)] at B
        clear eN eM HE HT2
        go_wp2_with fail
        refine B.out.mono ?_; rintro e W5 ⟨rfl, rfl⟩
        go_wp2_with fail
        exact bodyPost_end (results_none rfl _ _ _) rfl ⟨rfl, HT3.out, by rw [ev.out]; exact HE3.out⟩
    · have ev : Hid (lv us n x = n) := Lib.hid (by rw [lv, if_pos HX.out.1, if_neg (by rw [HX.out.2.1]; exact hk0)])
      have i4 : (0 : Int) < k := by omega
      have i5 : (k : Int) > 0 := by omega
      go_wp2_with fail
      exact bodyPost_ret (results_none rfl _ _ _) rfl ⟨rfl, HT.out, by rw [ev.out]; exact HS.out⟩
  · rw [ixI, if_neg hx] at K
    have HE : Hid (LM (fun b => own b ∨ w.heap.size ≤ b) w L (us.erase x) (lv us n x)) := Lib.hid (by rw [lv, if_neg hx, List.erase_of_not_mem hx]; exact hkeep)
    clear hkeep h1 h2 hr hx f0 f1
    go_enter Try.func8, Try.ntmps8
    go_wp2_with fail
    refine K.out.mono ?_; rintro e w1 ⟨rfl, rfl⟩
    go_wp2_with fail
    exact bodyPost_ret (results_none rfl _ _ _) rfl ⟨rfl, Turn.refl _ _, HE.out⟩
end Go.Proofs.Ytogbidkkdhhllaa
