/- same: the walk. -/
import Derived.Test.YtodionedjokdmaaIo
set_option linter.unusedVariables false
set_option linter.unusedSimpArgs false
namespace Go.Proofs.Ytodionedjokdmaa
open Go.RowKit Go.Maps
set_option linter.unusedVariables false
set_option linter.unusedSimpArgs false
attribute [local go_sem] Oper.semAt_some
theorem results_cell1 {fn : Func} {p : Tmp} (h : fn.results = #[.cell p 4]) (tmps : Array Value) (w : World) (g : Nat) (b : Bool) (hp : tmps.getD p undef = .pointer (some ⟨g, 0, none⟩)) (hc : w.cell? ⟨g, 0, none⟩ = some (.bool b)) :
    (results fn tmps).run Try.prog w = .ok (.bool b) w := by
  have hp' : tmps[p]?.getD undef = .pointer (some ⟨g, 0, none⟩) := by simpa using hp
  have ha : (isAgg 4).run Try.prog w = .ok false w := by kernel_rfl
  simp [results, h, hp', asAddr, loadVar, Sem.run_bind, ha, run_load, hc]
set_option maxHeartbeats 4000000 in
set_option maxRecDepth 100000 in
theorem same_any {W w : World} {T T0 : List Nat} {t mB BO : Nat} {os : List Nat} {G : GM} {gm : Nat → Option CV} {A : Option Addr} {l c : Nat} (h : PZ W T t mB BO os G gm (.slice A l c) w) {Z : World → Prop} {g : Nat → Option (Option Nat)} (hit : Iter Try.prog 22 #[.pointer (some ⟨t, 0, none⟩)] #[] (encA g) ownN T0 (XA os) Z (FinR os))
    (hT0 : ∀ b ∈ T0, b < w.heap.size ∧ b ≠ mB ∧ ∀ cur u, w.heap[b]? = some (Obj.cells cur u) → u = 92) (hZ : ∀ W', Below w.heap.size w W' → Z W') (hg : ∀ x o, G x = some o → g x = some (some o.b)) :
    Calls Try.prog 11 #[.pointer (some ⟨t, 0, none⟩), .map (some mB), .slice A l c] w fun e w' => e = .returned (.bool true) ∧ Below w.heap.size w w' := by
  have EI := Lib.hid hit
  have H := Lib.hid (And.intro h (And.intro hT0 (And.intro hZ hg)))
  have EG := Lib.hid (fun args w => enters_of (P := Try.prog) Try.func22 (by decide) rfl args w)
  clear h hit hT0 hZ hg
  refine (callsIn_wide (n := 5)).1 ?_
  refine callsIn_of_wp_marks Try.func11 rfl trivial ?_ rfl
  simp only [Try.ntmps11, List.size_toArray, List.length_cons, List.length_nil, Nat.reduceAdd, Nat.reduceSub, Array.replicate_succ, Array.replicate_zero, List.push_toArray, List.append_toArray, List.nil_append, List.cons_append]
  refine wpIn_wide.2 ?_
  go_wp2_with fail
  have SX := Lib.hid (same_start w mB A l c)
  obtain ⟨S, eS⟩ : ∃ S, w.heap.size = S := ⟨_, rfl⟩
  obtain ⟨W0, eW0⟩ : ∃ W0, (((((w.alloc (Obj.cells #[.map (some mB)] 26)).alloc (Obj.cells #[.slice A l c] 27)).alloc (Obj.cells #[.bool false] 4)).alloc (Obj.cells #[.int .u64 0] 28)).alloc (Obj.cells #[.int .i64 0] 3)) = W0 := ⟨_, rfl⟩
  rw [eW0, eS] at SX
  rw [eW0, eS]
  have HS := Lib.hid eS
  clear eW0 eS
  have h7 : S + 1 + 1 + 1 ∉ T0 ∧ S + 1 + 1 + 1 < W0.heap.size := ⟨fun hm => by have := (H.out.2.1 _ hm).1; have := HS.out; omega, by rw [SX.out.size]; omega⟩
  have h8 : S + 1 + 1 + 1 + 1 ∉ T0 ∧ S + 1 + 1 + 1 + 1 < W0.heap.size := ⟨fun hm => by have := (H.out.2.1 _ hm).1; have := HS.out; omega, by rw [SX.out.size]; omega⟩
  have H78 := Lib.hid (And.intro h7 h8)
  have HI0 : Hid (SI W0 T0 (S + 1 + 1 + 1) (S + 1 + 1 + 1 + 1) T0 [] W0) := Lib.hid ⟨fun b hb => .inl hb, rfl, rfl, rfl, Nat.le_refl _, fun b _ _ _ _ => rfl, SX.out.c7, SX.out.c8⟩
  clear h7 h8
  refine (wpIn_wide (n := 5)).1 ?_
  refine range_out (m := 4) (gf := 22) (pb := #[.pointer (some ⟨t, 0, none⟩)]) (lb := #[]) rfl EG.out EI.out (fun _ => rfl) (SI W0 T0 (S + 1 + 1 + 1) (S + 1 + 1 + 1 + 1)) (fun _ _ _ _ => False) (SI.grows H78.out.1 H78.out.2) (fun _ _ _ _ _ _ h => h.elim) T0 ?hT (fun b hb => hb) ?hZ HI0.out ?round ?done (fun _ _ _ _ _ _ _ h => h.elim)
  case hT => intro b hb; have := (H.out.2.1 b hb).1; rw [SX.out.size]; have := HS.out; omega
  case hZ =>
    have e := HS.out
    have := SX.out
    rw [← e] at this
    exact fun W' hb => H.out.2.2.1 W' (this.b.trans (hb.mono (by rw [this.size]; omega)))
  case round =>
    rintro l1 TT pre x Wr hl1 hrec hox hTO ⟨hx1, hx2⟩ hI
    obtain ⟨r, htr⟩ := H.out.1.tr
    obtain ⟨M, hts⟩ := H.out.1.ts
    obtain ⟨o, ho⟩ := Option.isSome_iff_exists.1 ((htr.mem x).1 hx2)
    have hgx := H.out.2.2.2 x o ho
    dsimp only [encA]
    rw [hgx]
    dsimp only [Option.getD_some, vP, Option.map_some]
    have HI2 := Lib.hid (And.intro hI (And.intro hTO (And.intro hl1 (And.intro hx1 (And.intro hx2 (And.intro htr (And.intro (hts.ob x o ho) ho)))))))
    clear hI hTO hl1 hrec hox hx1 hx2 htr hts ho hgx
    gi_wp2
    refine ⟨Same.refl _ _, fun W2 ht hsz _ => ?_⟩
    obtain ⟨hI, hTO, hl1, hx1, hx2, htr, hob, ho⟩ := HI2.out
    have hT2 : ∀ b ∈ TT, b < W2.heap.size := fun b hb => by rw [hsz]; exact hTO b (List.mem_append_right _ hb)
    have hI2 : SI W0 T0 (S + 1 + 1 + 1) (S + 1 + 1 + 1 + 1) TT pre W2 := SI.grows H78.out.1 H78.out.2 _ _ _ _ _ hI hTO (ht.mono fun b hb => List.mem_append_right _ (by rw [List.mem_singleton.1 hb]; exact hl1)) fun b hb => ⟨.inl (List.mem_append_right _ hb), hT2 b hb⟩
    -- what is read of the object, at any such time
    obtain ⟨hown, ⟨hux, huh, huk⟩, ⟨cs, hcs, _, hc2, hc3, hc6, _, vk, hc15, hkr⟩, _⟩ := hob
    obtain ⟨cv, hcv, hk1, hk2, -⟩ := H.out.1.lm.some ho
    have RX := Lib.hid (same_read H.out.1 H.out.2.1 HS.out SX.out hcs)
    have hx0 := (htr.nz x hx2)
    have hlast : ∃ la : Nat, pre.getLastD 0 = la ∧ la < x := by
      refine ⟨_, rfl, ?_⟩
      rcases List.eq_nil_or_concat pre with rfl | ⟨q, y, rfl⟩
      · show 0 < x; omega
      · rw [List.concat_eq_append] at hx1 ⊢
        rw [List.getLastD_concat]
        have := List.pairwise_append.1 hx1
        exact this.2.2 y (by simp) x (by simp)
    obtain ⟨la, ela, hla⟩ := hlast
    have c7 := hI2.c7
    have c8 := hI2.c8
    rw [ela] at c7
    obtain ⟨c1, c2, c3, c4, c5⟩ := cv
    dsimp only at hk1 hk2
    subst hk1 hk2
    have HF := Lib.hid (fun (wS : World) (hS : Below W2.heap.size W2 wS) => same_facts RX.out (hI2.below H78.out.1 H78.out.2 hT2 hS) hc2 hc3 hc6 hcv hux)
    have HX2 := Lib.hid hx2
    have HC := Lib.hid (And.intro hc2 (And.intro hc3 (And.intro hc6 (And.intro hcv hux))))
    have HB5 : Hid (o.b < S) := Lib.hid (by have := (Array.getElem?_eq_some_iff.1 hcs).1; have := HS.out; omega)
    have HE := Lib.hid (And.intro hI2 (And.intro hT2 (And.intro hx1 (And.intro hkr (And.intro hc15 (And.intro htr ho))))))
    have lex : decide (x ≤ la) = false := by simp; omega
    have hF7 := Lib.hid (fun (wS : World) (hS : Below W2.heap.size W2 wS) => (show wS.cell? ⟨S + 1 + 1 + 1, 0, none⟩ = some (.int .u64 (la : Int)) from by rw [cell_of_row _ _ _ _ _ (0, 0) ((hS.block _ (Array.getElem?_eq_some_iff.1 c7).1).trans c7)]; rfl))
    clear hI hTO hl1 hx1 hx2 htr ho hT2 hI2 ht hsz hown hux huh huk hcs hc2 hc3 hc6 hc15 hkr hcv hx0 ela hla c7 c8 HI2
    gi_wp2_with fail
    refine region_AU_round (Z := fun j => false) (S := fun w' => Below W2.heap.size W2 w') (by kernel_rfl) (by kernel_rfl) (fun ⟨_, _, h⟩ => h) ((Below.refl _ _).drew) (fun hHeld => ?_)
    refine AUS_take (by kernel_rfl) rfl (i := 0) (oi := _) (v := ?vw201) rfl (by kernel_rfl) (by kernel_rfl) (by kernel_rfl) (fun _ _ _ h => h) (Or.inl ⟨by rfl, ?hz201⟩) hHeld ?rst201
    case hz201 => (intro wS hSw; clear hSw; go_simp; try with_reducible rfl)
    simp only [Act.put, List.getElem_toArray, List.getElem_cons_zero, List.getElem_cons_succ, List.setIfInBounds_toArray, List.set_cons_zero, List.set_cons_succ]
    refine AUS_take (by kernel_rfl) rfl (i := 1) (oi := _) (v := ?vw202) rfl (by kernel_rfl) (by kernel_rfl) (by kernel_rfl) (fun _ _ _ h => h) (Or.inl ⟨by rfl, ?hz202⟩) hHeld ?rst202
    case hz202 => (intro wS hSw; clear hSw; go_simp; try with_reducible rfl)
    simp only [Act.put, List.getElem_toArray, List.getElem_cons_zero, List.getElem_cons_succ, List.setIfInBounds_toArray, List.set_cons_zero, List.set_cons_succ]
    refine AUS_take (by kernel_rfl) rfl (i := 2) (oi := _) (v := ?vw203) rfl (by kernel_rfl) (by kernel_rfl) (by kernel_rfl) (fun _ _ _ h => h) (Or.inl ⟨by rfl, ?hz203⟩) hHeld ?rst203
    case hz203 => (intro wS hSw; clear hSw; go_simp; try with_reducible rfl)
    simp only [Act.put, List.getElem_toArray, List.getElem_cons_zero, List.getElem_cons_succ, List.setIfInBounds_toArray, List.set_cons_zero, List.set_cons_succ]
    refine AUS_take (by kernel_rfl) rfl (i := 3) (oi := _) (v := ?vw204) rfl (by kernel_rfl) (by kernel_rfl) (by kernel_rfl) (fun _ _ _ h => h) (Or.inl ⟨by rfl, ?hz204⟩) hHeld ?rst204
    case hz204 => (intro wS hSw; obtain ⟨f1, f2, f3, f4, f5, f6, f7⟩ := HF.out wS hSw; clear hSw; go_simp; try with_reducible rfl)
    simp only [Act.put, List.getElem_toArray, List.getElem_cons_zero, List.getElem_cons_succ, List.setIfInBounds_toArray, List.set_cons_zero, List.set_cons_succ]
    refine AUS_take (by kernel_rfl) rfl (i := 4) (oi := _) (v := ?vw205) rfl (by kernel_rfl) (by kernel_rfl) (by kernel_rfl) (fun _ _ _ h => h) (Or.inl ⟨by rfl, ?hz205⟩) hHeld ?rst205
    case hz205 => (intro wS hSw; have f8 := hF7.out wS hSw; clear hSw; go_simp; try with_reducible rfl)
    simp only [Act.put, List.getElem_toArray, List.getElem_cons_zero, List.getElem_cons_succ, List.setIfInBounds_toArray, List.set_cons_zero, List.set_cons_succ]
    refine AUS_take (by kernel_rfl) rfl (i := 5) (oi := _) (v := ?vw206) rfl (by kernel_rfl) (by kernel_rfl) (by kernel_rfl) (fun _ _ _ h => h) (Or.inl ⟨by rfl, ?hz206⟩) hHeld ?rst206
    case hz206 => (intro wS hSw; clear hSw; go_simp; try with_reducible rfl)
    simp only [Act.put, List.getElem_toArray, List.getElem_cons_zero, List.getElem_cons_succ, List.setIfInBounds_toArray, List.set_cons_zero, List.set_cons_succ]
    try simp only [lex]
    refine AUS_take (by kernel_rfl) rfl (i := 6) (oi := _) (v := ?vw207) rfl (by kernel_rfl) (by kernel_rfl) (by kernel_rfl) (fun _ _ _ h => h) (Or.inl ⟨by rfl, ?hz207⟩) hHeld ?rst207
    case hz207 => (intro wS hSw; clear hSw; go_simp; try with_reducible rfl)
    simp only [Act.put, List.getElem_toArray, List.getElem_cons_zero, List.getElem_cons_succ, List.setIfInBounds_toArray, List.set_cons_zero, List.set_cons_succ]
    refine AUS_take (by kernel_rfl) rfl (i := 7) (oi := _) (v := ?vw208) rfl (by kernel_rfl) (by kernel_rfl) (by kernel_rfl) (fun _ _ _ h => h) (Or.inl ⟨by rfl, ?hz208⟩) hHeld ?rst208
    case hz208 => (intro wS hSw; obtain ⟨f1, f2, f3, f4, f5, f6, f7⟩ := HF.out wS hSw; clear hSw; go_simp; try with_reducible rfl)
    simp only [Act.put, List.getElem_toArray, List.getElem_cons_zero, List.getElem_cons_succ, List.setIfInBounds_toArray, List.set_cons_zero, List.set_cons_succ]
    refine AUS_take (by kernel_rfl) rfl (i := 8) (oi := _) (v := ?vw209) rfl (by kernel_rfl) (by kernel_rfl) (by kernel_rfl) (fun _ _ _ h => h) (Or.inl ⟨by rfl, ?hz209⟩) hHeld ?rst209
    case hz209 => (intro wS hSw; clear hSw; go_simp; try with_reducible rfl)
    simp only [Act.put, List.getElem_toArray, List.getElem_cons_zero, List.getElem_cons_succ, List.setIfInBounds_toArray, List.set_cons_zero, List.set_cons_succ]
    refine AUS_take (by kernel_rfl) rfl (i := 9) (oi := _) (v := ?vw210) rfl (by kernel_rfl) (by kernel_rfl) (by kernel_rfl) (fun _ _ _ h => h) (Or.inl ⟨by rfl, ?hz210⟩) hHeld ?rst210
    case hz210 => (intro wS hSw; clear hSw; go_simp; try with_reducible rfl)
    simp only [Act.put, List.getElem_toArray, List.getElem_cons_zero, List.getElem_cons_succ, List.setIfInBounds_toArray, List.set_cons_zero, List.set_cons_succ]
    refine AUS_take (by kernel_rfl) rfl (i := 10) (oi := _) (v := ?vw211) rfl (by kernel_rfl) (by kernel_rfl) (by kernel_rfl) (fun _ _ _ h => h) (Or.inl ⟨by rfl, ?hz211⟩) hHeld ?rst211
    case hz211 => (intro wS hSw; clear hSw; go_simp; try with_reducible rfl)
    simp only [Act.put, List.getElem_toArray, List.getElem_cons_zero, List.getElem_cons_succ, List.setIfInBounds_toArray, List.set_cons_zero, List.set_cons_succ]
    refine AUS_take (by kernel_rfl) rfl (i := 11) (oi := _) (v := ?vw212) rfl (by kernel_rfl) (by kernel_rfl) (by kernel_rfl) (fun _ _ _ h => h) (Or.inl ⟨by rfl, ?hz212⟩) hHeld ?rst212
    case hz212 => (intro wS hSw; obtain ⟨f1, f2, f3, f4, f5, f6, f7⟩ := HF.out wS hSw; clear hSw; go_simp; try with_reducible rfl)
    simp only [Act.put, List.getElem_toArray, List.getElem_cons_zero, List.getElem_cons_succ, List.setIfInBounds_toArray, List.set_cons_zero, List.set_cons_succ]
    refine AUS_take (by kernel_rfl) rfl (i := 12) (oi := _) (v := ?vw213) rfl (by kernel_rfl) (by kernel_rfl) (by kernel_rfl) (fun _ _ _ h => h) (Or.inl ⟨by rfl, ?hz213⟩) hHeld ?rst213
    case hz213 => (intro wS hSw; obtain ⟨f1, f2, f3, f4, f5, f6, f7⟩ := HF.out wS hSw; clear hSw; go_simp; try with_reducible rfl)
    simp only [Act.put, List.getElem_toArray, List.getElem_cons_zero, List.getElem_cons_succ, List.setIfInBounds_toArray, List.set_cons_zero, List.set_cons_succ]
    refine AUS_take (by kernel_rfl) rfl (i := 13) (oi := _) (v := ?vw214) rfl (by kernel_rfl) (by kernel_rfl) (by kernel_rfl) (fun _ _ _ h => h) (Or.inl ⟨by rfl, ?hz214⟩) hHeld ?rst214
    case hz214 => (intro wS hSw; obtain ⟨f1, f2, f3, f4, f5, f6, f7⟩ := HF.out wS hSw; clear hSw; go_simp; try with_reducible rfl)
    simp only [Act.put, List.getElem_toArray, List.getElem_cons_zero, List.getElem_cons_succ, List.setIfInBounds_toArray, List.set_cons_zero, List.set_cons_succ]
    refine AUS_take (by kernel_rfl) rfl (i := 14) (oi := _) (v := ?vw215) rfl (by kernel_rfl) (by kernel_rfl) (by kernel_rfl) (fun _ _ _ h => h) (Or.inl ⟨by rfl, ?hz215⟩) hHeld ?rst215
    case hz215 => (intro wS hSw; clear hSw; go_simp; try with_reducible rfl)
    simp only [Act.put, List.getElem_toArray, List.getElem_cons_zero, List.getElem_cons_succ, List.setIfInBounds_toArray, List.set_cons_zero, List.set_cons_succ]
    refine AUS_take (by kernel_rfl) rfl (i := 15) (oi := _) (v := ?vw216) rfl (by kernel_rfl) (by kernel_rfl) (by kernel_rfl) (fun _ _ _ h => h) (Or.inl ⟨by rfl, ?hz216⟩) hHeld ?rst216
    case hz216 => (intro wS hSw; clear hSw; go_simp; try with_reducible rfl)
    simp only [Act.put, List.getElem_toArray, List.getElem_cons_zero, List.getElem_cons_succ, List.setIfInBounds_toArray, List.set_cons_zero, List.set_cons_succ]
    refine AUS_take (by kernel_rfl) rfl (i := 16) (oi := _) (v := ?vw217) rfl (by kernel_rfl) (by kernel_rfl) (by kernel_rfl) (fun _ _ _ h => h) (Or.inl ⟨by rfl, ?hz217⟩) hHeld ?rst217
    case hz217 => (intro wS hSw; clear hSw; go_simp; try with_reducible rfl)
    simp only [Act.put, List.getElem_toArray, List.getElem_cons_zero, List.getElem_cons_succ, List.setIfInBounds_toArray, List.set_cons_zero, List.set_cons_succ]
    refine AUS_take (by kernel_rfl) rfl (i := 17) (oi := _) (v := ?vw218) rfl (by kernel_rfl) (by kernel_rfl) (by kernel_rfl) (fun _ _ _ h => h) (Or.inl ⟨by rfl, ?hz218⟩) hHeld ?rst218
    case hz218 => (intro wS hSw; clear hSw; go_simp; try with_reducible rfl)
    simp only [Act.put, List.getElem_toArray, List.getElem_cons_zero, List.getElem_cons_succ, List.setIfInBounds_toArray, List.set_cons_zero, List.set_cons_succ]
    refine AUS_take (by kernel_rfl) rfl (i := 18) (oi := _) (v := ?vw219) rfl (by kernel_rfl) (by kernel_rfl) (by kernel_rfl) (fun _ _ _ h => h) (Or.inl ⟨by rfl, ?hz219⟩) hHeld ?rst219
    case hz219 => (intro wS hSw; clear hSw; go_simp; try with_reducible rfl)
    simp only [Act.put, List.getElem_toArray, List.getElem_cons_zero, List.getElem_cons_succ, List.setIfInBounds_toArray, List.set_cons_zero, List.set_cons_succ]
    refine AUS_take (by kernel_rfl) rfl (i := 19) (oi := _) (v := ?vw220) rfl (by kernel_rfl) (by kernel_rfl) (by kernel_rfl) (fun _ _ _ h => h) (Or.inl ⟨by rfl, ?hz220⟩) hHeld ?rst220
    case hz220 => (intro wS hSw; clear hSw; go_simp; try with_reducible rfl)
    simp only [Act.put, List.getElem_toArray, List.getElem_cons_zero, List.getElem_cons_succ, List.setIfInBounds_toArray, List.set_cons_zero, List.set_cons_succ]
    refine AUS_take (by kernel_rfl) rfl (i := 20) (oi := _) (v := ?vw221) rfl (by kernel_rfl) (by kernel_rfl) (by kernel_rfl) (fun _ _ _ h => h) (Or.inl ⟨by rfl, ?hz221⟩) hHeld ?rst221
    case hz221 => (intro wS hSw; obtain ⟨f1, f2, f3, f4, f5, f6, f7⟩ := HF.out wS hSw; clear hSw; go_simp; try with_reducible rfl)
    simp only [Act.put, List.getElem_toArray, List.getElem_cons_zero, List.getElem_cons_succ, List.setIfInBounds_toArray, List.set_cons_zero, List.set_cons_succ]
    refine AUS_take (by kernel_rfl) rfl (i := 21) (oi := _) (v := ?vw222) rfl (by kernel_rfl) (by kernel_rfl) (by kernel_rfl) (fun _ _ _ h => h) (Or.inl ⟨by rfl, ?hz222⟩) hHeld ?rst222
    case hz222 => (intro wS hSw; obtain ⟨f1, f2, f3, f4, f5, f6, f7⟩ := HF.out wS hSw; clear hSw; go_simp; try with_reducible rfl)
    simp only [Act.put, List.getElem_toArray, List.getElem_cons_zero, List.getElem_cons_succ, List.setIfInBounds_toArray, List.set_cons_zero, List.set_cons_succ]
    refine AUS_take (by kernel_rfl) rfl (i := 22) (oi := _) (v := ?vw223) rfl (by kernel_rfl) (by kernel_rfl) (by kernel_rfl) (fun _ _ _ h => h) (Or.inl ⟨by rfl, ?hz223⟩) hHeld ?rst223
    case hz223 => (intro wS hSw; clear hSw; go_simp; try with_reducible rfl)
    simp only [Act.put, List.getElem_toArray, List.getElem_cons_zero, List.getElem_cons_succ, List.setIfInBounds_toArray, List.set_cons_zero, List.set_cons_succ]
    refine AUS_take (by kernel_rfl) rfl (i := 23) (oi := _) (v := ?vw224) rfl (by kernel_rfl) (by kernel_rfl) (by kernel_rfl) (fun _ _ _ h => h) (Or.inl ⟨by rfl, ?hz224⟩) hHeld ?rst224
    case hz224 => (intro wS hSw; clear hSw; go_simp; try with_reducible rfl)
    simp only [Act.put, List.getElem_toArray, List.getElem_cons_zero, List.getElem_cons_succ, List.setIfInBounds_toArray, List.set_cons_zero, List.set_cons_succ]
    refine AUS_take (by kernel_rfl) rfl (i := 24) (oi := _) (v := ?vw225) rfl (by kernel_rfl) (by kernel_rfl) (by kernel_rfl) (fun _ _ _ h => h) (Or.inl ⟨by rfl, ?hz225⟩) hHeld ?rst225
    case hz225 => (intro wS hSw; clear hSw; go_simp; try with_reducible rfl)
    simp only [Act.put, List.getElem_toArray, List.getElem_cons_zero, List.getElem_cons_succ, List.setIfInBounds_toArray, List.set_cons_zero, List.set_cons_succ]
    refine AUS_take (by kernel_rfl) rfl (i := 25) (oi := _) (v := ?vw226) rfl (by kernel_rfl) (by kernel_rfl) (by kernel_rfl) (fun _ _ _ h => h) (Or.inl ⟨by rfl, ?hz226⟩) hHeld ?rst226
    case hz226 => (intro wS hSw; obtain ⟨f1, f2, f3, f4, f5, f6, f7⟩ := HF.out wS hSw; clear hSw; go_simp; try with_reducible rfl)
    simp only [Act.put, List.getElem_toArray, List.getElem_cons_zero, List.getElem_cons_succ, List.setIfInBounds_toArray, List.set_cons_zero, List.set_cons_succ]
    refine AUS_take (by kernel_rfl) rfl (i := 26) (oi := _) (v := ?vw227) rfl (by kernel_rfl) (by kernel_rfl) (by kernel_rfl) (fun _ _ _ h => h) (Or.inl ⟨by rfl, ?hz227⟩) hHeld ?rst227
    case hz227 => (intro wS hSw; obtain ⟨f1, f2, f3, f4, f5, f6, f7⟩ := HF.out wS hSw; clear hSw; go_simp; try with_reducible rfl)
    simp only [Act.put, List.getElem_toArray, List.getElem_cons_zero, List.getElem_cons_succ, List.setIfInBounds_toArray, List.set_cons_zero, List.set_cons_succ]
    refine AUS_take (by kernel_rfl) rfl (i := 27) (oi := _) (v := ?vw228) rfl (by kernel_rfl) (by kernel_rfl) (by kernel_rfl) (fun _ _ _ h => h) (Or.inl ⟨by rfl, ?hz228⟩) hHeld ?rst228
    case hz228 => (intro wS hSw; obtain ⟨f1, f2, f3, f4, f5, f6, f7⟩ := HF.out wS hSw; clear hSw; go_simp; try with_reducible rfl)
    simp only [Act.put, List.getElem_toArray, List.getElem_cons_zero, List.getElem_cons_succ, List.setIfInBounds_toArray, List.set_cons_zero, List.set_cons_succ]
    refine AUS_take (by kernel_rfl) rfl (i := 28) (oi := _) (v := ?vw229) rfl (by kernel_rfl) (by kernel_rfl) (by kernel_rfl) (fun _ _ _ h => h) (Or.inl ⟨by rfl, ?hz229⟩) hHeld ?rst229
    case hz229 => (intro wS hSw; clear hSw; go_simp; try with_reducible rfl)
    simp only [Act.put, List.getElem_toArray, List.getElem_cons_zero, List.getElem_cons_succ, List.setIfInBounds_toArray, List.set_cons_zero, List.set_cons_succ]
    refine AUS_take (by kernel_rfl) rfl (i := 29) (oi := _) (v := ?vw230) rfl (by kernel_rfl) (by kernel_rfl) (by kernel_rfl) (fun _ _ _ h => h) (Or.inl ⟨by rfl, ?hz230⟩) hHeld ?rst230
    case hz230 => (intro wS hSw; clear hSw; go_simp; try with_reducible rfl)
    simp only [Act.put, List.getElem_toArray, List.getElem_cons_zero, List.getElem_cons_succ, List.setIfInBounds_toArray, List.set_cons_zero, List.set_cons_succ]
    refine AU_done (by kernel_rfl) ?_ _
    obtain ⟨hI2, hT2, hx1, hkr, hc15, htr, ho⟩ := HE.out
    have hb3 : Below W2.heap.size W2 W2.drew := (Below.refl _ _).drew
    have hI3 := hI2.below H78.out.1 H78.out.2 hT2 hb3
    have hs3 : Same TT W2 W2.drew := fun b hb => rfl
    obtain ⟨f1, f2, f3, f4, f5, f6, f7⟩ := HF.out _ hb3
    have hF7 := hF7.out _ hb3
    obtain ⟨W3, eW3⟩ : ∃ W3, W2.drew = W3 := ⟨_, rfl⟩
    rw [eW3] at hb3 hI3 hs3 f1 f2 hF7
    rw [eW3]
    have hx15 := (htr.nz x (HX2.out)).2
    have hpl : pre.length ≤ 15 := by
      have := rise_le (pre ++ [x]) 16 hx1 fun y hy => by
        rcases List.mem_append.1 hy with hy | hy
        · have := (List.pairwise_append.1 hx1).2.2 y hy x (by simp); omega
        · have := List.mem_singleton.1 hy; omega
      rw [List.length_append] at this
      simp at this; omega
    obtain ⟨pl, epl⟩ : ∃ pl, pre.length = pl := ⟨_, rfl⟩
    have d8 : W3.cell? ⟨S + 1 + 1 + 1 + 1, 0, none⟩ = some (.int .i64 (pl : Int)) := by rw [cell_of_row _ _ _ _ _ (0, 0) hI3.c8, ← epl]; rfl
    have e7 : W3.frozen? ⟨S + 1 + 1 + 1, 0, none⟩ = false := frozen_of_row _ _ _ _ _ hI3.c7
    have e8 : W3.frozen? ⟨S + 1 + 1 + 1 + 1, 0, none⟩ = false := frozen_of_row _ _ _ _ _ hI3.c8
    have i1 : IntKind.i64.wrap ((pl : Int) + 1) = ((pl + 1 : Nat) : Int) := by rw [IntKind.wrap_i64]; omega
    have i1' : RowKit.wrap64 ((pl : Int) + 1) = ((pl + 1 : Nat) : Int) := by unfold RowKit.wrap64; omega
    obtain ⟨hI5, hs5⟩ := SI.step H78.out.1 H78.out.2 (by omega) (x := x) hI3
    rw [epl] at hI5 hs5
    obtain ⟨W5, eW5⟩ : ∃ W5, (W3.setCell ⟨S + 1 + 1 + 1, 0, none⟩ (.int .u64 (x : Int))).setCell ⟨S + 1 + 1 + 1 + 1, 0, none⟩ (.int .i64 ((pl + 1 : Nat) : Int)) = W5 := ⟨_, rfl⟩
    rw [eW5] at hI5 hs5
    have g7 := same_facts RX.out hI5 HC.out.1 HC.out.2.1 HC.out.2.2.1 HC.out.2.2.2.1 HC.out.2.2.2.2
    have H5 := Lib.hid (And.intro hI5 (hs3.trans hs5))
    have G7 := Lib.hid g7
    have hhb : o.b ≠ S + 1 + 1 + 1 ∧ o.b ≠ S + 1 + 1 + 1 + 1 := by have := HB5.out; omega
    obtain ⟨hh1, hh2⟩ := hhb
    clear hI2 hT2 hx1 hkr hc15 htr ho hb3 hI3 hs3 f3 f4 f5 f6 f7 eW3 hx15 hpl epl hI5 hs5 g7 hHeld
    obtain ⟨kd, ekd⟩ : ∃ kd, o.kd = kd := ⟨_, rfl⟩
    rw [ekd] at f2
    by_cases hk1 : kd = 1
    · have hk2 : (kd != 1) = false := by simp [hk1]
      obtain ⟨hI5, hs5⟩ := H5.out
      obtain ⟨_, _, r3, r4, r5, r6⟩ := RX.out.all _ _ _ hI5
      have m5 : W5.cell? ⟨S + 1, 0, none⟩ = some (.slice A l c) := by rw [cell_of_row _ _ 0 _ _ (0, 0) r3]; rfl
      have m5' : W3.cell? ⟨S + 1, 0, none⟩ = some (.slice A l c) := by
        rw [← m5, ← eW5]
        rw [World.cell?_setCell_other _ _ _ _ (fun e => by injection e with e; omega), World.cell?_setCell_other _ _ _ _ (fun e => by injection e with e; omega)]
      obtain ⟨HI2x, HT2x, Hx1x, hkr, hc15, htr, ho⟩ := HE.out
      have hkr5 := r6 _ _ _ hkr
      have HK := Lib.hid (And.intro r4 (And.intro r5 (And.intro hkr5 (And.intro hc15 (And.intro htr ho)))))
      have HB0 : Hid (Below W5.heap.size W5 ((W3.setCell ⟨S + 1 + 1 + 1, 0, none⟩ (.int .u64 (x : Int))).setCell ⟨S + 1 + 1 + 1 + 1, 0, none⟩ (.int .i64 ((pl : Int) + 1)))) := Lib.hid (by
        rw [show ((pl : Int) + 1) = ((pl + 1 : Nat) : Int) from rfl, eW5]; exact Below.refl _ _)
      obtain ⟨_, _, hol, _, _⟩ := (show ∃ A' c', os.length = l ∧ os.length ≤ c' ∧ LR inU w A' os from by
        obtain ⟨A', c', ev, h1, _, h2⟩ := H.out.1.lp.rw.form
        injection ev with _ ev2 _
        exact ⟨A', c', ev2.symm, h1, h2⟩)
      have HOL := Lib.hid (show os.length = l ∧ l ≤ 15 from ⟨hol, by rw [← hol]; exact htr.len⟩)
      have HWB := Lib.hid (show S < W5.heap.size ∧ o.b < W5.heap.size from by have := H5.out.1.size; have := SX.out.size; have := HB5.out; omega)
      clear hI5 hs5 r3 r4 r5 r6 m5 HI2x Hx1x hkr hc15 htr ho hkr5 ekd hol HT2x
      gi_wp2_with fail
      gi_loopw [10, 59] (fun v10 v59 wr => ∃ j : Nat, j ≤ l ∧ v59 = .int .i64 j ∧ v10 = .int .i64 (((os.take j).filter fun k => hmOf G k == some x).length : Nat) ∧ Hid (Below W5.heap.size W5 wr)) (fun v10 v59 wr => l - (intOf v59).toNat)
      case atStart => exact ⟨0, by omega, rfl, rfl, HB0⟩
      case round =>
        clear HB0
        obtain ⟨j, hj, rfl, rfl, hB⟩ := hrel
        obtain ⟨ci, eci⟩ : ∃ ci, ((os.take j).filter fun k => hmOf G k == some x).length = ci := ⟨_, rfl⟩
        rw [eci]
        by_cases hlt : j < l
        · have l1 : (j : Int) < l := by omega
          obtain ⟨r4, r5, hkr5, hc15, htr, ho⟩ := HK.out
          have hb := hB.out
          obtain ⟨k, hk⟩ : ∃ k, os[j]? = some k := ⟨_, List.getElem?_eq_getElem (by rw [HOL.out.1]; exact hlt)⟩
          obtain ⟨A', c', ev, _, _, hlr⟩ := (r5.below hb).form
          injection ev with ev1 _ _
          subst ev1
          obtain ⟨kb, ko, rfl, kl, q1⟩ := hlr j k hk
          unfold inU at q1
          have hko : k ∈ os := List.mem_of_getElem? hk
          have hk15 := (htr.nz k hko).2
          obtain ⟨ok, hok⟩ := Option.isSome_iff_exists.1 ((htr.mem k).1 hko)
          obtain ⟨ck, hck, hck1, hck2, -⟩ := H.out.1.lm.some hok
          obtain ⟨k1, k2, k3, k4, k5⟩ := ck
          dsimp only at hck1 hck2
          subst hck1 hck2
          obtain ⟨g1, _, _, g4, _⟩ := G7.out
          have gl := HWB.out
          have HFk := Lib.hid (fun (wS : World) (hS : Below wr.heap.size wr wS) => (show wS.cell? ⟨S, 0, none⟩ = some (.map (some mB)) ∧ wS.cell? ⟨o.b, 2, none⟩ = some (.int .u64 (x : Int)) ∧ (Instr.lookup 26 (.map (some mB)) (.int .u64 (k : Int)) false).run Try.prog wS = .ok (.agg #[.int .i64 1, .int .u64 k2, .int .u64 (ok.hm : Int), .int .i64 k4, .int .i64 k5]) wS ∧ (Instr.field 30 (.agg #[.int .i64 1, .int .u64 k2, .int .u64 (ok.hm : Int), .int .i64 k4, .int .i64 k5]) 2).run Try.prog wS = .ok (.int .u64 (ok.hm : Int)) wS from by
            have hb5 := hb.trans (hS.mono hb.size)
            have lk := (r4.same (hb5.block mB r4.lt)).at_ Try.underlying26 rd_C (zeroC wS) (j := k) (u64_of (by omega))
            rw [hck] at lk
            exact ⟨by rw [hb5.cell gl.1]; exact g4, by rw [hb5.cell gl.2]; exact g1, lk, fldC2 _ _ _ _ _ _⟩))
          have hkx : k = x → ok.hm ≠ x := fun e => by rw [e] at hok; exact htr.self hok
          have hks := htr.ks x o ho
          have hci : ok.hm = x → o.ks[ci]? = some k := fun e => by
            rw [hks, ← eci]
            exact filter_get hk (by unfold hmOf; rw [hok]; simp [e])
          have hcn := cnt_succ (D := fun k => hmOf G k == some x) hk
          rw [eci] at hcn
          have hcn2 : (hmOf G k == some x) = (ok.hm == x) := by unfold hmOf; rw [hok]; by_cases e : ok.hm = x <;> simp [e]
          rw [hcn2] at hcn
          have hcl : ci ≤ 15 := by rw [← eci]; exact Nat.le_trans (List.length_filter_le _ _) (Nat.le_trans (List.length_take_le' _ _) htr.len)
          obtain ⟨Ak, ckk, evk, hlk1, _, hlrk⟩ := (hkr5.below hb).form
          obtain ⟨lk, elk⟩ : ∃ lk, o.ks.length = lk := ⟨_, rfl⟩
          rw [elk] at evk hlk1
          subst evk
          have gk : wr.cell? ⟨o.b, 15, none⟩ = some (.slice Ak lk ckk) := by rw [hb.cell gl.2, cell_of_row _ _ _ _ _ (0, 0) (RX.out.all _ _ _ H5.out.1).1]; exact hc15
          have i1 : IntKind.i64.wrap ((j : Int) + 1) = ((j + 1 : Nat) : Int) := by rw [IntKind.wrap_i64]; have := HOL.out.2; omega
          have i2 : IntKind.i64.wrap ((ci : Int) + 1) = ((ci + 1 : Nat) : Int) := by rw [IntKind.wrap_i64]; omega
          have HB9 := Lib.hid hb
          have HLt := Lib.hid hlt
          have HCN := Lib.hid hcn
          obtain ⟨oh, eoh⟩ : ∃ oh, ok.hm = oh := ⟨_, rfl⟩
          rw [eoh] at HFk hkx hci HCN
          clear r4 r5 hkr5 hc15 htr ho hb hlr hk hko hk15 hok hck g1 g4 gl hks hcn hcn2 hB eci eoh hlt kl
          by_cases hp : oh = x
          · obtain ⟨bK, oK, rfl, klK, qK⟩ := hlrk ci k (hci hp)
            unfold inU at qK
            have hcik : ci < lk := by rw [← elk]; exact (List.getElem?_eq_some_iff.1 (hci hp)).1
            have n1 : (k != x) = true := by have : k ≠ x := fun e => hkx e hp; simpa using this
            have n2 : (ci == lk) = false := by rw [beq_eq_false_iff_ne]; omega
            have n3 : (ci : Int) < lk := by omega
            have n2' : ((ci : Int) == (lk : Int)) = false := by rw [beq_eq_false_iff_ne]; omega
            have n1' : ((k : Int) != (x : Int)) = true := by have : (k : Int) ≠ x := fun e => hkx (by omega) hp; simpa using this
            subst hp
            clear hkx hci hlrk elk
            gi_wp2_with fail
            refine region_AU_round (Z := fun j => false) (S := fun w' => Below wr.heap.size wr w') (by kernel_rfl) (by kernel_rfl) (fun ⟨_, _, h⟩ => h) ((Below.refl _ _).drew) (fun hHeld => ?_)
            refine AUS_take (by kernel_rfl) rfl (i := 0) (oi := _) (v := ?vw231) rfl (by kernel_rfl) (by kernel_rfl) (by kernel_rfl) (fun _ _ _ h => h) (Or.inl ⟨by rfl, ?hz231⟩) hHeld ?rst231
            case hz231 => (intro wS hSw; obtain ⟨f1, f2, f3, f4⟩ := HFk.out wS hSw; clear hSw; go_simp; try with_reducible rfl)
            simp only [Act.put, List.getElem_toArray, List.getElem_cons_zero, List.getElem_cons_succ, List.setIfInBounds_toArray, List.set_cons_zero, List.set_cons_succ]
            refine AUS_take (by kernel_rfl) rfl (i := 1) (oi := _) (v := ?vw232) rfl (by kernel_rfl) (by kernel_rfl) (by kernel_rfl) (fun _ _ _ h => h) (Or.inl ⟨by rfl, ?hz232⟩) hHeld ?rst232
            case hz232 => (intro wS hSw; clear hSw; go_simp; try with_reducible rfl)
            simp only [Act.put, List.getElem_toArray, List.getElem_cons_zero, List.getElem_cons_succ, List.setIfInBounds_toArray, List.set_cons_zero, List.set_cons_succ]
            refine AUS_take (by kernel_rfl) rfl (i := 2) (oi := _) (v := ?vw233) rfl (by kernel_rfl) (by kernel_rfl) (by kernel_rfl) (fun _ _ _ h => h) (Or.inl ⟨by rfl, ?hz233⟩) hHeld ?rst233
            case hz233 => (intro wS hSw; obtain ⟨f1, f2, f3, f4⟩ := HFk.out wS hSw; clear hSw; go_simp; try with_reducible rfl)
            simp only [Act.put, List.getElem_toArray, List.getElem_cons_zero, List.getElem_cons_succ, List.setIfInBounds_toArray, List.set_cons_zero, List.set_cons_succ]
            refine AUS_take (by kernel_rfl) rfl (i := 3) (oi := _) (v := ?vw234) rfl (by kernel_rfl) (by kernel_rfl) (by kernel_rfl) (fun _ _ _ h => h) (Or.inl ⟨by rfl, ?hz234⟩) hHeld ?rst234
            case hz234 => (intro wS hSw; obtain ⟨f1, f2, f3, f4⟩ := HFk.out wS hSw; clear hSw; go_simp; try with_reducible rfl)
            simp only [Act.put, List.getElem_toArray, List.getElem_cons_zero, List.getElem_cons_succ, List.setIfInBounds_toArray, List.set_cons_zero, List.set_cons_succ]
            refine AUS_take (by kernel_rfl) rfl (i := 4) (oi := _) (v := ?vw235) rfl (by kernel_rfl) (by kernel_rfl) (by kernel_rfl) (fun _ _ _ h => h) (Or.inl ⟨by rfl, ?hz235⟩) hHeld ?rst235
            case hz235 => (intro wS hSw; clear hSw; go_simp; try with_reducible rfl)
            simp only [Act.put, List.getElem_toArray, List.getElem_cons_zero, List.getElem_cons_succ, List.setIfInBounds_toArray, List.set_cons_zero, List.set_cons_succ]
            refine AUS_take (by kernel_rfl) rfl (i := 5) (oi := _) (v := ?vw236) rfl (by kernel_rfl) (by kernel_rfl) (by kernel_rfl) (fun _ _ _ h => h) (Or.inl ⟨by rfl, ?hz236⟩) hHeld ?rst236
            case hz236 => (intro wS hSw; clear hSw; go_simp; try with_reducible rfl)
            simp only [Act.put, List.getElem_toArray, List.getElem_cons_zero, List.getElem_cons_succ, List.setIfInBounds_toArray, List.set_cons_zero, List.set_cons_succ]
            refine AUS_take (by kernel_rfl) rfl (i := 6) (oi := _) (v := ?vw237) rfl (by kernel_rfl) (by kernel_rfl) (by kernel_rfl) (fun _ _ _ h => h) (Or.inl ⟨by rfl, ?hz237⟩) hHeld ?rst237
            case hz237 => (intro wS hSw; clear hSw; go_simp; try with_reducible rfl)
            simp only [Act.put, List.getElem_toArray, List.getElem_cons_zero, List.getElem_cons_succ, List.setIfInBounds_toArray, List.set_cons_zero, List.set_cons_succ]
            refine AUS_take (by kernel_rfl) rfl (i := 7) (oi := _) (v := ?vw238) rfl (by kernel_rfl) (by kernel_rfl) (by kernel_rfl) (fun _ _ _ h => h) (Or.inl ⟨by rfl, ?hz238⟩) hHeld ?rst238
            case hz238 => (intro wS hSw; obtain ⟨f1, f2, f3, f4⟩ := HFk.out wS hSw; clear hSw; go_simp; try with_reducible rfl)
            simp only [Act.put, List.getElem_toArray, List.getElem_cons_zero, List.getElem_cons_succ, List.setIfInBounds_toArray, List.set_cons_zero, List.set_cons_succ]
            refine AUS_take (by kernel_rfl) rfl (i := 8) (oi := _) (v := ?vw239) rfl (by kernel_rfl) (by kernel_rfl) (by kernel_rfl) (fun _ _ _ h => h) (Or.inl ⟨by rfl, ?hz239⟩) hHeld ?rst239
            case hz239 => (intro wS hSw; clear hSw; go_simp; try with_reducible rfl)
            simp only [Act.put, List.getElem_toArray, List.getElem_cons_zero, List.getElem_cons_succ, List.setIfInBounds_toArray, List.set_cons_zero, List.set_cons_succ]
            refine AUS_take (by kernel_rfl) rfl (i := 9) (oi := _) (v := ?vw240) rfl (by kernel_rfl) (by kernel_rfl) (by kernel_rfl) (fun _ _ _ h => h) (Or.inl ⟨by rfl, ?hz240⟩) hHeld ?rst240
            case hz240 => (intro wS hSw; clear hSw; go_simp; try with_reducible rfl)
            simp only [Act.put, List.getElem_toArray, List.getElem_cons_zero, List.getElem_cons_succ, List.setIfInBounds_toArray, List.set_cons_zero, List.set_cons_succ]
            refine AUS_take (by kernel_rfl) rfl (i := 10) (oi := _) (v := ?vw241) rfl (by kernel_rfl) (by kernel_rfl) (by kernel_rfl) (fun _ _ _ h => h) (Or.inl ⟨by rfl, ?hz241⟩) hHeld ?rst241
            case hz241 => (intro wS hSw; clear hSw; go_simp; try with_reducible rfl)
            simp only [Act.put, List.getElem_toArray, List.getElem_cons_zero, List.getElem_cons_succ, List.setIfInBounds_toArray, List.set_cons_zero, List.set_cons_succ]
            refine AUS_take (by kernel_rfl) rfl (i := 11) (oi := _) (v := ?vw242) rfl (by kernel_rfl) (by kernel_rfl) (by kernel_rfl) (fun _ _ _ h => h) (Or.inl ⟨by rfl, ?hz242⟩) hHeld ?rst242
            case hz242 => (intro wS hSw; clear hSw; go_simp; try with_reducible rfl)
            simp only [Act.put, List.getElem_toArray, List.getElem_cons_zero, List.getElem_cons_succ, List.setIfInBounds_toArray, List.set_cons_zero, List.set_cons_succ]
            refine AUS_take (by kernel_rfl) rfl (i := 12) (oi := _) (v := ?vw243) rfl (by kernel_rfl) (by kernel_rfl) (by kernel_rfl) (fun _ _ _ h => h) (Or.inl ⟨by rfl, ?hz243⟩) hHeld ?rst243
            case hz243 => (intro wS hSw; clear hSw; go_simp; try with_reducible rfl)
            simp only [Act.put, List.getElem_toArray, List.getElem_cons_zero, List.getElem_cons_succ, List.setIfInBounds_toArray, List.set_cons_zero, List.set_cons_succ]
            refine AUS_take (by kernel_rfl) rfl (i := 13) (oi := _) (v := ?vw244) rfl (by kernel_rfl) (by kernel_rfl) (by kernel_rfl) (fun _ _ _ h => h) (Or.inl ⟨by rfl, ?hz244⟩) hHeld ?rst244
            case hz244 => (intro wS hSw; clear hSw; go_simp; try with_reducible rfl)
            simp only [Act.put, List.getElem_toArray, List.getElem_cons_zero, List.getElem_cons_succ, List.setIfInBounds_toArray, List.set_cons_zero, List.set_cons_succ]
            refine AUS_take (by kernel_rfl) rfl (i := 14) (oi := _) (v := ?vw245) rfl (by kernel_rfl) (by kernel_rfl) (by kernel_rfl) (fun _ _ _ h => h) (Or.inl ⟨by rfl, ?hz245⟩) hHeld ?rst245
            case hz245 => (intro wS hSw; obtain ⟨f1, f2, f3, f4⟩ := HFk.out wS hSw; clear hSw; go_simp; try with_reducible rfl)
            simp only [Act.put, List.getElem_toArray, List.getElem_cons_zero, List.getElem_cons_succ, List.setIfInBounds_toArray, List.set_cons_zero, List.set_cons_succ]
            refine AUS_take (by kernel_rfl) rfl (i := 15) (oi := _) (v := ?vw246) rfl (by kernel_rfl) (by kernel_rfl) (by kernel_rfl) (fun _ _ _ h => h) (Or.inl ⟨by rfl, ?hz246⟩) hHeld ?rst246
            case hz246 => (intro wS hSw; clear hSw; go_simp; try with_reducible rfl)
            simp only [Act.put, List.getElem_toArray, List.getElem_cons_zero, List.getElem_cons_succ, List.setIfInBounds_toArray, List.set_cons_zero, List.set_cons_succ]
            refine AUS_take (by kernel_rfl) rfl (i := 16) (oi := _) (v := ?vw247) rfl (by kernel_rfl) (by kernel_rfl) (by kernel_rfl) (fun _ _ _ h => h) (Or.inl ⟨by rfl, ?hz247⟩) hHeld ?rst247
            case hz247 => (intro wS hSw; clear hSw; go_simp; try with_reducible rfl)
            simp only [Act.put, List.getElem_toArray, List.getElem_cons_zero, List.getElem_cons_succ, List.setIfInBounds_toArray, List.set_cons_zero, List.set_cons_succ]
            refine AU_done (by kernel_rfl) ?_ _
            have HB10 := Lib.hid (HB9.out.trans ((Below.refl wr.heap.size wr).drew.mono HB9.out.size))
            gi_wp2_with fail
            go_roundw
            case rel => exact ⟨j + 1, HLt.out, rfl, by rw [HCN.out]; simp, HB10⟩
            case measure =>
              have := HLt.out
              show l - (intOf (Value.int IntKind.i64 ((j + 1 : Nat) : Int))).toNat < l - (intOf (Value.int IntKind.i64 (j : Int))).toNat
              simp only [intOf, Int.toNat_natCast]
              omega
          · have m1 : (oh == x) = false := by rw [beq_eq_false_iff_ne]; exact hp
            have m2 : ((oh : Int) == (x : Int)) = false := by rw [beq_eq_false_iff_ne]; omega
            clear hkx hci hlrk elk
            gi_wp2_with fail
            refine region_AU_round (Z := fun j => false) (S := fun w' => Below wr.heap.size wr w') (by kernel_rfl) (by kernel_rfl) (fun ⟨_, _, h⟩ => h) ((Below.refl _ _).drew) (fun hHeld => ?_)
            refine AUS_take (by kernel_rfl) rfl (i := 0) (oi := _) (v := ?vw248) rfl (by kernel_rfl) (by kernel_rfl) (by kernel_rfl) (fun _ _ _ h => h) (Or.inl ⟨by rfl, ?hz248⟩) hHeld ?rst248
            case hz248 => (intro wS hSw; obtain ⟨f1, f2, f3, f4⟩ := HFk.out wS hSw; clear hSw; go_simp; try with_reducible rfl)
            simp only [Act.put, List.getElem_toArray, List.getElem_cons_zero, List.getElem_cons_succ, List.setIfInBounds_toArray, List.set_cons_zero, List.set_cons_succ]
            refine AUS_take (by kernel_rfl) rfl (i := 1) (oi := _) (v := ?vw249) rfl (by kernel_rfl) (by kernel_rfl) (by kernel_rfl) (fun _ _ _ h => h) (Or.inl ⟨by rfl, ?hz249⟩) hHeld ?rst249
            case hz249 => (intro wS hSw; clear hSw; go_simp; try with_reducible rfl)
            simp only [Act.put, List.getElem_toArray, List.getElem_cons_zero, List.getElem_cons_succ, List.setIfInBounds_toArray, List.set_cons_zero, List.set_cons_succ]
            refine AUS_take (by kernel_rfl) rfl (i := 2) (oi := _) (v := ?vw250) rfl (by kernel_rfl) (by kernel_rfl) (by kernel_rfl) (fun _ _ _ h => h) (Or.inl ⟨by rfl, ?hz250⟩) hHeld ?rst250
            case hz250 => (intro wS hSw; obtain ⟨f1, f2, f3, f4⟩ := HFk.out wS hSw; clear hSw; go_simp; try with_reducible rfl)
            simp only [Act.put, List.getElem_toArray, List.getElem_cons_zero, List.getElem_cons_succ, List.setIfInBounds_toArray, List.set_cons_zero, List.set_cons_succ]
            refine AUS_take (by kernel_rfl) rfl (i := 3) (oi := _) (v := ?vw251) rfl (by kernel_rfl) (by kernel_rfl) (by kernel_rfl) (fun _ _ _ h => h) (Or.inl ⟨by rfl, ?hz251⟩) hHeld ?rst251
            case hz251 => (intro wS hSw; obtain ⟨f1, f2, f3, f4⟩ := HFk.out wS hSw; clear hSw; go_simp; try with_reducible rfl)
            simp only [Act.put, List.getElem_toArray, List.getElem_cons_zero, List.getElem_cons_succ, List.setIfInBounds_toArray, List.set_cons_zero, List.set_cons_succ]
            refine AUS_take (by kernel_rfl) rfl (i := 4) (oi := _) (v := ?vw252) rfl (by kernel_rfl) (by kernel_rfl) (by kernel_rfl) (fun _ _ _ h => h) (Or.inl ⟨by rfl, ?hz252⟩) hHeld ?rst252
            case hz252 => (intro wS hSw; clear hSw; go_simp; try with_reducible rfl)
            simp only [Act.put, List.getElem_toArray, List.getElem_cons_zero, List.getElem_cons_succ, List.setIfInBounds_toArray, List.set_cons_zero, List.set_cons_succ]
            refine AUS_take (by kernel_rfl) rfl (i := 5) (oi := _) (v := ?vw253) rfl (by kernel_rfl) (by kernel_rfl) (by kernel_rfl) (fun _ _ _ h => h) (Or.inl ⟨by rfl, ?hz253⟩) hHeld ?rst253
            case hz253 => (intro wS hSw; clear hSw; go_simp; try with_reducible rfl)
            simp only [Act.put, List.getElem_toArray, List.getElem_cons_zero, List.getElem_cons_succ, List.setIfInBounds_toArray, List.set_cons_zero, List.set_cons_succ]
            refine AUS_take (by kernel_rfl) rfl (i := 6) (oi := _) (v := ?vw254) rfl (by kernel_rfl) (by kernel_rfl) (by kernel_rfl) (fun _ _ _ h => h) (Or.inl ⟨by rfl, ?hz254⟩) hHeld ?rst254
            case hz254 => (intro wS hSw; clear hSw; go_simp; try with_reducible rfl)
            simp only [Act.put, List.getElem_toArray, List.getElem_cons_zero, List.getElem_cons_succ, List.setIfInBounds_toArray, List.set_cons_zero, List.set_cons_succ]
            refine AUS_take (by kernel_rfl) rfl (i := 7) (oi := _) (v := ?vw255) rfl (by kernel_rfl) (by kernel_rfl) (by kernel_rfl) (fun _ _ _ h => h) (Or.inl ⟨by rfl, ?hz255⟩) hHeld ?rst255
            case hz255 => (intro wS hSw; obtain ⟨f1, f2, f3, f4⟩ := HFk.out wS hSw; clear hSw; go_simp; try with_reducible rfl)
            simp only [Act.put, List.getElem_toArray, List.getElem_cons_zero, List.getElem_cons_succ, List.setIfInBounds_toArray, List.set_cons_zero, List.set_cons_succ]
            refine AUS_take (by kernel_rfl) rfl (i := 8) (oi := _) (v := ?vw256) rfl (by kernel_rfl) (by kernel_rfl) (by kernel_rfl) (fun _ _ _ h => h) (Or.inl ⟨by rfl, ?hz256⟩) hHeld ?rst256
            case hz256 => (intro wS hSw; clear hSw; go_simp; try with_reducible rfl)
            simp only [Act.put, List.getElem_toArray, List.getElem_cons_zero, List.getElem_cons_succ, List.setIfInBounds_toArray, List.set_cons_zero, List.set_cons_succ]
            refine AUS_take (by kernel_rfl) rfl (i := 9) (oi := _) (v := ?vw257) rfl (by kernel_rfl) (by kernel_rfl) (by kernel_rfl) (fun _ _ _ h => h) (Or.inl ⟨by rfl, ?hz257⟩) hHeld ?rst257
            case hz257 => (intro wS hSw; clear hSw; go_simp; try with_reducible rfl)
            simp only [Act.put, List.getElem_toArray, List.getElem_cons_zero, List.getElem_cons_succ, List.setIfInBounds_toArray, List.set_cons_zero, List.set_cons_succ]
            refine AUS_take (by kernel_rfl) rfl (i := 10) (oi := _) (v := undef) rfl (by kernel_rfl) (by kernel_rfl) (by kernel_rfl) (fun _ _ _ h => h) (Or.inr ⟨by rfl, rfl⟩) hHeld ?rst258
            try simp only [Act.put, List.getElem_toArray, List.getElem_cons_zero, List.getElem_cons_succ, List.setIfInBounds_toArray, List.set_cons_zero, List.set_cons_succ]
            refine AUS_take (by kernel_rfl) rfl (i := 11) (oi := _) (v := undef) rfl (by kernel_rfl) (by kernel_rfl) (by kernel_rfl) (fun _ _ _ h => h) (Or.inr ⟨by rfl, rfl⟩) hHeld ?rst259
            try simp only [Act.put, List.getElem_toArray, List.getElem_cons_zero, List.getElem_cons_succ, List.setIfInBounds_toArray, List.set_cons_zero, List.set_cons_succ]
            refine AUS_take (by kernel_rfl) rfl (i := 12) (oi := _) (v := undef) rfl (by kernel_rfl) (by kernel_rfl) (by kernel_rfl) (fun _ _ _ h => h) (Or.inr ⟨by rfl, rfl⟩) hHeld ?rst260
            try simp only [Act.put, List.getElem_toArray, List.getElem_cons_zero, List.getElem_cons_succ, List.setIfInBounds_toArray, List.set_cons_zero, List.set_cons_succ]
            refine AUS_take (by kernel_rfl) rfl (i := 13) (oi := _) (v := undef) rfl (by kernel_rfl) (by kernel_rfl) (by kernel_rfl) (fun _ _ _ h => h) (Or.inr ⟨by rfl, rfl⟩) hHeld ?rst261
            try simp only [Act.put, List.getElem_toArray, List.getElem_cons_zero, List.getElem_cons_succ, List.setIfInBounds_toArray, List.set_cons_zero, List.set_cons_succ]
            refine AUS_take (by kernel_rfl) rfl (i := 14) (oi := _) (v := undef) rfl (by kernel_rfl) (by kernel_rfl) (by kernel_rfl) (fun _ _ _ h => h) (Or.inr ⟨by rfl, rfl⟩) hHeld ?rst262
            try simp only [Act.put, List.getElem_toArray, List.getElem_cons_zero, List.getElem_cons_succ, List.setIfInBounds_toArray, List.set_cons_zero, List.set_cons_succ]
            refine AUS_take (by kernel_rfl) rfl (i := 15) (oi := _) (v := undef) rfl (by kernel_rfl) (by kernel_rfl) (by kernel_rfl) (fun _ _ _ h => h) (Or.inr ⟨by rfl, rfl⟩) hHeld ?rst263
            try simp only [Act.put, List.getElem_toArray, List.getElem_cons_zero, List.getElem_cons_succ, List.setIfInBounds_toArray, List.set_cons_zero, List.set_cons_succ]
            refine AUS_take (by kernel_rfl) rfl (i := 16) (oi := _) (v := ?vw264) rfl (by kernel_rfl) (by kernel_rfl) (by kernel_rfl) (fun _ _ _ h => h) (Or.inl ⟨by rfl, ?hz264⟩) hHeld ?rst264
            case hz264 => (intro wS hSw; clear hSw; go_simp; try with_reducible rfl)
            simp only [Act.put, List.getElem_toArray, List.getElem_cons_zero, List.getElem_cons_succ, List.setIfInBounds_toArray, List.set_cons_zero, List.set_cons_succ]
            refine AU_done (by kernel_rfl) ?_ _
            have HB10 := Lib.hid (HB9.out.trans ((Below.refl wr.heap.size wr).drew.mono HB9.out.size))
            gi_wp2_with fail
            go_roundw
            case rel => exact ⟨j + 1, HLt.out, rfl, by rw [HCN.out, m1]; simp, HB10⟩
            case measure =>
              have := HLt.out
              show l - (intOf (Value.int IntKind.i64 ((j + 1 : Nat) : Int))).toNat < l - (intOf (Value.int IntKind.i64 (j : Int))).toNat
              simp only [intOf, Int.toNat_natCast]
              omega
        · obtain rfl : j = l := by omega
          obtain ⟨r4, r5, hkr5, hc15, htr, ho⟩ := HK.out
          have hb := hB.out
          obtain ⟨Ak, ckk, evk, _, _, _⟩ := (hkr5.below hb).form
          have hks := htr.ks x o ho
          have eck : o.ks.length = ci := by rw [hks, ← eci, List.take_of_length_le (by rw [HOL.out.1]; exact Nat.le_refl _)]; rfl
          rw [eck] at evk
          subst evk
          have gk : wr.cell? ⟨o.b, 15, none⟩ = some (.slice Ak ci ckk) := by rw [hb.cell HWB.out.2, cell_of_row _ _ _ _ _ (0, 0) (RX.out.all _ _ _ H5.out.1).1]; exact hc15
          have hT5 : ∀ b ∈ TT, b < W5.heap.size := fun b hb => by
            have h2 := HE.out.2.1 b hb
            have h3 := H5.out.2 b hb
            rw [Array.getElem?_eq_getElem h2] at h3
            exact (Array.getElem?_eq_some_iff.1 h3).1
          have hfin := H5.out.1.below H78.out.1 H78.out.2 hT5 hb
          have HFin := Lib.hid (show Same TT W2 wr ∧ SI W0 T0 (S + 1 + 1 + 1) (S + 1 + 1 + 1 + 1) TT (pre ++ [x]) wr from ⟨H5.out.2.trans fun b hm => hb.block b (hT5 b hm), hfin⟩)
          clear r4 r5 hkr5 hc15 htr ho hb hks eck hT5 hfin hB eci hj
          gi_wp2_with fail
          exact HFin.out
    · have hk2 : (kd != 1) = true := by simp [hk1]
      clear ekd
      gi_wp2_with fail
      rw [show ((pl : Int) + 1) = ((pl + 1 : Nat) : Int) from rfl, eW5]
      exact ⟨H5.out.2, H5.out.1⟩

  case done =>
    rintro D xs X hf hD hDX hDT hI hKD hsm
    have hb : Below w.heap.size w X := by
      have e := HS.out
      have sx := SX.out
      have sz := sx.size
      refine ⟨hI.os.trans sx.b.os, hI.tape.trans sx.b.tape, hI.output.trans sx.b.output, Nat.le_trans sx.b.size hI.size, fun b hb => ?_⟩
      by_cases h0 : b ∈ T0
      · exact (hsm b h0).trans (sx.b.block b (by omega))
      · exact (hI.keep b (by omega) h0 (by omega) (by omega)).trans (sx.b.block b (by omega))
    have hPX := H.out.1.below hb
    obtain ⟨M, hts⟩ := hPX.ts
    obtain ⟨r, htr⟩ := hPX.tr
    have hlen : xs.length = os.length := ((List.perm_ext_iff_of_nodup (hf.1.imp fun hlt e => by omega) htr.nd).2 hf.2).length_eq
    have CL := Lib.hid (fun (wS : World) (hS : Below X.heap.size X wS) => len_any (hts.below hS))
    obtain ⟨n, en⟩ : ∃ n, os.length = n := ⟨_, rfl⟩
    have k8 := hI.c8
    have hnT : ∀ b, S ≤ b → b ∉ T0 := fun b hb hm => by have := (H.out.2.1 _ hm).1; have := HS.out; omega
    have sz := SX.out.size
    have k4 : X.heap[S]? = some (Obj.cells #[.map (some mB)] 26) := (hI.keep S (by omega) (hnT _ (by omega)) (by omega) (by omega)).trans SX.out.c4
    have k6 : X.heap[S + 1 + 1]? = some (Obj.cells #[.bool false] 4) := (hI.keep _ (by omega) (hnT _ (by omega)) (by omega) (by omega)).trans SX.out.c6
    rw [hlen, en] at k8
    rw [en] at CL
    have HF := Lib.hid (fun (wS : World) (hS : Below X.heap.size X wS) => (⟨by rw [cell_of_row _ _ _ _ _ (0, 0) ((hS.block _ (Array.getElem?_eq_some_iff.1 k8).1).trans k8)]; rfl, by rw [cell_of_row _ _ _ _ _ (0, 0) ((hS.block _ (Array.getElem?_eq_some_iff.1 k4).1).trans k4)]; rfl, by
      have h1 := (hPX.below hS).lp.mp.len Try.underlying26 3
      rw [en] at h1; exact h1⟩ :
      wS.cell? ⟨S + 1 + 1 + 1 + 1, 0, none⟩ = some (.int .i64 (n : Int)) ∧ wS.cell? ⟨S, 0, none⟩ = some (.map (some mB)) ∧ (Builtin.len_ #[26] 3 #[.map (some mB)]).run Try.prog wS = .ok (.int .i64 (n : Int)) wS))
    have HX := Lib.hid (And.intro hb (And.intro k6 (And.intro hKD (show w.heap.size ≤ D ∧ D ≠ S + 1 + 1 from ⟨by have := HS.out; omega, fun e => by omega⟩))))
    clear hf hD hDX hDT hI hKD hsm hb hPX hts htr hlen en k8 k4 k6 hnT sz
    go_upto_region 20 with fail
    refine region_AU (Z := fun j => j == 10) (S := fun w' => Below X.heap.size X w') (by kernel_rfl) ((Below.refl _ _).drew) (fun hHeld => ?_)
    refine AUS_take (by kernel_rfl) rfl (i := 0) (oi := _) (v := ?vw1) rfl (by kernel_rfl) (by kernel_rfl) (by kernel_rfl) (fun _ _ _ h => h) (Or.inl ⟨by rfl, ?hz1⟩) hHeld ?rst1
    case hz1 => (intro wS hSw; obtain ⟨f1, f2, f3⟩ := HF.out wS hSw; clear hSw; go_simp; try with_reducible rfl)
    simp only [Act.put, List.getElem_toArray, List.getElem_cons_zero, List.getElem_cons_succ, List.setIfInBounds_toArray, List.set_cons_zero, List.set_cons_succ]
    refine AUS_take (by kernel_rfl) rfl (i := 1) (oi := _) (v := ?vw2) rfl (by kernel_rfl) (by kernel_rfl) (by kernel_rfl) (fun _ _ _ h => h) (Or.inl ⟨by rfl, ?hz2⟩) hHeld ?rst2
    case hz2 => (intro wS hSw; obtain ⟨f1, f2, f3⟩ := HF.out wS hSw; clear hSw; go_simp; try with_reducible rfl)
    simp only [Act.put, List.getElem_toArray, List.getElem_cons_zero, List.getElem_cons_succ, List.setIfInBounds_toArray, List.set_cons_zero, List.set_cons_succ]
    refine AUS_take (by kernel_rfl) rfl (i := 2) (oi := _) (v := ?vw3) rfl (by kernel_rfl) (by kernel_rfl) (by kernel_rfl) (fun _ _ _ h => h) (Or.inl ⟨by rfl, ?hz3⟩) hHeld ?rst3
    case hz3 => (intro wS hSw; obtain ⟨f1, f2, f3⟩ := HF.out wS hSw; clear hSw; go_simp; try with_reducible rfl)
    simp only [Act.put, List.getElem_toArray, List.getElem_cons_zero, List.getElem_cons_succ, List.setIfInBounds_toArray, List.set_cons_zero, List.set_cons_succ]
    refine AUS_take (by kernel_rfl) rfl (i := 3) (oi := _) (v := ?vw4) rfl (by kernel_rfl) (by kernel_rfl) (by kernel_rfl) (fun _ _ _ h => h) (Or.inl ⟨by rfl, ?hz4⟩) hHeld ?rst4
    case hz4 => (intro wS hSw; clear hSw; go_simp; try with_reducible rfl)
    simp only [Act.put, List.getElem_toArray, List.getElem_cons_zero, List.getElem_cons_succ, List.setIfInBounds_toArray, List.set_cons_zero, List.set_cons_succ]
    refine AUS_take (by kernel_rfl) rfl (i := 4) (oi := _) (v := ?vw5) rfl (by kernel_rfl) (by kernel_rfl) (by kernel_rfl) (fun _ _ _ h => h) (Or.inl ⟨by rfl, ?hz5⟩) hHeld ?rst5
    case hz5 => (intro wS hSw; clear hSw; go_simp; try with_reducible rfl)
    simp only [Act.put, List.getElem_toArray, List.getElem_cons_zero, List.getElem_cons_succ, List.setIfInBounds_toArray, List.set_cons_zero, List.set_cons_succ]
    refine AUS_take (by kernel_rfl) rfl (i := 5) (oi := _) (v := ?vw6) rfl (by kernel_rfl) (by kernel_rfl) (by kernel_rfl) (fun _ _ _ h => h) (Or.inl ⟨by rfl, ?hz6⟩) hHeld ?rst6
    case hz6 => (intro wS hSw; clear hSw; go_simp; try with_reducible rfl)
    simp only [Act.put, List.getElem_toArray, List.getElem_cons_zero, List.getElem_cons_succ, List.setIfInBounds_toArray, List.set_cons_zero, List.set_cons_succ]
    refine AUS_take (by kernel_rfl) rfl (i := 7) (oi := _) (v := ?vw7) rfl (by kernel_rfl) (by kernel_rfl) (by kernel_rfl) (fun _ _ _ h => h) (Or.inl ⟨by rfl, ?hz7⟩) hHeld ?rst7
    case hz7 => (intro wS hSw; obtain ⟨f1, f2, f3⟩ := HF.out wS hSw; clear hSw; go_simp; try with_reducible rfl)
    simp only [Act.put, List.getElem_toArray, List.getElem_cons_zero, List.getElem_cons_succ, List.setIfInBounds_toArray, List.set_cons_zero, List.set_cons_succ]
    refine AU_one (i := 6) (o := _) (by kernel_rfl) rfl (fun K hK => ?_)
    have H7 := Lib.hid hHeld
    have C := Lib.hid (CL.out _ hHeld)
    clear hHeld
    go_simp
    refine C.out.mono ?_
    clear C CL
    rintro e w9 ⟨rfl, rfl⟩
    have hHeld := H7.out
    clear H7
    refine hK.out _ _ (fun _ => hHeld) ?_
    clear hK K
    try simp only [Act.put, List.getElem_toArray, List.getElem_cons_zero, List.getElem_cons_succ, List.setIfInBounds_toArray, List.set_cons_zero, List.set_cons_succ]
    refine AUS_take (by kernel_rfl) rfl (i := 8) (oi := _) (v := ?vw8) rfl (by kernel_rfl) (by kernel_rfl) (by kernel_rfl) (fun _ _ _ h => h) (Or.inl ⟨by rfl, ?hz8⟩) hHeld ?rst8
    case hz8 => (intro wS hSw; clear hSw; go_simp; try with_reducible rfl)
    simp only [Act.put, List.getElem_toArray, List.getElem_cons_zero, List.getElem_cons_succ, List.setIfInBounds_toArray, List.set_cons_zero, List.set_cons_succ]
    refine AUS_take (by kernel_rfl) rfl (i := 9) (oi := _) (v := ?vw9) rfl (by kernel_rfl) (by kernel_rfl) (by kernel_rfl) (fun _ _ _ h => h) (Or.inl ⟨by rfl, ?hz9⟩) hHeld ?rst9
    case hz9 => (intro wS hSw; clear hSw; go_simp; try with_reducible rfl)
    simp only [Act.put, List.getElem_toArray, List.getElem_cons_zero, List.getElem_cons_succ, List.setIfInBounds_toArray, List.set_cons_zero, List.set_cons_succ]
    refine AU_one (i := 10) (o := _) (by kernel_rfl) rfl (fun K hK => ?_)
    obtain ⟨hb, k6, hKD, hDw, hDn⟩ := HX.out
    have k6' := (hHeld.block _ (Array.getElem?_eq_some_iff.1 k6).1).trans k6
    have HY := Lib.hid (And.intro (hb.trans (hHeld.mono hb.size)) (And.intro k6' ((hHeld.block _ (Array.getElem?_eq_some_iff.1 hKD).1).trans hKD)))
    have z1 : X.drew.cell? ⟨S + 1 + 1, 0, none⟩ = some (.bool false) := by rw [cell_of_row _ _ _ _ _ (0, 0) k6']; rfl
    have z2 : X.drew.frozen? ⟨S + 1 + 1, 0, none⟩ = false := frozen_of_row _ _ _ _ _ k6'
    clear hb k6 hKD hDw hDn k6' hHeld
    go_simp
    refine hK.out _ _ (fun hz => (by cases hz)) ?_
    clear hK K z1 z2
    refine AU_done (by kernel_rfl) ?_ _
    simp only [OnlyN]
    have hD2 : (X.setCell ⟨S + 1 + 1, 0, none⟩ (.bool true)).drew.heap[D]? = some (.deferred (some [])) := (heap_setCell_other X _ _ _ (fun e => HX.out.2.2.2.2 e)).trans HX.out.2.2.1
    have hT := heap_setCell_same X (S + 1 + 1) 0 _ 4 (.bool true) HX.out.2.1
    have hb2 : Below w.heap.size w (X.setCell ⟨S + 1 + 1, 0, none⟩ (.bool true)).drew := (HX.out.1.setCell (p := ⟨S + 1 + 1, 0, none⟩) (by have := HS.out; show w.heap.size ≤ S + 1 + 1; omega) _).trans ((Below.refl _ _).drew.mono (by have := HX.out.1.size; simpa using this))
    obtain ⟨X2, eX2⟩ : ∃ X2, (X.setCell ⟨S + 1 + 1, 0, none⟩ (.bool true)).drew = X2 := ⟨_, rfl⟩
    have hT2 : X2.heap[S + 1 + 1]? = some (Obj.cells #[.bool true] 4) := by
      rw [← eX2]
      have h9 : (X.setCell ⟨S + 1 + 1, 0, none⟩ (.bool true)).heap[S + 1 + 1]? = some (Obj.cells #[.bool true] 4) := by simpa using hT
      exact h9
    rw [eX2] at hD2 hb2 ⊢
    clear eX2 hT
    have HZ := Lib.hid (And.intro hD2 (And.intro hb2 hT2))
    clear hD2 hb2 hT2
    go_wp2_with fail
    obtain ⟨hD2, hb2, hT2⟩ := HZ.out
    refine ⟨by simp, .inl ⟨_, _, rfl, run_takeDeferred hD2, ?_⟩⟩
    refine ⟨_, results_cell1 (by rfl) _ _ (S + 1 + 1) true rfl ?_, rfl, hb2.trans ((Turn.put X2 D (.deferred none)).below hb2.size (fun b hb => by obtain rfl := List.mem_singleton.1 hb; exact HX.out.2.2.2.1))⟩
    rw [cell_of_row _ _ 0 _ 4 (0, 0) ((World.putObj_heap_other (fun e => HX.out.2.2.2.2 e.symm)).trans hT2)]; rfl

end Go.Proofs.Ytodionedjokdmaa
