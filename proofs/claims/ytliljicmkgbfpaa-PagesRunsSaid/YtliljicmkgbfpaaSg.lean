/- whole: the pages that lead somewhere, told once. -/
import Derived.Test.YtliljicmkgbfpaaSf
import Derived.Test.YtliljicmkgbfpaaJt
set_option linter.unusedVariables false
set_option linter.unusedSimpArgs false
namespace Go.Proofs.Ytliljicmkgbfpaa
open Go.RowKit Go.Shelf Go.Maps Pg
set_option linter.unusedVariables false
set_option linter.unusedSimpArgs false
attribute [local go_sem] Oper.semAt_some
variable {W : World} {T : List Nat} {R : Nat} {os : List Nat} {ds : List (List Nat)} {o : Nat} {ks : List (Nat × Nat)} {nd : Nat → Nat → Nat} {mp : Nat → Option (Nat × Bool)} {w w' : World}
theorem results_bool {fn : Func} {p : Tmp} (h : fn.results = #[.cell p 4]) (tmps : Array Value) (w : World) (g : Nat) (v : Value) (hp : tmps.getD p undef = .pointer (some ⟨g, 0, none⟩)) (hg : w.cell? ⟨g, 0, none⟩ = some v) : (results fn tmps).run Try.prog w = .ok v w := by
  have hp' : tmps[p]?.getD undef = .pointer (some ⟨g, 0, none⟩) := by simpa using hp
  have a4 := Try.isAgg4
  have u4 := Try.underlying4
  simp [results, h, hp', asAddr, go_sem, hg]
/-- A memory beside two counters, and what doesn't turn. -/
def WR (W : World) (own1 : List Nat) (N L R : Nat) (os : List Nat) (ds : List (List Nat)) (w3 : World) (TT : List Nat) (n v : Int) (X : World) : Prop :=
  (∀ b ∈ TT, W.heap.size ≤ b) ∧ St W ((N :: L :: own1) ++ TT) R os ds X ∧ (∀ b ∈ N :: L :: own1, b ∉ TT) ∧ Same own1 w3 X ∧ X.heap[N]? = some (Obj.cells #[.int .i64 n] 3) ∧ X.heap[L]? = some (Obj.cells #[.int .i64 v] 3)
theorem WR.grow {W : World} {own1 : List Nat} {N L R : Nat} {os : List Nat} {ds : List (List Nat)} {w3 : World} {T T' : List Nat} {n v : Int} {w w' : World} (h : WR W own1 N L R os ds w3 T n v w) (ht : Turn T w w') (hn : New T T' w w') : WR W own1 N L R os ds w3 T' n v w' := by
  obtain ⟨h1, h2, h3, h6, h7, h8⟩ := h
  have ho : ∀ b ∈ N :: L :: own1, b < w.heap.size := fun b hb => h2.2.1 b (List.mem_append_left _ hb)
  have hs := same_turn ho h3 ht
  exact ⟨new_up h2.b h1 hn, h2.grow h1 ht hn, new_out ho h3 hn, h6.trans (fun b hb => hs b (List.mem_cons_of_mem _ (List.mem_cons_of_mem _ hb))), (hs N (by simp)).trans h7, (hs L (by simp)).trans h8⟩
/-- What whole's loop keeps. -/
def WL (W : World) (own1 : List Nat) (N L R : Nat) (os : List Nat) (ds : List (List Nat)) (w3 : World) (TT : List Nat) (pre : List Nat) (X : World) : Prop :=
  ∃ v : Int, WR W own1 N L R os ds w3 TT (pre.length : Nat) v X ∧ (v = -1 ∨ ∃ x ∈ pre, v = (x : Int))
set_option maxRecDepth 100000 in
set_option maxHeartbeats 4000000 in
theorem whole_any (h : St W T R os ds w) (t : Tb os ds o ks nd mp) (r : Int) (hr : ((nd 0 0 : Nat) : Int) = r) (G n : Nat) (hG : G ∈ T) (hm : WayM w G n mp) :
    Calls Try.prog 16 #[.pointer (some ⟨R, 0, none⟩), .int .i64 r, .map (some G)] w fun e w' => e = .returned (.bool true) ∧ Below W.heap.size W w' := by
  obtain ⟨q0, eq0⟩ : ∃ q0, nd 0 0 = q0 := ⟨_, rfl⟩
  rw [eq0] at hr
  subst hr
  have EA := Lib.hid (fun (X : World) => each_any (R := R) (q0 : Int) X)
  have EI := Lib.hid (each_iter (W0 := W) (R := R) ⟨ds, t⟩)
  have HH := Lib.hid (And.intro h (And.intro t (And.intro eq0 (And.intro hG hm))))
  clear h t eq0 hm
  refine (callsIn_wide (n := 5)).1 ?_
  refine callsIn_of_wp_marks Try.func16 rfl trivial ?_ rfl
  simp only [Try.ntmps16, List.size_toArray, List.length_cons, List.length_nil, Nat.reduceAdd, Nat.reduceSub, Array.replicate_succ, Array.replicate_zero, List.push_toArray, List.append_toArray, List.nil_append, List.cons_append]
  refine wpIn_wide.2 ?_
  go_wp2_with fail
  refine (EA.out _).mono ?_; rintro e w7 ⟨rfl, e7⟩
  go_wp2_with fail
  rw [← e7]
  obtain ⟨Q, eQ⟩ : ∃ Q, w.heap.size = Q := ⟨_, rfl⟩
  have hF : Below w.heap.size w w7 ∧ w7.heap.size = Q + 6 ∧ w7.heap[Q]? = some (Obj.cells #[.map (some G)] 28) ∧ w7.heap[Q + 1]? = some (Obj.cells #[.bool false] 4) ∧ w7.heap[Q + 1 + 1]? = some (Obj.cells #[.int .i64 (-1)] 3) ∧ w7.heap[Q + 1 + 1 + 1]? = some (Obj.cells #[.int .i64 0] 3) ∧ LZ R q0 (Q + 1 + 1 + 1 + 1) (Q + 1 + 1 + 1 + 1 + 1) w7 := by
    obtain ⟨wa, ea⟩ : ∃ x, w.alloc (Obj.cells #[.map (some G)] 28) = x := ⟨_, rfl⟩
    obtain ⟨wb, eb⟩ : ∃ x, wa.alloc (Obj.cells #[.bool false] 4) = x := ⟨_, rfl⟩
    obtain ⟨wc, ecc⟩ : ∃ x, wb.alloc (Obj.cells #[.int .i64 (-1)] 3) = x := ⟨_, rfl⟩
    obtain ⟨wd, ed⟩ : ∃ x, wc.alloc (Obj.cells #[.int .i64 0] 3) = x := ⟨_, rfl⟩
    obtain ⟨we, ee⟩ : ∃ x, wd.alloc (Obj.cells #[.pointer (some ⟨R, 0, none⟩)] 24) = x := ⟨_, rfl⟩
    rw [ea, eb, ecc, ed, ee] at e7
    have al : ∀ (x y : World) (ob : Obj), x.alloc ob = y → Below x.heap.size x y ∧ y.heap.size = x.heap.size + 1 ∧ y.heap[x.heap.size]? = some ob := fun x y ob e => by
      subst e; exact ⟨below_alloc1 x ob, by simp, heap_alloc_new x ob⟩
    obtain ⟨a1, a2, a3⟩ := al _ _ _ ea
    obtain ⟨b1, b2, b3⟩ := al _ _ _ eb
    obtain ⟨c1, c2, c3⟩ := al _ _ _ ecc
    obtain ⟨d1, d2, d3⟩ := al _ _ _ ed
    obtain ⟨g1, g2, g3⟩ := al _ _ _ ee
    obtain ⟨k1, k2, k3⟩ := al _ _ _ e7.symm
    rw [eQ] at a2 a3
    rw [a2] at b2 b3
    rw [b2] at c2 c3
    rw [c2] at d2 d3
    rw [d2] at g2 g3
    rw [g2] at k2 k3
    refine ⟨a1.trans ((b1.mono (by omega)).trans ((c1.mono (by omega)).trans ((d1.mono (by omega)).trans ((g1.mono (by omega)).trans (k1.mono (by omega)))))), by omega, ?_, ?_, ?_, ?_, ?_, k3⟩
    · rw [k1.block _ (by omega), g1.block _ (by omega), d1.block _ (by omega), c1.block _ (by omega), b1.block _ (by omega)]; exact a3
    · rw [k1.block _ (by omega), g1.block _ (by omega), d1.block _ (by omega), c1.block _ (by omega)]; exact b3
    · rw [k1.block _ (by omega), g1.block _ (by omega), d1.block _ (by omega)]; exact c3
    · rw [k1.block _ (by omega), g1.block _ (by omega)]; exact d3
    · rw [k1.block _ (by omega)]; exact g3
  clear e7
  obtain ⟨hb7, hs7, hM7, hR7, hL7, hN7, hz7⟩ := hF
  rw [eQ]
  obtain ⟨Z, eZ⟩ : ∃ b, Q + 1 = b := ⟨_, rfl⟩
  obtain ⟨L, eL⟩ : ∃ b, Z + 1 = b := ⟨_, rfl⟩
  obtain ⟨N, eN⟩ : ∃ b, L + 1 = b := ⟨_, rfl⟩
  obtain ⟨B1, eB1⟩ : ∃ b, N + 1 = b := ⟨_, rfl⟩
  obtain ⟨B2, eB2⟩ : ∃ b, B1 + 1 = b := ⟨_, rfl⟩
  rw [eZ] at hR7 hL7 hN7 hz7 ⊢
  rw [eL] at hL7 hN7 hz7 ⊢
  rw [eN] at hN7 hz7 ⊢
  rw [eB1] at hz7 ⊢
  rw [eB2] at hz7 ⊢
  have hTw := HH.out.1.2.1
  have hWw := HH.out.1.b.size
  have hst7 : St W ((N :: L :: Q :: Z :: T) ++ [B1, B2]) R os ds w7 := HH.out.1.more hb7 (fun b hb => by
    simp only [List.cons_append, List.mem_cons, List.mem_append, List.not_mem_nil, or_false] at hb
    by_cases hbT : b ∈ T
    · exact ⟨.inl hbT, by have := hTw b hbT; omega⟩
    · simp only [hbT, false_or] at hb; exact ⟨.inr (by omega), by omega⟩)
  have hd7 : ∀ b ∈ N :: L :: Q :: Z :: T, b ∉ [B1, B2] := fun b hb hm => by
    simp only [List.mem_cons, List.not_mem_nil, or_false] at hb hm
    by_cases hbT : b ∈ T
    · have := hTw b hbT; omega
    · simp only [hbT, or_false] at hb; omega
  have hGw := hTw G hG
  have h0 : WL W (Q :: Z :: T) N L R os ds w7 [B1, B2] [] w7 :=
    ⟨-1, ⟨fun b hb => (by simp only [List.mem_cons, List.not_mem_nil, or_false] at hb; omega), hst7, hd7, Same.refl _ _, hN7, hL7⟩, .inl rfl⟩
  have HB := Lib.hid (And.intro hb7 (And.intro hs7 (And.intro hM7 (And.intro hR7 (And.intro eQ (And.intro eZ (And.intro eL (And.intro eN (And.intro eB1 (And.intro eB2 (And.intro hTw (And.intro hWw (And.intro hGw (HH.out.2.2.2.2.same (hb7.block G hGw)))))))))))))))
  have EI := Lib.hid (EI.out B1 B2)
  clear hb7 hM7 hR7 hL7 hN7 hst7 hd7 eQ eZ eL eN eB1 eB2 hTw hWw hGw EA
  refine (wpIn_wide (n := 5)).1 ?_
  refine range_out (m := 4) (gf := 32) (lb := #[.pointer (some ⟨B1, 0, none⟩), .pointer (some ⟨B2, 0, none⟩)]) rfl (enters_of Try.func32 (by kernel_rfl) rfl) EI.out (fun _ => rfl)
    (WL W (Q :: Z :: T) N L R os ds w7) (fun c T s X => False) (fun T T' s X Y ⟨v, h, hv⟩ hT ht hn => ⟨v, h.grow ht hn, hv⟩)
    (fun c => grows_off) ?hV [B1, B2] ?hT (fun b hb => hb) ?hZ h0 ?round ?done ?stop
  case hT => intro b hb; have := HB.out; simp at hb; omega
  case hZ => intro X hX; have := HB.out; rw [HH.out.2.2.1]; exact ⟨by rw [hX.block _ (by omega)]; exact hz7.1, by rw [hX.block _ (by omega)]; exact hz7.2⟩
  case hV => rintro TT pre X hX ⟨v, h, hv⟩; exact ⟨ds, h.2.1.less (fun b hb => List.mem_append_right _ hb), HH.out.2.1⟩
  case stop => rintro D c pre X hD hDX hDT hpre hI; exact hI.elim
  case round =>
    rintro l1 TT pre p Wr hl1 hrec hTT hpre hI
    have HI2 := Lib.hid (And.intro hI (And.intro hTT (And.intro hl1 hpre)))
    obtain ⟨fv, efv⟩ : ∃ fv : Int, ((fr (mp p) : Nat) : Int) = fv := ⟨_, rfl⟩
    have hen : encE mp p = #[.int .i64 (p : Int), .int .i64 fv] := by unfold encE; rw [efv]
    rw [hen]
    have HFV := Lib.hid efv
    clear hI hTT hrec hpre hl1 hz7 hen efv h0
    gi_wp2
    refine ⟨Same.refl _ _, fun W2 ht hsz hr2 => ?_⟩
    obtain ⟨⟨v, hw, hv⟩, hTT, hl1, hpre⟩ := HI2.out
    have hw := hw.grow (ht.mono (S' := TT) (by simpa using hl1)) (fun b hb => ⟨.inl hb, by rw [hsz]; exact hTT b hb⟩)
    have hp := mem_sg0.1 (hpre.subset (List.mem_append_right _ (List.mem_singleton.2 rfl)))
    have hvp : v < (p : Int) := by
      rcases hv with hv | ⟨x, hx, hv⟩
      · omega
      · have := sg_before hpre x hx; omega
    have hleq : decide ((p : Int) ≤ v) = false := by simp; omega
    have hmW : WayM W2 G n mp := HB.out.2.2.2.2.2.2.2.2.2.2.2.2.2.same (hw.2.2.2.1 G (by simp [hG]))
    have hat := hmW.at_ p (p : Int) rfl hp.1 fv HFV.out
    obtain ⟨bo, ebo⟩ : ∃ bo, Pg.ok (mp p) = bo := ⟨_, rfl⟩
    rw [ebo] at hat
    have hfld := way_field fv bo W2
    have hff : (fv != fv) = false := by simp
    have cM : W2.cell? ⟨Q, 0, none⟩ = some (.map (some G)) := by rw [cell_of_row _ _ 0 _ 28 (0, 0) ((hw.2.2.2.1 Q (by simp)).trans HB.out.2.2.1)]; rfl
    have cN : W2.cell? ⟨N, 0, none⟩ = some (.int .i64 (pre.length : Nat)) := by rw [cell_of_row _ _ 0 _ 3 (0, 0) hw.2.2.2.2.1]; rfl
    have cL : W2.cell? ⟨L, 0, none⟩ = some (.int .i64 v) := by rw [cell_of_row _ _ 0 _ 3 (0, 0) hw.2.2.2.2.2]; rfl
    have fN : W2.frozen? ⟨N, 0, none⟩ = false := frozen_of_row _ _ 0 _ 3 hw.2.2.2.2.1
    have fL : W2.frozen? ⟨L, 0, none⟩ = false := frozen_of_row _ _ 0 _ 3 hw.2.2.2.2.2
    obtain ⟨k, ek⟩ : ∃ k : Nat, pre.length = k := ⟨_, rfl⟩
    rw [ek] at cN hw
    have hk : k ≤ 4096 := by
      have h2 := hpre.length_le
      have h3 : (sg mp 0 0).length ≤ 4096 := by
        unfold sg
        refine Nat.le_trans (List.length_filter_le _ _) ?_
        simp
      simp at h2
      omega
    have i1 : IntKind.i64.wrap ((k : Int) + 1) = (k : Int) + 1 := by rw [IntKind.wrap_i64]; omega
    have hNL : ¬ L = N := by have := HB.out; omega
    have cN2 : ∀ u, (W2.setCell ⟨L, 0, none⟩ u).cell? ⟨N, 0, none⟩ = some (.int .i64 (k : Int)) := fun u => by rw [World.cell?_setCell_far _ _ _ _ hNL]; exact cN
    have HC := Lib.hid (And.intro hw (And.intro ek hNL))
    clear hw hr2 hsz ht hk ek hv hvp hpre hl1 hTT hmW hp ebo
    gi_wp2_with fail
    obtain ⟨hw, ek, hNL⟩ := HC.out
    obtain ⟨w1, w2, w3, w4, w5, w6⟩ := hw
    have hb := HB.out
    have hne : ∀ b, b ≠ N → b ≠ L → ((W2.setCell ⟨L, 0, none⟩ (.int .i64 (p : Int))).setCell ⟨N, 0, none⟩ (.int .i64 ((k : Int) + 1))).heap[b]? = W2.heap[b]? := fun b h1 h2 => by
      rw [Below.heap_setCell _ _ _ _ h1, Below.heap_setCell _ _ _ _ h2]
    have hst := (w2.set L 0 (.int .i64 (p : Int)) (by simp) (by omega)).set N 0 (.int .i64 ((k : Int) + 1)) (by simp) (by omega)
    refine ⟨fun b hb2 => hne b (fun e => w3 N (by simp) (e ▸ hb2)) (fun e => w3 L (by simp) (e ▸ hb2)), (p : Int), ⟨w1, hst, w3, fun b hb2 => ?_, ?_, ?_⟩, .inr ⟨p, by simp, rfl⟩⟩
    · rw [hne b (fun e => ?_) (fun e => ?_)]
      · exact w4 b hb2
      · subst e
        simp only [List.mem_cons] at hb2
        rcases hb2 with e | e | e
        · omega
        · omega
        · have := hb.2.2.2.2.2.2.2.2.2.2.1 b e; omega
      · subst e
        simp only [List.mem_cons] at hb2
        rcases hb2 with e | e | e
        · omega
        · omega
        · have := hb.2.2.2.2.2.2.2.2.2.2.1 b e; omega
    · have hl : (((pre ++ [p]).length : Nat) : Int) = (k : Int) + 1 := by rw [List.length_append, ek]; rfl
      rw [hl]
      have := heap_setCell_same (W2.setCell ⟨L, 0, none⟩ (.int .i64 (p : Int))) N 0 _ 3 (.int .i64 ((k : Int) + 1)) ((Below.heap_setCell _ _ _ _ (fun e => hNL e.symm)).trans w5)
      simpa using this
    · rw [Below.heap_setCell _ _ _ _ hNL]
      have := heap_setCell_same W2 L 0 _ 3 (.int .i64 (p : Int)) w6
      simpa using this
  case done =>
    rintro D X hD hDX hDT ⟨v, hw, hv⟩ hK hsm
    have hmW : WayM X G n mp := HB.out.2.2.2.2.2.2.2.2.2.2.2.2.2.same (hw.2.2.2.1 G (by simp [hG]))
    have hlen := hmW.len 3
    rw [← sg_cnt] at hlen
    have cM : X.cell? ⟨Q, 0, none⟩ = some (.map (some G)) := by rw [cell_of_row _ _ 0 _ 28 (0, 0) ((hw.2.2.2.1 Q (by simp)).trans HB.out.2.2.1)]; rfl
    have hZ7 := (hw.2.2.2.1 Z (by simp)).trans HB.out.2.2.2.1
    have cZ : X.cell? ⟨Z, 0, none⟩ = some (.bool false) := by rw [cell_of_row _ _ 0 _ 4 (0, 0) hZ7]; rfl
    have fZ : X.frozen? ⟨Z, 0, none⟩ = false := frozen_of_row _ _ 0 _ 4 hZ7
    have cN : X.cell? ⟨N, 0, none⟩ = some (.int .i64 ((sg mp 0 0).length : Nat)) := by rw [cell_of_row _ _ 0 _ 3 (0, 0) hw.2.2.2.2.1]; rfl
    obtain ⟨k, ek⟩ : ∃ k : Int, (((sg mp 0 0).length : Nat) : Int) = k := ⟨_, rfl⟩
    rw [ek] at cN hlen
    have hkk : (k == k) = true := by simp
    have hZD : Z ≠ D := by have := HB.out; omega
    have HX := Lib.hid (And.intro hw (And.intro hK (And.intro hZ7 (And.intro hZD hD))))
    clear hw hv hsm hmW hZ7 hK hDX hDT hZD hD ek h0 hz7
    go_wp2_with fail
    refine ⟨by simp, .inl ⟨_, _, rfl, run_takeDeferred (by rw [Below.heap_setCell _ _ _ _ (fun e => HX.out.2.2.2.1 e.symm)]; exact HX.out.2.1), ?_⟩⟩
    have h9 := heap_setCell_same X Z 0 _ 4 (.bool true) HX.out.2.2.1
    refine ⟨_, results_bool (by rfl) _ _ Z (.bool true) (by rfl) ?_, rfl, ?_⟩
    · rw [cell_of_row _ _ 0 _ 4 (0, 0) ((World.putObj_heap_other HX.out.2.2.2.1).trans h9)]; rfl
    · have hs := HX.out.1.2.1.set Z 0 (.bool true) (by simp) (by have := HB.out; omega)
      exact hs.b.trans ((Turn.put _ D (.deferred none)).below hs.b.size (fun b hb => by obtain rfl := List.mem_singleton.1 hb; have := HX.out.2.2.2.2; have := HB.out; omega))
end Go.Proofs.Ytliljicmkgbfpaa
