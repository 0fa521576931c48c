/- Wipe. -/
import Derived.Test.YtliljicmkgbfpaaJm
set_option linter.unusedVariables false
set_option linter.unusedSimpArgs false
namespace Pg
/-- Does a page lead to a frame? -/
def leads (mp : Nat → Option (Nat × Bool)) (f p : Nat) : Bool := match mp p with
  | some x => x.1 == f
  | none => false
/-- Where pages lead when those that have come, and led to a frame, lead nowhere. -/
def wpd (mp : Nat → Option (Nat × Bool)) (f : Nat) (pre : List Nat) : Nat → Option (Nat × Bool) := fun p => if p ∈ pre ∧ leads mp f p = true then none else mp p
variable {os os' : List Nat} {ds ds' : List (List Nat)} {o : Nat} {ks : List (Nat × Nat)} {nd : Nat → Nat → Nat} {mp : Nat → Option (Nat × Bool)}
theorem Tb.lt (h : Tb os ds o ks nd mp) {p : Nat} (hp : (mp p).isSome = true) : p < 4096 := by
  have hm : (3, p / 8) ∈ ks := Classical.byContradiction fun hn => by rw [h.out p hn] at hp; cases hp
  have := (h.lev _ _ hm).2
  simp at this
  omega
theorem mem_sg0 {p : Nat} : p ∈ sg mp 0 0 ↔ p < 4096 ∧ (mp p).isSome = true := by
  unfold sg
  rw [List.mem_filter, List.mem_range'_1]
  simp
theorem sg_pair (mp : Nat → Option (Nat × Bool)) (l q : Nat) : (sg mp l q).Pairwise (· < ·) := by
  unfold sg
  exact List.Pairwise.filter _ List.pairwise_lt_range'
theorem sg_before {l q p : Nat} {pre : List Nat} (h : pre ++ [p] <+: sg mp l q) : ∀ x ∈ pre, x < p := fun x hx => by
  obtain ⟨t, ht⟩ := h
  have := sg_pair mp l q
  rw [← ht, List.append_assoc, List.pairwise_append] at this
  exact this.2.2 x hx p (by simp)
theorem Tb.wipe_all (h : Tb os ds o ks nd mp) (f : Nat) : wpd mp f (sg mp 0 0) = wipe mp f := by
  funext p
  unfold wpd wipe leads
  cases hm : mp p with
  | none => simp
  | some x =>
    have hin : p ∈ sg mp 0 0 := mem_sg0.2 ⟨h.lt (by rw [hm]; rfl), by rw [hm]; rfl⟩
    by_cases e : x.1 = f
    · simp [hin, e]
    · simp [hin, e]
theorem many_sg (mp : Nat → Option (Nat × Bool)) (f : Nat) : ((sg mp 0 0).filter (leads mp f)).length = many mp f := by
  unfold sg many
  rw [List.filter_filter, Nat.zero_mul, List.range_eq_range']
  congr 2
  funext p
  unfold leads
  cases mp p <;> simp
theorem wpd_nil (mp : Nat → Option (Nat × Bool)) (f : Nat) : wpd mp f [] = mp := by funext p; unfold wpd; simp
theorem wpd_no {f p : Nat} {pre : List Nat} (h : leads mp f p = false) : wpd mp f (pre ++ [p]) = wpd mp f pre := by
  funext x
  unfold wpd
  by_cases e : x = p
  · subst e; simp [h]
  · simp [e]
theorem wpd_yes {f p : Nat} {pre : List Nat} (h : leads mp f p = true) : wpd mp f (pre ++ [p]) = fun x => if x = p then none else wpd mp f pre x := by
  funext x
  unfold wpd
  by_cases e : x = p
  · subst e; simp [h]
  · simp [e]
theorem wpd_out {f p : Nat} {pre : List Nat} (h : p ∉ pre) : wpd mp f pre p = mp p := by unfold wpd; simp [h]
/-- What is written into a frame of the owner is nothing to others. -/
theorem Tb.oth_put (h : Tb os ds o ks nd mp) {q i x : Nat} (hk : (3, q) ∈ ks) : Oth o os ds os (ds.set (nd 3 q - 1) (lay8 (ds.getD (nd 3 q - 1) []) i x)) := by
  obtain ⟨f1, f2, f3, _⟩ := h.own 3 q hk
  exact Oth.write f1 (by rw [h.len]; exact f2) f3 _
end Pg
namespace Go.Proofs.Ytliljicmkgbfpaa
open Go.RowKit Go.Shelf Pg
set_option linter.unusedVariables false
set_option linter.unusedSimpArgs false
attribute [local go_sem] Oper.semAt_some
variable {W : World} {T : List Nat} {R : Nat} {os : List Nat} {ds : List (List Nat)} {o : Nat} {ks : List (Nat × Nat)} {nd : Nat → Nat → Nat} {mp : Nat → Option (Nat × Bool)} {w w' : World}
/-- Others have turned what is theirs: the pool hasn't. -/
theorem St.grow {own TT TT' : List Nat} (h : St W (own ++ TT) R os ds w) (hW : ∀ b ∈ TT, W.heap.size ≤ b) (ht : Turn TT w w') (hn : New TT TT' w w') : St W (own ++ TT') R os ds w' := by
  obtain ⟨h1, h2, S, h3, h4⟩ := h
  refine ⟨h1.trans (ht.below h1.size hW), fun b hb => ?_, S, h3.keep fun b hm => ht.block b (h3.lt b hm) (fun e => (h4 b hm).2 (by simp [e])), fun b hm => ⟨(h4 b hm).1, fun e => ?_⟩⟩
  · rcases List.mem_append.1 hb with hb | hb
    · exact Nat.lt_of_lt_of_le (h2 b (by simp [hb])) ht.size
    · exact (hn b hb).2
  · rcases List.mem_append.1 e with e | e
    · exact (h4 b hm).2 (by simp [e])
    · rcases (hn b e).1 with e | e
      · exact (h4 b hm).2 (by simp [e])
      · have := h3.lt b hm; omega
theorem new_up {TT TT' : List Nat} (hb : Below W.heap.size W w) (hW : ∀ b ∈ TT, W.heap.size ≤ b) (hn : New TT TT' w w') : ∀ b ∈ TT', W.heap.size ≤ b := fun b hm => by
  rcases (hn b hm).1 with e | e
  · exact hW b e
  · exact Nat.le_trans hb.size e
theorem new_out {own TT TT' : List Nat} (ho : ∀ b ∈ own, b < w.heap.size) (hd : ∀ b ∈ own, b ∉ TT) (hn : New TT TT' w w') : ∀ b ∈ own, b ∉ TT' := fun b hb e => by
  rcases (hn b e).1 with e | e
  · exact hd b hb e
  · have := ho b hb; omega
theorem same_turn {own TT : List Nat} (ho : ∀ b ∈ own, b < w.heap.size) (hd : ∀ b ∈ own, b ∉ TT) (ht : Turn TT w w') : Same own w w' := fun b hb => ht.block b (ho b hb) (hd b hb)
/-- What Wipe's loop keeps: N is the count's cell, own1 what doesn't turn. -/
def WI (W : World) (own1 : List Nat) (N R : Nat) (os : List Nat) (ds : List (List Nat)) (o : Nat) (ks : List (Nat × Nat)) (nd : Nat → Nat → Nat) (mp : Nat → Option (Nat × Bool)) (f : Nat) (w3 : World) (TT : List Nat) (pre : List Nat) (X : World) : Prop :=
  ∃ ds', (∀ b ∈ TT, W.heap.size ≤ b) ∧ St W ((N :: own1) ++ TT) R os ds' X ∧ (∀ b ∈ N :: own1, b ∉ TT) ∧ Tb os ds' o ks nd (wpd mp f pre) ∧ Oth o os ds os ds' ∧ Same own1 w3 X ∧ X.heap[N]? = some (Obj.cells #[.int .i64 (((pre.filter (leads mp f)).length : Nat) : Int)] 3)
theorem WI.grows (W : World) (own1 : List Nat) (N R : Nat) (os : List Nat) (ds : List (List Nat)) (o : Nat) (ks : List (Nat × Nat)) (nd : Nat → Nat → Nat) (mp : Nat → Option (Nat × Bool)) (f : Nat) (w3 : World) : Grows (WI W own1 N R os ds o ks nd mp f w3) := by
  rintro T T' s w w' ⟨ds', h1, h2, h3, h4, h5, h6, h7⟩ hT ht hn
  have ho : ∀ b ∈ N :: own1, b < w.heap.size := fun b hb => h2.2.1 b (List.mem_append_left _ hb)
  have hs := same_turn ho h3 ht
  exact ⟨ds', new_up h2.b h1 hn, h2.grow h1 ht hn, new_out ho h3 hn, h4, h5, h6.trans (fun b hb => hs b (List.mem_cons_of_mem _ hb)), (hs N (by simp)).trans h7⟩
set_option maxRecDepth 100000 in
set_option maxHeartbeats 4000000 in
theorem wipe_st (h : St W T R os ds w) (t : Tb os ds o ks nd mp) (r frame : Int) (hr : ((nd 0 0 : Nat) : Int) = r) (f : Nat) (hf : (f : Int) = frame) (f1 : 1 ≤ f) (f2 : f ≤ 1000000) :
    Calls Try.prog 13 #[.pointer (some ⟨R, 0, none⟩), .int .i64 r, .int .i64 frame] w fun e w' => e = .returned (.int .i64 (many mp f : Nat)) ∧ ∃ ds', St W T R os ds' w' ∧ Tb os ds' o ks nd (wipe mp f) ∧ Oth o os ds os ds' ∧ Same T w w' := by
  subst hr hf
  obtain ⟨q0, eq0⟩ : ∃ q0, nd 0 0 = q0 := ⟨_, rfl⟩
  obtain ⟨c, ec⟩ : ∃ c : Int, ((many mp f : Nat) : Int) = c := ⟨_, rfl⟩
  rw [ec]
  have EC := Lib.hid ec
  clear ec
  rw [eq0]
  have BI0 := below_all (W0 := W) (R := R) ⟨ds, t⟩ 0 0 (by omega) t.root
  unfold BI at BI0
  rw [eq0] at BI0
  have HI := Lib.hid BI0
  have HH := Lib.hid h
  have HT := Lib.hid t
  have BL := Lib.hid (fun (X : World) => below_any (R := R) (q0 : Int) 0 0 X)
  clear h t BI0 f1 f2
  refine (callsIn_wide (n := 5)).1 ?_
  refine callsIn_of_wp_marks Try.func13 rfl trivial ?_ rfl
  simp only [Try.ntmps13, List.size_toArray, List.length_cons, List.length_nil, Nat.reduceAdd, Nat.reduceSub, Array.replicate_succ, Array.replicate_zero, List.push_toArray, List.append_toArray, List.nil_append, List.cons_append]
  refine wpIn_wide.2 ?_
  go_wp2_with fail
  refine (BL.out _).mono ?_; rintro e w3 ⟨rfl, e3⟩
  go_wp2_with fail
  rw [← e3]
  obtain ⟨P, eP⟩ : ∃ P, w.heap.size = P := ⟨_, rfl⟩
  have hF : Below w.heap.size w w3 ∧ w3.heap.size = P + 7 ∧ w3.heap[P]? = some (Obj.cells #[.pointer (some ⟨R, 0, none⟩)] 24) ∧ w3.heap[P + 1]? = some (Obj.cells #[.int .i64 (f : Int)] 3) ∧ w3.heap[P + 1 + 1]? = some (Obj.cells #[.int .i64 0] 3) ∧ BZ R q0 0 0 (P + 1 + 1 + 1) (P + 1 + 1 + 1 + 1) (P + 1 + 1 + 1 + 3) (P + 1 + 1 + 1 + 2) w3 := by
    obtain ⟨w2, e2⟩ : ∃ w2, ((w.alloc (Obj.cells #[.pointer (some ⟨R, 0, none⟩)] 24)).alloc (Obj.cells #[.int .i64 (f : Int)] 3)).alloc (Obj.cells #[.int .i64 0] 3) = w2 := ⟨_, rfl⟩
    rw [e2] at e3
    have g1 : Below w.heap.size w w2 ∧ w2.heap.size = P + 1 + 1 + 1 ∧ w2.heap[P]? = some (Obj.cells #[.pointer (some ⟨R, 0, none⟩)] 24) ∧ w2.heap[P + 1]? = some (Obj.cells #[.int .i64 (f : Int)] 3) ∧ w2.heap[P + 1 + 1]? = some (Obj.cells #[.int .i64 0] 3) := by
      rw [← e2, ← eP]
      refine ⟨(((Below.refl _ _).alloc (Nat.le_refl _) _).alloc (by simp) _).alloc (by simp <;> omega) _, by simp, ?_, ?_, ?_⟩
      · rw [Below.heap_alloc _ _ _ (by simp <;> omega), Below.heap_alloc _ _ _ (by simp)]; exact heap_alloc_new w _
      · rw [Below.heap_alloc _ _ _ (by simp)]
        have := heap_alloc_new (w.alloc (Obj.cells #[.pointer (some ⟨R, 0, none⟩)] 24)) (Obj.cells #[.int .i64 (f : Int)] 3)
        simpa using this
      · have := heap_alloc_new ((w.alloc (Obj.cells #[.pointer (some ⟨R, 0, none⟩)] 24)).alloc (Obj.cells #[.int .i64 (f : Int)] 3)) (Obj.cells #[.int .i64 0] 3)
        simpa using this
    obtain ⟨g1, g2, g3, g4, g5⟩ := g1
    have h2 := boxB_below w2 R (q0 : Int) 0 0
    have h3 := boxB_size w2 R (q0 : Int) 0 0
    have h4 := boxB_z w2 R q0 0 0
    rw [g2] at h2 h3 h4
    rw [e3]
    exact ⟨g1.trans (h2.mono (by omega)), by omega, by rw [h2.block _ (by omega)]; exact g3, by rw [h2.block _ (by omega)]; exact g4, by rw [h2.block _ (by omega)]; exact g5, h4⟩
  clear e3
  obtain ⟨hb3, hs3, hP3, hF3, hN3, hZ3⟩ := hF
  rw [eP]
  obtain ⟨F, eF⟩ : ∃ b, P + 1 = b := ⟨_, rfl⟩
  obtain ⟨N, eN⟩ : ∃ b, F + 1 = b := ⟨_, rfl⟩
  obtain ⟨b1, eb1⟩ : ∃ b, N + 1 = b := ⟨_, rfl⟩
  obtain ⟨b2, eb2⟩ : ∃ b, b1 + 1 = b := ⟨_, rfl⟩
  obtain ⟨b3, eb3⟩ : ∃ b, b1 + 3 = b := ⟨_, rfl⟩
  obtain ⟨b4, eb4⟩ : ∃ b, b1 + 2 = b := ⟨_, rfl⟩
  rw [eF] at hF3 hN3 hZ3 ⊢
  rw [eN] at hN3 hZ3 ⊢
  rw [eb1] at hZ3 ⊢
  rw [eb2, eb3, eb4] at hZ3 ⊢
  have hTw := HH.out.2.1
  have hWw := HH.out.b.size
  have hst3 : St W ((N :: P :: F :: T) ++ [b1, b2, b3, b4]) R os ds w3 := HH.out.more hb3 (fun b hb => by
    simp only [List.cons_append, List.mem_cons, List.mem_append, List.not_mem_nil, or_false] at hb
    by_cases hbT : b ∈ T
    · exact ⟨.inl hbT, by have := hTw b hbT; omega⟩
    · simp only [hbT, false_or] at hb; exact ⟨.inr (by omega), by omega⟩)
  have hd3 : ∀ b ∈ N :: P :: F :: T, b ∉ [b1, b2, b3, b4] := fun b hb hm => by
    simp only [List.mem_cons, List.not_mem_nil, or_false] at hb hm
    by_cases hbT : b ∈ T
    · have := hTw b hbT; omega
    · simp only [hbT, or_false] at hb; omega
  have h0 : WI W (P :: F :: T) N R os ds o ks nd mp f w3 [b1, b2, b3, b4] [] w3 :=
    ⟨ds, fun b hb => (by simp only [List.mem_cons, List.not_mem_nil, or_false] at hb; omega), hst3, hd3, by rw [wpd_nil]; exact HT.out, Oth.refl _ _ _, Same.refl _ _, hN3⟩
  have HB3 := Lib.hid (And.intro hb3 (And.intro hs3 (And.intro hP3 (And.intro hF3 (And.intro eP (And.intro eF (And.intro eN (And.intro hTw hWw))))))))
  have hsT : Same T w w3 := fun b hb => hb3.block b (hTw b hb)
  have HST := Lib.hid hsT
  have HBS := Lib.hid (And.intro eb1 (And.intro eb2 (And.intro eb3 eb4)))
  clear hb3 hP3 hF3 hN3 hst3 hd3 hsT eb1 eb2 eb3 eb4 hTw hWw
  refine (wpIn_wide (n := 5)).1 ?_
  refine range_out (m := 4) (gf := 37) (lb := #[.pointer (some ⟨b1, 0, none⟩), .pointer (some ⟨b2, 0, none⟩), .pointer (some ⟨b3, 0, none⟩), .pointer (some ⟨b4, 0, none⟩)]) rfl (enters_of Try.func37 (by kernel_rfl) rfl) (HI.out b1 b2 b3 b4) (fun _ => rfl)
    (WI W (P :: F :: T) N R os ds o ks nd mp f w3) (fun c T s X => False) (WI.grows _ _ _ _ _ _ _ _ _ _ _ _)
    (fun c => grows_off) ?hV [b1, b2, b3, b4] ?hT (fun b hb => hb) ?hZ h0 ?round ?done ?stop
  case hT => intro b hb; have := HBS.out; have := HB3.out; simp at hb; omega
  case hZ => intro X hX; have := HBS.out; have := HB3.out; exact ⟨by rw [hX.block _ (by omega)]; exact hZ3.1, by rw [hX.block _ (by omega)]; exact hZ3.2.1, by rw [hX.block _ (by omega)]; exact hZ3.2.2.1, by rw [hX.block _ (by omega)]; exact hZ3.2.2.2⟩
  case hV =>
    rintro TT pre X hX ⟨ds', h1, h2, h3, h4, h5, h6, h7⟩
    exact ⟨ds', _, h2.less (fun b hb => List.mem_append_right _ hb), h4, fun p _ hx => wpd_out (fun e => Nat.lt_irrefl _ (hx p e))⟩
  case stop => rintro D c pre X hD hDX hDT hpre hI; exact hI.elim
  case done =>
    rintro D X hD hDX hDT ⟨ds', h1, h2, h3, h4, h5, h6, h7⟩ hK hsm
    rw [many_sg] at h7
    rw [HT.out.wipe_all f] at h4
    rw [EC.out] at h7
    have cN : X.cell? ⟨N, 0, none⟩ = some (.int .i64 c) := by rw [cell_of_row _ _ 0 _ 3 (0, 0) h7]; rfl
    have hsz : X.heap.size ≤ (X.putObj D (.deferred none)).heap.size := by simp
    have hst : St W (D :: [b1, b2, b3, b4]) R os ds' X := h2.less (fun b hb => List.mem_append_right _ hb)
    have hF : St W T R os ds' (X.putObj D (.deferred none)) ∧ Same T w (X.putObj D (.deferred none)) := by
      have hown : ∀ b ∈ N :: P :: F :: T, b < X.heap.size := fun b hb => h2.2.1 b (List.mem_append_left _ hb)
      have ht := (Turn.put X D (.deferred none)).mono (S' := D :: [b1, b2, b3, b4]) (by simp)
      have hg := h2.grow h1 ht (TT' := []) (fun b hb => by cases hb)
      rw [List.append_nil] at hg
      exact ⟨hg.less (fun b hb => by simp [hb]), (HST.out.trans (fun b hb => h6 b (by simp [hb]))).trans (fun b hb => same_turn hown h3 ht b (by simp [hb]))⟩
    have HF := Lib.hid (And.intro hF (And.intro h4 (And.intro h5 hK)))
    clear h1 h2 h3 h4 h5 h6 h7 hsm hK hst hF hsz
    go_wp2_with fail
    refine ⟨by simp, .inl ⟨_, _, rfl, run_takeDeferred HF.out.2.2.2, ?_⟩⟩
    exact ⟨_, results_tmp rfl _ _ _, rfl, ds', HF.out.1.1, HF.out.2.1, HF.out.2.2.1, HF.out.1.2⟩
  case round =>
    rintro l1 TT pre p Wr hl1 hrec hTT hpre hI
    have hk2 := heap_alloc_new Wr (Obj.cells #[.int .i64 ((nd 3 (p / 8) : Nat) : Int), .int .i64 ((p % 8 : Nat) : Int)] 67)
    have hbq := below_alloc1 Wr (Obj.cells #[.int .i64 ((nd 3 (p / 8) : Nat) : Int), .int .i64 ((p % 8 : Nat) : Int)] 67)
    have hszq : (Wr.alloc (Obj.cells #[.int .i64 ((nd 3 (p / 8) : Nat) : Int), .int .i64 ((p % 8 : Nat) : Int)] 67)).heap.size = Wr.heap.size + 1 := by simp
    have HQ := Lib.hid (And.intro hk2 (And.intro hbq hszq))
    obtain ⟨PB, ePB⟩ : ∃ PB : Nat, nd 3 (p / 8) = PB := ⟨_, rfl⟩
    obtain ⟨PI, ePI⟩ : ∃ PI : Nat, p % 8 = PI := ⟨_, rfl⟩
    have hencB : encB nd p = #[.int .i64 (p : Int), .agg #[.int .i64 (PB : Int), .int .i64 (PI : Int)]] := by unfold encB; rw [ePB, ePI]
    rw [ePB, ePI] at HQ
    rw [hencB]
    have HI2 := Lib.hid (And.intro hI (And.intro hTT (And.intro hl1 (And.intro hpre (And.intro ePB ePI)))))
    clear hk2 hbq hszq ePB ePI hI hrec hTT hl1 hpre hencB h0 hs3 hZ3
    gi_wp2
    refine ⟨fun b hb => HQ.out.2.1.block b (HI2.out.2.1 b hb), fun W5 ht5 hsz5 hr5 => ?_⟩
    rw [HQ.out.2.2] at hsz5
    have ht : Turn TT Wr W5 := (Turn.of_below HQ.out.2.1).trans ht5 (fun x hx => by obtain rfl := List.mem_singleton.1 hx; exact .inl HI2.out.2.2.1)
    have hTT5 : ∀ b ∈ TT, b < W5.heap.size := fun b hb => by have := HI2.out.2.1 b hb; omega
    have hPB : W5.heap[Wr.heap.size]? = some (Obj.cells #[.int .i64 (PB : Int), .int .i64 (PI : Int)] 67) := by
      rw [ht5.block _ (by rw [HQ.out.2.2]; omega) (fun e => by have e1 := List.mem_singleton.1 e; have := HI2.out.2.1 l1 HI2.out.2.2.1; omega)]
      exact HQ.out.1
    obtain ⟨PP, ePP⟩ : ∃ PP, Wr.heap.size = PP := ⟨_, rfl⟩
    rw [ePP] at hPB hsz5 ⊢
    obtain ⟨ds5, i1, i2, i3, i4, i5, i6, i7⟩ := WI.grows W (P :: F :: T) N R os ds o ks nd mp f w3 TT TT pre Wr W5 HI2.out.1 HI2.out.2.1 ht (fun b hb => ⟨.inl hb, hTT5 b hb⟩)
    have p0 : W5.cell? ⟨PP, 0, none⟩ = some (.int .i64 (PB : Int)) := by rw [cell_of_row _ _ 0 _ 67 (0, 0) hPB]; rfl
    have p1 : W5.cell? ⟨PP, 1, none⟩ = some (.int .i64 (PI : Int)) := by rw [cell_of_row _ _ 1 _ 67 (0, 0) hPB]; rfl
    have hP5 : W5.heap[P]? = some (Obj.cells #[.pointer (some ⟨R, 0, none⟩)] 24) := (i6 P (by simp)).trans HB3.out.2.2.1
    have hF5 : W5.heap[F]? = some (Obj.cells #[.int .i64 (f : Int)] 3) := (i6 F (by simp)).trans HB3.out.2.2.2.1
    have cP : W5.cell? ⟨P, 0, none⟩ = some (.pointer (some ⟨R, 0, none⟩)) := by rw [cell_of_row _ _ 0 _ 24 (0, 0) hP5]; rfl
    have cF : W5.cell? ⟨F, 0, none⟩ = some (.int .i64 (f : Int)) := by rw [cell_of_row _ _ 0 _ 3 (0, 0) hF5]; rfl
    have hp : p ∈ sg mp 0 0 := HI2.out.2.2.2.1.subset (List.mem_append_right _ (List.mem_singleton.2 rfl))
    have hpr := sg_range hp
    have hmem : (3, p / 8) ∈ ks := Classical.byContradiction fun hn => by
      have := HT.out.out p hn
      rw [this] at hpr
      simp at hpr
    have hnp : p ∉ pre := fun e => Nat.lt_irrefl _ (sg_before HI2.out.2.2.2.1 p e)
    have hown := tb_own i4 hmem
    have hlast := i4.last (p / 8) (p % 8) hmem (Nat.mod_lt _ (by omega))
    rw [show 8 * (p / 8) + p % 8 = p by omega, wpd_out hnp, HI2.out.2.2.2.2.1, HI2.out.2.2.2.2.2] at hlast
    rw [HI2.out.2.2.2.2.1] at hown
    have hPI : PI < 8 := by rw [← HI2.out.2.2.2.2.2]; exact Nat.mod_lt _ (by omega)
    have hel := ent_lt i2 hown hPI
    obtain ⟨x, ex⟩ : ∃ x, ent ds5 PB PI = x := ⟨_, rfl⟩
    rw [ex] at hlast hel
    have hth : there x = true := by
      rw [hlast] at hpr
      unfold Pg.look at hpr
      split at hpr
      · assumption
      · simp at hpr
    have hle : leads mp f p = (frame x == f) := by unfold leads; rw [hlast]; unfold Pg.look; rw [if_pos hth]
    have G := Lib.hid (get_st i2.drew PB PI hown hPI x (by rw [ex]))
    have FR := Lib.hid (fun (X : World) => frame_any x X hel)
    obtain ⟨fx, efx⟩ : ∃ fx : Nat, frame x = fx := ⟨_, rfl⟩
    rw [efx] at FR hle
    have hsz5' : PP < W5.heap.size := by omega
    have HPP := Lib.hid (show PP ∉ TT ∧ PP ∉ N :: P :: F :: T from ⟨fun e => by have := HI2.out.2.1 PP e; omega, fun e => by
      obtain ⟨ds', q1, q2, _⟩ := HI2.out.1
      have := q2.2.1 PP (List.mem_append_left _ e); omega⟩)
    have KS := Lib.hid (fun (X : World) (hb : Below W5.heap.size W5 X) => show X.cell? ⟨P, 0, none⟩ = some (.pointer (some ⟨R, 0, none⟩)) ∧ X.cell? ⟨F, 0, none⟩ = some (.int .i64 (f : Int)) ∧ X.cell? ⟨PP, 0, none⟩ = some (.int .i64 (PB : Int)) ∧ X.cell? ⟨PP, 1, none⟩ = some (.int .i64 (PI : Int)) by
      exact ⟨by rw [hb.cell (p := ⟨P, 0, none⟩) (Array.getElem?_eq_some_iff.1 hP5).1]; exact cP, by rw [hb.cell (p := ⟨F, 0, none⟩) (Array.getElem?_eq_some_iff.1 hF5).1]; exact cF, by rw [hb.cell (p := ⟨PP, 0, none⟩) hsz5']; exact p0, by rw [hb.cell (p := ⟨PP, 1, none⟩) hsz5']; exact p1⟩)
    have HW5 := Lib.hid (And.intro i1 (And.intro i2 (And.intro i3 (And.intro i4 (And.intro i5 (And.intro i6 (And.intro i7 (And.intro hown (And.intro hPI (And.intro hmem (And.intro hnp hTT5)))))))))))
    have HLE := Lib.hid hle
    clear ht5 hsz5 hr5 ht hTT5 i1 i2 i3 i4 i5 i6 i7 hPB hP5 hF5 hp hpr hmem hnp hown hlast hPI hel ex hth hle efx cP cF p0 p1 hsz5'
    gi_wp2_with fail
    refine region_held_round (S := fun w' => w'.cell? ⟨P, 0, none⟩ = some (.pointer (some ⟨R, 0, none⟩)) ∧ w'.cell? ⟨F, 0, none⟩ = some (.int .i64 (f : Int)) ∧ w'.cell? ⟨PP, 0, none⟩ = some (.int .i64 (PB : Int)) ∧ w'.cell? ⟨PP, 1, none⟩ = some (.int .i64 (PI : Int))) (by kernel_rfl) (by kernel_rfl) (fun ⟨_, _, h⟩ => h) (KS.out _ (Below.refl _ _).drew) (fun hHeld => ?_)
    refine wpAnyH_take (i := 0) (oi := { dst := some 15, op := Op.load 24 (Operand.tmp 3), type := 24, pos := "pages.go:86", after := #[], guard := none }) (v := ?vv1_1) rfl (by kernel_rfl) (by kernel_rfl) (by kernel_rfl) (fun _ _ _ h => h) (Or.inl ⟨by rfl, ?hy1_1⟩) hHeld ?rest1_1
    case hy1_1 => (intro wS hSw; (try dsimp only at hSw); go_simp; try with_reducible rfl)
    simp only [Act.put, List.setIfInBounds_toArray, List.set_cons_zero, List.set_cons_succ]
    refine wpAnyH_take (i := 1) (oi := { dst := some 16, op := Op.load 67 (Operand.tmp 9), type := 67, pos := "pages.go:86", after := #[], guard := none }) (v := ?vv1_2) rfl (by kernel_rfl) (by kernel_rfl) (by kernel_rfl) (fun _ _ _ h => h) (Or.inl ⟨by rfl, ?hy1_2⟩) hHeld ?rest1_2
    case hy1_2 => (intro wS hSw; (try dsimp only at hSw); go_simp; try with_reducible rfl)
    simp only [Act.put, List.setIfInBounds_toArray, List.set_cons_zero, List.set_cons_succ]
    refine wpAnyH_take (i := 4) (oi := { dst := some 19, op := Op.load 3 (Operand.tmp 5), type := 3, pos := "pages.go:86", after := #[], guard := none }) (v := ?vv1_3) rfl (by kernel_rfl) (by kernel_rfl) (by kernel_rfl) (fun _ _ _ h => h) (Or.inl ⟨by rfl, ?hy1_3⟩) hHeld ?rest1_3
    case hy1_3 => (intro wS hSw; (try dsimp only at hSw); go_simp; try with_reducible rfl)
    simp only [Act.put, List.setIfInBounds_toArray, List.set_cons_zero, List.set_cons_succ]
    refine wpAnyH_ready (rs := [2]) (by kernel_rfl) (by simp) ?_
    refine AllReadyH.cons (o := { dst := some 17, op := Op.call { callee := Callee.value (Operand.func 29), args := #[Operand.tmp 15, Operand.tmp 16], argTypes := #[24, 67] }, type := 68, pos := "pages.go:86", after := #[{ on := 0, ground := Ground.data }, { on := 1, ground := Ground.data }], guard := none }) rfl (fun K hK => ?_) AllReadyH.nil
    go_simp
    with_reducible refine (G.out).mono ?_
    rintro e w6 ⟨rfl, _, _, hb6⟩
    have hcall := Lib.hid (Below.of_drew hb6)
    clear hb6
    clear hHeld
    try go_wp2_with fail
    refine hK.out _ _ (KS.out _ hcall.out) (fun hHeld => ?_)
    clear hK K
    try simp only [Act.put, List.setIfInBounds_toArray, List.set_cons_zero, List.set_cons_succ]
    refine wpAnyH_ready (rs := [3]) (by kernel_rfl) (by simp) ?_
    refine AllReadyH.cons (o := { dst := some 18, op := Op.call { callee := Callee.value (Operand.func 30), args := #[Operand.tmp 17], argTypes := #[68] }, type := 3, pos := "pages.go:86", after := #[{ on := 2, ground := Ground.data }, { on := 2, ground := Ground.chain }], guard := none }) rfl (fun K hK => ?_) AllReadyH.nil
    go_simp
    with_reducible refine (FR.out _).mono ?_
    rintro e w7 ⟨rfl, rfl⟩
    skip
    clear hHeld
    try go_wp2_with fail
    refine hK.out _ _ (KS.out _ hcall.out) (fun hHeld => ?_)
    clear hK K
    try simp only [Act.put, List.setIfInBounds_toArray, List.set_cons_zero, List.set_cons_succ]
    refine wpAnyH_take (i := 5) (oi := { dst := some 20, op := Op.binOp BinOp.eql 3 (Operand.tmp 18) (Operand.tmp 19) 3, type := 4, pos := "pages.go:86", after := #[{ on := 3, ground := Ground.data }, { on := 4, ground := Ground.data }], guard := none }) (v := ?vv1_4) rfl (by kernel_rfl) (by kernel_rfl) (by kernel_rfl) (fun _ _ _ h => h) (Or.inl ⟨by rfl, ?hy1_4⟩) hHeld ?rest1_4
    case hy1_4 => (intro wS hSw; (try dsimp only at hSw); go_simp; try with_reducible rfl)
    simp only [Act.put, List.setIfInBounds_toArray, List.set_cons_zero, List.set_cons_succ]
    refine wpAnyH_done (by kernel_rfl) ?_ _
    have hb6 := hcall.out
    obtain ⟨k1, k2, k3, k4⟩ := KS.out _ hb6
    obtain ⟨i1, i2, i3, i4, i5, i6, i7, hown, hPI, hmem, hnp, hTT5⟩ := HW5.out
    have hsT6 : Same ((N :: P :: F :: T) ++ TT) W5 w6 := i2.same hb6
    have i2' := i2.below hb6
    have n7 : w6.heap[N]? = some (Obj.cells #[.int .i64 (((pre.filter (leads mp f)).length : Nat) : Int)] 3) := (hsT6 N (by simp)).trans i7
    by_cases e : fx = f
    · have hb : ((fx : Int) == (f : Int)) = true := by simp [e]
      have hle : leads mp f p = true := by rw [HLE.out]; simp [e]
      have PT := put_st i2' PB PI 0 hown hPI (by omega)
      rw [show ((0 : Nat) : Int) = 0 from rfl] at PT
      have PT := Lib.hid PT
      have hpl : (pre.filter (leads mp f)).length ≤ 4096 := by
        have h1 := List.length_filter_le (leads mp f) pre
        have h2 := HI2.out.2.2.2.1.length_le
        have h3 : (sg mp 0 0).length ≤ 4096 := by
          unfold sg
          refine Nat.le_trans (List.length_filter_le _ _) ?_
          simp
        simp at h2
        omega
      obtain ⟨cn, ecn⟩ : ∃ cn : Nat, (pre.filter (leads mp f)).length = cn := ⟨_, rfl⟩
      rw [ecn] at n7 hpl
      have hwr : IntKind.i64.wrap ((cn : Int) + 1) = (cn : Int) + 1 := by rw [IntKind.wrap_i64]; omega
      have HM := Lib.hid (And.intro e (And.intro hle (And.intro ecn (And.intro hsT6 n7))))
      have hNW : W.heap.size ≤ N := by have := HB3.out; omega
      have HNW := Lib.hid hNW
      clear hb6 i1 i2 i3 i4 i5 i6 i7 hown hPI hmem hnp hTT5 hsT6 i2' n7 e hle ecn hpl hNW
      gi_wp2_with fail
      refine ⟨trivial, ?_⟩
      refine (CallsIn.inRound l1 (callsIn_wide.2 PT.out)).mono ?_; rintro e w7 ⟨rfl, hst7, hsm7⟩
      have n7 := (hsm7 N (by simp)).trans HM.out.2.2.2.2
      have cN : w7.cell? ⟨N, 0, none⟩ = some (.int .i64 (cn : Int)) := by rw [cell_of_row _ _ 0 _ 3 (0, 0) n7]; rfl
      have fN : w7.frozen? ⟨N, 0, none⟩ = false := frozen_of_row _ _ 0 _ 3 n7
      have H7 := Lib.hid (And.intro hst7 (And.intro hsm7 n7))
      clear hst7 hsm7 n7 k1 k2 k3 k4
      gi_wp2_with fail
      obtain ⟨i1, i2, i3, i4, i5, i6, i7, hown, hPI, hmem, hnp, hTT5⟩ := HW5.out
      obtain ⟨e1, e2, e3, e4, e5⟩ := HM.out
      obtain ⟨g1, g2, g3⟩ := H7.out
      have ho : ∀ b, b ≠ N → (w7.setCell ⟨N, 0, none⟩ (.int .i64 ((cn : Int) + 1))).heap[b]? = w7.heap[b]? := fun b hb => Below.heap_setCell _ _ _ _ hb
      have hs7 : Same ((N :: P :: F :: T) ++ TT) W5 w7 := e4.trans g2
      have hNP : N ≠ P ∧ N ≠ F ∧ N ∉ T := by
        have := HB3.out
        exact ⟨by omega, by omega, fun e => by have := this.2.2.2.2.2.2.2.1 N e; omega⟩
      have hput := i4.put hmem (i := p % 8) (x := 0) (Nat.mod_lt _ (by omega)) (by omega)
      have hoth := i4.oth_put hmem (i := p % 8) (x := 0)
      rw [HI2.out.2.2.2.2.1, HI2.out.2.2.2.2.2] at hput hoth
      have hfun : (fun p' => if p' = 8 * (p / 8) + PI then Pg.look 0 else wpd mp f pre p') = wpd mp f (pre ++ [p]) := by
        rw [wpd_yes e2, ← HI2.out.2.2.2.2.2]
        funext y
        rw [show 8 * (p / 8) + p % 8 = p by omega]
        rfl
      rw [hfun] at hput
      refine ⟨fun b hb => ?_, _, i1, g1.set N 0 _ (by simp) HNW.out, i3, hput, i5.trans hoth, fun b hb => ?_, ?_⟩
      · rw [ho b (fun e => i3 N (by simp) (e ▸ hb))]; exact hs7 b (List.mem_append_right _ hb)
      · rw [ho b (fun e => by subst e; simp at hb; rcases hb with hb | hb | hb; exact hNP.1 hb; exact hNP.2.1 hb; exact hNP.2.2 hb), hs7 b (List.mem_append_left _ (List.mem_cons_of_mem _ hb))]; exact i6 b hb
      · have := heap_setCell_same w7 N 0 _ 3 (.int .i64 ((cn : Int) + 1)) g3
        rw [List.filter_append, List.length_append, e3]
        simp only [List.filter_cons, e2, if_true, List.filter_nil, List.length_singleton]
        simpa using this
    · have hb : ((fx : Int) == (f : Int)) = false := by simp; omega
      have hle : leads mp f p = false := by rw [HLE.out]; simp [e]
      have HM := Lib.hid (And.intro hle (And.intro hsT6 (And.intro n7 i2')))
      clear hb6 i1 i2 i3 i4 i5 i6 i7 hown hPI hmem hnp hTT5 hsT6 i2' n7 e hle k1 k2 k3 k4
      gi_wp2_with fail
      obtain ⟨i1, i2, i3, i4, i5, i6, i7, hown, hPI, hmem, hnp, hTT5⟩ := HW5.out
      obtain ⟨e1, e2, e3, e4⟩ := HM.out
      refine ⟨fun b hb => e2 b (List.mem_append_right _ hb), ds5, i1, e4, i3, by rw [wpd_no e1]; exact i4, i5, fun b hb => (e2 b (List.mem_append_left _ (List.mem_cons_of_mem _ hb))).trans (i6 b hb), ?_⟩
      rw [List.filter_append, List.length_append]
      simp only [List.filter_cons, e1, List.filter_nil]
      simpa using e3
end Go.Proofs.Ytliljicmkgbfpaa
