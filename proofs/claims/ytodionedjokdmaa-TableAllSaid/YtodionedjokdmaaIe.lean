/- AppendSeq, Collect. -/
import Derived.Test.YtodionedjokdmaaId
set_option linter.unusedVariables false
set_option linter.unusedSimpArgs false
namespace Go.Proofs.Ytodionedjokdmaa
open Go.RowKit
set_option linter.unusedVariables false
set_option linter.unusedSimpArgs false
attribute [local go_sem] Oper.semAt_some
/-- A region in its own order, in a round. -/
theorem region_plain_round {lp n : Nat} {P : Program} {id : Nat} {Q : Exit → Act → World → Prop} {a : Act} {w : World} {l : List Oper} (hnd : noDefer l.toArray = true) (hlo : ¬ LetsOut Q) (h : wpList P l.toArray Q l a w) : (Code.region id l.toArray false).wpIn (Fence.wide.inRound lp) n P Q a w := by
  refine wpIn_region (ops_round hnd lp _ a w (ops_wide hlo _ a w ?_))
  rw [List.range_eq_range', show l.toArray.size = l.length from rfl, wpOps_eq_wpList l 0 (by simp)]
  exact h
/-- A region that draws its order, in a round. -/
theorem region_AU_round {lp n : Nat} {P : Program} {ops : Array Oper} {Q : Exit → Act → World → Prop} {S : World → Prop} {Z : Nat → Bool} {id : Nat} {a : Act} {w : World} (hm : P.follows .mixedOrders = true) (hnd : noDefer ops = true) (hlo : ¬ LetsOut Q) (hS : S w.drew)
    (h : S w.drew → wpAnyU P .any ops Q S Z ops.size (Array.replicate ops.size false) a w.drew) : (Code.region id ops true).wpIn (Fence.wide.inRound lp) n P Q a w :=
  wpIn_region_draw fun t => by
    simp only [Region.schedule, hm, Bool.true_or, if_true]
    exact ops_round hnd lp _ a _ (ops_wide hlo _ a _ (wpAny_sound ops.size t _ a _ (any_of_AU _ _ _ _ (h hS))))
theorem nodup_len : ∀ (A B : List Nat), A.Nodup → (∀ x ∈ A, x ∈ B) → A.length ≤ B.length
  | [], _, _, _ => by simp
  | a :: A, B, h, hs => by
    have ha : a ∈ B := hs a (by simp)
    have h1 := List.nodup_cons.1 h
    have := nodup_len A (B.erase a) h1.2 fun x hx => (List.mem_erase_of_ne (fun e => h1.1 (by rw [← e]; exact hx))).2 (hs x (by simp [hx]))
    rw [List.length_erase_of_mem ha] at this
    have : 0 < B.length := List.length_pos_of_mem ha
    simp; omega
/-- What stands while numbers are gathered in a box. -/
structure AI (w : World) (T0 : List Nat) (B : Nat) (ns : List Nat) (TT : List Nat) (pre : List Nat) (W : World) : Prop where
  ht : ∀ b ∈ TT, b ∈ T0 ∨ w.heap.size ≤ b
  os : W.os = w.os
  tape : W.tape = w.tape
  output : W.output = w.output
  size : w.heap.size ≤ W.heap.size
  keep : ∀ b, b < w.heap.size → b ∉ T0 → W.heap[b]? = w.heap[b]?
  bt : B ∉ TT
  bs : w.heap.size ≤ B
  box : ∃ v, W.heap[B]? = some (Obj.cells #[v] 27) ∧ RW (fun b => B < b ∧ b ∉ TT) 28 inU W v pre
  nd : pre.Nodup
  mem : ∀ x ∈ pre, x ∈ ns
variable {w : World} {T0 : List Nat} {B : Nat} {ns : List Nat}
theorem AI.grows : Grows (AI w T0 B ns) := by
  intro T T' s W W' h hT ht hn
  obtain ⟨v, hv, hr⟩ := h.box
  have hBl := (Array.getElem?_eq_some_iff.1 hv).1
  refine ⟨fun b hb => ?_, ht.os.trans h.os, ht.tape.trans h.tape, ht.output.trans h.output, Nat.le_trans h.size ht.size, fun b hb hb0 => ?_, fun hb => ?_, h.bs, ⟨v, (ht.block B hBl h.bt).trans hv, hr.keep fun b cur ho hc => ?_⟩, h.nd, h.mem⟩
  · rcases (hn b hb).1 with h1 | h1
    · exact h.ht b h1
    · have := h.size; exact .inr (by omega)
  · refine (ht.block b (Nat.lt_of_lt_of_le hb h.size) fun hm => ?_).trans (h.keep b hb hb0)
    rcases h.ht b hm with h1 | h1
    · exact hb0 h1
    · omega
  · rcases (hn B hb).1 with h1 | h1
    · exact h.bt h1
    · omega
  · have hl := (Array.getElem?_eq_some_iff.1 hc).1
    exact ⟨⟨ho.1, fun hb => by
      rcases (hn b hb).1 with h1 | h1
      · exact ho.2 h1
      · omega⟩, ht.block b hl ho.2⟩
/-- One more. -/
theorem AI.put {TT pre : List Nat} {W : World} {x : Nat} (h : AI w T0 B ns TT pre W) (hx : x ∈ ns) (hnx : x ∉ pre) (hn : ns.length ≤ 1000) (hTT : ∀ b ∈ TT, b < W.heap.size) : ∃ v v' w', W.heap[B]? = some (Obj.cells #[v] 27) ∧ (Builtin.append_ #[27, 27] 27 #[v, .slice (some ⟨W.heap.size, 0, none⟩) 1 1]).run Try.prog (W.alloc (Obj.cells #[.int .u64 (x : Int)] 28)) = .ok v' w' ∧
    w'.heap[B]? = some (Obj.cells #[v] 27) ∧ (∃ A n c, v' = .slice A n c) ∧ AI w T0 B ns TT (pre ++ [x]) (w'.setCell ⟨B, 0, none⟩ v') ∧ Same TT W (w'.setCell ⟨B, 0, none⟩ v') := by
  obtain ⟨v, hv, hr⟩ := h.box
  have hBl := (Array.getElem?_eq_some_iff.1 hv).1
  have hb1 := below_alloc1 W (Obj.cells #[.int .u64 (x : Int)] 28)
  have hn1 := heap_alloc_new W (Obj.cells #[.int .u64 (x : Int)] 28)
  have hs1 : (W.alloc (Obj.cells #[.int .u64 (x : Int)] 28)).heap.size = W.heap.size + 1 := by simp
  obtain ⟨W1, e1⟩ : ∃ W1, W.alloc (Obj.cells #[.int .u64 (x : Int)] 28) = W1 := ⟨_, rfl⟩
  rw [e1] at hb1 hn1 hs1
  have hlen := nodup_len pre ns h.nd h.mem
  have hlr : LR inU W1 (some ⟨W.heap.size, 0, none⟩) [x] := fun k y hk => by
    have h0 : k = 0 := by have := (List.getElem?_eq_some_iff.1 hk).1; simp at this; omega
    subst h0
    simp at hk
    subst hk
    exact ⟨W.heap.size, 0, rfl, by rw [cell_of_row _ _ 0 _ _ (0, 0) hn1]; exact ⟨by omega, rfl⟩⟩
  obtain ⟨v', w', hrun, hu, S, ht, hS⟩ := append_u 27 (hr.below hb1) (ys := [x]) (by simp; omega) (some ⟨W.heap.size, 0, none⟩) 1 1 rfl (by simp) hlr
  have hBS : B ∉ S := fun hm => by have := (hS B hm).1.1; omega
  have hTS : ∀ b ∈ TT, b ∉ S := fun b hb hm => (hS b hm).1.2 hb
  have hB1 : W1.heap[B]? = some (Obj.cells #[v] 27) := (hb1.block B hBl).trans hv
  have hB2 : w'.heap[B]? = some (Obj.cells #[v] 27) := (ht.block B (by omega) hBS).trans hB1
  have hB3 := heap_setCell_same w' B 0 _ 27 v' hB2
  have tt : Turn (B :: S) W (w'.setCell ⟨B, 0, none⟩ v') := ((Turn.of_below (S := B :: S) hb1).trans (ht.mono fun b hb => List.mem_cons_of_mem _ hb) (fun b hb => .inl hb)).trans (Turn.set w' B 0 v') fun b hb => by rw [List.mem_singleton.1 hb]; simp
  have hBn : ∀ b, B < b → w.heap.size ≤ b := fun b hb => by have := h.bs; omega
  refine ⟨v, v', w', hv, by rw [e1]; exact hrun, hB2, (by obtain ⟨A, c, h, _⟩ := hu.form; exact ⟨A, _, c, h⟩), ⟨h.ht, tt.os.trans h.os, tt.tape.trans h.tape, tt.output.trans h.output, Nat.le_trans h.size tt.size, fun b hb hb0 => ?_, h.bt, h.bs, ⟨v', by simpa using hB3, ?_⟩, ?_, ?_⟩, fun b hb => ?_⟩
  · refine (tt.block b (Nat.lt_of_lt_of_le hb h.size) fun hm => ?_).trans (h.keep b hb hb0)
    rcases List.mem_cons.1 hm with rfl | hm
    · have := h.bs; omega
    · have := hBn b (hS b hm).1.1; omega
  · refine hu.keep fun b cur ho hc => ?_
    rcases ho with ho | ho
    · exact ⟨ho, heap_setCell_other _ _ _ _ (fun e => by have := ho.1; simp at e; omega)⟩
    · exact ⟨⟨by omega, fun hb => by have := hTT b hb; omega⟩, heap_setCell_other _ _ _ _ (fun e => by simp at e; omega)⟩
  · exact List.nodup_append.2 ⟨h.nd, by simp, fun a ha b hb e => hnx (by rw [List.mem_singleton.1 hb] at e; rw [← e]; exact ha)⟩
  · intro y hy
    rcases List.mem_append.1 hy with hy | hy
    · exact h.mem y hy
    · rw [List.mem_singleton.1 hy]; exact hx
  · exact tt.block b (hTT b hb) fun hm => by
      rcases List.mem_cons.1 hm with rfl | hm
      · exact h.bt hb
      · exact hTS b hb hm
set_option maxHeartbeats 4000000 in
set_option maxRecDepth 100000 in
theorem appseq_any {gf : Nat} {pb lb : Array Value} {Z : World → Prop} (w : World) (hit : Iter Try.prog gf pb lb encU ownN T0 (XK ns) Z (FinK ns)) (eg : ∀ args w, (callFunc gf args).run Try.prog w = .ok (.enter gf args) w) (hn : ns.length ≤ 1000)
    (hT0 : ∀ b ∈ T0, b < w.heap.size) (hZ : ∀ W', Below w.heap.size w W' → Z W') : Calls Try.prog 51 #[.slice none 0 0, .func (.func gf) pb lb] w fun e w' => ∃ v xs, e = .returned v ∧ FinK ns xs ∧ RW (fun b => w.heap.size ≤ b) 28 inU w' v xs ∧ Below w.heap.size w w' := by
  have EI := Lib.hid hit
  have EG := Lib.hid eg
  have HT := Lib.hid (And.intro hn (And.intro hT0 hZ))
  clear hit eg hn hT0 hZ
  refine (callsIn_wide (n := 5)).1 ?_
  refine callsIn_of_wp_marks Try.func51 rfl trivial ?_ rfl
  simp only [Try.ntmps51, List.size_toArray, List.length_cons, List.length_nil, Nat.reduceAdd, Nat.reduceSub, Array.replicate_succ, Array.replicate_zero, List.push_toArray, List.append_toArray, List.nil_append, List.cons_append]
  refine wpIn_wide.2 ?_
  go_wp2_with fail
  have hb0 := below_alloc1 w (Obj.cells #[.slice none 0 0] 27)
  have hn0 := heap_alloc_new w (Obj.cells #[.slice none 0 0] 27)
  have hs0 : (w.alloc (Obj.cells #[.slice none 0 0] 27)).heap.size = w.heap.size + 1 := by simp
  obtain ⟨W0, e0⟩ : ∃ W0, w.alloc (Obj.cells #[.slice none 0 0] 27) = W0 := ⟨_, rfl⟩
  rw [e0] at hb0 hn0 hs0 ⊢
  obtain ⟨B, eB⟩ : ∃ B, w.heap.size = B := ⟨_, rfl⟩
  rw [eB] at hn0
  have HI0 : Hid (AI w T0 B ns T0 [] W0) := Lib.hid ⟨fun b hb => .inl hb, hb0.os, hb0.tape, hb0.output, hb0.size, fun b hb _ => hb0.block b hb, fun hm => by have := HT.out.2.1 B hm; omega, by omega, ⟨_, hn0, RW.nil _ _⟩, List.nodup_nil, by simp⟩
  have H0 := Lib.hid (And.intro hb0 (And.intro hs0 eB))
  rw [eB]
  clear hb0 hn0 hs0 e0 eB
  refine (wpIn_wide (n := 5)).1 ?_
  refine range_out (m := 4) (gf := gf) (pb := pb) (lb := lb) rfl EG.out EI.out (fun _ => rfl) (AI w T0 B ns) (fun _ _ _ _ => False) AI.grows (fun _ _ _ _ _ _ h => h.elim) T0 ?hT (fun b hb => hb) ?hZ HI0.out ?round ?done (fun _ _ _ _ _ _ _ h => h.elim)
  case hT => intro b hb; have := HT.out.2.1 b hb; have := H0.out.2.1; omega
  case hZ => exact fun W' hb => HT.out.2.2 W' (H0.out.1.trans (hb.mono (by have := H0.out.2.1; omega)))
  case round =>
    rintro l1 TT pre x Wr hl1 hrec hox hTO ⟨hx1, hx2, hx3⟩ hI
    have HI2 := Lib.hid (And.intro hI (And.intro hTO (And.intro hl1 (And.intro hx1 hx2))))
    dsimp only [encU]
    clear hI hTO hl1 hrec hox hx1 hx2 hx3
    gi_wp2
    refine ⟨Same.refl _ _, fun W2 ht hsz _ => ?_⟩
    obtain ⟨hI, hTO, hl1, hx1, hx2⟩ := HI2.out
    have hT2 : ∀ b ∈ TT, b < W2.heap.size := fun b hb => by rw [hsz]; exact hTO b (List.mem_append_right _ hb)
    have hI2 : AI w T0 B ns TT pre W2 := AI.grows _ _ _ _ _ hI hTO (ht.mono fun b hb => List.mem_append_right _ (by rw [List.mem_singleton.1 hb]; exact hl1)) fun b hb => ⟨.inl (List.mem_append_right _ hb), hT2 b hb⟩
    obtain ⟨v, v', w', hv, hrun, hv2, ⟨A', n', c', rfl⟩, hI3, hs3⟩ := hI2.put hx1 hx2 HT.out.1 hT2
    have c0 : (W2.alloc (Obj.cells #[.int .u64 (x : Int)] 28)).cell? ⟨B, 0, none⟩ = some v := by rw [cell_of_row _ _ 0 _ _ (0, 0) (((below_alloc1 W2 _).block B (Array.getElem?_eq_some_iff.1 hv).1).trans hv)]; rfl
    have c1 : W2.cell? ⟨B, 0, none⟩ = some v := by rw [cell_of_row _ _ 0 _ _ (0, 0) hv]; rfl
    have c2 : w'.cell? ⟨B, 0, none⟩ = some v := by rw [cell_of_row _ _ 0 _ _ (0, 0) hv2]; rfl
    have c3 : w'.frozen? ⟨B, 0, none⟩ = false := frozen_of_row _ _ _ _ _ hv2
    have HE := Lib.hid (And.intro hs3 hI3)
    have HR := Lib.hid hrun
    clear hI hTO hl1 hx1 hx2 hT2 hI2 hv hrun hv2 hI3 hs3 ht hsz HI2
    refine wpIn_block (region_plain_round (by kernel_rfl) (fun ⟨_, _, h⟩ => h) ?_)
    go_wp2_with (at_builtin; refine wpList_append_by rfl (.tmp 8) (.tmp 10) _ _ rfl _ _ _ rfl rfl w' HR.out ?_)
    go_wp2_with fail
    exact HE.out
  case done =>
    rintro D xs X hf hD hDX hDT hI hKD hsm
    obtain ⟨v, hv, hr⟩ := hI.box
    have c0 : X.cell? ⟨B, 0, none⟩ = some v := by rw [cell_of_row _ _ 0 _ _ (0, 0) hv]; rfl
    have HX : Hid (X.heap[D]? = some (.deferred (some [])) ∧ ∀ X', Turn [D] X X' → FinK ns xs ∧ RW (fun b => w.heap.size ≤ b) 28 inU X' v xs ∧ Below w.heap.size w X') := Lib.hid ⟨hKD, fun X' ht => ⟨hf, hr.keep fun b cur ho hc => ⟨by have := hI.bs; omega, ht.block b (Array.getElem?_eq_some_iff.1 hc).1 (fun hm => ho.2 (by rw [List.mem_singleton.1 hm]; simp))⟩,
      ⟨ht.os.trans hI.os, ht.tape.trans hI.tape, ht.output.trans hI.output, Nat.le_trans hI.size ht.size, fun b hb => by
        have hb2 : b < X.heap.size := Nat.lt_of_lt_of_le hb hI.size
        refine (ht.block b hb2 fun hm => ?_).trans ?_
        · have := List.mem_singleton.1 hm; have := H0.out.2.1; omega
        · by_cases h0 : b ∈ T0
          · exact (hsm b h0).trans (H0.out.1.block b hb)
          · exact hI.keep b hb h0⟩⟩⟩
    clear hf hD hDX hDT hI hKD hsm hv hr
    go_wp2_with fail
    refine ⟨by simp, .inl ⟨_, _, rfl, run_takeDeferred HX.out.1, ?_⟩⟩
    refine ⟨_, results_tmp rfl _ _ _, ?_⟩
    exact ⟨_, _, rfl, HX.out.2 _ (Turn.put X D (.deferred none))⟩
end Go.Proofs.Ytodionedjokdmaa
