/- below: the pages below a table, with the places of their entries. -/
import Derived.Test.YtliljicmkgbfpaaJi
import Derived.Shelf.Abstract
import Derived.Shelf.RegionOpen
set_option linter.unusedVariables false
set_option linter.unusedSimpArgs false
namespace Go.Proofs.Ytliljicmkgbfpaa
open Go.RowKit Go.Shelf Pg
set_option linter.unusedVariables false
set_option linter.unusedSimpArgs false
attribute [local go_sem] Oper.semAt_some
variable {W0 : World} {R : Nat} {os : List Nat} {ds : List (List Nat)} {o : Nat} {ks : List (Nat × Nat)} {nd : Nat → Nat → Nat} {mp : Nat → Option (Nat × Bool)}
/-- The boxes of below's closure. -/
def boxB (w : World) (R : Nat) (f l q : Int) : World := (((w.alloc (Obj.cells #[.pointer (some ⟨R, 0, none⟩)] 24)).alloc (Obj.cells #[.int .i64 f] 3)).alloc (Obj.cells #[.int .i64 l] 3)).alloc (Obj.cells #[.int .i64 q] 3)
theorem below_any (f l q : Int) (w : World) : Calls Try.prog 28 #[.pointer (some ⟨R, 0, none⟩), .int .i64 f, .int .i64 l, .int .i64 q] w fun e w' =>
    e = .returned (.func (.func 37) #[] #[.pointer (some ⟨w.heap.size, 0, none⟩), .pointer (some ⟨w.heap.size + 1, 0, none⟩), .pointer (some ⟨w.heap.size + 3, 0, none⟩), .pointer (some ⟨w.heap.size + 2, 0, none⟩)]) ∧ w' = boxB w R f l q := by
  go_enter Try.func28, Try.ntmps28
  go_wp2
  go_ret
  exact ⟨rfl, rfl⟩
theorem boxB_below (w : World) (R : Nat) (f l q : Int) : Below w.heap.size w (boxB w R f l q) := ((((Below.refl _ w).alloc (Nat.le_refl _) _).alloc (by simp) _).alloc (by simp <;> omega) _).alloc (by simp <;> omega) _
theorem boxB_size (w : World) (R : Nat) (f l q : Int) : (boxB w R f l q).heap.size = w.heap.size + 4 := by simp [boxB]
/-- What below has laid. -/
def BZ (R : Nat) (f l q : Nat) (A1 A2 A3 A4 : Nat) (W : World) : Prop := W.heap[A1]? = some (Obj.cells #[.pointer (some ⟨R, 0, none⟩)] 24) ∧ W.heap[A2]? = some (Obj.cells #[.int .i64 (f : Int)] 3) ∧ W.heap[A3]? = some (Obj.cells #[.int .i64 (q : Int)] 3) ∧ W.heap[A4]? = some (Obj.cells #[.int .i64 (l : Int)] 3)
theorem boxB_z (w : World) (R : Nat) (f l q : Nat) : BZ R f l q w.heap.size (w.heap.size + 1) (w.heap.size + 3) (w.heap.size + 2) (boxB w R f l q) := by
  unfold BZ boxB
  refine ⟨?_, ?_, ?_, ?_⟩
  · rw [Below.heap_alloc _ _ _ (by simp <;> omega), Below.heap_alloc _ _ _ (by simp <;> omega), Below.heap_alloc _ _ _ (by simp)]; exact heap_alloc_new w _
  · rw [Below.heap_alloc _ _ _ (by simp <;> omega), Below.heap_alloc _ _ _ (by simp)]
    have := heap_alloc_new (w.alloc (Obj.cells #[.pointer (some ⟨R, 0, none⟩)] 24)) (Obj.cells #[.int .i64 (f : Int)] 3)
    simpa using this
  · have := heap_alloc_new (((w.alloc (Obj.cells #[.pointer (some ⟨R, 0, none⟩)] 24)).alloc (Obj.cells #[.int .i64 (f : Int)] 3)).alloc (Obj.cells #[.int .i64 (l : Int)] 3)) (Obj.cells #[.int .i64 (q : Int)] 3)
    simpa using this
  · rw [Below.heap_alloc _ _ _ (by simp)]
    have := heap_alloc_new ((w.alloc (Obj.cells #[.pointer (some ⟨R, 0, none⟩)] 24)).alloc (Obj.cells #[.int .i64 (f : Int)] 3)) (Obj.cells #[.int .i64 (l : Int)] 3)
    simpa using this
theorem BZ.same {R f l q A1 A2 A3 A4 : Nat} {T : List Nat} {w w' : World} (h : BZ R f l q A1 A2 A3 A4 w) (hs : Same T w w') (h1 : A1 ∈ T) (h2 : A2 ∈ T) (h3 : A3 ∈ T) (h4 : A4 ∈ T) : BZ R f l q A1 A2 A3 A4 w' :=
  ⟨(hs _ h1).trans h.1, (hs _ h2).trans h.2.1, (hs _ h3).trans h.2.2.1, (hs _ h4).trans h.2.2.2⟩
theorem BZ.cells {R f l q A1 A2 A3 A4 : Nat} {w : World} (h : BZ R f l q A1 A2 A3 A4 w) : w.cell? ⟨A1, 0, none⟩ = some (.pointer (some ⟨R, 0, none⟩)) ∧ w.cell? ⟨A2, 0, none⟩ = some (.int .i64 (f : Int)) ∧ w.cell? ⟨A3, 0, none⟩ = some (.int .i64 (q : Int)) ∧ w.cell? ⟨A4, 0, none⟩ = some (.int .i64 (l : Int)) := by
  refine ⟨?_, ?_, ?_, ?_⟩
  · rw [cell_of_row _ _ 0 _ 24 (0, 0) h.1]; rfl
  · rw [cell_of_row _ _ 0 _ 3 (0, 0) h.2.1]; rfl
  · rw [cell_of_row _ _ 0 _ 3 (0, 0) h.2.2.1]; rfl
  · rw [cell_of_row _ _ 0 _ 3 (0, 0) h.2.2.2]; rfl
/-- What is read of the tables by who goes over pages: those that have not come yet. -/
def BV (W0 : World) (R : Nat) (os : List Nat) (o : Nat) (ks : List (Nat × Nat)) (nd : Nat → Nat → Nat) (mp : Nat → Option (Nat × Bool)) (l q : Nat) (T : List Nat) (pre : List Nat) (W : World) : Prop :=
  ∃ ds mp', St W0 T R os ds W ∧ Tb os ds o ks nd mp' ∧ ∀ p, pf p l = q → (∀ x ∈ pre, x < p) → mp' p = mp p
/-- A page, and the place of its entry. -/
def encB (nd : Nat → Nat → Nat) (p : Nat) : Array Value := #[.int .i64 (p : Int), .agg #[.int .i64 ((nd 3 (p / 8) : Nat) : Int), .int .i64 ((p % 8 : Nat) : Int)]]
/-- Below a table of a level. -/
def BI (W0 : World) (R : Nat) (os : List Nat) (o : Nat) (ks : List (Nat × Nat)) (nd : Nat → Nat → Nat) (mp : Nat → Option (Nat × Bool)) (l q : Nat) : Prop :=
  ∀ A1 A2 A3 A4, Iter Try.prog 37 #[.pointer (some ⟨A1, 0, none⟩), .pointer (some ⟨A2, 0, none⟩), .pointer (some ⟨A3, 0, none⟩), .pointer (some ⟨A4, 0, none⟩)] (encB nd) [A1, A2, A3, A4] (BV W0 R os o ks nd mp l q) (BZ R (nd l q) l q A1 A2 A3 A4) (sg mp l q)
theorem or_eight (q i : Nat) (hq : q < 4096) (hi : i < 8) : bits .or .i64 ((q : Int) * 8) (i : Int) = ((8 * q + i : Nat) : Int) := by
  have h1 : (BitVec.ofInt 64 ((q : Int) * 8)).toNat = q * 8 := by rw [BitVec.toNat_ofInt]; omega
  have h2 : (BitVec.ofInt 64 (i : Int)).toNat = i := by rw [BitVec.toNat_ofInt]; omega
  show IntKind.i64.wrap ((BitVec.ofInt 64 ((q : Int) * 8) ||| BitVec.ofInt 64 (i : Int)).toNat : Nat) = _
  rw [BitVec.toNat_or, h1, h2]
  have e : q * 8 ||| i = q * 8 + i := by
    have := Nat.shiftLeft_add_eq_or_of_lt (i := 3) (b := i) (by simpa using hi) q
    rw [Nat.shiftLeft_eq] at this
    exact this.symm
  rw [e, IntKind.wrap_i64]
  omega
theorem ld_some {E : Nat → Option Nat} {n : Nat} {x : Nat × Nat} (h : x ∈ ld E n) : x.1 < n ∧ E x.1 = some x.2 := by
  refine ⟨ld_lt x h, ?_⟩
  unfold ld at h
  rw [List.mem_filterMap] at h
  obtain ⟨i, _, e⟩ := h
  rw [Option.map_eq_some_iff] at e
  obtain ⟨y, he, rfl⟩ := e
  exact he
set_option maxRecDepth 100000 in
set_option maxHeartbeats 4000000 in
theorem below_step (t0 : ∃ ds, Tb os ds o ks nd mp) (l q : Nat) (hl : l ≤ 3) (hk : (l, q) ∈ ks) (child : l < 3 → ∀ i, i < 8 → (l + 1, 8 * q + i) ∈ ks → BI W0 R os o ks nd mp (l + 1) (8 * q + i)) : BI W0 R os o ks nd mp l q := by
  intro A1 A2 A3 A4 lY m J Jx hJ hJx hV hY Tg W hT0 hT hZ h0
  obtain ⟨ds0, t0⟩ := t0
  have hq := (t0.lev l q hk).2
  have hq5 : q < 512 := by
    have e : l = 0 ∨ l = 1 ∨ l = 2 ∨ l = 3 := by omega
    rcases e with rfl | rfl | rfl | rfl <;> simp at hq <;> omega
  obtain ⟨f, ef⟩ : ∃ f, nd l q = f := ⟨_, rfl⟩
  rw [ef] at hZ
  have EF := Lib.hid ef
  have HV := Lib.hid hV
  have HY := Lib.hid hY
  have HJ := Lib.hid (And.intro hJ hJx)
  have HT := Lib.hid t0
  have HC := Lib.hid child
  obtain ⟨c1, c2, c3, c4⟩ := hZ.cells
  have HZ := Lib.hid (And.intro hT0 (And.intro hT (And.intro hZ h0)))
  have hA1 := hT A1 (hT0 A1 (by simp))
  have hA2 := hT A2 (hT0 A2 (by simp))
  have LD := Lib.hid (fun (X : World) => leading_any (R := R) (f : Int) X)
  clear hV hY hJ hJx hT0 hZ h0 t0 child ef hq
  refine (callsIn_wide (n := 5)).1 ?_
  refine callsIn_of_wp_marks Try.func37 rfl trivial ?_ rfl
  simp only [Try.ntmps37, List.size_toArray, List.length_cons, List.length_nil, Nat.reduceAdd, Nat.reduceSub, Array.replicate_succ, Array.replicate_zero, List.push_toArray, List.append_toArray, List.nil_append, List.cons_append]
  refine wpIn_wide.2 ?_
  go_wp2_with fail
  refine (LD.out _).mono ?_; rintro e w3 ⟨rfl, e3⟩
  go_wp2_with fail
  rw [← e3]
  have hF : Below W.heap.size W w3 ∧ w3.heap.size = W.heap.size + 3 ∧ w3.heap[W.heap.size]? = some (Obj.cells #[.func (.yield lY) #[] #[]] 78) ∧ LZ R f (W.heap.size + 1) (W.heap.size + 1 + 1) w3 := by
    rw [e3]
    refine ⟨(((Below.refl _ _).alloc (Nat.le_refl _) _).alloc (by simp) _).alloc (by simp <;> omega) _, by simp, ?_, ?_, ?_⟩
    · rw [Below.heap_alloc _ _ _ (by simp <;> omega), Below.heap_alloc _ _ _ (by simp)]; exact heap_alloc_new W _
    · rw [Below.heap_alloc _ _ _ (by simp)]
      have := heap_alloc_new (W.alloc (Obj.cells #[.func (.yield lY) #[] #[]] 78)) (Obj.cells #[.pointer (some ⟨R, 0, none⟩)] 24)
      simpa using this
    · have := heap_alloc_new ((W.alloc (Obj.cells #[.func (.yield lY) #[] #[]] 78)).alloc (Obj.cells #[.pointer (some ⟨R, 0, none⟩)] 24)) (Obj.cells #[.int .i64 (f : Int)] 3)
      simpa using this
  clear e3
  obtain ⟨hb3, hs3, hY3, hZ3⟩ := hF
  obtain ⟨Y, eY⟩ : ∃ Y, W.heap.size = Y := ⟨_, rfl⟩
  obtain ⟨B1, eB1⟩ : ∃ B1, Y + 1 = B1 := ⟨_, rfl⟩
  obtain ⟨B2, eB2⟩ : ∃ B2, B1 + 1 = B2 := ⟨_, rfl⟩
  rw [eY] at hb3 hs3 hY3 hZ3 hT ⊢
  rw [eB1] at hZ3 ⊢
  rw [eB2] at hZ3 ⊢
  have hBZ3 : BZ R f l q A1 A2 A3 A4 w3 := HZ.out.2.2.1.same (fun b hb => hb3.block b (hT b hb)) (HZ.out.1 _ (by simp)) (HZ.out.1 _ (by simp)) (HZ.out.1 _ (by simp)) (HZ.out.1 _ (by simp))
  have hown3 : ∀ b ∈ Y :: Tg, b < w3.heap.size := fun b hb => by
    rcases List.mem_cons.1 hb with rfl | hb
    · omega
    · have := hT b hb; omega
  have hJ3 : J ((Y :: Tg) ++ [B1, B2]) [] w3 := HJ.out.1.more HZ.out.2.2.2 HZ.out.2.1 (by rw [eY]; exact hb3) (fun b hb => by
    rcases List.mem_append.1 hb with hb | hb
    · refine ⟨?_, hown3 b hb⟩
      rcases List.mem_cons.1 hb with rfl | hb
      · exact .inr (by omega)
      · exact .inl hb
    · simp at hb; rw [eY]
      rcases hb with rfl | rfl
      · exact ⟨.inr (by omega), by omega⟩
      · exact ⟨.inr (by omega), by omega⟩)
  have hd3 : ∀ b ∈ Y :: Tg, b ∉ [B1, B2] := fun b hb hm => by
    simp at hm
    rcases List.mem_cons.1 hb with rfl | hb
    · omega
    · have := hT b hb; omega
  have HB3 := Lib.hid (And.intro hb3 (And.intro hs3 (And.intro hBZ3 (And.intro hY3 (And.intro hown3 (And.intro eY (And.intro eB1 eB2)))))))
  clear c1 c2 c3 c4 hA1 hA2 hb3 hBZ3 hY3
  refine (wpIn_wide (n := 5)).1 ?_
  refine range_out (m := 4) (gf := 45) (lb := #[.pointer (some ⟨B1, 0, none⟩), .pointer (some ⟨B2, 0, none⟩)]) rfl (enters_of Try.func45 (by kernel_rfl) rfl) (leading_iter (W0 := W0) (R := R) f B1 B2 (En ks nd mp l q)) (fun _ => rfl)
    (Sub J (fl1 mp l q) (Y :: Tg) w3) (fun c => Sub (fun T (_ : Unit) X => c = .ret ∧ ∃ pre, pre <+: sg mp l q ∧ Jx T pre X) (fun _ => ()) (Y :: Tg) w3) (Sub.grows HJ.out.1 _ _ _)
    (fun c => Sub.grows (grows_and (grows_ex HJ.out.2 (fun _ pre => pre <+: sg mp l q)) (fun _ => c = .ret)) _ _ _) ?hV [B1, B2] ?hT (fun b hb => hb) ?hZ ⟨hJ3, hd3, Same.refl _ _, hown3⟩ ?round ?done ?stop
  case hT => intro b hb; simp at hb; omega
  case hZ => intro X hX; exact ⟨by rw [hX.block B1 (by omega)]; exact hZ3.1, by rw [hX.block B2 (by omega)]; exact hZ3.2⟩
  case hV =>
    rintro T pre X hX ⟨h1, h2, h3, h4⟩
    obtain ⟨ds, mp', hst, ht, hag⟩ := HV.out _ _ X (fun b hb => by
      rcases List.mem_append.1 hb with hb | hb
      · exact h3.lt hb (h4 b hb)
      · exact hX b hb) h1
    refine ⟨os, ds, hst.less (fun b hb => by simp [hb]), by rw [← EF.out]; exact tb_own ht hk, fun i hi hp => ?_⟩
    rw [← EF.out]
    refine ht.gn_en hl hk hi (fun h3 => hag _ (by subst h3; rw [pf_3]; omega) (fun y hy => ?_))
    subst h3
    unfold fl1 at hy
    rw [List.mem_flatMap] at hy
    obtain ⟨x, hx, hy⟩ := hy
    have := hp x hx
    have := (sg_range hy).2.1
    simp at this
    omega
  case done =>
    rintro D X hD hDX hDT ⟨h1, h2, h3, h4⟩ hK hsm
    have hszs : ∀ b ∈ (Y :: Tg) ++ (D :: [B1, B2]), b < X.heap.size := fun b hb => by
      rcases List.mem_append.1 hb with hb | hb
      · exact h3.lt hb (h4 b hb)
      · rcases List.mem_cons.1 hb with rfl | hb
        · exact hDX
        · exact hsm.lt hb (by have := HB3.out; simp at hb; omega)
    have hTg : ∀ b ∈ Tg, b < Y := fun b hb => by have := HZ.out.2.1 b hb; have := HB3.out; omega
    have hSF : Same Tg W (X.putObj D (.deferred none)) := fun b hb => by
      have hbY := hTg b hb
      rw [World.putObj_heap_other (by have := HB3.out; omega), h3 b (by simp [hb])]
      exact HB3.out.1.block b hbY
    have hNew : New ((Y :: Tg) ++ (D :: [B1, B2])) Tg X (X.putObj D (.deferred none)) := fun b hb => ⟨.inl (by simp [hb]), by simpa using hszs b (by simp [hb])⟩
    have hTurn : Turn ((Y :: Tg) ++ (D :: [B1, B2])) X (X.putObj D (.deferred none)) := (Turn.put _ _ _).mono (by simp)
    have hJF := HJ.out.1 _ Tg _ X _ h1 hszs hTurn hNew
    rw [HT.out.fl1_sg hl] at hJF
    have HF := Lib.hid (And.intro hJF (And.intro hSF hK))
    clear h1 h2 h3 h4 hsm hszs hTg hSF hNew hTurn hJF hK
    gi_wp2
    go_wp2_with fail
    refine ⟨by simp, .inl ⟨_, _, rfl, run_takeDeferred HF.out.2.2, ?_⟩⟩
    exact ⟨_, results_none rfl _ _ _, ⟨_, rfl⟩, .inl ⟨HF.out.1, HF.out.2.1⟩⟩
  case stop =>
    rintro D c pre X hD hDX hDT hpre ⟨⟨rfl, pre2, hp2, h1⟩, h2, h3, h4⟩ hK hsm
    have hszs : ∀ b ∈ (Y :: Tg) ++ (D :: [B1, B2]), b < X.heap.size := fun b hb => by
      rcases List.mem_append.1 hb with hb | hb
      · exact h3.lt hb (h4 b hb)
      · rcases List.mem_cons.1 hb with rfl | hb
        · exact hDX
        · exact hsm.lt hb (by have := HB3.out; simp at hb; omega)
    have hTg : ∀ b ∈ Tg, b < Y := fun b hb => by have := HZ.out.2.1 b hb; have := HB3.out; omega
    have hSF : Same Tg W (X.putObj D (.deferred none)) := fun b hb => by
      have hbY := hTg b hb
      rw [World.putObj_heap_other (by have := HB3.out; omega), h3 b (by simp [hb])]
      exact HB3.out.1.block b hbY
    have hNew : New ((Y :: Tg) ++ (D :: [B1, B2])) Tg X (X.putObj D (.deferred none)) := fun b hb => ⟨.inl (by simp [hb]), by simpa using hszs b (by simp [hb])⟩
    have hTurn : Turn ((Y :: Tg) ++ (D :: [B1, B2])) X (X.putObj D (.deferred none)) := (Turn.put _ _ _).mono (by simp)
    have hJF := HJ.out.2 _ Tg _ X _ h1 hszs hTurn hNew
    have HF := Lib.hid (And.intro hJF (And.intro hSF (And.intro hK hp2)))
    clear h1 h2 h3 h4 hsm hszs hTg hSF hNew hTurn hJF hK
    gi_wp2
    refine ⟨by simp, .inl ⟨_, _, rfl, run_takeDeferred HF.out.2.2.1, ?_⟩⟩
    exact ⟨_, results_none rfl _ _ _, ⟨_, rfl⟩, .inr ⟨_, HF.out.2.2.2, HF.out.1, HF.out.2.1⟩⟩
  case round =>
    rintro l1 TT pre ⟨i, nx⟩ Wr hl1 hrec hTT hpre hI
    obtain ⟨hi8, hEn⟩ := ld_some (hpre.subset (List.mem_append_right _ (List.mem_singleton.2 rfl)))
    dsimp only at hi8 hEn
    dsimp only [enc2]
    gi_wp2
    refine ⟨Same.refl _ _, fun W2 ht hsz hr2 => ?_⟩
    have hI2 := Sub.grows HJ.out.1 (fl1 mp l q) (Y :: Tg) w3 TT TT pre Wr W2 hI hTT (ht.mono (by simpa using hl1)) (fun b hb => ⟨.inl hb, by rw [hsz]; exact hTT b hb⟩)
    have hTT2 : ∀ b ∈ TT, b < W2.heap.size := fun b hb => by rw [hsz]; exact hTT b hb
    obtain ⟨hJ2, hdj, hS2, _⟩ := hI2
    have hown2 : ∀ b ∈ (Y :: Tg) ++ TT, b < W2.heap.size := fun b hb => by
      rcases List.mem_append.1 hb with hb | hb
      · exact hS2.lt hb (HB3.out.2.2.2.2.1 b hb)
      · exact hTT2 b hb
    have hmA : ∀ b ∈ [A1, A2, A3, A4], b ∈ (Y :: Tg) ++ TT := fun b hb => List.mem_append_left _ (List.mem_cons_of_mem _ (HZ.out.1 b hb))
    have hBZ2 : BZ R f l q A1 A2 A3 A4 W2 := HB3.out.2.2.1.same hS2 (List.mem_cons_of_mem _ (HZ.out.1 _ (by simp))) (List.mem_cons_of_mem _ (HZ.out.1 _ (by simp))) (List.mem_cons_of_mem _ (HZ.out.1 _ (by simp))) (List.mem_cons_of_mem _ (HZ.out.1 _ (by simp)))
    have hYc : W2.heap[Y]? = some (Obj.cells #[.func (.yield lY) #[] #[]] 78) := (hS2 Y (by simp)).trans HB3.out.2.2.2.1
    have cY : W2.cell? ⟨Y, 0, none⟩ = some (.func (.yield lY) #[] #[]) := by rw [cell_of_row _ _ 0 _ 78 (0, 0) hYc]; rfl
    obtain ⟨c1, c2, c3, c4⟩ := hBZ2.cells
    obtain ⟨N, eN⟩ : ∃ N, 8 * q + i = N := ⟨_, rfl⟩
    have hor := or_eight q i (by omega) hi8
    rw [eN] at hor
    have hwr : IntKind.i64.wrap ((q : Int) * 8) = (q : Int) * 8 := by rw [IntKind.wrap_i64]; omega
    have hfl := fl1_snoc mp l q pre (i, nx)
    dsimp only at hfl
    have hpx := fl1_prefix (mp := mp) (l := l) (q := q) hpre
    rw [HT.out.fl1_sg hl] at hpx
    rw [eN] at hfl
    clear hsz
    have HP := Lib.hid (And.intro hJ2 (And.intro hdj (And.intro hS2 (And.intro hTT2 (And.intro hown2 (And.intro hmA (And.intro hBZ2 hYc)))))))
    by_cases h3 : l = 3
    · subst h3
      have hNs : (mp N).isSome = true := by
        unfold En at hEn
        rw [if_pos rfl, eN] at hEn
        rw [Option.map_eq_some_iff] at hEn
        obtain ⟨y, hy, _⟩ := hEn
        rw [hy]; rfl
      rw [sg_4, if_pos hNs] at hfl
      rw [hfl] at hpx
      have hen : encB nd N = #[.int .i64 (N : Int), .agg #[.int .i64 (f : Int), .int .i64 (i : Int)]] := by
        unfold encB
        rw [show N / 8 = q by omega, show N % 8 = i by omega, EF.out]
      obtain ⟨fn, tmps, assign, body, hy, hR⟩ := YieldAt.any (m' := 3) (HY.out ((Y :: Tg) ++ TT) (fl1 mp 3 q pre) N W2 hmA hown2 hpx hJ2)
      rw [hen] at hy
      have hR : RoundIn (Fence.wide.inRound l1) 3 Try.prog lY fn tmps assign body W2 _ := hR
      have HX := Lib.hid (And.intro hpx hfl)
      clear hJ2 hdj hS2 hTT2 hown2 hmA hBZ2 hYc hfl hpx hen hNs hEn ht hI hrec hTT hpre hr2
      gi_wp2_with fail
      refine hR.mono ?_
      rintro e9 W9 (⟨rfl, hJ9, hS9⟩ | ⟨rfl, hJ9, hS9⟩)
      · have HE := Lib.hid (And.intro hJ9 hS9)
        clear hJ9 hS9
        gi_wp2
        refine ⟨fun b hb => HE.out.2 b (by simp [hb]), ?_, HP.out.2.1, HP.out.2.2.1.trans (fun b hb => HE.out.2 b (List.mem_append_left _ hb)), HB3.out.2.2.2.2.1⟩
        rw [HX.out.2]; exact HE.out.1
      · have HE := Lib.hid (And.intro hJ9 hS9)
        clear hJ9 hS9
        gi_wp2
        exact ⟨fun b hb => HE.out.2 b (by simp [hb]), ⟨rfl, _, HX.out.1, HE.out.1⟩, HP.out.2.1, HP.out.2.2.1.trans (fun b hb => HE.out.2 b (List.mem_append_left _ hb)), HB3.out.2.2.2.2.1⟩
    · have hl3 : ((l : Int) == 3) = false := by simp; omega
      have hl3' : ¬ (l : Int) = 3 := by omega
      have hmem : (l + 1, N) ∈ ks ∧ nd (l + 1) N = nx := by
        unfold En at hEn
        rw [if_neg h3, eN] at hEn
        split at hEn
        · rename_i hm; injection hEn with hEn; exact ⟨hm, hEn⟩
        · cases hEn
      have hchild := HC.out (by omega) i hi8 (by rw [eN]; exact hmem.1)
      rw [eN] at hchild
      unfold BI at hchild
      rw [hmem.2] at hchild
      have hbef := fl1_before (mp := mp) (q := q) hl (ld_before hpre)
      rw [eN] at hbef
      have BL := Lib.hid (fun (X : World) => below_any (R := R) (nx : Int) ((l : Int) + 1) (N : Int) X)
      obtain ⟨r0, hr0⟩ := hr2
      have hl1W : l1 < W2.heap.size := (Array.getElem?_eq_some_iff.1 hr0).1
      have HX := Lib.hid (And.intro hpx (And.intro hfl (And.intro hbef (And.intro hr0 (And.intro hl1W (And.intro hchild (And.intro eN hmem)))))))
      clear hJ2 hdj hS2 hTT2 hown2 hmA hBZ2 hYc hfl hpx hEn ht hI hrec hTT hpre hr0 hbef hchild hmem eN
      gi_wp2_with fail
      refine ⟨trivial, ?_⟩
      refine (CallsIn.inRound l1 (callsIn_wide.2 (BL.out _))).mono ?_
      rintro e w4 ⟨rfl, e4⟩
      gi_wp2_with fail
      rw [← e4]
      rw [show ((l : Int) + 1) = ((l + 1 : Nat) : Int) by omega] at e4
      have hF4 : Below W2.heap.size W2 w4 ∧ w4.heap.size = W2.heap.size + 4 ∧ BZ R nx (l + 1) N W2.heap.size (W2.heap.size + 1) (W2.heap.size + 3) (W2.heap.size + 2) w4 := by
        rw [e4]; exact ⟨boxB_below _ _ _ _ _, boxB_size _ _ _ _ _, boxB_z _ _ _ _ _⟩
      clear e4
      obtain ⟨hb4, hs4, hZ4⟩ := hF4
      obtain ⟨s, es⟩ : ∃ s, W2.heap.size = s := ⟨_, rfl⟩
      rw [es] at hb4 hs4 hZ4 ⊢
      obtain ⟨q1, q2, q3, q4, q5, q6, q7, q8⟩ := HP.out
      have hown4 : ∀ b ∈ (Y :: Tg) ++ TT, b < w4.heap.size := fun b hb => by have := q5 b hb; omega
      have hS4 : Same ((Y :: Tg) ++ TT) W2 w4 := fun b hb => hb4.block b (by have := q5 b hb; omega)
      have hJ4 : J (((Y :: Tg) ++ TT) ++ [s, s + 1, s + 3, s + 2]) (fl1 mp l q pre ++ []) w4 := by
        rw [List.append_nil]
        refine HJ.out.1.more q1 q5 (by rw [es]; exact hb4) (fun b hb => ?_)
        rcases List.mem_append.1 hb with hb | hb
        · exact ⟨.inl hb, hown4 b hb⟩
        · simp at hb; rw [es]; exact ⟨.inr (by omega), by omega⟩
      have hdj4 : ∀ b ∈ (Y :: Tg) ++ TT, b ∉ [s, s + 1, s + 3, s + 2] := fun b hb hm => by
        have := q5 b hb
        simp at hm; omega
      have hl04 : w4.heap[l1]? = some (.loop r0) := (hb4.block l1 (by have := HX.out.2.2.2.2.1; omega)).trans HX.out.2.2.2.1
      have H4 := Lib.hid (And.intro hb4 (And.intro hs4 (And.intro hown4 (And.intro hS4 es))))
      clear hown4 hS4 hl1W cY c1 c2 c3 c4
      refine range_in (m := 3) (r₀ := r0) hl04 (gf := 37) (lb := #[.pointer (some ⟨s, 0, none⟩), .pointer (some ⟨s + 1, 0, none⟩), .pointer (some ⟨s + 3, 0, none⟩), .pointer (some ⟨s + 2, 0, none⟩)]) rfl (enters_of Try.func37 (by kernel_rfl) rfl) (HX.out.2.2.2.2.2.1 s (s + 1) (s + 3) (s + 2)) (fun _ => rfl)
        (Sub J (fun pre2 => fl1 mp l q pre ++ pre2) ((Y :: Tg) ++ TT) w4) (fun c => Sub (fun T (_ : Unit) X => c = .ret ∧ ∃ pre, pre <+: sg mp l q ∧ Jx T pre X) (fun _ => ()) ((Y :: Tg) ++ TT) w4) (Sub.grows HJ.out.1 _ _ _)
        (fun c => Sub.grows (grows_and (grows_ex HJ.out.2 (fun _ pre => pre <+: sg mp l q)) (fun _ => c = .ret)) _ _ _) ?hV2 [s, s + 1, s + 3, s + 2] ?hT2 (fun b hb => hb) ?hZ2 ⟨hJ4, hdj4, Same.refl _ _, H4.out.2.2.1⟩ ?round2 ?done2 ?stop2
      case hT2 => intro b hb; simp at hb; omega
      case hZ2 => intro X hX; exact ⟨by rw [hX.block _ (by omega)]; exact hZ4.1, by rw [hX.block _ (by omega)]; exact hZ4.2.1, by rw [hX.block _ (by omega)]; exact hZ4.2.2.1, by rw [hX.block _ (by omega)]; exact hZ4.2.2.2⟩
      case hV2 =>
        rintro T pre2 X hX ⟨h1, h2, h3, h4⟩
        obtain ⟨ds, mp', hst, ht, hag⟩ := HV.out _ _ X (fun b hb => by
          rcases List.mem_append.1 hb with hb | hb
          · exact h3.lt hb (h4 b hb)
          · exact hX b hb) h1
        refine ⟨ds, mp', hst.less (fun b hb => by simp [hb]), ht, fun p hp hx => hag p ?_ (fun y hy => ?_)⟩
        · exact pf_up hl hi8 (by rw [hp, HX.out.2.2.2.2.2.2.1])
        · rcases List.mem_append.1 hy with hy | hy
          · exact Nat.lt_of_lt_of_le (HX.out.2.2.1 y hy) (pf_le hl hp)
          · exact hx y hy
      case done2 =>
        rintro X hszX ⟨h1, h2, h3, h4⟩ hsm
        have hres : J ((Y :: Tg) ++ TT) (fl1 mp l q (pre ++ [(i, nx)])) X := by
          rw [HX.out.2.1]
          refine HJ.out.1.less h1 (fun b hb => ?_) (fun b hb => List.mem_append_left _ hb)
          rcases List.mem_append.1 hb with hb | hb
          · exact h3.lt hb (h4 b hb)
          · exact hsm.lt hb (by simp at hb; omega)
        have HE := Lib.hid (And.intro hres (H4.out.2.2.2.1.trans h3))
        clear h1 h2 h3 h4 hsm hres
        gi_wp2
        exact ⟨fun b hb => HE.out.2 b (by simp [hb]), HE.out.1, q2, q3.trans (fun b hb => HE.out.2 b (List.mem_append_left _ hb)), HB3.out.2.2.2.2.1⟩
      case stop2 =>
        rintro c pre2 X hszX hpre2 ⟨⟨rfl, pre3, hp3, h1⟩, h2, h3, h4⟩ hsm
        have hres : Jx ((Y :: Tg) ++ TT) pre3 X := by
          refine HJ.out.2.less h1 (fun b hb => ?_) (fun b hb => List.mem_append_left _ hb)
          rcases List.mem_append.1 hb with hb | hb
          · exact h3.lt hb (h4 b hb)
          · exact hsm.lt hb (by simp at hb; omega)
        have HE := Lib.hid (And.intro hres (And.intro (H4.out.2.2.2.1.trans h3) hp3))
        clear h1 h2 h3 h4 hsm hres
        gi_wp2
        exact ⟨fun b hb => HE.out.2.1 b (by simp [hb]), ⟨rfl, _, HE.out.2.2, HE.out.1⟩, q2, q3.trans (fun b hb => HE.out.2.1 b (List.mem_append_left _ hb)), HB3.out.2.2.2.2.1⟩
      case round2 =>
        rintro l2 T2 pre2 p Wq hl2 hrec2 hTT2 hpre2 hI2
        have hk2 := heap_alloc_new Wq (Obj.cells #[.int .i64 ((nd 3 (p / 8) : Nat) : Int), .int .i64 ((p % 8 : Nat) : Int)] 67)
        have hbq := below_alloc1 Wq (Obj.cells #[.int .i64 ((nd 3 (p / 8) : Nat) : Int), .int .i64 ((p % 8 : Nat) : Int)] 67)
        have hszq : (Wq.alloc (Obj.cells #[.int .i64 ((nd 3 (p / 8) : Nat) : Int), .int .i64 ((p % 8 : Nat) : Int)] 67)).heap.size = Wq.heap.size + 1 := by simp
        have HQ := Lib.hid (And.intro hk2 (And.intro hbq hszq))
        obtain ⟨PB, ePB⟩ : ∃ PB, ((nd 3 (p / 8) : Nat) : Int) = PB := ⟨_, rfl⟩
        obtain ⟨PI, ePI⟩ : ∃ PI, ((p % 8 : Nat) : Int) = PI := ⟨_, rfl⟩
        have hencB : encB nd p = #[.int .i64 (p : Int), .agg #[.int .i64 PB, .int .i64 PI]] := by unfold encB; rw [ePB, ePI]
        rw [ePB, ePI] at HQ
        rw [hencB]
        have HI2 := Lib.hid (And.intro hI2 (And.intro hTT2 (And.intro hl2 (And.intro hpre2 hencB))))
        clear hk2 hbq hszq ePB ePI hI2 hrec2 hTT2 hl2 hpre2 hencB
        gi_wp2
        refine ⟨fun b hb => HQ.out.2.1.block b (HI2.out.2.1 b hb), fun W5 ht5 hsz5 hr5 => ?_⟩
        rw [HQ.out.2.2] at hsz5
        have ht : Turn T2 Wq W5 := (Turn.of_below HQ.out.2.1).trans ht5 (fun x hx => by obtain rfl := List.mem_singleton.1 hx; exact .inl HI2.out.2.2.1)
        have hTT5 : ∀ b ∈ T2, b < W5.heap.size := fun b hb => by have := HI2.out.2.1 b hb; omega
        obtain ⟨j1, j2, j3, j4⟩ := Sub.grows HJ.out.1 (fun pre2 => fl1 mp l q pre ++ pre2) ((Y :: Tg) ++ TT) w4 T2 T2 pre2 Wq W5 HI2.out.1 HI2.out.2.1 ht (fun b hb => ⟨.inl hb, hTT5 b hb⟩)
        have hown5 : ∀ b ∈ ((Y :: Tg) ++ TT) ++ T2, b < W5.heap.size := fun b hb => by
          rcases List.mem_append.1 hb with hb | hb
          · exact j3.lt hb (j4 b hb)
          · exact hTT5 b hb
        have hPB : W5.heap[Wq.heap.size]? = some (Obj.cells #[.int .i64 PB, .int .i64 PI] 67) := by
          rw [ht5.block _ (by rw [HQ.out.2.2]; omega) (fun e => by have e1 := List.mem_singleton.1 e; have := HI2.out.2.1 l2 HI2.out.2.2.1; omega)]
          exact HQ.out.1
        have p0 : W5.cell? ⟨Wq.heap.size, 0, none⟩ = some (.int .i64 PB) := by rw [cell_of_row _ _ 0 _ 67 (0, 0) hPB]; rfl
        have p1 : W5.cell? ⟨Wq.heap.size, 1, none⟩ = some (.int .i64 PI) := by rw [cell_of_row _ _ 1 _ 67 (0, 0) hPB]; rfl
        have hYc5 : W5.heap[Y]? = some (Obj.cells #[.func (.yield lY) #[] #[]] 78) := ((j3 Y (by simp)).trans (H4.out.2.2.2.1 Y (by simp))).trans q8
        have cY5 : W5.cell? ⟨Y, 0, none⟩ = some (.func (.yield lY) #[] #[]) := by rw [cell_of_row _ _ 0 _ 78 (0, 0) hYc5]; rfl
        have hpx5 : (fl1 mp l q pre ++ pre2) ++ [p] <+: sg mp l q := by
          refine List.IsPrefix.trans ?_ HX.out.1
          rw [HX.out.2.1, List.append_assoc]
          exact (List.prefix_append_right_inj _).2 HI2.out.2.2.2.1
        obtain ⟨fn, tmps, assign, body, hy, hR⟩ := YieldAt.any (m' := 2) (HY.out (((Y :: Tg) ++ TT) ++ T2) (fl1 mp l q pre ++ pre2) p W5 (fun b hb => List.mem_append_left _ (q6 b hb)) hown5 hpx5 j1)
        rw [HI2.out.2.2.2.2] at hy
        have hR : RoundIn (Fence.wide.inRound l2) 2 Try.prog lY fn tmps assign body W5 _ := hR
        have HZ5 := Lib.hid (And.intro hpx5 (And.intro j2 (And.intro j3 j4)))
        clear ht5 hsz5 hr5 ht hTT5 j1 j2 j3 j4 hown5 hPB hYc5 hpx5
        gi_wp2_with fail
        refine hR.mono ?_
        rintro e9 W9 (⟨rfl, hJ9, hS9⟩ | ⟨rfl, hJ9, hS9⟩)
        · have HE := Lib.hid (And.intro hJ9 hS9)
          clear hJ9 hS9
          gi_wp2
          refine ⟨fun b hb => HE.out.2 b (by simp [hb]), ?_, HZ5.out.2.1, HZ5.out.2.2.1.trans (fun b hb => HE.out.2 b (List.mem_append_left _ hb)), HZ5.out.2.2.2⟩
          have := HE.out.1
          rw [List.append_assoc (fl1 mp l q pre)] at this
          exact this
        · have HE := Lib.hid (And.intro hJ9 hS9)
          clear hJ9 hS9
          gi_wp2
          exact ⟨fun b hb => HE.out.2 b (by simp [hb]), ⟨rfl, _, HZ5.out.1, HE.out.1⟩, HZ5.out.2.1, HZ5.out.2.2.1.trans (fun b hb => HE.out.2 b (List.mem_append_left _ hb)), HZ5.out.2.2.2⟩
theorem below_all (t0 : ∃ ds, Tb os ds o ks nd mp) : ∀ l q, l ≤ 3 → (l, q) ∈ ks → BI W0 R os o ks nd mp l q := by
  have h3 : ∀ q, (3, q) ∈ ks → BI W0 R os o ks nd mp 3 q := fun q hk => below_step t0 3 q (by omega) hk (fun h => by omega)
  have h2 : ∀ q, (2, q) ∈ ks → BI W0 R os o ks nd mp 2 q := fun q hk => below_step t0 2 q (by omega) hk (fun _ i hi hm => h3 _ hm)
  have h1 : ∀ q, (1, q) ∈ ks → BI W0 R os o ks nd mp 1 q := fun q hk => below_step t0 1 q (by omega) hk (fun _ i hi hm => h2 _ hm)
  intro l q hl hk
  have e : l = 0 ∨ l = 1 ∨ l = 2 ∨ l = 3 := by omega
  rcases e with rfl | rfl | rfl | rfl
  · exact below_step t0 0 q (by omega) hk (fun _ i hi hm => h1 _ hm)
  · exact h1 q hk
  · exact h2 q hk
  · exact h3 q hk
end Go.Proofs.Ytliljicmkgbfpaa
