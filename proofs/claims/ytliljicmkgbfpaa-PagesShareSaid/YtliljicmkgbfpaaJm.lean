/- Each: the pages that lead somewhere, with their frames. -/
import Derived.Test.YtliljicmkgbfpaaJl
set_option linter.unusedVariables false
set_option linter.unusedSimpArgs false
namespace Go.Proofs.Ytliljicmkgbfpaa
open Go.RowKit Go.Shelf Pg
set_option linter.unusedVariables false
set_option linter.unusedSimpArgs false
attribute [local go_sem] Oper.semAt_some
variable {W0 : World} {R : Nat} {os : List Nat} {ds : List (List Nat)} {o : Nat} {ks : List (Nat × Nat)} {nd : Nat → Nat → Nat} {mp : Nat → Option (Nat × Bool)}
theorem each_any (f : Int) (w : World) : Calls Try.prog 17 #[.pointer (some ⟨R, 0, none⟩), .int .i64 f] w fun e w' => e = .returned (.func (.func 32) #[] #[.pointer (some ⟨w.heap.size, 0, none⟩), .pointer (some ⟨w.heap.size + 1, 0, none⟩)]) ∧
    w' = (w.alloc (Obj.cells #[.pointer (some ⟨R, 0, none⟩)] 24)).alloc (Obj.cells #[.int .i64 f] 3) := by
  go_enter Try.func17, Try.ntmps17
  go_wp2
  go_ret
  exact ⟨rfl, rfl⟩
theorem yield_nil (l : Nat) (X : World) : (binOp .eql 49 (.func (.yield l) #[] #[]) .nilFunc).run Try.prog X = .ok (.bool false) X := by kernel_rfl
theorem Below.of_drew {w X : World} (h : Below w.drew.heap.size w.drew X) : Below w.heap.size w X := ⟨h.os, h.tape, h.output, h.size, h.block⟩
/-- A page, and its frame. -/
def encE (mp : Nat → Option (Nat × Bool)) (p : Nat) : Array Value := #[.int .i64 (p : Int), .int .i64 ((fr (mp p) : Nat) : Int)]
/-- What is read by who goes over pages, if nobody changes where they lead. -/
def EV (W0 : World) (R : Nat) (os : List Nat) (o : Nat) (ks : List (Nat × Nat)) (nd : Nat → Nat → Nat) (mp : Nat → Option (Nat × Bool)) (T : List Nat) (pre : List Nat) (W : World) : Prop := ∃ ds, St W0 T R os ds W ∧ Tb os ds o ks nd mp
set_option maxRecDepth 100000 in
set_option maxHeartbeats 4000000 in
theorem each_iter (t0 : ∃ ds, Tb os ds o ks nd mp) (B1 B2 : Nat) : Iter Try.prog 32 #[.pointer (some ⟨B1, 0, none⟩), .pointer (some ⟨B2, 0, none⟩)] (encE mp) [B1, B2] (EV W0 R os o ks nd mp) (LZ R (nd 0 0) B1 B2) (sg mp 0 0) := by
  intro lY m J Jx hJ hJx hV hY Tg W hT0 hT hZ h0
  obtain ⟨ds0, t0⟩ := t0
  obtain ⟨f, ef⟩ : ∃ f, nd 0 0 = f := ⟨_, rfl⟩
  have BI0 := below_all (W0 := W0) (R := R) ⟨ds0, t0⟩ 0 0 (by omega) t0.root
  unfold BI at BI0
  rw [ef] at hZ BI0
  have EF := Lib.hid ef
  have HV := Lib.hid hV
  have HY := Lib.hid hY
  have HJ := Lib.hid (And.intro hJ hJx)
  have HT := Lib.hid t0
  have HI := Lib.hid BI0
  have c1 : W.cell? ⟨B1, 0, none⟩ = some (.pointer (some ⟨R, 0, none⟩)) := by rw [cell_of_row _ _ 0 _ 24 (0, 0) hZ.1]; rfl
  have c2 : W.cell? ⟨B2, 0, none⟩ = some (.int .i64 (f : Int)) := by rw [cell_of_row _ _ 0 _ 3 (0, 0) hZ.2]; rfl
  have hA1 := hT B1 (hT0 B1 (by simp))
  have hA2 := hT B2 (hT0 B2 (by simp))
  have HZ := Lib.hid (And.intro hT0 (And.intro hT (And.intro hZ h0)))
  have BL := Lib.hid (fun (X : World) => below_any (R := R) (f : Int) 0 0 X)
  have hne := fun (X : World) => yield_nil lY X
  clear hV hY hJ hJx hT0 hZ h0 t0 BI0 ef
  refine (callsIn_wide (n := 5)).1 ?_
  refine callsIn_of_wp_marks Try.func32 rfl trivial ?_ rfl
  simp only [Try.ntmps32, List.size_toArray, List.length_cons, List.length_nil, Nat.reduceAdd, Nat.reduceSub, Array.replicate_succ, Array.replicate_zero, List.push_toArray, List.append_toArray, List.nil_append, List.cons_append]
  refine wpIn_wide.2 ?_
  go_wp2_with fail
  refine (BL.out _).mono ?_; rintro e w3 ⟨rfl, e3⟩
  go_wp2_with fail
  rw [← e3]
  have hF : Below W.heap.size W w3 ∧ w3.heap.size = W.heap.size + 5 ∧ w3.heap[W.heap.size]? = some (Obj.cells #[.func (.yield lY) #[] #[]] 49) ∧ BZ R f 0 0 (W.heap.size + 1) (W.heap.size + 1 + 1) (W.heap.size + 1 + 3) (W.heap.size + 1 + 2) w3 := by
    rw [e3]
    have h1 := below_alloc1 W (Obj.cells #[.func (.yield lY) #[] #[]] 49)
    have h2 := boxB_below (W.alloc (Obj.cells #[.func (.yield lY) #[] #[]] 49)) R (f : Int) 0 0
    have h3 := boxB_size (W.alloc (Obj.cells #[.func (.yield lY) #[] #[]] 49)) R (f : Int) 0 0
    have h4 := boxB_z (W.alloc (Obj.cells #[.func (.yield lY) #[] #[]] 49)) R f 0 0
    have h5 : (W.alloc (Obj.cells #[.func (.yield lY) #[] #[]] 49)).heap.size = W.heap.size + 1 := by simp
    rw [h5] at h2 h3 h4
    exact ⟨h1.trans (h2.mono (by omega)), by omega, by rw [h2.block _ (by omega)]; exact heap_alloc_new W _, h4⟩
  clear e3
  obtain ⟨hb3, hs3, hY3, hZ3⟩ := hF
  obtain ⟨Y, eY⟩ : ∃ Y, W.heap.size = Y := ⟨_, rfl⟩
  obtain ⟨b1, eb1⟩ : ∃ b, Y + 1 = b := ⟨_, rfl⟩
  obtain ⟨b2, eb2⟩ : ∃ b, b1 + 1 = b := ⟨_, rfl⟩
  obtain ⟨b3, eb3⟩ : ∃ b, b1 + 3 = b := ⟨_, rfl⟩
  obtain ⟨b4, eb4⟩ : ∃ b, b1 + 2 = b := ⟨_, rfl⟩
  rw [eY] at hb3 hs3 hY3 hZ3 hT ⊢
  rw [eb1] at hZ3 ⊢
  rw [eb2, eb3, eb4] at hZ3 ⊢
  have hLZ3 : LZ R f B1 B2 w3 := ⟨(hb3.block B1 (hT B1 (HZ.out.1 B1 (by simp)))).trans HZ.out.2.2.1.1, (hb3.block B2 (hT B2 (HZ.out.1 B2 (by simp)))).trans HZ.out.2.2.1.2⟩
  have hown3 : ∀ b ∈ Y :: Tg, b < w3.heap.size := fun b hb => by
    rcases List.mem_cons.1 hb with rfl | hb
    · omega
    · have := hT b hb; omega
  have hJ3 : J ((Y :: Tg) ++ [b1, b2, b3, b4]) [] w3 := HJ.out.1.more HZ.out.2.2.2 HZ.out.2.1 (by rw [eY]; exact hb3) (fun b hb => by
    rcases List.mem_append.1 hb with hb | hb
    · refine ⟨?_, hown3 b hb⟩
      rcases List.mem_cons.1 hb with rfl | hb
      · exact .inr (by omega)
      · exact .inl hb
    · simp at hb; rw [eY]
      exact ⟨.inr (by omega), by omega⟩)
  have hd3 : ∀ b ∈ Y :: Tg, b ∉ [b1, b2, b3, b4] := fun b hb hm => by
    simp at hm
    rcases List.mem_cons.1 hb with rfl | hb
    · omega
    · have := hT b hb; omega
  have HB3 := Lib.hid (And.intro hb3 (And.intro hs3 (And.intro hLZ3 (And.intro hY3 (And.intro hown3 (And.intro eY (And.intro eb1 (And.intro eb2 (And.intro eb3 eb4)))))))))
  clear c1 c2 hA1 hA2 hb3 hLZ3 hY3
  refine (wpIn_wide (n := 5)).1 ?_
  refine range_out (m := 4) (gf := 37) (lb := #[.pointer (some ⟨b1, 0, none⟩), .pointer (some ⟨b2, 0, none⟩), .pointer (some ⟨b3, 0, none⟩), .pointer (some ⟨b4, 0, none⟩)]) rfl (enters_of Try.func37 (by kernel_rfl) rfl) (HI.out b1 b2 b3 b4) (fun _ => rfl)
    (Sub J (fun x => x) (Y :: Tg) w3) (fun c => Sub (fun T (_ : Unit) X => c = .ret ∧ ∃ pre, pre <+: sg mp 0 0 ∧ Jx T pre X) (fun _ => ()) (Y :: Tg) w3) (Sub.grows HJ.out.1 _ _ _)
    (fun c => Sub.grows (grows_and (grows_ex HJ.out.2 (fun _ pre => pre <+: sg mp 0 0)) (fun _ => c = .ret)) _ _ _) ?hV [b1, b2, b3, b4] ?hT (fun b hb => hb) ?hZ ⟨hJ3, hd3, Same.refl _ _, hown3⟩ ?round ?done ?stop
  case hT => intro b hb; simp at hb; omega
  case hZ => intro X hX; exact ⟨by rw [hX.block _ (by omega)]; exact hZ3.1, by rw [hX.block _ (by omega)]; exact hZ3.2.1, by rw [hX.block _ (by omega)]; exact hZ3.2.2.1, by rw [hX.block _ (by omega)]; exact hZ3.2.2.2⟩
  case hV =>
    rintro T pre X hX ⟨h1, h2, h3, h4⟩
    obtain ⟨ds, hst, ht⟩ := HV.out _ _ X (fun b hb => by
      rcases List.mem_append.1 hb with hb | hb
      · exact h3.lt hb (h4 b hb)
      · exact hX b hb) h1
    exact ⟨ds, mp, hst.less (fun b hb => by simp [hb]), ht, fun p _ _ => rfl⟩
  case done =>
    rintro D X hD hDX hDT ⟨h1, h2, h3, h4⟩ hK hsm
    have hszs : ∀ b ∈ (Y :: Tg) ++ (D :: [b1, b2, b3, b4]), b < X.heap.size := fun b hb => by
      rcases List.mem_append.1 hb with hb | hb
      · exact h3.lt hb (h4 b hb)
      · rcases List.mem_cons.1 hb with rfl | hb
        · exact hDX
        · exact hsm.lt hb (by have := HB3.out; simp at hb; omega)
    have hTg : ∀ b ∈ Tg, b < Y := fun b hb => by have := HZ.out.2.1 b hb; have := HB3.out; omega
    have hSF : Same Tg W (X.putObj D (.deferred none)) := fun b hb => by
      have hbY := hTg b hb
      rw [World.putObj_heap_other (by have := HB3.out; omega), h3 b (by simp [hb])]
      exact HB3.out.1.block b hbY
    have hNew : New ((Y :: Tg) ++ (D :: [b1, b2, b3, b4])) Tg X (X.putObj D (.deferred none)) := fun b hb => ⟨.inl (by simp [hb]), by simpa using hszs b (by simp [hb])⟩
    have hTurn : Turn ((Y :: Tg) ++ (D :: [b1, b2, b3, b4])) X (X.putObj D (.deferred none)) := (Turn.put _ _ _).mono (by simp)
    have hJF := HJ.out.1 _ Tg _ X _ h1 hszs hTurn hNew
    have HF := Lib.hid (And.intro hJF (And.intro hSF hK))
    clear h1 h2 h3 h4 hsm hszs hTg hSF hNew hTurn hJF hK
    gi_wp2
    try go_wp2_with fail
    refine ⟨by simp, .inl ⟨_, _, rfl, run_takeDeferred HF.out.2.2, ?_⟩⟩
    exact ⟨_, results_none rfl _ _ _, ⟨_, rfl⟩, .inl ⟨HF.out.1, HF.out.2.1⟩⟩
  case stop =>
    rintro D c pre X hD hDX hDT hpre ⟨⟨rfl, pre2, hp2, h1⟩, h2, h3, h4⟩ hK hsm
    have hszs : ∀ b ∈ (Y :: Tg) ++ (D :: [b1, b2, b3, b4]), b < X.heap.size := fun b hb => by
      rcases List.mem_append.1 hb with hb | hb
      · exact h3.lt hb (h4 b hb)
      · rcases List.mem_cons.1 hb with rfl | hb
        · exact hDX
        · exact hsm.lt hb (by have := HB3.out; simp at hb; omega)
    have hTg : ∀ b ∈ Tg, b < Y := fun b hb => by have := HZ.out.2.1 b hb; have := HB3.out; omega
    have hSF : Same Tg W (X.putObj D (.deferred none)) := fun b hb => by
      have hbY := hTg b hb
      rw [World.putObj_heap_other (by have := HB3.out; omega), h3 b (by simp [hb])]
      exact HB3.out.1.block b hbY
    have hNew : New ((Y :: Tg) ++ (D :: [b1, b2, b3, b4])) Tg X (X.putObj D (.deferred none)) := fun b hb => ⟨.inl (by simp [hb]), by simpa using hszs b (by simp [hb])⟩
    have hTurn : Turn ((Y :: Tg) ++ (D :: [b1, b2, b3, b4])) X (X.putObj D (.deferred none)) := (Turn.put _ _ _).mono (by simp)
    have hJF := HJ.out.2 _ Tg _ X _ h1 hszs hTurn hNew
    have HF := Lib.hid (And.intro hJF (And.intro hSF (And.intro hK hp2)))
    clear h1 h2 h3 h4 hsm hszs hTg hSF hNew hTurn hJF hK
    gi_wp2
    refine ⟨by simp, .inl ⟨_, _, rfl, run_takeDeferred HF.out.2.2.1, ?_⟩⟩
    exact ⟨_, results_none rfl _ _ _, ⟨_, rfl⟩, .inr ⟨_, HF.out.2.2.2, HF.out.1, HF.out.2.1⟩⟩
  case round =>
    rintro l1 TT pre p Wr hl1 hrec hTT hpre hI
    have hk2 := heap_alloc_new Wr (Obj.cells #[.int .i64 ((nd 3 (p / 8) : Nat) : Int), .int .i64 ((p % 8 : Nat) : Int)] 67)
    have hbq := below_alloc1 Wr (Obj.cells #[.int .i64 ((nd 3 (p / 8) : Nat) : Int), .int .i64 ((p % 8 : Nat) : Int)] 67)
    have hszq : (Wr.alloc (Obj.cells #[.int .i64 ((nd 3 (p / 8) : Nat) : Int), .int .i64 ((p % 8 : Nat) : Int)] 67)).heap.size = Wr.heap.size + 1 := by simp
    have HQ := Lib.hid (And.intro hk2 (And.intro hbq hszq))
    obtain ⟨PB, ePB⟩ : ∃ PB : Nat, nd 3 (p / 8) = PB := ⟨_, rfl⟩
    obtain ⟨PI, ePI⟩ : ∃ PI : Nat, p % 8 = PI := ⟨_, rfl⟩
    have hencB : encB nd p = #[.int .i64 (p : Int), .agg #[.int .i64 (PB : Int), .int .i64 (PI : Int)]] := by unfold encB; rw [ePB, ePI]
    rw [ePB, ePI] at HQ
    rw [hencB]
    have HI2 := Lib.hid (And.intro hI (And.intro hTT (And.intro hl1 (And.intro hpre (And.intro hencB (And.intro ePB ePI))))))
    clear hk2 hbq hszq ePB ePI hI hrec hTT hl1 hpre hencB
    gi_wp2
    refine ⟨fun b hb => HQ.out.2.1.block b (HI2.out.2.1 b hb), fun W5 ht5 hsz5 hr5 => ?_⟩
    rw [HQ.out.2.2] at hsz5
    have ht : Turn TT Wr W5 := (Turn.of_below HQ.out.2.1).trans ht5 (fun x hx => by obtain rfl := List.mem_singleton.1 hx; exact .inl HI2.out.2.2.1)
    have hTT5 : ∀ b ∈ TT, b < W5.heap.size := fun b hb => by have := HI2.out.2.1 b hb; omega
    obtain ⟨j1, j2, j3, j4⟩ := Sub.grows HJ.out.1 (fun x => x) (Y :: Tg) w3 TT TT pre Wr W5 HI2.out.1 HI2.out.2.1 ht (fun b hb => ⟨.inl hb, hTT5 b hb⟩)
    have hown5 : ∀ b ∈ (Y :: Tg) ++ TT, b < W5.heap.size := fun b hb => by
      rcases List.mem_append.1 hb with hb | hb
      · exact j3.lt hb (j4 b hb)
      · exact hTT5 b hb
    have hPB : W5.heap[Wr.heap.size]? = some (Obj.cells #[.int .i64 (PB : Int), .int .i64 (PI : Int)] 67) := by
      rw [ht5.block _ (by rw [HQ.out.2.2]; omega) (fun e => by have e1 := List.mem_singleton.1 e; have := HI2.out.2.1 l1 HI2.out.2.2.1; omega)]
      exact HQ.out.1
    obtain ⟨PP, ePP⟩ : ∃ PP, Wr.heap.size = PP := ⟨_, rfl⟩
    rw [ePP] at hPB hsz5 ⊢
    have p0 : W5.cell? ⟨PP, 0, none⟩ = some (.int .i64 (PB : Int)) := by rw [cell_of_row _ _ 0 _ 67 (0, 0) hPB]; rfl
    have p1 : W5.cell? ⟨PP, 1, none⟩ = some (.int .i64 (PI : Int)) := by rw [cell_of_row _ _ 1 _ 67 (0, 0) hPB]; rfl
    have hYc5 : W5.heap[Y]? = some (Obj.cells #[.func (.yield lY) #[] #[]] 49) := (j3 Y (by simp)).trans HB3.out.2.2.2.1
    have cY5 : W5.cell? ⟨Y, 0, none⟩ = some (.func (.yield lY) #[] #[]) := by rw [cell_of_row _ _ 0 _ 49 (0, 0) hYc5]; rfl
    have hB1 : W5.heap[B1]? = some (Obj.cells #[.pointer (some ⟨R, 0, none⟩)] 24) := (j3 B1 (List.mem_cons_of_mem _ (HZ.out.1 B1 (by simp)))).trans HB3.out.2.2.1.1
    have cB1 : W5.cell? ⟨B1, 0, none⟩ = some (.pointer (some ⟨R, 0, none⟩)) := by rw [cell_of_row _ _ 0 _ 24 (0, 0) hB1]; rfl
    have hYlt : Y < W5.heap.size := (Array.getElem?_eq_some_iff.1 hYc5).1
    obtain ⟨ds5, hst5, ht5b⟩ := HV.out _ _ W5 hown5 j1
    have hp : p ∈ sg mp 0 0 := HI2.out.2.2.2.1.subset (List.mem_append_right _ (List.mem_singleton.2 rfl))
    have hpr := sg_range hp
    have hmem : (3, p / 8) ∈ ks := Classical.byContradiction fun hn => by
      have := ht5b.out p hn
      rw [this] at hpr
      simp at hpr
    have hown := tb_own ht5b hmem
    have hlast := ht5b.last (p / 8) (p % 8) hmem (Nat.mod_lt _ (by omega))
    rw [show 8 * (p / 8) + p % 8 = p by omega, HI2.out.2.2.2.2.2.1, HI2.out.2.2.2.2.2.2] at hlast
    rw [HI2.out.2.2.2.2.2.1] at hown
    have hPI : PI < 8 := by rw [← HI2.out.2.2.2.2.2.2]; exact Nat.mod_lt _ (by omega)
    have hel := ent_lt hst5 hown hPI
    obtain ⟨x, ex⟩ : ∃ x, ent ds5 PB PI = x := ⟨_, rfl⟩
    rw [ex] at hlast hel
    have hfx : frame x = fr (mp p) := by
      rw [hlast]
      unfold Pg.look
      split
      · rfl
      · rename_i hn; rw [hlast] at hpr; unfold Pg.look at hpr; rw [if_neg hn] at hpr; simp at hpr
    have G := Lib.hid (get_st hst5.drew PB PI hown hPI x (by rw [ex]))
    have FR := Lib.hid (fun (X : World) => frame_any x X hel)
    rw [hfx] at FR
    have hencE : encE mp p = #[.int .i64 (p : Int), .int .i64 ((fr (mp p) : Nat) : Int)] := rfl
    have HC6 := Lib.hid (fun (X : World) (hb : Below W5.drew.heap.size W5.drew X) => show X.cell? ⟨Y, 0, none⟩ = some (.func (.yield lY) #[] #[]) by
      rw [hb.cell (p := ⟨Y, 0, none⟩) hYlt]; exact cY5)
    have HY6 := Lib.hid (fun (X : World) (hb : Below W5.drew.heap.size W5.drew X) => HY.out ((Y :: Tg) ++ TT) pre p X (fun b hb => List.mem_append_left _ (List.mem_cons_of_mem _ (HZ.out.1 b hb))) (fun b hb2 => Nat.lt_of_lt_of_le (hown5 b hb2) hb.size) HI2.out.2.2.2.1 (HJ.out.1.more j1 hown5 (Below.of_drew hb) (fun b hb2 => ⟨.inl hb2, Nat.lt_of_lt_of_le (hown5 b hb2) hb.size⟩)))
    have HS6 := Lib.hid (fun (X : World) (hb : Below W5.drew.heap.size W5.drew X) => show Same ((Y :: Tg) ++ TT) W5 X from fun b hb2 => hb.block b (hown5 b hb2))
    obtain ⟨fv, efv⟩ : ∃ fv : Int, ((fr (mp p) : Nat) : Int) = fv := ⟨_, rfl⟩
    rw [efv] at hencE FR
    have HZ5 := Lib.hid (And.intro j2 (And.intro j3 (And.intro j4 hencE)))
    clear ht5 hsz5 hr5 ht hTT5 j1 j2 j3 j4 hown5 hPB hYc5 hB1 hst5 ht5b hp hpr hmem hown hlast hPI hel ex hfx hencE hYlt efv
    gi_wp2_with fail
    refine region_round (by kernel_rfl) (by kernel_rfl) ?_
    show wpAnyIn Fence.wide _ Try.prog .any _ _ _ _ _ W5.drew
    refine wpAnyIn_take (i := 1) (v := ?vv1) rfl rfl (by kernel_rfl) (by kernel_rfl) (by kernel_rfl) (fun _ _ _ h => h) ⟨Or.inl ⟨by rfl, ?hy1⟩, fun _ => rfl⟩ ?rest1
    case hy1 => (intro wS; go_simp; try with_reducible rfl)
    try simp only [Act.put, List.setIfInBounds_toArray, List.set_cons_zero, List.set_cons_succ]
    refine wpAnyIn_ready (rs := [0, 2, 3]) (by kernel_rfl) (by simp) ?_
    skip
    refine AllReadyIn.cons rfl (fun K hK => ?_) ?_
    · go_simp
      refine hK _ _ ?_; clear hK K
      try simp only [Act.put, List.setIfInBounds_toArray, List.set_cons_zero, List.set_cons_succ]
      refine wpAnyIn_ready (rs := [2, 3]) (by kernel_rfl) (by simp) ?_
      skip
      refine AllReadyIn.cons rfl (fun K hK => ?_) ?_
      · go_simp
        refine hK _ _ ?_; clear hK K
        try simp only [Act.put, List.setIfInBounds_toArray, List.set_cons_zero, List.set_cons_succ]
        refine wpAnyIn_ready (rs := [3]) (by kernel_rfl) (by simp) ?_
        skip
        refine AllReadyIn.cons rfl (fun K hK => ?_) ?_
        · go_simp
          refine hK _ _ ?_; clear hK K
          try simp only [Act.put, List.setIfInBounds_toArray, List.set_cons_zero, List.set_cons_succ]
          refine wpAnyIn_ready (rs := [4]) (by kernel_rfl) (by simp) ?_
          skip
          refine AllReadyIn.cons rfl (fun K hK => ?_) ?_
          · go_simp
            refine ⟨trivial, ?_⟩
            refine (callsIn_wide.2 G.out).mono ?_; rintro e w6 ⟨rfl, _, _, hb6⟩
            have G6 := Lib.hid hb6
            have cY6 := (HC6.out w6 hb6)
            clear hb6
            try gi_wp2_with fail
            try simp only [Act.put, List.setIfInBounds_toArray, List.set_cons_zero, List.set_cons_succ]
            refine wpAnyIn_ready (rs := [5]) (by kernel_rfl) (by simp) ?_
            skip
            refine AllReadyIn.cons rfl (fun K hK => ?_) ?_
            · go_simp
              refine ⟨trivial, ?_⟩
              refine (callsIn_wide.2 (FR.out _)).mono ?_; rintro e w7 ⟨rfl, rfl⟩
              try gi_wp2_with fail
              try simp only [Act.put, List.setIfInBounds_toArray, List.set_cons_zero, List.set_cons_succ]
              obtain ⟨fn, tmps, assign, body, hy, hR⟩ := YieldAt.any (m' := 3) (HY6.out _ G6.out)
              rw [HZ5.out.2.2.2] at hy
              have HS7 := Lib.hid (HS6.out _ G6.out)
              refine wpAnyIn_ready (rs := [6]) (by kernel_rfl) (by simp) ?_
              refine AllReadyIn.cons rfl (fun K hK => ?_) AllReadyIn.nil
              go_simp
              refine hR.mono ?_
              rintro e9 W9 (⟨rfl, hJ9, hS9⟩ | ⟨rfl, hJ9, hS9⟩)
              · have HE := Lib.hid (And.intro hJ9 hS9)
                clear hJ9 hS9
                gi_wp2
                refine wpAnyIn_take (i := 7) (v := ?vv2) rfl rfl (by kernel_rfl) (by kernel_rfl) (by kernel_rfl) (fun _ _ _ h => h) ⟨Or.inl ⟨by rfl, ?hy2⟩, fun _ => rfl⟩ ?rest2
                case hy2 => (intro wS; go_simp; try with_reducible rfl)
                try simp only [Act.put, List.setIfInBounds_toArray, List.set_cons_zero, List.set_cons_succ]
                refine wpAnyIn_done (by kernel_rfl) ?_ _
                gi_wp2
                exact ⟨fun b hb => (HE.out.2 b (List.mem_append_right _ hb)).trans (HS7.out b (List.mem_append_right _ hb)), HE.out.1, HZ5.out.1, HZ5.out.2.1.trans (fun b hb => (HE.out.2 b (List.mem_append_left _ hb)).trans (HS7.out b (List.mem_append_left _ hb))), HZ5.out.2.2.1⟩
              · have HE := Lib.hid (And.intro hJ9 hS9)
                clear hJ9 hS9
                gi_wp2
                refine wpAnyIn_take (i := 7) (v := ?vw2) rfl rfl (by kernel_rfl) (by kernel_rfl) (by kernel_rfl) (fun _ _ _ h => h) ⟨Or.inl ⟨by rfl, ?hz2⟩, fun _ => rfl⟩ ?resu2
                case hz2 => (intro wS; go_simp; try with_reducible rfl)
                try simp only [Act.put, List.setIfInBounds_toArray, List.set_cons_zero, List.set_cons_succ]
                refine wpAnyIn_done (by kernel_rfl) ?_ _
                gi_wp2
                exact ⟨fun b hb => (HE.out.2 b (List.mem_append_right _ hb)).trans (HS7.out b (List.mem_append_right _ hb)), ⟨rfl, _, HI2.out.2.2.2.1, HE.out.1⟩, HZ5.out.1, HZ5.out.2.1.trans (fun b hb => (HE.out.2 b (List.mem_append_left _ hb)).trans (HS7.out b (List.mem_append_left _ hb))), HZ5.out.2.2.1⟩
            exact AllReadyIn.nil
          exact AllReadyIn.nil
        exact AllReadyIn.nil
      refine AllReadyIn.cons rfl (fun K hK => ?_) ?_
      · go_simp
        refine hK _ _ ?_; clear hK K
        try simp only [Act.put, List.setIfInBounds_toArray, List.set_cons_zero, List.set_cons_succ]
        refine wpAnyIn_ready (rs := [2]) (by kernel_rfl) (by simp) ?_
        skip
        refine AllReadyIn.cons rfl (fun K hK => ?_) ?_
        · go_simp
          refine hK _ _ ?_; clear hK K
          try simp only [Act.put, List.setIfInBounds_toArray, List.set_cons_zero, List.set_cons_succ]
          refine wpAnyIn_ready (rs := [4]) (by kernel_rfl) (by simp) ?_
          skip
          refine AllReadyIn.cons rfl (fun K hK => ?_) ?_
          · go_simp
            refine ⟨trivial, ?_⟩
            refine (callsIn_wide.2 G.out).mono ?_; rintro e w6 ⟨rfl, _, _, hb6⟩
            have G6 := Lib.hid hb6
            have cY6 := (HC6.out w6 hb6)
            clear hb6
            try gi_wp2_with fail
            try simp only [Act.put, List.setIfInBounds_toArray, List.set_cons_zero, List.set_cons_succ]
            refine wpAnyIn_ready (rs := [5]) (by kernel_rfl) (by simp) ?_
            skip
            refine AllReadyIn.cons rfl (fun K hK => ?_) ?_
            · go_simp
              refine ⟨trivial, ?_⟩
              refine (callsIn_wide.2 (FR.out _)).mono ?_; rintro e w7 ⟨rfl, rfl⟩
              try gi_wp2_with fail
              try simp only [Act.put, List.setIfInBounds_toArray, List.set_cons_zero, List.set_cons_succ]
              obtain ⟨fn, tmps, assign, body, hy, hR⟩ := YieldAt.any (m' := 3) (HY6.out _ G6.out)
              rw [HZ5.out.2.2.2] at hy
              have HS7 := Lib.hid (HS6.out _ G6.out)
              refine wpAnyIn_ready (rs := [6]) (by kernel_rfl) (by simp) ?_
              refine AllReadyIn.cons rfl (fun K hK => ?_) AllReadyIn.nil
              go_simp
              refine hR.mono ?_
              rintro e9 W9 (⟨rfl, hJ9, hS9⟩ | ⟨rfl, hJ9, hS9⟩)
              · have HE := Lib.hid (And.intro hJ9 hS9)
                clear hJ9 hS9
                gi_wp2
                refine wpAnyIn_take (i := 7) (v := ?vv3) rfl rfl (by kernel_rfl) (by kernel_rfl) (by kernel_rfl) (fun _ _ _ h => h) ⟨Or.inl ⟨by rfl, ?hy3⟩, fun _ => rfl⟩ ?rest3
                case hy3 => (intro wS; go_simp; try with_reducible rfl)
                try simp only [Act.put, List.setIfInBounds_toArray, List.set_cons_zero, List.set_cons_succ]
                refine wpAnyIn_done (by kernel_rfl) ?_ _
                gi_wp2
                exact ⟨fun b hb => (HE.out.2 b (List.mem_append_right _ hb)).trans (HS7.out b (List.mem_append_right _ hb)), HE.out.1, HZ5.out.1, HZ5.out.2.1.trans (fun b hb => (HE.out.2 b (List.mem_append_left _ hb)).trans (HS7.out b (List.mem_append_left _ hb))), HZ5.out.2.2.1⟩
              · have HE := Lib.hid (And.intro hJ9 hS9)
                clear hJ9 hS9
                gi_wp2
                refine wpAnyIn_take (i := 7) (v := ?vw3) rfl rfl (by kernel_rfl) (by kernel_rfl) (by kernel_rfl) (fun _ _ _ h => h) ⟨Or.inl ⟨by rfl, ?hz3⟩, fun _ => rfl⟩ ?resu3
                case hz3 => (intro wS; go_simp; try with_reducible rfl)
                try simp only [Act.put, List.setIfInBounds_toArray, List.set_cons_zero, List.set_cons_succ]
                refine wpAnyIn_done (by kernel_rfl) ?_ _
                gi_wp2
                exact ⟨fun b hb => (HE.out.2 b (List.mem_append_right _ hb)).trans (HS7.out b (List.mem_append_right _ hb)), ⟨rfl, _, HI2.out.2.2.2.1, HE.out.1⟩, HZ5.out.1, HZ5.out.2.1.trans (fun b hb => (HE.out.2 b (List.mem_append_left _ hb)).trans (HS7.out b (List.mem_append_left _ hb))), HZ5.out.2.2.1⟩
            exact AllReadyIn.nil
          exact AllReadyIn.nil
        exact AllReadyIn.nil
      exact AllReadyIn.nil
    refine AllReadyIn.cons rfl (fun K hK => ?_) ?_
    · go_simp
      refine hK _ _ ?_; clear hK K
      try simp only [Act.put, List.setIfInBounds_toArray, List.set_cons_zero, List.set_cons_succ]
      refine wpAnyIn_ready (rs := [0, 3]) (by kernel_rfl) (by simp) ?_
      skip
      refine AllReadyIn.cons rfl (fun K hK => ?_) ?_
      · go_simp
        refine hK _ _ ?_; clear hK K
        try simp only [Act.put, List.setIfInBounds_toArray, List.set_cons_zero, List.set_cons_succ]
        refine wpAnyIn_ready (rs := [3]) (by kernel_rfl) (by simp) ?_
        skip
        refine AllReadyIn.cons rfl (fun K hK => ?_) ?_
        · go_simp
          refine hK _ _ ?_; clear hK K
          try simp only [Act.put, List.setIfInBounds_toArray, List.set_cons_zero, List.set_cons_succ]
          refine wpAnyIn_ready (rs := [4]) (by kernel_rfl) (by simp) ?_
          skip
          refine AllReadyIn.cons rfl (fun K hK => ?_) ?_
          · go_simp
            refine ⟨trivial, ?_⟩
            refine (callsIn_wide.2 G.out).mono ?_; rintro e w6 ⟨rfl, _, _, hb6⟩
            have G6 := Lib.hid hb6
            have cY6 := (HC6.out w6 hb6)
            clear hb6
            try gi_wp2_with fail
            try simp only [Act.put, List.setIfInBounds_toArray, List.set_cons_zero, List.set_cons_succ]
            refine wpAnyIn_ready (rs := [5]) (by kernel_rfl) (by simp) ?_
            skip
            refine AllReadyIn.cons rfl (fun K hK => ?_) ?_
            · go_simp
              refine ⟨trivial, ?_⟩
              refine (callsIn_wide.2 (FR.out _)).mono ?_; rintro e w7 ⟨rfl, rfl⟩
              try gi_wp2_with fail
              try simp only [Act.put, List.setIfInBounds_toArray, List.set_cons_zero, List.set_cons_succ]
              obtain ⟨fn, tmps, assign, body, hy, hR⟩ := YieldAt.any (m' := 3) (HY6.out _ G6.out)
              rw [HZ5.out.2.2.2] at hy
              have HS7 := Lib.hid (HS6.out _ G6.out)
              refine wpAnyIn_ready (rs := [6]) (by kernel_rfl) (by simp) ?_
              refine AllReadyIn.cons rfl (fun K hK => ?_) AllReadyIn.nil
              go_simp
              refine hR.mono ?_
              rintro e9 W9 (⟨rfl, hJ9, hS9⟩ | ⟨rfl, hJ9, hS9⟩)
              · have HE := Lib.hid (And.intro hJ9 hS9)
                clear hJ9 hS9
                gi_wp2
                refine wpAnyIn_take (i := 7) (v := ?vv4) rfl rfl (by kernel_rfl) (by kernel_rfl) (by kernel_rfl) (fun _ _ _ h => h) ⟨Or.inl ⟨by rfl, ?hy4⟩, fun _ => rfl⟩ ?rest4
                case hy4 => (intro wS; go_simp; try with_reducible rfl)
                try simp only [Act.put, List.setIfInBounds_toArray, List.set_cons_zero, List.set_cons_succ]
                refine wpAnyIn_done (by kernel_rfl) ?_ _
                gi_wp2
                exact ⟨fun b hb => (HE.out.2 b (List.mem_append_right _ hb)).trans (HS7.out b (List.mem_append_right _ hb)), HE.out.1, HZ5.out.1, HZ5.out.2.1.trans (fun b hb => (HE.out.2 b (List.mem_append_left _ hb)).trans (HS7.out b (List.mem_append_left _ hb))), HZ5.out.2.2.1⟩
              · have HE := Lib.hid (And.intro hJ9 hS9)
                clear hJ9 hS9
                gi_wp2
                refine wpAnyIn_take (i := 7) (v := ?vw4) rfl rfl (by kernel_rfl) (by kernel_rfl) (by kernel_rfl) (fun _ _ _ h => h) ⟨Or.inl ⟨by rfl, ?hz4⟩, fun _ => rfl⟩ ?resu4
                case hz4 => (intro wS; go_simp; try with_reducible rfl)
                try simp only [Act.put, List.setIfInBounds_toArray, List.set_cons_zero, List.set_cons_succ]
                refine wpAnyIn_done (by kernel_rfl) ?_ _
                gi_wp2
                exact ⟨fun b hb => (HE.out.2 b (List.mem_append_right _ hb)).trans (HS7.out b (List.mem_append_right _ hb)), ⟨rfl, _, HI2.out.2.2.2.1, HE.out.1⟩, HZ5.out.1, HZ5.out.2.1.trans (fun b hb => (HE.out.2 b (List.mem_append_left _ hb)).trans (HS7.out b (List.mem_append_left _ hb))), HZ5.out.2.2.1⟩
            exact AllReadyIn.nil
          exact AllReadyIn.nil
        exact AllReadyIn.nil
      refine AllReadyIn.cons rfl (fun K hK => ?_) ?_
      · go_simp
        refine hK _ _ ?_; clear hK K
        try simp only [Act.put, List.setIfInBounds_toArray, List.set_cons_zero, List.set_cons_succ]
        refine wpAnyIn_ready (rs := [0, 4]) (by kernel_rfl) (by simp) ?_
        skip
        refine AllReadyIn.cons rfl (fun K hK => ?_) ?_
        · go_simp
          refine hK _ _ ?_; clear hK K
          try simp only [Act.put, List.setIfInBounds_toArray, List.set_cons_zero, List.set_cons_succ]
          refine wpAnyIn_ready (rs := [4]) (by kernel_rfl) (by simp) ?_
          skip
          refine AllReadyIn.cons rfl (fun K hK => ?_) ?_
          · go_simp
            refine ⟨trivial, ?_⟩
            refine (callsIn_wide.2 G.out).mono ?_; rintro e w6 ⟨rfl, _, _, hb6⟩
            have G6 := Lib.hid hb6
            have cY6 := (HC6.out w6 hb6)
            clear hb6
            try gi_wp2_with fail
            try simp only [Act.put, List.setIfInBounds_toArray, List.set_cons_zero, List.set_cons_succ]
            refine wpAnyIn_ready (rs := [5]) (by kernel_rfl) (by simp) ?_
            skip
            refine AllReadyIn.cons rfl (fun K hK => ?_) ?_
            · go_simp
              refine ⟨trivial, ?_⟩
              refine (callsIn_wide.2 (FR.out _)).mono ?_; rintro e w7 ⟨rfl, rfl⟩
              try gi_wp2_with fail
              try simp only [Act.put, List.setIfInBounds_toArray, List.set_cons_zero, List.set_cons_succ]
              obtain ⟨fn, tmps, assign, body, hy, hR⟩ := YieldAt.any (m' := 3) (HY6.out _ G6.out)
              rw [HZ5.out.2.2.2] at hy
              have HS7 := Lib.hid (HS6.out _ G6.out)
              refine wpAnyIn_ready (rs := [6]) (by kernel_rfl) (by simp) ?_
              refine AllReadyIn.cons rfl (fun K hK => ?_) AllReadyIn.nil
              go_simp
              refine hR.mono ?_
              rintro e9 W9 (⟨rfl, hJ9, hS9⟩ | ⟨rfl, hJ9, hS9⟩)
              · have HE := Lib.hid (And.intro hJ9 hS9)
                clear hJ9 hS9
                gi_wp2
                refine wpAnyIn_take (i := 7) (v := ?vv5) rfl rfl (by kernel_rfl) (by kernel_rfl) (by kernel_rfl) (fun _ _ _ h => h) ⟨Or.inl ⟨by rfl, ?hy5⟩, fun _ => rfl⟩ ?rest5
                case hy5 => (intro wS; go_simp; try with_reducible rfl)
                try simp only [Act.put, List.setIfInBounds_toArray, List.set_cons_zero, List.set_cons_succ]
                refine wpAnyIn_done (by kernel_rfl) ?_ _
                gi_wp2
                exact ⟨fun b hb => (HE.out.2 b (List.mem_append_right _ hb)).trans (HS7.out b (List.mem_append_right _ hb)), HE.out.1, HZ5.out.1, HZ5.out.2.1.trans (fun b hb => (HE.out.2 b (List.mem_append_left _ hb)).trans (HS7.out b (List.mem_append_left _ hb))), HZ5.out.2.2.1⟩
              · have HE := Lib.hid (And.intro hJ9 hS9)
                clear hJ9 hS9
                gi_wp2
                refine wpAnyIn_take (i := 7) (v := ?vw5) rfl rfl (by kernel_rfl) (by kernel_rfl) (by kernel_rfl) (fun _ _ _ h => h) ⟨Or.inl ⟨by rfl, ?hz5⟩, fun _ => rfl⟩ ?resu5
                case hz5 => (intro wS; go_simp; try with_reducible rfl)
                try simp only [Act.put, List.setIfInBounds_toArray, List.set_cons_zero, List.set_cons_succ]
                refine wpAnyIn_done (by kernel_rfl) ?_ _
                gi_wp2
                exact ⟨fun b hb => (HE.out.2 b (List.mem_append_right _ hb)).trans (HS7.out b (List.mem_append_right _ hb)), ⟨rfl, _, HI2.out.2.2.2.1, HE.out.1⟩, HZ5.out.1, HZ5.out.2.1.trans (fun b hb => (HE.out.2 b (List.mem_append_left _ hb)).trans (HS7.out b (List.mem_append_left _ hb))), HZ5.out.2.2.1⟩
            exact AllReadyIn.nil
          exact AllReadyIn.nil
        refine AllReadyIn.cons rfl (fun K hK => ?_) ?_
        · go_simp
          refine ⟨trivial, ?_⟩
          refine (callsIn_wide.2 G.out).mono ?_; rintro e w6 ⟨rfl, _, _, hb6⟩
          have G6 := Lib.hid hb6
          have cY6 := (HC6.out w6 hb6)
          clear hb6
          try gi_wp2_with fail
          try simp only [Act.put, List.setIfInBounds_toArray, List.set_cons_zero, List.set_cons_succ]
          refine wpAnyIn_ready (rs := [0, 5]) (by kernel_rfl) (by simp) ?_
          skip
          refine AllReadyIn.cons rfl (fun K hK => ?_) ?_
          · go_simp
            refine hK _ _ ?_; clear hK K
            try simp only [Act.put, List.setIfInBounds_toArray, List.set_cons_zero, List.set_cons_succ]
            refine wpAnyIn_ready (rs := [5]) (by kernel_rfl) (by simp) ?_
            skip
            refine AllReadyIn.cons rfl (fun K hK => ?_) ?_
            · go_simp
              refine ⟨trivial, ?_⟩
              refine (callsIn_wide.2 (FR.out _)).mono ?_; rintro e w7 ⟨rfl, rfl⟩
              try gi_wp2_with fail
              try simp only [Act.put, List.setIfInBounds_toArray, List.set_cons_zero, List.set_cons_succ]
              obtain ⟨fn, tmps, assign, body, hy, hR⟩ := YieldAt.any (m' := 3) (HY6.out _ G6.out)
              rw [HZ5.out.2.2.2] at hy
              have HS7 := Lib.hid (HS6.out _ G6.out)
              refine wpAnyIn_ready (rs := [6]) (by kernel_rfl) (by simp) ?_
              refine AllReadyIn.cons rfl (fun K hK => ?_) AllReadyIn.nil
              go_simp
              refine hR.mono ?_
              rintro e9 W9 (⟨rfl, hJ9, hS9⟩ | ⟨rfl, hJ9, hS9⟩)
              · have HE := Lib.hid (And.intro hJ9 hS9)
                clear hJ9 hS9
                gi_wp2
                refine wpAnyIn_take (i := 7) (v := ?vv6) rfl rfl (by kernel_rfl) (by kernel_rfl) (by kernel_rfl) (fun _ _ _ h => h) ⟨Or.inl ⟨by rfl, ?hy6⟩, fun _ => rfl⟩ ?rest6
                case hy6 => (intro wS; go_simp; try with_reducible rfl)
                try simp only [Act.put, List.setIfInBounds_toArray, List.set_cons_zero, List.set_cons_succ]
                refine wpAnyIn_done (by kernel_rfl) ?_ _
                gi_wp2
                exact ⟨fun b hb => (HE.out.2 b (List.mem_append_right _ hb)).trans (HS7.out b (List.mem_append_right _ hb)), HE.out.1, HZ5.out.1, HZ5.out.2.1.trans (fun b hb => (HE.out.2 b (List.mem_append_left _ hb)).trans (HS7.out b (List.mem_append_left _ hb))), HZ5.out.2.2.1⟩
              · have HE := Lib.hid (And.intro hJ9 hS9)
                clear hJ9 hS9
                gi_wp2
                refine wpAnyIn_take (i := 7) (v := ?vw6) rfl rfl (by kernel_rfl) (by kernel_rfl) (by kernel_rfl) (fun _ _ _ h => h) ⟨Or.inl ⟨by rfl, ?hz6⟩, fun _ => rfl⟩ ?resu6
                case hz6 => (intro wS; go_simp; try with_reducible rfl)
                try simp only [Act.put, List.setIfInBounds_toArray, List.set_cons_zero, List.set_cons_succ]
                refine wpAnyIn_done (by kernel_rfl) ?_ _
                gi_wp2
                exact ⟨fun b hb => (HE.out.2 b (List.mem_append_right _ hb)).trans (HS7.out b (List.mem_append_right _ hb)), ⟨rfl, _, HI2.out.2.2.2.1, HE.out.1⟩, HZ5.out.1, HZ5.out.2.1.trans (fun b hb => (HE.out.2 b (List.mem_append_left _ hb)).trans (HS7.out b (List.mem_append_left _ hb))), HZ5.out.2.2.1⟩
            exact AllReadyIn.nil
          refine AllReadyIn.cons rfl (fun K hK => ?_) ?_
          · go_simp
            refine ⟨trivial, ?_⟩
            refine (callsIn_wide.2 (FR.out _)).mono ?_; rintro e w7 ⟨rfl, rfl⟩
            try gi_wp2_with fail
            try simp only [Act.put, List.setIfInBounds_toArray, List.set_cons_zero, List.set_cons_succ]
            refine wpAnyIn_ready (rs := [0]) (by kernel_rfl) (by simp) ?_
            skip
            refine AllReadyIn.cons rfl (fun K hK => ?_) ?_
            · go_simp
              refine hK _ _ ?_; clear hK K
              try simp only [Act.put, List.setIfInBounds_toArray, List.set_cons_zero, List.set_cons_succ]
              obtain ⟨fn, tmps, assign, body, hy, hR⟩ := YieldAt.any (m' := 3) (HY6.out _ G6.out)
              rw [HZ5.out.2.2.2] at hy
              have HS7 := Lib.hid (HS6.out _ G6.out)
              refine wpAnyIn_ready (rs := [6]) (by kernel_rfl) (by simp) ?_
              refine AllReadyIn.cons rfl (fun K hK => ?_) AllReadyIn.nil
              go_simp
              refine hR.mono ?_
              rintro e9 W9 (⟨rfl, hJ9, hS9⟩ | ⟨rfl, hJ9, hS9⟩)
              · have HE := Lib.hid (And.intro hJ9 hS9)
                clear hJ9 hS9
                gi_wp2
                refine wpAnyIn_take (i := 7) (v := ?vv7) rfl rfl (by kernel_rfl) (by kernel_rfl) (by kernel_rfl) (fun _ _ _ h => h) ⟨Or.inl ⟨by rfl, ?hy7⟩, fun _ => rfl⟩ ?rest7
                case hy7 => (intro wS; go_simp; try with_reducible rfl)
                try simp only [Act.put, List.setIfInBounds_toArray, List.set_cons_zero, List.set_cons_succ]
                refine wpAnyIn_done (by kernel_rfl) ?_ _
                gi_wp2
                exact ⟨fun b hb => (HE.out.2 b (List.mem_append_right _ hb)).trans (HS7.out b (List.mem_append_right _ hb)), HE.out.1, HZ5.out.1, HZ5.out.2.1.trans (fun b hb => (HE.out.2 b (List.mem_append_left _ hb)).trans (HS7.out b (List.mem_append_left _ hb))), HZ5.out.2.2.1⟩
              · have HE := Lib.hid (And.intro hJ9 hS9)
                clear hJ9 hS9
                gi_wp2
                refine wpAnyIn_take (i := 7) (v := ?vw7) rfl rfl (by kernel_rfl) (by kernel_rfl) (by kernel_rfl) (fun _ _ _ h => h) ⟨Or.inl ⟨by rfl, ?hz7⟩, fun _ => rfl⟩ ?resu7
                case hz7 => (intro wS; go_simp; try with_reducible rfl)
                try simp only [Act.put, List.setIfInBounds_toArray, List.set_cons_zero, List.set_cons_succ]
                refine wpAnyIn_done (by kernel_rfl) ?_ _
                gi_wp2
                exact ⟨fun b hb => (HE.out.2 b (List.mem_append_right _ hb)).trans (HS7.out b (List.mem_append_right _ hb)), ⟨rfl, _, HI2.out.2.2.2.1, HE.out.1⟩, HZ5.out.1, HZ5.out.2.1.trans (fun b hb => (HE.out.2 b (List.mem_append_left _ hb)).trans (HS7.out b (List.mem_append_left _ hb))), HZ5.out.2.2.1⟩
            exact AllReadyIn.nil
          exact AllReadyIn.nil
        exact AllReadyIn.nil
      exact AllReadyIn.nil
    refine AllReadyIn.cons rfl (fun K hK => ?_) ?_
    · go_simp
      refine hK _ _ ?_; clear hK K
      try simp only [Act.put, List.setIfInBounds_toArray, List.set_cons_zero, List.set_cons_succ]
      refine wpAnyIn_ready (rs := [0, 2]) (by kernel_rfl) (by simp) ?_
      skip
      refine AllReadyIn.cons rfl (fun K hK => ?_) ?_
      · go_simp
        refine hK _ _ ?_; clear hK K
        try simp only [Act.put, List.setIfInBounds_toArray, List.set_cons_zero, List.set_cons_succ]
        refine wpAnyIn_ready (rs := [2]) (by kernel_rfl) (by simp) ?_
        skip
        refine AllReadyIn.cons rfl (fun K hK => ?_) ?_
        · go_simp
          refine hK _ _ ?_; clear hK K
          try simp only [Act.put, List.setIfInBounds_toArray, List.set_cons_zero, List.set_cons_succ]
          refine wpAnyIn_ready (rs := [4]) (by kernel_rfl) (by simp) ?_
          skip
          refine AllReadyIn.cons rfl (fun K hK => ?_) ?_
          · go_simp
            refine ⟨trivial, ?_⟩
            refine (callsIn_wide.2 G.out).mono ?_; rintro e w6 ⟨rfl, _, _, hb6⟩
            have G6 := Lib.hid hb6
            have cY6 := (HC6.out w6 hb6)
            clear hb6
            try gi_wp2_with fail
            try simp only [Act.put, List.setIfInBounds_toArray, List.set_cons_zero, List.set_cons_succ]
            refine wpAnyIn_ready (rs := [5]) (by kernel_rfl) (by simp) ?_
            skip
            refine AllReadyIn.cons rfl (fun K hK => ?_) ?_
            · go_simp
              refine ⟨trivial, ?_⟩
              refine (callsIn_wide.2 (FR.out _)).mono ?_; rintro e w7 ⟨rfl, rfl⟩
              try gi_wp2_with fail
              try simp only [Act.put, List.setIfInBounds_toArray, List.set_cons_zero, List.set_cons_succ]
              obtain ⟨fn, tmps, assign, body, hy, hR⟩ := YieldAt.any (m' := 3) (HY6.out _ G6.out)
              rw [HZ5.out.2.2.2] at hy
              have HS7 := Lib.hid (HS6.out _ G6.out)
              refine wpAnyIn_ready (rs := [6]) (by kernel_rfl) (by simp) ?_
              refine AllReadyIn.cons rfl (fun K hK => ?_) AllReadyIn.nil
              go_simp
              refine hR.mono ?_
              rintro e9 W9 (⟨rfl, hJ9, hS9⟩ | ⟨rfl, hJ9, hS9⟩)
              · have HE := Lib.hid (And.intro hJ9 hS9)
                clear hJ9 hS9
                gi_wp2
                refine wpAnyIn_take (i := 7) (v := ?vv8) rfl rfl (by kernel_rfl) (by kernel_rfl) (by kernel_rfl) (fun _ _ _ h => h) ⟨Or.inl ⟨by rfl, ?hy8⟩, fun _ => rfl⟩ ?rest8
                case hy8 => (intro wS; go_simp; try with_reducible rfl)
                try simp only [Act.put, List.setIfInBounds_toArray, List.set_cons_zero, List.set_cons_succ]
                refine wpAnyIn_done (by kernel_rfl) ?_ _
                gi_wp2
                exact ⟨fun b hb => (HE.out.2 b (List.mem_append_right _ hb)).trans (HS7.out b (List.mem_append_right _ hb)), HE.out.1, HZ5.out.1, HZ5.out.2.1.trans (fun b hb => (HE.out.2 b (List.mem_append_left _ hb)).trans (HS7.out b (List.mem_append_left _ hb))), HZ5.out.2.2.1⟩
              · have HE := Lib.hid (And.intro hJ9 hS9)
                clear hJ9 hS9
                gi_wp2
                refine wpAnyIn_take (i := 7) (v := ?vw8) rfl rfl (by kernel_rfl) (by kernel_rfl) (by kernel_rfl) (fun _ _ _ h => h) ⟨Or.inl ⟨by rfl, ?hz8⟩, fun _ => rfl⟩ ?resu8
                case hz8 => (intro wS; go_simp; try with_reducible rfl)
                try simp only [Act.put, List.setIfInBounds_toArray, List.set_cons_zero, List.set_cons_succ]
                refine wpAnyIn_done (by kernel_rfl) ?_ _
                gi_wp2
                exact ⟨fun b hb => (HE.out.2 b (List.mem_append_right _ hb)).trans (HS7.out b (List.mem_append_right _ hb)), ⟨rfl, _, HI2.out.2.2.2.1, HE.out.1⟩, HZ5.out.1, HZ5.out.2.1.trans (fun b hb => (HE.out.2 b (List.mem_append_left _ hb)).trans (HS7.out b (List.mem_append_left _ hb))), HZ5.out.2.2.1⟩
            exact AllReadyIn.nil
          exact AllReadyIn.nil
        exact AllReadyIn.nil
      refine AllReadyIn.cons rfl (fun K hK => ?_) ?_
      · go_simp
        refine hK _ _ ?_; clear hK K
        try simp only [Act.put, List.setIfInBounds_toArray, List.set_cons_zero, List.set_cons_succ]
        refine wpAnyIn_ready (rs := [0, 4]) (by kernel_rfl) (by simp) ?_
        skip
        refine AllReadyIn.cons rfl (fun K hK => ?_) ?_
        · go_simp
          refine hK _ _ ?_; clear hK K
          try simp only [Act.put, List.setIfInBounds_toArray, List.set_cons_zero, List.set_cons_succ]
          refine wpAnyIn_ready (rs := [4]) (by kernel_rfl) (by simp) ?_
          skip
          refine AllReadyIn.cons rfl (fun K hK => ?_) ?_
          · go_simp
            refine ⟨trivial, ?_⟩
            refine (callsIn_wide.2 G.out).mono ?_; rintro e w6 ⟨rfl, _, _, hb6⟩
            have G6 := Lib.hid hb6
            have cY6 := (HC6.out w6 hb6)
            clear hb6
            try gi_wp2_with fail
            try simp only [Act.put, List.setIfInBounds_toArray, List.set_cons_zero, List.set_cons_succ]
            refine wpAnyIn_ready (rs := [5]) (by kernel_rfl) (by simp) ?_
            skip
            refine AllReadyIn.cons rfl (fun K hK => ?_) ?_
            · go_simp
              refine ⟨trivial, ?_⟩
              refine (callsIn_wide.2 (FR.out _)).mono ?_; rintro e w7 ⟨rfl, rfl⟩
              try gi_wp2_with fail
              try simp only [Act.put, List.setIfInBounds_toArray, List.set_cons_zero, List.set_cons_succ]
              obtain ⟨fn, tmps, assign, body, hy, hR⟩ := YieldAt.any (m' := 3) (HY6.out _ G6.out)
              rw [HZ5.out.2.2.2] at hy
              have HS7 := Lib.hid (HS6.out _ G6.out)
              refine wpAnyIn_ready (rs := [6]) (by kernel_rfl) (by simp) ?_
              refine AllReadyIn.cons rfl (fun K hK => ?_) AllReadyIn.nil
              go_simp
              refine hR.mono ?_
              rintro e9 W9 (⟨rfl, hJ9, hS9⟩ | ⟨rfl, hJ9, hS9⟩)
              · have HE := Lib.hid (And.intro hJ9 hS9)
                clear hJ9 hS9
                gi_wp2
                refine wpAnyIn_take (i := 7) (v := ?vv9) rfl rfl (by kernel_rfl) (by kernel_rfl) (by kernel_rfl) (fun _ _ _ h => h) ⟨Or.inl ⟨by rfl, ?hy9⟩, fun _ => rfl⟩ ?rest9
                case hy9 => (intro wS; go_simp; try with_reducible rfl)
                try simp only [Act.put, List.setIfInBounds_toArray, List.set_cons_zero, List.set_cons_succ]
                refine wpAnyIn_done (by kernel_rfl) ?_ _
                gi_wp2
                exact ⟨fun b hb => (HE.out.2 b (List.mem_append_right _ hb)).trans (HS7.out b (List.mem_append_right _ hb)), HE.out.1, HZ5.out.1, HZ5.out.2.1.trans (fun b hb => (HE.out.2 b (List.mem_append_left _ hb)).trans (HS7.out b (List.mem_append_left _ hb))), HZ5.out.2.2.1⟩
              · have HE := Lib.hid (And.intro hJ9 hS9)
                clear hJ9 hS9
                gi_wp2
                refine wpAnyIn_take (i := 7) (v := ?vw9) rfl rfl (by kernel_rfl) (by kernel_rfl) (by kernel_rfl) (fun _ _ _ h => h) ⟨Or.inl ⟨by rfl, ?hz9⟩, fun _ => rfl⟩ ?resu9
                case hz9 => (intro wS; go_simp; try with_reducible rfl)
                try simp only [Act.put, List.setIfInBounds_toArray, List.set_cons_zero, List.set_cons_succ]
                refine wpAnyIn_done (by kernel_rfl) ?_ _
                gi_wp2
                exact ⟨fun b hb => (HE.out.2 b (List.mem_append_right _ hb)).trans (HS7.out b (List.mem_append_right _ hb)), ⟨rfl, _, HI2.out.2.2.2.1, HE.out.1⟩, HZ5.out.1, HZ5.out.2.1.trans (fun b hb => (HE.out.2 b (List.mem_append_left _ hb)).trans (HS7.out b (List.mem_append_left _ hb))), HZ5.out.2.2.1⟩
            exact AllReadyIn.nil
          exact AllReadyIn.nil
        refine AllReadyIn.cons rfl (fun K hK => ?_) ?_
        · go_simp
          refine ⟨trivial, ?_⟩
          refine (callsIn_wide.2 G.out).mono ?_; rintro e w6 ⟨rfl, _, _, hb6⟩
          have G6 := Lib.hid hb6
          have cY6 := (HC6.out w6 hb6)
          clear hb6
          try gi_wp2_with fail
          try simp only [Act.put, List.setIfInBounds_toArray, List.set_cons_zero, List.set_cons_succ]
          refine wpAnyIn_ready (rs := [0, 5]) (by kernel_rfl) (by simp) ?_
          skip
          refine AllReadyIn.cons rfl (fun K hK => ?_) ?_
          · go_simp
            refine hK _ _ ?_; clear hK K
            try simp only [Act.put, List.setIfInBounds_toArray, List.set_cons_zero, List.set_cons_succ]
            refine wpAnyIn_ready (rs := [5]) (by kernel_rfl) (by simp) ?_
            skip
            refine AllReadyIn.cons rfl (fun K hK => ?_) ?_
            · go_simp
              refine ⟨trivial, ?_⟩
              refine (callsIn_wide.2 (FR.out _)).mono ?_; rintro e w7 ⟨rfl, rfl⟩
              try gi_wp2_with fail
              try simp only [Act.put, List.setIfInBounds_toArray, List.set_cons_zero, List.set_cons_succ]
              obtain ⟨fn, tmps, assign, body, hy, hR⟩ := YieldAt.any (m' := 3) (HY6.out _ G6.out)
              rw [HZ5.out.2.2.2] at hy
              have HS7 := Lib.hid (HS6.out _ G6.out)
              refine wpAnyIn_ready (rs := [6]) (by kernel_rfl) (by simp) ?_
              refine AllReadyIn.cons rfl (fun K hK => ?_) AllReadyIn.nil
              go_simp
              refine hR.mono ?_
              rintro e9 W9 (⟨rfl, hJ9, hS9⟩ | ⟨rfl, hJ9, hS9⟩)
              · have HE := Lib.hid (And.intro hJ9 hS9)
                clear hJ9 hS9
                gi_wp2
                refine wpAnyIn_take (i := 7) (v := ?vv10) rfl rfl (by kernel_rfl) (by kernel_rfl) (by kernel_rfl) (fun _ _ _ h => h) ⟨Or.inl ⟨by rfl, ?hy10⟩, fun _ => rfl⟩ ?rest10
                case hy10 => (intro wS; go_simp; try with_reducible rfl)
                try simp only [Act.put, List.setIfInBounds_toArray, List.set_cons_zero, List.set_cons_succ]
                refine wpAnyIn_done (by kernel_rfl) ?_ _
                gi_wp2
                exact ⟨fun b hb => (HE.out.2 b (List.mem_append_right _ hb)).trans (HS7.out b (List.mem_append_right _ hb)), HE.out.1, HZ5.out.1, HZ5.out.2.1.trans (fun b hb => (HE.out.2 b (List.mem_append_left _ hb)).trans (HS7.out b (List.mem_append_left _ hb))), HZ5.out.2.2.1⟩
              · have HE := Lib.hid (And.intro hJ9 hS9)
                clear hJ9 hS9
                gi_wp2
                refine wpAnyIn_take (i := 7) (v := ?vw10) rfl rfl (by kernel_rfl) (by kernel_rfl) (by kernel_rfl) (fun _ _ _ h => h) ⟨Or.inl ⟨by rfl, ?hz10⟩, fun _ => rfl⟩ ?resu10
                case hz10 => (intro wS; go_simp; try with_reducible rfl)
                try simp only [Act.put, List.setIfInBounds_toArray, List.set_cons_zero, List.set_cons_succ]
                refine wpAnyIn_done (by kernel_rfl) ?_ _
                gi_wp2
                exact ⟨fun b hb => (HE.out.2 b (List.mem_append_right _ hb)).trans (HS7.out b (List.mem_append_right _ hb)), ⟨rfl, _, HI2.out.2.2.2.1, HE.out.1⟩, HZ5.out.1, HZ5.out.2.1.trans (fun b hb => (HE.out.2 b (List.mem_append_left _ hb)).trans (HS7.out b (List.mem_append_left _ hb))), HZ5.out.2.2.1⟩
            exact AllReadyIn.nil
          refine AllReadyIn.cons rfl (fun K hK => ?_) ?_
          · go_simp
            refine ⟨trivial, ?_⟩
            refine (callsIn_wide.2 (FR.out _)).mono ?_; rintro e w7 ⟨rfl, rfl⟩
            try gi_wp2_with fail
            try simp only [Act.put, List.setIfInBounds_toArray, List.set_cons_zero, List.set_cons_succ]
            refine wpAnyIn_ready (rs := [0]) (by kernel_rfl) (by simp) ?_
            skip
            refine AllReadyIn.cons rfl (fun K hK => ?_) ?_
            · go_simp
              refine hK _ _ ?_; clear hK K
              try simp only [Act.put, List.setIfInBounds_toArray, List.set_cons_zero, List.set_cons_succ]
              obtain ⟨fn, tmps, assign, body, hy, hR⟩ := YieldAt.any (m' := 3) (HY6.out _ G6.out)
              rw [HZ5.out.2.2.2] at hy
              have HS7 := Lib.hid (HS6.out _ G6.out)
              refine wpAnyIn_ready (rs := [6]) (by kernel_rfl) (by simp) ?_
              refine AllReadyIn.cons rfl (fun K hK => ?_) AllReadyIn.nil
              go_simp
              refine hR.mono ?_
              rintro e9 W9 (⟨rfl, hJ9, hS9⟩ | ⟨rfl, hJ9, hS9⟩)
              · have HE := Lib.hid (And.intro hJ9 hS9)
                clear hJ9 hS9
                gi_wp2
                refine wpAnyIn_take (i := 7) (v := ?vv11) rfl rfl (by kernel_rfl) (by kernel_rfl) (by kernel_rfl) (fun _ _ _ h => h) ⟨Or.inl ⟨by rfl, ?hy11⟩, fun _ => rfl⟩ ?rest11
                case hy11 => (intro wS; go_simp; try with_reducible rfl)
                try simp only [Act.put, List.setIfInBounds_toArray, List.set_cons_zero, List.set_cons_succ]
                refine wpAnyIn_done (by kernel_rfl) ?_ _
                gi_wp2
                exact ⟨fun b hb => (HE.out.2 b (List.mem_append_right _ hb)).trans (HS7.out b (List.mem_append_right _ hb)), HE.out.1, HZ5.out.1, HZ5.out.2.1.trans (fun b hb => (HE.out.2 b (List.mem_append_left _ hb)).trans (HS7.out b (List.mem_append_left _ hb))), HZ5.out.2.2.1⟩
              · have HE := Lib.hid (And.intro hJ9 hS9)
                clear hJ9 hS9
                gi_wp2
                refine wpAnyIn_take (i := 7) (v := ?vw11) rfl rfl (by kernel_rfl) (by kernel_rfl) (by kernel_rfl) (fun _ _ _ h => h) ⟨Or.inl ⟨by rfl, ?hz11⟩, fun _ => rfl⟩ ?resu11
                case hz11 => (intro wS; go_simp; try with_reducible rfl)
                try simp only [Act.put, List.setIfInBounds_toArray, List.set_cons_zero, List.set_cons_succ]
                refine wpAnyIn_done (by kernel_rfl) ?_ _
                gi_wp2
                exact ⟨fun b hb => (HE.out.2 b (List.mem_append_right _ hb)).trans (HS7.out b (List.mem_append_right _ hb)), ⟨rfl, _, HI2.out.2.2.2.1, HE.out.1⟩, HZ5.out.1, HZ5.out.2.1.trans (fun b hb => (HE.out.2 b (List.mem_append_left _ hb)).trans (HS7.out b (List.mem_append_left _ hb))), HZ5.out.2.2.1⟩
            exact AllReadyIn.nil
          exact AllReadyIn.nil
        exact AllReadyIn.nil
      exact AllReadyIn.nil
    exact AllReadyIn.nil
end Go.Proofs.Ytliljicmkgbfpaa
