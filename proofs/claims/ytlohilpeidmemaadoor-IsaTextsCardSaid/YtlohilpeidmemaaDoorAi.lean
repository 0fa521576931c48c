import Derived.Test.YtlohilpeidmemaaDoorAg
import Derived.Test.YtlohilpeidmemaaDoorAh
import Derived.Deep.CutBlock
import Derived.Deep.DeepCutAuto
import Derived.WalkMore
namespace Go.Proofs.YtlohilpeidmemaaDoor
open Go.RowKit
set_option linter.unusedVariables false
set_option linter.unusedSimpArgs false

/-- What the package variables hold that Parse reads. -/
def LaidP (W : World) : Prop := Laid W ∧ (∃ m, W.cell? ⟨1, 0, none⟩ = some (.int .i64 m)) ∧ (∃ tp p, W.var? Tryd.prog "strconv.ErrSyntax" = some #[.iface tp p]) ∧ (∃ tp p, W.var? Tryd.prog "strconv.ErrRange" = some #[.iface tp p])
theorem synG : Tryd.prog.globalNamed "strconv.ErrSyntax" = some 2 := by kernel_rfl
theorem rngG : Tryd.prog.globalNamed "strconv.ErrRange" = some 3 := by kernel_rfl
theorem LaidP.on {W W' : World} (h : LaidP W) (hb : Below W.heap.size W W') : LaidP W' := by
  obtain ⟨h1, ⟨m, h2⟩, ⟨t3, p3, h3⟩, ⟨t4, p4, h4⟩⟩ := h
  exact ⟨h1.on hb, ⟨m, by rw [hb.cell (block_lt_of_cell h2)]; exact h2⟩, ⟨t3, p3, Go.Joins.var_stays synG h3 hb (Nat.le_refl _)⟩, ⟨t4, p4, Go.Joins.var_stays rngG h4 hb (Nat.le_refl _)⟩⟩
theorem splitK_len : ∀ (k : Nat) (s : List UInt8) (x : List UInt8), x ∈ Lib.splitK [32] 0 k s → x.length ≤ s.length
  | 0, s, x, h => by
    rw [Lib.splitK, List.mem_singleton] at h
    rw [h]
    exact Nat.le_refl _
  | k + 1, s, x, h => by
    rw [Lib.splitK] at h
    split at h
    · rw [List.mem_singleton] at h
      rw [h]
      exact Nat.le_refl _
    · rcases List.mem_cons.1 h with rfl | h
      · rw [List.length_take]; omega
      · have := splitK_len k _ x h
        rw [List.length_drop] at this
        omega
theorem word_len {s : List UInt8} {i : Nat} {x : List UInt8} (h : (words s)[i]? = some x) : x.length ≤ s.length := splitK_len _ s x (List.mem_of_getElem? h)
theorem cut_len (s : List UInt8) : (Lib.cut s [32]).2.1.length ≤ s.length ∧ (Lib.cut s [32]).1.length ≤ s.length := by
  unfold Lib.cut
  split
  · simp only [List.length_take, List.length_drop]; omega
  · simp
/-- Between the rounds of Parse: the block of the result, of what is read, and of the words. -/
def PS (w W : World) (X G : Nat) (r : Int) (x : Isa.R4) (ws : List (List UInt8)) : Prop :=
  W.heap[w.heap.size]? = some (Obj.cells #[.int .i64 0, .int .i64 0, .int .i64 0, .int .i64 0, .int .i32 0] 23) ∧
  W.heap[X]? = some (Obj.cells #[.int .i64 r, .int .i64 x.a, .int .i64 x.b, .int .i64 x.c, .int .i32 x.m] 23) ∧
  (∀ (i : Nat) (y : List UInt8), ws[i]? = some y → W.cell? ⟨G, i, none⟩ = some (.string (S y))) ∧ w.heap.size < X ∧ X < G ∧ Below w.heap.size w W
theorem PS.on {w W W' : World} {X G : Nat} {r : Int} {x : Isa.R4} {ws : List (List UInt8)} (h : PS w W X G r x ws) (hb : Below W.heap.size W W') : PS w W' X G r x ws := by
  obtain ⟨h1, h2, h3, h4, h5, h6⟩ := h
  exact ⟨(hb.block _ (Array.getElem?_eq_some_iff.1 h1).1).trans h1, (hb.block _ (Array.getElem?_eq_some_iff.1 h2).1).trans h2,
    fun i y hi => by rw [hb.cell (block_lt_of_cell (h3 i y hi))]; exact h3 i y hi, h4, h5, h6.trans (hb.mono h6.size)⟩
theorem PS.cell {w W : World} {X G : Nat} {r : Int} {x : Isa.R4} {ws : List (List UInt8)} (h : PS w W X G r x ws) (j : Nat) (u : Value) (x' : Isa.R4)
    (hx : (#[Value.int .i64 r, .int .i64 x.a, .int .i64 x.b, .int .i64 x.c, .int .i32 x.m]).setIfInBounds j u = #[Value.int .i64 r, .int .i64 x'.a, .int .i64 x'.b, .int .i64 x'.c, .int .i32 x'.m]) : PS w (W.setCell ⟨X, j, none⟩ u) X G r x' ws := by
  obtain ⟨h1, h2, h3, h4, h5, h6⟩ := h
  refine ⟨?_, ?_, fun i y hi => ?_, h4, h5, h6.setCell (Nat.le_of_lt h4) _⟩
  · rw [heap_setCell_other _ _ _ _ (by simp; omega)]; exact h1
  · have := heap_setCell_same _ _ j _ 23 u h2
    rw [hx] at this
    exact this
  · have h := h3 i y hi
    unfold World.cell? at h ⊢
    rw [heap_setCell_other _ _ _ _ (by simp; omega)]
    exact h
theorem PS.facts {w W : World} {X G : Nat} {r : Int} {x : Isa.R4} {ws : List (List UInt8)} (h : PS w W X G r x ws) :
    W.cell? ⟨X, 0, none⟩ = some (.int .i64 r) ∧ W.cell? ⟨X, 1, none⟩ = some (.int .i64 x.a) ∧ W.cell? ⟨X, 2, none⟩ = some (.int .i64 x.b) ∧ W.cell? ⟨X, 3, none⟩ = some (.int .i64 x.c) ∧ W.cell? ⟨X, 4, none⟩ = some (.int .i32 x.m) ∧
    W.frozen? ⟨X, 1, none⟩ = false ∧ W.frozen? ⟨X, 2, none⟩ = false ∧ W.frozen? ⟨X, 3, none⟩ = false ∧ W.frozen? ⟨X, 4, none⟩ = false := by
  have h2 := h.2.1
  exact ⟨cell_of_row _ _ 0 _ 23 (0, 0) h2, cell_of_row _ _ 1 _ 23 (0, 0) h2, cell_of_row _ _ 2 _ 23 (0, 0) h2, cell_of_row _ _ 3 _ 23 (0, 0) h2, cell_of_row _ _ 4 _ 23 (0, 0) h2,
    frozen_of_row _ _ 1 _ 23 h2, frozen_of_row _ _ 2 _ 23 h2, frozen_of_row _ _ 3 _ 23 h2, frozen_of_row _ _ 4 _ 23 h2⟩
theorem fold_step {k : Nat} {y : List UInt8} {rest : List (List UInt8)} {x : Isa.R4} {v : Int} (h : Isa.rd y = some v) : Isa.fold k (y :: rest) x = Isa.fold (k + 1) rest (x.put k v) := by
  rw [Isa.fold, h]
theorem fold_stop {k : Nat} {y : List UInt8} {rest : List (List UInt8)} {x : Isa.R4} (h : Isa.rd y = none) : Isa.fold k (y :: rest) x = x := by
  rw [Isa.fold, h]
theorem trim_d (l : List UInt8) (w : World) : Calls Tryd.prog 24 #[.string (S l), .string { data := #[114] }] w fun e w' => e = .returned (.string (S (Lib.trimPrefix l [114]))) ∧ w' = w := trim_c l w
theorem rd_ok {y : List UInt8} {v : Int} (h : Lib.parseIntB 32 (Lib.trimPrefix y [114]) = .ok v) : Isa.rd y = some v := by unfold Isa.rd; rw [h]
theorem rd_none {y : List UInt8} (h : ∀ v, Lib.parseIntB 32 (Lib.trimPrefix y [114]) ≠ .ok v) : Isa.rd y = none := by
  unfold Isa.rd
  split
  · rename_i v hv; exact absurd hv (h v)
  · rfl
set_option maxHeartbeats 4000000 in
theorem parse_any (s : List UInt8) (hs : s.length ≤ 1000) (w : World) (hL : LaidP w) :
    Calls Tryd.prog 14 #[.string (S s)] w fun e w' => ∃ (r : Int) (F : Isa.R4) (ok : Bool), Isa.OpIs (Lib.cut s [32]).1 r ∧ F = Isa.fold 0 (words (Lib.cut s [32]).2.1) Isa.R4.zero ∧
      ok = decide (Isa.Right r F.a F.b F.c ∧ Isa.txt r F.a F.b F.c F.m = s) ∧
      e = .returned (.tuple #[if ok then .agg #[.int .i64 r, .int .i64 F.a, .int .i64 F.b, .int .i64 F.c, .int .i32 F.m] else zeroV, .bool ok]) ∧ Below w.heap.size w w' := by
  have HL := Lib.hid hL
  have HS := Lib.hid hs
  have HZ0 := Lib.hid (heap_alloc_new w (Obj.cells #[.int .i64 0, .int .i64 0, .int .i64 0, .int .i64 0, .int .i32 0] 23))
  have HB0 := Lib.hid ((Below.refl w.heap.size w).alloc (Nat.le_refl _) (Obj.cells #[.int .i64 0, .int .i64 0, .int .i64 0, .int .i64 0, .int .i32 0] 23))
  have C1 := Lib.hid (show ∀ W, LaidP W → Calls Tryd.prog 20 #[.string (S s), .string { data := #[32] }] W _ from fun W h => cut_c s _ W (by omega) h.2.1.choose_spec)
  have HR := Lib.hid (cut_len s)
  obtain ⟨nm, em⟩ : ∃ nm, (Lib.cut s [32]).1 = nm := ⟨_, rfl⟩
  obtain ⟨rs, er⟩ : ∃ rs, (Lib.cut s [32]).2.1 = rs := ⟨_, rfl⟩
  obtain ⟨fo, ef⟩ : ∃ fo, (Lib.cut s [32]).2.2 = fo := ⟨_, rfl⟩
  rw [em, er, ef] at C1
  rw [em, er] at HR ⊢
  obtain ⟨ws, ew⟩ : ∃ ws, words rs = ws := ⟨_, rfl⟩
  have C3 := Lib.hid (show ∀ W, LaidP W → Calls Tryd.prog 22 #[.string (S rs), .string { data := #[32] }, .int .i64 4] W _ from fun W h => split_c rs _ W (by have := HR.out; omega) h.2.1.choose_spec)
  have HW := Lib.hid (show ∀ (i : Nat) (x : List UInt8), ws[i]? = some x → x.length ≤ 1000 from fun i x hi => by rw [← ew] at hi; have := word_len hi; have := HR.out; omega)
  have HN := Lib.hid (show ws.length ≤ 4 by have := words_le rs; rw [ew] at this; omega)
  rw [ew] at C3 ⊢
  obtain ⟨F, eF⟩ : ∃ F, Isa.fold 0 ws Isa.R4.zero = F := ⟨_, rfl⟩
  rw [eF]
  have HF := Lib.hid eF
  have HFO := Lib.hid (show F.Ok by rw [← eF]; exact Isa.fold_ok ws 0 _ (by refine ⟨?_, ?_, ?_, ?_⟩ <;> exact ⟨by decide, by decide⟩))
  have C2 := Lib.hid (fun (W : World) (h : Laid W) => operation_any nm W h)
  clear hL hs em er ef ew eF
  go_enter Tryd.func14, Tryd.ntmps14
  go_wp2_with fail
  go_step3
  go_wp2_with fail
  refine (C1.out _ (HL.out.on HB0.out)).mono ?_
  rintro e w1 ⟨rfl, hb⟩
  have HB1 := Lib.hid (below_new hb)
  have HZ1 := Lib.hid ((hb.block w.heap.size (by simp)).trans HZ0.out)
  clear hb HB0 HZ0 C1
  go_wp2_with fail
  refine (C2.out _ (HL.out.on HB1.out).1).mono ?_
  rintro e w2 ⟨r, rfl, hop, rfl⟩
  have HO := Lib.hid hop
  have HX := Lib.hid (heap_alloc_new w1 (Obj.cells #[.int .i64 r, .int .i64 0, .int .i64 0, .int .i64 0, .int .i32 0] 23))
  have HB2 := Lib.hid (HB1.out.alloc HB1.out.size (Obj.cells #[.int .i64 r, .int .i64 0, .int .i64 0, .int .i64 0, .int .i32 0] 23))
  have HZ2 := Lib.hid ((heap_alloc_old w1 (Obj.cells #[.int .i64 r, .int .i64 0, .int .i64 0, .int .i64 0, .int .i32 0] 23) (Array.getElem?_eq_some_iff.1 HZ1.out).1).trans HZ1.out)
  clear hop C2
  go_wp2_with fail
  go_step3
  go_wp2_with fail
  refine (C3.out _ (HL.out.on HB2.out)).mono ?_
  rintro e w3 ⟨c, rfl, hc, hcell, hb⟩
  have HP := Lib.hid (show PS w w3 w1.heap.size (w1.alloc (Obj.cells #[.int .i64 r, .int .i64 0, .int .i64 0, .int .i64 0, .int .i32 0] 23)).heap.size r Isa.R4.zero ws from
    ⟨(hb.block _ (Array.getElem?_eq_some_iff.1 HZ2.out).1).trans HZ2.out, (hb.block _ (Array.getElem?_eq_some_iff.1 HX.out).1).trans HX.out, hcell, (Array.getElem?_eq_some_iff.1 HZ1.out).1, by simp, HB2.out.trans (hb.mono HB2.out.size)⟩)
  have hX : Hid (w1.heap.size < w3.heap.size) := Lib.hid (Nat.lt_of_lt_of_le (by simp) hb.size)
  obtain ⟨X, eX⟩ : ∃ X, w1.heap.size = X := ⟨_, rfl⟩
  obtain ⟨G, eG⟩ : ∃ G, (w1.alloc (Obj.cells #[.int .i64 r, .int .i64 0, .int .i64 0, .int .i64 0, .int .i32 0] 23)).heap.size = G := ⟨_, rfl⟩
  rw [eX, eG] at HP
  rw [eG]
  rw [eX]
  clear hb hcell hc HX HB2 HZ2 HB1 C3 eX eG HZ1 hX HR HS
  obtain ⟨n, en⟩ : ∃ n, ws.length = n := ⟨_, rfl⟩
  rw [en] at HN
  rw [en]
  have EN := Lib.hid en
  clear en
  go_upto_block 0 with fail
  go_cut [24] (fun s24 wx => Hid (PS w wx X G r F ws))
  case first =>
    go_wp2_with fail
    go_loopw [24] (fun i wr => ∃ (k : Nat) (x : Isa.R4), k ≤ n ∧ i = .int .i64 k ∧ Hid (PS w wr X G r x ws ∧ Isa.fold k (ws.drop k) x = F ∧ x.Ok)) (fun i _ => n - (intOf i).toNat)
    case atStart => exact ⟨0, Isa.R4.zero, Nat.zero_le _, rfl, Lib.hid ⟨HP.out, by rw [List.drop_zero]; exact HF.out, by refine ⟨?_, ?_, ?_, ?_⟩ <;> exact ⟨by decide, by decide⟩⟩⟩
    case round =>
      obtain ⟨k, x, hk, rfl, hI⟩ := hrel
      by_cases hlt : k < n
      · obtain ⟨y, hy⟩ : ∃ y, ws[k]? = some y := ⟨_, List.getElem?_eq_getElem (by rw [EN.out]; exact hlt)⟩
        have hc := hI.out.1.2.2.1 k y hy
        have hd : ws.drop k = y :: ws.drop (k + 1) := by
          obtain ⟨h1, h2⟩ := List.getElem?_eq_some_iff.1 hy
          rw [← h2]
          exact List.drop_eq_getElem_cons h1
        have HD := Lib.hid hd
        have hyl := HW.out k y hy
        have C4 := Lib.hid (fun (W : World) => trim_d y W)
        have C5 := Lib.hid (fun (W : World) (h : LaidP W) => parse_c (Lib.trimPrefix y [114]) W (Nat.le_trans (Lib.trimPrefix_le y [114]) (by omega)) h.2.2.1 h.2.2.2)
        have RO := Lib.hid (fun v => rd_ok (y := y) (v := v))
        have RN := Lib.hid (rd_none (y := y))
        obtain ⟨z, ez⟩ : ∃ z, Lib.trimPrefix y [114] = z := ⟨_, rfl⟩
        rw [ez] at C4 C5 RO RN
        have hk4 : (k : Int) < n := by omega
        clear ez hy hd hyl
        go_wp2_with fail
        refine (C4.out _).mono ?_
        rintro e w4 ⟨rfl, rfl⟩
        go_wp2_with fail
        refine (C5.out _ (HL.out.on hI.out.1.2.2.2.2.2)).mono ?_
        rintro e w5 ⟨hv, hb⟩
        have HI5 := Lib.hid (hI.out.1.on hb)
        clear hb hc C4 C5
        rcases hv with ⟨v, hv, rfl⟩ | ⟨hv, v, N, rfl⟩
        · have hrd := Lib.hid (RO.out v hv)
          have hvb := Isa.rd_bounds hrd.out
          have hw32 := Lib.hid (show wrap32 v = v by unfold wrap32; omega)
          obtain ⟨p0, p1, p2, p3, p4, f1, f2, f3, f4⟩ := HI5.out.facts
          have hk3 : k = 0 ∨ k = 1 ∨ k = 2 ∨ k = 3 := by have := HN.out; omega
          clear hv RO RN hvb p0
          rcases hk3 with rfl | rfl | rfl | rfl
          · clear hw32
            go_wp2_with fail
            refine ⟨⟨1, x.put 0 v, by omega, by go_num, Lib.hid ⟨HI5.out.cell 1 _ _ rfl, ?_, hI.out.2.2.put (Isa.rd_bounds hrd.out) 0⟩⟩, by simp [intOf]; omega⟩
            rw [← hI.out.2.1, HD.out]
            exact (fold_step hrd.out).symm
          · clear hw32
            go_wp2_with fail
            refine ⟨⟨2, x.put 1 v, by omega, by go_num, Lib.hid ⟨HI5.out.cell 2 _ _ rfl, ?_, hI.out.2.2.put (Isa.rd_bounds hrd.out) 1⟩⟩, by simp [intOf]; omega⟩
            rw [← hI.out.2.1, HD.out]
            exact (fold_step hrd.out).symm
          · clear hw32
            go_wp2_with fail
            refine ⟨⟨3, x.put 2 v, by omega, by go_num, Lib.hid ⟨HI5.out.cell 3 _ _ rfl, ?_, hI.out.2.2.put (Isa.rd_bounds hrd.out) 2⟩⟩, by simp [intOf]; omega⟩
            rw [← hI.out.2.1, HD.out]
            exact (fold_step hrd.out).symm
          · have hw := hw32.out
            clear hw32
            go_wp2_with fail
            refine ⟨⟨4, x.put 3 v, by omega, by go_num, Lib.hid ⟨HI5.out.cell 4 _ _ rfl, ?_, hI.out.2.2.put (Isa.rd_bounds hrd.out) 3⟩⟩, by simp [intOf]; omega⟩
            rw [← hI.out.2.1, HD.out]
            exact (fold_step hrd.out).symm
        · have hrd := Lib.hid (RN.out hv)
          have hx := hI.out.2.1
          rw [HD.out, fold_stop hrd.out] at hx
          have HE := Lib.hid (show PS w w5 X G r F ws by rw [← hx]; exact HI5.out)
          clear hv RO RN hx
          go_wp2_with fail
          go_meet
          exact HE
      · obtain rfl : k = n := by omega
        have hx := hI.out.2.1
        rw [List.drop_of_length_le (by rw [EN.out]; exact Nat.le_refl _)] at hx
        have hx : x = F := hx
        have HE := Lib.hid (show PS w _ X G r F ws by rw [← hx]; exact hI.out.1)
        clear hx
        go_wp2_with fail
        go_meet
        exact HE
  case rest =>
    have hcut2 := hcut
    clear hcut
    obtain ⟨p0, p1, p2, p3, p4, f1, f2, f3, f4⟩ := hcut2.out.facts
    have HC := Lib.hid (fun (W : World) (h : PS w W X G r F ws) => h.facts)
    clear f1 f2 f3 f4
    have C6 := Lib.hid (fun (W : World) => right_any r F.a F.b F.c F.m W)
    by_cases hR : Isa.Right r F.a F.b F.c
    · rw [decide_eq_true hR] at C6
      have C7 := Lib.hid (fun (W : World) (h : LaidP W) => text_right r F.a F.b F.c F.m W hR HFO.out.2.2.2 h.1)
      obtain ⟨tx, et⟩ : ∃ tx, Isa.txt r F.a F.b F.c F.m = tx := ⟨_, rfl⟩
      rw [et] at C7
      have OK0 := Lib.hid (And.intro hR et)
      clear hR et
      go_wp2_with fail
      refine (C6.out _).mono ?_
      rintro e w3 ⟨rfl, hb⟩
      have HP2 := Lib.hid (hcut2.out.on hb)
      clear hb p0 p1 p2 p3 p4 hcut2 C6
      obtain ⟨p0, p1, p2, p3, p4, _, _, _, _⟩ := HP2.out.facts
      go_wp2_with fail
      refine (C7.out _ (HL.out.on HP2.out.2.2.2.2.2)).mono ?_
      rintro e w3 ⟨rfl, hb⟩
      have HP3 := Lib.hid (HP2.out.on hb)
      clear hb p0 p1 p2 p3 p4 HP2 C7
      obtain ⟨p0, p1, p2, p3, p4, _, _, _, _⟩ := HP3.out.facts
      have HZ := HP3.out.1
      have g0 := frozen_of_row _ _ 0 _ 23 HZ
      have g1 := frozen_of_row _ _ 1 _ 23 HZ
      have g2 := frozen_of_row _ _ 2 _ 23 HZ
      have g3 := frozen_of_row _ _ 3 _ 23 HZ
      have g4 := frozen_of_row _ _ 4 _ 23 HZ
      have z0 := cell_of_row _ _ 0 _ 23 (0, 0) HZ
      have z1 := cell_of_row _ _ 1 _ 23 (0, 0) HZ
      have z2 := cell_of_row _ _ 2 _ 23 (0, 0) HZ
      have z3 := cell_of_row _ _ 3 _ 23 (0, 0) HZ
      have z4 := cell_of_row _ _ 4 _ 23 (0, 0) HZ
      simp only [List.getElem?_toArray, List.getElem?_cons_zero, List.getElem?_cons_succ] at z0 z1 z2 z3 z4
      have HZ := Lib.hid HZ
      by_cases he : tx = s
      · have OKK := Lib.hid (show true = decide (Isa.Right r F.a F.b F.c ∧ Isa.txt r F.a F.b F.c F.m = s) from (decide_eq_true ⟨OK0.out.1, OK0.out.2.trans he⟩).symm)
        clear OK0
        subst he
        go_wp2_with fail
        rw [Exit.noGoto_ret]
        refine bodyPost_ret (results_cell2 (by rfl) _ _ w.heap.size 23 _ (0, 0) (by rfl) (set5_heap HZ.out (.int .i64 r) (.int .i64 F.a) (.int .i64 F.b) (.int .i64 F.c) (.int .i32 F.m)) rfl) rfl ⟨r, F, true, HO.out, rfl, OKK.out, rfl, set5_below HP3.out.2.2.2.2.2 (Nat.le_refl _) _ _ _ _ _⟩
      · have OKK := Lib.hid (show false = decide (Isa.Right r F.a F.b F.c ∧ Isa.txt r F.a F.b F.c F.m = s) from (decide_eq_false (fun h => he (OK0.out.2.symm.trans h.2))).symm)
        have hne : ¬ (S tx).toList = (S s).toList := by rw [S_toList, S_toList]; exact he
        have hne2 : ((S tx).toList == (S s).toList) = false := by rw [beq_eq_false_iff_ne]; exact hne
        clear OK0 he
        go_wp2_with fail
        rw [Exit.noGoto_ret]
        refine bodyPost_ret (results_cell2 (by rfl) _ _ w.heap.size 23 _ (0, 0) (by rfl) (set5_heap HZ.out (.int .i64 0) (.int .i64 0) (.int .i64 0) (.int .i64 0) (.int .i32 0)) rfl) rfl ⟨r, F, false, HO.out, rfl, OKK.out, rfl, set5_below HP3.out.2.2.2.2.2 (Nat.le_refl _) _ _ _ _ _⟩
    · rw [decide_eq_false hR] at C6
      have OKK := Lib.hid (show false = decide (Isa.Right r F.a F.b F.c ∧ Isa.txt r F.a F.b F.c F.m = s) from (decide_eq_false (fun h => hR h.1)).symm)
      clear hR
      go_wp2_with fail
      refine (C6.out _).mono ?_
      rintro e w3 ⟨rfl, hb⟩
      have HP3 := Lib.hid (hcut2.out.on hb)
      clear hb p0 p1 p2 p3 p4 hcut2 C6
      have HZ := HP3.out.1
      have g0 := frozen_of_row _ _ 0 _ 23 HZ
      have g1 := frozen_of_row _ _ 1 _ 23 HZ
      have g2 := frozen_of_row _ _ 2 _ 23 HZ
      have g3 := frozen_of_row _ _ 3 _ 23 HZ
      have g4 := frozen_of_row _ _ 4 _ 23 HZ
      have z0 := cell_of_row _ _ 0 _ 23 (0, 0) HZ
      have z1 := cell_of_row _ _ 1 _ 23 (0, 0) HZ
      have z2 := cell_of_row _ _ 2 _ 23 (0, 0) HZ
      have z3 := cell_of_row _ _ 3 _ 23 (0, 0) HZ
      have z4 := cell_of_row _ _ 4 _ 23 (0, 0) HZ
      simp only [List.getElem?_toArray, List.getElem?_cons_zero, List.getElem?_cons_succ] at z0 z1 z2 z3 z4
      have HZ := Lib.hid HZ
      go_wp2_with fail
      rw [Exit.noGoto_ret]
      refine bodyPost_ret (results_cell2 (by rfl) _ _ w.heap.size 23 _ (0, 0) (by rfl) (set5_heap HZ.out (.int .i64 0) (.int .i64 0) (.int .i64 0) (.int .i64 0) (.int .i32 0)) rfl) rfl ⟨r, F, false, HO.out, rfl, OKK.out, rfl, set5_below HP3.out.2.2.2.2.2 (Nat.le_refl _) _ _ _ _ _⟩
end Go.Proofs.YtlohilpeidmemaaDoor
