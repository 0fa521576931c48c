/- Pop. -/
import Derived.Test.YtoccgbfnbpkphaaRc
set_option linter.unusedVariables false
set_option linter.unusedSimpArgs false
namespace Go.Proofs.Ytoccgbfnbpkphaa
open Go.RowKit Rn
set_option linter.unusedVariables false
set_option linter.unusedSimpArgs false
variable {w w' : World} {R : Nat} {g : Nat → Pk} {n lost : Nat} {v : Value}
theorem size26 : (Try.prog.info? 26).map (·.size) = some 33 := by kernel_rfl
/-- Packets are copied into a block. -/
theorem copy_pks (w : World) (ty t : TypeId) (b dl dc sl sc n : Nat) (ad : Addr) (cur cs : List Value) (hd : w.heap[b]? = some (Obj.cells cur.toArray t)) (hn : cs.length = n * 33) (h1 : Nat.min sl dl = n) (hfit : n * 33 ≤ cur.length)
    (hr : ∀ j u, cs[j]? = some u → w.cell? (ad.add j) = some u) (ho : ∀ u ∈ cs, u.oneCell' = true) :
    ∃ w', (Builtin.copy_ #[49, 49] ty #[.slice (some ⟨b, 0, none⟩) dl dc, .slice (some ad) sl sc]).run Try.prog w = .ok (goInt n) w' ∧ w'.heap[b]? = some (Obj.cells (splice cur 0 cs).toArray t) ∧ Turn [b] w w' := by
  have hf := run_firstCells_some (P := Try.prog) w 33 n ad sl sc cs hn hr
  have hst := run_storeCells_at Try.prog b 0 t cs 0 cur.toArray w hd (by rw [List.size_toArray]; omega) ho
  have hs := size26
  cases hq : Try.prog.info? 26 with
  | none => rw [hq] at hs; cases hs
  | some i =>
    have hi : i.size = 33 := by rw [hq] at hs; simpa using hs
    refine ⟨w.setRow b (cur.toArray.toList.take 0 ++ cs ++ cur.toArray.toList.drop (0 + cs.length)).toArray, ?_, ?_, Turn.row w b _⟩
    · simp only [Nat.add_zero] at hst
      simp [Builtin.copy_, run_underlying Try.underlying49, Builtin.lenOf, sizeOf, typeInfo, hq, hi, h1, hf, hst]
    · rw [setRow_heap w b _ _ _ _ hd]
      unfold splice
      simp
theorem pop_none (w : World) : Calls Try.prog 9 #[.pointer none] w fun e w' => e = .returned (.tuple #[.slice none 0 0, .bool false]) ∧ w' = w := by
  have C := Lib.hid (len_none w)
  go_enter Try.func9, Try.ntmps9
  go_wp2_with fail
  refine C.out.mono ?_; rintro e w1 ⟨rfl, rfl⟩
  go_wp2_with fail
  go_ret2
  exact ⟨rfl, rfl⟩
theorem pop_empty (h : RM w R g 0 lost v) : Calls Try.prog 9 #[.pointer (some ⟨R, 0, none⟩)] w fun e w' => e = .returned (.tuple #[.slice none 0 0, .bool false]) ∧ w' = w := by
  have C := Lib.hid (len_any h)
  clear h
  go_enter Try.func9, Try.ntmps9
  go_wp2_with fail
  refine C.out.mono ?_; rintro e w1 ⟨rfl, rfl⟩
  go_wp2_with fail
  go_ret2
  exact ⟨rfl, rfl⟩
theorem RM.range (h : RM w R g n lost v) {k : Nat} (hk : k < 8) : w.rangeAt R (k * 33) (kc (g k)) := fun j u hj => by
  obtain ⟨cs, h1, h2⟩ := h
  rw [cell_of_row _ _ _ _ 30 (0, 0) h1, List.getElem?_toArray]
  exact h2.cell k hk j u hj
set_option maxRecDepth 100000 in
set_option maxHeartbeats 1000000 in
theorem pop_any {m : Nat} (h : RM w R g (m + 1) lost v) (hm : m < 8) (ho : (g 0).ok) : Calls Try.prog 9 #[.pointer (some ⟨R, 0, none⟩)] w fun e w' =>
    ∃ v', e = .returned (.tuple #[v', .bool true]) ∧ NR w.heap.size 5 1 w' v' (g 0).n (Y (g 0).bs) ∧ Turn [R] w w' ∧ RM w' R (upd (down g m) m bare) m lost v := by
  have C := Lib.hid (len_any h)
  have H := Lib.hid h
  have hR := h.range (k := 0) (by omega)
  rw [Nat.zero_mul] at hR
  obtain ⟨ks0, eks⟩ : ∃ ks0, kc (g 0) = ks0 := ⟨_, rfl⟩
  have hl := kc_len ho.1
  rw [eks] at hR hl
  have HR := Lib.hid hR
  have HL := Lib.hid (show (Try.prog.info? 26).map (·.size) = some ks0.length by rw [hl]; exact size26)
  have HU := Lib.hid Try.underlying26
  have n8 : (((m : Int) + 1) == 0) = false := by rw [beq_eq_false_iff_ne]; omega
  clear h hR
  go_enter Try.func9, Try.ntmps9
  go_wp2_with fail
  refine C.out.mono ?_; rintro e w1 ⟨rfl, rfl⟩
  clear C
  have hz := heap_alloc_new w1 (Obj.cells #[Value.int IntKind.u8 0, Value.int IntKind.u8 0, Value.int IntKind.u8 0, Value.int IntKind.u8 0, Value.int IntKind.u8 0, Value.int IntKind.u8 0, Value.int IntKind.u8 0, Value.int IntKind.u8 0, Value.int IntKind.u8 0, Value.int IntKind.u8 0, Value.int IntKind.u8 0, Value.int IntKind.u8 0, Value.int IntKind.u8 0, Value.int IntKind.u8 0, Value.int IntKind.u8 0, Value.int IntKind.u8 0, Value.int IntKind.u8 0, Value.int IntKind.u8 0, Value.int IntKind.u8 0, Value.int IntKind.u8 0, Value.int IntKind.u8 0, Value.int IntKind.u8 0, Value.int IntKind.u8 0, Value.int IntKind.u8 0, Value.int IntKind.u8 0, Value.int IntKind.u8 0, Value.int IntKind.u8 0, Value.int IntKind.u8 0, Value.int IntKind.u8 0, Value.int IntKind.u8 0, Value.int IntKind.u8 0, Value.int IntKind.u8 0, Value.int IntKind.i64 0] 26)
  obtain ⟨W1, eW1⟩ : ∃ W1, w1.alloc (Obj.cells #[Value.int IntKind.u8 0, Value.int IntKind.u8 0, Value.int IntKind.u8 0, Value.int IntKind.u8 0, Value.int IntKind.u8 0, Value.int IntKind.u8 0, Value.int IntKind.u8 0, Value.int IntKind.u8 0, Value.int IntKind.u8 0, Value.int IntKind.u8 0, Value.int IntKind.u8 0, Value.int IntKind.u8 0, Value.int IntKind.u8 0, Value.int IntKind.u8 0, Value.int IntKind.u8 0, Value.int IntKind.u8 0, Value.int IntKind.u8 0, Value.int IntKind.u8 0, Value.int IntKind.u8 0, Value.int IntKind.u8 0, Value.int IntKind.u8 0, Value.int IntKind.u8 0, Value.int IntKind.u8 0, Value.int IntKind.u8 0, Value.int IntKind.u8 0, Value.int IntKind.u8 0, Value.int IntKind.u8 0, Value.int IntKind.u8 0, Value.int IntKind.u8 0, Value.int IntKind.u8 0, Value.int IntKind.u8 0, Value.int IntKind.u8 0, Value.int IntKind.i64 0] 26) = W1 := ⟨_, rfl⟩
  obtain ⟨Q, eQ⟩ : ∃ Q, w1.heap.size = Q := ⟨_, rfl⟩
  have hb1 : Below w1.heap.size w1 W1 := by rw [← eW1]; exact below_alloc1 _ _
  rw [eW1, eQ] at hz
  have hz' : W1.heap[Q]? = some (Obj.cells zk.toArray 26) := hz
  have HT := Lib.hid (show W1.there Q 0 ks0.toArray.size from fun j hj => by
    rw [List.size_toArray, hl] at hj
    refine ⟨?_, frozen_of_row _ _ _ _ 26 hz'⟩
    rw [cell_of_row _ _ _ _ 26 (0, 0) hz', List.getElem?_toArray, List.getElem?_eq_getElem (by rw [zk_len]; omega)]; rfl)
  have HZ := Lib.hid (show (Try.prog.info? 26).map (·.size) = some ks0.toArray.size by rw [List.size_toArray, hl]; exact size26)
  have H1 := Lib.hid (show ks0.toArray.all (·.oneCell') = true by
    rw [List.all_toArray, List.all_eq_true]; intro u hu; exact kc_one (g 0) u (by rw [eks]; exact hu))
  have hs : splice zk 0 ks0 = ks0 := by
    unfold splice; rw [hl]; simp [zk_len]
  have hk2 : (W1.setCells Q 0 ks0).heap[Q]? = some (Obj.cells ks0.toArray 26) := by
    rw [setCells_heap Q 26 ks0 0 W1 zk hz' (by rw [hl, zk_len]; omega), hs]
  clear hz hz' hs
  go_wp2_with (first | with_reducible refine wpList_load_mid rfl 26 (.tmp 11) rfl R 0 rfl ks0 _ HR.out HU.out rfl HL.out ?_ | (with_reducible refine wpList_store_mid rfl 26 (.tmp 4) (.tmp 12) rfl Q 0 ks0.toArray rfl rfl HT.out HZ.out H1.out ?_))
  obtain ⟨W2, eW2⟩ : ∃ W2, W1.setCells Q 0 ks0 = W2 := ⟨_, rfl⟩
  obtain ⟨W3, eW3⟩ : ∃ W3, ({ W2 with drawn := W2.drawn + 1 } : World) = W3 := ⟨_, rfl⟩
  have hQw : w1.heap.size ≤ Q := by omega
  have hRQ : R ≠ Q := by have := H.out.lt; omega
  have ht2 : Turn [Q] w1 W2 := by
    rw [← eW2]; exact (Turn.of_below hb1 (S := [Q])).trans (setCells_turn Q ks0 0 W1) (fun x hx => .inl hx)
  have h3h : W3.heap = W2.heap := by rw [← eW3]
  have ht3 : Turn [Q] w1 W3 := by rw [← eW3]; exact ⟨ht2.os, ht2.tape, ht2.output, ht2.size, ht2.block⟩
  have hQ3 : W3.heap[Q]? = some (Obj.cells ks0.toArray 26) := by rw [h3h, ← eW2]; exact hk2
  have hr3 : RM W3 R g (m + 1) lost v := H.out.same (ht3.block R H.out.lt (by simpa using hRQ))
  have c3 := hr3.cn
  rw [show ((m + 1 : Nat) : Int) = (m : Int) + 1 from rfl] at c3
  obtain ⟨cs, hcs, hrg⟩ := hr3
  obtain ⟨xs, exs⟩ : ∃ xs, ks (fun i => g (i + 1)) m = xs := ⟨_, rfl⟩
  have hxl : xs.length = m * 33 := by rw [← exs]; exact ks_len (fun k hk => hrg.ok _ (by omega))
  obtain ⟨W4, hrun, hW4, ht4⟩ := copy_pks W3 3 30 R 8 8 m 7 m ⟨R, 33, none⟩ cs xs hcs hxl (by have : Nat.min m 8 = min m 8 := rfl; omega) (by rw [hrg.len]; omega)
    (fun j u hu => by
      have hjl : j < m * 33 := by rw [← hxl]; exact (List.getElem?_eq_some_iff.1 hu).1
      obtain ⟨k, i, rfl, hk, hi⟩ := ks_split hjl
      rw [← exs, ks_at (fun k hk => hrg.ok _ (by omega)) hk hi] at hu
      rw [addr_add, cell_of_row _ _ _ _ 30 (0, 0) hcs, List.getElem?_toArray]
      have := hrg.cell (k + 1) (by omega) i u hu
      rw [show 33 + (k * 33 + i) = (k + 1) * 33 + i by omega]
      exact this)
    (by rw [← exs]; exact ks_one _ _)
  have hr4 : RM W4 R (down g m) (m + 1) lost v := ⟨_, hW4, by rw [← exs]; exact hrg.down hm⟩
  have hQ4 : W4.heap[Q]? = some (Obj.cells ks0.toArray 26) := by
    rw [ht4.block Q (Array.getElem?_eq_some_iff.1 hQ3).1 (by simpa using fun e => hRQ e.symm)]; exact hQ3
  have ht4' : Turn [Q, R] w1 W4 := (⟨ht3.os, ht3.tape, ht3.output, ht3.size, fun k hk hn => ht3.block k hk (fun hm => hn (by rw [List.mem_singleton.1 hm]; simp))⟩ : Turn [Q, R] w1 W3).trans ht4 (fun x hx => .inl (by rw [List.mem_singleton.1 hx]; simp))
  have j1 : (1 : Int) ≤ (m : Int) + 1 := by omega
  have j2 : (m : Int) + 1 ≤ 8 := by omega
  have H4 := Lib.hid (And.intro hr4 (And.intro hQ4 (And.intro ht4' hRQ)))
  rw [eW2]
  clear eW1 HT ht2 h3h ht3 hQ3 hcs hrg hxl exs hW4 ht4 hr4 hQ4 ht4' hk2 eW2 hb1 eQ hRQ H H1 HR
  refine wp_region_still_tail 12 (by kernel_rfl) (by kernel_rfl) ?_
  rw [eW3]
  simp only [List.take_succ_cons, List.take_zero, List.drop_succ_cons, List.drop_zero]
  clear eW3
  repeat still_step
  refine wpStill_nil ?_
  have c4 : W4.cell? ⟨R, 264, none⟩ = some (.int .i64 ((m : Int) + 1)) := H4.out.1.cn
  have f4 := H4.out.1.fr 264
  have i1 : IntKind.i64.wrap ((m : Int) + 1 - 1) = (m : Int) := by rw [IntKind.wrap_i64]; omega
  have i2 : IntKind.i64.wrap (m : Int) = (m : Int) := by rw [IntKind.wrap_i64]; omega
  go_upto_region 6 with fail
  obtain ⟨W5, eW5⟩ : ∃ W5, W4.setCell ⟨R, 264, none⟩ (.int .i64 (m : Int)) = W5 := ⟨_, rfl⟩
  obtain ⟨W6, eW6⟩ : ∃ W6, ({ W5 with drawn := W5.drawn + 1 } : World) = W6 := ⟨_, rfl⟩
  obtain ⟨hr4, hQ4, ht4, hRQ⟩ := H4.out
  have hr5 : RM W5 R (down g m) m lost v := by rw [← eW5]; exact hr4.setn m
  have hr6 : RM W6 R (down g m) m lost v := hr5.same (by rw [← eW6])
  have hQ6 : W6.heap[Q]? = some (Obj.cells ks0.toArray 26) := by rw [← eW6, ← eW5]; exact (heap_setCell_other _ _ _ _ (fun e => hRQ e.symm)).trans hQ4
  have ht6 : Turn [Q, R] w1 W6 := by
    have h := ht4.trans (Turn.set W4 R 264 (.int .i64 (m : Int))) (fun x hx => .inl (by rw [List.mem_singleton.1 hx]; simp))
    rw [eW5] at h
    rw [← eW6]; exact ⟨h.os, h.tape, h.output, h.size, h.block⟩
  have c6 := hr6.cn
  obtain ⟨ZA, eZA⟩ : ∃ ZA, zk.toArray = ZA := ⟨_, rfl⟩
  have hzv : ∀ W : World, Sem.run Try.prog (zeroValue 26) W = .ok (.agg ZA) W := fun W => by rw [← eZA]; kernel_rfl
  have hZn : ¬ ZA = #[] := by rw [← eZA]; simp [zk, kc]
  have HT := Lib.hid (show W6.there R (m * 33) ZA.size by rw [← eZA]; exact hr6.there (m * 33) 33 (by omega))
  have HZ2 := Lib.hid (show (Try.prog.info? 26).map (·.size) = some ZA.size by rw [← eZA]; exact size26)
  have H2 := Lib.hid (show ZA.all (·.oneCell') = true by rw [← eZA]; kernel_rfl)
  have hr7 : RM (W6.setCells R (m * 33) ZA.toList) R (upd (down g m) m bare) m lost v := by
    obtain ⟨cs, h1, h2⟩ := hr6
    rw [← eZA]
    exact ⟨_, setCells_heap R 30 zk (m * 33) W6 cs h1 (by rw [zk_len, h2.len]; omega), h2.put hm bare_ok⟩
  have hQ7 : (W6.setCells R (m * 33) ZA.toList).heap[Q]? = some (Obj.cells ks0.toArray 26) := by rw [setCells_other _ _ _ _ _ (fun e => hRQ e.symm)]; exact hQ6
  have ht7 : Turn [Q, R] w1 (W6.setCells R (m * 33) ZA.toList) := ht6.trans (setCells_turn R _ _ _) (fun x hx => .inl (by rw [List.mem_singleton.1 hx]; simp))
  obtain ⟨W7, eW7⟩ : ∃ W7, W6.setCells R (m * 33) ZA.toList = W7 := ⟨_, rfl⟩
  rw [eW7] at hr7 hQ7 ht7
  have HR7 := Lib.hid (show W7.rangeAt Q 0 ks0 from fun j u hj => by rw [cell_of_row _ _ _ _ 26 (0, 0) hQ7, List.getElem?_toArray, Nat.zero_add]; exact hj)
  have B := Lib.hid (bytes_any ho W7)
  rw [eks] at B
  have HE := Lib.hid (And.intro hr7 (And.intro ht7 (And.intro hRQ hQw)))
  have j3 : (m : Int) < 8 := by omega
  have j4 : 0 ≤ (m : Int) := by omega
  clear hr4 hQ4 ht4 H4 hRQ hr5 hr6 hQ6 ht6 eZA hr7 hQ7 ht7 c4 f4 i1 i2 hQw j1 j2 n8 c3 hrun HZ eks hl ho
  rw [eW5]
  clear eW5
  refine wp_region_still_tail 9 (by kernel_rfl) (by kernel_rfl) ?_
  rw [eW6]
  simp only [List.take_succ_cons, List.take_zero, List.drop_succ_cons, List.drop_zero]
  clear eW6
  repeat still_step
  refine wpStill_nil ?_
  go_wp2_with (first | with_reducible refine wpList_store_mid rfl 26 (.tmp 41) (.tmp 38) rfl R (m * 33) ZA rfl rfl HT.out HZ2.out H2.out ?_ | (rw [eW7]; with_reducible refine wpList_load_mid rfl 26 (.tmp 4) rfl Q 0 rfl ks0 _ HR7.out HU.out rfl HL.out ?_) | with_reducible refine wpList_load_mid rfl 26 (.tmp 4) rfl Q 0 rfl ks0 _ HR7.out HU.out rfl HL.out ?_)
  refine B.out.mono ?_; rintro e w8 ⟨v8, rfl, h8, b8⟩
  clear B HT HZ2 H2 hzv hZn HR7
  have HE8 := Lib.hid (And.intro h8 b8)
  clear h8 b8
  go_wp2_with fail
  go_ret2
  have hsz := HE.out.2.1.size
  have tt : Turn [Q, R] w1 w8 := HE.out.2.1.trans (Turn.of_below HE8.out.2 (S := [Q, R])) (fun x hx => .inl hx)
  refine ⟨_, rfl, HE8.out.1.mono hsz, ⟨tt.os, tt.tape, tt.output, tt.size, fun k hk hn => tt.block k hk (fun hm => ?_)⟩, HE.out.1.same (HE8.out.2.block R HE.out.1.lt)⟩
  have h3 := HE.out.2.2.2
  simp at hm
  rcases hm with rfl | rfl
  · omega
  · exact hn (by simp)
end Go.Proofs.Ytoccgbfnbpkphaa
