/- Entries of tables: get, put, index, lead, frame, fits. -/
import Derived.Test.YtliljicmkgbfpaaHa
import Derived.Test.YtliljicmkgbfpaaKf
import Derived.Test.YtliljicmkgbfpaaKk
import Derived.Test.YtliljicmkgbfpaaJa
set_option linter.unusedVariables false
set_option linter.unusedSimpArgs false
namespace Pg
theorem may_of {os : List Nat} {f i : Nat} (hf : Fr.own os (f : Int) ≠ 0) (hi : i < 8) : Fr.may os (f : Int) ((i : Int) * 8) 8 = true := by
  unfold Fr.may; exact decide_eq_true ⟨hf, by omega, by omega, by omega⟩
theorem own_range {os : List Nat} {f : Nat} (hf : Fr.own os (f : Int) ≠ 0) : 1 ≤ f ∧ f ≤ os.length ∧ os.getD (f - 1) 0 = Fr.own os (f : Int) ∧ os.getD (f - 1) 0 ≠ 0 := by
  have h := hf
  unfold Fr.own at h ⊢
  split at h
  · rename_i h1
    rw [if_pos h1]
    exact ⟨by omega, by omega, by simp, by simpa using h⟩
  · exact absurd rfl h
theorem own_of {os : List Nat} {f o : Nat} (h1 : 1 ≤ f) (h2 : f ≤ os.length) (h3 : os.getD (f - 1) 0 = o) : Fr.own os (f : Int) = o := by
  unfold Fr.own
  rw [if_pos (by omega), show ((f : Int).toNat - 1) = f - 1 by omega, h3]
theorem get_bytes {ds : List (List Nat)} {f i : Nat} : Fr.get ds (f : Int) ((i : Int) * 8) 8 = ((ds.getD (f - 1) []).drop (8 * i)).take 8 := by
  unfold Fr.get
  rw [show ((f : Int).toNat - 1) = f - 1 by omega, show ((i : Int) * 8).toNat = 8 * i by omega]
  rfl
theorem enc_byte : ∀ (n x : Nat), ∀ c ∈ Pk.enc n x, c < 256
  | 0, x, c, h => by simp [Pk.enc] at h
  | n + 1, x, c, h => by
      rw [Pk.enc] at h
      rcases List.mem_append.1 h with h | h
      · exact enc_byte n _ c h
      · obtain rfl := List.mem_singleton.1 h; omega
end Pg
namespace Go.Proofs.Ytliljicmkgbfpaa
open Go.RowKit Pg
set_option linter.unusedVariables false
set_option linter.unusedSimpArgs false
variable {W : World} {T : List Nat} {R : Nat} {os : List Nat} {ds : List (List Nat)} {w w' : World}
theorem get_len8 (h : St W T R os ds w) {f i : Nat} (hf : Fr.own os (f : Int) ≠ 0) (hi : i < 8) : (((ds.getD (f - 1) []).drop (8 * i)).take 8).length = 8 := by
  obtain ⟨h1, h2, h3, h4⟩ := own_range hf
  have := h.len.2.2.2.2.2 (f - 1) (by omega) h4
  rw [List.length_take, List.length_drop, this]; omega
theorem get_byte (h : St W T R os ds w) {f i : Nat} : ∀ x ∈ ((ds.getD (f - 1) []).drop (8 * i)).take 8, x < 256 := fun x hx => by
  have hx := List.mem_of_mem_drop (List.mem_of_mem_take hx)
  rw [List.getD_eq_getElem?_getD] at hx
  cases e : ds[f - 1]? with
  | none => rw [e] at hx; simp at hx
  | some d => rw [e] at hx; exact h.len.2.2.2.2.1 d (List.mem_iff_getElem?.2 ⟨_, e⟩) x hx
theorem ent_lt (h : St W T R os ds w) {f i : Nat} (hf : Fr.own os (f : Int) ≠ 0) (hi : i < 8) : ent ds f i < 18446744073709551616 := by
  have := Pk.num_lt 8 _ (get_len8 h hf hi) (get_byte h)
  simpa [ent] using this
set_option maxHeartbeats 1000000 in
theorem get_st (h : St W T R os ds w) (f i : Nat) (hf : Fr.own os (f : Int) ≠ 0) (hi : i < 8) (x : Int) (hx : ((ent ds f i : Nat) : Int) = x) :
    Calls Try.prog 29 #[.pointer (some ⟨R, 0, none⟩), .agg #[.int .i64 (f : Int), .int .i64 (i : Int)]] w fun e w' => e = .returned (.int .u64 x) ∧ St W T R os ds w' ∧ Same T w w' ∧ Below w.heap.size w w' := by
  have hB : Below w.heap.size w (w.alloc (Obj.cells #[.int .i64 (f : Int), .int .i64 (i : Int)] 67)) := below_alloc1 _ _
  have h1 := h.below hB
  have hr := own_range hf
  have hl := h.len
  have hg := get_len8 h hf hi
  have hby := get_byte h (f := f) (i := i)
  have C := Lib.hid (read_st (f : Int) ((i : Int) * 8) 8 h1 (by omega) (by omega) (by omega) (by omega) (by omega) (by omega) true (may_of hf hi) (((ds.getD (f - 1) []).drop (8 * i)).take 8) (by rw [if_pos rfl, get_bytes]))
  have hk := heap_alloc_new w (Obj.cells #[.int .i64 (f : Int), .int .i64 (i : Int)] 67)
  have c0 : (w.alloc (Obj.cells #[.int .i64 (f : Int), .int .i64 (i : Int)] 67)).cell? ⟨w.heap.size, 0, none⟩ = some (.int .i64 (f : Int)) := by rw [cell_of_row _ _ _ _ 67 (0, 0) hk]; rfl
  have c1 : (w.alloc (Obj.cells #[.int .i64 (f : Int), .int .i64 (i : Int)] 67)).cell? ⟨w.heap.size, 1, none⟩ = some (.int .i64 (i : Int)) := by rw [cell_of_row _ _ _ _ 67 (0, 0) hk]; rfl
  obtain ⟨bs, eb⟩ : ∃ bs, ((ds.getD (f - 1) []).drop (8 * i)).take 8 = bs := ⟨_, rfl⟩
  have hx' : ((Pk.num bs : Nat) : Int) = x := by rw [← hx, ← eb]; rfl
  rw [eb] at C hg hby
  have HB := Lib.hid hB
  have HY := Lib.hid hby
  have HG := Lib.hid hg
  have HH := Lib.hid h
  have HX := Lib.hid hx'
  have hf2 : (f : Int) ≤ 4096 := by omega
  clear hB h1 hl hby hg h hk eb hx hx' hr hf
  go_enter Try.func29, Try.ntmps29
  go_wp2_with fail
  refine C.out.mono ?_
  rintro e w1 ⟨A, c, rfl, hbr, hst, hsm, hb1⟩
  have H1 := Lib.hid (And.intro hst (And.intro hsm hb1))
  rw [HG.out]
  have N := Lib.hid (new_any A c 8 bs w1 HG.out (by omega) hbr (fun e => by
    obtain ⟨b, off, e2, _⟩ := hbr 0 _ (List.getElem?_eq_getElem (by rw [HG.out]; omega))
    rw [e] at e2; cases e2) HY.out)
  clear hbr hst hsm hb1 C
  go_wp2_with fail
  refine N.out.mono ?_
  rintro e w2 ⟨R2, rfl, hR2, hrd, hb2⟩
  have M := Lib.hid (num_any R2 bs false 8 w2 hrd (by omega) (by omega))
  have H2 := Lib.hid (And.intro hR2 hb2)
  clear hR2 hrd hb2 N
  go_wp2_with fail
  refine M.out.mono ?_
  rintro e w3 ⟨rfl, hrd3, hg3⟩
  have hnum : (Pk.nx 8 (bs, false)).1 = Pk.num bs := by unfold Pk.nx; rw [if_pos ⟨rfl, by dsimp only; rw [HG.out]; omega⟩]; dsimp only; rw [List.take_of_length_le (by rw [HG.out]; omega)]
  rw [hnum, HX.out]
  have h3 : Below w.heap.size w w3 := (below_grown (HB.out.trans ((H1.out.2.2.trans (H2.out.2.mono H1.out.2.2.size)).mono HB.out.size)) hg3 (by have := HB.out.size; have := H1.out.2.2.size; have := H2.out.1; omega))
  have H3 := Lib.hid h3
  clear hnum hrd3 hg3 h3
  go_wp2_with fail
  go_ret
  exact ⟨rfl, HH.out.below H3.out, HH.out.same H3.out, H3.out⟩
set_option maxHeartbeats 2000000 in
theorem put_st (h : St W T R os ds w) (f i x : Nat) (hf : Fr.own os (f : Int) ≠ 0) (hi : i < 8) (hx : x < 18446744073709551616) :
    Calls Try.prog 25 #[.pointer (some ⟨R, 0, none⟩), .agg #[.int .i64 (f : Int), .int .i64 (i : Int)], .int .u64 (x : Int)] w fun e w' => e = .returned (.tuple #[]) ∧ St W T R os (ds.set (f - 1) (lay8 (ds.getD (f - 1) []) i x)) w' ∧ Same T w w' := by
  have hr := own_range hf
  have hl := h.len
  have hp := Lib.hid (show Fr.put os ds (f : Int) ((i : Int) * 8) (Pk.enc 8 x) = ds.set (f - 1) (lay8 (ds.getD (f - 1) []) i x) from by
    unfold Fr.put lay8
    rw [Pk.enc_len, show ((8 : Nat) : Int) = 8 by rfl, may_of hf hi, if_pos rfl, show ((f : Int).toNat - 1) = f - 1 by omega, show ((i : Int) * 8).toNat = 8 * i by omega])
  have hm := Lib.hid (may_of hf hi)
  have C := Lib.hid (show ∀ X : World, Calls Try.prog 36 #[.slice none 0 0, .int .i64 8, .int .u64 (x : Int)] X (NBs X ([] ++ Pk.enc 8 x)) from fun X => put_any none 0 0 8 x [] X rfl (by omega) (BR.nil _ _) (by omega) (by omega) hx)
  have hk := heap_alloc_new w (Obj.cells #[.int .i64 (f : Int), .int .i64 (i : Int)] 67)
  have c0 : (w.alloc (Obj.cells #[.int .i64 (f : Int), .int .i64 (i : Int)] 67)).cell? ⟨w.heap.size, 0, none⟩ = some (.int .i64 (f : Int)) := by rw [cell_of_row _ _ _ _ 67 (0, 0) hk]; rfl
  have c1 : (w.alloc (Obj.cells #[.int .i64 (f : Int), .int .i64 (i : Int)] 67)).cell? ⟨w.heap.size, 1, none⟩ = some (.int .i64 (i : Int)) := by rw [cell_of_row _ _ _ _ 67 (0, 0) hk]; rfl
  have HH := Lib.hid (h.alloc (Obj.cells #[.int .i64 (f : Int), .int .i64 (i : Int)] 67))
  have HT := Lib.hid h.2.1
  have KS := Lib.hid (fun (w' : World) (hb : Below (w.alloc (Obj.cells #[.int .i64 (f : Int), .int .i64 (i : Int)] 67)).heap.size (w.alloc (Obj.cells #[.int .i64 (f : Int), .int .i64 (i : Int)] 67)) w') => (show w'.cell? ⟨w.heap.size, 0, none⟩ = some (.int .i64 (f : Int)) ∧ w'.cell? ⟨w.heap.size, 1, none⟩ = some (.int .i64 (i : Int)) from ⟨by rw [hb.cell (p := ⟨w.heap.size, 0, none⟩) (by simp)]; exact c0, by rw [hb.cell (p := ⟨w.heap.size, 1, none⟩) (by simp)]; exact c1⟩))
  have KT := Lib.hid (fun (g : Nat) (w1 w2 : World) (hs : w1.cell? ⟨w.heap.size, 0, none⟩ = some (.int .i64 (f : Int)) ∧ w1.cell? ⟨w.heap.size, 1, none⟩ = some (.int .i64 (i : Int))) (hb : Same (g :: w.heap.size :: T) w1 w2) => (show w2.cell? ⟨w.heap.size, 0, none⟩ = some (.int .i64 (f : Int)) ∧ w2.cell? ⟨w.heap.size, 1, none⟩ = some (.int .i64 (i : Int)) from by
    have e := hb w.heap.size (by simp)
    unfold World.cell? at hs ⊢
    rw [e]; exact hs))
  have hf2 : (f : Int) ≤ 4096 := by omega
  have l1 : IntKind.i64.wrap ((i : Int) * 8) = (i : Int) * 8 := by rw [IntKind.wrap_i64]; omega
  clear hl h hk hr hf hx c0 c1
  simp only [List.nil_append] at C
  go_enter Try.func25, Try.ntmps25
  go_upto_region 1 with fail
  have hcall := Lib.hid ((Below.refl (w.alloc (Obj.cells #[.int .i64 (f : Int), .int .i64 (i : Int)] 67)).heap.size (w.alloc (Obj.cells #[.int .i64 (f : Int), .int .i64 (i : Int)] 67))).drew)
  refine wp_region_held_drew (S := fun w' => w'.cell? ⟨w.heap.size, 0, none⟩ = some (.int .i64 (f : Int)) ∧ w'.cell? ⟨w.heap.size, 1, none⟩ = some (.int .i64 (i : Int))) (by kernel_rfl) (KS.out _ hcall.out) (fun hHeld => ?_)
  refine wpAnyH_take (i := 0) (oi := { dst := some 6, op := Op.move (Operand.tmp 0), type := 24, pos := "pages.go:192", after := #[], guard := none }) (v := ?vv1_1) rfl (by kernel_rfl) (by kernel_rfl) (by kernel_rfl) (fun _ _ _ h => h) (Or.inl ⟨by rfl, ?hy1_1⟩) hHeld ?rest1_1
  case hy1_1 => (intro wS hSw; (try dsimp only at hSw); go_simp; try with_reducible rfl)
  simp only [Act.put, List.setIfInBounds_toArray, List.set_cons_zero, List.set_cons_succ]
  refine wpAnyH_take (i := 1) (oi := { dst := some 7, op := Op.fieldAddr 67 (Operand.tmp 4) 0, type := 0, pos := "pages.go:192", after := #[], guard := none }) (v := ?vv1_2) rfl (by kernel_rfl) (by kernel_rfl) (by kernel_rfl) (fun _ _ _ h => h) (Or.inl ⟨by rfl, ?hy1_2⟩) hHeld ?rest1_2
  case hy1_2 => (intro wS hSw; (try dsimp only at hSw); go_simp; try with_reducible rfl)
  simp only [Act.put, List.setIfInBounds_toArray, List.set_cons_zero, List.set_cons_succ]
  refine wpAnyH_take (i := 2) (oi := { dst := some 8, op := Op.load 3 (Operand.tmp 7), type := 3, pos := "pages.go:192", after := #[{ on := 1, ground := Ground.data }], guard := none }) (v := ?vv1_3) rfl (by kernel_rfl) (by kernel_rfl) (by kernel_rfl) (fun _ _ _ h => h) (Or.inl ⟨by rfl, ?hy1_3⟩) hHeld ?rest1_3
  case hy1_3 => (intro wS hSw; (try dsimp only at hSw); go_simp; try with_reducible rfl)
  simp only [Act.put, List.setIfInBounds_toArray, List.set_cons_zero, List.set_cons_succ]
  refine wpAnyH_take (i := 3) (oi := { dst := some 9, op := Op.fieldAddr 67 (Operand.tmp 4) 1, type := 0, pos := "pages.go:192", after := #[], guard := none }) (v := ?vv1_4) rfl (by kernel_rfl) (by kernel_rfl) (by kernel_rfl) (fun _ _ _ h => h) (Or.inl ⟨by rfl, ?hy1_4⟩) hHeld ?rest1_4
  case hy1_4 => (intro wS hSw; (try dsimp only at hSw); go_simp; try with_reducible rfl)
  simp only [Act.put, List.setIfInBounds_toArray, List.set_cons_zero, List.set_cons_succ]
  refine wpAnyH_take (i := 4) (oi := { dst := some 10, op := Op.load 3 (Operand.tmp 9), type := 3, pos := "pages.go:192", after := #[{ on := 3, ground := Ground.data }], guard := none }) (v := ?vv1_5) rfl (by kernel_rfl) (by kernel_rfl) (by kernel_rfl) (fun _ _ _ h => h) (Or.inl ⟨by rfl, ?hy1_5⟩) hHeld ?rest1_5
  case hy1_5 => (intro wS hSw; (try dsimp only at hSw); go_simp; try with_reducible rfl)
  simp only [Act.put, List.setIfInBounds_toArray, List.set_cons_zero, List.set_cons_succ]
  refine wpAnyH_take (i := 5) (oi := { dst := some 11, op := Op.binOp BinOp.mul 3 (Operand.tmp 10) (Operand.const (Value.int IntKind.i64 8)) 3, type := 3, pos := "pages.go:192", after := #[{ on := 4, ground := Ground.data }], guard := none }) (v := ?vv1_6) rfl (by kernel_rfl) (by kernel_rfl) (by kernel_rfl) (fun _ _ _ h => h) (Or.inl ⟨by rfl, ?hy1_6⟩) hHeld ?rest1_6
  case hy1_6 => (intro wS hSw; (try dsimp only at hSw); go_simp; try with_reducible rfl)
  simp only [Act.put, List.setIfInBounds_toArray, List.set_cons_zero, List.set_cons_succ]
  refine wpAnyH_take (i := 6) (oi := { dst := some 12, op := Op.move (Operand.tmp 2), type := 68, pos := "pages.go:192", after := #[], guard := none }) (v := ?vv1_7) rfl (by kernel_rfl) (by kernel_rfl) (by kernel_rfl) (fun _ _ _ h => h) (Or.inl ⟨by rfl, ?hy1_7⟩) hHeld ?rest1_7
  case hy1_7 => (intro wS hSw; (try dsimp only at hSw); go_simp; try with_reducible rfl)
  simp only [Act.put, List.setIfInBounds_toArray, List.set_cons_zero, List.set_cons_succ]
  refine wpAnyH_ready (rs := [7]) (by kernel_rfl) (by simp) ?_
  refine AllReadyH.cons (o := { dst := some 13, op := Op.call { callee := Callee.value (Operand.func 36), args := #[Operand.const (Value.slice none 0 0), Operand.const (Value.int IntKind.i64 8), Operand.tmp 12], argTypes := #[76, 3, 27] }, type := 76, pos := "pages.go:192", after := #[{ on := 6, ground := Ground.data }], guard := none }) rfl (fun K hK => ?_) AllReadyH.nil
  go_simp
  with_reducible refine (C.out _).mono ?_
  rintro e w1 ⟨v, rfl, hn, hb1⟩
  obtain ⟨g, cap, rfl, _⟩ := World.ownsRow.form (show World.ownsRow _ _ 5 1 _ _ _ from hn) (by rw [Pk.enc_len]; omega)
  obtain ⟨A, c, e2, hc, hyr, _⟩ := hn.form
  have hlt := hn.lt g rfl
  rw [Pk.enc_len] at e2 hc ⊢
  injection e2 with e3 _ e4
  subst e3 e4
  replace hcall := Lib.hid (hcall.out.trans (hb1.mono hcall.out.size))
  have hgX : w.heap.size + 1 ≤ g := Nat.le_trans (by simp) hlt.1
  have h2 : St W (g :: w.heap.size :: T) R os ds w1 := HH.out.more hcall.out (T' := g :: w.heap.size :: T) (fun b hb => by
    rcases List.mem_cons.1 hb with rfl | hb
    · exact ⟨.inr (by simp; omega), hlt.2⟩
    · exact ⟨.inl hb, Nat.lt_of_lt_of_le (HH.out.2.1 b hb) hcall.out.size⟩)
  have D := Lib.hid (write_st (f : Int) ((i : Int) * 8) (some ⟨g, 0, none⟩) 8 cap (Pk.enc 8 x) h2 (by omega) (by omega) (by omega) (by omega) (Pk.enc_len _ _) (by omega) hc hyr.br (fun a ha _ => by cases ha; exact .inr (by simp)) (enc_byte 8 x) true hm.out _ hp.out)
  have HS := Lib.hid (KS.out _ hcall.out)
  clear hn hb1 hyr hlt h2 hc hgX
  clear hHeld
  try go_wp2_with fail
  refine hK.out _ _ (by first | exact H5.out | exact KS.out _ hcall.out) (fun hHeld => ?_)
  clear hK K
  try simp only [Act.put, List.setIfInBounds_toArray, List.set_cons_zero, List.set_cons_succ]
  refine wpAnyH_ready (rs := [8]) (by kernel_rfl) (by simp) ?_
  refine AllReadyH.cons (o := { dst := some 14, op := Op.call { callee := Callee.value (Operand.func 35), args := #[Operand.tmp 6, Operand.tmp 8, Operand.tmp 11, Operand.tmp 13], argTypes := #[24, 3, 3, 76] }, type := 4, pos := "pages.go:192", after := #[{ on := 0, ground := Ground.data }, { on := 2, ground := Ground.data }, { on := 5, ground := Ground.data }, { on := 7, ground := Ground.data }, { on := 7, ground := Ground.chain }], guard := none }) rfl (fun K hK => ?_) AllReadyH.nil
  go_simp
  with_reducible refine (D.out).mono ?_
  rintro e w2 ⟨rfl, hst, hsm⟩
  have H3 := Lib.hid (And.intro hst hsm)
  have H5 := Lib.hid (KT.out _ _ _ HS.out hsm)
  clear hst hsm
  clear hHeld
  try go_wp2_with fail
  refine hK.out _ _ (by first | exact H5.out | exact KS.out _ hcall.out) (fun hHeld => ?_)
  clear hK K
  try simp only [Act.put, List.setIfInBounds_toArray, List.set_cons_zero, List.set_cons_succ]
  refine wpAnyH_done (by kernel_rfl) ?_ _
  try go_wp2_with fail
  refine bodyPost_end (results_none rfl _ _ _) rfl ⟨rfl, H3.out.1.less (by simp_all), fun b hb => ?_⟩
  rw [H3.out.2 b (by simp [hb])]
  exact (hcall.out.block b (by have := HT.out b hb; simp; omega)).trans ((below_alloc1 w _).block b (HT.out b hb))
theorem or_one (q : Nat) (hq : q < 72057594037927936) : bits .or .u64 (IntKind.u64.wrap ((q : Int) * 256)) 1 = ((q * 256 + 1 : Nat) : Int) := by
  have := or_byte q 1 hq (by omega)
  simpa [IntKind.wrap, IntKind.bits, IntKind.signed] using this
theorem or_two (q : Nat) (hq : q < 72057594037927936) : bits .or .u64 ((q * 256 + 1 : Nat) : Int) 2 = ((q * 256 + 3 : Nat) : Int) := by
  have h1 : (BitVec.ofInt 64 ((q * 256 + 1 : Nat) : Int)).toNat = q * 256 + 1 := by rw [BitVec.toNat_ofInt]; omega
  have h2 : (BitVec.ofInt 64 2).toNat = 2 := by decide
  show IntKind.u64.wrap ((BitVec.ofInt 64 ((q * 256 + 1 : Nat) : Int) ||| BitVec.ofInt 64 2).toNat : Nat) = _
  rw [BitVec.toNat_or, h1, h2]
  have e : (q * 256 + 1) ||| 2 = q * 256 + 3 := by
    have e1 := Nat.shiftLeft_add_eq_or_of_lt (i := 8) (b := 1) (by omega) q
    have e3 := Nat.shiftLeft_add_eq_or_of_lt (i := 8) (b := 3) (by omega) q
    rw [Nat.shiftLeft_eq] at e1 e3
    have e4 : (1 : Nat) ||| 2 = 3 := by decide
    rw [show q * 256 + 1 = q * 2 ^ 8 + 1 by rfl, e1, Nat.or_assoc, e4, ← e3]
  rw [e, IntKind.wrap_u64]
  omega
/-- The entry that leads to a frame. -/
def lead (f : Nat) (m : Bool) : Nat := f * 256 + if m = true then 3 else 1
theorem lead_there (f : Nat) (m : Bool) : there (lead f m) = true := by unfold there lead; cases m <;> simp <;> omega
theorem lead_frame (f : Nat) (m : Bool) : frame (lead f m) = f := by unfold frame lead; cases m <;> simp <;> omega
theorem lead_may (f : Nat) (m : Bool) : may (lead f m) = m := by unfold may lead; cases m <;> simp <;> omega
theorem lead_look (f : Nat) (m : Bool) : Pg.look (lead f m) = some (f, m) := by unfold Pg.look; rw [if_pos (lead_there f m), lead_frame, lead_may]
theorem lead_lt {f : Nat} {m : Bool} (h : f ≤ 1000000) : lead f m < 18446744073709551616 := by unfold lead; split <;> omega
theorem lead_any (f : Nat) (m : Bool) (w : World) (hf : f ≤ 1000000) : Calls Try.prog 27 #[.int .i64 (f : Int), .bool m] w fun e w' => e = .returned (.int .u64 ((lead f m : Nat) : Int)) ∧ w = w' := by
  have o1 := or_one f (by omega)
  have o2 := or_two f (by omega)
  have u1 : IntKind.u64.wrap (f : Int) = (f : Int) := by rw [IntKind.wrap_u64]; omega
  rw [show IntKind.u64.wrap ((f : Int) * 256) = (f : Int) * 256 by rw [IntKind.wrap_u64]; omega] at o1
  cases m with
  | false =>
    have hr := Lib.hid (show ((lead f false : Nat) : Int) = ((f * 256 + 1 : Nat) : Int) by unfold lead; simp)
    obtain ⟨x, ex⟩ : ∃ x : Int, ((f * 256 + 1 : Nat) : Int) = x := ⟨_, rfl⟩
    rw [ex] at o1 hr
    clear o2 ex
    go_enter Try.func27, Try.ntmps27
    go_wp2_with fail
    go_ret
    exact ⟨by rw [hr.out]; rfl, rfl⟩
  | true =>
    have hr := Lib.hid (show ((lead f true : Nat) : Int) = ((f * 256 + 3 : Nat) : Int) by unfold lead; simp)
    obtain ⟨x, ex⟩ : ∃ x : Int, ((f * 256 + 1 : Nat) : Int) = x := ⟨_, rfl⟩
    obtain ⟨y, ey⟩ : ∃ y : Int, ((f * 256 + 3 : Nat) : Int) = y := ⟨_, rfl⟩
    rw [ex] at o1 o2
    rw [ey] at o2 hr
    clear ex ey
    go_enter Try.func27, Try.ntmps27
    go_wp2_with fail
    go_ret
    exact ⟨by rw [hr.out]; rfl, rfl⟩
theorem frame_any (x : Nat) (w : World) (hx : x < 18446744073709551616) : Calls Try.prog 30 #[.int .u64 (x : Int)] w fun e w' => e = .returned (.int .i64 ((frame x : Nat) : Int)) ∧ w = w' := by
  have hr := Lib.hid (show (x : Int) / 256 = ((frame x : Nat) : Int) by unfold frame; omega)
  go_enter Try.func30, Try.ntmps30
  go_wp2_with fail
  go_ret
  exact ⟨by rw [← hr.out] <;> rfl, rfl⟩
/-- A table's entry that leads to a page, by its level. -/
def idx (p l : Nat) : Nat := p / 8 ^ (3 - l) % 8
theorem idx_lt (p l : Nat) : idx p l < 8 := Nat.mod_lt _ (by omega)
theorem index_any (p l : Nat) (w : World) (hp : p < 4096) (hl : l < 4) : Calls Try.prog 26 #[.int .i64 (p : Int), .int .i64 (l : Int)] w fun e w' => e = .returned (.int .i64 ((idx p l : Nat) : Int)) ∧ w = w' := by
  have h : l = 0 ∨ l = 1 ∨ l = 2 ∨ l = 3 := by omega
  rcases h with rfl | rfl | rfl | rfl
  · have hr := Lib.hid (show (p : Int) / 512 % 8 = ((idx p 0 : Nat) : Int) by unfold idx; simp <;> omega)
    go_enter Try.func26, Try.ntmps26
    go_wp2_with fail
    go_ret
    exact ⟨by rw [← hr.out] <;> rfl, rfl⟩
  · have hr := Lib.hid (show (p : Int) / 64 % 8 = ((idx p 1 : Nat) : Int) by unfold idx; simp <;> omega)
    go_enter Try.func26, Try.ntmps26
    go_wp2_with fail
    go_ret
    exact ⟨by rw [← hr.out] <;> rfl, rfl⟩
  · have hr := Lib.hid (show (p : Int) / 8 % 8 = ((idx p 2 : Nat) : Int) by unfold idx; simp <;> omega)
    go_enter Try.func26, Try.ntmps26
    go_wp2_with fail
    go_ret
    exact ⟨by rw [← hr.out] <;> rfl, rfl⟩
  · have hr := Lib.hid (show (p : Int) % 8 = ((idx p 3 : Nat) : Int) by unfold idx; simp)
    go_enter Try.func26, Try.ntmps26
    go_wp2_with fail
    go_ret
    exact ⟨by rw [← hr.out] <;> rfl, rfl⟩
theorem fits_yes (f : Nat) (w : World) (h1 : 1 ≤ f) (h2 : f ≤ 1000000) : Calls Try.prog 23 #[.int .i64 (f : Int)] w fun e w' => e = .returned (.bool true) ∧ w = w' := by
  have L := Lib.hid (lead_any f false w h2)
  have F := Lib.hid (frame_any (lead f false) w (lead_lt h2))
  rw [lead_frame] at F
  obtain ⟨x, ex⟩ : ∃ x, lead f false = x := ⟨_, rfl⟩
  rw [ex] at L F
  clear ex
  go_enter Try.func23, Try.ntmps23
  go_wp2_with fail
  refine L.out.mono ?_; rintro e w1 ⟨rfl, rfl⟩
  go_wp2_with fail
  refine F.out.mono ?_; rintro e w1 ⟨rfl, rfl⟩
  go_wp2_with fail
  go_ret
  exact ⟨rfl, rfl⟩
theorem fits_no (f : Int) (w : World) (h1 : f ≤ 0) : Calls Try.prog 23 #[.int .i64 f] w fun e w' => e = .returned (.bool false) ∧ w = w' := by
  go_enter Try.func23, Try.ntmps23
  go_wp2_with fail
  go_ret
  exact ⟨rfl, rfl⟩
end Go.Proofs.Ytliljicmkgbfpaa
