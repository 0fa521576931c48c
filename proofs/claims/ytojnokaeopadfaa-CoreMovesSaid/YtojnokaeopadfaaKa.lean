/- Instructions are laid into a memory; fit. -/
import Derived.Test.YtojnokaeopadfaaHm
import Derived.Laws.CopyRow
import Derived.Laws.IdiomCopy
set_option linter.unusedVariables false
set_option linter.unusedSimpArgs false
namespace Cor
/-- Bytes laid over others. -/
def lay (f : Nat → Nat) (off : Nat) (bs : List Nat) : Nat → Nat := fun j => if off ≤ j ∧ j < off + bs.length then bs.getD (j - off) 0 else f j
theorem lay_lt {f : Nat → Nat} (h : ∀ i, f i < 256) (off : Nat) {bs : List Nat} (hb : ∀ x ∈ bs, x < 256) : ∀ j, lay f off bs j < 256 := by
  intro j
  unfold lay
  split
  · rename_i hj
    rw [List.getD_eq_getElem?_getD, List.getElem?_eq_getElem (by omega)]
    exact hb _ (List.getElem_mem _)
  · exact h j
theorem im_enc (m : Int) (i1 : -2147483648 ≤ m) (i2 : m ≤ 2147483647) : Isa.im [(m / 16777216 % 256).toNat, (m / 65536 % 256).toNat, (m / 256 % 256).toNat, (m % 256).toNat] = m := by
  unfold Isa.im Isa.num Go.RowKit.wrap32
  simp only [List.foldl, Nat.zero_mul, Nat.zero_add]
  omega
/-- A step at an instruction's bytes. -/
theorem stp_enc (n : Nat) (hole : Int) (s : S) (o a b c : Nat) (m : Int) (h1 : s.pc < 262144) (h2 : s.pc % 8 = 0) (h3 : ok n hole s.pc 8 = true) (hf : ∀ k x, (Isa.enc o a b c m)[k]? = some x → s.f (s.pc + k) = x)
    (o1 : 1 ≤ o) (o2 : o ≤ 43) (ha : a < 16) (hb : b < 16) (hc : c < 16) (i1 : -2147483648 ≤ m) (i2 : m ≤ 2147483647) : stp n hole s = exec n hole o a b c m s := by
  have e0 : s.f s.pc = o := by have := hf 0 _ rfl; rw [Nat.add_zero] at this; rw [this]; omega
  have e1 : s.f (s.pc + 1) = a := by have := hf 1 _ rfl; rw [this]; omega
  have e2 : s.f (s.pc + 2) = b := by have := hf 2 _ rfl; rw [this]; omega
  have e3 : s.f (s.pc + 3) = c := by have := hf 3 _ rfl; rw [this]; omega
  have e4 := hf 4 _ rfl
  have e5 := hf 5 _ rfl
  have e6 := hf 6 _ rfl
  have e7 := hf 7 _ rfl
  unfold stp
  rw [if_neg (by omega), h3, if_neg (by decide), e0, e1, e2, e3, e4, e5, e6, e7, im_enc m i1 i2, if_pos (by unfold Isa.Right; omega)]
theorem lay_at (f : Nat → Nat) (off : Nat) (bs : List Nat) {k x : Nat} (h : bs[k]? = some x) : lay f off bs (off + k) = x := by
  have hk := (List.getElem?_eq_some_iff.1 h).1
  unfold lay
  rw [if_pos (by omega), show off + k - off = k by omega, List.getD_eq_getElem?_getD, h]
  rfl
theorem lay_ne (f : Nat → Nat) (off : Nat) (bs : List Nat) {j : Nat} (h : j < off ∨ off + bs.length ≤ j) : lay f off bs j = f j := by
  unfold lay
  rw [if_neg (by omega)]
theorem stp_fit : stp 64 0 ⟨fun _ => 0, 8, lay (fun _ => 0) 8 (Isa.enc 29 15 0 0 2)⟩ = (⟨put (fun _ => 0) 15 16, 24, lay (fun _ => 0) 8 (Isa.enc 29 15 0 0 2)⟩, 0) := by
  rw [stp_enc 64 0 _ 29 15 0 0 2 (by decide) (by decide) (by decide) (fun k x h => by exact lay_at (fun _ => 0) 8 _ h) (by decide) (by decide) (by decide) (by decide) (by decide) (by decide) (by decide)]
  rfl
end Cor
namespace Go.Proofs.Ytojnokaeopadfaa
open Go.RowKit

theorem step_copy {P : Program} {ops : Array Oper} {o : Oper} {a : Act} {w : World} {K : Act → World → Prop} {Q : Exit → Act → World → Prop} {E : Prop} (hgd : o.guard = none) (d s : Operand) (dT sT : TypeId)
    (ho : o.op = .call { callee := .builtin .copy, args := #[d, s], argTypes := #[dT, sT] }) (x y r : Value) (hd : a.eval d = x) (hs : a.eval s = y) (w' : World)
    (hrun : (Builtin.copy_ #[dT, sT] o.type #[x, y]).run P w = .ok r w') (h : K (a.put o.dst r) w') : if Region.wanted o (yielded ops a.tmps) = true then Oper.wp P o a w K Q else E := by
  have hw : Region.wanted o (yielded ops a.tmps) = true := by simp [Region.wanted, hgd]
  rw [if_pos hw]
  unfold Oper.wp
  simp [execOp, ho, resolve, invoke, builtin, hd, hs, hrun, Result.andThen]
  exact h
theorem size5u : (Try.prog.info? 5).map (·.size) = some 1 := by kernel_rfl
/-- Bytes are copied into a memory. -/
theorem copy_ms {w : World} {g y n : Nat} {hole : Int} {f : Nat → Nat} (h : MS w g y n hole f) (ty : TypeId) (off l cp : Nat) (A : Option Addr) (bs : List Nat) (hb : bs.length = 8) (hl : 8 ≤ l) (ho : off + 8 ≤ n) (hr : BR w A bs) :
    ∃ w', (Builtin.copy_ #[25, 25] ty #[.slice (some ⟨y, off, none⟩) l cp, .slice A 8 8]).run Try.prog w = .ok (goInt 8) w' ∧ MS w' g y n hole (Cor.lay f off bs) ∧ Turn [y] w w' := by
  obtain ⟨cap, h1, ⟨cs, h2, h6⟩, h3, h4, h5⟩ := h
  obtain ⟨sb, so, rfl, _, _⟩ := hr 0 (bs.getD 0 0) (by rw [List.getD_eq_getElem?_getD, List.getElem?_eq_getElem (by omega)]; rfl)
  have hcs : off + 8 ≤ cs.length := by
    have := (List.getElem?_eq_some_iff.1 (h6 (off + 7) (by omega))).1
    omega
  have hrun := run_copy_row (P := Try.prog) w 25 25 ty 5 y off l cp ⟨sb, so, none⟩ 8 8 cs.toArray 5 (Y bs) Try.underlying25 size5u h2 (by rw [Y_len, hb]; exact (Nat.min_eq_left hl).symm) (fun j v hv => by
    obtain ⟨x, hx, rfl⟩ := Y_get hv
    obtain ⟨b', o', e, _, hc⟩ := hr j x hx
    injection e with e
    injection e with e1 e2
    subst e1 e2
    rw [addr_add]; exact hc) (by rw [Y_len, hb]; simpa using hcs) (Y_one bs)
  rw [Y_len, hb] at hrun
  refine ⟨_, hrun, ⟨cap, ?_, ⟨_, setRow_heap w y _ _ _ _ h2, fun i hi => ?_⟩, h3, h4, h5⟩, ⟨rfl, rfl, rfl, by simp [World.setRow], fun k hk hn => setRow_other w y k _ (fun e => hn (by simp [e]))⟩⟩
  · rw [setRow_other w y g _ h5]; exact h1
  · have hlen : (cs.take off).length = off := by rw [List.length_take]; omega
    unfold Cor.lay
    rw [hb, List.append_assoc, show cs.toArray.toList = cs from rfl]
    by_cases c1 : i < off
    · rw [if_neg (by omega), List.getElem?_append_left (by omega), List.getElem?_take, if_pos c1]
      exact h6 i hi
    · rw [List.getElem?_append_right (by omega), hlen]
      by_cases c2 : i < off + 8
      · rw [if_pos (by omega), List.getElem?_append_left (by rw [Y_len, hb]; omega)]
        refine Y_at ?_
        rw [List.getD_eq_getElem?_getD, List.getElem?_eq_getElem (by omega)]
        rfl
      · rw [if_neg (by omega), List.getElem?_append_right (by rw [Y_len, hb]; omega), Y_len, hb, List.getElem?_drop, show off + 8 + (i - off - 8) = i by omega]
        exact h6 i hi
/-- A memory of zeros is laid. -/
theorem ms_made (w : World) (n : Nat) (hn : n ≤ 100000) (hole : Int) : MS ((w.alloc (Obj.cells (Y (List.replicate n 0)).toArray 5)).alloc (Obj.cells #[.slice (some ⟨w.heap.size, 0, none⟩) n n, .int .i64 hole] 31)) (w.heap.size + 1) w.heap.size n hole (fun _ => 0) := by
  refine ⟨n, ?_, ⟨Y (List.replicate n 0), ?_, fun i hi => Y_at ?_⟩, Nat.le_refl _, hn, by omega⟩
  · have := heap_alloc_new (w.alloc (Obj.cells (Y (List.replicate n 0)).toArray 5)) (Obj.cells #[.slice (some ⟨w.heap.size, 0, none⟩) n n, .int .i64 hole] 31)
    rw [World.size_alloc] at this
    exact this
  · rw [heap_alloc_old _ _ (by simp)]
    exact heap_alloc_new w _
  · rw [List.getElem?_replicate, if_pos hi]
set_option maxRecDepth 100000 in
theorem fit_any (w : World) : Calls Try.prog 7 #[] w fun e w' => e = .returned (.bool true) ∧ Nr [] w w' := by
  have hmk := run_bytes w 64 (by omega)
  rw [show ((64 : Nat) : Int) = 64 from rfl] at hmk
  have hm := ms_made w 64 (by omega) 0
  obtain ⟨W0, e0⟩ : ∃ W0, w.alloc (Obj.cells (Y (List.replicate 64 0)).toArray 5) = W0 := ⟨_, rfl⟩
  obtain ⟨y, ey⟩ : ∃ y, w.heap.size = y := ⟨_, rfl⟩
  have eg : W0.heap.size = y + 1 := by rw [← e0, World.size_alloc, ey]
  rw [e0, ey] at hm hmk
  obtain ⟨W1, e1⟩ : ∃ W1, W0.alloc (Obj.cells #[.slice (some ⟨y, 0, none⟩) 64 64, .int .i64 0] 31) = W1 := ⟨_, rfl⟩
  rw [e1] at hm
  have hn : Nr [] w W1 := by rw [← e1, ← e0]; exact ((Nr.refl _ _).alloc _).alloc _
  have C := Lib.hid (fun (W : World) => encode_any 29 15 0 0 2 W)
  have HM := Lib.hid (And.intro hm hn)
  obtain ⟨cap, k0, _, hcap, _⟩ := hm.cells
  clear hm hn
  have hy := Lib.hid (show w.heap.size ≤ y by omega)
  have KD := Lib.hid (fun (W : World) (h : Below W1.heap.size W1 W) => (show W.cell? ⟨y + 1, 0, none⟩ = some (.slice (some ⟨y, 0, none⟩) 64 cap) by rw [h.cell (block_lt_of_cell k0)]; exact k0))
  have hcall := Lib.hid ((Below.refl W1.heap.size W1).drew)
  have HB := Lib.hid (byte_enc 29 15 0 0 2)
  go_enter Try.func7, Try.ntmps7
  go_upto_region 2 with fail
  clear hmk e0 e1 eg ey
  go_region_held3 (fun w' => w'.cell? ⟨y + 1, 0, none⟩ = some (.slice (some ⟨y, 0, none⟩) 64 cap))
    (first | exact KD.out _ hcall.out | exact hfin.out.2.2)
    (first
      | (go_at_call 8; refine (C.out _).mono ?_; rintro e wq ⟨z, rfl, hbr, hb⟩; replace hcall := Lib.hid (hcall.out.trans (hb.mono hcall.out.size)); have HBR := Lib.hid hbr; clear hbr hb)
      | (obtain ⟨w2, hrun, hms, htn⟩ := copy_ms (HM.out.1.below hcall.out) 3 8 56 (cap - 8) _ _ rfl (by omega) (by omega) HBR.out
         refine step_copy rfl (.tmp 10) (.tmp 12) 25 25 rfl _ _ _ rfl rfl w2 hrun ?_
         have hfin := Lib.hid (And.intro hms (And.intro ((HM.out.2.next (Nr.of_below hcall.out)).trans (Nr.of_turn htn) (by simpa using hy.out)) (show w2.cell? ⟨y + 1, 0, none⟩ = some (.slice (some ⟨y, 0, none⟩) 64 cap) by
           rw [World.cell?_of_block (w := wq) (htn.block (y + 1) (Nat.lt_of_lt_of_le (block_lt_of_cell k0) hcall.out.size) (by simp))]; exact KD.out _ hcall.out)))
         clear hms htn hrun))
  all_goals
    as_aux_lemma =>
      have HM2 := Lib.hid (And.intro hfin.out.1 hfin.out.2.1)
      have hs2 := hfin.out.1.lt
      clear hfin hcall KD HM
      obtain ⟨W3, e3⟩ : ∃ W3, w2.alloc (Obj.cells (rl (fun _ => 0) 8).toArray 35) = W3 := ⟨_, rfl⟩
      obtain ⟨c, ec⟩ : ∃ c, w2.heap.size = c := ⟨_, rfl⟩
      have hc3 : CS W3 c 35 (fun _ => 0) 8 := by rw [← e3, ← ec]; exact heap_alloc_new w2 _
      have hm3 := HM2.out.1.below (show Below w2.heap.size w2 W3 by rw [← e3]; exact below_alloc1 w2 _)
      have hn3 : Nr [] w W3 := by rw [← e3]; exact HM2.out.2.alloc _
      have hcw : w.heap.size ≤ c := by rw [← ec]; exact HM2.out.2.size
      have ST := Lib.hid (step_any (s := ⟨fun _ => 0, 8, Cor.lay (fun _ => 0) 8 (Isa.enc 29 15 0 0 2)⟩) W3 hc3 hm3 ⟨fun _ => Nat.zero_lt_succ _, (by decide : (8 : Nat) < 18446744073709551616), Cor.lay_lt (fun _ => Nat.zero_lt_succ _) 8 HB.out⟩ (by omega) (by omega))
      rw [Cor.stp_fit] at ST
      have HN3 := Lib.hid (And.intro hn3 hcw)
      replace e3 : w2.alloc (Obj.cells #[.int .u64 0, .int .u64 0, .int .u64 0, .int .u64 0, .int .u64 0, .int .u64 0, .int .u64 0, .int .u64 0, .int .u64 0, .int .u64 0, .int .u64 0, .int .u64 0, .int .u64 0, .int .u64 0, .int .u64 0, .int .u64 0, .int .u64 8] 35) = W3 := e3
      unfold IV at ST
      clear hc3 hm3 hn3 hcw
      go_wp2_with fail
      refine ST.out.mono ?_; rintro e w4 ⟨rfl, h5, h6, h7⟩
      have p15 : w4.cell? ⟨c, 15, none⟩ = some (.int .u64 16) := h5.cell (k := 15) (by decide)
      have p16 : w4.cell? ⟨c, 16, none⟩ = some (.int .u64 24) := h5.next
      dsimp only
      have HE := Lib.hid (HN3.out.1.trans h7 (by intro x hx; simp only [List.mem_cons, List.mem_nil_iff, or_false] at hx; rcases hx with rfl | rfl; exact .inr HN3.out.2; exact .inr hy.out))
      clear h5 h6 h7 ST
      go_wp2_with fail
      go_ret
      exact ⟨rfl, HE.out⟩
end Go.Proofs.Ytojnokaeopadfaa
