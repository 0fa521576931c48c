/- Worlds near a world: what is listed has turned, and what is new; drawn regions that read; a core's reckon. -/
import Derived.Test.YtojnokaeopadfaaHb
import Derived.Test.YtojnokaeopadfaaUa
import Derived.Carry
set_option linter.unusedVariables false
set_option linter.unusedSimpArgs false
namespace Go.Proofs.Ytojnokaeopadfaa
open Go.RowKit

/-- Only what is listed has turned, and what is new; the tape is not told. -/
structure Nr (S : List Nat) (w w' : World) : Prop where
  os : w'.os = w.os
  output : w'.output = w.output
  size : w.heap.size ≤ w'.heap.size
  block : ∀ k, k < w.heap.size → k ∉ S → w'.heap[k]? = w.heap[k]?
theorem Nr.refl (S : List Nat) (w : World) : Nr S w w := ⟨rfl, rfl, Nat.le_refl _, fun _ _ _ => rfl⟩
theorem Nr.of_below {S : List Nat} {w w' : World} (h : Below w.heap.size w w') : Nr S w w' := ⟨h.os, h.output, h.size, fun k hk _ => h.block k hk⟩
theorem Nr.of_turn {S : List Nat} {w w' : World} (h : Turn S w w') : Nr S w w' := ⟨h.os, h.output, h.size, h.block⟩
theorem Nr.of_grown {S : List Nat} {w w' : World} (h : Grown w w') : Nr S w w' := by
  obtain ⟨⟨h1, h2, h3⟩, h4, h5⟩ := h
  refine ⟨h1, h2, h5, fun k hk _ => ?_⟩
  have h6 := h3 k hk
  revert h6
  cases e : w.heap[k]? with
  | none => exact fun h => h
  | some o =>
    cases e' : w'.heap[k]? with
    | none => cases o <;> exact fun h => h
    | some o' =>
      cases o with
      | cells c t fr =>
        cases o' with
        | cells c' t' fr' =>
          rintro ⟨rfl, rfl, hs, hj⟩
          have : c' = c := Array.ext_getElem? fun j => hj j (fun f => f)
          rw [this]
        | _ => exact fun h => h
      | map es cl =>
        cases o' with
        | map es' cl' =>
          rintro (h | ⟨rfl, rfl⟩)
          · exact h.elim
          · rfl
        | _ => exact fun h => h
      | _ => cases o' <;> exact fun h => h
theorem Nr.trans {S S' : List Nat} {a b c : World} (h : Nr S a b) (k : Nr S' b c) (hs : ∀ x ∈ S', x ∈ S ∨ a.heap.size ≤ x) : Nr S a c :=
  ⟨k.os.trans h.os, k.output.trans h.output, Nat.le_trans h.size k.size, fun i hi hn =>
    (k.block i (Nat.lt_of_lt_of_le hi h.size) fun hm => by rcases hs i hm with h | h; exact hn h; omega).trans (h.block i hi hn)⟩
theorem Nr.more {S S' : List Nat} {a b : World} (h : Nr S a b) (hs : ∀ x ∈ S, x ∈ S') : Nr S' a b := ⟨h.os, h.output, h.size, fun k hk hn => h.block k hk fun hm => hn (hs k hm)⟩
theorem Nr.next {S : List Nat} {a b c : World} (h : Nr S a b) (k : Nr [] b c) : Nr S a c := h.trans k (by simp)
theorem Nr.set {S : List Nat} {a w : World} (h : Nr S a w) {b : Nat} (hb : b ∈ S ∨ a.heap.size ≤ b) (i : Nat) (v : Value) : Nr S a (w.setCell ⟨b, i, none⟩ v) :=
  h.trans (Nr.of_turn (Turn.set w b i v)) (by simpa using hb)
theorem Nr.alloc {S : List Nat} {a w : World} (h : Nr S a w) (o : Obj) : Nr S a (w.alloc o) := h.next (Nr.of_below (below_alloc1 w o))
theorem Nr.drew {S : List Nat} {a w : World} (h : Nr S a w) : Nr S a w.drew := ⟨h.os, h.output, h.size, h.block⟩
theorem Nr.frame {w w' : World} (h : Nr [] w w') (may : MemPlace → Prop) : w.keptBut w' may := by
  have hb : Below w.heap.size w {w' with tape := w.tape} := ⟨h.os, rfl, h.output, h.size, fun k hk => h.block k hk (by simp)⟩
  have hk := hb.frame may
  unfold World.keptBut at hk ⊢
  exact hk
theorem Nr.trod {H : Type} {enc : TypeId × Value → H} {P : Program} {t : TypeId} (hl : laidOutB P = true) (hr : P.readableRec t = true) (hrow : t < P.types.size) {W W' : World} {v : Value} {d : DataW H} {ps : List MemPlace}
    (h : DataW.Trod enc P W 0 (fun _ => true) true t v d ps) (hb : Nr [] W W') (hlt : ∀ x ∈ ps, x.block < W.heap.size) :
    DataW.Trod enc P W' 0 (fun b => decide (b < W.heap.size)) true t v d ps :=
  WideElems.Trod_stays hl hr hrow h (fun x hx => by
    have hk := hb.block x.block (hlt x hx) (by simp)
    cases x with
    | cell b off => exact World.cell?_of_block (w := W) hk
    | map b => exact hk) (fun x hx => by simpa using hlt x hx)
theorem CS.nr {w w' : World} {c : Nat} {T : TypeId} {R : Nat → Nat} {pc : Nat} {S : List Nat} (h : CS w c T R pc) (hb : Nr S w w') (hS : c ∉ S) : CS w' c T R pc := (hb.block c h.lt hS).trans h
theorem MS.nr {w w' : World} {m b n : Nat} {hole : Int} {f : Nat → Nat} {S : List Nat} (h : MS w m b n hole f) (hb : Nr S w w') (hm : m ∉ S) (hS : b ∉ S) : MS w' m b n hole f := by
  have hl := h.lt
  obtain ⟨cap, h1, h2, h3⟩ := h
  exact ⟨cap, (hb.block m hl.1 hm).trans h1, h2.keep (hb.block b hl.2 hS), h3⟩
structure Nearby (w : World) where
  W : World
  near : Nr [] w W
instance (w : World) : Inhabited (Nearby w) := ⟨⟨w, Nr.refl [] w⟩⟩
theorem wp_region_near {P : Program} {id : Nat} {Q : Exit → Act → World → Prop} {a : Act} {w : World} {l : List Oper} (hm : P.follows .mixedOrders = true) (hB : Region.lexB .any l.toArray = true)
    (h : wpQuiet P l.toArray (fun w' => ∃ p : Nearby w, w' = p.W) (fun a' => ∀ w', (∃ p : Nearby w, w' = p.W) → Q .normal a' w') l a) : (Code.region id l.toArray true).wp P Q a w :=
  wp_region_quiet (C := fun w' => ∃ p : Nearby w, w' = p.W) hm hB ⟨⟨w.drew, (Nr.refl [] w).drew⟩, rfl⟩ (by simpa using h)
theorem Calls.near_of {P : Program} {f : FuncId} {args : Array Value} {w : World} {p : Nearby w} {v : Value}
    (h : Calls P f args p.W fun e w' => e = .returned v ∧ Nr [] p.W w') : Calls P f args p.W fun e w'' => e = .returned v ∧ ∃ q : Nearby w, w'' = q.W :=
  h.mono fun _ _ ⟨he, hb⟩ => ⟨he, ⟨_, p.near.next hb⟩, rfl⟩

/-- An instruction in block X. -/
def XS (w : World) (X : Nat) (op : Int) (a b d : Nat) (m : Int) : Prop := w.heap[X]? = some (Obj.cells #[.int .i64 op, .int .i64 (a : Nat), .int .i64 (b : Nat), .int .i64 (d : Nat), .int .i32 m] 27)
theorem XS.lt {w : World} {X : Nat} {op : Int} {a b d : Nat} {m : Int} (h : XS w X op a b d m) : X < w.heap.size := (Array.getElem?_eq_some_iff.1 h).1
theorem XS.nr {w w' : World} {X : Nat} {op : Int} {a b d : Nat} {m : Int} {S : List Nat} (h : XS w X op a b d m) (hb : Nr S w w') (hS : X ∉ S) : XS w' X op a b d m := (hb.block X h.lt hS).trans h
theorem XS.cells {w : World} {X : Nat} {op : Int} {a b d : Nat} {m : Int} (h : XS w X op a b d m) : w.cell? ⟨X, 0, none⟩ = some (.int .i64 op) ∧ w.cell? ⟨X, 1, none⟩ = some (.int .i64 (a : Nat)) ∧ w.cell? ⟨X, 2, none⟩ = some (.int .i64 (b : Nat)) ∧ w.cell? ⟨X, 3, none⟩ = some (.int .i64 (d : Nat)) ∧ w.cell? ⟨X, 4, none⟩ = some (.int .i32 m) := by
  refine ⟨?_, ?_, ?_, ?_, ?_⟩ <;> rw [cell_of_row _ _ _ _ 27 (0, 0) h] <;> rfl

set_option maxRecDepth 100000 in
theorem reck_core {c : Nat} {R : Nat → Nat} {pc : Nat} (op : Int) (a b d : Nat) (m : Int) (w : World) (h : CS w c 35 R pc) (hR : ∀ i, R i < 18446744073709551616) (ha : a < 16) (hb : b < 16) (hd : d < 16) :
    Calls Try.prog 25 #[.pointer (some ⟨c, 0, none⟩), .agg #[.int .i64 op, .int .i64 (a : Nat), .int .i64 (b : Nat), .int .i64 (d : Nat), .int .i32 m]] w fun e w' => e = .returned (.int .i64 (if (Alu.rk op (R b) (R d)).2 = true then 0 else 5)) ∧ CS w' c 35 (if (Alu.rk op (R b) (R d)).2 = true then Cor.put R a (Alu.rk op (R b) (R d)).1 else R) pc ∧ Nr [c] w w' := by
  obtain ⟨v, o, hv⟩ : ∃ v o, Alu.rk op (R b) (R d) = (v, o) := ⟨_, _, rfl⟩
  have C := Lib.hid (fun (W : World) => reckon_any op (R b) (R d) W (hR b) (hR d))
  rw [hv] at C ⊢
  dsimp only
  obtain ⟨W1, e1⟩ : ∃ W1, w.alloc (Obj.cells #[.int .i64 op, .int .i64 (a : Nat), .int .i64 (b : Nat), .int .i64 (d : Nat), .int .i32 m] 27) = W1 := ⟨_, rfl⟩
  obtain ⟨X, eX⟩ : ∃ X, w.heap.size = X := ⟨_, rfl⟩
  have hx1 : XS W1 X op a b d m := by rw [← e1, ← eX]; exact heap_alloc_new w _
  have hn1 : Nr [c] w W1 := by rw [← e1]; exact (Nr.refl _ _).alloc _
  have hc1 : CS W1 c 35 R pc := h.below (by rw [← e1]; exact below_alloc1 w _)
  have hcX : c ≠ X := by have := h.lt; omega
  have kx : ∀ p : Nearby W1, p.W.cell? ⟨X, 0, none⟩ = some (.int .i64 op) ∧ p.W.cell? ⟨X, 2, none⟩ = some (.int .i64 (b : Nat)) ∧ p.W.cell? ⟨X, 3, none⟩ = some (.int .i64 (d : Nat)) := fun p => by
    obtain ⟨x0, x1, x2, x3, x4⟩ := (hx1.nr p.near (by simp)).cells
    exact ⟨x0, x2, x3⟩
  have k0 := fun p => (kx p).1
  have k2 := fun p => (kx p).2.1
  have k3 := fun p => (kx p).2.2
  have kb : ∀ p : Nearby W1, p.W.cell? ⟨c, b, none⟩ = some (.int .u64 (R b : Nat)) := fun p => (hc1.nr p.near (by simp)).cell hb
  have kd : ∀ p : Nearby W1, p.W.cell? ⟨c, d, none⟩ = some (.int .u64 (R d : Nat)) := fun p => (hc1.nr p.near (by simp)).cell hd
  have Q := Lib.hid (fun p : Nearby W1 => Calls.near_of ((C.out p.W).mono fun e w'' h => ⟨h.1, Nr.of_grown h.2⟩))
  have hb' : (b : Int) < 16 := by omega
  have hd' : (d : Int) < 16 := by omega
  have ha' : (a : Int) < 16 := by omega
  have HH := Lib.hid (And.intro hx1 (And.intro hn1 hc1))
  clear kx C hv hR h hx1 hn1 hc1
  go_enter Try.func25, Try.ntmps25
  go_upto_region 1 with fail
  refine wp_region_near (by kernel_rfl) (by kernel_rfl) ?_
  repeat (quiet_step (first | with_reducible exact Q.out _))
  refine wpQuiet_nil ?_
  intro _ hw'
  obtain ⟨p, hw''⟩ := hw'
  subst hw''
  obtain ⟨W2, hp⟩ := p
  have HC := Lib.hid (HH.out.2.2.nr hp (by simp))
  have HX := Lib.hid (HH.out.1.nr hp (by simp))
  have HN := Lib.hid (HH.out.2.1.next hp)
  dsimp only
  clear HH kb kd k0 k2 k3 Q hp e1
  cases o
  · go_wp2_with fail
    go_ret
    exact ⟨rfl, HC.out, HN.out⟩
  · have k1 := HX.out.cells.2.1
    have kc := HC.out.cell ha
    have kf := HC.out.free a
    have HE := Lib.hid (And.intro (HC.out.put ha v) (HN.out.set (b := c) (.inl (by simp)) a (.int .u64 (v : Nat))))
    have KD := Lib.hid (show W2.drew.cell? ⟨X, 1, none⟩ = some (.int .i64 (a : Nat)) from k1)
    have KS := Lib.hid (show (W2.drew.setCell ⟨c, a, none⟩ (.int .u64 (v : Nat))).cell? ⟨X, 1, none⟩ = some (.int .i64 (a : Nat)) from by
      rw [World.cell?_of_block (w := W2.drew) (heap_setCell_other _ _ _ _ (fun e => hcX e.symm))]; exact k1)
    go_upto_region 4 with fail
    go_region_held3 (fun w' => w'.cell? ⟨X, 1, none⟩ = some (.int .i64 (a : Nat))) (first | exact KD.out | exact KS.out) (fail)
    go_wp2_with fail
    go_ret
    exact ⟨rfl, HE.out.1.drew, HE.out.2.drew⟩
end Go.Proofs.Ytojnokaeopadfaa
-- with Hg
set_option linter.unusedVariables false
set_option linter.unusedSimpArgs false
namespace Cor
theorem width_is {op : Int} (l : 19 ≤ op) (u : op ≤ 24) : Alu.width op = (((wid op : Nat) : Int), decide (22 ≤ op)) := by
  have c : op = 19 ∨ op = 20 ∨ op = 21 ∨ op = 22 ∨ op = 23 ∨ op = 24 := by omega
  rcases c with rfl | rfl | rfl | rfl | rfl | rfl <;> rfl
theorem place_in {b : Nat} {m w : Int} (h : (Alu.place b m w).2 = true) : ∃ v : Nat, (Alu.place b m w).1 = v ∧ v ≤ 262144 := by
  revert h
  unfold Alu.place
  split
  · intro h; cases h
  · intro _
    exact ⟨(((b : Int) + m) % 18446744073709551616).toNat, by show ((b : Int) + m) % 18446744073709551616 = _; omega, by omega⟩
theorem wid_in (op : Int) : wid op = 1 ∨ wid op = 4 ∨ wid op = 8 := by rcases wid_cases op with h | h | h <;> omega
theorem low_and {x w : Nat} (hx : x < 18446744073709551616) (hw : w = 1 ∨ w = 4 ∨ w = 8) : low x w = x &&& (2 ^ (8 * w) - 1) := by
  unfold low
  rw [Nat.and_two_pow_sub_one_eq_mod]
end Cor
namespace Go.Proofs.Ytojnokaeopadfaa
open Go.RowKit

theorem width_core (op : Int) (w : World) (l : 19 ≤ op) (u : op ≤ 24) : Calls Try.prog 32 #[.int .i64 op] w fun e w' => e = .returned (.tuple #[.int .i64 (Cor.wid op : Nat), .bool (decide (22 ≤ op))]) ∧ w = w' := by
  have e := Cor.width_is l u
  have c : op = 19 ∨ op = 20 ∨ op = 21 ∨ op = 22 ∨ op = 23 ∨ op = 24 := by omega
  suffices h : Calls Try.prog 32 #[.int .i64 op] w (TwoI (Alu.width op) w) by rw [e] at h; exact h
  rcases c with rfl | rfl | rfl | rfl | rfl | rfl
  · exact width_19 w
  · exact width_20 w
  · exact width_21 w
  · exact width_22 w
  · exact width_23 w
  · exact width_24 w
theorem place_core (b : Nat) (m : Int) (wd : Nat) (w : World) (hw : wd = 1 ∨ wd = 4 ∨ wd = 8) (hb : b < 18446744073709551616) (i1 : -2147483648 ≤ m) (i2 : m ≤ 2147483647) : Calls Try.prog 11 #[.int .u64 (b : Nat), .int .i32 m, .int .i64 (wd : Nat)] w fun e w' => e = .returned (.tuple #[.int .i64 (Alu.place b m wd).1, .bool (Alu.place b m wd).2]) ∧ w = w' := by
  rcases hw with rfl | rfl | rfl
  · exact place_1 b m w hb i1 i2
  · exact place_4 b m w hb i1 i2
  · exact place_8 b m w hb i1 i2
theorem lowest_core (x wd : Nat) (w : World) (hx : x < 18446744073709551616) (hw : wd = 1 ∨ wd = 4 ∨ wd = 8) : Calls Try.prog 33 #[.int .u64 (x : Nat), .int .i64 (wd : Nat)] w fun e w' => e = .returned (.int .u64 (Cor.low x wd : Nat)) ∧ w = w' := by
  have e := Cor.low_and hx hw
  rw [e]
  rcases hw with rfl | rfl | rfl
  · have a1 : bits .and .u64 (x : Int) 255 = ((x &&& 255 : Nat) : Int) := Alu.and_u64 x 255 hx (by omega)
    rw [show ((1 : Nat) : Int) = 1 from rfl]
    clear hx e
    go_enter Try.func33, Try.ntmps33
    go_wp2_with fail
    go_ret
    exact ⟨rfl, rfl⟩
  · have a1 : bits .and .u64 (x : Int) 4294967295 = ((x &&& 4294967295 : Nat) : Int) := Alu.and_u64 x 4294967295 hx (by omega)
    rw [show ((4 : Nat) : Int) = 4 from rfl]
    clear hx e
    go_enter Try.func33, Try.ntmps33
    go_wp2_with fail
    go_ret
    exact ⟨rfl, rfl⟩
  · have a1 : bits .and .u64 (x : Int) 18446744073709551615 = ((x &&& 18446744073709551615 : Nat) : Int) := Alu.and_u64 x 18446744073709551615 hx (by omega)
    rw [show ((8 : Nat) : Int) = 8 from rfl]
    clear hx e
    go_enter Try.func33, Try.ntmps33
    go_wp2_with fail
    go_ret
    exact ⟨rfl, rfl⟩
end Go.Proofs.Ytojnokaeopadfaa
