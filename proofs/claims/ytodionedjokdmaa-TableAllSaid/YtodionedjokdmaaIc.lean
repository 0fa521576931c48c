/- maps.Keys: what its iterator hands over. -/
import Derived.Test.YtodionedjokdmaaIb
import Derived.OwnWalkIn
import Derived.TacticsInMore
import Derived.LoopNIn
import Derived.LoopIn
set_option linter.unusedVariables false
set_option linter.unusedSimpArgs false
namespace Go.Proofs.Ytodionedjokdmaa
open Go.RowKit Go.Maps
set_option linter.unusedVariables false
set_option linter.unusedSimpArgs false
attribute [local go_sem] Oper.semAt_some
theorem RoundIn.any {n n' : Nat} {P : Program} {l : Nat} {f : FuncId} {tmps : Array Value} {assign body : Code} {w : World} {R : Ending → World → Prop} (h : RoundIn Fence.wide n P l f tmps assign body w R) : RoundIn Fence.wide n' P l f tmps assign body w R :=
  ⟨h.1, fun c cs _ => h.2 c cs (room_wide _)⟩
theorem YieldAt.any {m m' : Nat} {P : Program} {l : Nat} {args : Array Value} {w : World} {R : Ending → World → Prop} (h : YieldAt Fence.wide m P l args w R) : YieldAt Fence.wide m' P l args w R := by
  obtain ⟨fn, tmps, assign, body, hy, hR⟩ := h
  exact ⟨fn, tmps, assign, body, hy, RoundIn.any hR⟩
def encU (x : Nat) : Array Value := #[.int .u64 (x : Int)]
def ownN (x : Nat) : List Nat := []
def XK (ns : List Nat) (pre : List Nat) (x : Nat) (W : World) : Prop := x ∈ ns ∧ x ∉ pre ∧ U64 x
def ZK (X m : Nat) (ns : List Nat) (g : Nat → Option (Option Nat)) (W : World) : Prop := W.heap[X]? = some (Obj.cells #[.map (some m)] 90) ∧ MapG rdP W m ns.length ns g
def FinK (ns : List Nat) (xs : List Nat) : Prop := xs.Nodup ∧ ∀ x, x ∈ xs ↔ x ∈ ns
theorem ranges_same {H : Type} {P : Program} {k : TypeId} {R : Value → Option (DataW H × List MemPlace)} {w w' : World} {b r n : Nat} {D : DataW H} {left : Lit → Bool} {cnt : Nat} (h : w.ranges P k R b r n D left cnt) (hb : w'.heap[b]? = w.heap[b]?) (hr : w'.heap[r]? = w.heap[r]?) : w'.ranges P k R b r n D left cnt := by
  obtain ⟨es, clock, since, seen, c0, h1, h2, h3, h4, h5, rest⟩ := h
  exact ⟨es, clock, since, seen, c0, hb.trans h1, h2, h3, h4, hr.trans h5, rest⟩
theorem turn_grown {w w' : World} {r : Nat} (h : w.grownBy w' (some r)) : Turn [r] w w' := ⟨h.os, h.tape, h.output, h.size, fun i hi hn => h.block i hi (fun e => hn (by injection e with e; rw [e]; simp))⟩
theorem below_grown {w w' : World} (h : w.grownBy w' none) : Below w.heap.size w w' := ⟨h.os, h.tape, h.output, h.size, fun i hi => h.block i hi (by simp)⟩
theorem u64_wf {x : Int} (h : (Lit.int .u64 x).wf = true) : 0 ≤ x ∧ x ≤ 18446744073709551615 := by
  simp [Lit.wf, IntKind.min, IntKind.max, IntKind.signed, IntKind.bits] at h
  exact h
/-- What stands while keys come. -/
structure KR (W : World) (T : List Nat) (m r : Nat) (ns : List Nat) (D : DataW (Option Nat)) (J : List Nat → List Nat → World → Prop) (pre : List Nat) (left : Lit → Bool) (cnt : Nat) (wr : World) : Prop where
  rg : wr.ranges Try.prog 28 rdP m r ns.length D left cnt
  lf : ∀ n : Nat, left (.int .u64 (n : Int)) = true ↔ n ∈ ns ∧ n ∉ pre
  nd : pre.Nodup
  mm : ∀ y ∈ pre, y ∈ ns
  j : J (r :: T) pre wr
  sm : Same T W wr
  tl : ∀ b ∈ r :: T, b < wr.heap.size
set_option maxHeartbeats 4000000 in
set_option maxRecDepth 100000 in
theorem keys_iter (X m : Nat) (ns : List Nat) (g : Nat → Option (Option Nat)) : Iter Try.prog 47 #[] #[.pointer (some ⟨X, 0, none⟩)] encU ownN [X, m] (XK ns) (ZK X m ns g) (FinK ns) := by
  intro l mm J Jx hJ hJx hY T W hT0 hT hZ h0
  obtain ⟨hX, hnd, hmem, D, hown, hhas, hat, hsz⟩ := hZ
  have hXl := (Array.getElem?_eq_some_iff.1 hX).1
  have c0 : W.cell? ⟨X, 0, none⟩ = some (.map (some m)) := by rw [cell_of_row _ _ 0 _ _ (0, 0) hX]; rfl
  have HY := Lib.hid hY
  have HJ := Lib.hid (And.intro hJ hJx)
  have HS := Lib.hid (And.intro hT0 (And.intro hT h0))
  have HD := Lib.hid (show ∀ n : Nat, Maps.has D (.int .u64 (n : Int)) = true ↔ n ∈ ns from fun n => by rw [hhas n, hmem n])
  have HO := Lib.hid hown
  have HND := Lib.hid hnd
  clear hY hJ hJx hT0 hT h0 hhas hat hsz hX hXl hnd hmem
  rw [show (#[] ++ #[Value.func (.yield l) #[] #[]] ++ #[Value.pointer (some ⟨X, 0, none⟩)] : Array Value) = #[Value.func (.yield l) #[] #[], Value.pointer (some ⟨X, 0, none⟩)] from rfl]
  go_enter Try.func47, Try.ntmps47
  go_wp2_with (first | (at_range; refine wpList_range_own _ rfl _ 90 rfl 28 35 keyU Try.underlying90 _ m ns.length D rfl HO.out ?_; intro w0 hrg0 hg0 hs0))
  have hb0 := below_grown hg0
  have HK : Hid (KR W T m W.heap.size ns D J [] (Maps.has D) (Maps.size D) w0) := Lib.hid (by
    obtain ⟨hT0, hT, h0⟩ := HS.out
    have htl : ∀ b ∈ W.heap.size :: T, b < w0.heap.size := fun b hb => by
      rcases List.mem_cons.1 hb with rfl | hb
      · omega
      · have := hT b hb; omega
    exact ⟨hrg0, fun n => by rw [HD.out n]; simp, List.nodup_nil, by simp, HJ.out.1.more h0 hT hb0 (fun b hb => ⟨by
      rcases List.mem_cons.1 hb with rfl | hb
      · exact .inr (Nat.le_refl _)
      · exact .inl hb, htl b hb⟩), fun b hb => hb0.block b (hT b hb), htl⟩)
  obtain ⟨r, er⟩ : ∃ r, W.heap.size = r := ⟨_, rfl⟩
  rw [er] at HK ⊢
  have HR := Lib.hid er
  clear hrg0 hg0 hs0 hb0 er c0
  go_frame
  go_loopg [3] (Maps.size D) (fun gh v3 wr => ∃ (pre : List Nat) (left : Lit → Bool), Hid (KR W T m r ns D J pre left gh wr))
  case atStart => exact ⟨_, _, HK⟩
  case round =>
    clear HK
    obtain ⟨pre, left, hI⟩ := hrel
    have HI := Lib.hid hI.out
    clear hI
    go_wp2_with (first | (at_next; refine wpList_next_ranges _ rfl _ rfl 28 keyU rdP (fun x : Int => Value.int .u64 x) vP (fun key kl h => by obtain ⟨x, h1, _⟩ := Maps.keyOf_int_inv Try.underlying28 h; exact ⟨x, h1⟩) (fun v y h => by obtain ⟨x, h1, _⟩ := rd_P.back v y h; exact ⟨x, h1⟩) m r ns.length D left _ rfl HI.out.rg ?_ ?_))
    · intro hc0 hl0
      have HF : Hid ((∃ xs, FinK ns xs ∧ J T xs wr ∧ Same T W wr) ∨ ∃ pre, Jx T pre wr ∧ Same T W wr) := Lib.hid (.inl ⟨pre, ⟨HI.out.nd, fun x => ⟨HI.out.mm x, fun hx => by
        by_cases hp : x ∈ pre
        · exact hp
        · have := (HI.out.lf x).2 ⟨hx, hp⟩
          rw [hl0] at this; cases this⟩⟩, HJ.out.1.less HI.out.j HI.out.tl fun b hb => List.mem_cons_of_mem _ hb, HI.out.sm⟩)
      clear hc0 hl0 HI
      go_wp2_with fail
      go_end0
      exact ⟨⟨_, rfl⟩, HF.out⟩
    · intro x c kl y yp w1 cnt1 hkey hlk hv hat hrg1 hlt1 hg1 hs1 hen
      obtain ⟨x', hx', rfl, hwf⟩ := Maps.keyOf_int_inv Try.underlying28 hkey
      injection hx' with _ hx'
      subst hx'
      have hb := u64_wf hwf
      obtain ⟨n, rfl⟩ : ∃ n : Nat, x = (n : Int) := ⟨x.toNat, by omega⟩
      obtain ⟨hn1, hn2⟩ := (HI.out.lf n).1 hlk
      have hun : U64 n := ⟨hb.2⟩
      have ht1 := turn_grown hg1
      have htl1 : ∀ b ∈ r :: T, b < w1.heap.size := fun b hb => by rw [hs1]; exact HI.out.tl b hb
      have hJ1 : J (r :: T) pre w1 := HJ.out.1 _ _ _ _ _ HI.out.j HI.out.tl (ht1.mono (by simp)) fun b hb => ⟨.inl hb, htl1 b hb⟩
      have hrT : r ∉ T := fun hm => by have := HS.out.2.1 r hm; have := HR.out; omega
      have hS1 : Same T wr w1 := fun b hb => ht1.block b (HI.out.tl b (List.mem_cons_of_mem _ hb)) fun hm => hrT (by rw [← List.mem_singleton.1 hm]; exact hb)
      have hK1 : ∀ W', J (r :: T) (pre ++ [n]) W' → Same (r :: T) w1 W' → KR W T m r ns D J (pre ++ [n]) (fun z => left z && !z.sameKey (.int .u64 (n : Int))) cnt1 W' := fun W' hJ' hs' => by
        have hmT : m ∈ T := HS.out.1 m (by simp)
        refine ⟨ranges_same hrg1 (hs' m (List.mem_cons_of_mem _ hmT)) (hs' r (by simp)), fun k => ?_, List.nodup_append.2 ⟨HI.out.nd, by simp, fun a ha b hb e => hn2 (by rw [List.mem_singleton.1 hb] at e; rw [← e]; exact ha)⟩, fun y hy => ?_, hJ', (HI.out.sm.trans hS1).trans (hs'.less fun b hb => List.mem_cons_of_mem _ hb), fun b hb => ?_⟩
        · have hlk := HI.out.lf k
          by_cases e : k = n
          · subst e
            simp [Lit.sameKey]
          · have : (Lit.int .u64 (k : Int)).sameKey (.int .u64 (n : Int)) = false := by simp [Lit.sameKey]; omega
            simp only [this, Bool.not_false, Bool.and_true]
            rw [hlk]
            simp [e]
        · rcases List.mem_append.1 hy with hy | hy
          · exact HI.out.mm y hy
          · rw [List.mem_singleton.1 hy]; exact hn1
        · have := hs' b hb
          rw [Array.getElem?_eq_getElem (htl1 b hb)] at this
          exact (Array.getElem?_eq_some_iff.1 this).1
      have hS2 : Same T W w1 := HI.out.sm.trans hS1
      obtain ⟨fn, tmps, assign, body, hy, hR⟩ := YieldAt.any (m' := 4) (HY.out (r :: T) pre n w1 (fun b hb => List.mem_cons_of_mem _ (HS.out.1 b hb)) (fun b hb => by simp [ownN] at hb) htl1 ⟨hn1, hn2, hun⟩ hJ1)
      dsimp only [encU] at hy
      have HK1 := Lib.hid hK1
      have HX := Lib.hid (And.intro hS2 htl1)
      have HL := Lib.hid hlt1
      clear hkey hlk hv hat hrg1 hlt1 hg1 hs1 hwf hb hn1 hn2 hun ht1 htl1 hJ1 hrT hS1 hK1 hS2 HI
      go_upto_region 3 with fail
      refine (wpIn_wide (n := 5)).1 ?_
      gi_wp2_with fail
      refine hR.mono ?_
      rintro e9 W9 (⟨rfl, hJ9, hS9⟩ | ⟨rfl, hJx9, hS9⟩)
      · have H9 := Lib.hid (HK1.out W9 hJ9 hS9)
        clear hJ9 hS9
        gi_wp2
        go_wp2_with fail
        go_roundg cnt1
        case rel => exact ⟨_, _, H9⟩
        case measure => exact HL.out
      · have H9 : Hid (Jx T (pre ++ [n]) W9 ∧ Same T W W9) := Lib.hid (by
          have htl9 : ∀ b ∈ r :: T, b < W9.heap.size := fun b hb => by
            have := hS9 b hb
            rw [Array.getElem?_eq_getElem (HX.out.2 b hb)] at this
            exact (Array.getElem?_eq_some_iff.1 this).1
          exact ⟨HJ.out.2.less hJx9 htl9 fun b hb => List.mem_cons_of_mem _ hb, HX.out.1.trans (hS9.less fun b hb => List.mem_cons_of_mem _ hb)⟩)
        clear hJx9 hS9
        gi_wp2
        go_wp2_with fail
        refine bodyPost_ret (results_none rfl _ _ _) rfl ?_
        exact ⟨⟨_, rfl⟩, .inr ⟨_, H9.out⟩⟩
end Go.Proofs.Ytodionedjokdmaa
