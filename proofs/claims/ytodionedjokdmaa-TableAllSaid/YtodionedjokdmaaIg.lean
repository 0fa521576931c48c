/- All as an iterator. -/
import Derived.Test.YtodionedjokdmaaIf
set_option linter.unusedVariables false
set_option linter.unusedSimpArgs false
namespace Go.Proofs.Ytodionedjokdmaa
open Go.RowKit
set_option linter.unusedVariables false
set_option linter.unusedSimpArgs false
attribute [local go_sem] Oper.semAt_some
/-- What the iterator reads. -/
structure ZA (t m : Nat) (ns : List Nat) (g : Nat → Option (Option Nat)) (W : World) : Prop where
  t : W.heap[t]? = some (Obj.cells #[.map (some m)] 92)
  m : MapG rdP W m ns.length ns g
  u : ∀ x ∈ ns, U64 x
  g : ∀ x ∈ ns, ∃ b, g x = some (some b)
def encA (g : Nat → Option (Option Nat)) (x : Nat) : Array Value := #[vP ((g x).getD none)]
def XA (ns : List Nat) (pre : List Nat) (x : Nat) (W : World) : Prop := (pre ++ [x]).Pairwise (· < ·) ∧ x ∈ ns
theorem ZA.same {t m : Nat} {ns : List Nat} {g : Nat → Option (Option Nat)} {w w' : World} (h : ZA t m ns g w) (ht : w'.heap[t]? = w.heap[t]?) (hm : w'.heap[m]? = w.heap[m]?) : ZA t m ns g w' := ⟨ht.trans h.t, h.m.same hm, h.u, h.g⟩
theorem ZA.below {t m : Nat} {ns : List Nat} {g : Nat → Option (Option Nat)} {w w' : World} (h : ZA t m ns g w) (hb : Below w.heap.size w w') : ZA t m ns g w' := h.same (hb.block _ (Array.getElem?_eq_some_iff.1 h.t).1) (hb.block _ h.m.lt)
theorem get_za {t m : Nat} {ns : List Nat} {g : Nat → Option (Option Nat)} {w : World} {n : Nat} (h : ZA t m ns g w) (hn : U64 n) : Calls Try.prog 13 #[.pointer (some ⟨t, 0, none⟩), .int .u64 (n : Int)] w fun e w' => e = .returned (vP ((g n).getD none)) ∧ w' = w := by
  have c0 : w.cell? ⟨t, 0, none⟩ = some (.map (some m)) := by rw [cell_of_row _ _ 0 _ _ (0, 0) h.t]; rfl
  have hl := h.m.at_ Try.underlying90 rd_P (zeroP w) hn
  obtain ⟨v, ev⟩ : ∃ v, vP ((g n).getD none) = v := ⟨_, rfl⟩
  rw [ev] at hl
  rw [ev]
  clear h ev hn
  go_enter Try.func13, Try.ntmps13
  go_wp2_with fail
  go_ret
  exact ⟨rfl, rfl⟩
theorem enters_of {P : Program} {f : FuncId} {fn : Func} {c : Code} (hf : P.funcs[f]? = some fn) (hname : (fn.name == "runtime.NumGoroutine") = false) (hb : fn.body = some c) (args : Array Value) (w : World) : (callFunc f args).run P w = .ok (.enter f args) w := by
  have hn : ¬ fn.name = "runtime.NumGoroutine" := by simpa using hname
  simp [callFunc, hf, hb, hn]
theorem keys_call (m : Option Nat) (w : World) : Calls Try.prog 35 #[.map m] w fun e w' => e = .returned (.func (.func 47) #[] #[.pointer (some ⟨w.heap.size, 0, none⟩)]) ∧ w' = w.alloc (Obj.cells #[.map m] 90) := by
  go_enter Try.func35, Try.ntmps35
  go_wp2_with fail
  go_ret
  exact ⟨rfl, rfl⟩
/-- The row it goes over. -/
theorem sorted_keys {N : Nat} (hS : SortC N) (hN : N ≤ 1000) {t m : Nat} {ns : List Nat} {g : Nat → Option (Option Nat)} {w : World} (h : ZA t m ns g w) (hn : ns.length ≤ N) :
    Calls Try.prog 34 #[.func (.func 47) #[] #[.pointer (some ⟨w.heap.size, 0, none⟩)]] (w.alloc (Obj.cells #[.map (some m)] 90)) fun e w' => ∃ v xs, e = .returned v ∧ FinR ns xs ∧ SR w.heap.size w' v xs ∧ Below w.heap.size w w' := by
  have hb := below_alloc1 w (Obj.cells #[.map (some m)] 90)
  have hk := heap_alloc_new w (Obj.cells #[.map (some m)] 90)
  have hs : (w.alloc (Obj.cells #[.map (some m)] 90)).heap.size = w.heap.size + 1 := by simp
  obtain ⟨w1, e1⟩ : ∃ w1, w.alloc (Obj.cells #[.map (some m)] 90) = w1 := ⟨_, rfl⟩
  rw [e1] at hb hk hs ⊢
  have hml := h.m.lt
  refine (sorted_any hS w1 (keys_iter w.heap.size m ns g) (enters_of Try.func47 (by decide) rfl) hn hN (fun b hb' => ?_) (fun W' hb' => ⟨(hb'.block _ (by omega)).trans hk, (h.m.same (hb.block _ hml)).same (hb'.block _ (by omega))⟩)).mono ?_
  · rcases List.mem_cons.1 hb' with rfl | hb'
    · omega
    · rw [List.mem_singleton.1 hb']; omega
  · rintro e w2 ⟨v, xs, rfl, hf, hr, hb2⟩
    refine ⟨v, xs, rfl, hf, ?_, hb.trans (hb2.mono (by omega))⟩
    rcases hr with hr | ⟨g', o, c, cur, h1, h2, h3⟩
    · exact .inl hr
    · exact .inr ⟨g', o, c, cur, h1, by omega, h3⟩
/-- What stands while it hands over. -/
structure AR2 (W : World) (T TT : List Nat) (t m gS o c n : Nat) (A : Option Addr) (ns xs : List Nat) (g : Nat → Option (Option Nat)) (J : List Nat → List Nat → World → Prop) (k : Nat) (wr : World) : Prop where
  z : ZA t m ns g wr
  f : FinR ns xs
  ln : xs.length = n
  a : n ≤ c ∧ (0 < n → A = some ⟨gS, o, none⟩)
  s : 0 < n → ∃ cur, wr.heap[gS]? = some (Obj.cells cur 28) ∧ ∀ (i : Nat) (x : Nat), xs[i]? = some x → cur[o + i]? = some (inU x)
  gs : 0 < n → gS ∈ TT
  tt : ∀ b ∈ T, b ∈ TT
  j : J TT (xs.take k) wr
  sm : Same T W wr
  tl : ∀ b ∈ TT, b < wr.heap.size
  tm : t ∈ T ∧ m ∈ T
/-- One step on. -/
theorem AR2.step {W : World} {T TT : List Nat} {t m gS o c n : Nat} {A : Option Addr} {ns xs : List Nat} {g : Nat → Option (Option Nat)} {J : List Nat → List Nat → World → Prop} {k : Nat} {wr W' : World} {x : Nat} (h : AR2 W T TT t m gS o c n A ns xs g J k wr) (hx : xs[k]? = some x) (hj : J TT (xs.take k ++ [x]) W') (hs : Same TT wr W') : AR2 W T TT t m gS o c n A ns xs g J (k + 1) W' := by
  refine ⟨h.z.same (hs t (h.tt _ h.tm.1)) (hs m (h.tt _ h.tm.2)), h.f, h.ln, h.a, fun h0 => ?_, h.gs, h.tt, ?_, h.sm.trans (hs.less h.tt), fun b hb => ?_, h.tm⟩
  · obtain ⟨cur, h1, h2⟩ := h.s h0
    exact ⟨cur, (hs gS (h.gs h0)).trans h1, h2⟩
  · have hk := (List.getElem?_eq_some_iff.1 hx)
    obtain ⟨hl, he⟩ := hk
    rw [← List.take_append_getElem hl, he]; exact hj
  · have := hs b hb
    rw [Array.getElem?_eq_getElem (h.tl b hb)] at this
    exact (Array.getElem?_eq_some_iff.1 this).1
theorem yield_nil (l : Nat) (X : World) : (binOp .eql 39 (.func (.yield l) #[] #[]) .nilFunc).run Try.prog X = .ok (.bool false) X := by kernel_rfl
set_option maxHeartbeats 4000000 in
set_option maxRecDepth 100000 in
theorem all_iter {N : Nat} (hSC : SortC N) (hN : N ≤ 1000) (t m : Nat) (ns : List Nat) (g : Nat → Option (Option Nat)) (hns : ns.length ≤ N) : Iter Try.prog 22 #[.pointer (some ⟨t, 0, none⟩)] #[] (encA g) ownN [t, m] (XA ns) (ZA t m ns g) (FinR ns) := by
  intro l mm J Jx hJ hJx hY T W hT0 hT hZ h0
  have c0 : W.cell? ⟨t, 0, none⟩ = some (.map (some m)) := by rw [cell_of_row _ _ 0 _ _ (0, 0) hZ.t]; rfl
  have HY := Lib.hid hY
  have HJ := Lib.hid (And.intro hJ hJx)
  have HS := Lib.hid (And.intro hT0 (And.intro hT (And.intro h0 hZ)))
  have B := Lib.hid (keys_call (some m) W)
  have C := Lib.hid (sorted_keys hSC hN hZ hns)
  have HN : ns.length ≤ 1000 := by omega
  have HN := Lib.hid HN
  have yn := yield_nil l
  clear hY hJ hJx hT0 hT h0 hZ hSC hN hns
  rw [show (#[Value.pointer (some ⟨t, 0, none⟩)] ++ #[Value.func (.yield l) #[] #[]] ++ #[] : Array Value) = #[Value.pointer (some ⟨t, 0, none⟩), Value.func (.yield l) #[] #[]] from rfl]
  go_enter Try.func22, Try.ntmps22
  go_wp2_with fail
  refine B.out.mono ?_; rintro e w1 ⟨rfl, rfl⟩
  clear B
  go_wp2_with fail
  refine C.out.mono ?_; rintro e w2 ⟨v, xs, rfl, hf, hr, hb⟩
  obtain ⟨n, en⟩ : ∃ n, xs.length = n := ⟨_, rfl⟩
  have hn1 : n ≤ 1000 := by
    have := nodup_len xs ns (hf.1.imp fun h => by omega) fun x hx => (hf.2 x).1 hx
    have := HN.out; omega
  have hb2 : W.heap.size ≤ w2.heap.size := hb.size
  have hsm : Same T W w2 := fun b hb' => hb.block b (HS.out.2.1 b hb')
  have hz2 : ZA t m ns g w2 := HS.out.2.2.2.below hb
  have ha : ∀ TT, (∀ b ∈ TT, (b ∈ T ∨ W.heap.size ≤ b) ∧ b < w2.heap.size) → J TT (xs.take 0) w2 := fun TT h => HJ.out.1.more HS.out.2.2.1 HS.out.2.1 hb h
  have hTl : ∀ b ∈ T, b < w2.heap.size := fun b hb' => by have := HS.out.2.1 b hb'; omega
  have htm : t ∈ T ∧ m ∈ T := ⟨HS.out.1 t (by simp), HS.out.1 m (by simp)⟩
  obtain ⟨TT, gS, o, c, A, rfl, hw⟩ : ∃ TT gS o c A, v = .slice A n c ∧ Hid (AR2 W T TT t m gS o c n A ns xs g J 0 w2) := by
    rcases hr with ⟨rfl, rfl⟩ | ⟨g', o, c, cur, rfl, h1, h2, h3, h4⟩
    · obtain rfl : n = 0 := by rw [← en]; rfl
      exact ⟨T, 0, 0, 0, none, rfl, Lib.hid ⟨hz2, hf, rfl, ⟨by omega, fun h => by omega⟩, fun h => by omega, fun h => by omega, fun b hb => hb, ha T fun b hb => ⟨.inl hb, hTl b hb⟩, hsm, hTl, htm⟩⟩
    · have hgl := (Array.getElem?_eq_some_iff.1 h3).1
      have hTT : ∀ b ∈ g' :: T, (b ∈ T ∨ W.heap.size ≤ b) ∧ b < w2.heap.size := fun b hb => by
        rcases List.mem_cons.1 hb with rfl | hb
        · exact ⟨.inr h1, hgl⟩
        · exact ⟨.inl hb, hTl b hb⟩
      exact ⟨g' :: T, g', o, c, some ⟨g', o, none⟩, by rw [en], Lib.hid ⟨hz2, hf, en, ⟨by omega, fun _ => rfl⟩, fun _ => ⟨cur, h3, h4⟩, fun _ => by simp, fun b hb => List.mem_cons_of_mem _ hb, ha _ hTT, hsm, fun b hb => (hTT b hb).2, htm⟩⟩
  clear hf hr hb en hb2 hsm hz2 ha hTl htm C c0
  go_wp2_with fail
  go_loopg [20] n (fun gh v20 wr => ∃ k : Nat, k ≤ n ∧ gh = n - k ∧ v20 = .int .i64 k ∧ Hid (AR2 W T TT t m gS o c n A ns xs g J k wr))
  case atStart => exact ⟨0, by omega, by omega, rfl, hw⟩
  case round =>
    clear hw
    obtain ⟨k, hk, hg, rfl, hI⟩ := hrel
    by_cases hlt : k < n
    · have l1 : (k : Int) < n := by omega
      have hI := hI.out
      obtain rfl := hI.a.2 (by omega)
      obtain ⟨cur, hc1, hc2⟩ := hI.s (by omega)
      obtain ⟨x, hx⟩ : ∃ x, xs[k]? = some x := ⟨_, List.getElem?_eq_getElem (by rw [hI.ln]; exact hlt)⟩
      have q1 : wr.cell? ⟨gS, o + k, none⟩ = some (.int .u64 (x : Int)) := by rw [cell_of_row _ _ _ _ _ (0, 0) hc1]; exact hc2 k x hx
      have hxn : x ∈ ns := (hI.f.2 x).1 (List.mem_of_getElem? hx)
      obtain ⟨b, hgb⟩ := hI.z.g x hxn
      have G := Lib.hid (get_za hI.z (hI.z.u x hxn))
      have HY2 := HY.out TT (xs.take k) x wr (fun b hb => hI.tt b (HS.out.1 b hb)) (fun b hb => by simp [ownN] at hb) (fun b hb => hI.tl b (by simpa [ownN] using hb)) ⟨by
        obtain ⟨hl, he⟩ := List.getElem?_eq_some_iff.1 hx
        rw [← he, List.take_append_getElem]; exact hI.f.1.sublist (List.take_sublist _ _), hxn⟩ (by simpa [ownN] using hI.j)
      dsimp only [encA] at HY2
      rw [hgb] at G HY2
      dsimp only [Option.getD_some, vP, Option.map_some] at G HY2
      have i1 : IntKind.i64.wrap ((k : Int) + 1) = ((k + 1 : Nat) : Int) := by rw [IntKind.wrap_i64]; omega
      have HI := Lib.hid (And.intro hI hx)
      clear hI hc1 hc2 hx hxn hgb
      go_wp2_with fail
      refine G.out.mono ?_; rintro e w3 ⟨rfl, rfl⟩
      clear G
      obtain ⟨fn, tmps, assign, body, hy, hR⟩ := YieldAt.any (m' := 4) HY2
      clear HY2
      go_upto_region 5 with fail
      refine (wpIn_wide (n := 5)).1 ?_
      gi_wp2_with fail
      refine hR.mono ?_
      rintro e9 W9 (⟨rfl, hJ9, hS9⟩ | ⟨rfl, hJx9, hS9⟩)
      · have H9 := Lib.hid (HI.out.1.step HI.out.2 hJ9 hS9)
        clear hJ9 hS9 HI
        gi_wp2
        go_wp2_with fail
        go_roundg (n - (k + 1))
        case rel => exact ⟨k + 1, by omega, rfl, by first | rfl | rw [i1], H9⟩
        case measure => omega
      · have H9 : Hid (Jx T (xs.take k ++ [x]) W9 ∧ Same T W W9) := Lib.hid (by
          have hI := HI.out.1
          have htl9 : ∀ b ∈ TT, b < W9.heap.size := fun b hb => by
            have := hS9 b hb
            rw [Array.getElem?_eq_getElem (hI.tl b hb)] at this
            exact (Array.getElem?_eq_some_iff.1 this).1
          exact ⟨HJ.out.2.less hJx9 htl9 hI.tt, hI.sm.trans (hS9.less hI.tt)⟩)
        clear hJx9 hS9 HI
        gi_wp2
        go_wp2_with fail
        refine bodyPost_ret (results_none rfl _ _ _) rfl ?_
        exact ⟨⟨_, rfl⟩, .inr ⟨_, H9.out⟩⟩
    · obtain rfl : k = n := by omega
      have HF : Hid ((∃ xs, FinR ns xs ∧ J T xs wr ∧ Same T W wr) ∨ ∃ pre, Jx T pre wr ∧ Same T W wr) := Lib.hid (.inl ⟨xs, hI.out.f, by
        have h := hI.out.j
        rw [List.take_of_length_le (by rw [hI.out.ln]; omega)] at h
        exact HJ.out.1.less h hI.out.tl hI.out.tt, hI.out.sm⟩)
      clear hI
      go_wp2_with fail
      go_end0
      exact ⟨⟨_, rfl⟩, HF.out⟩
end Go.Proofs.Ytodionedjokdmaa
