/- Collect, Sorted. -/
import Derived.Test.YtodionedjokdmaaIe
import Derived.Test.YtodionedjokdmaaJp
set_option linter.unusedVariables false
set_option linter.unusedSimpArgs false
namespace Go.Proofs.Ytodionedjokdmaa
open Go.RowKit
set_option linter.unusedVariables false
set_option linter.unusedSimpArgs false
variable {T0 : List Nat} {ns : List Nat}
set_option maxHeartbeats 1000000 in
theorem collect_any {gf : Nat} {pb lb : Array Value} {Z : World → Prop} (w : World) (hit : Iter Try.prog gf pb lb encU ownN T0 (XK ns) Z (FinK ns)) (eg : ∀ args w, (callFunc gf args).run Try.prog w = .ok (.enter gf args) w) (hn : ns.length ≤ 1000)
    (hT0 : ∀ b ∈ T0, b < w.heap.size) (hZ : ∀ W', Below w.heap.size w W' → Z W') : Calls Try.prog 45 #[.func (.func gf) pb lb] w fun e w' => ∃ v xs, e = .returned v ∧ FinK ns xs ∧ RW (fun b => w.heap.size ≤ b) 28 inU w' v xs ∧ Below w.heap.size w w' := by
  have C := Lib.hid (appseq_any w hit eg hn hT0 hZ)
  clear hit eg hn hT0 hZ
  go_enter Try.func45, Try.ntmps45
  go_wp2_with fail
  refine C.out.mono ?_; rintro e w1 ⟨v, xs, rfl, hf, hr, hb⟩
  have H := Lib.hid (And.intro hf (And.intro hr hb))
  obtain ⟨A, l, c, rfl⟩ : ∃ A l c, v = .slice A l c := by obtain ⟨A, c, h, _⟩ := hr.form; exact ⟨A, _, c, h⟩
  clear hf hr hb C
  go_wp2_with fail
  go_ret
  exact ⟨_, _, rfl, H.out⟩
/-- What sorting does. -/
def SortC (N : Nat) : Prop := ∀ (w : World) (g o n c : Nat) (f : Nat → Int), AR w g o n f → n ≤ N → Calls Try.prog 46 #[.slice (some ⟨g, o, none⟩) n c] w fun e w' => e = .returned (.tuple #[]) ∧ Turn [g] w w' ∧ ∃ f', AR w' g o n f' ∧ Rl 0 n f f' ∧ Srt 0 n f'
theorem sort16 : SortC 16 := fun w g o n c f h hn => sort_any h hn
/-- A row to be read, in a block from W on. -/
def SR (W : Nat) (w : World) (v : Value) (xs : List Nat) : Prop := (xs = [] ∧ v = .slice none 0 0) ∨ ∃ g o c cur, v = .slice (some ⟨g, o, none⟩) xs.length c ∧ W ≤ g ∧ xs.length ≤ c ∧ w.heap[g]? = some (Obj.cells cur 28) ∧ ∀ (i : Nat) (x : Nat), xs[i]? = some x → cur[o + i]? = some (inU x)
/-- Rising, and the same ones. -/
def FinR (ns xs : List Nat) : Prop := xs.Pairwise (· < ·) ∧ (∀ x, x ∈ xs ↔ x ∈ ns)
theorem sorted_fin {xs : List Nat} {n : Nat} {f : Nat → Int} (hn : xs.length = n) (h : FinK ns xs) (hr : Rl 0 n (fun k => ((xs.getD k 0 : Nat) : Int)) f) (hs : Srt 0 n f) : ∃ ys : List Nat, ys.length = n ∧ FinR ns ys ∧ ∀ k, k < n → f k = ((ys.getD k 0 : Nat) : Int) := by
  have hf : ∀ k, k < n → ∃ j, j < n ∧ f k = ((xs.getD j 0 : Nat) : Int) := fun k hk => by
    obtain ⟨j, _, h2, h3⟩ := hr.new k (by omega) hk
    exact ⟨j, h2, h3⟩
  obtain ⟨ys, eys⟩ : ∃ ys, (List.range n).map (fun k => (f k).toNat) = ys := ⟨_, rfl⟩
  have hl : ys.length = n := by rw [← eys]; simp
  have hg : ∀ k, k < n → ys[k]? = some (f k).toNat := fun k hk => by rw [← eys]; simp [hk]
  have hfy : ∀ k, k < n → f k = ((ys.getD k 0 : Nat) : Int) := fun k hk => by
    obtain ⟨j, _, h3⟩ := hf k hk
    rw [List.getD_eq_getElem?_getD, hg k hk, h3]; simp
  have hmem : ∀ x, x ∈ ys ↔ x ∈ xs := fun x => by
    constructor
    · intro hx
      obtain ⟨k, hk⟩ := List.mem_iff_getElem?.1 hx
      have hkn : k < n := by rw [← hl]; exact (List.getElem?_eq_some_iff.1 hk).1
      obtain ⟨j, hj, h3⟩ := hf k hkn
      rw [hg k hkn, h3] at hk
      injection hk with hk
      rw [← hk, Int.toNat_natCast, List.getD_eq_getElem?_getD, List.getElem?_eq_getElem (by omega)]
      exact List.getElem_mem _
    · intro hx
      obtain ⟨k, hk⟩ := List.mem_iff_getElem?.1 hx
      have hkn : k < n := by rw [← hn]; exact (List.getElem?_eq_some_iff.1 hk).1
      obtain ⟨j, _, hj, h3⟩ := hr.old k (by omega) hkn
      rw [List.getD_eq_getElem?_getD, hk] at h3
      refine List.mem_iff_getElem?.2 ⟨j, ?_⟩
      rw [hg j hj, ← h3]; simp
  have hle : ∀ i j (hi : i < ys.length) (hj : j < ys.length), i < j → ys[i] ≤ ys[j] := fun i j hi hj hij => by
    have h1 := hs i j (by omega) hij (by omega)
    rw [hfy i (by omega), hfy j (by omega), List.getD_eq_getElem?_getD, List.getD_eq_getElem?_getD, List.getElem?_eq_getElem hi, List.getElem?_eq_getElem hj] at h1
    simp at h1; omega
  have hne : ∀ i j (hi : i < ys.length) (hj : j < ys.length), i < j → ys[i] ≠ ys[j] := fun i j hi hj hij e => by
    have hsub : ∀ x ∈ xs, x ∈ ys.eraseIdx j := fun x hx => by
      obtain ⟨k, hk⟩ := List.mem_iff_getElem?.1 ((hmem x).2 hx)
      refine (List.mem_eraseIdx_iff_getElem?).2 ?_
      by_cases ekj : k = j
      · refine ⟨i, by omega, ?_⟩
        rw [List.getElem?_eq_getElem hi, e, ← hk, ekj, List.getElem?_eq_getElem hj]
      · exact ⟨k, ekj, hk⟩
    have := nodup_len _ _ h.1 hsub
    rw [List.length_eraseIdx] at this
    simp only [hj, if_true] at this
    omega
  exact ⟨ys, hl, ⟨List.pairwise_iff_getElem.2 fun i j hi hj hij => by have := hle i j hi hj hij; have := hne i j hi hj hij; omega, fun x => (hmem x).trans (h.2 x)⟩, hfy⟩
set_option maxHeartbeats 1000000 in
theorem sorted_any {N : Nat} (hS : SortC N) {gf : Nat} {pb lb : Array Value} {Z : World → Prop} (w : World) (hit : Iter Try.prog gf pb lb encU ownN T0 (XK ns) Z (FinK ns)) (eg : ∀ args w, (callFunc gf args).run Try.prog w = .ok (.enter gf args) w) (hn : ns.length ≤ N) (hN : N ≤ 1000)
    (hT0 : ∀ b ∈ T0, b < w.heap.size) (hZ : ∀ W', Below w.heap.size w W' → Z W') : Calls Try.prog 34 #[.func (.func gf) pb lb] w fun e w' => ∃ v xs, e = .returned v ∧ FinR ns xs ∧ SR w.heap.size w' v xs ∧ Below w.heap.size w w' := by
  have C := Lib.hid (collect_any w hit eg (by omega) hT0 hZ)
  have HN := Lib.hid (And.intro hS hn)
  clear hit eg hn hT0 hZ hS hN
  go_enter Try.func34, Try.ntmps34
  go_wp2_with fail
  refine C.out.mono ?_; rintro e w1 ⟨v, xs, rfl, hf, hr, hb⟩
  have hlen := nodup_len xs ns hf.1 fun x hx => (hf.2 x).1 hx
  rcases hr with ⟨rfl, rfl⟩ | ⟨g, o, cap, cur, rfl, hg, h2, h3, h4, h5, h6⟩
  · have H := Lib.hid (And.intro hf hb)
    have D := Lib.hid (sort_nil w1)
    clear hf hb C hlen HN
    go_wp2_with fail
    refine D.out.mono ?_; rintro e w2 ⟨rfl, rfl⟩
    go_wp2_with fail
    go_ret
    exact ⟨_, [], rfl, ⟨List.Pairwise.nil, H.out.1.2⟩, Or.inl ⟨rfl, rfl⟩, H.out.2⟩
  · obtain ⟨n, en⟩ : ∃ n, xs.length = n := ⟨_, rfl⟩
    rw [en] at h4 hlen
    rw [en]
    have har : AR w1 g o n (fun k => ((xs.getD k 0 : Nat) : Int)) := ⟨cur, h2, by omega, fun k hk => by
      rw [h6 k _ (List.getElem?_eq_getElem (by omega : k < xs.length))]; dsimp only; rw [List.getD_eq_getElem?_getD, List.getElem?_eq_getElem (by omega : k < xs.length)]; rfl⟩
    have D := Lib.hid (HN.out.1 w1 g o n cap _ har (by have := HN.out.2; omega))
    have H := Lib.hid (And.intro hf (And.intro hb (And.intro hg (And.intro h3 (And.intro h4 (And.intro h5 (And.intro en h2)))))))
    clear hf hb hg h2 h3 h4 h5 h6 har C HN hlen en
    go_wp2_with fail
    refine D.out.mono ?_; rintro e w2 ⟨rfl, ht, f', ha, hrl, hsr⟩
    have H2 : Hid (∃ ys : List Nat, FinR ns ys ∧ SR w.heap.size w2 (.slice (some ⟨g, o, none⟩) n cap) ys ∧ Below w.heap.size w w2) := Lib.hid (by
      obtain ⟨hf, hb, hg, h3, h4, h5, en, h2⟩ := H.out
      obtain ⟨ys, e1, e2, e3⟩ := sorted_fin en hf hrl hsr
      obtain ⟨cur', k1, k2, k3⟩ := ha
      refine ⟨ys, e2, .inr ⟨g, o, cap, cur', by rw [e1], hg, by omega, k1, fun i x hi => ?_⟩, hb.trans (ht.below hb.size fun b hb' => by rw [List.mem_singleton.1 hb']; exact hg)⟩
      have hin : i < n := by rw [← e1]; exact (List.getElem?_eq_some_iff.1 hi).1
      rw [k3 i hin, e3 i hin, List.getD_eq_getElem?_getD, hi]; rfl)
    clear ht ha hrl hsr D H
    go_wp2_with fail
    go_ret
    obtain ⟨ys, h1, h2, h3⟩ := H2.out
    exact ⟨_, ys, rfl, h1, h2, h3⟩
end Go.Proofs.Ytodionedjokdmaa
