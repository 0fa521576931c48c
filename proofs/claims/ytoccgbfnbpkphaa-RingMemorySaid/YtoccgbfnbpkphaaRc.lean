/- New rows: slices.Clone, a packet's bytes; slices.Clip. -/
import Derived.Test.YtoccgbfnbpkphaaRb
import Derived.Lib.SliceRun
import Derived.StillTailTactics
set_option linter.unusedVariables false
set_option linter.unusedSimpArgs false
namespace Go.Proofs.Ytoccgbfnbpkphaa
open Go.RowKit Rn
set_option linter.unusedVariables false
set_option linter.unusedSimpArgs false
/-- A row of one's own, that is not nil: n elements of so many cells, from block base on. -/
def NR (base : Nat) (e : TypeId) (size : Nat) (w : World) (v : Value) (n : Nat) (xs : List Value) : Prop :=
  ∃ b cap cur, v = .slice (some ⟨b, 0, none⟩) n cap ∧ base ≤ b ∧ w.heap[b]? = some (Obj.cells cur e) ∧ n ≤ cap ∧ cap ≤ maxLen ∧ cur.toList.take (n * size) = xs ∧ xs.length = n * size
theorem NR.of_owns {base : Nat} {e : TypeId} {size : Nat} {w : World} {v : Value} {n : Nat} {xs : List Value} (h : w.ownsRow base e size v n xs) (hv : v ≠ .slice none 0 0) : NR base e size w v n xs := by
  rcases h.2 with ⟨rfl, _⟩ | ⟨g, cap, cur, rfl, hb, hg, hnc, hcm, hcs, htake⟩
  · exact absurd rfl hv
  · exact ⟨g, cap, cur, rfl, hb, hg, hnc, hcm, htake, h.1⟩
theorem NR.mono {base base' : Nat} {e : TypeId} {size : Nat} {w : World} {v : Value} {n : Nat} {xs : List Value} (h : NR base e size w v n xs) (hb : base' ≤ base) : NR base' e size w v n xs := by
  obtain ⟨b, cap, cur, h1, h2, h3⟩ := h; exact ⟨b, cap, cur, h1, Nat.le_trans hb h2, h3⟩
theorem take_at {cur : Array Value} {n : Nat} {xs : List Value} (h : cur.toList.take n = xs) {j : Nat} {u : Value} (hu : xs[j]? = some u) : cur[j]? = some u := by
  rw [← h, List.getElem?_take] at hu
  split at hu
  · simpa using hu
  · cases hu
theorem nilB (w : World) (a : Option Addr) (n c : Nat) : (binOp .eql 32 (.slice a n c) (.slice none 0 0)).run Try.prog w = .ok (.bool a.isNone) w := Lib.run_eql_slice_nil w _ _ a n c 0 0 Try.underlying32
theorem nilU (w : World) (a : Option Addr) (n c : Nat) : (binOp .eql 28 (.slice a n c) (.slice none 0 0)).run Try.prog w = .ok (.bool a.isNone) w := Lib.run_eql_slice_nil w _ _ a n c 0 0 Try.underlying28
theorem nilP (w : World) (a : Option Addr) (n c : Nat) : (binOp .eql 49 (.slice a n c) (.slice none 0 0)).run Try.prog w = .ok (.bool a.isNone) w := Lib.run_eql_slice_nil w _ _ a n c 0 0 Try.underlying49
theorem infoU : (Try.prog.info? 33).map (fun i => (i.zero, i.size, i.bytes)) = some (some (.int .u64 0), 1, 8) := by kernel_rfl
/-- A packet's zero value. -/
def zk : List Value := kc bare
theorem zk_len : zk.length = 33 := rfl
theorem infoP : (Try.prog.info? 26).map (fun i => (i.zero, i.size, i.bytes)) = some (some (.agg zk.toArray), 33, 40) := by kernel_rfl
/-- What a clone answers. -/
def Clones (W : World) (e : TypeId) (size n : Nat) (xs : List Value) (en : Ending) (w' : World) : Prop := ∃ v, en = .returned v ∧ NR W.heap.size e size w' v n xs ∧ Below W.heap.size W w'
theorem rd_below {W w : World} {ad : Addr} {xs : List Value} (h : ∀ j u, xs[j]? = some u → W.cell? (ad.add j) = some u) (hl : xs ≠ [] → ad.block < W.heap.size) (hb : Below W.heap.size W w) : ∀ j u, xs[j]? = some u → w.cell? (ad.add j) = some u := fun j u hu => by
  have h1 := h j u hu
  have hne : xs ≠ [] := fun e => by rw [e] at hu; cases hu
  rw [hb.cell (p := ad.add j) (by
    have : (ad.add j).block = ad.block := by unfold Addr.add; split <;> rfl
    rw [this]; exact hl hne)]
  exact h1
theorem block_of {W : World} {ad : Addr} {xs : List Value} (h : ∀ j u, xs[j]? = some u → W.cell? (ad.add j) = some u) : xs ≠ [] → ad.block < W.heap.size := fun hne => by
  obtain ⟨u, hu⟩ : ∃ u, xs[0]? = some u := by
    cases xs with
    | nil => exact absurd rfl hne
    | cons x r => exact ⟨x, rfl⟩
  have := World.block_lt_of_cell? W _ (h 0 u hu)
  have e : (ad.add 0).block = ad.block := by unfold Addr.add; split <;> rfl
  rwa [e] at this
set_option maxHeartbeats 1000000 in
theorem clone_bytes (ad : Addr) (c n : Nat) (xs : List Value) (w : World) (hn : xs.length = n) (hm : n ≤ 1000000) (hr : ∀ j u, xs[j]? = some u → w.cell? (ad.add j) = some u) (h1 : ∀ u ∈ xs, u.oneCell' = true) :
    Calls Try.prog 20 #[.slice (some ad) n c] w (Clones w 5 1 n xs) := by
  obtain ⟨i0, hi, hz0, hz1, hz2⟩ := info_parts info5
  have HR := Lib.hid (rd_below hr (block_of hr) (below_alloc1 w (Obj.cells #[] 5)))
  have H1 := Lib.hid h1
  have HN := Lib.hid hn
  clear hr h1 hn
  have qT := nilB
  go_enter Try.func20, Try.ntmps20
  have hown0 := Lib.hid (World.ownsRow_made (base := w.heap.size) (e := 5) (size := 1) w #[] 0 (Nat.le_refl _) (by unfold maxLen; omega) rfl)
  go_wp2_with (at_builtin; refine wpList_append_own _ rfl (.tmp 5) (.tmp 6) 32 rfl w.heap.size 5 i0 (.int .u8 0) 1 1 Try.underlying32 hi hz0 hz1 hz2 rfl (by omega) _ 0 [] rfl hown0.out ad n c xs rfl (by rw [HN.out, Nat.mul_one]) HR.out H1.out ?c1 ?c2 ?c3 ?_)
  case c1 => unfold maxLen; omega
  case c2 => omega
  case c3 => simp
  intro v' w' hown' hg' hnil
  have hb' : Below w.heap.size w w' := ((Below.refl w.heap.size w).alloc (Nat.le_refl _) (Obj.cells #[] 5)).grown hg' (by simp) (fun k hk => by simp [Value.ownBlock] at hk; omega)
  have HE := Lib.hid (And.intro (NR.of_owns hown' hnil) hb')
  clear hown' hg' hb' hnil
  go_wp2_with fail
  go_ret
  exact ⟨_, rfl, HE.out⟩
set_option maxHeartbeats 1000000 in
theorem clone_u64 (ad : Addr) (c n : Nat) (xs : List Value) (w : World) (hn : xs.length = n) (hm : n ≤ 1000000) (hr : ∀ j u, xs[j]? = some u → w.cell? (ad.add j) = some u) (h1 : ∀ u ∈ xs, u.oneCell' = true) :
    Calls Try.prog 19 #[.slice (some ad) n c] w (Clones w 33 1 n xs) := by
  obtain ⟨i0, hi, hz0, hz1, hz2⟩ := info_parts infoU
  have HR := Lib.hid (rd_below hr (block_of hr) (below_alloc1 w (Obj.cells #[] 33)))
  have H1 := Lib.hid h1
  have HN := Lib.hid hn
  clear hr h1 hn
  have qT := nilU
  go_enter Try.func19, Try.ntmps19
  have hown0 := Lib.hid (World.ownsRow_made (base := w.heap.size) (e := 33) (size := 1) w #[] 0 (Nat.le_refl _) (by unfold maxLen; omega) rfl)
  go_wp2_with (at_builtin; refine wpList_append_own _ rfl (.tmp 5) (.tmp 6) 28 rfl w.heap.size 33 i0 (.int .u64 0) 1 8 Try.underlying28 hi hz0 hz1 hz2 rfl (by omega) _ 0 [] rfl hown0.out ad n c xs rfl (by rw [HN.out, Nat.mul_one]) HR.out H1.out ?c1 ?c2 ?c3 ?_)
  case c1 => unfold maxLen; omega
  case c2 => omega
  case c3 => simp
  intro v' w' hown' hg' hnil
  have hb' : Below w.heap.size w w' := ((Below.refl w.heap.size w).alloc (Nat.le_refl _) (Obj.cells #[] 33)).grown hg' (by simp) (fun k hk => by simp [Value.ownBlock] at hk; omega)
  have HE := Lib.hid (And.intro (NR.of_owns hown' hnil) hb')
  clear hown' hg' hb' hnil
  go_wp2_with fail
  go_ret
  exact ⟨_, rfl, HE.out⟩
theorem clone_u64_nil (w : World) : Calls Try.prog 19 #[.slice none 0 0] w fun e w' => e = .returned (.slice none 0 0) ∧ w' = w := by
  have qT := nilU
  go_enter Try.func19, Try.ntmps19
  go_wp2_with fail
  go_ret
  exact ⟨rfl, rfl⟩
set_option maxHeartbeats 1000000 in
theorem clone_pks (ad : Addr) (c n : Nat) (xs : List Value) (w : World) (hn : xs.length = n * 33) (hm : n ≤ 1000000) (hr : ∀ j u, xs[j]? = some u → w.cell? (ad.add j) = some u) (h1 : ∀ u ∈ xs, u.oneCell' = true) :
    Calls Try.prog 17 #[.slice (some ad) n c] w (Clones w 26 33 n xs) := by
  obtain ⟨i0, hi, hz0, hz1, hz2⟩ := info_parts infoP
  have HR := Lib.hid (rd_below hr (block_of hr) (below_alloc1 w (Obj.cells #[] 26)))
  have H1 := Lib.hid h1
  have HN := Lib.hid hn
  clear hr h1 hn
  obtain ⟨Z, eZ⟩ : ∃ Z, zk.toArray = Z := ⟨_, rfl⟩
  have hZ : (Value.agg Z).cells.size = 33 := by rw [← eZ]; rfl
  rw [eZ] at hz0
  clear eZ
  have qT := nilP
  go_enter Try.func17, Try.ntmps17
  have hown0 := Lib.hid (World.ownsRow_made (base := w.heap.size) (e := 26) (size := 33) w #[] 0 (Nat.le_refl _) (by unfold maxLen; omega) rfl)
  go_wp2_with (at_builtin; refine wpList_append_own _ rfl (.tmp 5) (.tmp 6) 49 rfl w.heap.size 26 i0 (.agg Z) 33 40 Try.underlying49 hi hz0 hz1 hz2 hZ (by omega) _ 0 [] rfl hown0.out ad n c xs rfl HN.out HR.out H1.out ?c1 ?c2 ?c3 ?_)
  case c1 => unfold maxLen; omega
  case c2 => omega
  case c3 => simp
  intro v' w' hown' hg' hnil
  have hb' : Below w.heap.size w w' := ((Below.refl w.heap.size w).alloc (Nat.le_refl _) (Obj.cells #[] 26)).grown hg' (by simp) (fun k hk => by simp [Value.ownBlock] at hk; omega)
  have HE := Lib.hid (And.intro (NR.of_owns hown' hnil) hb')
  clear hown' hg' hb' hnil
  go_wp2_with fail
  go_ret
  exact ⟨_, rfl, HE.out⟩
theorem clip_any (w : World) (b l c : Nat) (hl : l ≤ c) (hm : l ≤ 9223372036854775807) : Calls Try.prog 16 #[.slice (some ⟨b, 0, none⟩) l c] w fun e w' => e = .returned (.slice (some ⟨b, 0, none⟩) l l) ∧ w' = w := by
  have j1 : (l : Int) ≤ c := by omega
  go_enter Try.func16, Try.ntmps16
  go_wp2_with fail
  go_ret
  exact ⟨rfl, rfl⟩
theorem clip_nil (w : World) : Calls Try.prog 16 #[.slice none 0 0] w fun e w' => e = .returned (.slice none 0 0) ∧ w' = w := by
  go_enter Try.func16, Try.ntmps16
  go_wp2_with fail
  go_ret
  exact ⟨rfl, rfl⟩
set_option maxHeartbeats 1000000 in
theorem bytes_any {p : Pk} (hp : p.ok) (w : World) : Calls Try.prog 15 #[.agg (kc p).toArray] w (Clones w 5 1 p.n (Y p.bs)) := by
  have h0 := heap_alloc_new w (Obj.cells (kc p).toArray 26)
  have c1 : (w.alloc (Obj.cells (kc p).toArray 26)).cell? ⟨w.heap.size, 32, none⟩ = some (.int .i64 (p.n : Int)) := by
    rw [cell_of_row _ _ _ _ 26 (0, 0) h0, List.getElem?_toArray]; exact kc_n hp.1
  have hl : (Y p.bs).length = p.n := by rw [Y_len, hp.bs_len]
  have C := Lib.hid (clone_bytes ⟨w.heap.size, 0, none⟩ 32 p.n (Y p.bs) (w.alloc (Obj.cells (kc p).toArray 26)) hl (by have := hp.2.1; omega) (fun j u hu => by
    obtain ⟨x, hx, rfl⟩ := Y_get hu
    rw [addr_add, Nat.zero_add, cell_of_row _ _ _ _ 26 (0, 0) h0, List.getElem?_toArray]
    refine kc_data ?_
    unfold Pk.bs at hx
    rw [List.getElem?_take] at hx
    split at hx
    · exact hx
    · cases hx) (Y_one _))
  have hb := Lib.hid (below_alloc1 w (Obj.cells (kc p).toArray 26))
  obtain ⟨PA, ePA⟩ : ∃ PA, (kc p).toArray = PA := ⟨_, rfl⟩
  obtain ⟨n, en⟩ : ∃ n, p.n = n := ⟨_, rfl⟩
  have j1 : (n : Int) ≤ 32 := by have := hp.2.1; omega
  have j2 : 0 ≤ (n : Int) := by omega
  obtain ⟨bs, eb⟩ : ∃ bs, Y p.bs = bs := ⟨_, rfl⟩
  rw [ePA] at c1 C hb ⊢
  rw [en] at c1 C ⊢
  rw [eb] at C ⊢
  clear h0 hl ePA en hp eb
  go_enter Try.func15, Try.ntmps15
  go_wp2_with fail
  refine C.out.mono ?_; rintro e w1 ⟨v, rfl, h1, h2⟩
  have HE := Lib.hid (And.intro (h1.mono hb.out.size) (hb.out.trans (h2.mono hb.out.size)))
  clear h1 h2 C hb
  go_wp2_with fail
  go_ret
  exact ⟨_, rfl, HE.out⟩
end Go.Proofs.Ytoccgbfnbpkphaa
