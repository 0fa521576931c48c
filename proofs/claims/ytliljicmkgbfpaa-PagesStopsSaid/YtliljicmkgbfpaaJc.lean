/- way: the tables that lead to a page. -/
import Derived.Test.YtliljicmkgbfpaaJb
import Derived.Test.YtliljicmkgbfpaaHb
import Derived.Laws.OwnMore
set_option linter.unusedVariables false
set_option linter.unusedSimpArgs false
namespace Pg
/-- What stands ahead of a page in the table of a level that leads to it. -/
def pf (p l : Nat) : Nat := p / 8 ^ (4 - l)
theorem pf_0 {p : Nat} (h : p < 4096) : pf p 0 = 0 := by unfold pf; simp <;> omega
theorem pf_1 (p : Nat) : pf p 1 = p / 512 := rfl
theorem pf_2 (p : Nat) : pf p 2 = p / 64 := rfl
theorem pf_3 (p : Nat) : pf p 3 = p / 8 := rfl
theorem pf_next {p l : Nat} (h : l < 4) : 8 * pf p l + p / 8 ^ (3 - l) % 8 = pf p (l + 1) := by
  have h4 : l = 0 ∨ l = 1 ∨ l = 2 ∨ l = 3 := by omega
  unfold pf
  rcases h4 with rfl | rfl | rfl | rfl <;> simp <;> omega
/-- How many tables there are that lead to a page. -/
def dep (ks : List (Nat × Nat)) (p : Nat) : Nat := if (3, p / 8) ∈ ks then 4 else if (2, p / 64) ∈ ks then 3 else if (1, p / 512) ∈ ks then 2 else 1
theorem dep_range (ks : List (Nat × Nat)) (p : Nat) : 1 ≤ dep ks p ∧ dep ks p ≤ 4 := by unfold dep; split; omega; split; omega; split <;> omega
variable {os : List Nat} {ds : List (List Nat)} {o : Nat} {ks : List (Nat × Nat)} {nd : Nat → Nat → Nat} {mp : Nat → Option (Nat × Bool)}
theorem Tb.up3 (h : Tb os ds o ks nd mp) {p : Nat} (hk : (3, p / 8) ∈ ks) : (2, p / 64) ∈ ks := by have := h.up 2 _ hk; rwa [show p / 8 / 8 = p / 64 by omega] at this
theorem Tb.up2 (h : Tb os ds o ks nd mp) {p : Nat} (hk : (2, p / 64) ∈ ks) : (1, p / 512) ∈ ks := by have := h.up 1 _ hk; rwa [show p / 64 / 8 = p / 512 by omega] at this
theorem Tb.dep_mem (h : Tb os ds o ks nd mp) {p l : Nat} (hp : p < 4096) (hl : l < 4) : l < dep ks p ↔ (l, pf p l) ∈ ks := by
  have u3 := h.up3 (p := p)
  have u2 := h.up2 (p := p)
  have h4 : l = 0 ∨ l = 1 ∨ l = 2 ∨ l = 3 := by omega
  unfold dep
  rcases h4 with rfl | rfl | rfl | rfl
  · rw [pf_0 hp]
    refine ⟨fun _ => h.root, fun _ => ?_⟩
    split; omega; split; omega; split <;> omega
  · rw [pf_1]
    by_cases h3 : (3, p / 8) ∈ ks
    · simp [h3, u2 (u3 h3)]
    · by_cases h2 : (2, p / 64) ∈ ks
      · simp [h3, h2, u2 h2]
      · by_cases h1 : (1, p / 512) ∈ ks <;> simp [h3, h2, h1]
  · rw [pf_2]
    by_cases h3 : (3, p / 8) ∈ ks
    · simp [h3, u3 h3]
    · by_cases h2 : (2, p / 64) ∈ ks
      · simp [h3, h2]
      · by_cases h1 : (1, p / 512) ∈ ks <;> simp [h3, h2, h1]
  · rw [pf_3]
    by_cases h3 : (3, p / 8) ∈ ks
    · simp [h3]
    · by_cases h2 : (2, p / 64) ∈ ks
      · simp [h3, h2]
      · by_cases h1 : (1, p / 512) ∈ ks <;> simp [h3, h2, h1]
theorem Tb.dep_fill (h : Tb os ds o ks nd mp) (p : Nat) : (fill ks p).length = ks.length + (4 - dep ks p) := by
  have u3 := h.up3 (p := p)
  have u2 := h.up2 (p := p)
  have m1 : ∀ (l q : Nat) (ks' : List (Nat × Nat)), (ins (l, q) ks').length = ks'.length + if (l, q) ∈ ks' then 0 else 1 := fun l q ks' => by unfold ins; split <;> simp
  unfold fill dep
  simp only [m1, mem_ins]
  by_cases h3 : (3, p / 8) ∈ ks
  · simp [h3, u3 h3, u2 (u3 h3)]
  · by_cases h2 : (2, p / 64) ∈ ks
    · simp [h3, h2, u2 h2]
    · by_cases h1 : (1, p / 512) ∈ ks <;> simp [h3, h2, h1]
/-- The tables that lead to a page, the root first. -/
def wy (nd : Nat → Nat → Nat) (p n : Nat) : List Nat := (List.range n).map fun l => nd l (pf p l)
theorem wy_succ (nd : Nat → Nat → Nat) (p n : Nat) : wy nd p (n + 1) = wy nd p n ++ [nd n (pf p n)] := by unfold wy; rw [List.range_succ, List.map_append]; rfl
theorem wy_len (nd : Nat → Nat → Nat) (p n : Nat) : (wy nd p n).length = n := by unfold wy; simp
theorem wy_get (nd : Nat → Nat → Nat) {p n l : Nat} (h : l < n) : (wy nd p n)[l]? = some (nd l (pf p l)) := by unfold wy; simp [h]
end Pg
namespace Go.Proofs.Ytliljicmkgbfpaa
open Go.RowKit Pg
set_option linter.unusedVariables false
set_option linter.unusedSimpArgs false
theorem infoI : (Try.prog.info? 3).map (fun i => (i.zero, i.size, i.bytes)) = some (some (.int .i64 0), 1, 8) := by kernel_rfl
/-- Numbers of a call's own. -/
def NI (X : Nat) (w : World) (L : List Nat) (n : Nat) (v : Value) : Prop := L.length = n ∧ w.ownsRow X 3 1 v n (L.map fun (x : Nat) => Value.int .i64 (x : Int))
theorem NI.at_ {X n : Nat} {w : World} {L : List Nat} {v : Value} (h : NI X w L n v) (h1 : 1 ≤ n) : ∃ g cap, v = .slice (some ⟨g, 0, none⟩) n cap ∧ X ≤ g ∧ g < w.heap.size ∧ n ≤ cap ∧ ∀ i x : Nat, L[i]? = some x → w.cell? ⟨g, i, none⟩ = some (.int .i64 (x : Int)) := by
  obtain ⟨hl, h⟩ := h
  obtain ⟨g, cap, rfl, _, _⟩ := h.form h1
  obtain ⟨h2, h3⟩ := h.lt g rfl
  have hc : n ≤ cap := by
    rcases h.2 with ⟨e, _⟩ | ⟨g', cap', cur, e, _, _, hc, _⟩
    · cases e
    · injection e with _ _ e; omega
  refine ⟨g, cap, rfl, h2, h3, hc, fun i x hi => ?_⟩
  have := h.cells (g := g) rfl i (.int .i64 (x : Int)) (by rw [List.getElem?_map, hi]; rfl)
  rwa [addr_add, Nat.zero_add] at this
theorem NI.mono {X X' n : Nat} {w : World} {L : List Nat} {v : Value} (h : NI X w L n v) (hX : X' ≤ X) : NI X' w L n v := ⟨h.1, owns_mono h.2 hX⟩
theorem NI.kept {X n : Nat} {w w' : World} {L : List Nat} {v : Value} (h : NI X w L n v) (hk : ∀ b, X ≤ b → b < w.heap.size → w'.heap[b]? = w.heap[b]?) : NI X w' L n v := by
  obtain ⟨hl, h1, h2⟩ := h
  refine ⟨hl, h1, ?_⟩
  rcases h2 with h2 | ⟨g, cap, cur, e, hg, hh, hr⟩
  · exact .inl h2
  · exact .inr ⟨g, cap, cur, e, hg, by rw [hk g hg (Array.getElem?_eq_some_iff.1 hh).1]; exact hh, hr⟩
theorem NI.below {X n : Nat} {w w' : World} {L : List Nat} {v : Value} (h : NI X w L n v) (hb : Below w.heap.size w w') : NI X w' L n v := h.kept fun b _ hb' => hb.block b hb'
theorem ni_one (X : Nat) (w : World) (x : Nat) (hX : X ≤ w.heap.size) : NI X (w.alloc (Obj.cells #[.int .i64 (x : Int)] 3)) [x] 1 (.slice (some ⟨w.heap.size, 0, none⟩) 1 1) :=
  ⟨rfl, World.ownsRow_lit (base := X) (e := 3) (size := 1) w #[.int .i64 (x : Int)] 1 hX (by unfold maxLen; omega) rfl⟩
theorem there_bit (x : Nat) (hx : x < 18446744073709551616) : bits .and .u64 (x : Int) 1 = ((x % 2 : Nat) : Int) := by
  have h1 : (BitVec.ofInt 64 (x : Int)).toNat = x := by rw [BitVec.toNat_ofInt]; omega
  have h2 : (BitVec.ofInt 64 1).toNat = 1 := by decide
  show IntKind.u64.wrap ((BitVec.ofInt 64 (x : Int) &&& BitVec.ofInt 64 1).toNat : Nat) = _
  rw [BitVec.toNat_and, h1, h2, Nat.and_one_is_mod, IntKind.wrap_u64]
  omega
theorem may_bit (x : Nat) (hx : x < 18446744073709551616) : bits .and .u64 (x : Int) 2 = ((x / 2 % 2 * 2 : Nat) : Int) := by
  have h1 : (BitVec.ofInt 64 (x : Int)).toNat = x := by rw [BitVec.toNat_ofInt]; omega
  have h2 : (BitVec.ofInt 64 2).toNat = 2 := by decide
  show IntKind.u64.wrap ((BitVec.ofInt 64 (x : Int) &&& BitVec.ofInt 64 2).toNat : Nat) = _
  rw [BitVec.toNat_and, h1, h2]
  have e : x &&& 2 = x / 2 % 2 * 2 := by
    apply Nat.eq_of_testBit_eq
    intro i
    rw [Nat.testBit_and]
    match i with
    | 0 => simp
    | 1 =>
      have hh : Nat.testBit (x / 2 % 2 * 2) 1 = decide (x / 2 % 2 = 1) := by
        rw [Nat.testBit_succ, Nat.mul_div_cancel _ (by omega)]
        simp
      rw [hh, Nat.testBit_succ]
      have : Nat.testBit 2 1 = true := by decide
      simp [this]
    | i + 2 =>
      have e2 : Nat.testBit 2 (i + 2) = false := by rw [Nat.testBit_succ, Nat.testBit_succ]; simp
      have e3 : Nat.testBit (x / 2 % 2 * 2) (i + 2) = false := by
        rw [Nat.testBit_succ, Nat.testBit_succ, Nat.mul_div_cancel _ (by omega), Nat.div_eq_of_lt (Nat.mod_lt _ (by omega))]
        simp
      rw [e2, e3]; simp
  rw [e, IntKind.wrap_u64]
  omega
variable {W : World} {T : List Nat} {R : Nat} {os : List Nat} {ds : List (List Nat)} {o : Nat} {ks : List (Nat × Nat)} {nd : Nat → Nat → Nat} {mp : Nat → Option (Nat × Bool)} {w w' : World}
theorem tb_own (t : Tb os ds o ks nd mp) {l q : Nat} (hk : (l, q) ∈ ks) : Fr.own os ((nd l q : Nat) : Int) ≠ 0 := by
  obtain ⟨h1, h2, h3, _⟩ := t.own l q hk
  rw [own_of h1 h2 h3]; exact t.own0
theorem tb_frame (h : St W T R os ds w) (t : Tb os ds o ks nd mp) {l q : Nat} (hk : (l, q) ∈ ks) : nd l q ≤ 4096 := by
  have := (t.own l q hk).2.1
  have := h.len.2.2.1
  omega
set_option maxRecDepth 100000 in
set_option maxHeartbeats 4000000 in
theorem way_st (h : St W T R os ds w) (t : Tb os ds o ks nd mp) (r : Int) (hr : ((nd 0 0 : Nat) : Int) = r) (p : Nat) (hp : p < 4096) :
    Calls Try.prog 22 #[.pointer (some ⟨R, 0, none⟩), .int .i64 r, .int .i64 (p : Int)] w fun e w' => (∃ v, e = .returned v ∧ NI w.heap.size w' (wy nd p (dep ks p)) (dep ks p) v) ∧ Below w.heap.size w w' := by
  subst hr
  have hown := tb_own t t.root
  have hn := tb_frame h t t.root
  obtain ⟨x, ex⟩ : ∃ x, Fr.own os ((nd 0 0 : Nat) : Int) = x := ⟨_, rfl⟩
  have O := Lib.hid (owner_st ((nd 0 0 : Nat) : Int) h (by omega) (by omega) x (by rw [ex]))
  rw [ex] at hown
  have HT := Lib.hid t
  have HH := Lib.hid h
  have b1 : ((x : Int) == 0) = false := by simp; omega
  have b2 : decide ((p : Int) < 0) = false := by simp <;> omega
  have b3 : decide ((4096 : Int) ≤ (p : Int)) = false := by simp <;> omega
  obtain ⟨i0, hi, hz0, hz1, hz2⟩ := info_parts infoI
  have I0 := Lib.hid (And.intro hi (And.intro hz0 (And.intro hz1 hz2)))
  clear hown ex h t hi hz0 hz1 hz2
  go_enter Try.func22, Try.ntmps22
  go_wp2_with fail
  refine O.out.mono ?_; rintro e w1 ⟨rfl, _, _, hb1⟩
  have H1 := Lib.hid hb1
  clear hb1 O
  go_wp2_with fail
  have hN := ni_one w.heap.size w1 (nd 0 0) H1.out.size
  have hB : Below w.heap.size w (w1.alloc (Obj.cells #[.int .i64 ((nd 0 0 : Nat) : Int)] 3)) := H1.out.alloc H1.out.size _
  obtain ⟨W1, eW⟩ : ∃ W1, w1.alloc (Obj.cells #[.int .i64 ((nd 0 0 : Nat) : Int)] 3) = W1 := ⟨_, rfl⟩
  rw [eW] at hN hB ⊢
  clear eW
  have HS := Lib.hid (And.intro hN hB)
  clear hN hB
  have HP := Lib.hid (And.intro b1 (And.intro b2 b3))
  clear b1 b2 b3
  go_loopw [7, 24] (fun v k wr => ∃ (j : Nat), j ≤ 3 ∧ k = .int .i64 (j : Nat) ∧ NI w.heap.size wr (wy nd p (j + 1)) (j + 1) v ∧ Below w.heap.size w wr ∧ Hid (∀ l, l ≤ j → (l, pf p l) ∈ ks)) (fun v k wr => 3 - (intOf k).toNat)
  case atStart =>
    refine ⟨0, by omega, rfl, ?_, HS.out.2, Lib.hid fun l hl => ?_⟩
    · have : wy nd p (0 + 1) = [nd 0 0] := by unfold wy; simp [pf_0 hp]
      rw [this]; exact HS.out.1
    · obtain rfl : l = 0 := by omega
      rw [pf_0 hp]; exact HT.out.root
  case round =>
    obtain ⟨j, hj, rfl, hNI, hb, hks⟩ := hrel
    obtain ⟨g, cap, rfl, g1, g2, g3, g4⟩ := hNI.at_ (by omega)
    by_cases h3 : j = 3
    · subst h3
      have hd : dep ks p = 4 := by have := (HT.out.dep_mem hp (l := 3) (by omega)).2 (hks.out 3 (by omega)); have := (dep_range ks p).2; omega
      have HF := Lib.hid (And.intro hNI (And.intro hb hd))
      clear hNI hb hd hks g4
      go_wp2_with fail
      go_ret
      exact ⟨⟨_, rfl, by rw [HF.out.2.2]; exact HF.out.1⟩, HF.out.2.1⟩
    · have hlt : (j : Int) < 3 := by omega
      have hm := hks.out j (Nat.le_refl _)
      have ho := tb_own HT.out hm
      have hst : St W T R os ds wr := HH.out.below hb
      have hc := g4 j _ (wy_get nd (Nat.lt_succ_self j))
      have r0 := cell_regrown hc
      have Q2 := Lib.hid (show ∀ d os', Calls Try.prog 26 #[.int .i64 (p : Int), .int .i64 (j : Int)] (Sort.grow (redrawn wr d) os') fun e w'' => e = .returned (.int .i64 ((idx p j : Nat) : Int)) ∧ ∃ q : Regrown, w'' = Sort.grow (redrawn wr q.d) q.os from
        fun d os' => Calls.regrown_of ((index_any p j _ hp (by omega)).mono fun e w'' ⟨he, hw⟩ => ⟨he, by subst hw; exact Below.refl _ _⟩))
      obtain ⟨f, ef⟩ : ∃ f, nd j (pf p j) = f := ⟨_, rfl⟩
      obtain ⟨i, ei⟩ : ∃ i, idx p j = i := ⟨_, rfl⟩
      have hi8 : i < 8 := by rw [← ei]; exact idx_lt p j
      obtain ⟨x, ex⟩ : ∃ x, ent ds f i = x := ⟨_, rfl⟩
      rw [ef] at ho r0 hc
      rw [ei] at Q2
      have hx := ent_lt hst ho hi8
      have Q3 := Lib.hid (show ∀ d os', Calls Try.prog 29 #[.pointer (some ⟨R, 0, none⟩), .agg #[.int .i64 (f : Int), .int .i64 (i : Int)]] (Sort.grow (redrawn wr d) os') fun e w'' => e = .returned (.int .u64 (x : Int)) ∧ ∃ q : Regrown, w'' = Sort.grow (redrawn wr q.d) q.os from
        fun d os' => Calls.regrown_of ((get_st (hst.below (below_regrown wr d os')) f i ho hi8 x (by rw [ex])).mono fun e w'' ⟨he, _, _, hw⟩ => ⟨he, hw⟩))
      have hin := HT.out.in_ j (pf p j) i (by omega) hm hi8
      have hnx : 8 * pf p j + i = pf p (j + 1) := by rw [← ei]; exact pf_next (by omega)
      rw [ef, ex, hnx] at hin
      rw [ex] at hx
      have hbit := there_bit x hx
      have HN := Lib.hid (And.intro hNI (And.intro hb hks))
      have hk0 : (0 : Int) ≤ (j : Int) := by omega
      obtain ⟨n, en⟩ : ∃ n, j + 1 = n := ⟨_, rfl⟩
      have hk1 : (j : Int) < (n : Int) := by omega
      have hn4 : n ≤ 4 := by omega
      have HQ := Lib.hid (And.intro g1 (And.intro g2 (And.intro ef ei)))
      rw [en] at HN g3 ⊢
      have EN := Lib.hid en
      clear hNI hb hks hst hc g4 ex hm ho hnx ef ei en
      by_cases hth : there x = true
      · have hx2 : x % 2 = 1 := by simpa [there] using hth
        have hbit1 : bits .and .u64 (x : Int) 1 = 1 := by rw [hbit, hx2]; rfl
        have hfr := hin.2 (hin.1.1 hth)
        have F := Lib.hid (fun (X : World) => frame_any x X hx)
        rw [hfr] at F
        have HM := Lib.hid (hin.1.1 hth)
        obtain ⟨y, ey⟩ : ∃ y, nd (j + 1) (pf p (j + 1)) = y := ⟨_, rfl⟩
        rw [ey] at F
        have EY := Lib.hid ey
        clear hin hth hx2 hfr hbit ey
        go_upto_region 7 with fail
        refine wp_region_quiet_below (by kernel_rfl) (by kernel_rfl) ?_
        repeat (quiet_step (first | with_reducible exact Q2.out _ _ | with_reducible exact Q3.out _ _))
        refine wpQuiet_nil ?_
        intro _ hw'
        obtain ⟨⟨dq, osq⟩, hw''⟩ := hw'
        subst hw''
        have hbW := below_regrown wr dq osq
        obtain ⟨W2, e2⟩ : ∃ W2, Sort.grow (redrawn wr dq) osq = W2 := ⟨_, rfl⟩
        rw [e2] at hbW ⊢
        have HBW := Lib.hid hbW
        clear e2 hbW Q2 Q3 r0
        obtain ⟨hi, hz0, hz1, hz2⟩ := I0.out
        have hrow := (HN.out.1.below HBW.out).2
        have hsz : w.heap.size ≤ W2.heap.size := Nat.le_trans HN.out.2.1.size HBW.out.size
        go_wp2_with fail
        refine (F.out _).mono ?_; rintro e w3 ⟨rfl, rfl⟩
        go_wp2_with (at_builtin; refine wpList_append_own _ rfl _ _ 44 rfl w.heap.size 3 i0 (.int .i64 0) 1 8 Try.underlying44 hi hz0 hz1 hz2 rfl (by decide) _ _ _ rfl (hrow.alloc _) ⟨W2.heap.size, 0, none⟩ 1 1 [.int .i64 (y : Int)] rfl rfl (cell_one_new _ _ _) (by simp [Value.oneCell']) (by unfold maxLen; omega) (by omega) (by simp; omega) ?_; intro v' w4 hown' hgrow _)
        have hB4 : Below w.heap.size w w4 := ((HN.out.2.1.trans (HBW.out.mono HN.out.2.1.size)).alloc hsz _).grown hgrow (by simp; omega) (fun k e => by cases e; exact g1)
        have hN4 : NI w.heap.size w4 (wy nd p (n + 1)) (n + 1) v' := by
          refine ⟨wy_len _ _ _, ?_⟩
          rw [wy_succ, ← EN.out, EY.out, List.map_append]
          rw [← EN.out] at hown'
          exact hown'
        obtain ⟨g', cap', rfl, _, _⟩ := hown'.form (by omega)
        have HE := Lib.hid (And.intro hN4 hB4)
        clear hN4 hB4 hown' hgrow hrow
        go_wp2_with fail
        go_roundw
        case rel =>
          refine ⟨n, by have := EN.out; omega, by rw [← EN.out]; go_num, HE.out.1, HE.out.2, Lib.hid fun l hl => ?_⟩
          have := EN.out
          by_cases e : l = n
          · rw [e, ← EN.out]; exact HM.out
          · exact HN.out.2.2.out l (by omega)
        case measure => simp [intOf]; omega
      · have hx2 : x % 2 = 0 := by
          have : ¬ x % 2 = 1 := by simpa [there] using hth
          omega
        have hbit1 : bits .and .u64 (x : Int) 1 = 0 := by rw [hbit, hx2]; rfl
        have hnm : (j + 1, pf p (j + 1)) ∉ ks := fun hh => hth (hin.1.2 hh)
        have hd : dep ks p = n := by
          have h1 := (HT.out.dep_mem hp (l := j) (by omega)).2 (HN.out.2.2.out j (Nat.le_refl _))
          have h2 := mt (HT.out.dep_mem hp (l := j + 1) (by omega)).1 hnm
          have := EN.out
          omega
        have HD := Lib.hid hd
        clear hin hth hx2 hbit hnm hd
        go_upto_region 7 with fail
        refine wp_region_quiet_below (by kernel_rfl) (by kernel_rfl) ?_
        repeat (quiet_step (first | with_reducible exact Q2.out _ _ | with_reducible exact Q3.out _ _))
        refine wpQuiet_nil ?_
        intro _ hw'
        obtain ⟨⟨dq, osq⟩, hw''⟩ := hw'
        subst hw''
        have hbW := below_regrown wr dq osq
        obtain ⟨W2, e2⟩ : ∃ W2, Sort.grow (redrawn wr dq) osq = W2 := ⟨_, rfl⟩
        rw [e2] at hbW ⊢
        have HBW := Lib.hid hbW
        clear e2 hbW Q2 Q3 r0
        go_wp2_with fail
        go_ret
        refine ⟨⟨_, rfl, ?_⟩, HN.out.2.1.trans (HBW.out.mono HN.out.2.1.size)⟩
        rw [HD.out]
        exact HN.out.1.below HBW.out
end Go.Proofs.Ytliljicmkgbfpaa
