/- MapsSegs. -/
import Derived.Test.YtbjegfkjibfadaaSq
import Derived.Test.YtbjegfkjibfadaaVk
import Derived.Test.YtbjegfkjibfadaaMf
import Derived.Test.YtbjegfkjibfadaaTb
set_option linter.unusedVariables false
set_option linter.unusedSimpArgs false
namespace Go.Proofs.Ytbjegfkjibfadaa
open Go.RowKit Go.Maps
set_option linter.unusedVariables false
set_option linter.unusedSimpArgs false
/-- Does one begin at x? -/
def thr (l : List Mp) (x : Int) : Bool := l.any fun m => m.a == x
theorem thr_next {l : List Mp} {k : Nat} {m : Mp} (h : l[k]? = some m) (x : Int) : thr (l.take (k + 1)) x = (thr (l.take k) x || (m.a == x)) := by
  unfold thr
  rw [List.take_add_one, h, List.any_append]
  simp
theorem thr_iff {l : List Mp} {x : Int} : thr l x = true ↔ ∃ m ∈ l, m.a = x := by unfold thr; simp
set_option maxHeartbeats 8000000 in
set_option maxRecDepth 100000 in
theorem segs_all (A : Option Addr) (n c : Nat) (us : List Mp) (x : Int) (w : World) (hl : us.length = n) (hc : n ≤ c) (hcm : c ≤ maxLen) (hr : LV 5 encM w A us) (hin : ∀ m ∈ us, m.In) :
    Calls Try.prog 5 #[.slice A n c, .int .i64 x] w fun e w' => e = .returned (.bool true) ∧ Below w.heap.size w w' := by
  have CF := Lib.hid (fit_any w)
  have HL := Lib.hid hl
  have HR := Lib.hid hr
  have HC := Lib.hid (And.intro hc (And.intro hcm hin))
  have hmm := @run_makeMap Try.prog
  clear hl hr hc hcm hin
  go_enter Try.func5, Try.ntmps5
  go_wp2_with fail
  refine CF.out.mono ?_; rintro e w1 ⟨rfl, hb1⟩
  have HB1 := Lib.hid hb1
  clear CF hb1
  by_cases hbig : n > 40
  · have g1 : (n : Int) > 40 := by omega
    have g2 : (40 : Int) < n := g1
    clear hbig
    go_wp2_with fail
    go_ret
    exact ⟨rfl, HB1.out⟩
  · have g1 : ¬ (n : Int) > 40 := by omega
    have g2 : ¬ (40 : Int) < n := g1
    have C := Lib.hid (right_any (c := c) HL.out (by omega) (HR.out.below HB1.out))
    obtain ⟨q, eq⟩ : ∃ q, rightB us = q := ⟨_, rfl⟩
    rw [eq] at C
    have HQ := Lib.hid eq
    clear hbig eq
    go_wp2_with fail
    refine C.out.mono ?_; rintro e w2 ⟨rfl, hb2⟩
    have HB2 := Lib.hid (below_up HB1.out hb2)
    clear hb2 C HB1
    cases q
    · go_wp2_with fail
      go_ret
      exact ⟨rfl, HB2.out⟩
    · have HS := Lib.hid (rightB_iff.1 HQ.out)
      rw [HL.out] at HS
      have CG := Lib.hid (segs_any (c := c) HL.out HS.out.1 (HR.out.below HB2.out))
      clear HQ
      go_wp2_with fail
      refine CG.out.mono ?_; rintro e w3 ⟨vs, rfl, ⟨m', fr, hsr⟩, hb3⟩
      have HB3 := Lib.hid (below_up HB2.out hb3)
      have HSR := Lib.hid hsr
      have b4 := below_alloc1 w3 (Obj.map #[] 0)
      have HX := Lib.hid (show MapK (w3.alloc (Obj.map #[] 0)) w3.heap.size 0 [] ∧ Below w3.heap.size w3 (w3.alloc (Obj.map #[] 0)) from ⟨MapK.new w3, b4⟩)
      obtain ⟨As, cs, evs, hms⟩ : ∃ As cs, vs = .slice As m' cs ∧ m' ≤ m' := by
        rcases hsr.2 with ⟨rfl, h⟩ | ⟨g, o, c, h, _⟩
        · exact ⟨none, 0, h, Nat.le_refl _⟩
        · exact ⟨_, c, h, Nat.le_refl _⟩
      subst evs
      clear hsr hb3 b4 CG hms
      go_wp2_with fail
      clear hmm
      go_loopg [7, 29] n (fun gh tv i wr => ∃ k : Nat, k ≤ n ∧ gh = n - k ∧ i = .int .i64 k ∧ (∃ t : Bool, tv = .bool t ∧ Hid (t = thr (us.take k) x)) ∧ Hid (∃ K, MapK wr w3.heap.size k K ∧ (∀ s, s ∈ K ↔ s ∈ sgs (us.take k)) ∧ Below w3.heap.size w3 wr))
      case atStart => exact ⟨0, by omega, by omega, rfl, ⟨false, rfl, Lib.hid (by simp [thr])⟩, Lib.hid ⟨[], HX.out.1, fun s => by simp [sgs], HX.out.2⟩⟩
      case round =>
        clear HX
        obtain ⟨k, hk, hg, rfl, ⟨t, rfl, ht⟩, hI⟩ := hrel
        obtain ⟨K, hK, hmem, hbw⟩ := hI.out
        by_cases hlt : k < n
        · obtain ⟨m, hy⟩ : ∃ m, us[k]? = some m := ⟨_, List.getElem?_eq_getElem (by rw [HL.out]; exact hlt)⟩
          obtain ⟨B, off, rfl, _, c0, c1, c2, c3, c4⟩ := (HR.out.below (below_up HB3.out hbw)).five hy
          have b1 := below_alloc1 wr (blkM m)
          have hmi := HC.out.2.2 m (List.mem_of_getElem? hy)
          have h16 := HS.out.1
          obtain ⟨w5, hup, hK5, hT5⟩ := (hK.below b1).store (j := m.s) (by unfold maxLen; omega) hmi.2.1.1 hmi.2.1.2
          have hne : wr.heap.size ≠ w3.heap.size := Nat.ne_of_gt hK.lt
          have hf5 : Five w5 wr.heap.size 0 m := Five.row (t := 26) ((hT5.block wr.heap.size (by simp) (by simpa using hne)).trans (heap_alloc_new wr _))
          have hbw5 : Below w3.heap.size w3 w5 := (below_up hbw b1).trans (hT5.below (below_up hbw b1).size (by simp))
          have HNX : Hid (∃ K, MapK w5 w3.heap.size (k + 1) K ∧ (∀ s, s ∈ K ↔ s ∈ sgs (us.take (k + 1))) ∧ Below w3.heap.size w3 w5) := Lib.hid ⟨_, hK5, fun s => by
            have hs : sgs (us.take (k + 1)) = sgs (us.take k) ++ [m.s] := by
              unfold sgs
              rw [List.take_add_one, hy, List.map_append]; rfl
            rw [mem_addK, hmem s, hs, List.mem_append, List.mem_singleton]
            exact ⟨fun h => h.symm, fun h => h.symm⟩, hbw5⟩
          have HT := Lib.hid (thr_next hy x)
          obtain ⟨x0, x1, x2, x3, x4⟩ := hf5
          obtain ⟨a, s, f, nn, wt⟩ := m
          simp only [] at c0 c1 c2 c3 c4 x0 x1 x2 x3 x4 hup
          have l1 : (k : Int) < n := by omega
          have i1 : IntKind.i64.wrap ((k : Int) + 1) = (k : Int) + 1 := by rw [IntKind.wrap_i64]; omega
          clear hK hmem hbw hy b1 hmi h16 hK5 hT5 hne hbw5 hI
          cases t
          · have HT2 : Hid ((a == x) = thr (us.take (k + 1)) x) := Lib.hid (by rw [HT.out, ← ht.out, Bool.false_or])
            obtain ⟨q, eq⟩ : ∃ q, (a == x) = q := ⟨_, rfl⟩
            rw [eq] at HT2
            go_wp2_with fail
            go_roundg (n - (k + 1))
            case rel => exact ⟨k + 1, by omega, rfl, by simp, ⟨q, rfl, HT2⟩, HNX⟩
            case measure => first | omega | (simp; omega)
          · have HT2 : Hid (true = thr (us.take (k + 1)) x) := Lib.hid (by rw [HT.out, ← ht.out, Bool.true_or])
            go_wp2_with fail
            go_roundg (n - (k + 1))
            case rel => exact ⟨k + 1, by omega, rfl, by simp, ⟨true, rfl, HT2⟩, HNX⟩
            case measure => first | omega | (simp; omega)
        · have hkn : ¬ (k : Int) < n := by omega
          have hwt : us.take k = us := List.take_of_length_le (by rw [HL.out]; omega)
          have ht' := ht.out
          rw [hwt] at ht' hmem
          have HT := Lib.hid ht'
          have HK := Lib.hid (And.intro hK (And.intro hmem hbw))
          have hmm' : m' ≤ 16 := by
            have := nodup_le ((List.range m').map fr) (sgs us) (by
              rw [List.nodup_iff_pairwise_ne, List.pairwise_map]
              refine List.Pairwise.imp_of_mem (fun {a b} ha hb hab => ?_) (List.pairwise_lt_range (n := m'))
              have := HSR.out.1.rise a b hab (List.mem_range.1 hb)
              omega) (fun y hy => by
              obtain ⟨i, hi, rfl⟩ := List.mem_map.1 hy
              obtain ⟨z, z1, z2⟩ := HSR.out.1.back i (List.mem_range.1 hi)
              rw [z2]
              unfold sgf
              have hz : z < (sgs us).length := by unfold sgs; rw [List.length_map]; exact z1
              rw [List.getElem?_eq_getElem hz]
              exact List.getElem_mem hz)
            simp only [List.length_map, List.length_range] at this
            have h2 : (sgs us).length = n := by unfold sgs; rw [List.length_map, HL.out]
            have := HS.out.1
            omega
          have HM16 := Lib.hid hmm'
          clear hK hmem hbw hlt hk hg hwt ht' ht hI hmm'
          go_wp2_with fail
          go_loopg [46] m' (fun gh i wx => ∃ j : Nat, j ≤ m' ∧ gh = m' - j ∧ i = .int .i64 j ∧ wr = wx)
          case atStart => exact ⟨0, by omega, by omega, rfl, rfl⟩
          case round =>
            obtain ⟨j, hj, hg, rfl, rfl⟩ := hrel
            have h16 := HM16.out
            by_cases hlt : j < m'
            · obtain ⟨hcmp, hrow⟩ := HSR.out
              obtain ⟨g, o, cc, e0, _, har⟩ : ∃ g o cc, Value.slice As m' cs = .slice (some ⟨g, o, none⟩) m' cc ∧ w2.heap.size ≤ g ∧ AR w3 g o m' fr := by
                rcases hrow with ⟨h, _⟩ | h
                · omega
                · exact h
              injection e0 with e0 _ e1
              subst e0 e1
              have har' := har.below HK.out.2.2
              obtain ⟨X, eX⟩ : ∃ X, fr j = X := ⟨_, rfl⟩
              have c0 := har'.cell hlt
              rw [eX] at c0
              obtain ⟨z, z1, z2⟩ := hcmp.back j hlt
              have hzl : z < (sgs us).length := by unfold sgs; rw [List.length_map]; exact z1
              have hXm : X ∈ sgs us := by
                rw [← eX, z2]
                unfold sgf
                rw [List.getElem?_eq_getElem hzl]
                exact List.getElem_mem hzl
              obtain ⟨mm, hmm1, hmm2⟩ := List.mem_map.1 hXm
              have hmi := (HC.out.2.2 mm hmm1).2.1
              rw [hmm2] at hmi
              have hlk := HK.out.1.at_ hmi.1 hmi.2
              rw [decide_eq_true ((HK.out.2.1 X).2 hXm)] at hlk
              have l1 : (j : Int) < m' := by omega
              have w2' := w_add1' rfl (show j + 1 ≤ 100000 by omega)
              by_cases hj0 : j = 0
              · subst hj0
                rw [Nat.add_zero] at c0
                clear hcmp hrow har har' eX z1 z2 hzl hXm hmm1 hmm2 hmi
                go_wp2_with fail
                go_roundg (m' - (0 + 1))
                case rel => exact ⟨0 + 1, by omega, rfl, by first | rfl | simp, rfl⟩
                case measure => first | omega | (simp; omega)
              · obtain ⟨y, ey⟩ : ∃ y, y + 1 = j := ⟨j - 1, by omega⟩
                obtain ⟨Y, eY⟩ : ∃ Y, fr y = Y := ⟨_, rfl⟩
                have c1 := har'.cell (k := y) (by omega)
                rw [eY] at c1
                have hYX := hcmp.rise y j (by omega) hlt
                rw [eX, eY] at hYX
                have q1 : (j : Int) > 0 := by omega
                have q1' : (0 : Int) < j := q1
                have q2 : 0 < j := by omega
                have q3 : ¬ Y ≥ X := by omega
                have q3' : ¬ X ≤ Y := q3
                have q4 : (y : Int) < m' := by omega
                have q5 : (0 : Int) ≤ y := by omega
                have w1' := w_sub1' ey (by omega)
                have HJ := Lib.hid (show j + 1 ≤ m' from hlt)
                clear hcmp hrow har har' eX eY z1 z2 hzl hXm hmm1 hmm2 hmi hYX ey
                go_wp2_with fail
                go_roundg (m' - (j + 1))
                case rel => exact ⟨j + 1, HJ.out, rfl, by first | rfl | simp, rfl⟩
                case measure => first | omega | (simp; omega)
            · have hjn : ¬ (j : Int) < m' := by omega
              have CR := Lib.hid (remove_any (c := c) x HL.out (by have := HS.out.1; omega) HC.out.1 HC.out.2.1 (HR.out.below (below_up HB3.out HK.out.2.2)))
              have HKL : Hid (K.length = m') := Lib.hid (rise_len HSR.out.1.rise HK.out.1.1 (fun i hi => (HK.out.2.1 _).2 (by
                obtain ⟨z, z1, z2⟩ := HSR.out.1.back i hi
                have hzl : z < (sgs us).length := by unfold sgs; rw [List.length_map]; exact z1
                rw [z2]
                unfold sgf
                rw [List.getElem?_eq_getElem hzl]
                exact List.getElem_mem hzl)) (fun y hy => by
                have hy' := (HK.out.2.1 y).1 hy
                obtain ⟨z, hz, e⟩ := List.mem_iff_getElem.1 hy'
                obtain ⟨i, i1, i2⟩ := HSR.out.1.forth z (by unfold sgs at hz; rw [List.length_map] at hz; exact hz)
                refine ⟨i, i1, ?_⟩
                rw [← i2, ← e]
                unfold sgf
                rw [List.getElem?_eq_getElem hz]; rfl))
              clear hlt hj hg h16
              go_wp2_with fail
              refine CR.out.mono ?_; rintro e w8 ⟨h8, hb8⟩
              have hlen := fun ty => (HK.out.1.below hb8).len ty
              rw [HKL.out] at hlen
              have HB8 := Lib.hid (below_up (below_up HB3.out HK.out.2.2) hb8)
              clear hb8 CR
              rcases h8 with ⟨hno, rfl⟩ | ⟨l1, xx, l2, v8, he, hxx, rfl, hv8⟩
              · have htf : t = false := by
                  rw [HT.out]
                  exact Bool.eq_false_iff.2 fun h => by
                    obtain ⟨m, hm, e⟩ := thr_iff.1 h
                    exact hno m hm e
                subst htf
                clear hno
                go_wp2_with fail
                go_ret
                exact ⟨rfl, HB8.out⟩
              · have htt : t = true := by
                  rw [HT.out]
                  exact thr_iff.2 ⟨xx, by rw [he]; simp, hxx⟩
                subst htt
                obtain ⟨n1, en1⟩ : ∃ n1, (l1 ++ l2).length = n1 := ⟨_, rfl⟩
                have hn1 : n1 + 1 = n := by
                  have := HL.out
                  rw [he] at this
                  rw [← en1]
                  simp at this ⊢
                  omega
                obtain ⟨A8, c8, rfl, _, _, _⟩ := hv8.open_ en1
                have w9 := w_sub1' hn1 (by have := HS.out.1; omega)
                clear he hxx hv8 en1 hn1
                go_wp2_with fail
                go_ret
                exact ⟨rfl, HB8.out⟩
end Go.Proofs.Ytbjegfkjibfadaa
