/- TicketTwice. -/
import Derived.Test.YtogbidkkdhhllaaVg
import Derived.Test.YtogbidkkdhhllaaVt
import Derived.BigQuiet
set_option linter.unusedVariables false
set_option linter.unusedSimpArgs false
namespace Tk
theorem jq_again (us : List Nat) (x : Nat) : jq (jq us x) x = jq us x := by
  unfold jq
  by_cases h : x = 0 ∨ x ∈ us
  · rw [if_pos h, if_pos h]
  · rw [if_neg h, if_pos (.inr (by simp))]
theorem jv_again (us : List Nat) (n x : Nat) : jv (jq us x) (jv us n x) x = jv us n x := by
  unfold jv jq
  by_cases h : x = 0 ∨ x ∈ us
  · rw [if_pos h, if_pos h]
  · rw [if_neg h, if_pos (.inr (by simp))]
theorem jq_len (us : List Nat) (x : Nat) : (jq us x).length ≤ us.length + 1 := by unfold jq; split <;> simp
theorem jv_le (us : List Nat) (n x : Nat) : jv us n x ≤ n + 1 := by unfold jv; split <;> (try split) <;> omega
theorem lv_le (us : List Nat) (n x : Nat) : lv us n x ≤ n + 2 := by unfold lv; (repeat' split) <;> omega
theorem jq_zero {us : List Nat} {x : Nat} (h : 0 ∉ us) : 0 ∉ jq us x := by
  unfold jq
  split
  · exact h
  · rename_i hn
    intro hm
    rcases List.mem_append.1 hm with hm | hm
    · exact h hm
    · exact hn (.inl (by simpa using hm : 0 = x).symm)
theorem erase_zero {us : List Nat} {x : Nat} (h : 0 ∉ us) : 0 ∉ us.erase x := fun hm => h (List.mem_of_mem_erase hm)
theorem head_zero {us : List Nat} (h : 0 ∉ us) : ¬ us.head? = some 0 := by
  cases us with
  | nil => simp
  | cons y r => intro e; simp at e; subst e; exact h (by simp)
theorem erase_len (us : List Nat) (x : Nat) : (us.erase x).length ≤ us.length := (List.erase_sublist).length_le
end Tk
namespace Go.Proofs.Ytogbidkkdhhllaa
open Go.RowKit Tk
set_option linter.unusedVariables false
set_option linter.unusedSimpArgs false
/-- Two locks. -/
def Two (W : World) (La Lb k : Nat) (w : World) : Prop := ∃ us n, LS W La us n w ∧ LS W Lb us n w ∧ us.length ≤ k ∧ n ≤ 3 * k ∧ 0 ∉ us
set_option maxRecDepth 100000 in
set_option maxHeartbeats 4000000 in
theorem twice_all (A : Option Addr) (l c : Nat) (xs : List Nat) (oth : Nat) (w : World) (hc : l ≤ c) (hcm : c ≤ maxLen) (hl : xs.length = l) (hr : LR inU w A xs) :
    Calls Try.prog 5 #[.slice A l c, .int .u64 (oth : Int)] w fun e w' => e = .returned (.bool true) ∧ Below w.heap.size w w' := by
  have B := Lib.hid (fit_any w)
  have HR := Lib.hid hr
  have HL := Lib.hid hl
  clear hr hl
  have hcm' : c ≤ 9223372036854775807 := hcm
  by_cases hbig : 60 < l
  · have g1 : (l : Int) > 60 := by omega
    have g2 : (60 : Int) < l := by omega
    go_enter Try.func5, Try.ntmps5
    go_wp2_with fail
    refine B.out.mono ?_; rintro e w1 ⟨rfl, hb⟩
    go_wp2_with fail
    go_ret
    exact ⟨rfl, hb⟩
  have g1 : ¬ (l : Int) > 60 := by omega
  have g2 : ¬ (60 : Int) < l := by omega
  go_enter Try.func5, Try.ntmps5
  go_wp2_with fail
  refine B.out.mono ?_; rintro e w1 ⟨rfl, hb⟩
  have HB1 := Lib.hid hb
  clear B hb
  have h1 := LS.new HB1.out
  have h2 := LS.new (W := w) (h1.b)
  have h1' := h1.below (below_alloc1 _ (Obj.cells #[.slice none 0 0, .int .u64 0] 27))
  have HN := Lib.hid (show Two w w1.heap.size (w1.heap.size + 1) 0 _ from ⟨[], 0, h1', by simpa using h2, by simp, by simp, by simp⟩)
  clear h1 h2 h1'
  go_wp2_with fail
  obtain ⟨La, eLa⟩ : ∃ La, w1.heap.size = La := ⟨_, rfl⟩
  rw [eLa] at HN ⊢
  clear eLa HB1
  have HLL := Lib.hid (show La ≠ La + 1 by omega)
  obtain ⟨Lb, eLb⟩ : ∃ Lb, La + 1 = Lb := ⟨_, rfl⟩
  rw [eLb] at HN HLL ⊢
  clear eLb
  go_loopg [19] l (fun gh i wr => ∃ k : Nat, k ≤ l ∧ gh = l - k ∧ i = .int .i64 k ∧ Hid (Two w La Lb k wr))
  case atStart => exact ⟨0, by omega, by omega, rfl, HN⟩
  case round =>
    clear HN
    obtain ⟨k, hk, hg, rfl, hI⟩ := hrel
    by_cases hlt : k < l
    · obtain ⟨x, hx⟩ : ∃ x, xs[k]? = some x := ⟨_, List.getElem?_eq_getElem (by rw [HL.out]; exact hlt)⟩
      obtain ⟨b, off, rfl, hb, hcell⟩ := HR.out k x hx
      obtain ⟨us, n, ha, hb2, hu, hn, hz⟩ := hI.out
      have c1 : wr.cell? ⟨b, off + k, none⟩ = some (.int .u64 (x : Int)) := by rw [ha.b.cell (p := ⟨b, off + k, none⟩) hb]; exact hcell
      have i1 : IntKind.i64.wrap ((k : Int) + 1) = (k : Int) + 1 := by rw [IntKind.wrap_i64]; omega
      have l1 : (k : Int) < l := by omega
      have C := Lib.hid (join_ls x ha (by omega) (by omega))
      have KB := Lib.hid hb2
      have KA := Lib.hid ha
      have q1 := jq_len us x
      have q2 := jv_le us n x
      have q3 := jq_zero (x := x) hz
      have q4 := jq_again us x
      have q5 := jv_again us n x
      obtain ⟨us', eu⟩ : ∃ us', jq us x = us' := ⟨_, rfl⟩
      obtain ⟨n', en⟩ : ∃ n', jv us n x = n' := ⟨_, rfl⟩
      rw [eu] at q1 q3 q4 q5 C
      rw [en] at q2 q5 C
      have Q := Lib.hid (And.intro q1 (And.intro q2 (And.intro q3 (And.intro q4 (And.intro q5 (And.intro eu (And.intro en (And.intro hu hn))))))))
      clear ha hb2 hb hcell hI hx q1 q2 q3 q4 q5 eu en hu hn hz
      go_wp2_with fail
      refine C.out.mono ?_; rintro e w2 ⟨rfl, h2, t2⟩
      have K2 := Lib.hid (⟨KB.out.b.trans ((t2.below KB.out.b.size fun b hb => by rw [List.mem_singleton.1 hb]; exact KA.out.l)), KB.out.l, KB.out.m.turn KA.out.m t2 (Ne.symm HLL.out)⟩ : LS w Lb us n w2)
      have C := Lib.hid (join_ls x K2.out (by have := Q.out; omega) (by have := Q.out; omega))
      have KA := Lib.hid h2
      clear h2 t2
      go_wp2_with fail
      refine C.out.mono ?_; rintro e w3 ⟨rfl, h3, t3⟩
      have K3 := Lib.hid (⟨KA.out.b.trans ((t3.below KA.out.b.size fun b hb => by rw [List.mem_singleton.1 hb]; exact K2.out.l)), KA.out.l, KA.out.m.turn K2.out.m t3 HLL.out⟩ : LS w La us' n' w3)
      rw [Q.out.2.2.2.2.2.1, Q.out.2.2.2.2.2.2.1] at h3
      have C := Lib.hid (join_ls x h3 (by have := Q.out; omega) (by have := Q.out; omega))
      have KB := Lib.hid h3
      clear h3 t3 K2 KA
      go_wp2_with fail
      refine C.out.mono ?_; rintro e w4 ⟨rfl, h4, t4⟩
      rw [Q.out.2.2.2.1, Q.out.2.2.2.2.1] at h4
      have K4 := Lib.hid (⟨K3.out.b.trans ((t4.below K3.out.b.size fun b hb => by rw [List.mem_singleton.1 hb]; exact KB.out.l)), K3.out.l, K3.out.m.turn KB.out.m t4 HLL.out⟩ : LS w La us' n' w4)
      have KB := Lib.hid h4
      clear h4 t4 K3 C
      by_cases hxo : x = oth
      · subst hxo
        go_wp2_with fail
        go_roundg (l - (k + 1))
        case rel => exact ⟨k + 1, by omega, rfl, by simp, Lib.hid ⟨us', n', K4.out, KB.out, by have := Q.out; omega, by have := Q.out; omega, Q.out.2.2.1⟩⟩
        case measure => first | omega | (simp; omega)
      · have n1 : ¬ (x : Int) = (oth : Int) := by omega
        have C := Lib.hid (leave_ls oth KB.out (by have := Q.out; omega) (by have := Q.out; omega))
        go_wp2_with fail
        refine C.out.mono ?_; rintro e w5 ⟨rfl, h5, t5⟩
        have K5 := Lib.hid (⟨K4.out.b.trans ((t5.below K4.out.b.size fun b hb => by rw [List.mem_singleton.1 hb]; exact KB.out.l)), K4.out.l, K4.out.m.turn KB.out.m t5 HLL.out⟩ : LS w La us' n' w5)
        have C := Lib.hid (leave_ls oth K5.out (by have := Q.out; omega) (by have := Q.out; omega))
        have KB := Lib.hid h5
        clear h5 t5 K4
        go_wp2_with fail
        refine C.out.mono ?_; rintro e w6 ⟨rfl, h6, t6⟩
        have K6 := Lib.hid (⟨KB.out.b.trans ((t6.below KB.out.b.size fun b hb => by rw [List.mem_singleton.1 hb]; exact K5.out.l)), KB.out.l, KB.out.m.turn K5.out.m t6 (Ne.symm HLL.out)⟩ : LS w Lb (us'.erase oth) (lv us' n' oth) w6)
        have KA := Lib.hid h6
        clear h6 t6 K5 KB C
        go_wp2_with fail
        go_roundg (l - (k + 1))
        case rel => exact ⟨k + 1, by omega, rfl, by simp, Lib.hid ⟨_, _, KA.out, K6.out, by have := Q.out; have := erase_len us' oth; omega, by have := Q.out; have := lv_le us' n' oth; omega, erase_zero Q.out.2.2.1⟩⟩
        case measure => first | omega | (simp; omega)
    · obtain rfl : k = l := by omega
      clear hlt hk hg
      obtain ⟨us, n, ha, hb2, hu, hn, hz⟩ := hI.out
      have C := Lib.hid (queue_ls ha (by omega))
      have KB := Lib.hid hb2
      have KA := Lib.hid ha
      have Q := Lib.hid (And.intro hu (And.intro hn hz))
      clear ha hb2 hI hu hn hz
      go_wp2_with fail
      refine C.out.mono ?_; rintro e w2 ⟨v1, rfl, r1, ha2, b2⟩
      have KB2 := Lib.hid (KB.out.below b2)
      have C := Lib.hid (queue_ls KB2.out (by have := Q.out; omega))
      have KR := Lib.hid r1
      have KA := Lib.hid ha2
      clear r1 ha2 b2 KB
      go_wp2_with fail
      refine C.out.mono ?_; rintro e w3 ⟨v2, rfl, r2, hb3, b3⟩
      have KR1 : RW All 25 enU w3 v1 us := KR.out.keep fun b cur hb hcur => ⟨trivial, b3.block b (Array.getElem?_eq_some_iff.1 hcur).1⟩
      obtain ⟨A1, c1, rfl, _, _, lr1⟩ := KR1.form
      obtain ⟨A2, c2, rfl, _, _, lr2⟩ := r2.form
      have KA3 := Lib.hid (KA.out.below b3)
      have KB3 := Lib.hid hb3
      have V1 := Lib.hid (ver_ls KA3.out)
      have V2 := Lib.hid (ver_ls hb3)
      have R1 := Lib.hid lr1
      have R2 := Lib.hid lr2
      clear KR KR1 r2 hb3 b3 lr1 lr2 C KA KB2
      obtain ⟨m, em⟩ : ∃ m, us.length = m := ⟨_, rfl⟩
      rw [em] at Q ⊢
      have EM := Lib.hid em
      clear em
      go_wp2_with fail
      refine V1.out.mono ?_; rintro e w4 ⟨rfl, rfl⟩
      go_wp2_with fail
      refine V2.out.mono ?_; rintro e w5 ⟨rfl, rfl⟩
      go_wp2_with fail
      clear V1 V2
      go_loopg [51] m (fun gh i wr => ∃ k : Nat, k ≤ m ∧ gh = m - k ∧ i = .int .i64 k ∧ Hid (Below w5.heap.size w5 wr))
      case atStart => exact ⟨0, by omega, by omega, rfl, Lib.hid (Below.refl _ _)⟩
      case round =>
        obtain ⟨k', hk, hg, rfl, hI⟩ := hrel
        by_cases hlt : k' < m
        · obtain ⟨x, hx⟩ : ∃ x, us[k']? = some x := ⟨_, List.getElem?_eq_getElem (by rw [EM.out]; exact hlt)⟩
          obtain ⟨b1, o1, rfl, hb1, hc1⟩ := R1.out k' x hx
          obtain ⟨b2, o2, rfl, hb2, hc2⟩ := R2.out k' x hx
          rw [← hI.out.cell (p := ⟨b1, _, none⟩) hb1] at hc1
          rw [← hI.out.cell (p := ⟨b2, _, none⟩) hb2] at hc2
          unfold enU at hc1 hc2
          have x0 : ¬ (x : Int) = 0 := fun e => by
            obtain rfl : x = 0 := by omega
            exact Q.out.2.2 (List.mem_of_getElem? hx)
          have i1 : IntKind.i64.wrap ((k' : Int) + 1) = (k' : Int) + 1 := by have := Q.out.1; rw [IntKind.wrap_i64]; omega
          have l1 : (k' : Int) < m := by omega
          clear hb1 hb2 hx
          go_upto_region 22 with fail
          go_quiet (fail)
          go_wp2_with fail
          go_roundg (m - (k' + 1))
          case rel => exact ⟨k' + 1, by omega, rfl, by simp, Lib.hid (hI.out.trans (⟨rfl, rfl, rfl, Nat.le_refl _, fun _ _ => rfl⟩))⟩
          case measure => first | omega | (simp; omega)
        · obtain rfl : k' = m := by omega
          clear hlt hk hg
          have C := Lib.hid (join_ls 0 (KA3.out.below hI.out) (by have := Q.out.1; have := EM.out; omega) (by have := Q.out.2.1; omega))
          clear hI
          go_wp2_with fail
          refine C.out.mono ?_; rintro e w6 ⟨rfl, h6, _⟩
          have ej : jq us 0 = us := by unfold jq; rw [if_pos (.inl rfl)]
          rw [ej] at h6
          have C := Lib.hid (queue_ls h6 (by have := Q.out.1; have := EM.out; omega))
          clear h6 ej
          go_wp2_with fail
          refine C.out.mono ?_; rintro e w7 ⟨v, rfl, r7, h7, _⟩
          obtain ⟨A3, c3, rfl, _⟩ := r7.form
          have C := Lib.hid (holds_ls 0 h7)
          rw [decide_eq_false (head_zero Q.out.2.2)] at C
          rw [EM.out]
          have HB := Lib.hid h7.b
          clear r7 h7
          go_wp2_with fail
          refine C.out.mono ?_; rintro e w8 ⟨rfl, rfl⟩
          go_wp2_with fail
          go_ret
          exact ⟨rfl, HB.out⟩
end Go.Proofs.Ytogbidkkdhhllaa
