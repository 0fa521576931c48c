/- Frames are charged from the least on: the law. -/
import Derived.Test.YtnhfjipakhgjcaaGh
set_option linter.unusedVariables false
set_option linter.unusedSimpArgs false
namespace Fr
theorem step1 (N k : Nat) (hk : k < N) : alloc (lst N (o1 k)) (k % 3 + 1) = (k + 1, lst N (o1 (k + 1))) := by
  unfold alloc
  rw [if_neg (by omega), least_some N (o1 k) k hk (by unfold o1; simp) (fun i hi => by unfold o1; rw [if_pos hi]; omega)]
  show (k + 1, _) = _
  rw [lst_set N (o1 k) (o1 (k + 1)) k (k % 3 + 1) (fun i hi => by
    unfold o1
    by_cases e : i = k
    · subst e; rw [if_pos rfl, if_pos (by omega)]
    · rw [if_neg e]
      by_cases h : i < k
      · rw [if_pos h, if_pos (by omega)]
      · rw [if_neg h, if_neg (by omega)])]
theorem o1_zero (N : Nat) : lst N (fun _ => 0) = lst N (o1 0) := by
  unfold lst
  apply List.map_congr_left
  intro i hi
  unfold o1
  rw [if_neg (by omega)]
theorem o1_o2 (N : Nat) : lst N (o1 N) = lst N (o2 (fun _ => false) 0) := by
  unfold lst
  apply List.map_congr_left
  intro i hi
  have := List.mem_range.1 hi
  unfold o1 o2
  rw [if_pos this]; rfl
theorem step2 (N j : Nat) (g : Nat → Bool) (hj : j < N) (x : Int) (hx : x = (j : Int) + 1) : free (lst N (o2 g 0)) x = lst N (o2 (upd g j) 0) := by
  unfold free
  rw [if_pos (by rw [lst_len]; omega), show x.toNat - 1 = j by omega]
  refine lst_set N _ _ j 0 (fun i hi => ?_)
  unfold o2 upd
  by_cases e : i = j
  · subst e; simp
  · simp [e]
theorem step3 (N k : Nat) (g : Nat → Bool) (hk : k < N) (hg : g k = true) : alloc (lst N (o2 g k)) 9 = (k + 1, lst N (o2 g (k + 1))) := by
  unfold alloc
  rw [if_neg (by omega), least_some N (o2 g k) k hk (by unfold o2; simp [hg]) (fun i hi => by unfold o2; split <;> (try rw [if_pos hi]) <;> omega)]
  show (k + 1, _) = _
  rw [lst_set N (o2 g k) (o2 g (k + 1)) k 9 (fun i hi => by
    unfold o2
    by_cases e : i = k
    · subst e; rw [if_pos rfl, if_pos hg, if_pos (by omega)]
    · rw [if_neg e]
      by_cases h : i < k
      · simp [h, show i < k + 1 by omega]
      · simp [h, show ¬ i < k + 1 by omega])]
theorem step3' (N k : Nat) (g : Nat → Bool) (hg : g k = false) : lst N (o2 g k) = lst N (o2 g (k + 1)) := by
  unfold lst
  apply List.map_congr_left
  intro i hi
  unfold o2
  by_cases e : i = k
  · subst e; simp [hg]
  · by_cases h : i < k
    · simp [h, show i < k + 1 by omega]
    · simp [h, show ¬ i < k + 1 by omega]
theorem step4 (N : Nat) (g : Nat → Bool) : alloc (lst N (o2 g N)) 9 = (0, lst N (o2 g N)) := by
  unfold alloc
  rw [if_neg (by omega), least_none N (o2 g N) (o2_none g N)]
end Fr
namespace Go.Proofs.Ytnhfjipakhgjcaa
open Go.RowKit
set_option linter.unusedVariables false
set_option linter.unusedSimpArgs false
theorem offN (x : Int) (N : Nat) (h1 : 1 ≤ N) (h2 : N ≤ 30) : ∃ (t u v f : Int) (q : Nat), x.tmod N = t ∧ RowKit.wrap64 (t + N) = u ∧ u.tmod N = v ∧ RowKit.wrap64 (v + 1) = f ∧ q < N ∧ f = (q : Int) + 1 := by
  have a1 := Int.tmod_lt_of_pos x (show (0 : Int) < N by omega)
  have a2 := Int.lt_tmod_of_pos x (show (0 : Int) < N by omega)
  have e : RowKit.wrap64 (x.tmod N + N) = x.tmod N + N := by unfold RowKit.wrap64; omega
  have hq := Int.emod_nonneg (x.tmod N + N) (show (N : Int) ≠ 0 by omega)
  have hl := Int.emod_lt_of_pos (x.tmod N + N) (show (0 : Int) < N by omega)
  refine ⟨_, _, _, _, ((x.tmod N + N) % N).toNat, rfl, rfl, rfl, rfl, by omega, ?_⟩
  rw [e, Int.tmod_eq_emod_of_nonneg (by omega)]
  unfold RowKit.wrap64
  omega
theorem off30 (n : Int) : ∃ (t u v : Int) (N : Nat), n.tmod 30 = t ∧ RowKit.wrap64 (t + 30) = u ∧ u.tmod 30 = v ∧ RowKit.wrap64 (v + 1) = (N : Int) ∧ 1 ≤ N ∧ N ≤ 30 := by
  have h1 := Int.tmod_lt_of_pos n (show (0 : Int) < 30 by omega)
  have h2 := Int.lt_tmod_of_pos n (show (0 : Int) < 30 by omega)
  have e : RowKit.wrap64 (n.tmod 30 + 30) = n.tmod 30 + 30 := by unfold RowKit.wrap64; omega
  refine ⟨_, _, _, (RowKit.wrap64 (n.tmod 30 + 30)).toNat % 30 + 1, rfl, rfl, rfl, ?_, by omega, by omega⟩
  rw [e, Int.tmod_eq_emod_of_nonneg (by omega)]
  unfold RowKit.wrap64
  omega
/-- Numbers, as an argument has them. -/
def Nums (w : World) (A : Option Addr) (xs : List Int) : Prop := ∀ (i : Nat) (p : Int), xs[i]? = some p → ∃ b off, A = some ⟨b, off, none⟩ ∧ b < w.heap.size ∧
  w.cell? ⟨b, off + i, none⟩ = some (.int .i64 p) ∧ -9223372036854775808 ≤ p ∧ p ≤ 9223372036854775807
set_option maxHeartbeats 8000000 in
theorem least_all (n : Int) (A : Option Addr) (l c : Nat) (xs : List Int) (w : World) (hn : xs.length = l) (hm : l ≤ 100) (hr : Nums w A xs)
    (o1 : -9223372036854775808 ≤ n) (o2 : n ≤ 9223372036854775807) :
    Calls Try.prog 6 #[.int .i64 n, .slice A l c] w fun e w' => e = .returned (.bool true) ∧ Below w.heap.size w w' := by
  have B := Lib.hid fit_any
  have h100 : ¬ 100 < l := by omega
  obtain ⟨t, u, v, N, e1, e2, e3, e4, N1, N30⟩ := off30 n
  have XR := Lib.hid hr
  have HN := Lib.hid (And.intro hn hm)
  have HNN := Lib.hid (And.intro N1 N30)
  clear hr hn hm
  have hmm := @run_makeMap Try.prog
  go_enter Try.func6, Try.ntmps6
  go_wp2_with fail
  refine (B.out _).mono ?_; rintro e w1 ⟨rfl, g1⟩
  go_wp2_with fail
  refine (new_st N w _ [] (by omega) (by omega) g1 (by simp)).mono ?_; rintro e w2 ⟨R, ds, rfl, h1, _⟩
  rw [Fr.lst_rep] at h1
  have hcall := Lib.hid h1
  clear h1 g1
  go_wp2_with fail
  go_loopg [24] N (fun g i wr => ∃ k : Nat, k ≤ N ∧ g = N - k ∧ i = .int .i64 k ∧ Hid (∃ ds, St w [] R (Fr.lst N (Fr.o1 k)) ds wr))
  case atStart => exact ⟨0, by omega, by omega, rfl, Lib.hid ⟨ds, by rw [← Fr.o1_zero]; exact hcall.out⟩⟩
  case round =>
    obtain ⟨k, hk, hg, rfl, hI⟩ := hrel
    by_cases hlt : k < N
    · obtain ⟨r, hr3, hr⟩ : ∃ r : Nat, (k : Int).tmod 3 = (r : Int) ∧ k % 3 = r := ⟨k % 3, by rw [Int.tmod_eq_emod_of_nonneg (by omega)]; omega, rfl⟩
      obtain ⟨o, ho, ho'⟩ : ∃ o : Nat, (r : Int) + 1 = (o : Int) ∧ r + 1 = o := ⟨r + 1, by omega, rfl⟩
      have o4 : o < 4 := by omega
      have ow : IntKind.i64.wrap (o : Int) = (o : Int) := by simp [IntKind.wrap, IntKind.bits, IntKind.signed]; omega
      have ou : IntKind.u64.wrap (o : Int) = (o : Int) := by simp [IntKind.wrap, IntKind.bits, IntKind.signed]; omega
      obtain ⟨k1, hk1, hk1'⟩ : ∃ k1 : Nat, (k : Int) + 1 = (k1 : Int) ∧ k + 1 = k1 := ⟨k + 1, by omega, rfl⟩
      have kw : IntKind.i64.wrap (k1 : Int) = (k1 : Int) := by simp [IntKind.wrap, IntKind.bits, IntKind.signed]; omega
      have ff : ((k1 : Int) != (k1 : Int)) = false := by simp
      obtain ⟨d, hd⟩ := hI.out
      have AL := Lib.hid (alloc_st o hd (by omega) k1 k1 (Fr.lst N (Fr.o1 k1)) (by rw [← ho', ← hr, Fr.step1 N k hlt, hk1']) rfl)
      have HK := Lib.hid (And.intro hk (And.intro hg hk1'))
      clear hd hI hk hg hk1' ho' hr o4 hcall
      go_wp2_with fail
      refine AL.out.mono ?_; rintro e w3 ⟨rfl, h1, _⟩
      have HI := Lib.hid h1
      clear h1 AL
      go_wp2_with fail
      go_roundg (N - k1)
      case rel => exact ⟨k1, by have := HK.out; omega, rfl, by first | rfl | go_num, Lib.hid ⟨_, HI.out⟩⟩
      case measure => have := HK.out; omega
    · obtain rfl : N = k := by omega
      obtain ⟨d, hd⟩ := hI.out
      rw [Fr.o1_o2] at hd
      have HA := Lib.hid (hd.alloc (.map #[] 0))
      have HG := Lib.hid (Gone.new wr N)
      have HW := Lib.hid (show w.heap.size ≤ wr.heap.size from hd.b.size)
      clear hd hI hk hg hcall
      go_wp2_with fail
      generalize wr.alloc (.map #[] 0) = WL at HA HG ⊢
      generalize wr.heap.size = G at HA HG HW ⊢
      go_loopg [40] l (fun g i wr => ∃ (j : Nat) (gg : Nat → Bool), j ≤ l ∧ g = l - j ∧ i = .int .i64 j ∧ Hid (∃ ds, St w [G] R (Fr.lst N (Fr.o2 gg 0)) ds wr ∧ Gone wr G j N gg))
      case atStart => exact ⟨0, fun _ => false, by omega, by omega, rfl, Lib.hid ⟨d, HA.out, HG.out⟩⟩
      case round =>
        obtain ⟨j, gg, hj, hg, rfl, hI⟩ := hrel
        clear HA HG
        by_cases hlt : j < l
        · obtain ⟨x, hx⟩ : ∃ x, xs[j]? = some x := ⟨_, List.getElem?_eq_getElem (by rw [HN.out.1]; exact hlt)⟩
          obtain ⟨b, of, rfl, hb, hc0, hx0⟩ := XR.out j _ hx
          obtain ⟨d2, hd, hG⟩ := hI.out
          have c0 : wr.cell? ⟨b, of + j, none⟩ = some (.int .i64 x) := by rw [hd.b.cell (p := ⟨b, _, none⟩) hb]; exact hc0
          obtain ⟨t', u', v', f, q, f1, f2, f3, f4, hq, hf⟩ := offN x N HNN.out.1 HNN.out.2
          have n0 : ¬ (N : Int) = 0 := by omega
          have i1 : IntKind.i64.wrap ((j : Int) + 1) = ((j + 1 : Nat) : Int) := by simp [IntKind.wrap, IntKind.bits, IntKind.signed]; have := HN.out; omega
          have FR := Lib.hid (free_st f hd (by have := HNN.out; omega) (by have := HNN.out; omega) (Fr.lst N (Fr.o2 (Fr.upd gg q) 0)) (Fr.step2 N q gg hq f hf))
          have HG := Lib.hid hG
          have HQ := Lib.hid (And.intro hq (And.intro hf (And.intro hj hg)))
          clear hd hG hI hq hf hj hg hc0 hx0 hb hx
          go_wp2_with fail
          refine FR.out.mono ?_; rintro e w4 ⟨rfl, h1, sm⟩
          obtain ⟨w5, hrun, hG5, hT⟩ := (HG.out.same (sm G (by simp))).store (x := f) (by unfold maxLen; have := HN.out; omega) HQ.out.1 (by have := HNN.out; omega) HQ.out.2.1
          have HI := Lib.hid (show ∃ ds, St w [G] R (Fr.lst N (Fr.o2 (Fr.upd gg q) 0)) ds w5 ∧ Gone w5 G (j + 1) N (Fr.upd gg q) from ⟨_, h1.turn hT (by simpa using HW.out), hG5⟩)
          clear h1 sm FR HG hG5 hT
          go_wp2_with fail
          go_roundg (l - (j + 1))
          case rel => exact ⟨j + 1, _, by have := HQ.out; omega, rfl, by first | rfl | go_num, HI⟩
          case measure => have := HQ.out; omega
        · obtain rfl : l = j := by omega
          obtain ⟨d2, hd, hG⟩ := hI.out
          obtain ⟨C, hC⟩ : ∃ C, Fr.cnt gg N = C := ⟨_, rfl⟩
          have LE := Lib.hid (left_st hd C (by rw [Fr.lst_count, Fr.o2_free, hC]))
          have HG := Lib.hid hG
          have HC := Lib.hid hC
          have ff : ((C : Int) != (C : Int)) = false := by simp
          clear hd hG hI hj hg hC
          go_wp2_with fail
          refine LE.out.mono ?_; rintro e w4 ⟨rfl, h1, sm, _⟩
          have HG := Lib.hid (HG.out.same (sm G (by simp)))
          have hl := HG.out.len 3
          rw [HC.out] at hl
          have HI := Lib.hid h1
          clear h1 sm LE
          go_wp2_with fail
          clear hl ff
          go_loopg [10] N (fun g i wr => ∃ (f : Nat), 1 ≤ f ∧ f ≤ N + 1 ∧ g = N + 1 - f ∧ i = .int .i64 f ∧ Hid (∃ ds, St w [G] R (Fr.lst N (Fr.o2 gg (f - 1))) ds wr ∧ Gone wr G l N gg))
          case atStart => exact ⟨1, by omega, by omega, by omega, rfl, Lib.hid ⟨_, HI.out, HG.out⟩⟩
          case round =>
            obtain ⟨f, f1, fN, hg, rfl, hI⟩ := hrel
            obtain ⟨d5, hd, hG⟩ := hI.out
            clear HI HG
            by_cases hlt : f ≤ N
            · obtain ⟨k, hk⟩ : ∃ k, f - 1 = k := ⟨_, rfl⟩
              have hkN : k < N := by omega
              rw [hk] at hd
              have lk := hG.at_ (x := (f : Int)) hkN (by have := HNN.out; omega) (by omega)
              have HG := Lib.hid hG
              obtain ⟨fx, hfx, hfx'⟩ : ∃ fx : Nat, (f : Int) + 1 = (fx : Int) ∧ f + 1 = fx := ⟨f + 1, by omega, rfl⟩
              have fw : IntKind.i64.wrap (fx : Int) = (fx : Int) := by simp [IntKind.wrap, IntKind.bits, IntKind.signed]; have := HNN.out; omega
              have ff : ((f : Int) != (f : Int)) = false := by simp
              rcases hb : gg k with _ | _
              · rw [hb] at lk
                have HI := Lib.hid (show ∃ ds, St w [G] R (Fr.lst N (Fr.o2 gg (fx - 1))) ds wr ∧ Gone wr G l N gg from ⟨d5, by rw [show fx - 1 = k + 1 by omega, ← Fr.step3' N k gg hb]; exact hd, HG.out⟩)
                have HF := Lib.hid (And.intro f1 (And.intro hlt (And.intro hg hfx')))
                clear hd hG hI hk hkN hb HG f1 fN hg hfx'
                go_wp2_with fail
                go_roundg (N + 1 - fx)
                case rel => exact ⟨fx, by have := HF.out; omega, by have := HF.out; omega, rfl, by first | rfl | go_num, HI⟩
                case measure => have := HF.out; omega
              · rw [hb] at lk
                have AL := Lib.hid (alloc_st 9 hd (by omega) f f (Fr.lst N (Fr.o2 gg (k + 1))) (by rw [Fr.step3 N k gg hkN hb]; rw [show k + 1 = f by omega]) rfl)
                have HK := Lib.hid (show fx - 1 = k + 1 by omega)
                have HF := Lib.hid (And.intro f1 (And.intro hlt (And.intro hg hfx')))
                clear hd hG hI hk hkN hb f1 fN hg hfx'
                go_wp2_with fail
                refine AL.out.mono ?_; rintro e w6 ⟨rfl, h1, sm⟩
                have HI := Lib.hid (show ∃ ds, St w [G] R (Fr.lst N (Fr.o2 gg (fx - 1))) ds w6 ∧ Gone w6 G l N gg from ⟨_, by rw [HK.out]; exact h1, HG.out.same (sm G (by simp))⟩)
                clear h1 sm AL HG
                go_wp2_with fail
                go_roundg (N + 1 - fx)
                case rel => exact ⟨fx, by have := HF.out; omega, by have := HF.out; omega, rfl, by first | rfl | go_num, HI⟩
                case measure => have := HF.out; omega
            · have hk : f - 1 = N := by omega
              rw [hk] at hd
              have LE := Lib.hid (left_st hd 0 (by rw [Fr.lst_count, Fr.cnt_none _ _ (fun i hi => by have := Fr.o2_none gg N i hi; simp [this])]; rfl))
              obtain ⟨c1, hc1⟩ : ∃ c1, Fr.cnt (fun i => Fr.o2 gg N i == 1) N = c1 := ⟨_, rfl⟩
              obtain ⟨c2, hc2⟩ : ∃ c2, Fr.cnt (fun i => Fr.o2 gg N i == 2) N = c2 := ⟨_, rfl⟩
              obtain ⟨c3, hc3⟩ : ∃ c3, Fr.cnt (fun i => Fr.o2 gg N i == 3) N = c3 := ⟨_, rfl⟩
              have h4 := Fr.o2_four gg N
              rw [hc1, hc2, hc3, HC.out] at h4
              have k9 : ((if (9 : Nat) = 0 then 0 else (Fr.lst N (Fr.o2 gg N)).count 9 : Nat) : Int) = (C : Int) := by rw [if_neg (by omega), Fr.lst_count, Fr.o2_nine, HC.out]
              have k1 : ((if (1 : Nat) = 0 then 0 else (Fr.lst N (Fr.o2 gg N)).count 1 : Nat) : Int) = (c1 : Int) := by rw [if_neg (by omega), Fr.lst_count, hc1]
              have k2 : ((if (2 : Nat) = 0 then 0 else (Fr.lst N (Fr.o2 gg N)).count 2 : Nat) : Int) = (c2 : Int) := by rw [if_neg (by omega), Fr.lst_count, hc2]
              have k3 : ((if (3 : Nat) = 0 then 0 else (Fr.lst N (Fr.o2 gg N)).count 3 : Nat) : Int) = (c3 : Int) := by rw [if_neg (by omega), Fr.lst_count, hc3]
              have KK := Lib.hid (And.intro k9 (And.intro k1 (And.intro k2 k3)))
              obtain ⟨s, hs, hs'⟩ : ∃ s : Nat, (c1 : Int) + (c2 : Int) = (s : Int) ∧ s = c1 + c2 := ⟨c1 + c2, by omega, rfl⟩
              obtain ⟨s3, hs3, hn3⟩ : ∃ s3 : Nat, (s : Int) + (c3 : Int) = (s3 : Int) ∧ (N : Int) - (C : Int) = (s3 : Int) := ⟨s + c3, by omega, by omega⟩
              have sw : IntKind.i64.wrap (s : Int) = (s : Int) := by simp [IntKind.wrap, IntKind.bits, IntKind.signed]; have := HNN.out; omega
              have sw3 : IntKind.i64.wrap (s3 : Int) = (s3 : Int) := by simp [IntKind.wrap, IntKind.bits, IntKind.signed]; have := HNN.out; omega
              have fN' : (N : Int) < f := by omega
              have HG := Lib.hid hG
              clear hd hG hI hk f1 fN hg hc1 hc2 hc3 h4 k9 k1 k2 k3 hs'
              go_wp2_with fail
              refine LE.out.mono ?_; rintro e w6 ⟨rfl, h1, sm, _⟩
              have AL := Lib.hid (alloc_st 9 h1 (by omega) 0 0 _ (Fr.step4 N gg) rfl)
              have HG := Lib.hid (HG.out.same (sm G (by simp)))
              clear h1 sm LE
              go_wp2_with fail
              refine AL.out.mono ?_; rintro e w7 ⟨rfl, h1, sm⟩
              have CO := Lib.hid (count_st 9 h1 (by omega) C KK.out.1)
              have HG := Lib.hid (HG.out.same (sm G (by simp)))
              clear h1 sm AL
              go_wp2_with fail
              refine CO.out.mono ?_; rintro e w8 ⟨rfl, h1, sm, _⟩
              have HG := Lib.hid (HG.out.same (sm G (by simp)))
              have hl := HG.out.len 3
              rw [HC.out] at hl
              have CO := Lib.hid (count_st 1 h1 (by omega) c1 KK.out.2.1)
              clear h1 sm
              go_wp2_with fail
              refine CO.out.mono ?_; rintro e w9 ⟨rfl, h1, sm, _⟩
              have HG := Lib.hid (HG.out.same (sm G (by simp)))
              have CO := Lib.hid (count_st 2 h1 (by omega) c2 KK.out.2.2.1)
              clear h1 sm hl
              go_wp2_with fail
              refine CO.out.mono ?_; rintro e w10 ⟨rfl, h1, sm, _⟩
              have HG := Lib.hid (HG.out.same (sm G (by simp)))
              have CO := Lib.hid (count_st 3 h1 (by omega) c3 KK.out.2.2.2)
              clear h1 sm
              go_wp2_with fail
              refine CO.out.mono ?_; rintro e w11 ⟨rfl, h1, sm, _⟩
              have HG := Lib.hid (HG.out.same (sm G (by simp)))
              have hl := HG.out.len 3
              rw [HC.out] at hl
              have BE := Lib.hid h1.b
              clear h1 sm
              go_wp2_with fail
              go_ret
              exact ⟨rfl, BE.out⟩
theorem least_many (n : Int) (A : Option Addr) (l c : Nat) (w : World) (hm : 100 < l) (o1 : -9223372036854775808 ≤ n) (o2 : n ≤ 9223372036854775807) :
    Calls Try.prog 6 #[.int .i64 n, .slice A l c] w fun e w' => e = .returned (.bool true) ∧ Below w.heap.size w w' := by
  have B := Lib.hid fit_any
  have h100 : (100 : Int) < l := by omega
  obtain ⟨t, u, v, N, e1, e2, e3, e4, N1, N30⟩ := off30 n
  clear o1 o2
  go_enter Try.func6, Try.ntmps6
  go_wp2_with fail
  refine (B.out _).mono ?_; rintro e w1 ⟨rfl, g1⟩
  go_wp2_with fail
  go_ret
  exact ⟨rfl, g1⟩
end Go.Proofs.Ytnhfjipakhgjcaa
