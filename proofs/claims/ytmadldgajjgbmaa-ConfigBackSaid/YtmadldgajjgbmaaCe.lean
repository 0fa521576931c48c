/- The law's maps. -/
import Derived.Test.YtmadldgajjgbmaaCb
set_option linter.unusedVariables false
set_option linter.unusedSimpArgs false
namespace Go.Proofs.Ytmadldgajjgbmaa
open Go.RowKit
set_option linter.unusedVariables false
set_option linter.unusedSimpArgs false
/-- A map that may stand behind e, in a configuration of n objects. -/
def mbad (n : Nat) (e : Int) (x : Mp) : Prop := x.n < 1 ∨ 16 < x.n ∨ x.at_ < e ∨ 4096 - x.n < x.at_ ∨ x.fr < 0 ∨ 16 - x.n < x.fr ∨ x.sg < 1 ∨ n < x.sg
instance (n : Nat) (e : Int) (x : Mp) : Decidable (mbad n e x) := by unfold mbad; infer_instance
def mchk (n : Nat) : Int → List Mp → Bool
  | _, [] => true
  | e, x :: r => !decide (mbad n e x) && mchk n (x.at_ + x.n) r
def mapsB (n : Nat) (l : List Mp) : Bool := mchk n 0 l && decide (l.length ≤ 16)
set_option maxHeartbeats 4000000 in
set_option maxRecDepth 100000 in
theorem lmaps_any {W : World} {A : Option Addr} {l c n : Nat} {mp : List Mp} (hl : mp.length = l) (hb : l ≤ 100000) (hr : LV 5 encM W A mp) (ho : ∀ x ∈ mp, x.Ok) (hn : n ≤ 100000) : Calls Try.prog 25 #[.slice A l c, .int .i64 (n : Int)] W (BB W (mapsB n mp)) := by
  have H := Lib.hid (And.intro hl (And.intro hb (And.intro hr (And.intro ho hn))))
  have i0 : IntKind.u64.wrap (n : Int) = (n : Int) := by rw [IntKind.wrap_u64]; omega
  clear hl hb hr ho hn
  go_enter Try.func25, Try.ntmps25
  go_wp2_with fail
  go_loopg [5, 10] (l + 1) (fun gh v5 v10 wr => ∃ (k : Nat) (e : Int), l + 1 - k ≤ gh ∧ v5 = .int .i64 e ∧ v10 = .int .i64 k ∧ k ≤ l ∧ (0 ≤ e ∧ e ≤ 4096) ∧ mchk n 0 mp = mchk n e (mp.drop k) ∧ Hid (Below W.heap.size W wr))
  case atStart => exact ⟨0, 0, by omega, rfl, rfl, Nat.zero_le _, by omega, rfl, Lib.hid (Below.refl _ _)⟩
  case round =>
    obtain ⟨k, e, hg, rfl, rfl, hk, ⟨he0, he1⟩, hm, hI⟩ := hrel
    by_cases hlt : k < l
    · have q1 : (k : Int) < l := by omega
      obtain ⟨x, hx⟩ : ∃ x, mp[k]? = some x := ⟨_, List.getElem?_eq_getElem (by rw [H.out.1]; exact hlt)⟩
      have hd : mp.drop k = x :: mp.drop (k + 1) := by
        obtain ⟨h1, h2⟩ := List.getElem?_eq_some_iff.1 hx
        rw [← h2]; exact (List.getElem_cons_drop h1).symm
      have hok := H.out.2.2.2.1 x (List.mem_of_getElem? hx)
      have hr := H.out.2.2.1.below hI.out
      obtain ⟨b, off, rfl⟩ := hr.some_ (by have := H.out.1; omega)
      have k0 := hr.at_ (j := 0) hx (u := .int .i64 x.at_) rfl
      rw [Nat.add_zero] at k0
      have k1 := hr.at_ (j := 1) hx (u := inU x.sg) rfl
      have k2 := hr.at_ (j := 2) hx (u := .int .i64 x.fr) rfl
      have k3 := hr.at_ (j := 3) hx (u := .int .i64 x.n) rfl
      have k4 := hr.at_ (j := 4) hx (u := .bool x.wr) rfl
      unfold inU at k1
      have h1 : mchk n 0 mp = (!decide (mbad n e x) && mchk n (x.at_ + x.n) (mp.drop (k + 1))) := by rw [hm, hd]; rfl
      have i1 : IntKind.i64.wrap ((k : Int) + 1) = ((k + 1 : Nat) : Int) := by have := H.out.2.1; rw [IntKind.wrap_i64]; omega
      have HG := Lib.hid (And.intro hg (And.intro hlt h1))
      have HB := Lib.hid (hI.out.trans ((below_alloc1 _ (Obj.cells #[.int .i64 x.at_, .int .u64 (x.sg : Int), .int .i64 x.fr, .int .i64 x.n, .bool x.wr] 93)).mono hI.out.size))
      have hb0 := hok.s
      clear hg hlt hd hr h1 hm hk hx hok
      by_cases c0 : x.n < 1
      · have f0a : ((x.n : Int) < 1) := by omega
        have hres : mapsB n mp = false := by
          have hbad : mbad n e x := by unfold mbad; omega
          unfold mapsB; rw [HG.out.2.2, decide_eq_true hbad]; rfl
        have HR := Lib.hid hres
        clear hres hI hb0 he0 he1 c0
        go_wp2_with fail
        go_ret
        exact ⟨by rw [HR.out]; first | rfl | simp, HB.out⟩
      by_cases c1 : 16 < x.n
      · have f0a : ¬ ((x.n : Int) < 1) := by omega
        have f1a : ((x.n : Int) > 16) := by omega
        have f1b : ((16 : Int) < x.n) := by omega
        have hres : mapsB n mp = false := by
          have hbad : mbad n e x := by unfold mbad; omega
          unfold mapsB; rw [HG.out.2.2, decide_eq_true hbad]; rfl
        have HR := Lib.hid hres
        clear hres hI hb0 he0 he1 c0 c1
        go_wp2_with fail
        go_ret
        exact ⟨by rw [HR.out]; first | rfl | simp, HB.out⟩
      by_cases c2 : x.at_ < e
      · have f0a : ¬ ((x.n : Int) < 1) := by omega
        have f1a : ¬ ((x.n : Int) > 16) := by omega
        have f1b : ¬ ((16 : Int) < x.n) := by omega
        have f2a : (x.at_ < e) := by omega
        have hres : mapsB n mp = false := by
          have hbad : mbad n e x := by unfold mbad; omega
          unfold mapsB; rw [HG.out.2.2, decide_eq_true hbad]; rfl
        have HR := Lib.hid hres
        clear hres hI hb0 he0 he1 c0 c1 c2
        go_wp2_with fail
        go_ret
        exact ⟨by rw [HR.out]; first | rfl | simp, HB.out⟩
      by_cases c3 : 4096 - x.n < x.at_
      · have w3 : IntKind.i64.wrap (4096 - x.n) = 4096 - x.n := by rw [IntKind.wrap_i64]; omega
        have f0a : ¬ ((x.n : Int) < 1) := by omega
        have f1a : ¬ ((x.n : Int) > 16) := by omega
        have f1b : ¬ ((16 : Int) < x.n) := by omega
        have f2a : ¬ (x.at_ < e) := by omega
        have f3a : (x.at_ > 4096 - x.n) := by omega
        have f3b : (4096 - x.n < x.at_) := by omega
        have hres : mapsB n mp = false := by
          have hbad : mbad n e x := by unfold mbad; omega
          unfold mapsB; rw [HG.out.2.2, decide_eq_true hbad]; rfl
        have HR := Lib.hid hres
        clear hres hI hb0 he0 he1 c0 c1 c2 c3
        go_wp2_with fail
        go_ret
        exact ⟨by rw [HR.out]; first | rfl | simp, HB.out⟩
      by_cases c4 : x.fr < 0
      · have w3 : IntKind.i64.wrap (4096 - x.n) = 4096 - x.n := by rw [IntKind.wrap_i64]; omega
        have f0a : ¬ ((x.n : Int) < 1) := by omega
        have f1a : ¬ ((x.n : Int) > 16) := by omega
        have f1b : ¬ ((16 : Int) < x.n) := by omega
        have f2a : ¬ (x.at_ < e) := by omega
        have f3a : ¬ (x.at_ > 4096 - x.n) := by omega
        have f3b : ¬ (4096 - x.n < x.at_) := by omega
        have f4a : (x.fr < 0) := by omega
        have hres : mapsB n mp = false := by
          have hbad : mbad n e x := by unfold mbad; omega
          unfold mapsB; rw [HG.out.2.2, decide_eq_true hbad]; rfl
        have HR := Lib.hid hres
        clear hres hI hb0 he0 he1 c0 c1 c2 c3 c4
        go_wp2_with fail
        go_ret
        exact ⟨by rw [HR.out]; first | rfl | simp, HB.out⟩
      by_cases c5 : 16 - x.n < x.fr
      · have w3 : IntKind.i64.wrap (4096 - x.n) = 4096 - x.n := by rw [IntKind.wrap_i64]; omega
        have w5 : IntKind.i64.wrap (16 - x.n) = 16 - x.n := by rw [IntKind.wrap_i64]; omega
        have f0a : ¬ ((x.n : Int) < 1) := by omega
        have f1a : ¬ ((x.n : Int) > 16) := by omega
        have f1b : ¬ ((16 : Int) < x.n) := by omega
        have f2a : ¬ (x.at_ < e) := by omega
        have f3a : ¬ (x.at_ > 4096 - x.n) := by omega
        have f3b : ¬ (4096 - x.n < x.at_) := by omega
        have f4a : ¬ (x.fr < 0) := by omega
        have f5a : (x.fr > 16 - x.n) := by omega
        have f5b : (16 - x.n < x.fr) := by omega
        have hres : mapsB n mp = false := by
          have hbad : mbad n e x := by unfold mbad; omega
          unfold mapsB; rw [HG.out.2.2, decide_eq_true hbad]; rfl
        have HR := Lib.hid hres
        clear hres hI hb0 he0 he1 c0 c1 c2 c3 c4 c5
        go_wp2_with fail
        go_ret
        exact ⟨by rw [HR.out]; first | rfl | simp, HB.out⟩
      by_cases c6 : x.sg < 1
      · have w3 : IntKind.i64.wrap (4096 - x.n) = 4096 - x.n := by rw [IntKind.wrap_i64]; omega
        have w5 : IntKind.i64.wrap (16 - x.n) = 16 - x.n := by rw [IntKind.wrap_i64]; omega
        have f0a : ¬ ((x.n : Int) < 1) := by omega
        have f1a : ¬ ((x.n : Int) > 16) := by omega
        have f1b : ¬ ((16 : Int) < x.n) := by omega
        have f2a : ¬ (x.at_ < e) := by omega
        have f3a : ¬ (x.at_ > 4096 - x.n) := by omega
        have f3b : ¬ (4096 - x.n < x.at_) := by omega
        have f4a : ¬ (x.fr < 0) := by omega
        have f5a : ¬ (x.fr > 16 - x.n) := by omega
        have f5b : ¬ (16 - x.n < x.fr) := by omega
        have f6a : ((x.sg : Int) < 1) := by omega
        have hres : mapsB n mp = false := by
          have hbad : mbad n e x := by unfold mbad; omega
          unfold mapsB; rw [HG.out.2.2, decide_eq_true hbad]; rfl
        have HR := Lib.hid hres
        clear hres hI hb0 he0 he1 c0 c1 c2 c3 c4 c5 c6
        go_wp2_with fail
        go_ret
        exact ⟨by rw [HR.out]; first | rfl | simp, HB.out⟩
      by_cases c7 : n < x.sg
      · have w3 : IntKind.i64.wrap (4096 - x.n) = 4096 - x.n := by rw [IntKind.wrap_i64]; omega
        have w5 : IntKind.i64.wrap (16 - x.n) = 16 - x.n := by rw [IntKind.wrap_i64]; omega
        have f0a : ¬ ((x.n : Int) < 1) := by omega
        have f1a : ¬ ((x.n : Int) > 16) := by omega
        have f1b : ¬ ((16 : Int) < x.n) := by omega
        have f2a : ¬ (x.at_ < e) := by omega
        have f3a : ¬ (x.at_ > 4096 - x.n) := by omega
        have f3b : ¬ (4096 - x.n < x.at_) := by omega
        have f4a : ¬ (x.fr < 0) := by omega
        have f5a : ¬ (x.fr > 16 - x.n) := by omega
        have f5b : ¬ (16 - x.n < x.fr) := by omega
        have f6a : ¬ ((x.sg : Int) < 1) := by omega
        have f7a : ((x.sg : Int) > n) := by omega
        have f7b : ((n : Int) < x.sg) := by omega
        have hres : mapsB n mp = false := by
          have hbad : mbad n e x := by unfold mbad; omega
          unfold mapsB; rw [HG.out.2.2, decide_eq_true hbad]; rfl
        have HR := Lib.hid hres
        clear hres hI hb0 he0 he1 c0 c1 c2 c3 c4 c5 c6 c7
        go_wp2_with fail
        go_ret
        exact ⟨by rw [HR.out]; first | rfl | simp, HB.out⟩
      have w3 : IntKind.i64.wrap (4096 - x.n) = 4096 - x.n := by rw [IntKind.wrap_i64]; omega
      have w5 : IntKind.i64.wrap (16 - x.n) = 16 - x.n := by rw [IntKind.wrap_i64]; omega
      have w7 : IntKind.i64.wrap (x.at_ + x.n) = x.at_ + x.n := by rw [IntKind.wrap_i64]; omega
      have f0a : ¬ ((x.n : Int) < 1) := by omega
      have f1a : ¬ ((x.n : Int) > 16) := by omega
      have f1b : ¬ ((16 : Int) < x.n) := by omega
      have f2a : ¬ (x.at_ < e) := by omega
      have f3a : ¬ (x.at_ > 4096 - x.n) := by omega
      have f3b : ¬ (4096 - x.n < x.at_) := by omega
      have f4a : ¬ (x.fr < 0) := by omega
      have f5a : ¬ (x.fr > 16 - x.n) := by omega
      have f5b : ¬ (16 - x.n < x.fr) := by omega
      have f6a : ¬ ((x.sg : Int) < 1) := by omega
      have f7a : ¬ ((x.sg : Int) > n) := by omega
      have f7b : ¬ ((n : Int) < x.sg) := by omega
      have hres : mchk n 0 mp = mchk n (x.at_ + x.n) (mp.drop (k + 1)) := by
        have hbad : ¬ mbad n e x := by unfold mbad; omega
        rw [HG.out.2.2, decide_eq_false hbad]; rfl
      have HR := Lib.hid (And.intro hres (show 0 ≤ x.at_ + x.n ∧ x.at_ + x.n ≤ 4096 from by omega))
      clear hres hI hb0 he0 he1 c0 c1 c2 c3 c4 c5 c6 c7
      go_wp2_with fail
      go_roundg (l + 1 - (k + 1))
      case rel => exact ⟨k + 1, x.at_ + x.n, Nat.le_refl _, by first | rfl | simp, by first | rfl | simp, HG.out.2.1, HR.out.2, HR.out.1, HB⟩
      case measure => have := HG.out; omega
    · have q1 : ¬ (k : Int) < l := by omega
      obtain rfl : k = l := by omega
      have hres : mapsB n mp = decide ((k : Int) ≤ 16) := by
        unfold mapsB
        rw [hm, List.drop_of_length_le (by rw [H.out.1]; exact Nat.le_refl _), H.out.1]
        show (true && _) = _
        rw [Bool.true_and]
        exact decide_eq_decide.2 (by omega)
      have HR := Lib.hid hres
      clear hg hk hm hlt hres he0 he1
      go_wp2_with fail
      go_ret
      exact ⟨by rw [HR.out]; first | rfl | simp, hI.out⟩
end Go.Proofs.Ytmadldgajjgbmaa
