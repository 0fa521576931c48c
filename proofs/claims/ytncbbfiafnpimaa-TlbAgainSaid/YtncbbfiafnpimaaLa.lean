/- A page that is put again. -/
import Derived.Test.YtncbbfiafnpimaaTa
set_option linter.unusedVariables false
set_option linter.unusedSimpArgs false
namespace Go.Proofs.Ytncbbfiafnpimaa
open Go.RowKit Tl
set_option linter.unusedVariables false
set_option linter.unusedSimpArgs false
set_option maxRecDepth 100000 in
set_option maxHeartbeats 4000000 in
theorem again_all (A : Option Addr) (l c : Nat) (xs : List Int) (m : Int) (w : World) (hn : xs.length = l) (hm : l ≤ 100) (hr : Nums w A xs) :
    Calls Try.prog 5 #[.slice A l c, .int .i64 m] w fun e w' => e = .returned (.bool true) ∧ Below w.heap.size w w' := by
  obtain ⟨q, hq⟩ : ∃ q : Nat → Nat, ∀ j, q j < 4 ∧ ∀ x, xs[j]? = some x → bits .and .i64 x 3 = (q j : Int) :=
    ⟨fun j => ((xs.getD j 0) % 4).toNat, fun j => ⟨by show (xs.getD j 0 % 4).toNat < 4; omega, fun x hx => by
      have e : xs.getD j 0 = x := by rw [List.getD_eq_getElem?_getD, hx]; rfl
      show _ = (((xs.getD j 0 % 4).toNat : Nat) : Int)
      rw [i64_and3, e]; omega⟩⟩
  obtain ⟨u, hu, hu8⟩ := (and_nat m).2.1
  have B := Lib.hid fit_any
  have XR := Lib.hid hr
  have HN := Lib.hid hn
  have HQ := Lib.hid hq
  have h100 : ¬ (100 : Int) < l := by omega
  clear hr hn hq
  go_enter Try.func5, Try.ntmps5
  go_wp2_with fail
  refine (B.out _).mono ?_; rintro e w1 ⟨rfl, hb⟩
  have HS := Lib.hid (TS.new hb)
  clear B hb
  go_wp2_with fail
  go_loopg [19] 4 (fun gh i wr => ∃ k : Nat, k ≤ 4 ∧ gh = 4 - k ∧ i = .int .i64 k ∧ Hid (TS w w1.heap.size (F k) (k % 4) wr))
  case atStart => exact ⟨0, by omega, by omega, rfl, HS⟩
  case round =>
    obtain ⟨k, hk, hg, rfl, hI⟩ := hrel
    by_cases hlt : k < 4
    · have P := Lib.hid (put_ts hI.out (k : Int) (10 + (k : Int)) false)
      rw [Nat.mod_eq_of_lt hlt, (F_step k hlt).1, (F_step k hlt).2] at P
      clear hI HS
      go_wp2_with fail
      refine P.out.mono ?_; rintro e w2 ⟨rfl, _, h1⟩
      have H1 := Lib.hid h1
      clear h1 P
      go_wp2_with fail
      go_roundg (4 - (k + 1))
      case rel => exact ⟨k + 1, by omega, rfl, by simp, H1⟩
      case measure => first | omega | (simp; omega)
    · obtain rfl : k = 4 := by omega
      have HW := Lib.hid (show TS w w1.heap.size (wm q 0) 0 wr from hI.out)
      clear hI HS hlt
      go_wp2_with fail
      clear hk hg
      have h0 : (((0 : Nat) : Int)) = 0 := rfl
      go_loopg [29] l (fun gh i wr => ∃ k : Nat, k ≤ l ∧ gh = l - k ∧ i = .int .i64 k ∧ Hid (TS w w1.heap.size (wm q k) 0 wr))
      case atStart => exact ⟨0, by omega, by omega, rfl, HW⟩
      case round =>
        obtain ⟨k, hk, hg, rfl, hI⟩ := hrel
        by_cases hlt : k < l
        · obtain ⟨x, hx⟩ : ∃ x, xs[k]? = some x := ⟨_, List.getElem?_eq_getElem (by rw [HN.out]; exact hlt)⟩
          obtain ⟨b, of, rfl, hb, hc0, hx0⟩ := XR.out k _ hx
          have c0 := hI.out.b.cell (p := ⟨b, of + k, none⟩) hb
          rw [hc0] at c0
          obtain ⟨q4, hqx⟩ := HQ.out k
          have qx := hqx x hx
          have i1 := i64_and1 (k : Int)
          have P := Lib.hid (put_ts hI.out (q k : Int) (100 + (k : Int)) (decide (k % 2 = 0)))
          rw [(wm_step q k q4 0 hI.out.ok).1, (wm_step q k q4 0 hI.out.ok).2] at P
          have bb : ((k : Int) % 2 == 0) = decide (k % 2 = 0) := by
            rw [Bool.eq_iff_iff]; simp; omega
          clear hI HW hqx hx hc0 q4 hb hx0
          go_wp2_with fail
          refine P.out.mono ?_; rintro e w2 ⟨rfl, _, h1⟩
          have H1 := Lib.hid h1
          clear h1 P
          go_wp2_with fail
          go_roundg (l - (k + 1))
          case rel => exact ⟨k + 1, by omega, rfl, by simp, H1⟩
          case measure => first | omega | (simp; omega)
        · obtain rfl : k = l := by omega
          clear HW hlt hk hg
          go_wp2_with fail
          go_loopg [43] 4 (fun gh i wr => ∃ j : Nat, j ≤ 4 ∧ gh = 4 - j ∧ i = .int .i64 j ∧ Hid (TS w w1.heap.size (wm q k) 0 wr))
          case atStart => exact ⟨0, by omega, by omega, rfl, hI⟩
          case round =>
            obtain ⟨j, hj, hg, rfl, hI⟩ := hrel
            by_cases hlt : j < 4
            · obtain ⟨f0, hf0⟩ : ∃ f0 : Int, f0 = 10 + (j : Int) := ⟨_, rfl⟩
              have w0 : (10 + (j : Int)) = (wm q 0 j).f := by rw [wm, F, if_pos hlt]
              have w0' : false = (wm q 0 j).b := by rw [wm, F, if_pos hlt]
              have HW0 := Lib.hid (And.intro w0 w0')
              have HGO := Lib.hid hg
              clear w0 w0' f0 hf0
              go_wp2_with fail
              go_loopg [10, 11, 50] k (fun gh wa ma i wr => ∃ z : Nat, z ≤ k ∧ gh = k - z ∧ i = .int .i64 z ∧ (∃ (wv : Int) (mv : Bool), wa = .int .i64 wv ∧ ma = .bool mv ∧ Hid (wv = (wm q z j).f ∧ mv = (wm q z j).b)) ∧ Hid (TS w w1.heap.size (wm q k) 0 wr))
              case atStart => exact ⟨0, by omega, by omega, rfl, ⟨_, _, rfl, rfl, HW0⟩, hI⟩
              case round =>
                clear hI HW0 hg
                obtain ⟨z, hz, hg, rfl, ⟨wv, mv, rfl, rfl, HW⟩, hI⟩ := hrel
                by_cases hlz : z < k
                · obtain ⟨x, hx⟩ : ∃ x, xs[z]? = some x := ⟨_, List.getElem?_eq_getElem (by rw [HN.out]; exact hlz)⟩
                  obtain ⟨b, of, rfl, hb, hc0, hx0⟩ := XR.out z _ hx
                  have c0 := hI.out.b.cell (p := ⟨b, of + z, none⟩) hb
                  rw [hc0] at c0
                  obtain ⟨q4, hqx⟩ := HQ.out z
                  have qx := hqx x hx
                  have i1 := i64_and1 (z : Int)
                  have bb : ((z : Int) % 2 == 0) = decide (z % 2 = 0) := by
                    rw [Bool.eq_iff_iff]; simp; omega
                  have W1 := Lib.hid (show wm q (z + 1) j = if j = q z then ⟨j, 100 + (z : Int), decide (z % 2 = 0)⟩ else wm q z j from rfl)
                  clear hqx hx hc0 q4 hb hx0
                  by_cases hqj : j = q z
                  · have qq : ((q z : Int) == (j : Int)) = true := by rw [hqj]; simp
                    have HQJ := Lib.hid hqj
                    clear hqj
                    go_wp2_with fail
                    go_roundg (k - (z + 1))
                    case rel => exact ⟨z + 1, by omega, rfl, by simp, ⟨_, _, rfl, rfl, Lib.hid (by rw [W1.out, if_pos HQJ.out]; exact ⟨rfl, rfl⟩)⟩, hI⟩
                    case measure => first | omega | (simp; omega)
                  · have qq : ((q z : Int) == (j : Int)) = false := by rw [beq_eq_false_iff_ne]; omega
                    have HQJ := Lib.hid hqj
                    clear hqj
                    go_wp2_with fail
                    go_roundg (k - (z + 1))
                    case rel => exact ⟨z + 1, by omega, rfl, by simp, ⟨_, _, rfl, rfl, Lib.hid (by rw [W1.out, if_neg HQJ.out]; exact HW.out)⟩, hI⟩
                    case measure => first | omega | (simp; omega)
                · obtain rfl : z = k := by omega
                  obtain ⟨hwv, hmv⟩ := HW.out
                  have FA := Lib.hid (find_ts hI.out (j : Int) false wv (by rw [wm_find q z hlt hI.out.ok, hwv]; simp))
                  have hw0 := (wm_p q hlt z).2
                  rw [← hwv] at hw0
                  have FBx : seek (wm q z) (j : Int) true = if mv then wv else 0 := by
                    rw [wm_find q z hlt hI.out.ok, hwv, hmv]; cases (wm q z j).b <;> simp
                  have HFB := Lib.hid FBx
                  have wne : (wv == 0) = false := by rw [beq_eq_false_iff_ne]; omega
                  have wnn : ¬ wv = 0 := by omega
                  have wnb : (wv != 0) = true := by simp [wnn]
                  clear hwv hmv HW FBx hw0 hI hlz hz
                  go_wp2_with fail
                  refine FA.out.mono ?_; rintro e w2 ⟨rfl, _, h2⟩
                  have FB := Lib.hid (find_ts h2 (j : Int) true _ HFB.out)
                  clear FA h2 HFB
                  go_wp2_with fail
                  refine FB.out.mono ?_; rintro e w3 ⟨rfl, _, h3⟩
                  have H3 := Lib.hid h3
                  clear FB h3
                  cases mv
                  · go_wp2_with fail
                    go_roundg (4 - (j + 1))
                    case rel => exact ⟨j + 1, by omega, rfl, by simp, H3⟩
                    case measure => have := HGO.out; first | omega | (simp; omega)
                  · go_wp2_with fail
                    go_roundg (4 - (j + 1))
                    case rel => exact ⟨j + 1, by omega, rfl, by simp, H3⟩
                    case measure => have := HGO.out; first | omega | (simp; omega)
            · obtain rfl : j = 4 := by omega
              have up : 4 ≤ 50 + (u : Int) := by omega
              have HP := Lib.hid (wm_more q k (50 + (u : Int)) up hI.out.ok)
              have P := Lib.hid (put_ts hI.out (50 + (u : Int)) 7 true)
              rw [HP.out.1] at P
              have HPs := Lib.hid HP.out.2
              clear HP hI hlt hg hj up HQ XR
              go_wp2_with fail
              refine P.out.mono ?_; rintro e w2 ⟨rfl, _, h2⟩
              have L := Lib.hid (len_ts h2 4 HPs.out.1)
              have HS := Lib.hid (HPs.out.2 _ h2.ok)
              clear P h2 HPs
              go_wp2_with fail
              refine L.out.mono ?_; rintro e w3 ⟨rfl, _, h3⟩
              have A0 := Lib.hid (find_ts h3 0 false 0 HS.out.1)
              clear L h3
              go_wp2_with fail
              refine A0.out.mono ?_; rintro e w4 ⟨rfl, _, h4⟩
              have A1 := Lib.hid (find_ts h4 (50 + (u : Int)) true 7 HS.out.2)
              clear A0 h4 HS
              go_wp2_with fail
              refine A1.out.mono ?_; rintro e w5 ⟨rfl, _, h5⟩
              have H5 := Lib.hid h5
              clear A1 h5
              go_wp2_with fail
              go_ret
              exact ⟨rfl, H5.out.b⟩
theorem again_many (A : Option Addr) (l c : Nat) (m : Int) (w : World) (hm : 100 < l) :
    Calls Try.prog 5 #[.slice A l c, .int .i64 m] w fun e w' => e = .returned (.bool true) ∧ Below w.heap.size w w' := by
  have B := Lib.hid fit_any
  have h100 : (100 : Int) < l := by omega
  go_enter Try.func5, Try.ntmps5
  go_wp2_with fail
  refine (B.out _).mono ?_; rintro e w1 ⟨rfl, hb⟩
  have HB := Lib.hid hb
  clear B hb
  go_wp2_with fail
  go_ret
  exact ⟨rfl, HB.out⟩
theorem again_law (v : Value) (m : Int) (w : World) (h : CameN w v) : Calls Try.prog 5 #[v, .int .i64 m] w fun e w' => e = .returned (.bool true) ∧ Below w.heap.size w w' := by
  obtain ⟨A, n, c, rfl, h⟩ := h
  by_cases hm : 100 < n
  · exact again_many A n c m w hm
  · rcases h with h | ⟨xs, h1, h2, h3⟩
    · exact absurd h (by omega)
    · exact again_all A n c xs m w h1 (by omega) h3
end Go.Proofs.Ytncbbfiafnpimaa
