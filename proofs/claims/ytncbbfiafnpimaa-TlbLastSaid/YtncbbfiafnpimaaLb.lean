/- The newest pages are known. -/
import Derived.Test.YtncbbfiafnpimaaTa
import Derived.Laws.AppendOwn
set_option linter.unusedVariables false
set_option linter.unusedSimpArgs false
namespace Go.Proofs.Ytncbbfiafnpimaa
open Go.RowKit Tl
set_option linter.unusedVariables false
set_option linter.unusedSimpArgs false
theorem info3 : (Try.prog.info? 3).map (fun i => (i.zero, i.size, i.bytes)) = some (some (.int .i64 0), 1, 8) := by kernel_rfl
theorem one_new (w : World) (v : Value) : ∀ (j : Nat) (u : Value), [v][j]? = some u → (w.alloc (Obj.cells #[v] 3)).cell? ((⟨w.heap.size, 0, none⟩ : Addr).add j) = some u := fun j u hu => by
  rw [addr_add, cell_of_row _ _ _ _ 3 (0, 0) (heap_alloc_new w _), Nat.zero_add]
  match j with
  | 0 => simpa using hu
  | j + 1 => simp at hu
/-- Numbers that the law has seen: m of them, in a slice of its own above block B. -/
def Sn (B m : Nat) (v : Value) (w : World) : Prop := B ≤ w.heap.size ∧ ∃ xs, w.ownsRow B 3 1 v m xs ∧ ∀ u ∈ xs, ∃ z : Int, u = .int .i64 z
theorem Sn.nil {B : Nat} {w : World} (h : B ≤ w.heap.size) : Sn B 0 (.slice none 0 0) w := ⟨h, [], World.ownsRow_nil _ _ _ _, by simp⟩
theorem Sn.turn {B m R : Nat} {v : Value} {w w' : World} (h : Sn B m v w) (ht : Turn [R] w w') (hR : R < B) : Sn B m v w' := by
  obtain ⟨h1, xs, h2, h3⟩ := h
  refine ⟨Nat.le_trans h1 ht.size, xs, h2.kept (row := some R) ⟨ht.os, ht.tape, ht.output, ht.size, fun k hk hn => ht.block k hk (by simpa using fun e => hn (by rw [e]))⟩ ?_, h3⟩
  right
  intro e
  have := (h2.lt R e).1
  omega
theorem Sn.below {B m : Nat} {v : Value} {w w' : World} (h : Sn B m v w) (ht : Below w.heap.size w w') : Sn B m v w' := by
  obtain ⟨h1, xs, h2, h3⟩ := h
  exact ⟨Nat.le_trans h1 ht.size, xs, h2.kept (row := none) ⟨ht.os, ht.tape, ht.output, ht.size, fun k hk _ => ht.block k hk⟩ (by cases hv : v.ownBlock <;> simp), h3⟩
/-- A slice's form, and its last number. -/
theorem Sn.form {B m : Nat} {v : Value} {w : World} (h : Sn B m v w) : (∃ A c, v = .slice A m c) ∧ (0 < m → ∃ g c, ∃ z : Int, v = .slice (some ⟨g, 0, none⟩) m c ∧ w.cell? ⟨g, m - 1, none⟩ = some (.int .i64 z) ∧ m ≤ 9223372036854775807) := by
  obtain ⟨h1, xs, h2, h3⟩ := h
  have hl : xs.length = m := by rw [h2.1]; omega
  rcases h2.2 with ⟨rfl, rfl⟩ | ⟨g, cap, cur, rfl, hb, hg, hnc, hcm, hcs, htake⟩
  · exact ⟨⟨_, _, rfl⟩, fun h => absurd h (by omega)⟩
  · refine ⟨⟨_, _, rfl⟩, fun h0 => ?_⟩
    have hx : xs[m - 1]? = some (xs[m - 1]'(by omega)) := List.getElem?_eq_getElem (by omega)
    obtain ⟨z, hz⟩ := h3 _ (List.mem_iff_getElem?.2 ⟨_, hx⟩)
    rw [hz] at hx
    have := h2.cells (g := g) rfl (m - 1) _ hx
    rw [addr_add, Nat.zero_add] at this
    exact ⟨g, cap, z, rfl, this, by unfold maxLen at hcm; omega⟩
/-- The law's state. -/
def LI (W : World) (R B k : Nat) (v : Value) (w : World) : Prop := R < B ∧ ∃ (g : Nat → En) (n m : Nat), TS W R g n w ∧ Sn B m v w ∧ m ≤ k ∧ (m = 0 ↔ k = 0) ∧ (cnt g 4 = 0 ↔ k = 0)
set_option maxRecDepth 100000 in
set_option maxHeartbeats 4000000 in
theorem last_all (A : Option Addr) (l c : Nat) (xs : List Int) (w : World) (hn : xs.length = l) (hm : l ≤ 200) (hr : Nums w A xs) :
    Calls Try.prog 4 #[.slice A l c] w fun e w' => e = .returned (.bool true) ∧ Below w.heap.size w w' := by
  have B := Lib.hid fit_any
  have XR := Lib.hid hr
  have HN := Lib.hid hn
  have h100 : ¬ (200 : Int) < l := by omega
  clear hr hn
  go_enter Try.func4, Try.ntmps4
  go_wp2_with fail
  refine (B.out _).mono ?_; rintro e w1 ⟨rfl, hb⟩
  have HS := Lib.hid (TS.new hb)
  clear B hb
  go_wp2_with fail
  go_loopg [14] 4 (fun gh i wr => ∃ k : Nat, k ≤ 4 ∧ gh = 4 - k ∧ i = .int .i64 k ∧ Hid (∃ g n, TS w w1.heap.size g n wr))
  case atStart => exact ⟨0, by omega, by omega, rfl, Lib.hid ⟨_, _, HS.out⟩⟩
  case round =>
    obtain ⟨k, hk, hg, rfl, hI⟩ := hrel
    by_cases hlt : k < 4
    · obtain ⟨g, n, hts⟩ := hI.out
      have P := Lib.hid (put_ts hts (1000 + (k : Int)) 9 false)
      clear hI HS hts
      go_wp2_with fail
      refine P.out.mono ?_; rintro e w2 ⟨rfl, _, h1⟩
      have H1 := Lib.hid h1
      clear h1 P
      go_wp2_with fail
      go_roundg (4 - (k + 1))
      case rel => exact ⟨k + 1, by omega, rfl, by simp, Lib.hid ⟨_, _, H1.out⟩⟩
      case measure => first | omega | (simp; omega)
    · obtain rfl : k = 4 := by omega
      obtain ⟨g, n, hts⟩ := hI.out
      have P := Lib.hid (flush_ts hts)
      clear hI HS hlt hts
      go_wp2_with fail
      refine P.out.mono ?_; rintro e w2 ⟨rfl, _, h1⟩
      have P1 := Lib.hid (len_ts h1 0 rfl)
      clear h1 P
      go_wp2_with fail
      refine P1.out.mono ?_; rintro e w3 ⟨rfl, _, h1⟩
      have P2 := Lib.hid (find_ts h1 1000 false 0 rfl)
      clear h1 P1
      go_wp2_with fail
      refine P2.out.mono ?_; rintro e w4 ⟨rfl, _, h1⟩
      have H4 := Lib.hid h1
      clear h1 P2
      go_wp2_with fail
      have h0 : (((0 : Nat) : Int)) = 0 := rfl
      have HL := Lib.hid (show LI w w1.heap.size w4.heap.size 0 (.slice none 0 0) w4 from ⟨H4.out.t.lt, _, _, 0, H4.out, Sn.nil (Nat.le_refl _), by omega, by simp, by simp; rfl⟩)
      obtain ⟨BB, eBB⟩ : ∃ BB, w4.heap.size = BB := ⟨_, rfl⟩
      rw [eBB] at HL
      clear H4 hk hg eBB
      go_loopg [5, 30] l (fun gh sv i wr => ∃ k : Nat, k ≤ l ∧ gh = l - k ∧ i = .int .i64 k ∧ Hid (LI w w1.heap.size BB k sv wr))
      case atStart => exact ⟨0, by omega, by omega, rfl, HL⟩
      case round =>
        obtain ⟨k, hk, hg, rfl, hI⟩ := hrel
        by_cases hlt : k < l
        · obtain ⟨x, hx⟩ : ∃ x, xs[k]? = some x := ⟨_, List.getElem?_eq_getElem (by rw [HN.out]; exact hlt)⟩
          obtain ⟨b, of, rfl, hb, hc0, hx0⟩ := XR.out k _ hx
          obtain ⟨hRB, g, n, m, hts, hsn, hmk, hm0, hc⟩ := hI.out
          have c0 := hts.b.cell (p := ⟨b, of + k, none⟩) hb
          rw [hc0] at c0
          obtain ⟨p, hp, hp6⟩ := (and_nat x).2.2
          have P := Lib.hid (put_ts hts (p : Int) ((p : Int) + 1) false)
          have HS := Lib.hid hsn
          have HB := Lib.hid hRB
          have HM := Lib.hid (And.intro hmk hm0)
          have FA := Lib.hid (show seek (putG g n (p : Int) ((p : Int) + 1) false) (p : Int) false = (p : Int) + 1 by rw [seek_put hts.ok _ _ _ _ (by omega)]; rfl)
          have FB := Lib.hid (show seek (putG g n (p : Int) ((p : Int) + 1) false) (p : Int) true = 0 by rw [seek_put hts.ok _ _ _ _ (by omega)]; rfl)
          have HC := Lib.hid (show 0 < cnt (putG g n (p : Int) ((p : Int) + 1) false) 4 by
            obtain ⟨i, hi, e⟩ := put_at hts.ok (p : Int) ((p : Int) + 1) false (by omega)
            exact cnt_pos hi (by rw [e]; show (p : Int) + 1 ≠ 0; omega))
          clear hI HL hx hc0 hb hx0 hts hsn hmk hm0 hc hRB
          go_wp2_with fail
          refine P.out.mono ?_; rintro e w5 ⟨rfl, ht, h1⟩
          have HT := Lib.hid h1
          have HSn := Lib.hid (HS.out.turn ht HB.out)
          clear h1 P HS ht c0
          go_upto_region 20 with fail
          obtain ⟨⟨A1, c1, rfl⟩, hpos⟩ := HSn.out.form
          obtain ⟨tt, ht0, htt⟩ : ∃ tt : Bool, (tt = false → m ≠ 0) ∧ ((m = 0 ∧ tt = true) ∨ (m ≠ 0 ∧ ∃ g2 z, A1 = some ⟨g2, 0, none⟩ ∧ w5.cell? ⟨g2, m - 1, none⟩ = some (.int .i64 z) ∧ (z != (p : Int)) = tt)) := by
            by_cases h : m = 0
            · exact ⟨true, by simp, .inl ⟨h, rfl⟩⟩
            · obtain ⟨g2, c2, z, e, hz, _⟩ := hpos (by omega)
              injection e with e1 e2 e3
              exact ⟨z != (p : Int), fun _ => h, .inr ⟨h, g2, z, e1, hz, rfl⟩⟩
          have HT0 := Lib.hid ht0
          have mk : m ≤ 200 := by have := HM.out.1; omega
          clear hpos ht0
          go_cut [52] (fun s52 wx => w5 = wx ∧ s52 = .bool tt)
          case first =>
            clear FA FB HC HT HSn HM HT0 HB XR HN
            rcases htt with ⟨rfl, rfl⟩ | ⟨hm0, g2, z, rfl, hz, hzz⟩
            · go_wp2_with fail
              go_meet
              exact ⟨rfl, rfl⟩
            · have mb : ((m : Int) == 0) = false := by rw [beq_eq_false_iff_ne]; omega
              have i1 : ((m : Int) - 1) = ((m - 1 : Nat) : Int) := by omega
              go_wp2_with fail
              go_meet
              exact ⟨rfl, rfl⟩
          case rest =>
            obtain ⟨rfl, rfl⟩ := hcut
            clear htt
            obtain ⟨G', eG'⟩ : ∃ G', putG g n (p : Int) ((p : Int) + 1) false = G' := ⟨_, rfl⟩
            obtain ⟨N', eN'⟩ : ∃ N', putN g n (p : Int) ((p : Int) + 1) = N' := ⟨_, rfl⟩
            rw [eG', eN'] at HT
            rw [eG'] at FA FB HC
            clear eG' eN'
            go_upto_if 52 with fail
            go_cut [5] (fun s5 wx => ∃ m1 A1 c1, s5 = .slice A1 m1 c1 ∧ Hid (0 < m1 ∧ m1 ≤ k + 1 ∧ TS w w1.heap.size G' N' wx ∧ Sn BB m1 s5 wx))
            case first =>
              cases tt
              · go_wp2_with fail
                go_meet
                exact ⟨m, A1, c1, rfl, Lib.hid ⟨by have h := HT0.out; simp at h; omega, by have := HM.out.1; omega, HT.out, HSn.out⟩⟩
              · obtain ⟨i0, hi, hz0, hz1, hz2⟩ := info_parts info3
                obtain ⟨hBw, vs, hO, hI3⟩ := HSn.out
                have HO := Lib.hid hO
                have HBw := Lib.hid hBw
                have HI3 := Lib.hid hI3
                clear hO hI3 HSn FA FB HC hBw
                go_wp2_with (at_builtin; refine wpList_append_own _ rfl _ _ 38 rfl BB 3 i0 (.int .i64 0) 1 8 Try.underlying38 hi hz0 hz1 hz2 rfl (by decide) _ m vs rfl (HO.out.alloc _) ⟨w5.heap.size, 0, none⟩ 1 1 [.int .i64 (p : Int)] rfl rfl (one_new _ _) ?c2 ?c3 ?c4 ?c5 ?_)
                case c2 => intro u hu; rw [List.mem_singleton.1 hu]; rfl
                case c3 => unfold maxLen; omega
                case c4 => omega
                case c5 => have := HBw.out; first | omega | (rw [World.size_alloc]; omega)
                intro v' w6 hown' hgrow _
                have hal := below_alloc1 w5 (Obj.cells #[Value.int .i64 (p : Int)] 3)
                have hsz : w5.heap.size ≤ (w5.alloc (Obj.cells #[Value.int .i64 (p : Int)] 3)).heap.size := hal.size
                have hgb := hgrow.size
                have HE := Lib.hid (show TS w w1.heap.size G' N' w6 ∧ Sn BB (m + 1) v' w6 from
                  ⟨(HT.out.below hal).turn (S := (Value.slice A1 m c1).ownBlock.toList) ⟨hgrow.os, hgrow.tape, hgrow.output, hgrow.size, fun k' hk' hn => hgrow.block k' hk' (fun e => hn (by simpa using e.symm))⟩
                    (fun b' hb' => by
                      have h1 := (HO.out.lt b' (by simpa using hb')).1
                      have h2 := HT.out.r
                      have h3 := HB.out
                      exact ⟨by omega, by omega⟩),
                   by have := HBw.out; omega, vs ++ [.int .i64 (p : Int)], hown', fun u hu => by
                     rcases List.mem_append.1 hu with h | h
                     · exact HI3.out u h
                     · exact ⟨_, List.mem_singleton.1 h⟩⟩)
                clear hown' hgrow hal hsz hgb HO HI3 HBw
                obtain ⟨⟨A2, c2, rfl⟩, _⟩ := HE.out.2.form
                go_wp2_with fail
                go_meet
                exact ⟨m + 1, A2, c2, rfl, Lib.hid ⟨by omega, by have := HM.out.1; omega, HE.out.1, HE.out.2⟩⟩
            case rest =>
              obtain ⟨m1, A2, c2, rfl, hE⟩ := hcut
              have P1 := Lib.hid (find_ts hE.out.2.2.1 (p : Int) false _ FA.out)
              clear HT HSn HT0 mk FA
              go_wp2_with fail
              refine P1.out.mono ?_; rintro e w7 ⟨rfl, hb7, h7⟩
              have P2 := Lib.hid (find_ts h7 (p : Int) true _ FB.out)
              have HS7 := Lib.hid (hE.out.2.2.2.below hb7)
              have HM7 := Lib.hid (And.intro hE.out.1 hE.out.2.1)
              clear P1 hb7 h7 hE FB
              go_wp2_with fail
              refine P2.out.mono ?_; rintro e w8 ⟨rfl, hb8, h8⟩
              have HE := Lib.hid (show LI w w1.heap.size BB (k + 1) (.slice A2 m1 c2) w8 from ⟨HB.out, G', N', m1, h8, HS7.out.below hb8, HM7.out.2, by have := HM7.out.1; omega, by have := HC.out; omega⟩)
              clear P2 hb8 h8 HS7 HM7
              go_wp2_with fail
              go_roundg (l - (k + 1))
              case rel => exact ⟨k + 1, by omega, rfl, by simp, HE⟩
              case measure => first | omega | (simp; omega)
        · obtain rfl : k = l := by omega
          have E1 := Lib.hid put_none
          have E2 := Lib.hid flush_none
          have E3 := Lib.hid find_none
          have E4 := Lib.hid len_none
          obtain ⟨hRB, g, n, m, hts, hsn, hmk, hm0, hc⟩ := hI.out
          obtain ⟨⟨A1, c1, rfl⟩, _⟩ := hsn.form
          obtain ⟨cc, ecc⟩ : ∃ cc, cnt g 4 = cc := ⟨_, rfl⟩
          have hc4 := cnt_le g 4
          rw [ecc] at hc hc4
          have L1 := Lib.hid (len_ts hts cc ecc)
          have bb : ((m : Int) == 0) = ((cc : Int) == 0) := by
            rw [Bool.eq_iff_iff]; simp; omega
          have L2 := Lib.hid hts.ok
          have HECC := Lib.hid ecc
          clear hts hsn hmk hm0 hc hRB hI HL hlt hg hk XR HN ecc
          go_wp2_with fail
          refine (E1.out _ _ _ _).mono ?_; rintro e w5 ⟨rfl, rfl⟩
          go_wp2_with fail
          refine (E2.out _).mono ?_; rintro e w6 ⟨rfl, rfl⟩
          go_wp2_with fail
          refine (E3.out _ _ _).mono ?_; rintro e w7 ⟨rfl, rfl⟩
          go_wp2_with fail
          refine (E4.out _).mono ?_; rintro e w8 ⟨rfl, rfl⟩
          go_wp2_with fail
          refine L1.out.mono ?_; rintro e w9 ⟨rfl, _, h9⟩
          have L3 := Lib.hid (len_ts h9 cc HECC.out)
          clear L1 h9
          go_wp2_with fail
          refine L3.out.mono ?_; rintro e w10 ⟨rfl, _, h10⟩
          have H10 := Lib.hid h10
          clear L3 h10
          go_wp2_with fail
          go_ret
          exact ⟨rfl, H10.out.b⟩
theorem last_many (A : Option Addr) (l c : Nat) (w : World) (hm : 200 < l) :
    Calls Try.prog 4 #[.slice A l c] w fun e w' => e = .returned (.bool true) ∧ Below w.heap.size w w' := by
  have B := Lib.hid fit_any
  have h100 : (200 : Int) < l := by omega
  go_enter Try.func4, Try.ntmps4
  go_wp2_with fail
  refine (B.out _).mono ?_; rintro e w1 ⟨rfl, hb⟩
  have HB := Lib.hid hb
  clear B hb
  go_wp2_with fail
  go_ret
  exact ⟨rfl, HB.out⟩
theorem last_law (v : Value) (w : World) (h : CameN w v) : Calls Try.prog 4 #[v] w fun e w' => e = .returned (.bool true) ∧ Below w.heap.size w w' := by
  obtain ⟨A, n, c, rfl, h⟩ := h
  by_cases hm : 200 < n
  · exact last_many A n c w hm
  · rcases h with h | ⟨xs, h1, h2, h3⟩
    · exact absurd h (by omega)
    · exact last_all A n c xs w h1 (by omega) h3
end Go.Proofs.Ytncbbfiafnpimaa
