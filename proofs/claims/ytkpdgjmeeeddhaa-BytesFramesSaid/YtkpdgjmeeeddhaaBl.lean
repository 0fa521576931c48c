/- BytesFrames. -/
import Derived.Test.YtkpdgjmeeeddhaaBn
import Derived.Test.YtkpdgjmeeeddhaaVm
set_option linter.unusedVariables false
set_option linter.unusedSimpArgs false
namespace Go.Proofs.Ytkpdgjmeeeddhaa
open Go.RowKit
set_option linter.unusedVariables false
set_option linter.unusedSimpArgs false
theorem map_kp {w w' : World} {G m : Nat} {g : Int → Bool} (h : MapB w G m g) (hT : Turn [G] w w') : Kp w w' := ⟨hT.size, fun k cs t hk _ _ => hT.block k (Array.getElem?_eq_some_iff.1 hk).1 fun hm => by
  rw [List.mem_singleton.1 hm] at hk; exact h.not_row hk⟩
theorem LW.map {W w w' : World} {R G m : Nat} {os : List Nat} {ds : List (List Nat)} {g : Int → Bool} (h : LW W R os ds w) (hm : MapB w G m g) (hT : Turn [G] w w') (hG : W.heap.size ≤ G) : LW W R os ds w' := by
  obtain ⟨h1, S, hp, hS⟩ := h
  refine ⟨h1.trans (hT.below h1.size (by intro x hx; rw [List.mem_singleton.1 hx]; exact hG)), S, hp.keep fun b hb => hT.block b (hp.lt b hb) fun hx => ?_, hS⟩
  rw [List.mem_singleton.1 hx] at hb
  obtain ⟨B, cs, rfl, g1, g2, _⟩ := hp
  rcases List.mem_cons.1 hb with rfl | hb
  · exact hm.not_row g1
  · obtain rfl := List.mem_singleton.1 hb
    exact hm.not_row g2
theorem own_of {os fs : List Nat} {o f : Nat} (h : Sg.Own os o fs) (hf : f ∈ fs) : Fr.own os (f : Int) = o := by
  have h1 := h.own f hf
  have h2 := h.lt hf
  unfold Fr.own
  rw [if_pos (by omega), Int.toNat_natCast, List.getD_eq_getElem?_getD, h1.2]; rfl
/-- The frames that were seen. -/
def SN (W : World) (R b : Nat) (os : List Nat) (ds : List (List Nat)) (v : Value) (fs : List Nat) (G j : Nat) (wx : World) : Prop :=
  LW W R os ds wx ∧ SV wx b 0 v fs ∧ ∃ (m : Nat) (g : Int → Bool), MapB wx G m g ∧ m ≤ j ∧ ∀ (i f : Nat), j ≤ i → fs[i]? = some f → g (f : Int) = false
set_option maxHeartbeats 2000000 in
set_option maxRecDepth 100000 in
theorem frames_all (x y : Int) (w : World) : Calls Try.prog 4 #[.int .i64 x, .int .i64 y] w fun e w' => e = .returned (.bool true) ∧ Below w.heap.size w w' := by
  have CF := Lib.hid (fit_any w)
  obtain ⟨n, e1, hn⟩ := and15 x
  obtain ⟨k, e2, hk⟩ := and15 y
  have HN := Lib.hid (And.intro hn hk)
  clear hn hk
  go_enter Try.func4, Try.ntmps4
  go_wp2_with fail
  refine CF.out.mono ?_
  rintro e w1 ⟨rfl, hb1⟩
  have CN := Lib.hid (new_lw (W := w) (w := w1) 40 (by omega) (by omega) hb1)
  clear CF hb1
  go_wp2_with fail
  refine CN.out.mono ?_
  rintro e w2 ⟨R, ds, rfl, hL, hb⟩
  have hs0 := (SV.new w2).below (below_alloc1 (w2.alloc (Obj.cells #[.slice none 0 0] 37)) (Obj.cells #[.slice none 0 0] 37))
  have ht0 := SV.new (w2.alloc (Obj.cells #[.slice none 0 0] 37))
  rw [World.size_alloc] at ht0
  have hL2 := (hL.below (below_alloc1 w2 (Obj.cells #[.slice none 0 0] 37))).below (below_alloc1 (w2.alloc (Obj.cells #[.slice none 0 0] 37)) (Obj.cells #[.slice none 0 0] 37))
  have CR := Lib.hid (resize_st (n := 3) hL2 ht0 (own_none 40 9 (by omega)) (Nat.le_trans hL.1.size (Nat.le_succ _)) (by omega) (by omega) (by simp))
  have HS0 := Lib.hid (And.intro hs0 hL.1.size)
  clear CN hL hb hs0 ht0 hL2
  go_wp2_with fail
  refine CR.out.mono ?_
  rintro e w3 ⟨rfl, v1, os1, ds1, fs1, hL, _, ho1, hl1, _, _, hoth, _, hother⟩
  have hs := hother _ _ _ _ HS0.out.1 (Or.inl (by omega))
  obtain ⟨ho, _⟩ := (own_none 40 5 (by omega)).oth (by omega) hoth
  have hf1 : os1.count 0 = 37 := by
    have h1 := hoth.sum
    have h2 := ho1.cnt
    rw [List.count_replicate, if_pos (by simp), List.count_replicate, if_neg (by simp)] at h1
    omega
  have CR2 := Lib.hid (resize_st (n := n) hL hs ho HS0.out.2 (by omega) (by have := HN.out.1; omega) (by have := HN.out.1; rw [hf1]; omega))
  have HQ := Lib.hid (And.intro HS0.out.2 (And.intro hf1 ho.cnt))
  obtain ⟨q0, eq0⟩ : ∃ q0, w2.heap.size = q0 := ⟨_, rfl⟩
  rw [eq0] at CR2 HQ ⊢
  clear CR hL ho1 hl1 hoth hother hs ho hf1 HS0 eq0
  go_wp2_with fail
  refine CR2.out.mono ?_
  rintro e w4 ⟨rfl, v2, os2, ds2, fs2, hL, hs, ho, hl, _, _, hoth, _, _⟩
  have hmm := @run_makeMap Try.prog
  have hf2 : os2.count 0 + n = 37 := by
    have h1 := hoth.sum
    have h2 := ho.cnt
    have h3 := HQ.out.2
    simp only [List.length_nil] at h3
    omega
  have H4 := Lib.hid (And.intro ho (And.intro hl hf2))
  have hM := MapB.new w4
  have HM : Hid (SN w R q0 os2 ds2 v2 fs2 w4.heap.size 0 (w4.alloc (.map #[] 0))) := Lib.hid ⟨hL.below (below_alloc1 _ _), hs.below (below_alloc1 _ _), 0, _, hM, Nat.le_refl _, fun _ _ _ _ => rfl⟩
  have HG := Lib.hid hL.1.size
  clear CR2 hL hs ho hl hoth hf2 hM
  go_wp2_with fail
  obtain ⟨G, eG⟩ : ∃ G, w4.heap.size = G := ⟨_, rfl⟩
  rw [eG] at HM HG ⊢
  clear eG hmm e1 e2
  go_loopg [9, 10, 33] n (fun gh x9 x10 i wx => ∃ j : Nat, j ≤ n ∧ gh = n - j ∧ i = .int .i64 j ∧ Hid (SN w R q0 os2 ds2 v2 fs2 G j wx))
  case atStart => exact ⟨0, Nat.zero_le _, rfl, rfl, HM⟩
  case round =>
    clear HM
    obtain ⟨j, hj, hg, rfl, hI⟩ := hrel
    by_cases hlt : j < n
    · obtain ⟨hL, hs, m, g, hM, hmj, hgf⟩ := hI.out
      obtain ⟨ho, hl, _⟩ := H4.out
      obtain ⟨f, hf⟩ : ∃ f, fs2[j]? = some f := ⟨_, List.getElem?_eq_getElem (by omega)⟩
      have hnn := HN.out.1
      have hfm := List.mem_of_getElem? hf
      have hfl : f ≤ 5000 := by
        have h1 := ho.lt hfm
        obtain ⟨_, S, hp, _⟩ := hL
        have := hp.len.2.2.1
        omega
      have l1 : (j : Int) < (n : Int) := by omega
      have i1 : RowKit.wrap64 ((j : Int) + 1) = (j : Int) + 1 := by unfold RowKit.wrap64; omega
      have C1 := Lib.hid (frame_in hs hf)
      have hlk := hM.at_ (j := (f : Int)) (by omega) (by omega)
      rw [hgf j f (Nat.le_refl _) hf] at hlk
      obtain ⟨S, hp, -⟩ := hL.2
      have C2 := owner_any (f : Int) wr hp (by omega) (by omega)
      rw [own_of ho hfm] at C2
      have C2 := Lib.hid C2
      obtain ⟨w5, hst, hM5, hT5⟩ := hM.store (j := (f : Int)) (by unfold maxLen; omega) (by omega) (by omega) true
      have HI : Hid (SN w R q0 os2 ds2 v2 fs2 G (j + 1) w5) := Lib.hid ⟨LW.map hI.out.1 hM hT5 HG.out, hs.kp (map_kp hM hT5), m + 1, _, hM5, by omega, fun i f' hi hf' => by
        rw [updF_other]
        · exact hgf i f' (by omega) hf'
        · intro e
          have e' : f' = f := by omega
          rw [e', ← hf] at hf'
          have h1 := (List.getElem?_eq_some_iff.1 hf).1
          exact absurd ((List.getElem?_inj (List.getElem?_eq_some_iff.1 (hf' ▸ hf)).1 ho.nd).1 hf') (by omega)⟩
      clear hL hs hM hmj hgf ho hl hf hnn hfm hfl hp hM5 hT5 hI
      go_wp2_with fail
      refine C1.out.mono ?_
      rintro e w6 ⟨rfl, rfl⟩
      go_wp2_with fail
      refine C2.out.mono ?_
      rintro e w6 ⟨rfl, rfl⟩
      clear C1 C2
      go_wp2_with fail
      go_roundg (n - (j + 1))
      case rel => exact ⟨j + 1, hlt, rfl, rfl, HI⟩
      case measure => omega
    · obtain rfl : j = n := by omega
      obtain ⟨hL, hs, _⟩ := hI.out
      obtain ⟨ho, hl, hf2⟩ := H4.out
      obtain ⟨hjn, hkn⟩ := HN.out
      obtain ⟨f0, C0, hf0⟩ : ∃ f0 : Int, (Calls Try.prog 17 #[.pointer (some ⟨q0, 0, none⟩), .int .i64 0] wr fun e w' => e = .returned (.int .i64 f0) ∧ wr = w') ∧ (0 < j → ∃ f : Nat, f0 = f ∧ fs2[0]? = some f) := by
        by_cases h0 : j = 0
        · exact ⟨0, frame_out hs (.inr (by rw [hl, h0]; exact Int.le_refl _)), fun h => by omega⟩
        · obtain ⟨f, hf⟩ : ∃ f, fs2[0]? = some f := ⟨_, List.getElem?_eq_getElem (by omega)⟩
          exact ⟨f, frame_in (k := 0) hs hf, fun _ => ⟨f, rfl, hf⟩⟩
      have C0 := Lib.hid C0
      have HF0 := Lib.hid hf0
      have CR3 := Lib.hid (resize_st (n := k) hL hs ho HQ.out.1 (by omega) (by omega) (by omega))
      have hmin := @min2 Try.prog
      obtain ⟨mn, emn⟩ : ∃ mn, min j k = mn := ⟨_, rfl⟩
      have hmn : min (j : Int) (k : Int) = (mn : Int) := by omega
      have HMN := Lib.hid emn
      clear hI hL hs ho hl hf2 hjn hkn hf0 hj hg hlt emn
      go_wp2_with fail
      refine C0.out.mono ?_
      rintro e w5 ⟨rfl, rfl⟩
      clear C0
      go_wp2_with fail
      refine CR3.out.mono ?_
      rintro e w5 ⟨rfl, v3, os3, ds3, fs3, hL, hs, ho, hl, hg3, _, hoth, _, _⟩
      obtain ⟨ho2, hl2, hf2⟩ := H4.out
      obtain ⟨hjn, hkn⟩ := HN.out
      have hf3 : os3.count 0 = 37 - k := by
        have h1 := hoth.sum
        have h2 := ho2.cnt
        have h3 := ho.cnt
        omega
      have CC := count_lw (x := 5) hL (by omega)
      rw [ho.cnt, hl] at CC
      have CC := Lib.hid CC
      have CL := left_lw hL
      obtain ⟨z, ez⟩ : ∃ z, 37 - k = z := ⟨_, rfl⟩
      rw [hf3, ez] at CL
      have CL := Lib.hid CL
      have e65 : RowKit.wrap64 (37 - (k : Int)) = (z : Int) := by unfold RowKit.wrap64; omega
      have CA := Lib.hid (fun h0 : 0 < mn => show Calls Try.prog 17 #[.pointer (some ⟨q0, 0, none⟩), .int .i64 0] w5 (fun e w' => e = .returned (.int .i64 f0) ∧ w5 = w') from by
        have h1 := HMN.out
        obtain ⟨f, rfl, hf⟩ := HF0.out (by omega)
        exact frame_in (k := 0) hs ((hg3 0 (by omega) (by omega)).trans hf))
      obtain ⟨S, hp, -⟩ := hL.2
      have CX := Lib.hid (read_nil (P := .pointer (some ⟨R, 0, none⟩)) 0 1 w5)
      have C1 := Lib.hid (frame_out (i := -1) hs (.inl (by omega)))
      have C2 := Lib.hid (frame_out (i := (k : Int)) hs (.inr (by rw [hl]; exact Int.le_refl _)))
      have C3 := Lib.hid (pages_nil w5)
      have C4 := Lib.hid (size_nil w5)
      have C5 := Lib.hid (resize_nil (P := .pointer (some ⟨R, 0, none⟩)) 1 0 w5)
      have C6 := Lib.hid (resize_no (x := 0) (n := (k : Int)) hs hp (by omega) (fun h => h.2.2.1 rfl))
      have C7 := Lib.hid (resize_no (x := 5) (n := 17) hs hp (by omega) (fun h => absurd h.2.1 (by omega)))
      have HB := Lib.hid hL.1
      clear CR3 hL hs ho hl hg3 hoth ho2 hl2 hf2 hjn hkn hf3 hp ez HF0
      go_wp2_with fail
      refine CC.out.mono ?_
      rintro e w6 ⟨rfl, rfl⟩
      go_wp2_with fail
      refine CL.out.mono ?_
      rintro e w6 ⟨rfl, rfl⟩
      by_cases h0 : 0 < mn
      · have h0' : (0 : Int) < (mn : Int) := by omega
        have CA := Lib.hid (CA.out h0)
        clear HMN
        go_wp2_with fail
        refine CA.out.mono ?_
        rintro e w6 ⟨rfl, rfl⟩
        go_wp2_with fail
        refine CX.out.mono ?_
        rintro e w6 ⟨rfl, rfl⟩
        go_wp2_with fail
        refine C1.out.mono ?_
        rintro e w6 ⟨rfl, rfl⟩
        go_wp2_with fail
        refine C2.out.mono ?_
        rintro e w6 ⟨rfl, rfl⟩
        go_wp2_with fail
        refine C3.out.mono ?_
        rintro e w6 ⟨rfl, rfl⟩
        go_wp2_with fail
        refine C4.out.mono ?_
        rintro e w6 ⟨rfl, rfl⟩
        go_wp2_with fail
        refine C5.out.mono ?_
        rintro e w6 ⟨rfl, rfl⟩
        go_wp2_with fail
        refine C6.out.mono ?_
        rintro e w6 ⟨rfl, rfl⟩
        go_wp2_with fail
        refine C7.out.mono ?_
        rintro e w6 ⟨rfl, rfl⟩
        go_wp2_with fail
        go_ret
        exact ⟨rfl, HB.out⟩
      · obtain rfl : mn = 0 := by omega
        clear CA HMN
        go_wp2_with fail
        refine CX.out.mono ?_
        rintro e w6 ⟨rfl, rfl⟩
        go_wp2_with fail
        refine C1.out.mono ?_
        rintro e w6 ⟨rfl, rfl⟩
        go_wp2_with fail
        refine C2.out.mono ?_
        rintro e w6 ⟨rfl, rfl⟩
        go_wp2_with fail
        refine C3.out.mono ?_
        rintro e w6 ⟨rfl, rfl⟩
        go_wp2_with fail
        refine C4.out.mono ?_
        rintro e w6 ⟨rfl, rfl⟩
        go_wp2_with fail
        refine C5.out.mono ?_
        rintro e w6 ⟨rfl, rfl⟩
        go_wp2_with fail
        refine C6.out.mono ?_
        rintro e w6 ⟨rfl, rfl⟩
        go_wp2_with fail
        refine C7.out.mono ?_
        rintro e w6 ⟨rfl, rfl⟩
        go_wp2_with fail
        go_ret
        exact ⟨rfl, HB.out⟩
end Go.Proofs.Ytkpdgjmeeeddhaa
