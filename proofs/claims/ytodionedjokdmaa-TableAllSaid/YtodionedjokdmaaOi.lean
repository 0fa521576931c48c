/- take, walked. -/
import Derived.Test.YtodionedjokdmaaOh
set_option linter.unusedVariables false
set_option linter.unusedSimpArgs false
namespace Go.Proofs.Ytodionedjokdmaa
open Go.RowKit
set_option linter.unusedVariables false
set_option linter.unusedSimpArgs false
/-- What stands while take goes on. -/
structure TkS (W : World) (T : List Nat) (t m N : Nat) (B : Nat → Option Nat) (f : Nat) (G : Nat → Option Ob) (ns : List Nat) (n : Nat) (ks : List Nat) (w : World) (L : List Nat) (j : Nat) (s : (Nat → Option Ob) × List Nat) (v : Value) (wr : World) : Prop where
  e : s = (ks.take j).foldl (tkS (tk f) n) (updN G n none, [n])
  ts : ∃ ns', TS W T t (some m) ns' s.1 wr ∧ ns'.length + s.2.length ≤ ns.length
  rw' : RW (fun b => N ≤ b) 35 (encB B) wr v (L ++ s.2)
  sm : Same T w wr
  kc : KC w wr
  sb : Sub s.1 G
  sz : w.heap.size ≤ wr.heap.size
  one : 1 ≤ s.2.length
section
variable {W : World} {T : List Nat} {t m N : Nat} {B : Nat → Option Nat} {f : Nat} {G : Nat → Option Ob} {ns : List Nat} {n : Nat} {ks : List Nat} {w : World} {L : List Nat} {j : Nat} {s : (Nat → Option Ob) × List Nat} {v v' : Value} {wr w' : World} {k : Nat}
theorem TkS.skip (h : TkS W T t m N B f G ns n ks w L j s v wr) (hk : ks[j]? = some k) (hn : kdd s.1 n k = none) : TkS W T t m N B f G ns n ks w L (j + 1) s v wr := by
  refine ⟨?_, h.ts, h.rw', h.sm, h.kc, h.sb, h.sz, h.one⟩
  rw [List.take_add_one, hk, List.foldl_append, ← h.e]
  show s = tkS (tk f) n s k
  unfold tkS
  rw [hn]
theorem TkS.go (h : TkS W T t m N B f G ns n ks w L j s v wr) (hk : ks[j]? = some k) {o' : Ob} (hn : kdd s.1 n k = some o')
    (h1 : ∃ ns', TS W T t (some m) ns' (tk f s.1 k).1 w' ∧ ns'.length + (s.2 ++ (tk f s.1 k).2).length ≤ ns.length) (h2 : RW (fun b => N ≤ b) 35 (encB B) w' v' (L ++ s.2 ++ (tk f s.1 k).2)) (h3 : Same T wr w') (h4 : KC wr w') (h5 : Sub (tk f s.1 k).1 s.1) (h6 : wr.heap.size ≤ w'.heap.size) :
    TkS W T t m N B f G ns n ks w L (j + 1) ((tk f s.1 k).1, s.2 ++ (tk f s.1 k).2) v' w' := by
  refine ⟨?_, h1, by rw [← List.append_assoc]; exact h2, h.sm.trans h3, h.kc.trans h4, fun x o hx => h.sb x o (h5 x o hx), Nat.le_trans h.sz h6, by rw [List.length_append]; have := h.one; omega⟩
  rw [List.take_add_one, hk, List.foldl_append, ← h.e]
  show _ = tkS (tk f) n s k
  unfold tkS
  rw [hn]
end
set_option maxHeartbeats 4000000 in
set_option maxRecDepth 100000 in
theorem take_any {W : World} {T : List Nat} {t m N : Nat} {B : Nat → Option Nat} : ∀ f, TkC W T t m N B f
  | 0 => fun G ns n o w v L h hf hG => by
      have := (h.mem n).2 (by rw [hG]; rfl)
      have : 0 < ns.length := List.length_pos_of_mem this
      omega
  | f + 1 => fun G ns n o w v L h hf hG hB hv hL hWN hTN hN => by
      have CT := Lib.hid (take_any (W := W) (T := T) (t := t) (m := m) (N := N) (B := B) f)
      have hoG := h.ob n o hG
      have hn := hoG.2.1.1
      have hku := hoG.2.1.2.2
      have ct := h.cell
      obtain ⟨b, kd, hm, ks, th, on⟩ := o
      obtain ⟨w1, hrun, h1, hs1, kc1, ht1⟩ := h.drop hn 0
      have hb1 := hB n _ hG
      simp only at hb1 hku
      obtain ⟨Q, eQ⟩ : ∃ Q, w1.heap.size = Q := ⟨_, rfl⟩
      obtain ⟨w2, e2⟩ : ∃ w2, w1.alloc (Obj.cells #[.pointer (some ⟨b, 0, none⟩)] 35) = w2 := ⟨_, rfl⟩
      have hb2 := below_alloc1 w1 (Obj.cells #[.pointer (some ⟨b, 0, none⟩)] 35)
      have hq := heap_alloc_new w1 (Obj.cells #[.pointer (some ⟨b, 0, none⟩)] 35)
      rw [e2] at hb2 hq
      rw [eQ] at hq
      have h2 := h1.below hb2
      have hv2 : RW (fun b => N ≤ b) 35 (encB B) w2 v L := (hv.keep fun b cur hb hc => ⟨hb, ht1.block b (Array.getElem?_eq_some_iff.1 hc).1 fun hmm => by
        rw [List.mem_singleton.1 hmm] at hc
        exact h.mapG.2.not_row hc⟩ : RW (fun b => N ≤ b) 35 (encB B) w1 v L).below hb2
      have hns1 : 0 < ns.length := List.length_pos_of_mem ((h.mem n).2 (by rw [hG]; rfl))
      obtain ⟨v3, w3, hrun3, hv3, S3, ht3, hS3⟩ := append_p 75 hv2 (ys := [n]) (by simp; omega) (some ⟨Q, 0, none⟩) 1 1 rfl (by simp) (lr_oneP hq hb1.1)
      have hN2 : N ≤ w2.heap.size := by have := ht1.size; have := hb2.size; omega
      obtain ⟨h3, hs3, kc3⟩ := h2.rows ht3 fun b hb => ⟨⟨Nat.le_trans hWN (hS3 b hb).1, fun hm => by have := hTN b hm; have := (hS3 b hb).1; omega⟩, (hS3 b hb).2⟩
      have hflt : (ns.filter (· != n)).length + 1 ≤ ns.length := by
        have hmn : n ∈ ns := (h.mem n).2 (by rw [hG]; rfl)
        have : (ns.filter (· != n)).length < ns.length := List.length_filter_lt_length_iff_exists.2 ⟨n, hmn, by simp⟩
        omega
      have hsub : Sub (updN G n none) G := fun x o hx => by
        by_cases e : x = n
        · subst e; rw [updN_same] at hx; cases hx
        · rw [updN_other _ _ e] at hx; exact hx
      have kcA : KC w w3 := (kc1.trans (KC.below hb2)).trans kc3
      have HS : TkS W T t m N B f G ns n ks w L 0 (updN G n none, [n]) v3 w3 := ⟨rfl, ⟨_, h3, hflt⟩, hv3.mono fun b hb => by
        rcases hb with hb | hb
        · exact hb
        · exact Nat.le_trans hN2 hb, (hs1.trans (h1.same hb2)).trans hs3, kcA, hsub, by have := ht1.size; have := hb2.size; have := ht3.size; omega, by simp⟩
      obtain ⟨-, -, -, -, kv, d0, hkv⟩ := hoG.cells
      obtain ⟨csb, hcsb⟩ : ∃ cs, w.heap[b]? = some (Obj.cells cs 60) := by
        obtain ⟨_, _, ⟨cs, h1, _⟩, _⟩ := hoG; exact ⟨cs, h1⟩
      simp only at d0 hkv
      have d3 : w3.cell? ⟨b, 15, none⟩ = some kv := by rw [World.cell?, kcA b csb _ (by decide) hcsb]; exact d0
      have hkv2 : RW (fun _ => True) 28 inU w kv ks := hkv.mono fun _ _ => trivial
      obtain ⟨KA, kcp, rfl, _, _, _⟩ := hkv.form
      obtain ⟨A3, c3, rfl, _⟩ := hv3.form
      obtain ⟨A0, c0, rfl, _⟩ := hv.form
      obtain ⟨K, eK⟩ : ∃ K, ks.length = K := ⟨_, rfl⟩
      rw [eK] at d3 hkv2
      obtain ⟨l3, el3⟩ : ∃ l3, (L ++ [n]).length = l3 := ⟨_, rfl⟩
      rw [el3] at hrun3 HS
      have HS := Lib.hid HS
      have HK := Lib.hid (show KC w w ∧ RW (fun _ => True) 28 inU w (.slice KA K kcp) ks ∧ K ≤ 1000 ∧ (∀ k ∈ ks, U64 k) ∧ ks.length = K from ⟨KC.refl _, hkv2, by rw [← eK]; exact hb1.2, hku, eK⟩)
      have HRUN := Lib.hid hrun3
      have HA := Lib.hid (And.intro hf (And.intro hB (And.intro hL (And.intro hWN (And.intro hTN (And.intro hN hG))))))
      have HKC := Lib.hid kcA
      have hK := HK.out.2.2.1
      clear h hf hG hB hv hL hWN hTN hN hoG hn hku h1 hs1 kc1 ht1 hb1 hb2 hq h2 hv2 hv3 ht3 hS3 h3 hs3 kc3 hflt hsub kcA hkv hkv2 d0 hcsb hns1 hN2 el3 eK hrun3
      go_enter Try.func36, Try.ntmps36
      go_upto_region 2 with fail
      go_wp2_with (at_builtin; refine wpList_append_by rfl (.tmp 17) (.tmp 19) _ _ rfl _ _ _ rfl rfl w3 HRUN.out ?_)
      clear e2 eQ HRUN hrun ct
      go_wp2_with fail
      clear d3
      go_loopg [1, 26] K (fun gh v1 v26 wr => ∃ (j : Nat) (s : (Nat → Option Ob) × List Nat), j ≤ K ∧ K - j ≤ gh ∧ v26 = .int .i64 j ∧ Hid (TkS W T t m N B f G ns n ks w L j s v1 wr))
      case atStart => exact ⟨0, _, Nat.zero_le _, by omega, rfl, HS⟩
      case round =>
        clear HS
        obtain ⟨j, s, hjl, hg, rfl, hI⟩ := hrel
        have hKK := HK.out.2.2.1
        by_cases hlt : j < K
        · obtain ⟨k, hk⟩ : ∃ k, ks[j]? = some k := ⟨_, List.getElem?_eq_getElem (by rw [HK.out.2.2.2.2]; exact hlt)⟩
          have hku := HK.out.2.2.2.1 k (List.mem_of_getElem? hk)
          obtain ⟨KA', kcp', ekv, _, _, hlr⟩ := (HK.out.2.1.keep (own' := fun _ => True) fun b cur _ hc => ⟨trivial, hI.out.kc b cur _ (by decide) hc⟩ : RW (fun _ => True) 28 inU wr (.slice KA K kcp) ks).form
          injection ekv with ekv1 ekv2 ekv3
          rw [← ekv1] at hlr
          obtain ⟨kb, ko, rfl, _, c0⟩ := hlr j k hk
          unfold inU at c0
          obtain ⟨ns', hT, hnl⟩ := hI.out.ts
          have C := Lib.hid (kid_any (hm := n) hT hku)
          have l1 : (j : Int) < K := by omega
          have i1 : IntKind.i64.wrap ((j : Int) + 1) = ((j + 1 : Nat) : Int) := by rw [IntKind.wrap_i64]; omega
          have HG := Lib.hid (show j + 1 ≤ K ∧ j < K by omega)
          cases hkd : kdd s.1 n k with
          | none =>
            rw [hkd, show pb none = .pointer none from rfl] at C
            have HS := Lib.hid (hI.out.skip hk hkd)
            clear hk hku hlr hT hnl hkd ekv1 ekv2 ekv3 hlt hjl hKK hI
            go_wp2_with fail
            refine C.out.mono ?_; rintro e w4 ⟨rfl, rfl⟩
            clear c0
            go_wp2_with fail
            go_roundg (K - (j + 1))
            case rel => exact ⟨j + 1, s, HG.out.1, Nat.le_refl _, by first | rfl | simp, HS⟩
            case measure => have := HG.out; omega
          | some o' =>
            rw [hkd, show pb (some o') = .pointer (some ⟨o'.b, 0, none⟩) from rfl] at C
            have hgk : s.1 k = some o' := (Option.filter_eq_some_iff.1 hkd).1
            have hA := HA.out
            have hone := hI.out.one
            have D := Lib.hid (CT.out s.1 ns' k o' wr _ (L ++ s.2) hT (by omega) hgk (fun x o hx => hA.2.1 x o (hI.out.sb x o hx)) hI.out.rw' (by rw [List.length_append]; omega) hA.2.2.2.1 hA.2.2.2.2.1 (Nat.le_trans hA.2.2.2.2.2.1 hI.out.sz))
            have HN := Lib.hid hnl
            have HKD := Lib.hid (And.intro hk hkd)
            obtain ⟨A4, c4, rfl, _⟩ := hI.out.rw'.form
            obtain ⟨l4, el4⟩ : ∃ l4, (L ++ s.2).length = l4 := ⟨_, rfl⟩
            have HI := Lib.hid hI.out
            rw [el4] at D HI ⊢
            clear hk hku hlr hT hnl hkd ekv1 ekv2 ekv3 hlt hjl hKK hA hone hgk el4 hI
            go_wp2_with fail
            refine C.out.mono ?_; rintro e w4 ⟨rfl, rfl⟩
            clear c0
            go_wp2_with fail
            refine D.out.mono ?_; rintro e w5 ⟨v5, rfl, ⟨ns5, q1, q1'⟩, q2, q3, q4, q5, q6⟩
            obtain ⟨A5, c5, rfl, _⟩ := q2.form
            have HS := Lib.hid (HI.out.go HKD.out.1 HKD.out.2 ⟨ns5, q1, by rw [List.length_append]; have := HN.out; omega⟩ q2 q3 q4 q5 q6)
            obtain ⟨l5, el5⟩ : ∃ l5, (L ++ s.2 ++ (tk f s.1 k).2).length = l5 := ⟨_, rfl⟩
            rw [el5] at HS ⊢
            clear q1 q1' q2 q3 q4 q5 q6 D C HI el5
            go_wp2_with fail
            go_roundg (K - (j + 1))
            case rel => exact ⟨j + 1, _, HG.out.1, Nat.le_refl _, by first | rfl | simp, HS⟩
            case measure => have := HG.out; omega
        · obtain rfl : j = K := by omega
          have HS := Lib.hid hI.out
          obtain ⟨A4, c4, rfl, _⟩ := hI.out.rw'.form
          clear hlt hjl hKK hI
          go_wp2_with fail
          go_ret
          have h := HS.out
          have hs : s = tk (f + 1) G n := by
            rw [tk_succ f G n HA.out.2.2.2.2.2.2, h.e, List.take_of_length_le (by rw [HK.out.2.2.2.2]; exact Nat.le_refl _)]
          rw [← hs]
          exact ⟨_, rfl, h.ts, h.rw', h.sm, h.kc, h.sb, h.sz⟩
end Go.Proofs.Ytodionedjokdmaa
