/- Bytes of a segment are written. -/
import Derived.Test.YtkpdgjmeeeddhaaBd
set_option linter.unusedVariables false
set_option linter.unusedSimpArgs false
namespace Sg
def tot (ps : List Pt) : Nat := (ps.map Pt.l).sum
theorem tot_prts (fs : List Nat) : ∀ (n off : Nat), tot (prts fs off n) = n := by
  intro n
  induction n using Nat.strongRecOn with
  | ind n ih =>
    intro off
    by_cases h : n = 0
    · subst h; rw [prts_zero]; rfl
    · rw [prts_more (by omega)]
      have := ih (n - min n (64 - off % 64)) (by omega) (off + min n (64 - off % 64))
      unfold tot at *
      rw [List.map_cons, List.sum_cons, this]
      simp only
      omega
theorem wr_cons (ds : List (List Nat)) (p : Pt) (r : List Pt) (b : List Nat) : wr ds (p :: r) b = wr (wr1 ds p (b.take p.l)) r (b.drop p.l) := rfl
theorem tot_cons (p : Pt) (r : List Pt) : tot (p :: r) = p.l + tot r := by unfold tot; rw [List.map_cons, List.sum_cons]
end Sg
namespace Go.Proofs.Ytkpdgjmeeeddhaa
open Go.RowKit
set_option linter.unusedVariables false
set_option linter.unusedSimpArgs false
variable {w w' w1 w2 : World} {b o R c : Nat} {v P : Value} {fs S S1 os os' bs : List Nat} {ds ds' : List (List Nat)} {A : Option Addr}
theorem plt_step (hT : Turn S w w1) (hS : ∀ b ∈ S1, b ∈ S ∨ w.heap.size ≤ b) (k : PlT w1 R S1 os' ds' w2) : PlT w R S os' ds' w2 := by
  obtain ⟨S2, p, t, s⟩ := k
  exact ⟨S2, p, hT.trans t (fun x hx => hS x hx), fun b hb => (s b hb).elim (hS b) (fun h => .inr (Nat.le_trans hT.size h))⟩
theorem PlT.refl (h : Pl w R S os ds) : PlT w R S os ds w := ⟨S, h, Turn.refl _ _, fun b hb => .inl hb⟩
theorem PlT.below (h : PlT w R S os ds w1) (hb : Below w1.heap.size w1 w2) : PlT w R S os ds w2 := by
  obtain ⟨S2, p, t, s⟩ := h
  exact ⟨S2, p.below hb, t.trans (Turn.of_below hb (S := [])) (by simp), s⟩
theorem PlT.kp (hp : Pl w R S os' ds') (h : PlT w R S os ds w1) : Kp w w1 := by
  obtain ⟨S2, p, t, s⟩ := h
  exact Kp.turn hp t
/-- A part is written. -/
theorem pw_any {p : Sg.Pt} (h : Pl w R S os ds) (hl : Live os fs) (hp : Sg.Fine os fs p) (hn : bs.length = p.l) (hc : p.l ≤ c) (hr : BR w A bs) (hs : ∀ a, A = some a → a.block ∉ S) (hb : ∀ x ∈ bs, x < 256) :
    Calls Try.prog 34 #[.pointer (some ⟨R, 0, none⟩), .int .i64 (p.f : Int), .int .i64 (p.a : Int), .slice A p.l c] w fun e w' => e = .returned (.bool true) ∧ PlT w R S os (Sg.wr1 ds p bs) w' := by
  have m := may_pt hl hp
  have h5 := h.len.2.2.1
  have h6 := hp.2.2
  have e1 : Fr.put os ds (p.f : Int) (p.a : Int) bs = Sg.wr1 ds p bs := by
    unfold Fr.put Sg.wr1
    rw [hn, m, if_pos rfl, Int.toNat_natCast, Int.toNat_natCast]
  refine (pwrite_any (p.f : Int) p.a A p.l c bs w h (by omega) (by omega) (by omega) (by omega) hn (by omega) hc hr (fun x hx a ha _ e => hs a ha (e ▸ hx)) hb).mono fun e w' ⟨he, hw⟩ => ⟨?_, ?_⟩
  · rw [he, m]
  · rw [← e1]; exact hw
theorem write_nil (off : Int) (n : Nat) (w : World) : Calls Try.prog 21 #[.pointer none, P, .int .i64 off, .slice A n c] w fun e w' => e = .returned (.bool false) ∧ w = w' := by
  have C := Lib.hid (parts_nil (P := P) off n w)
  go_enter Try.func21, Try.ntmps21
  go_wp2_with fail
  refine C.out.mono ?_
  rintro e w1 ⟨rfl, rfl⟩
  go_wp2_with fail
  go_ret
  exact ⟨rfl, rfl⟩
theorem write_out {off : Int} {n : Nat} (h : SV w b o v fs) (hm : n ≤ 9223372036854775807) (hn : ¬ (0 ≤ off ∧ off + n ≤ (64 * fs.length : Nat))) :
    Calls Try.prog 21 #[.pointer (some ⟨b, o, none⟩), P, .int .i64 off, .slice A n c] w fun e w' => e = .returned (.bool false) ∧ w = w' := by
  have C := Lib.hid (parts_no (P := P) (n := (n : Int)) h (by omega) (by omega) (fun hh => hn ⟨hh.1, hh.2.2⟩))
  clear hn
  go_enter Try.func21, Try.ntmps21
  go_wp2_with fail
  refine C.out.mono ?_
  rintro e w1 ⟨rfl, rfl⟩
  go_wp2_with fail
  go_ret
  exact ⟨rfl, rfl⟩
/-- What stands in a round of Write. -/
def WI (w w1 : World) (R : Nat) (S os : List Nat) (T : List (List Nat)) (rest : List Sg.Pt) (x : Value) (wr : World) : Prop :=
  ∃ (A : Option Addr) (c : Nat) (bs : List Nat) (ds : List (List Nat)), x = .slice A bs.length c ∧ bs.length ≤ c ∧ BR wr A bs ∧ (∀ a, A = some a → 0 < bs.length → a.block < w.heap.size ∧ a.block ∉ S) ∧ (∀ x ∈ bs, x < 256) ∧ bs.length = Sg.tot rest ∧
    Sg.wr ds rest bs = T ∧ PlT w R S os ds wr ∧ Kp w1 wr
theorem br_cut {n : Nat} (h : BR w A bs) (hc : bs.length ≤ c) (k : Nat) : BR w (if c = k then A else A.map (·.add k)) (bs.drop k) := LR.drop (enc := encB) h hc
theorem br_turn {g i : Nat} (h : BR w (some ⟨g, i, none⟩) bs) (hT : Turn S w w') (hg : g ∉ S) : BR w' (some ⟨g, i, none⟩) bs := fun k x hk => by
  obtain ⟨b, off, e, h1, h2⟩ := h k x hk
  injection e with e
  injection e with e1 e2
  subst e1 e2
  exact ⟨_, _, rfl, Nat.lt_of_lt_of_le h1 hT.size, by rw [World.cell?_of_block (w := w) (hT.block g h1 hg)]; exact h2⟩
theorem br_take (h : BR w A bs) (k : Nat) : BR w A (bs.take k) := LR.take (enc := encB) h k
set_option maxHeartbeats 1000000 in
theorem write_in {off n : Nat} (h : SV w b o v fs) (hp : Pl w R S os ds) (hf : Live os fs) (hn : off + n ≤ 64 * fs.length) (hbl : bs.length = n) (hc : n ≤ c) (hr : BR w A bs) (hs : ∀ a, A = some a → 0 < n → a.block ∉ S) (hx : ∀ x ∈ bs, x < 256) :
    Calls Try.prog 21 #[.pointer (some ⟨b, o, none⟩), .pointer (some ⟨R, 0, none⟩), .int .i64 (off : Int), .slice A n c] w fun e w' => e = .returned (.bool true) ∧ PlT w R S os (Sg.wr ds (Sg.prts fs off n) bs) w' := by
  have C := Lib.hid (parts_yes h hp hf hn)
  have hl := h.l
  have HFI := Lib.hid (Sg.prts_fine hf.lt n off hn)
  have HF := Lib.hid hf
  have htot := Sg.tot_prts fs n off
  have hpl := Sg.prts_len2 fs n off
  obtain ⟨ps, eps⟩ : ∃ ps, Sg.prts fs off n = ps := ⟨_, rfl⟩
  rw [eps] at C HFI hpl htot ⊢
  have HPL2 := Lib.hid (show ps.length ≤ 1000 from by have : off % 64 < 64 := Nat.mod_lt _ (by omega); omega)
  obtain ⟨T, eT⟩ : ∃ T, Sg.wr ds ps bs = T := ⟨_, rfl⟩
  rw [eT]
  have HI := Lib.hid (And.intro hp (And.intro hbl (And.intro hc (And.intro hr (And.intro hs (And.intro hx (And.intro htot eT)))))))
  clear h hp hf hn hl hbl hc hr hs hx hpl eps htot eT
  go_enter Try.func21, Try.ntmps21
  go_wp2_with fail
  refine C.out.mono ?_
  rintro e w1 ⟨v1, rfl, hr, hb⟩
  obtain ⟨A1, c1, rfl, hc1, hc2, -⟩ := RV.form hr
  obtain ⟨m, em⟩ : ∃ m, ps.length = m := ⟨_, rfl⟩
  rw [em] at hr hc1 ⊢
  have H1 : Hid (PR (fun k => w.heap.size ≤ k) w1 (.slice A1 m c1) ps ∧ Below w.heap.size w w1 ∧ ps.length = m ∧ WI w w1 R S os T ps (.slice A n c) w1) := Lib.hid (by
    obtain ⟨hp, hbl, hc, hr', hs, hx, htot, eT⟩ := HI.out
    refine ⟨hr, hb, em, A, c, bs, ds, by rw [hbl], by rw [hbl]; exact hc, hr'.below hb, fun a ha h0 => ⟨?_, hs a ha (by omega)⟩, hx, by rw [hbl, htot], eT, (PlT.refl hp).below hb, Kp.refl _⟩
    obtain ⟨b', off', e, h1, _⟩ := hr' 0 _ (List.getElem?_eq_getElem h0)
    rw [ha] at e; injection e with e; rw [e]; exact h1)
  clear C hr hb em hc1 hc2 HI
  go_wp2_with fail
  go_loopg [3, 26] m (fun g x3 i wr => ∃ j : Nat, j ≤ m ∧ g = m - j ∧ i = .int .i64 j ∧ Hid (WI w w1 R S os T (ps.drop j) x3 wr))
  case atStart => exact ⟨0, Nat.zero_le _, rfl, rfl, Lib.hid H1.out.2.2.2⟩
  case round =>
    obtain ⟨j, hj, hg, rfl, hI⟩ := hrel
    by_cases hlt : j < m
    · have l1 : (j : Int) < (m : Int) := Int.ofNat_lt.2 hlt
      have i1 : RowKit.wrap64 ((j : Int) + 1) = (j : Int) + 1 := by have := HPL2.out; have := H1.out.2.2.1; unfold RowKit.wrap64; omega
      obtain ⟨hr, hbw1, em, _⟩ := H1.out
      obtain ⟨p, hp⟩ : ∃ p, ps[j]? = some p := ⟨_, List.getElem?_eq_getElem (by omega)⟩
      have hdr : ps.drop j = p :: ps.drop (j + 1) := by
        rw [List.drop_eq_getElem_cons (by omega)]
        congr 1
        rw [List.getElem?_eq_getElem (by omega)] at hp; injection hp
      obtain ⟨A2, c2, b2, ds2, rfl, hc3, hbr, hsep, hx3, hlen, hwr, hplt, hkp⟩ := hI.out
      rw [hdr, Sg.tot_cons] at hlen
      rw [hdr, Sg.wr_cons] at hwr
      have hfi := HFI.out p (List.mem_of_getElem? hp)
      have hp1 : 1 ≤ p.l := hfi.2.2.2.1
      have hpb : p.l ≤ b2.length := by omega
      obtain ⟨g2, o2, eA, hg2, -⟩ := hbr 0 _ (List.getElem?_eq_getElem (show 0 < b2.length by omega))
      subst eA
      obtain ⟨hsep1, hsep2⟩ : g2 < w.heap.size ∧ g2 ∉ S := hsep _ rfl (by omega)
      obtain ⟨g0, o0, c0', e0, -, -, -, cur, hcur, q0', q1', q2'⟩ := hr.at_ hp
      injection e0 with e1 e2 e3
      subst e1
      have hcur' := (hkp.block g0 cur _ hcur (by decide) (by decide)).trans hcur
      have hcell : ∀ (i : Nat) (u : Value), cur[i]? = some u → wr.cell? ⟨g0, i, none⟩ = some u := fun i u hu => by
        rw [cell_of_row _ _ _ _ _ (0, 0) hcur']; exact hu
      have x0 := hcell _ _ q0'
      have x1 := hcell _ _ q1'
      have x2 := hcell _ _ q2'
      have ba := below_alloc1 wr (Obj.cells #[.int .i64 (p.f : Int), .int .i64 (p.a : Int), .int .i64 (p.l : Int)] 63)
      have hnew := heap_alloc_new wr (Obj.cells #[.int .i64 (p.f : Int), .int .i64 (p.a : Int), .int .i64 (p.l : Int)] 63)
      obtain ⟨WA, eWA⟩ : ∃ WA, wr.alloc (Obj.cells #[.int .i64 (p.f : Int), .int .i64 (p.a : Int), .int .i64 (p.l : Int)] 63) = WA := ⟨_, rfl⟩
      rw [eWA] at ba hnew
      have hplt2 : PlT w R S os ds2 WA.drew := PlT.below (hplt.below ba) ((Below.refl _ _).drew)
      have hbr2 : BR WA.drew (some ⟨g2, o2, none⟩) b2 := BR.below (hbr.below ba) ((Below.refl _ _).drew)
      have hkp2 : Kp w1 WA.drew := (hkp.trans (Kp.below ba)).trans (Kp.below ((Below.refl _ _).drew))
      have hnew2 : WA.drew.heap[wr.heap.size]? = some (Obj.cells #[.int .i64 (p.f : Int), .int .i64 (p.a : Int), .int .i64 (p.l : Int)] 63) := hnew
      obtain ⟨S3, hpl3, hT3, hS3⟩ := hplt2
      have hg2S : g2 ∉ S3 := fun hm => (hS3 g2 hm).elim hsep2 (fun h => by omega)
      have CW := Lib.hid (pw_any (c := p.l) hpl3 HF.out hfi (by rw [List.length_take]; omega) (Nat.le_refl _) (br_take hbr2 p.l) (fun a ha => by injection ha with ha; rw [← ha]; exact hg2S) (fun x hx => hx3 x (List.mem_of_mem_take hx)))
      obtain ⟨n2, en2⟩ : ∃ n2, b2.length = n2 := ⟨_, rfl⟩
      obtain ⟨⟨pf, pa, pl⟩, ep⟩ : ∃ q, p = q := ⟨_, rfl⟩
      subst ep
      simp only [] at x0 x1 x2 CW hnew2 hwr hlen hpb hp1 eWA
      rw [en2] at hpb hc3 ⊢
      have hc3' := hc3
      have hlc : pl ≤ c2 := Nat.le_trans hpb hc3
      have k1 : (pl : Int) ≤ (n2 : Int) := Int.ofNat_le.2 hpb
      have k2 : (pl : Int) ≤ (c2 : Int) := Int.ofNat_le.2 hlc
      have HH := Lib.hid (And.intro hx3 (And.intro hlen (And.intro hwr (And.intro en2 (And.intro hpl3 (And.intro hT3 (And.intro hS3 (And.intro hbr2 (And.intro hkp2 (And.intro hnew2 (And.intro hsep1 (And.intro hsep2 hg2S))))))))))))
      have hjm : j + 1 ≤ m := hlt
      clear hI hr hbw1 em hp hdr hc3 hbr hsep hx3 hlen hwr hplt hkp hfi hp1 hg2 hsep1 hsep2 hcur q0' q1' q2' hcur' hcell ba hnew hbr2 hkp2 hnew2 hpl3 hT3 hS3 hg2S e2 e3 hlt en2
      have HWA := Lib.hid eWA
      clear eWA
      go_upto_region 7 with fail
      obtain ⟨WD, eWD⟩ : ∃ WD, WA.drew = WD := ⟨_, rfl⟩
      rw [eWD] at HH CW
      obtain ⟨z0, ez0⟩ : ∃ z0, wr.heap.size = z0 := ⟨_, rfl⟩
      rw [ez0] at HH ⊢
      have hnw := HH.out.2.2.2.2.2.2.2.2.2.1
      have y0 : WD.cell? ⟨z0, 0, none⟩ = some (.int .i64 (pf : Int)) := by rw [cell_of_row _ _ 0 _ _ (0, 0) hnw]; rfl
      have y1 : WD.cell? ⟨z0, 1, none⟩ = some (.int .i64 (pa : Int)) := by rw [cell_of_row _ _ 1 _ _ (0, 0) hnw]; rfl
      have y2 : WD.cell? ⟨z0, 2, none⟩ = some (.int .i64 (pl : Int)) := by rw [cell_of_row _ _ 2 _ _ (0, 0) hnw]; rfl
      rw [HWA.out]
      clear hnw HWA ez0 x0 x1 x2
      refine wp_region_still_tail 11 (by kernel_rfl) (by kernel_rfl) ?_
      rw [show ({ WA with drawn := WA.drawn + 1 } : World) = WD from eWD]
      simp only [List.take_succ_cons, List.take_zero, List.drop_succ_cons, List.drop_zero]
      clear eWD
      repeat still_step
      refine wpStill_nil ?_
      go_wp2_with fail
      refine CW.out.mono ?_
      rintro e w3 ⟨rfl, hw3⟩
      obtain ⟨hx3, hlen, hwr, en2, hpl3, hT3, hS3, hbr2, hkp2, hnew2, hsep1, hsep2, hg2S⟩ := HH.out
      have hkp3 := PlT.kp hpl3 hw3
      have hn3 := (hkp3.block z0 _ _ hnew2 (by decide) (by decide)).trans hnew2
      have y2 : w3.cell? ⟨z0, 2, none⟩ = some (.int .i64 (pl : Int)) := by rw [cell_of_row _ _ 2 _ _ (0, 0) hn3]; rfl
      have hplt3 := plt_step hT3 hS3 hw3
      have hbr3 : BR w3 (some ⟨g2, o2, none⟩) b2 := by
        obtain ⟨S4, _, t4, _⟩ := hw3
        exact br_turn hbr2 t4 hg2S
      have hcut := br_cut (n := 0) hbr3 (show b2.length ≤ c2 by rw [en2]; exact (by assumption)) pl
      have hsp : ∀ a, (if c2 = pl then (some ⟨g2, o2, none⟩ : Option Addr) else (some ⟨g2, o2, none⟩ : Option Addr).map (·.add pl)) = some a → 0 < (b2.drop pl).length → a.block < w.heap.size ∧ a.block ∉ S := fun a ha _ => by
        split at ha
        · injection ha with ha; rw [← ha]; exact ⟨hsep1, hsep2⟩
        · rw [Option.map_some, addr_add] at ha
          injection ha with ha; rw [← ha]; exact ⟨hsep1, hsep2⟩
      have hwi : ∀ x, x = Value.slice (if c2 = pl then (some ⟨g2, o2, none⟩ : Option Addr) else (some ⟨g2, o2, none⟩ : Option Addr).map (·.add pl)) (n2 - pl) (c2 - pl) → WI w w1 R S os T (ps.drop (j + 1)) x w3 := fun x ex => by
        refine ⟨_, _, b2.drop pl, _, by rw [List.length_drop, en2]; exact ex, by rw [List.length_drop, en2]; exact Nat.sub_le_sub_right (by assumption) _, hcut, hsp, fun x hx => hx3 x (List.mem_of_mem_drop hx), ?_, hwr, hplt3, hkp2.trans hkp3⟩
        rw [List.length_drop, hlen, Nat.add_sub_cancel_left]
      have HW := Lib.hid hwi
      clear HH hx3 hlen hwr en2 hpl3 hT3 hS3 hbr2 hkp2 hnew2 hsep1 hsep2 hg2S hkp3 hn3 hplt3 hbr3 hcut hsp hwi CW hw3
      by_cases hck : c2 = pl
      · go_wp2_with fail
        go_roundg (m - (j + 1))
        case rel => exact ⟨j + 1, hjm, rfl, by rw [i1]; rfl, Lib.hid (HW.out _ (by rw [if_pos hck, hck, Nat.sub_self]))⟩
        case measure => omega
      · go_wp2_with fail
        go_roundg (m - (j + 1))
        case rel => exact ⟨j + 1, hjm, rfl, by rw [i1]; rfl, Lib.hid (HW.out _ (by rw [if_neg hck, Option.map_some, addr_add]))⟩
        case measure => omega
    · obtain rfl : j = m := by omega
      obtain ⟨A2, c2, b2, ds2, rfl, _, _, _, _, hlen, hwr, hplt, _⟩ := hI.out
      have em := H1.out.2.2.1
      rw [List.drop_of_length_le (by omega)] at hlen hwr
      obtain rfl : ds2 = T := hwr
      have HE := Lib.hid hplt
      obtain ⟨n2, en2⟩ : ∃ n2, b2.length = n2 := ⟨_, rfl⟩
      rw [en2]
      clear hI hlen hplt em H1
      go_wp2_with fail
      go_ret
      exact ⟨rfl, HE.out⟩
end Go.Proofs.Ytkpdgjmeeeddhaa
