/- Families in memory; sound. -/
import Derived.Test.YtmkjdghjaeolcaaUg
set_option linter.unusedVariables false
set_option linter.unusedSimpArgs false
namespace Go.Proofs.Ytmkjdghjaeolcaa
open Go.RowKit
set_option linter.unusedVariables false
set_option linter.unusedSimpArgs false
variable {W w w' : World} {F : Nat} {v1 v2 : Value} {ps : List Pu} {us : List Int} {b o c n i : Nat} {p q : Pu} {x : Int}
/-- A family at F, since W. -/
structure FS (W : World) (F : Nat) (v1 v2 : Value) (ps : List Pu) (us : List Int) (w : World) : Prop where
  b : Below W.heap.size W w
  l : W.heap.size ≤ F
  f : w.heap[F]? = some (Obj.cells #[v1, v2] 30)
  r : PR (fun b => W.heap.size ≤ b) w v1 ps
  q : RW (fun b => W.heap.size ≤ b) 3 inI w v2 us
theorem FS.lt (h : FS W F v1 v2 ps us w) : F < w.heap.size := (Array.getElem?_eq_some_iff.1 h.f).1
theorem FS.below (h : FS W F v1 v2 ps us w) (hb : Below w.heap.size w w') : FS W F v1 v2 ps us w' :=
  ⟨below_up h.b hb, h.l, (hb.block F h.lt).trans h.f, h.r.below hb, h.q.keep fun b cur ho hc => ⟨ho, hb.block b (Array.getElem?_eq_some_iff.1 hc).1⟩⟩
theorem FS.drew (h : FS W F v1 v2 ps us w) : FS W F v1 v2 ps us w.drew := ⟨h.b.drew, h.l, h.f, h.r, h.q⟩
theorem FS.cells (h : FS W F v1 v2 ps us w) : w.cell? ⟨F, 0, none⟩ = some v1 ∧ w.cell? ⟨F, 1, none⟩ = some v2 ∧ w.frozen? ⟨F, 0, none⟩ = false ∧ w.frozen? ⟨F, 1, none⟩ = false :=
  ⟨by rw [cell_of_row _ _ 0 _ 30 (0, 0) h.f]; rfl, by rw [cell_of_row _ _ 1 _ 30 (0, 0) h.f]; rfl, frozen_of_row _ _ 0 _ 30 h.f, frozen_of_row _ _ 1 _ 30 h.f⟩
/-- One cell of a purse is stored to. -/
theorem FS.put {j : Nat} (h : FS W F (.slice (some ⟨b, o, none⟩) n c) v2 ps us w) (hi : ps[i]? = some p) (hj : j < 3) (hq : encP q = (encP p).set j (.int .i64 x)) (hb : Below w.heap.size (w.setCell ⟨b, o + i * 3 + j, none⟩ (.int .i64 x)) w') :
    FS W F (.slice (some ⟨b, o, none⟩) n c) v2 (ps.set i q) us w' := by
  obtain ⟨ho, cur, hc⟩ := h.r.lt
  have hbF : b ≠ F := fun e => by rw [e, h.f] at hc; simp at hc
  have other : ∀ k, k ≠ b → k < w.heap.size → w'.heap[k]? = w.heap[k]? := fun k hk hl => (hb.block k hl).trans (heap_setCell_other _ _ _ _ hk)
  refine ⟨below_put h.b ho hb, h.l, (other F (Ne.symm hbF) h.lt).trans h.f, h.r.put hi hj hq hb, h.q.keep fun k cur' hk hck => ⟨hk, other k (fun e => ?_) (Array.getElem?_eq_some_iff.1 hck).1⟩⟩
  rw [e, hc] at hck
  simp at hck
set_option maxRecDepth 100000 in
set_option maxHeartbeats 4000000 in
theorem sound_any (h : FS W F v1 v2 ps us w) (hf : Fam ps us) (hl : ps.length ≤ 1000) : Calls Try.prog 13 #[.pointer (some ⟨F, 0, none⟩)] w fun e w' => e = .returned (.bool true) ∧ Below w.heap.size w w' := by
  obtain ⟨B, o, c, rfl, hc, hcm, hB, hBl⟩ := h.r.form hf.pos
  obtain ⟨A2, c2, rfl, hc2, hcm2, hlr⟩ := h.q.form
  have c0 := h.cells.1
  have c1 := h.cells.2.1
  have hcm' : c ≤ 9223372036854775807 := hcm
  have hcm2' : c2 ≤ 9223372036854775807 := hcm2
  obtain ⟨m, em⟩ : ∃ m, ps.length = m := ⟨_, rfl⟩
  have em2 : us.length = m := hf.len.symm.trans em
  have HF := Lib.hid (And.intro h (And.intro hf (And.intro hlr (And.intro em em2))))
  have HM := Lib.hid hl
  rw [em] at c0 hc hl
  rw [em2] at c1 hc2
  clear h hf hlr em em2 hB hBl
  go_enter Try.func13, Try.ntmps13
  go_wp2_with fail
  go_loopg [13] m (fun gh i wr => ∃ k : Nat, k ≤ m ∧ gh = m - k ∧ i = .int .i64 k ∧ Hid (Below w.heap.size w wr))
  case atStart => exact ⟨0, by omega, by omega, rfl, Lib.hid (Below.refl _ _)⟩
  case round =>
    obtain ⟨k, hk, hg, rfl, hI⟩ := hrel
    by_cases hlt : k < m
    · obtain ⟨p, hp⟩ : ∃ p, ps[k]? = some p := ⟨_, List.getElem?_eq_getElem (by rw [HF.out.2.2.2.1]; exact hlt)⟩
      have hfs := HF.out.1.below hI.out
      rw [HF.out.2.2.2.1, HF.out.2.2.2.2] at hfs
      obtain ⟨q0, q1, q2, _, _, _⟩ := hfs.r.pv hp
      have i1 : IntKind.i64.wrap ((k : Int) + 1) = (k : Int) + 1 := by rw [IntKind.wrap_i64]; omega
      have l1 : (k : Int) < m := by omega
      have H1 := Lib.hid (hfs.below (below_alloc1 wr (Obj.cells #[.int .i64 p.l, .int .i64 p.u, .int .i64 p.g] 26)))
      have B1 := Lib.hid (below_up hI.out (below_alloc1 wr (Obj.cells #[.int .i64 p.l, .int .i64 p.u, .int .i64 p.g] 26)))
      have N1 := Lib.hid (PV.new wr p.l p.u p.g)
      have HP := Lib.hid (And.intro hp (HF.out.2.1.ok k p hp))
      have s1 := hfs.lt
      have d0 := hfs.cells.1
      have d1 := hfs.cells.2.1
      clear hfs hp hI c0 c1
      have hps := Lib.hid (fun (j : Nat) => gsum_le (k : Int) ps us j HF.out.2.1.nn)
      have hpn := Lib.hid (fun (j : Nat) => gsum_nonneg (k : Int) (ps.take j) (us.take j) (fun p hp => HF.out.2.1.nn p (List.mem_of_mem_take hp)))
      go_wp2_with fail
      obtain ⟨W1, eW1⟩ : ∃ W1, wr.alloc (Obj.cells #[.int .i64 p.l, .int .i64 p.u, .int .i64 p.g] 26) = W1 := ⟨_, rfl⟩
      obtain ⟨N, eN⟩ : ∃ N, wr.heap.size = N := ⟨_, rfl⟩
      rw [eW1] at H1 B1
      rw [eW1, eN] at N1
      rw [eW1, eN]
      clear eW1 eN d0 d1 s1 q0 q1 q2
      have d0 := H1.out.cells.1
      go_loopg [5, 23] m (fun gh va i wx => ∃ k2 : Nat, k2 ≤ m ∧ gh = m - k2 ∧ i = .int .i64 k2 ∧ va = .int .i64 (gsum (k : Int) (ps.take k2) (us.take k2)) ∧ W1 = wx)
      case atStart => exact ⟨0, by omega, by omega, rfl, by simp [gsum], rfl⟩
      case round =>
        obtain ⟨k2, hk2, hg2, rfl, rfl, rfl⟩ := hrel
        by_cases hlt2 : k2 < m
        · obtain ⟨u, hu⟩ : ∃ u, us[k2]? = some u := ⟨_, List.getElem?_eq_getElem (by rw [HF.out.2.2.2.2]; exact hlt2)⟩
          obtain ⟨r, hr⟩ : ∃ r, ps[k2]? = some r := ⟨_, List.getElem?_eq_getElem (by rw [HF.out.2.2.2.1]; exact hlt2)⟩
          obtain ⟨b2, o2, rfl, hb2, hcu⟩ := (HF.out.2.2.1.below B1.out) k2 u hu
          unfold inI at hcu
          obtain ⟨q0, q1, q2, _, _, _⟩ := H1.out.r.pv hr
          have i2 : IntKind.i64.wrap ((k2 : Int) + 1) = (k2 : Int) + 1 := by rw [IntKind.wrap_i64]; omega
          have l2 : (k2 : Int) < m := by omega
          have ht := gsum_take (k : Int) hr hu
          have hs1 := hps.out (k2 + 1)
          have hs2 := hpn.out (k2 + 1)
          obtain ⟨s, es⟩ : ∃ s, gsum (k : Int) (ps.take k2) (us.take k2) = s := ⟨_, rfl⟩
          obtain ⟨s', es'⟩ : ∃ s', gsum (k : Int) (ps.take (k2 + 1)) (us.take (k2 + 1)) = s' := ⟨_, rfl⟩
          rw [es'] at ht hs1 hs2
          rw [es] at ht ⊢
          by_cases huk : u = (k : Int)
          · rw [if_pos huk] at ht
            have e1 : RowKit.wrap64 (s + r.l) = s' := by
              have hgk := HP.out.2.2
              have hok := HP.out.2.1
              unfold Pu.ok Ok at hok
              rw [hgk] at hs1
              unfold RowKit.wrap64; omega
            subst huk
            have HS := Lib.hid (And.intro es' ht)
            clear hs1 hs2 es es' ht hu hr hb2
            go_wp2_with fail
            go_roundg (m - (k2 + 1))
            case rel => exact ⟨k2 + 1, by omega, rfl, by simp, by rw [HS.out.1, e1], rfl⟩
            case measure => first | omega | (simp; omega)
          · rw [if_neg huk] at ht
            have HS := Lib.hid (And.intro es' ht)
            clear hs1 hs2 es es' ht hu hr hb2
            go_wp2_with fail
            go_roundg (m - (k2 + 1))
            case rel => exact ⟨k2 + 1, by omega, rfl, by simp, by rw [HS.out.1, HS.out.2, Int.add_zero], rfl⟩
            case measure => first | omega | (simp; omega)
        · obtain rfl : k2 = m := by omega
          clear hlt2 hk2 hg2
          have es : gsum (k : Int) (ps.take k2) (us.take k2) = p.g := by
            rw [List.take_of_length_le (by rw [HF.out.2.2.2.1]; exact Nat.le_refl _), List.take_of_length_le (by rw [HF.out.2.2.2.2]; exact Nat.le_refl _)]; exact HP.out.2.2
          rw [es]
          obtain ⟨q0, q1, q2, _, _, _⟩ := N1.out
          have CR := Lib.hid (fun W => right_ok HP.out.2.1 W)
          clear es
          go_wp2_with fail
          refine (CR.out _).mono ?_; rintro e w2 ⟨rfl, hb⟩
          have B2 := Lib.hid (below_up B1.out hb)
          obtain ⟨e0, e1, e2, _, _, _⟩ := N1.out.below hb
          clear hb q0 q1 q2 CR
          go_wp2_with fail
          go_roundg (k2 - (k + 1))
          case rel => exact ⟨k + 1, by omega, rfl, by simp, B2⟩
          case measure => first | omega | (simp; omega)
    · obtain rfl : k = m := by omega
      have HB := Lib.hid hI.out
      clear hI
      go_wp2_with fail
      go_ret
      exact ⟨rfl, HB.out⟩
end Go.Proofs.Ytmkjdghjaeolcaa
