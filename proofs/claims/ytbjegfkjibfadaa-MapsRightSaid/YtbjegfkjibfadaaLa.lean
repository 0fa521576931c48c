/- MapsRight. -/
import Derived.Test.YtbjegfkjibfadaaMf
import Derived.Test.YtbjegfkjibfadaaVq
set_option linter.unusedVariables false
set_option linter.unusedSimpArgs false
namespace Go.Proofs.Ytbjegfkjibfadaa
open Go.RowKit
set_option linter.unusedVariables false
set_option linter.unusedSimpArgs false
theorem take_at1 {us : List Mp} {k : Nat} {m : Mp} (h : us[k]? = some m) : us.take (k + 1) = us.take k ++ [m] := by
  rw [List.take_add_one, h]; rfl
theorem sp_snoc {l : List Mp} {m : Mp} : Sp (l ++ [m]) ↔ Sp l ∧ m.Ok ∧ ∀ x ∈ l, x.a + x.n ≤ m.a := by
  unfold Sp
  rw [List.pairwise_append]
  constructor
  · rintro ⟨⟨h1, _, h2⟩, h3⟩
    exact ⟨⟨h1, fun x hx => h3 x (by simp [hx])⟩, h3 m (by simp), fun x hx => h2 x hx m (by simp)⟩
  · rintro ⟨⟨h1, h2⟩, h3, h4⟩
    refine ⟨⟨h1, by simp, fun x hx y hy => ?_⟩, fun x hx => ?_⟩
    · rw [List.mem_singleton.1 hy]; exact h4 x hx
    · rcases List.mem_append.1 hx with hx | hx
      · exact h2 x hx
      · rw [List.mem_singleton.1 hx]; exact h3
/-- One more, behind the last. -/
theorem sp_next {us : List Mp} {k : Nat} {m p : Mp} (h : us[k + 1]? = some m) (hp : us[k]? = some p) : Sp (us.take (k + 1 + 1)) ↔ Sp (us.take (k + 1)) ∧ m.Ok ∧ p.a + p.n ≤ m.a := by
  rw [take_at1 h, sp_snoc]
  constructor
  · rintro ⟨h1, h2, h3⟩
    exact ⟨h1, h2, h3 p (by rw [take_at1 hp]; simp)⟩
  · rintro ⟨h1, h2, h3⟩
    refine ⟨h1, h2, fun x hx => ?_⟩
    rw [take_at1 hp] at hx h1
    rcases List.mem_append.1 hx with hx | hx
    · have := (sp_snoc.1 h1).2.2 x hx
      have := (sp_snoc.1 h1).2.1.1
      omega
    · rw [List.mem_singleton.1 hx]; exact h3
theorem sp_first {us : List Mp} {m : Mp} (h : us[0]? = some m) : Sp (us.take (0 + 1)) ↔ m.Ok := by
  rw [take_at1 h, sp_snoc]
  exact ⟨fun h => h.2.1, fun h => ⟨Sp.nil, h, by simp⟩⟩
/-- b tells whether p. -/
def Tells (b : Bool) (p : Prop) : Prop := b = true ↔ p
set_option maxHeartbeats 2000000 in
set_option maxRecDepth 100000 in
theorem right_all (A : Option Addr) (n c : Nat) (us : List Mp) (w : World) (hl : us.length = n) (hr : LV 5 encM w A us) :
    Calls Try.prog 4 #[.slice A n c] w fun e w' => e = .returned (.bool true) ∧ Below w.heap.size w w' := by
  have CF := Lib.hid (fit_any w)
  have HL := Lib.hid hl
  have HR := Lib.hid hr
  have CV := Lib.hid fits_any
  clear hl hr
  go_enter Try.func4, Try.ntmps4
  go_wp2_with fail
  refine CF.out.mono ?_; rintro e w1 ⟨rfl, hb1⟩
  have HB1 := Lib.hid hb1
  clear CF hb1
  by_cases hbig : n > 100
  · have g1 : (n : Int) > 100 := by omega
    have g2 : (100 : Int) < n := g1
    clear hbig
    go_wp2_with fail
    go_ret
    exact ⟨rfl, HB1.out⟩
  · have g1 : ¬ (n : Int) > 100 := by omega
    have g2 : ¬ (100 : Int) < n := g1
    obtain ⟨B0, eB⟩ : ∃ B0, decide ((n : Int) ≤ 16) = B0 := ⟨_, rfl⟩
    have HS : Hid (Tells B0 (n ≤ 16 ∧ Sp (us.take 0))) := Lib.hid (by
      unfold Tells
      rw [← eB, decide_eq_true_eq, List.take_zero]
      exact ⟨fun h => ⟨by omega, Sp.nil⟩, fun h => by omega⟩)
    have H100 := Lib.hid hbig
    clear hbig
    go_wp2_with fail
    go_loopg [3, 16] n (fun gh wv i wr => ∃ k : Nat, k ≤ n ∧ gh = n - k ∧ i = .int .i64 k ∧ (∃ b : Bool, wv = .bool b ∧ Hid (Tells b (n ≤ 16 ∧ Sp (us.take k)))) ∧ Hid (Below w.heap.size w wr))
    case atStart => exact ⟨0, by omega, by omega, rfl, ⟨B0, rfl, HS⟩, HB1⟩
    case round =>
      clear HS HB1 eB
      obtain ⟨k, hk, hg, rfl, ⟨v, rfl, hx⟩, hI⟩ := hrel
      by_cases hlt : k < n
      · obtain ⟨m, hy⟩ : ∃ m, us[k]? = some m := ⟨_, List.getElem?_eq_getElem (by rw [HL.out]; exact hlt)⟩
        obtain ⟨B, off, rfl, hb, c0, c1, c2, c3, c4⟩ := (HR.out.below hI.out).five hy
        have HY := Lib.hid hy
        have b1 := Lib.hid (below_up hI.out (below_alloc1 wr (blkM m)))
        have hlr := (HR.out.below b1.out)
        have r1 := Lib.hid (heap_alloc_new wr (blkM m))
        have hf := Five.row (t := 26) r1.out
        have HOK := Lib.hid (@Mp.ok_iff m)
        have hko : m.ok = okB m.a m.s m.f m.n := rfl
        have C := Lib.hid (fun W => CV.out m.a m.s m.f m.n m.w W)
        obtain ⟨a, s, f, nn, wt⟩ := m
        simp only [] at c0 c1 c2 c3 c4 C
        have hn := H100.out
        have l1 : (k : Int) < n := by omega
        have i1 : IntKind.i64.wrap ((k : Int) + 1) = (k : Int) + 1 := by rw [IntKind.wrap_i64]; omega
        cases v
        · have HF : Hid (¬ (n ≤ 16 ∧ Sp (us.take (k + 1)))) := Lib.hid (fun h => by
            rw [take_at1 HY.out, sp_snoc] at h
            have := hx.out.2 ⟨h.1, h.2.1⟩
            cases this)
          clear hy hko hn
          by_cases hk0 : k = 0
          · have j1 : ¬ (k : Int) > 0 := by omega
            have j2 : ¬ (0 : Int) < k := j1
            clear hk0
            go_wp2_with fail
            go_roundg (n - (k + 1))
            case rel => exact ⟨k + 1, by omega, rfl, by simp, ⟨false, rfl, Lib.hid ⟨fun h => (by cases h), fun h => absurd h HF.out⟩⟩, b1⟩
            case measure => first | omega | (simp; omega)
          · have j1 : (k : Int) > 0 := by omega
            have j2 : (0 : Int) < k := j1
            have HB3 := Lib.hid (Below.drew b1.out)
            clear hk0
            go_upto_region 11 with fail
            refine region_AU (Z := fun j => false) (S := fun _ => True) (by kernel_rfl) trivial (fun hHeld => ?_)
            refine AUS_take (by kernel_rfl) rfl (i := 0) (oi := _) (v := ?vwa0) rfl (by kernel_rfl) (by kernel_rfl) (by kernel_rfl) (fun _ _ _ h => h) (Or.inl ⟨by rfl, ?hza0⟩) hHeld ?rsta0
            case hza0 => (intro wS hSw; clear hSw; go_simp; try with_reducible rfl)
            simp only [Act.put, List.getElem_toArray, List.getElem_cons_zero, List.getElem_cons_succ, List.setIfInBounds_toArray, List.set_cons_zero, List.set_cons_succ]
            refine AUS_take (by kernel_rfl) rfl (i := 1) (oi := _) (v := ?vwa1) rfl (by kernel_rfl) (by kernel_rfl) (by kernel_rfl) (fun _ _ _ h => h) (Or.inl ⟨by rfl, ?hza1⟩) hHeld ?rsta1
            case hza1 => (intro wS hSw; clear hSw; go_simp; try with_reducible rfl)
            simp only [Act.put, List.getElem_toArray, List.getElem_cons_zero, List.getElem_cons_succ, List.setIfInBounds_toArray, List.set_cons_zero, List.set_cons_succ]
            refine AUS_take (by kernel_rfl) rfl (i := 2) (oi := _) (v := undef) rfl (by kernel_rfl) (by kernel_rfl) (by kernel_rfl) (fun _ _ _ h => h) (Or.inr ⟨by rfl, rfl⟩) hHeld ?rsta2
            try simp only [Act.put, List.getElem_toArray, List.getElem_cons_zero, List.getElem_cons_succ, List.setIfInBounds_toArray, List.set_cons_zero, List.set_cons_succ]
            refine AUS_take (by kernel_rfl) rfl (i := 3) (oi := _) (v := undef) rfl (by kernel_rfl) (by kernel_rfl) (by kernel_rfl) (fun _ _ _ h => h) (Or.inr ⟨by rfl, rfl⟩) hHeld ?rsta3
            try simp only [Act.put, List.getElem_toArray, List.getElem_cons_zero, List.getElem_cons_succ, List.setIfInBounds_toArray, List.set_cons_zero, List.set_cons_succ]
            refine AUS_take (by kernel_rfl) rfl (i := 4) (oi := _) (v := undef) rfl (by kernel_rfl) (by kernel_rfl) (by kernel_rfl) (fun _ _ _ h => h) (Or.inr ⟨by rfl, rfl⟩) hHeld ?rsta4
            try simp only [Act.put, List.getElem_toArray, List.getElem_cons_zero, List.getElem_cons_succ, List.setIfInBounds_toArray, List.set_cons_zero, List.set_cons_succ]
            refine AUS_take (by kernel_rfl) rfl (i := 5) (oi := _) (v := undef) rfl (by kernel_rfl) (by kernel_rfl) (by kernel_rfl) (fun _ _ _ h => h) (Or.inr ⟨by rfl, rfl⟩) hHeld ?rsta5
            try simp only [Act.put, List.getElem_toArray, List.getElem_cons_zero, List.getElem_cons_succ, List.setIfInBounds_toArray, List.set_cons_zero, List.set_cons_succ]
            refine AUS_take (by kernel_rfl) rfl (i := 6) (oi := _) (v := undef) rfl (by kernel_rfl) (by kernel_rfl) (by kernel_rfl) (fun _ _ _ h => h) (Or.inr ⟨by rfl, rfl⟩) hHeld ?rsta6
            try simp only [Act.put, List.getElem_toArray, List.getElem_cons_zero, List.getElem_cons_succ, List.setIfInBounds_toArray, List.set_cons_zero, List.set_cons_succ]
            refine AUS_take (by kernel_rfl) rfl (i := 7) (oi := _) (v := undef) rfl (by kernel_rfl) (by kernel_rfl) (by kernel_rfl) (fun _ _ _ h => h) (Or.inr ⟨by rfl, rfl⟩) hHeld ?rsta7
            try simp only [Act.put, List.getElem_toArray, List.getElem_cons_zero, List.getElem_cons_succ, List.setIfInBounds_toArray, List.set_cons_zero, List.set_cons_succ]
            refine AUS_take (by kernel_rfl) rfl (i := 8) (oi := _) (v := undef) rfl (by kernel_rfl) (by kernel_rfl) (by kernel_rfl) (fun _ _ _ h => h) (Or.inr ⟨by rfl, rfl⟩) hHeld ?rsta8
            try simp only [Act.put, List.getElem_toArray, List.getElem_cons_zero, List.getElem_cons_succ, List.setIfInBounds_toArray, List.set_cons_zero, List.set_cons_succ]
            refine AUS_take (by kernel_rfl) rfl (i := 9) (oi := _) (v := undef) rfl (by kernel_rfl) (by kernel_rfl) (by kernel_rfl) (fun _ _ _ h => h) (Or.inr ⟨by rfl, rfl⟩) hHeld ?rsta9
            try simp only [Act.put, List.getElem_toArray, List.getElem_cons_zero, List.getElem_cons_succ, List.setIfInBounds_toArray, List.set_cons_zero, List.set_cons_succ]
            refine AUS_take (by kernel_rfl) rfl (i := 10) (oi := _) (v := undef) rfl (by kernel_rfl) (by kernel_rfl) (by kernel_rfl) (fun _ _ _ h => h) (Or.inr ⟨by rfl, rfl⟩) hHeld ?rsta10
            try simp only [Act.put, List.getElem_toArray, List.getElem_cons_zero, List.getElem_cons_succ, List.setIfInBounds_toArray, List.set_cons_zero, List.set_cons_succ]
            refine AUS_take (by kernel_rfl) rfl (i := 11) (oi := _) (v := ?vwa11) rfl (by kernel_rfl) (by kernel_rfl) (by kernel_rfl) (fun _ _ _ h => h) (Or.inl ⟨by rfl, ?hza11⟩) hHeld ?rsta11
            case hza11 => (intro wS hSw; clear hSw; go_simp; try with_reducible rfl)
            simp only [Act.put, List.getElem_toArray, List.getElem_cons_zero, List.getElem_cons_succ, List.setIfInBounds_toArray, List.set_cons_zero, List.set_cons_succ]
            refine AUS_take (by kernel_rfl) rfl (i := 12) (oi := _) (v := ?vwa12) rfl (by kernel_rfl) (by kernel_rfl) (by kernel_rfl) (fun _ _ _ h => h) (Or.inl ⟨by rfl, ?hza12⟩) hHeld ?rsta12
            case hza12 => (intro wS hSw; clear hSw; go_simp; try with_reducible rfl)
            simp only [Act.put, List.getElem_toArray, List.getElem_cons_zero, List.getElem_cons_succ, List.setIfInBounds_toArray, List.set_cons_zero, List.set_cons_succ]
            refine AUS_take (by kernel_rfl) rfl (i := 13) (oi := _) (v := undef) rfl (by kernel_rfl) (by kernel_rfl) (by kernel_rfl) (fun _ _ _ h => h) (Or.inr ⟨by rfl, rfl⟩) hHeld ?rsta13
            try simp only [Act.put, List.getElem_toArray, List.getElem_cons_zero, List.getElem_cons_succ, List.setIfInBounds_toArray, List.set_cons_zero, List.set_cons_succ]
            refine AUS_take (by kernel_rfl) rfl (i := 14) (oi := _) (v := undef) rfl (by kernel_rfl) (by kernel_rfl) (by kernel_rfl) (fun _ _ _ h => h) (Or.inr ⟨by rfl, rfl⟩) hHeld ?rsta14
            try simp only [Act.put, List.getElem_toArray, List.getElem_cons_zero, List.getElem_cons_succ, List.setIfInBounds_toArray, List.set_cons_zero, List.set_cons_succ]
            refine AUS_take (by kernel_rfl) rfl (i := 15) (oi := _) (v := undef) rfl (by kernel_rfl) (by kernel_rfl) (by kernel_rfl) (fun _ _ _ h => h) (Or.inr ⟨by rfl, rfl⟩) hHeld ?rsta15
            try simp only [Act.put, List.getElem_toArray, List.getElem_cons_zero, List.getElem_cons_succ, List.setIfInBounds_toArray, List.set_cons_zero, List.set_cons_succ]
            refine AUS_take (by kernel_rfl) rfl (i := 16) (oi := _) (v := undef) rfl (by kernel_rfl) (by kernel_rfl) (by kernel_rfl) (fun _ _ _ h => h) (Or.inr ⟨by rfl, rfl⟩) hHeld ?rsta16
            try simp only [Act.put, List.getElem_toArray, List.getElem_cons_zero, List.getElem_cons_succ, List.setIfInBounds_toArray, List.set_cons_zero, List.set_cons_succ]
            refine AUS_take (by kernel_rfl) rfl (i := 17) (oi := _) (v := undef) rfl (by kernel_rfl) (by kernel_rfl) (by kernel_rfl) (fun _ _ _ h => h) (Or.inr ⟨by rfl, rfl⟩) hHeld ?rsta17
            try simp only [Act.put, List.getElem_toArray, List.getElem_cons_zero, List.getElem_cons_succ, List.setIfInBounds_toArray, List.set_cons_zero, List.set_cons_succ]
            refine AUS_take (by kernel_rfl) rfl (i := 18) (oi := _) (v := undef) rfl (by kernel_rfl) (by kernel_rfl) (by kernel_rfl) (fun _ _ _ h => h) (Or.inr ⟨by rfl, rfl⟩) hHeld ?rsta18
            try simp only [Act.put, List.getElem_toArray, List.getElem_cons_zero, List.getElem_cons_succ, List.setIfInBounds_toArray, List.set_cons_zero, List.set_cons_succ]
            refine AUS_take (by kernel_rfl) rfl (i := 19) (oi := _) (v := undef) rfl (by kernel_rfl) (by kernel_rfl) (by kernel_rfl) (fun _ _ _ h => h) (Or.inr ⟨by rfl, rfl⟩) hHeld ?rsta19
            try simp only [Act.put, List.getElem_toArray, List.getElem_cons_zero, List.getElem_cons_succ, List.setIfInBounds_toArray, List.set_cons_zero, List.set_cons_succ]
            refine AUS_take (by kernel_rfl) rfl (i := 20) (oi := _) (v := undef) rfl (by kernel_rfl) (by kernel_rfl) (by kernel_rfl) (fun _ _ _ h => h) (Or.inr ⟨by rfl, rfl⟩) hHeld ?rsta20
            try simp only [Act.put, List.getElem_toArray, List.getElem_cons_zero, List.getElem_cons_succ, List.setIfInBounds_toArray, List.set_cons_zero, List.set_cons_succ]
            refine AUS_take (by kernel_rfl) rfl (i := 21) (oi := _) (v := ?vwa21) rfl (by kernel_rfl) (by kernel_rfl) (by kernel_rfl) (fun _ _ _ h => h) (Or.inl ⟨by rfl, ?hza21⟩) hHeld ?rsta21
            case hza21 => (intro wS hSw; clear hSw; go_simp; try with_reducible rfl)
            simp only [Act.put, List.getElem_toArray, List.getElem_cons_zero, List.getElem_cons_succ, List.setIfInBounds_toArray, List.set_cons_zero, List.set_cons_succ]
            refine AUS_take (by kernel_rfl) rfl (i := 22) (oi := _) (v := ?vwa22) rfl (by kernel_rfl) (by kernel_rfl) (by kernel_rfl) (fun _ _ _ h => h) (Or.inl ⟨by rfl, ?hza22⟩) hHeld ?rsta22
            case hza22 => (intro wS hSw; clear hSw; go_simp; try with_reducible rfl)
            simp only [Act.put, List.getElem_toArray, List.getElem_cons_zero, List.getElem_cons_succ, List.setIfInBounds_toArray, List.set_cons_zero, List.set_cons_succ]
            refine AU_done (by kernel_rfl) ?_ _
            simp only [OnlyN]
            go_wp2_with fail
            go_roundg (n - (k + 1))
            case rel => exact ⟨k + 1, by omega, rfl, by simp, ⟨false, rfl, Lib.hid ⟨fun h => (by cases h), fun h => absurd h HF.out⟩⟩, HB3⟩
            case measure => first | omega | (simp; omega)
        · obtain ⟨q, eq⟩ : ∃ q, okB a s f nn = q := ⟨_, rfl⟩
          rw [eq] at C
          have hokq : Hid (Tells q (Mp.Ok ⟨a, s, f, nn, wt⟩)) := Lib.hid (by rw [← eq]; exact HOK.out)
          clear eq hko HOK hy hn
          go_wp2_with fail
          refine (C.out _).mono ?_; rintro e w2 ⟨rfl, hb2⟩
          have HB2 := Lib.hid (below_up b1.out hb2)
          obtain ⟨z0, z1, z2, z3, z4⟩ := hf.below hb2
          have hlr2 := HR.out.below HB2.out
          simp only [] at z0 z1 z2 z3 z4
          clear hb2 C c0 c1 c2 c3 c4 hlr hf r1 b1
          cases q
          · have HF : Hid (¬ (n ≤ 16 ∧ Sp (us.take (k + 1)))) := Lib.hid (fun h => by
              rw [take_at1 HY.out, sp_snoc] at h
              have := hokq.out.2 h.2.2.1
              cases this)
            by_cases hk0 : k = 0
            · have j1 : ¬ (k : Int) > 0 := by omega
              have j2 : ¬ (0 : Int) < k := j1
              clear hk0
              go_wp2_with fail
              go_roundg (n - (k + 1))
              case rel => exact ⟨k + 1, by omega, rfl, by simp, ⟨false, rfl, Lib.hid ⟨fun h => (by cases h), fun h => absurd h HF.out⟩⟩, HB2⟩
              case measure => first | omega | (simp; omega)
            · have j1 : (k : Int) > 0 := by omega
              have j2 : (0 : Int) < k := j1
              have HB3 := Lib.hid (Below.drew HB2.out)
              clear hk0
              go_upto_region 11 with fail
              refine region_AU (Z := fun j => false) (S := fun _ => True) (by kernel_rfl) trivial (fun hHeld => ?_)
              refine AUS_take (by kernel_rfl) rfl (i := 0) (oi := _) (v := ?vwb0) rfl (by kernel_rfl) (by kernel_rfl) (by kernel_rfl) (fun _ _ _ h => h) (Or.inl ⟨by rfl, ?hzb0⟩) hHeld ?rstb0
              case hzb0 => (intro wS hSw; clear hSw; go_simp; try with_reducible rfl)
              simp only [Act.put, List.getElem_toArray, List.getElem_cons_zero, List.getElem_cons_succ, List.setIfInBounds_toArray, List.set_cons_zero, List.set_cons_succ]
              refine AUS_take (by kernel_rfl) rfl (i := 1) (oi := _) (v := ?vwb1) rfl (by kernel_rfl) (by kernel_rfl) (by kernel_rfl) (fun _ _ _ h => h) (Or.inl ⟨by rfl, ?hzb1⟩) hHeld ?rstb1
              case hzb1 => (intro wS hSw; clear hSw; go_simp; try with_reducible rfl)
              simp only [Act.put, List.getElem_toArray, List.getElem_cons_zero, List.getElem_cons_succ, List.setIfInBounds_toArray, List.set_cons_zero, List.set_cons_succ]
              refine AUS_take (by kernel_rfl) rfl (i := 2) (oi := _) (v := undef) rfl (by kernel_rfl) (by kernel_rfl) (by kernel_rfl) (fun _ _ _ h => h) (Or.inr ⟨by rfl, rfl⟩) hHeld ?rstb2
              try simp only [Act.put, List.getElem_toArray, List.getElem_cons_zero, List.getElem_cons_succ, List.setIfInBounds_toArray, List.set_cons_zero, List.set_cons_succ]
              refine AUS_take (by kernel_rfl) rfl (i := 3) (oi := _) (v := undef) rfl (by kernel_rfl) (by kernel_rfl) (by kernel_rfl) (fun _ _ _ h => h) (Or.inr ⟨by rfl, rfl⟩) hHeld ?rstb3
              try simp only [Act.put, List.getElem_toArray, List.getElem_cons_zero, List.getElem_cons_succ, List.setIfInBounds_toArray, List.set_cons_zero, List.set_cons_succ]
              refine AUS_take (by kernel_rfl) rfl (i := 4) (oi := _) (v := undef) rfl (by kernel_rfl) (by kernel_rfl) (by kernel_rfl) (fun _ _ _ h => h) (Or.inr ⟨by rfl, rfl⟩) hHeld ?rstb4
              try simp only [Act.put, List.getElem_toArray, List.getElem_cons_zero, List.getElem_cons_succ, List.setIfInBounds_toArray, List.set_cons_zero, List.set_cons_succ]
              refine AUS_take (by kernel_rfl) rfl (i := 5) (oi := _) (v := undef) rfl (by kernel_rfl) (by kernel_rfl) (by kernel_rfl) (fun _ _ _ h => h) (Or.inr ⟨by rfl, rfl⟩) hHeld ?rstb5
              try simp only [Act.put, List.getElem_toArray, List.getElem_cons_zero, List.getElem_cons_succ, List.setIfInBounds_toArray, List.set_cons_zero, List.set_cons_succ]
              refine AUS_take (by kernel_rfl) rfl (i := 6) (oi := _) (v := undef) rfl (by kernel_rfl) (by kernel_rfl) (by kernel_rfl) (fun _ _ _ h => h) (Or.inr ⟨by rfl, rfl⟩) hHeld ?rstb6
              try simp only [Act.put, List.getElem_toArray, List.getElem_cons_zero, List.getElem_cons_succ, List.setIfInBounds_toArray, List.set_cons_zero, List.set_cons_succ]
              refine AUS_take (by kernel_rfl) rfl (i := 7) (oi := _) (v := undef) rfl (by kernel_rfl) (by kernel_rfl) (by kernel_rfl) (fun _ _ _ h => h) (Or.inr ⟨by rfl, rfl⟩) hHeld ?rstb7
              try simp only [Act.put, List.getElem_toArray, List.getElem_cons_zero, List.getElem_cons_succ, List.setIfInBounds_toArray, List.set_cons_zero, List.set_cons_succ]
              refine AUS_take (by kernel_rfl) rfl (i := 8) (oi := _) (v := undef) rfl (by kernel_rfl) (by kernel_rfl) (by kernel_rfl) (fun _ _ _ h => h) (Or.inr ⟨by rfl, rfl⟩) hHeld ?rstb8
              try simp only [Act.put, List.getElem_toArray, List.getElem_cons_zero, List.getElem_cons_succ, List.setIfInBounds_toArray, List.set_cons_zero, List.set_cons_succ]
              refine AUS_take (by kernel_rfl) rfl (i := 9) (oi := _) (v := undef) rfl (by kernel_rfl) (by kernel_rfl) (by kernel_rfl) (fun _ _ _ h => h) (Or.inr ⟨by rfl, rfl⟩) hHeld ?rstb9
              try simp only [Act.put, List.getElem_toArray, List.getElem_cons_zero, List.getElem_cons_succ, List.setIfInBounds_toArray, List.set_cons_zero, List.set_cons_succ]
              refine AUS_take (by kernel_rfl) rfl (i := 10) (oi := _) (v := undef) rfl (by kernel_rfl) (by kernel_rfl) (by kernel_rfl) (fun _ _ _ h => h) (Or.inr ⟨by rfl, rfl⟩) hHeld ?rstb10
              try simp only [Act.put, List.getElem_toArray, List.getElem_cons_zero, List.getElem_cons_succ, List.setIfInBounds_toArray, List.set_cons_zero, List.set_cons_succ]
              refine AUS_take (by kernel_rfl) rfl (i := 11) (oi := _) (v := ?vwb11) rfl (by kernel_rfl) (by kernel_rfl) (by kernel_rfl) (fun _ _ _ h => h) (Or.inl ⟨by rfl, ?hzb11⟩) hHeld ?rstb11
              case hzb11 => (intro wS hSw; clear hSw; go_simp; try with_reducible rfl)
              simp only [Act.put, List.getElem_toArray, List.getElem_cons_zero, List.getElem_cons_succ, List.setIfInBounds_toArray, List.set_cons_zero, List.set_cons_succ]
              refine AUS_take (by kernel_rfl) rfl (i := 12) (oi := _) (v := ?vwb12) rfl (by kernel_rfl) (by kernel_rfl) (by kernel_rfl) (fun _ _ _ h => h) (Or.inl ⟨by rfl, ?hzb12⟩) hHeld ?rstb12
              case hzb12 => (intro wS hSw; clear hSw; go_simp; try with_reducible rfl)
              simp only [Act.put, List.getElem_toArray, List.getElem_cons_zero, List.getElem_cons_succ, List.setIfInBounds_toArray, List.set_cons_zero, List.set_cons_succ]
              refine AUS_take (by kernel_rfl) rfl (i := 13) (oi := _) (v := undef) rfl (by kernel_rfl) (by kernel_rfl) (by kernel_rfl) (fun _ _ _ h => h) (Or.inr ⟨by rfl, rfl⟩) hHeld ?rstb13
              try simp only [Act.put, List.getElem_toArray, List.getElem_cons_zero, List.getElem_cons_succ, List.setIfInBounds_toArray, List.set_cons_zero, List.set_cons_succ]
              refine AUS_take (by kernel_rfl) rfl (i := 14) (oi := _) (v := undef) rfl (by kernel_rfl) (by kernel_rfl) (by kernel_rfl) (fun _ _ _ h => h) (Or.inr ⟨by rfl, rfl⟩) hHeld ?rstb14
              try simp only [Act.put, List.getElem_toArray, List.getElem_cons_zero, List.getElem_cons_succ, List.setIfInBounds_toArray, List.set_cons_zero, List.set_cons_succ]
              refine AUS_take (by kernel_rfl) rfl (i := 15) (oi := _) (v := undef) rfl (by kernel_rfl) (by kernel_rfl) (by kernel_rfl) (fun _ _ _ h => h) (Or.inr ⟨by rfl, rfl⟩) hHeld ?rstb15
              try simp only [Act.put, List.getElem_toArray, List.getElem_cons_zero, List.getElem_cons_succ, List.setIfInBounds_toArray, List.set_cons_zero, List.set_cons_succ]
              refine AUS_take (by kernel_rfl) rfl (i := 16) (oi := _) (v := undef) rfl (by kernel_rfl) (by kernel_rfl) (by kernel_rfl) (fun _ _ _ h => h) (Or.inr ⟨by rfl, rfl⟩) hHeld ?rstb16
              try simp only [Act.put, List.getElem_toArray, List.getElem_cons_zero, List.getElem_cons_succ, List.setIfInBounds_toArray, List.set_cons_zero, List.set_cons_succ]
              refine AUS_take (by kernel_rfl) rfl (i := 17) (oi := _) (v := undef) rfl (by kernel_rfl) (by kernel_rfl) (by kernel_rfl) (fun _ _ _ h => h) (Or.inr ⟨by rfl, rfl⟩) hHeld ?rstb17
              try simp only [Act.put, List.getElem_toArray, List.getElem_cons_zero, List.getElem_cons_succ, List.setIfInBounds_toArray, List.set_cons_zero, List.set_cons_succ]
              refine AUS_take (by kernel_rfl) rfl (i := 18) (oi := _) (v := undef) rfl (by kernel_rfl) (by kernel_rfl) (by kernel_rfl) (fun _ _ _ h => h) (Or.inr ⟨by rfl, rfl⟩) hHeld ?rstb18
              try simp only [Act.put, List.getElem_toArray, List.getElem_cons_zero, List.getElem_cons_succ, List.setIfInBounds_toArray, List.set_cons_zero, List.set_cons_succ]
              refine AUS_take (by kernel_rfl) rfl (i := 19) (oi := _) (v := undef) rfl (by kernel_rfl) (by kernel_rfl) (by kernel_rfl) (fun _ _ _ h => h) (Or.inr ⟨by rfl, rfl⟩) hHeld ?rstb19
              try simp only [Act.put, List.getElem_toArray, List.getElem_cons_zero, List.getElem_cons_succ, List.setIfInBounds_toArray, List.set_cons_zero, List.set_cons_succ]
              refine AUS_take (by kernel_rfl) rfl (i := 20) (oi := _) (v := undef) rfl (by kernel_rfl) (by kernel_rfl) (by kernel_rfl) (fun _ _ _ h => h) (Or.inr ⟨by rfl, rfl⟩) hHeld ?rstb20
              try simp only [Act.put, List.getElem_toArray, List.getElem_cons_zero, List.getElem_cons_succ, List.setIfInBounds_toArray, List.set_cons_zero, List.set_cons_succ]
              refine AUS_take (by kernel_rfl) rfl (i := 21) (oi := _) (v := ?vwb21) rfl (by kernel_rfl) (by kernel_rfl) (by kernel_rfl) (fun _ _ _ h => h) (Or.inl ⟨by rfl, ?hzb21⟩) hHeld ?rstb21
              case hzb21 => (intro wS hSw; clear hSw; go_simp; try with_reducible rfl)
              simp only [Act.put, List.getElem_toArray, List.getElem_cons_zero, List.getElem_cons_succ, List.setIfInBounds_toArray, List.set_cons_zero, List.set_cons_succ]
              refine AUS_take (by kernel_rfl) rfl (i := 22) (oi := _) (v := ?vwb22) rfl (by kernel_rfl) (by kernel_rfl) (by kernel_rfl) (fun _ _ _ h => h) (Or.inl ⟨by rfl, ?hzb22⟩) hHeld ?rstb22
              case hzb22 => (intro wS hSw; clear hSw; go_simp; try with_reducible rfl)
              simp only [Act.put, List.getElem_toArray, List.getElem_cons_zero, List.getElem_cons_succ, List.setIfInBounds_toArray, List.set_cons_zero, List.set_cons_succ]
              refine AU_done (by kernel_rfl) ?_ _
              simp only [OnlyN]
              go_wp2_with fail
              go_roundg (n - (k + 1))
              case rel => exact ⟨k + 1, by omega, rfl, by simp, ⟨false, rfl, Lib.hid ⟨fun h => (by cases h), fun h => absurd h HF.out⟩⟩, HB3⟩
              case measure => first | omega | (simp; omega)
          · have hok := hokq.out.1 rfl
            by_cases hk0 : k = 0
            · have HF : Hid (Tells true (n ≤ 16 ∧ Sp (us.take (k + 1)))) := Lib.hid (by
                subst hk0
                unfold Tells
                rw [sp_first HY.out]
                exact ⟨fun _ => ⟨(hx.out.1 rfl).1, hok⟩, fun _ => rfl⟩)
              have j1 : ¬ (k : Int) > 0 := by omega
              have j2 : ¬ (0 : Int) < k := j1
              clear hk0 hok
              go_wp2_with fail
              go_roundg (n - (k + 1))
              case rel => exact ⟨k + 1, by omega, rfl, by simp, ⟨true, rfl, HF⟩, HB2⟩
              case measure => first | omega | (simp; omega)
            · obtain ⟨k1, hk1⟩ : ∃ k1, k = k1 + 1 := ⟨k - 1, by omega⟩
              obtain ⟨p, hp⟩ : ∃ p, us[k1]? = some p := ⟨_, List.getElem?_eq_getElem (by rw [HL.out]; omega)⟩
              have hpm := (hx.out.1 rfl).2
              have hpo : p.Ok := by
                rw [hk1, take_at1 hp] at hpm
                exact (sp_snoc.1 hpm).2.1
              have hnext := sp_next (m := ⟨a, s, f, nn, wt⟩) (by rw [← hk1]; exact HY.out) hp
              rw [← hk1] at hnext
              have HN := Lib.hid (show (n ≤ 16 ∧ Sp (us.take (k + 1))) ↔ p.a + p.n ≤ a from ⟨fun h => (hnext.1 h.2).2.2, fun h => ⟨(hx.out.1 rfl).1, hnext.2 ⟨hpm, hok, h⟩⟩⟩)
              obtain ⟨B', off', e1, hb', d0, d1, d2, d3, d4⟩ := hlr2.five hp
              injection e1 with e1
              injection e1 with e1 e2
              subst e1 e2
              obtain ⟨o1, o2, o3, o4, _⟩ := hok
              obtain ⟨o1', o2', o3', o4', _⟩ := hpo
              simp only [] at o1 o2 o3 o4
              have j1 : (k : Int) > 0 := by omega
              have j2 : (0 : Int) < k := j1
              have hn := H100.out
              have i2 : IntKind.i64.wrap ((k : Int) - 1) = (k1 : Int) := by rw [IntKind.wrap_i64]; omega
              have i3 : (0 : Int) ≤ k1 := by omega
              have i4 : (k1 : Int) < n := by omega
              have CO2 := Lib.hid (fun W => over_ok (a := p.a) (n := p.n) (a' := a) (n' := nn) p.s p.f s f p.w wt ⟨by omega, by omega, by omega, by omega⟩ ⟨by omega, by omega, by omega, by omega⟩ W)
              obtain ⟨pa, ps, pf, pn, pw⟩ := p
              simp only [] at d0 d1 d2 d3 d4 CO2 o1' o2' o3' o4' HN
              by_cases hlt2 : pa < a
              · have HF : Hid (Tells (!ovB pa pn a nn) (n ≤ 16 ∧ Sp (us.take (k + 1)))) := Lib.hid (by
                  unfold Tells
                  rw [HN.out, Bool.not_eq_true', Bool.eq_false_iff, Ne, ovB_iff]
                  omega)
                obtain ⟨q, eq⟩ : ∃ q, ovB pa pn a nn = q := ⟨_, rfl⟩
                rw [eq] at CO2 HF
                have QE : Hid (∀ d os, Calls Try.prog 11 #[.agg #[.int .i64 pa, .int .u64 ps, .int .i64 pf, .int .i64 pn, .bool pw], .agg #[.int .i64 a, .int .u64 s, .int .i64 f, .int .i64 nn, .bool wt]] (Sort.grow (redrawn w2 d) os) fun e w'' => e = .returned (.bool q) ∧ ∃ p : Regrown, w'' = Sort.grow (redrawn w2 p.d) p.os) := Lib.hid (fun d os => Calls.regrown_of (CO2.out _))
                have k0 := cell_regrown d0
                have k1' := cell_regrown d1
                have k2 := cell_regrown d2
                have k3 := cell_regrown d3
                have k4 := cell_regrown d4
                have k5 := cell_regrown z0
                have k6 := cell_regrown z1
                have k7 := cell_regrown z2
                have k8 := cell_regrown z3
                have k9 := cell_regrown z4
                clear d0 d1 d2 d3 d4 z0 z1 z2 z3 z4 eq CO2 hnext hpm hk1 hp hlr2 hn o1 o2 o3 o4 o1' o2' o3' o4'
                go_upto_region 11 with fail
                refine wp_region_quiet_below (by kernel_rfl) (by kernel_rfl) ?_
                repeat (quiet_step (first | with_reducible exact QE.out _ _))
                refine wpQuiet_nil ?_
                intro _ hw'
                obtain ⟨⟨dq, osq⟩, hw''⟩ := hw'
                subst hw''
                have HW := Lib.hid (below_up HB2.out (below_regrown w2 dq osq))
                clear k0 k1' k2 k3 k4 k5 k6 k7 k8 k9 QE
                go_wp2_with fail
                go_roundg (n - (k + 1))
                case rel => exact ⟨k + 1, by omega, rfl, by simp, ⟨!q, rfl, HF⟩, HW⟩
                case measure => first | omega | (simp; omega)
              · have HF : Hid (¬ (n ≤ 16 ∧ Sp (us.take (k + 1)))) := Lib.hid (fun h => by
                  have := HN.out.1 h
                  omega)
                have q0 : decide (pa < a) = false := decide_eq_false hlt2
                have HB3 := Lib.hid HB2.out.drew
                clear CO2 hnext hpm hk1 hp hlr2 hn o1 o2 o3 o4 o1' o2' o3' o4'
                go_upto_region 11 with fail
                refine region_AU (Z := fun j => false) (S := fun W => W = w2.drew) (by kernel_rfl) rfl (fun hHeld => ?_)
                refine AUS_take (by kernel_rfl) rfl (i := 0) (oi := _) (v := ?vwc0) rfl (by kernel_rfl) (by kernel_rfl) (by kernel_rfl) (fun _ _ _ h => h) (Or.inl ⟨by rfl, ?hzc0⟩) hHeld ?rstc0
                case hzc0 => (intro wS hSw; subst hSw; go_simp; try with_reducible rfl)
                simp only [Act.put, List.getElem_toArray, List.getElem_cons_zero, List.getElem_cons_succ, List.setIfInBounds_toArray, List.set_cons_zero, List.set_cons_succ]
                refine AUS_take (by kernel_rfl) rfl (i := 1) (oi := _) (v := ?vwc1) rfl (by kernel_rfl) (by kernel_rfl) (by kernel_rfl) (fun _ _ _ h => h) (Or.inl ⟨by rfl, ?hzc1⟩) hHeld ?rstc1
                case hzc1 => (intro wS hSw; subst hSw; go_simp; try with_reducible rfl)
                simp only [Act.put, List.getElem_toArray, List.getElem_cons_zero, List.getElem_cons_succ, List.setIfInBounds_toArray, List.set_cons_zero, List.set_cons_succ]
                refine AUS_take (by kernel_rfl) rfl (i := 2) (oi := _) (v := ?vwc2) rfl (by kernel_rfl) (by kernel_rfl) (by kernel_rfl) (fun _ _ _ h => h) (Or.inl ⟨by rfl, ?hzc2⟩) hHeld ?rstc2
                case hzc2 => (intro wS hSw; subst hSw; go_simp; try with_reducible rfl)
                simp only [Act.put, List.getElem_toArray, List.getElem_cons_zero, List.getElem_cons_succ, List.setIfInBounds_toArray, List.set_cons_zero, List.set_cons_succ]
                refine AUS_take (by kernel_rfl) rfl (i := 3) (oi := _) (v := ?vwc3) rfl (by kernel_rfl) (by kernel_rfl) (by kernel_rfl) (fun _ _ _ h => h) (Or.inl ⟨by rfl, ?hzc3⟩) hHeld ?rstc3
                case hzc3 => (intro wS hSw; subst hSw; go_simp; try with_reducible rfl)
                simp only [Act.put, List.getElem_toArray, List.getElem_cons_zero, List.getElem_cons_succ, List.setIfInBounds_toArray, List.set_cons_zero, List.set_cons_succ]
                refine AUS_take (by kernel_rfl) rfl (i := 4) (oi := _) (v := ?vwc4) rfl (by kernel_rfl) (by kernel_rfl) (by kernel_rfl) (fun _ _ _ h => h) (Or.inl ⟨by rfl, ?hzc4⟩) hHeld ?rstc4
                case hzc4 => (intro wS hSw; subst hSw; go_simp; try with_reducible rfl)
                simp only [Act.put, List.getElem_toArray, List.getElem_cons_zero, List.getElem_cons_succ, List.setIfInBounds_toArray, List.set_cons_zero, List.set_cons_succ]
                refine AUS_take (by kernel_rfl) rfl (i := 5) (oi := _) (v := ?vwc5) rfl (by kernel_rfl) (by kernel_rfl) (by kernel_rfl) (fun _ _ _ h => h) (Or.inl ⟨by rfl, ?hzc5⟩) hHeld ?rstc5
                case hzc5 => (intro wS hSw; subst hSw; go_simp; try with_reducible rfl)
                simp only [Act.put, List.getElem_toArray, List.getElem_cons_zero, List.getElem_cons_succ, List.setIfInBounds_toArray, List.set_cons_zero, List.set_cons_succ]
                refine AUS_take (by kernel_rfl) rfl (i := 6) (oi := _) (v := ?vwc6) rfl (by kernel_rfl) (by kernel_rfl) (by kernel_rfl) (fun _ _ _ h => h) (Or.inl ⟨by rfl, ?hzc6⟩) hHeld ?rstc6
                case hzc6 => (intro wS hSw; subst hSw; go_simp; try with_reducible rfl)
                simp only [Act.put, List.getElem_toArray, List.getElem_cons_zero, List.getElem_cons_succ, List.setIfInBounds_toArray, List.set_cons_zero, List.set_cons_succ]
                refine AUS_take (by kernel_rfl) rfl (i := 7) (oi := _) (v := ?vwc7) rfl (by kernel_rfl) (by kernel_rfl) (by kernel_rfl) (fun _ _ _ h => h) (Or.inl ⟨by rfl, ?hzc7⟩) hHeld ?rstc7
                case hzc7 => (intro wS hSw; subst hSw; go_simp; try with_reducible rfl)
                simp only [Act.put, List.getElem_toArray, List.getElem_cons_zero, List.getElem_cons_succ, List.setIfInBounds_toArray, List.set_cons_zero, List.set_cons_succ]
                refine AUS_take (by kernel_rfl) rfl (i := 8) (oi := _) (v := ?vwc8) rfl (by kernel_rfl) (by kernel_rfl) (by kernel_rfl) (fun _ _ _ h => h) (Or.inl ⟨by rfl, ?hzc8⟩) hHeld ?rstc8
                case hzc8 => (intro wS hSw; subst hSw; go_simp; try with_reducible rfl)
                simp only [Act.put, List.getElem_toArray, List.getElem_cons_zero, List.getElem_cons_succ, List.setIfInBounds_toArray, List.set_cons_zero, List.set_cons_succ]
                refine AUS_take (by kernel_rfl) rfl (i := 9) (oi := _) (v := ?vwc9) rfl (by kernel_rfl) (by kernel_rfl) (by kernel_rfl) (fun _ _ _ h => h) (Or.inl ⟨by rfl, ?hzc9⟩) hHeld ?rstc9
                case hzc9 => (intro wS hSw; subst hSw; go_simp; try with_reducible rfl)
                simp only [Act.put, List.getElem_toArray, List.getElem_cons_zero, List.getElem_cons_succ, List.setIfInBounds_toArray, List.set_cons_zero, List.set_cons_succ]
                refine AUS_take (by kernel_rfl) rfl (i := 10) (oi := _) (v := ?vwc10) rfl (by kernel_rfl) (by kernel_rfl) (by kernel_rfl) (fun _ _ _ h => h) (Or.inl ⟨by rfl, ?hzc10⟩) hHeld ?rstc10
                case hzc10 => (intro wS hSw; subst hSw; go_simp; try with_reducible rfl)
                simp only [Act.put, List.getElem_toArray, List.getElem_cons_zero, List.getElem_cons_succ, List.setIfInBounds_toArray, List.set_cons_zero, List.set_cons_succ]
                refine AUS_take (by kernel_rfl) rfl (i := 11) (oi := _) (v := ?vwc11) rfl (by kernel_rfl) (by kernel_rfl) (by kernel_rfl) (fun _ _ _ h => h) (Or.inl ⟨by rfl, ?hzc11⟩) hHeld ?rstc11
                case hzc11 => (intro wS hSw; subst hSw; go_simp; try with_reducible rfl)
                simp only [Act.put, List.getElem_toArray, List.getElem_cons_zero, List.getElem_cons_succ, List.setIfInBounds_toArray, List.set_cons_zero, List.set_cons_succ]
                refine AUS_take (by kernel_rfl) rfl (i := 12) (oi := _) (v := ?vwc12) rfl (by kernel_rfl) (by kernel_rfl) (by kernel_rfl) (fun _ _ _ h => h) (Or.inl ⟨by rfl, ?hzc12⟩) hHeld ?rstc12
                case hzc12 => (intro wS hSw; subst hSw; go_simp; try with_reducible rfl)
                simp only [Act.put, List.getElem_toArray, List.getElem_cons_zero, List.getElem_cons_succ, List.setIfInBounds_toArray, List.set_cons_zero, List.set_cons_succ]
                refine AUS_take (by kernel_rfl) rfl (i := 13) (oi := _) (v := undef) rfl (by kernel_rfl) (by kernel_rfl) (by kernel_rfl) (fun _ _ _ h => h) (Or.inr ⟨by rfl, rfl⟩) hHeld ?rstc13
                try simp only [Act.put, List.getElem_toArray, List.getElem_cons_zero, List.getElem_cons_succ, List.setIfInBounds_toArray, List.set_cons_zero, List.set_cons_succ]
                refine AUS_take (by kernel_rfl) rfl (i := 14) (oi := _) (v := undef) rfl (by kernel_rfl) (by kernel_rfl) (by kernel_rfl) (fun _ _ _ h => h) (Or.inr ⟨by rfl, rfl⟩) hHeld ?rstc14
                try simp only [Act.put, List.getElem_toArray, List.getElem_cons_zero, List.getElem_cons_succ, List.setIfInBounds_toArray, List.set_cons_zero, List.set_cons_succ]
                refine AUS_take (by kernel_rfl) rfl (i := 15) (oi := _) (v := undef) rfl (by kernel_rfl) (by kernel_rfl) (by kernel_rfl) (fun _ _ _ h => h) (Or.inr ⟨by rfl, rfl⟩) hHeld ?rstc15
                try simp only [Act.put, List.getElem_toArray, List.getElem_cons_zero, List.getElem_cons_succ, List.setIfInBounds_toArray, List.set_cons_zero, List.set_cons_succ]
                refine AUS_take (by kernel_rfl) rfl (i := 16) (oi := _) (v := undef) rfl (by kernel_rfl) (by kernel_rfl) (by kernel_rfl) (fun _ _ _ h => h) (Or.inr ⟨by rfl, rfl⟩) hHeld ?rstc16
                try simp only [Act.put, List.getElem_toArray, List.getElem_cons_zero, List.getElem_cons_succ, List.setIfInBounds_toArray, List.set_cons_zero, List.set_cons_succ]
                refine AUS_take (by kernel_rfl) rfl (i := 17) (oi := _) (v := undef) rfl (by kernel_rfl) (by kernel_rfl) (by kernel_rfl) (fun _ _ _ h => h) (Or.inr ⟨by rfl, rfl⟩) hHeld ?rstc17
                try simp only [Act.put, List.getElem_toArray, List.getElem_cons_zero, List.getElem_cons_succ, List.setIfInBounds_toArray, List.set_cons_zero, List.set_cons_succ]
                refine AUS_take (by kernel_rfl) rfl (i := 18) (oi := _) (v := undef) rfl (by kernel_rfl) (by kernel_rfl) (by kernel_rfl) (fun _ _ _ h => h) (Or.inr ⟨by rfl, rfl⟩) hHeld ?rstc18
                try simp only [Act.put, List.getElem_toArray, List.getElem_cons_zero, List.getElem_cons_succ, List.setIfInBounds_toArray, List.set_cons_zero, List.set_cons_succ]
                refine AUS_take (by kernel_rfl) rfl (i := 19) (oi := _) (v := undef) rfl (by kernel_rfl) (by kernel_rfl) (by kernel_rfl) (fun _ _ _ h => h) (Or.inr ⟨by rfl, rfl⟩) hHeld ?rstc19
                try simp only [Act.put, List.getElem_toArray, List.getElem_cons_zero, List.getElem_cons_succ, List.setIfInBounds_toArray, List.set_cons_zero, List.set_cons_succ]
                refine AUS_take (by kernel_rfl) rfl (i := 20) (oi := _) (v := undef) rfl (by kernel_rfl) (by kernel_rfl) (by kernel_rfl) (fun _ _ _ h => h) (Or.inr ⟨by rfl, rfl⟩) hHeld ?rstc20
                try simp only [Act.put, List.getElem_toArray, List.getElem_cons_zero, List.getElem_cons_succ, List.setIfInBounds_toArray, List.set_cons_zero, List.set_cons_succ]
                refine AUS_take (by kernel_rfl) rfl (i := 21) (oi := _) (v := ?vwc21) rfl (by kernel_rfl) (by kernel_rfl) (by kernel_rfl) (fun _ _ _ h => h) (Or.inl ⟨by rfl, ?hzc21⟩) hHeld ?rstc21
                case hzc21 => (intro wS hSw; subst hSw; go_simp; try with_reducible rfl)
                simp only [Act.put, List.getElem_toArray, List.getElem_cons_zero, List.getElem_cons_succ, List.setIfInBounds_toArray, List.set_cons_zero, List.set_cons_succ]
                refine AUS_take (by kernel_rfl) rfl (i := 22) (oi := _) (v := ?vwc22) rfl (by kernel_rfl) (by kernel_rfl) (by kernel_rfl) (fun _ _ _ h => h) (Or.inl ⟨by rfl, ?hzc22⟩) hHeld ?rstc22
                case hzc22 => (intro wS hSw; subst hSw; go_simp; try with_reducible rfl)
                simp only [Act.put, List.getElem_toArray, List.getElem_cons_zero, List.getElem_cons_succ, List.setIfInBounds_toArray, List.set_cons_zero, List.set_cons_succ]
                refine AU_done (by kernel_rfl) ?_ _
                simp only [OnlyN]
                go_wp2_with fail
                go_roundg (n - (k + 1))
                case rel => exact ⟨k + 1, by omega, rfl, by simp, ⟨false, rfl, Lib.hid ⟨fun h => (by cases h), fun h => absurd h HF.out⟩⟩, HB3⟩
                case measure => first | omega | (simp; omega)
      · obtain rfl : k = n := by omega
        have C := Lib.hid (right_any (c := c) HL.out (by have := H100.out; omega) (HR.out.below hI.out))
        have HE : Hid (rightB us = v) := Lib.hid (by
          have hx' := hx.out
          unfold Tells at hx'
          rw [Bool.eq_iff_iff, rightB_iff, HL.out, hx', List.take_of_length_le (by rw [HL.out]; exact Nat.le_refl _)])
        rw [HE.out] at C
        clear hlt
        go_wp2_with fail
        refine C.out.mono ?_; rintro e w2 ⟨rfl, hb2⟩
        have HB2 := Lib.hid (below_up hI.out hb2)
        clear hb2 C
        cases v
        all_goals
          go_wp2_with fail
          go_ret
          exact ⟨rfl, HB2.out⟩
end Go.Proofs.Ytbjegfkjibfadaa
