/- Call by call. -/
import Derived.Test.YtncbbfiafnpimaaTb
import Derived.Test.YtncbbfiafnpimaaBg
set_option linter.unusedVariables false
set_option linter.unusedSimpArgs false
namespace Go.Proofs.Ytncbbfiafnpimaa
open Go.RowKit Tl
set_option linter.unusedVariables false
set_option linter.unusedSimpArgs false
set_option maxRecDepth 100000 in
set_option maxHeartbeats 4000000 in
theorem runs_all (A : Option Addr) (l c : Nat) (xs : List Cl) (w : World) (hn : xs.length = l) (hm : l ≤ 300) (hr : Cls w A xs) :
    Calls Try.prog 3 #[.slice A l c] w fun e w' => e = .returned (.bool true) ∧ Below w.heap.size w w' := by
  have B := Lib.hid fit_any
  have XR := Lib.hid hr
  have HN := Lib.hid (And.intro hn hm)
  have h100 : ¬ (300 : Int) < l := by omega
  clear hr hn
  go_enter Try.func3, Try.ntmps3
  go_wp2_with fail
  refine (B.out _).mono ?_; rintro e w1 ⟨rfl, hb⟩
  have hts := TS.new hb
  have hl := heap_alloc_new (w1.alloc (Obj.cells (tc (fun _ => bare0) 0).toArray 28)) (Obj.cells (pc (fun _ => bare0)).toArray 31)
  rw [World.size_alloc] at hl
  have HI := Lib.hid (show RI w w1.heap.size (w1.heap.size + 1) 0 ((w1.alloc (Obj.cells (tc (fun _ => bare0) 0).toArray 28)).alloc (Obj.cells (pc (fun _ => bare0)).toArray 31)) from
    ⟨by have := hb.size; omega, by omega, _, hts.below (below_alloc1 _ _), hl⟩)
  clear B hts hl hb
  go_wp2_with fail
  generalize w1.heap.size + 1 = L at HI ⊢
  generalize w1.heap.size = R at HI ⊢
  have h0 : (((0 : Nat) : Int)) = 0 := rfl
  go_loopg [5, 24] l (fun gh s5 i wr => ∃ (j n : Nat), j ≤ l ∧ gh = l - j ∧ i = .int .i64 j ∧ s5 = .int .i64 n ∧ Hid (RI w R L n wr))
  case atStart => exact ⟨0, 0, by omega, by omega, rfl, rfl, HI⟩
  case round =>
    obtain ⟨j, n, hj, hg, rfl, rfl, hI⟩ := hrel
    by_cases hlt : j < l
    · obtain ⟨x, hx⟩ : ∃ x, xs[j]? = some x := ⟨_, List.getElem?_eq_getElem (by rw [HN.out.1]; exact hlt)⟩
      obtain ⟨b, of, rfl, hxo, hb, q0, q1, q2, q3⟩ := XR.out j _ hx
      obtain ⟨hWL, hLR, g, hts, hlp⟩ := hI.out
      have c0 : wr.cell? ⟨b, of + j * 4, none⟩ = some (.int .i64 x.k) := by rw [hts.b.cell (p := ⟨b, _, none⟩) hb]; exact q0
      have c1 : wr.cell? ⟨b, of + j * 4 + 1, none⟩ = some (.int .i64 x.p) := by rw [hts.b.cell (p := ⟨b, _, none⟩) hb]; exact q1
      have c2 : wr.cell? ⟨b, of + j * 4 + 2, none⟩ = some (.int .i64 x.f) := by rw [hts.b.cell (p := ⟨b, _, none⟩) hb]; exact q2
      have c3 : wr.cell? ⟨b, of + j * 4 + 3, none⟩ = some (.bool x.b) := by rw [hts.b.cell (p := ⟨b, _, none⟩) hb]; exact q3
      obtain ⟨xk, xp, xf, xb⟩ := x
      dsimp only at c0 c1 c2 c3
      obtain ⟨kt, ku, k, kf1, kf2, kf2', kf3, hk⟩ := pg4 xk
      have hal := below_alloc1 wr (Obj.cells #[.int .i64 xk, .int .i64 xp, .int .i64 xf, .bool xb] 33)
      have hts2 := hts.below hal
      have hlp2 := hlp.below hal
      have hC2 := heap_alloc_new wr (Obj.cells #[.int .i64 xk, .int .i64 xp, .int .i64 xf, .bool xb] 33)
      have hCR : wr.heap.size ≠ R ∧ wr.heap.size ≠ L := ⟨by have := hts.t.lt; omega, by have := hlp.lt; omega⟩
      obtain ⟨C, eC⟩ : ∃ C, wr.heap.size = C := ⟨_, rfl⟩
      have HEC := Lib.hid eC
      rw [eC] at hC2 hCR
      obtain ⟨wc, ewc⟩ : ∃ x, wr.alloc (Obj.cells #[.int .i64 xk, .int .i64 xp, .int .i64 xf, .bool xb] 33) = x := ⟨_, rfl⟩
      have HEW := Lib.hid ewc
      rw [ewc] at hts2 hC2 hlp2
      have hCl : C < wc.heap.size := (Array.getElem?_eq_some_iff.1 hC2).1
      have HX := Lib.hid (And.intro hts2 (And.intro hlp2 (And.intro hC2 (And.intro hCR hCl))))
      have HLR := Lib.hid (And.intro hWL hLR)
      have HK := Lib.hid hk
      have HJ := Lib.hid (And.intro hj (And.intro hg hlt))
      clear hts hlp hts2 hC2 hlp2 hal hCR hI eC ewc hx hxo hb q0 q1 q2 q3 hj hg hWL hLR hk HI hCl
      go_upto_block 2 with fail
      rw [HEC.out, HEW.out]
      go_cut [5] (fun s5 wx => ∃ n' : Nat, s5 = .int .i64 (n' : Int) ∧ Hid (RI w R L n' wx))
      case first =>
        clear kf1 kf2 kf2'
        have hcell : ∀ X : World, X.heap[C]? = wc.heap[C]? → X.cell? ⟨C, 1, none⟩ = some (.int .i64 xp) ∧ X.cell? ⟨C, 2, none⟩ = some (.int .i64 xf) ∧ X.cell? ⟨C, 3, none⟩ = some (.bool xb) := fun X e => by
          have := e.trans HX.out.2.2.1
          exact ⟨by rw [cell_of_row _ _ 1 _ 33 (0, 0) this]; rfl, by rw [cell_of_row _ _ 2 _ 33 (0, 0) this]; rfl, by rw [cell_of_row _ _ 3 _ 33 (0, 0) this]; rfl⟩
        have HCC := Lib.hid hcell
        have h4 : k = 0 ∨ k = 1 ∨ k = 2 ∨ k = 3 := by have := HK.out; omega
        clear hcell HEC HEW XR
        have P := Lib.hid (put_ts HX.out.1 xp xf xb)
        obtain ⟨cp, cf, cb⟩ := HCC.out wc rfl
        rcases h4 with rfl | rfl | rfl | rfl
        · by_cases hf : xf < 1
          · have hfd : decide (xf < 1) = true := decide_eq_true hf
            have HF := Lib.hid hf
            clear hf
            go_wp2_with fail
            refine P.out.mono ?_; rintro e w6 ⟨rfl, ht, h6⟩
            obtain ⟨cp6, cf6, cb6⟩ := HCC.out w6 (ht.block C HX.out.2.2.2.2 (by simpa using HX.out.2.2.2.1.1))
            have H6 := Lib.hid (show RI w R L n w6 from ⟨HLR.out.1, HLR.out.2, g, by have h := h6; unfold putG putN at h; rw [if_pos HF.out, if_pos HF.out] at h; exact h, HX.out.2.1.turn ht (by simpa using HLR.out.2)⟩)
            clear P h6 ht
            go_wp2_with fail
            go_meet
            exact ⟨n, rfl, H6⟩
          · have hfd : decide (xf < 1) = false := decide_eq_false hf
            have HF := Lib.hid hf
            clear hf
            go_wp2_with fail
            refine P.out.mono ?_; rintro e w6 ⟨rfl, ht, h6⟩
            have hC6 := ht.block C HX.out.2.2.2.2 (by simpa using HX.out.2.2.2.1.1)
            obtain ⟨cp6, cf6, cb6⟩ := HCC.out w6 hC6
            have hl6 := HX.out.2.1.turn ht (by simpa using HLR.out.2)
            have HR6 := Lib.hid hl6.places
            have HU6 := Lib.hid Try.underlying31
            have HZ6 := Lib.hid (show (Try.prog.info? 31).map (·.size) = some (pc g).length from size31)
            obtain ⟨PA, ePA⟩ : ∃ PA, (pc g).toArray = PA := ⟨_, rfl⟩
            have HG6 := Lib.hid (And.intro h6 (And.intro hl6 (And.intro hC6 HX.out.2.2.2.2)))
            clear P h6 ht hC6 hl6
            go_wp2_with (with_reducible refine wpList_load_mid rfl 31 (.tmp 4) rfl L 0 rfl (pc g) _ HR6.out HU6.out rfl HZ6.out ?_)
            go_wp2_with fail
            have EPA := Lib.hid ePA
            have HI6 := Lib.hid (Below.refl w6.heap.size w6)
            clear ePA HR6 HU6 HZ6 cp cf cb cp6 cf6 cb6
            go_loopg [8, 53] 4 (fun gh a i wx => ∃ z : Nat, z ≤ 4 ∧ gh = 4 - z ∧ i = .int .i64 z ∧ (∃ av : Int, a = .int .i64 av ∧ Hid (av = atv g xp z)) ∧ Hid (Below w6.heap.size w6 wx))
            case atStart => exact ⟨0, by omega, by omega, rfl, ⟨-1, rfl, Lib.hid rfl⟩, HI6⟩
            case round =>
              clear HI6
              obtain ⟨z, hz, hgz, rfl, ⟨av, rfl, HA⟩, hB6⟩ := hrel
              by_cases hlz : z < 4
              · have RP := run_lplace g wr hlz
                rw [EPA.out] at RP
                have hC7 : C < wr.heap.size := by have := hB6.out.size; have := HG6.out.2.2.2; have := HX.out.2.2.2.2; have := HG6.out.2.2.1; have : C < w6.heap.size := (Array.getElem?_eq_some_iff.1 (HG6.out.2.2.1.trans HX.out.2.2.1)).1; omega
                obtain ⟨cp7, cf7, cb7⟩ := HCC.out (wr.alloc (Obj.cells #[.int .i64 (g z).p, .int .i64 (g z).f, .bool (g z).b] 30)) (by
                  have hC6' : C < w6.heap.size := (Array.getElem?_eq_some_iff.1 (HG6.out.2.2.1.trans HX.out.2.2.1)).1
                  rw [Below.heap_alloc _ _ _ hC7, hB6.out.block C hC6']; exact HG6.out.2.2.1)
                have hs : atv g xp (z + 1) = if 0 < (g z).f ∧ (g z).p = xp then (z : Int) else atv g xp z := rfl
                have HHC := Lib.hid hC7
                clear hC7
                by_cases h1 : 0 < (g z).f
                · have h1d : decide (0 < (g z).f) = true := decide_eq_true h1
                  by_cases h2 : (g z).p = xp
                  · have h2d : ((g z).p == xp) = true := by simpa using h2
                    rw [if_pos ⟨h1, h2⟩] at hs
                    have HS := Lib.hid hs
                    clear hs h1 h2
                    go_wp2_with fail
                    go_roundg (4 - (z + 1))
                    case rel => exact ⟨z + 1, by omega, rfl, by simp, ⟨_, rfl, Lib.hid (by rw [HS.out])⟩, Lib.hid (hB6.out.trans ((below_alloc1 wr _).mono hB6.out.size))⟩
                    case measure => first | omega | (simp; omega)
                  · have h2d : ((g z).p == xp) = false := by rw [beq_eq_false_iff_ne]; exact h2
                    rw [if_neg (fun h => h2 h.2)] at hs
                    have HS := Lib.hid hs
                    clear hs h1 h2
                    go_wp2_with fail
                    go_roundg (4 - (z + 1))
                    case rel => exact ⟨z + 1, by omega, rfl, by simp, ⟨_, rfl, Lib.hid (by rw [HS.out]; exact HA.out)⟩, Lib.hid (hB6.out.trans ((below_alloc1 wr _).mono hB6.out.size))⟩
                    case measure => first | omega | (simp; omega)
                · have h1d : decide (0 < (g z).f) = false := decide_eq_false h1
                  rw [if_neg (fun h => h1 h.1)] at hs
                  have HS := Lib.hid hs
                  clear hs h1
                  go_wp2_with fail
                  go_roundg (4 - (z + 1))
                  case rel => exact ⟨z + 1, by omega, rfl, by simp, ⟨_, rfl, Lib.hid (by rw [HS.out]; exact HA.out)⟩, Lib.hid (hB6.out.trans ((below_alloc1 wr _).mono hB6.out.size))⟩
                  case measure => first | omega | (simp; omega)
              · obtain rfl : z = 4 := by omega
                have ha := HA.out
                rw [atv_ix HX.out.1.ok xp] at ha
                have hC6' : C < w6.heap.size := (Array.getElem?_eq_some_iff.1 (HG6.out.2.2.1.trans HX.out.2.2.1)).1
                obtain ⟨cp8, cf8, cb8⟩ := HCC.out wr ((hB6.out.block C hC6').trans HG6.out.2.2.1)
                have hl7 := HG6.out.2.1.below hB6.out
                have hnx := HX.out.1.ok.next
                have hg6 := HG6.out.1
                have e1 : ¬ xf < 1 := by have := HF.out; omega
                clear hlz hz hgz
                rcases ix_cases g xp with ⟨e, _⟩ | ⟨k, hk, e, _⟩
                · have e2 : (-1 : Int) < 0 := by decide
                  unfold putG putN at hg6
                  rw [e, if_neg e1, if_neg e1, if_pos e2, if_pos e2] at hg6
                  rw [e] at ha
                  subst ha
                  obtain ⟨n1, en1, en1'⟩ : ∃ n1 : Nat, ((n : Int) + 1).tmod 4 = (n1 : Int) ∧ (n + 1) % 4 = n1 := ⟨(n + 1) % 4, by rw [Int.tmod_eq_emod_of_nonneg (by omega)]; omega, rfl⟩
                  rw [en1'] at hg6
                  have hR7 := hg6.below hB6.out
                  have hE := (show RI w R L n1 (wr.setCells L (n * 3) (ec ⟨xp, xf, xb⟩)) from ⟨HLR.out.1, HLR.out.2, _, hR7.turn (setCells_turn L _ _ _) (fun b' hb' => by rw [List.mem_singleton.1 hb']; exact HLR.out), hl7.place hnx _⟩)
                  have HE := Lib.hid hE
                  have HT7 := Lib.hid (show wr.there L (n * 3) (ec ⟨xp, xf, xb⟩).toArray.size from hl7.there (n * 3) 3 (by omega))
                  have HZ7 := Lib.hid (show (Try.prog.info? 30).map (·.size) = some (ec ⟨xp, xf, xb⟩).toArray.size from size30)
                  have HO7 := Lib.hid (show (ec ⟨xp, xf, xb⟩).toArray.all (·.oneCell') = true from by kernel_rfl)
                  clear hl7 hE hR7 hg6 hC6' e e1 e2 en1' HA hB6
                  go_wp2_with (with_reducible refine wpList_store_mid rfl 30 (.tmp 83) (.tmp 82) rfl L (n * 3) (ec ⟨xp, xf, xb⟩).toArray rfl rfl HT7.out HZ7.out HO7.out ?_)
                  go_wp2_with fail
                  go_meet
                  exact ⟨_, rfl, HE⟩
                · have e2 : ¬ ((k : Int) < 0) := by omega
                  unfold putG putN at hg6
                  rw [e, if_neg e1, if_neg e1, if_neg e2, if_neg e2, Int.toNat_natCast] at hg6
                  rw [e] at ha
                  subst ha
                  have hR7 := hg6.below hB6.out
                  have hE := (show RI w R L n (wr.setCells L (k * 3) (ec ⟨xp, xf, xb⟩)) from ⟨HLR.out.1, HLR.out.2, _, hR7.turn (setCells_turn L _ _ _) (fun b' hb' => by rw [List.mem_singleton.1 hb']; exact HLR.out), hl7.place hk _⟩)
                  have HE := Lib.hid hE
                  have HT7 := Lib.hid (show wr.there L (k * 3) (ec ⟨xp, xf, xb⟩).toArray.size from hl7.there (k * 3) 3 (by omega))
                  have HZ7 := Lib.hid (show (Try.prog.info? 30).map (·.size) = some (ec ⟨xp, xf, xb⟩).toArray.size from size30)
                  have HO7 := Lib.hid (show (ec ⟨xp, xf, xb⟩).toArray.all (·.oneCell') = true from by kernel_rfl)
                  clear hl7 hE hR7 hg6 hC6' e e1 HA hB6
                  go_wp2_with (with_reducible refine wpList_store_mid rfl 30 (.tmp 83) (.tmp 82) rfl L (k * 3) (ec ⟨xp, xf, xb⟩).toArray rfl rfl HT7.out HZ7.out HO7.out ?_)
                  go_wp2_with fail
                  go_meet
                  exact ⟨_, rfl, HE⟩
        · by_cases hf : xf < 1
          · have hfd : decide (xf < 1) = true := decide_eq_true hf
            have HF := Lib.hid hf
            clear hf
            go_wp2_with fail
            refine P.out.mono ?_; rintro e w6 ⟨rfl, ht, h6⟩
            obtain ⟨cp6, cf6, cb6⟩ := HCC.out w6 (ht.block C HX.out.2.2.2.2 (by simpa using HX.out.2.2.2.1.1))
            have H6 := Lib.hid (show RI w R L n w6 from ⟨HLR.out.1, HLR.out.2, g, by have h := h6; unfold putG putN at h; rw [if_pos HF.out, if_pos HF.out] at h; exact h, HX.out.2.1.turn ht (by simpa using HLR.out.2)⟩)
            clear P h6 ht
            go_wp2_with fail
            go_meet
            exact ⟨n, rfl, H6⟩
          · have hfd : decide (xf < 1) = false := decide_eq_false hf
            have HF := Lib.hid hf
            clear hf
            go_wp2_with fail
            refine P.out.mono ?_; rintro e w6 ⟨rfl, ht, h6⟩
            have hC6 := ht.block C HX.out.2.2.2.2 (by simpa using HX.out.2.2.2.1.1)
            obtain ⟨cp6, cf6, cb6⟩ := HCC.out w6 hC6
            have hl6 := HX.out.2.1.turn ht (by simpa using HLR.out.2)
            have HR6 := Lib.hid hl6.places
            have HU6 := Lib.hid Try.underlying31
            have HZ6 := Lib.hid (show (Try.prog.info? 31).map (·.size) = some (pc g).length from size31)
            obtain ⟨PA, ePA⟩ : ∃ PA, (pc g).toArray = PA := ⟨_, rfl⟩
            have HG6 := Lib.hid (And.intro h6 (And.intro hl6 (And.intro hC6 HX.out.2.2.2.2)))
            clear P h6 ht hC6 hl6
            go_wp2_with (with_reducible refine wpList_load_mid rfl 31 (.tmp 4) rfl L 0 rfl (pc g) _ HR6.out HU6.out rfl HZ6.out ?_)
            go_wp2_with fail
            have EPA := Lib.hid ePA
            have HI6 := Lib.hid (Below.refl w6.heap.size w6)
            clear ePA HR6 HU6 HZ6 cp cf cb cp6 cf6 cb6
            go_loopg [8, 53] 4 (fun gh a i wx => ∃ z : Nat, z ≤ 4 ∧ gh = 4 - z ∧ i = .int .i64 z ∧ (∃ av : Int, a = .int .i64 av ∧ Hid (av = atv g xp z)) ∧ Hid (Below w6.heap.size w6 wx))
            case atStart => exact ⟨0, by omega, by omega, rfl, ⟨-1, rfl, Lib.hid rfl⟩, HI6⟩
            case round =>
              clear HI6
              obtain ⟨z, hz, hgz, rfl, ⟨av, rfl, HA⟩, hB6⟩ := hrel
              by_cases hlz : z < 4
              · have RP := run_lplace g wr hlz
                rw [EPA.out] at RP
                have hC7 : C < wr.heap.size := by have := hB6.out.size; have := HG6.out.2.2.2; have := HX.out.2.2.2.2; have := HG6.out.2.2.1; have : C < w6.heap.size := (Array.getElem?_eq_some_iff.1 (HG6.out.2.2.1.trans HX.out.2.2.1)).1; omega
                obtain ⟨cp7, cf7, cb7⟩ := HCC.out (wr.alloc (Obj.cells #[.int .i64 (g z).p, .int .i64 (g z).f, .bool (g z).b] 30)) (by
                  have hC6' : C < w6.heap.size := (Array.getElem?_eq_some_iff.1 (HG6.out.2.2.1.trans HX.out.2.2.1)).1
                  rw [Below.heap_alloc _ _ _ hC7, hB6.out.block C hC6']; exact HG6.out.2.2.1)
                have hs : atv g xp (z + 1) = if 0 < (g z).f ∧ (g z).p = xp then (z : Int) else atv g xp z := rfl
                have HHC := Lib.hid hC7
                clear hC7
                by_cases h1 : 0 < (g z).f
                · have h1d : decide (0 < (g z).f) = true := decide_eq_true h1
                  by_cases h2 : (g z).p = xp
                  · have h2d : ((g z).p == xp) = true := by simpa using h2
                    rw [if_pos ⟨h1, h2⟩] at hs
                    have HS := Lib.hid hs
                    clear hs h1 h2
                    go_wp2_with fail
                    go_roundg (4 - (z + 1))
                    case rel => exact ⟨z + 1, by omega, rfl, by simp, ⟨_, rfl, Lib.hid (by rw [HS.out])⟩, Lib.hid (hB6.out.trans ((below_alloc1 wr _).mono hB6.out.size))⟩
                    case measure => first | omega | (simp; omega)
                  · have h2d : ((g z).p == xp) = false := by rw [beq_eq_false_iff_ne]; exact h2
                    rw [if_neg (fun h => h2 h.2)] at hs
                    have HS := Lib.hid hs
                    clear hs h1 h2
                    go_wp2_with fail
                    go_roundg (4 - (z + 1))
                    case rel => exact ⟨z + 1, by omega, rfl, by simp, ⟨_, rfl, Lib.hid (by rw [HS.out]; exact HA.out)⟩, Lib.hid (hB6.out.trans ((below_alloc1 wr _).mono hB6.out.size))⟩
                    case measure => first | omega | (simp; omega)
                · have h1d : decide (0 < (g z).f) = false := decide_eq_false h1
                  rw [if_neg (fun h => h1 h.1)] at hs
                  have HS := Lib.hid hs
                  clear hs h1
                  go_wp2_with fail
                  go_roundg (4 - (z + 1))
                  case rel => exact ⟨z + 1, by omega, rfl, by simp, ⟨_, rfl, Lib.hid (by rw [HS.out]; exact HA.out)⟩, Lib.hid (hB6.out.trans ((below_alloc1 wr _).mono hB6.out.size))⟩
                  case measure => first | omega | (simp; omega)
              · obtain rfl : z = 4 := by omega
                have ha := HA.out
                rw [atv_ix HX.out.1.ok xp] at ha
                have hC6' : C < w6.heap.size := (Array.getElem?_eq_some_iff.1 (HG6.out.2.2.1.trans HX.out.2.2.1)).1
                obtain ⟨cp8, cf8, cb8⟩ := HCC.out wr ((hB6.out.block C hC6').trans HG6.out.2.2.1)
                have hl7 := HG6.out.2.1.below hB6.out
                have hnx := HX.out.1.ok.next
                have hg6 := HG6.out.1
                have e1 : ¬ xf < 1 := by have := HF.out; omega
                clear hlz hz hgz
                rcases ix_cases g xp with ⟨e, _⟩ | ⟨k, hk, e, _⟩
                · have e2 : (-1 : Int) < 0 := by decide
                  unfold putG putN at hg6
                  rw [e, if_neg e1, if_neg e1, if_pos e2, if_pos e2] at hg6
                  rw [e] at ha
                  subst ha
                  obtain ⟨n1, en1, en1'⟩ : ∃ n1 : Nat, ((n : Int) + 1).tmod 4 = (n1 : Int) ∧ (n + 1) % 4 = n1 := ⟨(n + 1) % 4, by rw [Int.tmod_eq_emod_of_nonneg (by omega)]; omega, rfl⟩
                  rw [en1'] at hg6
                  have hR7 := hg6.below hB6.out
                  have hE := (show RI w R L n1 (wr.setCells L (n * 3) (ec ⟨xp, xf, xb⟩)) from ⟨HLR.out.1, HLR.out.2, _, hR7.turn (setCells_turn L _ _ _) (fun b' hb' => by rw [List.mem_singleton.1 hb']; exact HLR.out), hl7.place hnx _⟩)
                  have HE := Lib.hid hE
                  have HT7 := Lib.hid (show wr.there L (n * 3) (ec ⟨xp, xf, xb⟩).toArray.size from hl7.there (n * 3) 3 (by omega))
                  have HZ7 := Lib.hid (show (Try.prog.info? 30).map (·.size) = some (ec ⟨xp, xf, xb⟩).toArray.size from size30)
                  have HO7 := Lib.hid (show (ec ⟨xp, xf, xb⟩).toArray.all (·.oneCell') = true from by kernel_rfl)
                  clear hl7 hE hR7 hg6 hC6' e e1 e2 en1' HA hB6
                  go_wp2_with (with_reducible refine wpList_store_mid rfl 30 (.tmp 83) (.tmp 82) rfl L (n * 3) (ec ⟨xp, xf, xb⟩).toArray rfl rfl HT7.out HZ7.out HO7.out ?_)
                  go_wp2_with fail
                  go_meet
                  exact ⟨_, rfl, HE⟩
                · have e2 : ¬ ((k : Int) < 0) := by omega
                  unfold putG putN at hg6
                  rw [e, if_neg e1, if_neg e1, if_neg e2, if_neg e2, Int.toNat_natCast] at hg6
                  rw [e] at ha
                  subst ha
                  have hR7 := hg6.below hB6.out
                  have hE := (show RI w R L n (wr.setCells L (k * 3) (ec ⟨xp, xf, xb⟩)) from ⟨HLR.out.1, HLR.out.2, _, hR7.turn (setCells_turn L _ _ _) (fun b' hb' => by rw [List.mem_singleton.1 hb']; exact HLR.out), hl7.place hk _⟩)
                  have HE := Lib.hid hE
                  have HT7 := Lib.hid (show wr.there L (k * 3) (ec ⟨xp, xf, xb⟩).toArray.size from hl7.there (k * 3) 3 (by omega))
                  have HZ7 := Lib.hid (show (Try.prog.info? 30).map (·.size) = some (ec ⟨xp, xf, xb⟩).toArray.size from size30)
                  have HO7 := Lib.hid (show (ec ⟨xp, xf, xb⟩).toArray.all (·.oneCell') = true from by kernel_rfl)
                  clear hl7 hE hR7 hg6 hC6' e e1 HA hB6
                  go_wp2_with (with_reducible refine wpList_store_mid rfl 30 (.tmp 83) (.tmp 82) rfl L (k * 3) (ec ⟨xp, xf, xb⟩).toArray rfl rfl HT7.out HZ7.out HO7.out ?_)
                  go_wp2_with fail
                  go_meet
                  exact ⟨_, rfl, HE⟩
        · clear P
          have hl6 := HX.out.2.1
          have HR6 := Lib.hid hl6.places
          have HU6 := Lib.hid Try.underlying31
          have HZ6 := Lib.hid (show (Try.prog.info? 31).map (·.size) = some (pc g).length from size31)
          obtain ⟨PA, ePA⟩ : ∃ PA, (pc g).toArray = PA := ⟨_, rfl⟩
          clear hl6
          go_wp2_with (with_reducible refine wpList_load_mid rfl 31 (.tmp 4) rfl L 0 rfl (pc g) _ HR6.out HU6.out rfl HZ6.out ?_)
          go_wp2_with fail
          have EPA := Lib.hid ePA
          have HI6 := Lib.hid (Below.refl wc.heap.size wc)
          clear ePA HR6 HU6 HZ6 cp cf cb
          go_loopg [11, 87] 4 (fun gh a i wx => ∃ z : Nat, z ≤ 4 ∧ gh = 4 - z ∧ i = .int .i64 z ∧ (∃ av : Int, a = .int .i64 av ∧ Hid (av = wv g xp xb z)) ∧ Hid (Below wc.heap.size wc wx))
          case atStart => exact ⟨0, by omega, by omega, rfl, ⟨0, rfl, Lib.hid rfl⟩, HI6⟩
          case round =>
            clear HI6
            obtain ⟨z, hz, hgz, rfl, ⟨av, rfl, HA⟩, hB6⟩ := hrel
            by_cases hlz : z < 4
            · have RP := run_lplace g wr hlz
              rw [EPA.out] at RP
              have hC7 : C < wr.heap.size := by have := hB6.out.size; have := HX.out.2.2.2.2; omega
              obtain ⟨cp7, cf7, cb7⟩ := HCC.out (wr.alloc (Obj.cells #[.int .i64 (g z).p, .int .i64 (g z).f, .bool (g z).b] 30)) (by
                rw [Below.heap_alloc _ _ _ hC7, hB6.out.block C HX.out.2.2.2.2])
              have hs : wv g xp xb (z + 1) = if 0 < (g z).f ∧ (g z).p = xp ∧ ((g z).b = true ∨ xb = false) then (g z).f else wv g xp xb z := rfl
              have HE7 := Lib.hid (hB6.out.trans ((below_alloc1 wr (Obj.cells #[.int .i64 (g z).p, .int .i64 (g z).f, .bool (g z).b] 30)).mono hB6.out.size))
              clear hC7 hB6
              obtain ⟨gb, egb⟩ : ∃ gb, (g z).b = gb := ⟨_, rfl⟩
              rw [egb] at RP cp7 cf7 cb7 hs HE7
              clear egb
              by_cases h1 : 0 < (g z).f
              · have h1d : decide (0 < (g z).f) = true := decide_eq_true h1
                by_cases h2 : (g z).p = xp
                · have h2d : ((g z).p == xp) = true := by simpa using h2
                  cases gb
                  rotate_left
                  · rw [if_pos ⟨h1, h2, .inl rfl⟩] at hs
                    have HS := Lib.hid hs
                    clear hs h1 h2
                    go_wp2_with fail
                    go_roundg (4 - (z + 1))
                    case rel => exact ⟨z + 1, by omega, rfl, by simp, ⟨_, rfl, Lib.hid (by rw [HS.out])⟩, HE7⟩
                    case measure => first | omega | (simp; omega)
                  · by_cases h4 : xb = false
                    · rw [if_pos ⟨h1, h2, .inr h4⟩] at hs
                      have HS := Lib.hid hs
                      clear hs h1 h2
                      go_wp2_with fail
                      go_roundg (4 - (z + 1))
                      case rel => exact ⟨z + 1, by omega, rfl, by simp, ⟨_, rfl, Lib.hid (by rw [HS.out])⟩, HE7⟩
                      case measure => first | omega | (simp; omega)
                    · rw [if_neg (fun h => h.2.2.elim (by simp) h4)] at hs
                      have h4' : xb = true := by simpa using h4
                      have HS := Lib.hid hs
                      clear hs h1 h2 h4
                      go_wp2_with fail
                      go_roundg (4 - (z + 1))
                      case rel => exact ⟨z + 1, by omega, rfl, by simp, ⟨_, rfl, Lib.hid (by rw [HS.out]; exact HA.out)⟩, HE7⟩
                      case measure => first | omega | (simp; omega)
                · have h2d : ((g z).p == xp) = false := by rw [beq_eq_false_iff_ne]; exact h2
                  rw [if_neg (fun h => h2 h.2.1)] at hs
                  have HS := Lib.hid hs
                  clear hs h1 h2
                  go_wp2_with fail
                  go_roundg (4 - (z + 1))
                  case rel => exact ⟨z + 1, by omega, rfl, by simp, ⟨_, rfl, Lib.hid (by rw [HS.out]; exact HA.out)⟩, HE7⟩
                  case measure => first | omega | (simp; omega)
              · have h1d : decide (0 < (g z).f) = false := decide_eq_false h1
                rw [if_neg (fun h => h1 h.1)] at hs
                have HS := Lib.hid hs
                clear hs h1
                go_wp2_with fail
                go_roundg (4 - (z + 1))
                case rel => exact ⟨z + 1, by omega, rfl, by simp, ⟨_, rfl, Lib.hid (by rw [HS.out]; exact HA.out)⟩, HE7⟩
                case measure => first | omega | (simp; omega)
            · obtain rfl : z = 4 := by omega
              have ha := HA.out
              rw [← wv_seek HX.out.1.ok xp] at ha
              obtain ⟨cp8, cf8, cb8⟩ := HCC.out wr (hB6.out.block C HX.out.2.2.2.2)
              have F := Lib.hid (find_ts (HX.out.1.below hB6.out) xp xb av ha.symm)
              have HL8 := Lib.hid (HX.out.2.1.below hB6.out)
              have vv : (av != av) = false := by simp
              clear hlz hz hgz ha hB6 HA
              go_wp2_with fail
              refine F.out.mono ?_; rintro e w8 ⟨rfl, hb8, h8⟩
              have HE := Lib.hid (show RI w R L n w8 from ⟨HLR.out.1, HLR.out.2, g, h8, HL8.out.below hb8⟩)
              clear F hb8 h8 cp8 cf8 cb8
              go_wp2_with fail
              go_meet
              exact ⟨n, rfl, HE⟩
        · clear P
          by_cases ha : bits .and .i64 xf 3 = 0
          · have FL := Lib.hid (flush_ts HX.out.1)
            go_wp2_with fail
            refine FL.out.mono ?_; rintro e w6 ⟨rfl, ht, h6⟩
            have hl6 := HX.out.2.1.turn ht (by simpa using HLR.out.2)
            have HE := Lib.hid (show RI w R L 0 (w6.setCells L 0 (pc (fun _ => bare0))) from ⟨HLR.out.1, HLR.out.2, _, h6.turn (setCells_turn L _ _ _) (fun b' hb' => by rw [List.mem_singleton.1 hb']; exact HLR.out), hl6.flush⟩)
            have HT7 := Lib.hid (show w6.there L 0 (pc (fun _ => bare0)).toArray.size from hl6.there 0 12 (by omega))
            have HZ7 := Lib.hid (show (Try.prog.info? 31).map (·.size) = some (pc (fun _ => bare0)).toArray.size from size31)
            have HO7 := Lib.hid (show (pc (fun _ => bare0)).toArray.all (·.oneCell') = true from by kernel_rfl)
            clear hl6 h6 ht FL
            go_wp2_with (with_reducible refine wpList_store_mid rfl 31 (.tmp 4) (.tmp 38) rfl L 0 (pc (fun _ => bare0)).toArray rfl rfl HT7.out HZ7.out HO7.out ?_)
            go_wp2_with fail
            go_meet
            exact ⟨0, rfl, HE⟩
          · have hb : (bits .and .i64 xf 3 == 0) = false := by rw [beq_eq_false_iff_ne]; exact ha
            have HE := Lib.hid (show RI w R L n wc from ⟨HLR.out.1, HLR.out.2, g, HX.out.1, HX.out.2.1⟩)
            go_wp2_with fail
            go_meet
            exact ⟨n, rfl, HE⟩
      case rest =>
        obtain ⟨n', rfl, hE⟩ := hcut
        obtain ⟨hWL, hLR, g', hts, hlp⟩ := hE.out
        have HR6 := Lib.hid hlp.places
        have HU6 := Lib.hid Try.underlying31
        have HZ6 := Lib.hid (show (Try.prog.info? 31).map (·.size) = some (pc g').length from size31)
        obtain ⟨PA, ePA⟩ : ∃ PA, (pc g').toArray = PA := ⟨_, rfl⟩
        have HTS := Lib.hid (And.intro hts hlp)
        have HI6 := Lib.hid (Below.refl wc.heap.size wc)
        have hne : ∀ X : World, RI w R L n' X → True := fun _ _ => trivial
        clear hts hlp hE kf1 kf2 kf2' kf3 c0 c1 c2 c3 hne
        go_wp2_with (with_reducible refine wpList_load_mid rfl 31 (.tmp 4) rfl L 0 rfl (pc g') _ HR6.out HU6.out rfl HZ6.out ?_)
        go_wp2_with fail
        have EPA := Lib.hid ePA
        clear ePA HR6 HU6 HZ6
        go_loopg [14, 120] 4 (fun gh a i wx => ∃ z : Nat, z ≤ 4 ∧ gh = 4 - z ∧ i = .int .i64 z ∧ (∃ m : Nat, m ≤ z ∧ a = .int .i64 m ∧ Hid (m = cn g' z)) ∧ Hid (Below wc.heap.size wc wx))
        case atStart => exact ⟨0, by omega, by omega, rfl, ⟨0, by omega, rfl, Lib.hid rfl⟩, HI6⟩
        case round =>
          clear HI6
          obtain ⟨z, hz, hgz, rfl, ⟨m, hmz, rfl, HA⟩, hB6⟩ := hrel
          by_cases hlz : z < 4
          · have RP := run_lplace g' wr hlz
            rw [EPA.out] at RP
            have hs : cn g' (z + 1) = cn g' z + if 0 < (g' z).f then 1 else 0 := rfl
            have HE7 := Lib.hid (hB6.out.trans ((below_alloc1 wr (Obj.cells #[.int .i64 (g' z).p, .int .i64 (g' z).f, .bool (g' z).b] 30)).mono hB6.out.size))
            clear hB6
            by_cases h1 : 0 < (g' z).f
            · have h1d : decide (0 < (g' z).f) = true := decide_eq_true h1
              rw [if_pos h1, ← HA.out] at hs
              have HS := Lib.hid hs
              clear hs h1
              go_wp2_with fail
              go_roundg (4 - (z + 1))
              case rel => exact ⟨z + 1, by omega, rfl, by simp, ⟨m + 1, by omega, by simp, Lib.hid (by rw [HS.out])⟩, HE7⟩
              case measure => first | omega | (simp; omega)
            · have h1d : decide (0 < (g' z).f) = false := decide_eq_false h1
              rw [if_neg h1, ← HA.out] at hs
              have HS := Lib.hid hs
              clear hs h1
              go_wp2_with fail
              go_roundg (4 - (z + 1))
              case rel => exact ⟨z + 1, by omega, rfl, by simp, ⟨m, by omega, rfl, Lib.hid (by rw [HS.out]; rfl)⟩, HE7⟩
              case measure => first | omega | (simp; omega)
          · obtain rfl : z = 4 := by omega
            have ha := HA.out
            rw [cn_cnt HTS.out.1.ok 4 (by omega)] at ha
            have F := Lib.hid (len_ts (HTS.out.1.below hB6.out) m ha.symm)
            have HL8 := Lib.hid (HTS.out.2.below hB6.out)
            have vv : ((m : Int) != (m : Int)) = false := by simp
            have HW := Lib.hid (And.intro hWL hLR)
            clear hlz hz hgz ha hB6 HA hWL hLR
            go_wp2_with fail
            refine F.out.mono ?_; rintro e w8 ⟨rfl, hb8, h8⟩
            have HE := Lib.hid (show RI w R L n' w8 from ⟨HW.out.1, HW.out.2, g', h8, HL8.out.below hb8⟩)
            clear F hb8 h8
            go_wp2_with fail
            go_roundg (l - (j + 1))
            case rel => exact ⟨j + 1, n', by have := HJ.out; omega, rfl, by simp, rfl, HE⟩
            case measure => have := HJ.out; first | omega | (simp; omega)
    · obtain rfl : j = l := by omega
      obtain ⟨_, _, g, hts, _⟩ := hI.out
      have HB := Lib.hid hts.b
      clear hts hI HI hlt hg hj XR HN
      go_wp2_with fail
      go_ret
      exact ⟨rfl, HB.out⟩
theorem runs_many (A : Option Addr) (l c : Nat) (w : World) (hm : 300 < l) :
    Calls Try.prog 3 #[.slice A l c] w fun e w' => e = .returned (.bool true) ∧ Below w.heap.size w w' := by
  have B := Lib.hid fit_any
  have h100 : (300 : Int) < l := by omega
  go_enter Try.func3, Try.ntmps3
  go_wp2_with fail
  refine (B.out _).mono ?_; rintro e w1 ⟨rfl, hb⟩
  have HB := Lib.hid hb
  clear B hb
  go_wp2_with fail
  go_ret
  exact ⟨rfl, HB.out⟩
theorem runs_law (v : Value) (w : World) (h : CameC w v) : Calls Try.prog 3 #[v] w fun e w' => e = .returned (.bool true) ∧ Below w.heap.size w w' := by
  obtain ⟨A, n, c, rfl, h⟩ := h
  by_cases hm : 300 < n
  · exact runs_many A n c w hm
  · rcases h with h | ⟨xs, h1, h2, h3⟩
    · exact absurd h (by omega)
    · exact runs_all A n c xs w h1 (by omega) h3
end Go.Proofs.Ytncbbfiafnpimaa
