/- The law's right. -/
import Derived.Test.YtmadldgajjgbmaaCf
import Derived.Test.YtmadldgajjgbmaaVq
set_option linter.unusedVariables false
set_option linter.unusedSimpArgs false
namespace Go.Proofs.Ytmadldgajjgbmaa
open Go.RowKit
set_option linter.unusedVariables false
set_option linter.unusedSimpArgs false
/-- The configuration's box. -/
structure OSt (W : World) (P : Nat) (co fr nm : Int) (A1 : Option Addr) (l1 c1 : Nat) (A2 : Option Addr) (l2 c2 : Nat) (w : World) : Prop where
  b : Below W.heap.size W w
  p : w.heap[P]? = some (Obj.cells #[.int .i64 co, .int .i64 fr, .int .i64 nm, .slice A1 l1 c1, .slice A2 l2 c2] 29)
theorem OSt.below {W w w' : World} {P : Nat} {co fr nm : Int} {A1 A2 : Option Addr} {l1 c1 l2 c2 : Nat} (h : OSt W P co fr nm A1 l1 c1 A2 l2 c2 w) (hb : Below w.heap.size w w') : OSt W P co fr nm A1 l1 c1 A2 l2 c2 w' :=
  ⟨h.b.trans (hb.mono h.b.size), (hb.block _ (Array.getElem?_eq_some_iff.1 h.p).1).trans h.p⟩
theorem OSt.cell {W w : World} {P : Nat} {co fr nm : Int} {A1 A2 : Option Addr} {l1 c1 l2 c2 : Nat} (h : OSt W P co fr nm A1 l1 c1 A2 l2 c2 w) : w.cell? ⟨P, 0, none⟩ = some (.int .i64 co) ∧ w.cell? ⟨P, 1, none⟩ = some (.int .i64 fr) ∧ w.cell? ⟨P, 2, none⟩ = some (.int .i64 nm) ∧ w.cell? ⟨P, 3, none⟩ = some (.slice A1 l1 c1) ∧ w.cell? ⟨P, 4, none⟩ = some (.slice A2 l2 c2) := by
  refine ⟨?_, ?_, ?_, ?_, ?_⟩ <;> (rw [cell_of_row _ _ _ _ _ (0, 0) h.p]; rfl)
theorem conf_new (W : World) (co fr nm : Int) (A1 : Option Addr) (l1 c1 : Nat) (A2 : Option Addr) (l2 c2 : Nat) : OSt W W.heap.size co fr nm A1 l1 c1 A2 l2 c2 (W.alloc (Obj.cells #[.int .i64 co, .int .i64 fr, .int .i64 nm, .slice A1 l1 c1, .slice A2 l2 c2] 29)) :=
  ⟨below_alloc1 _ _, heap_alloc_new W _⟩
/-- The object's box OB, the home's label in box H. -/
structure HoS (W : World) (P : Nat) (co fr nm : Int) (A1 : Option Addr) (l1 c1 : Nat) (A2 : Option Addr) (l2 c2 : Nat) (OB H : Nat) (o : Ov) (hD : Int) (ha : Option Addr) (hn hc : Nat) (hP : LP) (w : World) : Prop where
  s : OSt W P co fr nm A1 l1 c1 A2 l2 c2 w
  ox : w.heap[OB]? = some (Obj.cells (arO o) 44)
  h : w.heap[H]? = some (Obj.cells #[.int .i64 hD, .slice ha hn hc] 41)
  a : LA 300 w hD ha hn hc hP
  r : o.Rd w
  n : W.heap.size ≤ OB ∧ W.heap.size ≤ H
theorem HoS.below {W w w' : World} {P : Nat} {co fr nm : Int} {A1 A2 : Option Addr} {l1 c1 l2 c2 OB H : Nat} {o : Ov} {hD : Int} {ha : Option Addr} {hn hc : Nat} {hP : LP} (h : HoS W P co fr nm A1 l1 c1 A2 l2 c2 OB H o hD ha hn hc hP w) (hb : Below w.heap.size w w') : HoS W P co fr nm A1 l1 c1 A2 l2 c2 OB H o hD ha hn hc hP w' :=
  ⟨h.s.below hb, (hb.block _ (Array.getElem?_eq_some_iff.1 h.ox).1).trans h.ox, (hb.block _ (Array.getElem?_eq_some_iff.1 h.h).1).trans h.h, h.a.below hb, h.r.below hb, h.n⟩
theorem HoS.oc {W w : World} {P : Nat} {co fr nm : Int} {A1 A2 : Option Addr} {l1 c1 l2 c2 OB H : Nat} {o : Ov} {hD : Int} {ha : Option Addr} {hn hc : Nat} {hP : LP} (h : HoS W P co fr nm A1 l1 c1 A2 l2 c2 OB H o hD ha hn hc hP w) (j : Nat) (v : Value) (hv : (arO o)[j]? = some v) : w.cell? ⟨OB, j, none⟩ = some v := by rw [cell_of_row _ _ _ _ _ (0, 0) h.ox]; exact hv
theorem HoS.hcell {W w : World} {P : Nat} {co fr nm : Int} {A1 A2 : Option Addr} {l1 c1 l2 c2 OB H : Nat} {o : Ov} {hD : Int} {ha : Option Addr} {hn hc : Nat} {hP : LP} (h : HoS W P co fr nm A1 l1 c1 A2 l2 c2 OB H o hD ha hn hc hP w) : w.cell? ⟨H, 0, none⟩ = some (.int .i64 hD) ∧ w.cell? ⟨H, 1, none⟩ = some (.slice ha hn hc) ∧ (∀ i, w.frozen? ⟨H, i, none⟩ = false) :=
  ⟨by rw [cell_of_row _ _ _ _ _ (0, 0) h.h]; rfl, by rw [cell_of_row _ _ _ _ _ (0, 0) h.h]; rfl, fun i => frozen_of_row _ _ _ _ _ h.h⟩
/-- Whether there is a home, and its label. -/
def HomeIs (os : List Om) (pa : Int) (q : Bool) (hD : Int) (hP : LP) : Prop := (q = true → homeB os pa = some (hD, hP)) ∧ (q = false → homeB os pa = none)
theorem objB_no {os : List Om} {k : Nat} {o : Om} {q r : Bool} {X : Bool} (h : r = (q && (objB os k o && X))) (hq : q = false ∨ ¬ (0 ≤ o.pa ∧ o.pa ≤ k)) : r = false := by
  rw [h]
  rcases hq with rfl | hq
  · rfl
  · unfold objB; rw [decide_eq_false hq]; simp
set_option maxHeartbeats 8000000 in
set_option maxRecDepth 100000 in
theorem lright_any {W : World} {co fr nm : Int} {A1 A2 : Option Addr} {l1 l2 : Nat} {xs : List Sl} {ovs : List Ov} (h : CfR W A1 A2 l1 l2 xs ovs) (c1 c2 : Nat) :
    Calls Try.prog 11 #[.agg #[.int .i64 co, .int .i64 fr, .int .i64 nm, .slice A1 l1 c1, .slice A2 l2 c2]] W (BB W (rightB co fr nm xs (ovs.map Ov.m))) := by
  have HP := Lib.hid h
  have HB := Lib.hid (conf_new W co fr nm A1 l1 c1 A2 l2 c2)
  obtain ⟨P, eP⟩ : ∃ P, W.heap.size = P := ⟨_, rfl⟩
  obtain ⟨w1, e1⟩ : ∃ w1, W.alloc (Obj.cells #[.int .i64 co, .int .i64 fr, .int .i64 nm, .slice A1 l1 c1, .slice A2 l2 c2] 29) = w1 := ⟨_, rfl⟩
  rw [eP, e1] at HB
  obtain ⟨os, eos⟩ : ∃ os, ovs.map Ov.m = os := ⟨_, rfl⟩
  have HO := Lib.hid (show os.length = l2 ∧ ∀ (k : Nat) (o : Ov), ovs[k]? = some o → os[k]? = some o.m from ⟨by rw [← eos, List.length_map]; exact h.n2.1, fun k o hk => by rw [← eos, List.getElem?_map, hk]; rfl⟩)
  rw [eos]
  obtain ⟨d0, d1, d2, d3, d4⟩ := HB.out.cell
  clear h eos
  go_enter Try.func11, Try.ntmps11
  go_upto_region 2 with fail
  try rw [eP]
  try rw [e1]
  clear eP e1
  go_cut [4] from 12 to 58 (fun v4 wx => v4 = .bool (hdrB co fr nm l2 l1) ∧ wx = w1)
  case first =>
    by_cases p0 : 1 ≤ co
    · have f0a : co ≥ 1 := by omega
      have f0b : 1 ≤ co := by omega
      by_cases p1 : co ≤ 4
      · have f1a : co ≤ 4 := by omega
        by_cases p2 : 1 ≤ fr
        · have f2a : fr ≥ 1 := by omega
          have f2b : 1 ≤ fr := by omega
          by_cases p3 : fr ≤ 4096
          · have f3a : fr ≤ 4096 := by omega
            by_cases p4 : 0 ≤ nm
            · have f4a : nm ≥ 0 := by omega
              have f4b : 0 ≤ nm := by omega
              by_cases p5 : nm ≤ 4194302
              · have f5a : nm ≤ 4194302 := by omega
                by_cases p6 : l2 ≤ 64
                · have f6a : (l2 : Int) ≤ 64 := by omega
                  by_cases p7 : 1 ≤ l1
                  · have f7a : (l1 : Int) ≥ 1 := by omega
                    have f7b : (1 : Int) ≤ l1 := by omega
                    by_cases p8 : l1 ≤ 8
                    · have f8a : (l1 : Int) ≤ 8 := by omega
                      have HR := Lib.hid (show hdrB co fr nm l2 l1 = true from decide_eq_true (by omega))
                      clear p0 p1 p2 p3 p4 p5 p6 p7 p8
                      go_wp2_with fail
                      go_meet
                      exact ⟨by rw [HR.out], rfl⟩
                    · have f8a : ¬ ((l1 : Int) ≤ 8) := by omega
                      have HR := Lib.hid (show hdrB co fr nm l2 l1 = false from decide_eq_false (by omega))
                      clear p0 p1 p2 p3 p4 p5 p6 p7 p8
                      go_wp2_with fail
                      go_meet
                      exact ⟨by rw [HR.out], rfl⟩
                  · have f7a : ¬ ((l1 : Int) ≥ 1) := by omega
                    have f7b : ¬ ((1 : Int) ≤ l1) := by omega
                    have HR := Lib.hid (show hdrB co fr nm l2 l1 = false from decide_eq_false (by omega))
                    clear p0 p1 p2 p3 p4 p5 p6 p7
                    go_wp2_with fail
                    go_meet
                    exact ⟨by rw [HR.out], rfl⟩
                · have f6a : ¬ ((l2 : Int) ≤ 64) := by omega
                  have HR := Lib.hid (show hdrB co fr nm l2 l1 = false from decide_eq_false (by omega))
                  clear p0 p1 p2 p3 p4 p5 p6
                  go_wp2_with fail
                  go_meet
                  exact ⟨by rw [HR.out], rfl⟩
              · have f5a : ¬ (nm ≤ 4194302) := by omega
                have HR := Lib.hid (show hdrB co fr nm l2 l1 = false from decide_eq_false (by omega))
                clear p0 p1 p2 p3 p4 p5
                go_wp2_with fail
                go_meet
                exact ⟨by rw [HR.out], rfl⟩
            · have f4a : ¬ (nm ≥ 0) := by omega
              have f4b : ¬ (0 ≤ nm) := by omega
              have HR := Lib.hid (show hdrB co fr nm l2 l1 = false from decide_eq_false (by omega))
              clear p0 p1 p2 p3 p4
              go_wp2_with fail
              go_meet
              exact ⟨by rw [HR.out], rfl⟩
          · have f3a : ¬ (fr ≤ 4096) := by omega
            have HR := Lib.hid (show hdrB co fr nm l2 l1 = false from decide_eq_false (by omega))
            clear p0 p1 p2 p3
            go_wp2_with fail
            go_meet
            exact ⟨by rw [HR.out], rfl⟩
        · have f2a : ¬ (fr ≥ 1) := by omega
          have f2b : ¬ (1 ≤ fr) := by omega
          have HR := Lib.hid (show hdrB co fr nm l2 l1 = false from decide_eq_false (by omega))
          clear p0 p1 p2
          go_wp2_with fail
          go_meet
          exact ⟨by rw [HR.out], rfl⟩
      · have f1a : ¬ (co ≤ 4) := by omega
        have HR := Lib.hid (show hdrB co fr nm l2 l1 = false from decide_eq_false (by omega))
        clear p0 p1
        go_wp2_with fail
        go_meet
        exact ⟨by rw [HR.out], rfl⟩
    · have f0a : ¬ (co ≥ 1) := by omega
      have f0b : ¬ (1 ≤ co) := by omega
      have HR := Lib.hid (show hdrB co fr nm l2 l1 = false from decide_eq_false (by omega))
      clear p0
      go_wp2_with fail
      go_meet
      exact ⟨by rw [HR.out], rfl⟩
  case rest =>
    obtain ⟨rfl, rfl⟩ := hcut
    obtain ⟨q0, eq0⟩ : ∃ q0, hdrB co fr nm l2 l1 = q0 := ⟨_, rfl⟩
    have HH := Lib.hid eq0
    rw [eq0]
    have HL := Lib.hid (show l1 ≤ 100000 ∧ l2 ≤ 100000 from ⟨HP.out.n1.2, HP.out.n2.2⟩)
    have iu : IntKind.u64.wrap (l2 : Int) = (l2 : Int) := by have := HL.out.2; rw [IntKind.wrap_u64]; omega
    clear eq0 d0 d1 d2
    go_wp2_with fail
    go_loopg [4, 62] (l1 + 1) (fun gh v4 v62 wr => ∃ (k : Nat) (q : Bool), l1 + 1 - k ≤ gh ∧ v4 = .bool q ∧ v62 = .int .i64 k ∧ k ≤ l1 ∧ (q0 && xs.all (slB l2)) = (q && (xs.drop k).all (slB l2)) ∧ Hid (OSt W P co fr nm A1 l1 c1 A2 l2 c2 wr))
    case atStart => exact ⟨0, q0, by omega, rfl, rfl, Nat.zero_le _, rfl, HB⟩
    case round =>
      clear HB
      obtain ⟨k, q, hg, rfl, rfl, hk, hm, hI⟩ := hrel
      by_cases hlt : k < l1
      · have q1 : (k : Int) < l1 := by omega
        obtain ⟨x, hx⟩ : ∃ x, xs[k]? = some x := ⟨_, List.getElem?_eq_getElem (by rw [HP.out.n1.1]; exact hlt)⟩
        have hd : xs.drop k = x :: xs.drop (k + 1) := by
          obtain ⟨h1, h2⟩ := List.getElem?_eq_some_iff.1 hx
          rw [← h2]; exact (List.getElem_cons_drop h1).symm
        have hr := HP.out.r1.below hI.out.b
        obtain ⟨b, off, rfl⟩ := hr.some_ (by have := HP.out.n1.1; omega)
        have k0 := hr.at_ (j := 0) hx (u := inU x.ct) rfl
        rw [Nat.add_zero] at k0
        have k1 := hr.at_ (j := 1) hx (u := .int .i64 x.tk) rfl
        unfold inU at k0
        have h1 : (q0 && xs.all (slB l2)) = ((q && slB l2 x) && (xs.drop (k + 1)).all (slB l2)) := by rw [hm, hd, List.all_cons, Bool.and_assoc]
        have i1 : IntKind.i64.wrap ((k : Int) + 1) = ((k + 1 : Nat) : Int) := by have := HL.out.1; rw [IntKind.wrap_i64]; omega
        have HG := Lib.hid (And.intro hg (And.intro hlt h1))
        have HB := Lib.hid (hI.out.below (below_alloc1 _ (Obj.cells #[.int .u64 (x.ct : Int), .int .i64 x.tk] 49)))
        clear hg hlt hd hr h1 hm hk hx
        cases q
        · clear hI
          go_wp2_with fail
          go_roundg (l1 + 1 - (k + 1))
          case rel => exact ⟨k + 1, false, Nat.le_refl _, rfl, by first | rfl | simp, HG.out.2.1, HG.out.2.2, HB⟩
          case measure => have := HG.out; omega
        · clear hI
          by_cases p0 : 1 ≤ x.tk
          · have f0a : x.tk ≥ 1 := by omega
            have f0b : 1 ≤ x.tk := by omega
            by_cases p1 : x.tk ≤ 16
            · have f1a : x.tk ≤ 16 := by omega
              by_cases p2 : x.ct ≤ l2
              · have f2a : (x.ct : Int) ≤ l2 := by omega
                have HR := Lib.hid (show slB l2 x = true from decide_eq_true (by omega))
                clear p0 p1 p2
                go_wp2_with fail
                go_roundg (l1 + 1 - (k + 1))
                case rel => exact ⟨k + 1, true, Nat.le_refl _, by first | rfl | simp, by first | rfl | simp, HG.out.2.1, by have := HG.out.2.2; rw [HR.out] at this; exact this, HB⟩
                case measure => have := HG.out; omega
              · have f2a : ¬ ((x.ct : Int) ≤ l2) := by omega
                have HR := Lib.hid (show slB l2 x = false from decide_eq_false (by omega))
                clear p0 p1 p2
                go_wp2_with fail
                go_roundg (l1 + 1 - (k + 1))
                case rel => exact ⟨k + 1, false, Nat.le_refl _, by first | rfl | simp, by first | rfl | simp, HG.out.2.1, by have := HG.out.2.2; rw [HR.out] at this; exact this, HB⟩
                case measure => have := HG.out; omega
            · have f1a : ¬ (x.tk ≤ 16) := by omega
              have HR := Lib.hid (show slB l2 x = false from decide_eq_false (by omega))
              clear p0 p1
              go_wp2_with fail
              go_roundg (l1 + 1 - (k + 1))
              case rel => exact ⟨k + 1, false, Nat.le_refl _, by first | rfl | simp, by first | rfl | simp, HG.out.2.1, by have := HG.out.2.2; rw [HR.out] at this; exact this, HB⟩
              case measure => have := HG.out; omega
          · have f0a : ¬ (x.tk ≥ 1) := by omega
            have f0b : ¬ (1 ≤ x.tk) := by omega
            have HR := Lib.hid (show slB l2 x = false from decide_eq_false (by omega))
            clear p0
            go_wp2_with fail
            go_roundg (l1 + 1 - (k + 1))
            case rel => exact ⟨k + 1, false, Nat.le_refl _, by first | rfl | simp, by first | rfl | simp, HG.out.2.1, by have := HG.out.2.2; rw [HR.out] at this; exact this, HB⟩
            case measure => have := HG.out; omega
      · have q1 : ¬ (k : Int) < l1 := by omega
        obtain rfl : l1 = k := by omega
        rw [List.drop_of_length_le (by rw [HP.out.n1.1]; exact Nat.le_refl _)] at hm
        have hm : (q0 && xs.all (slB l2)) = q := by rw [hm]; simp
        have HR1 := Lib.hid (show rightB co fr nm xs os = (q && objsB os 0 os) from by unfold rightB; rw [HO.out.1, HP.out.n1.1, HH.out, hm])
        obtain ⟨d0, d1, d2, d3, d4⟩ := hI.out.cell
        clear hg hk hlt hm d0 d1 d2 d3
        go_wp2_with fail
        clear d4
        go_loopg [4, 88] (l2 + 1) (fun gh v4 v88 wr => ∃ (k : Nat) (q : Bool), l2 + 1 - k ≤ gh ∧ v4 = .bool q ∧ v88 = .int .i64 k ∧ k ≤ l2 ∧ rightB co fr nm xs os = (q && objsB os k (os.drop k)) ∧ Hid (OSt W P co fr nm A1 l1 c1 A2 l2 c2 wr))
        case atStart => exact ⟨0, q, by omega, rfl, rfl, Nat.zero_le _, HR1.out, hI⟩
        case round =>
          clear hI
          obtain ⟨k, q, hg, rfl, rfl, hk, hm, hI⟩ := hrel
          by_cases hlt : k < l2
          · have q1 : (k : Int) < l2 := by omega
            obtain ⟨o, ho⟩ : ∃ o, ovs[k]? = some o := ⟨_, List.getElem?_eq_getElem (by rw [HP.out.n2.1]; exact hlt)⟩
            have hos := HO.out.2 k o ho
            have hd : os.drop k = o.m :: os.drop (k + 1) := by
              obtain ⟨h1, h2⟩ := List.getElem?_eq_some_iff.1 hos
              rw [← h2]; exact (List.getElem_cons_drop h1).symm
            have hr := HP.out.r2.below hI.out.b
            obtain ⟨b, off, rfl⟩ := hr.some_ (by have := HP.out.n2.1; omega)
            have k0 := hr.at_ (j := 0) ho (u := .int .i64 o.m.kd) rfl
            rw [Nat.add_zero] at k0
            have k1 := hr.at_ (j := 1) ho (u := .int .i64 o.m.pa) rfl
            have k2 := hr.at_ (j := 2) ho (u := .int .i64 o.m.lD) rfl
            have k3 := hr.at_ (j := 3) ho (u := o.lv.v) rfl
            have k4 := hr.at_ (j := 4) ho (u := .int .i64 o.m.cD) rfl
            have k5 := hr.at_ (j := 5) ho (u := o.cv.v) rfl
            have k6 := hr.at_ (j := 6) ho (u := .int .i64 o.m.pg) rfl
            have k7 := hr.at_ (j := 7) ho (u := .int .i64 o.m.nm) rfl
            have k8 := hr.at_ (j := 8) ho (u := o.dv.v) rfl
            have k9 := hr.at_ (j := 9) ho (u := o.mv.v) rfl
            have k10 := hr.at_ (j := 10) ho (u := .int .i64 o.m.sp) rfl
            have k11 := hr.at_ (j := 11) ho (u := .int .i64 o.m.pc) rfl
            have h1 : rightB co fr nm xs os = (q && (objB os k o.m && objsB os (k + 1) (os.drop (k + 1)))) := by rw [hm, hd]; rfl
            have i1 : IntKind.i64.wrap ((k : Int) + 1) = ((k + 1 : Nat) : Int) := by have := HL.out.2; rw [IntKind.wrap_i64]; omega
            obtain ⟨OB, eOB⟩ : ∃ OB, wr.heap.size = OB := ⟨_, rfl⟩
            obtain ⟨ws, ews⟩ : ∃ ws, wr.alloc (Obj.cells (arO o) 44) = ws := ⟨_, rfl⟩
            have hob : ws.heap[OB]? = some (Obj.cells (arO o) 44) := by rw [← ews, ← eOB]; exact heap_alloc_new wr _
            have hbs : Below wr.heap.size wr ws := by rw [← ews]; exact below_alloc1 wr _
            have HW := Lib.hid (And.intro hob (And.intro (hI.out.below hbs) (And.intro (((HP.out.o2 o (List.mem_of_getElem? ho)).below hI.out.b).below hbs) (show W.heap.size ≤ OB from by rw [← eOB]; exact hI.out.b.size))))
            have HG := Lib.hid (And.intro hg (And.intro hlt (And.intro h1 ho)))
            have HE := Lib.hid (And.intro ews eOB)
            clear hg hlt hd hr h1 hm hk ho hos eOB ews hob hbs
            go_upto_region 11 with fail
            obtain ⟨ews, eOB⟩ := HE.out
            unfold arO at ews
            rw [ews, eOB]
            clear ews eOB HE k0 k1 k2 k3 k4 k5 k6 k7 k8 k9 k10 k11 hI
            have x1 : ws.cell? ⟨OB, 1, none⟩ = some (.int .i64 o.m.pa) := by rw [cell_of_row _ _ _ _ _ (0, 0) HW.out.1]; rfl
            cases q
            · have HR := Lib.hid (objB_no HG.out.2.2.1 (.inl rfl))
              go_wp2_with fail
              go_ret
              exact ⟨by rw [HR.out]; first | rfl | simp, HW.out.2.1.b⟩
            by_cases hpa : 0 ≤ o.m.pa ∧ o.m.pa ≤ k
            · obtain ⟨hp0, hp1⟩ := hpa
              have y0 : o.m.pa ≥ 0 := hp0
              have HPA := Lib.hid (And.intro hp0 hp1)
              go_upto_region 15 with fail
              obtain ⟨w3, e3⟩ : ∃ w3, ws.alloc (Obj.cells #[.int .i64 2, .slice none 0 0] 41) = w3 := ⟨_, rfl⟩
              obtain ⟨H, eH⟩ : ∃ H, ws.heap.size = H := ⟨_, rfl⟩
              have hb3 : Below ws.heap.size ws w3 := by rw [← e3]; exact below_alloc1 ws _
              have hh3 : w3.heap[H]? = some (Obj.cells #[.int .i64 2, .slice none 0 0] 41) := by rw [← e3, ← eH]; exact heap_alloc_new ws _
              have HS := Lib.hid (show HoS W P co fr nm A1 l1 c1 (some ⟨b, off, none⟩) l2 c2 OB H o 2 none 0 0 [] w3 from ⟨HW.out.2.1.below hb3, (hb3.block OB (Array.getElem?_eq_some_iff.1 HW.out.1).1).trans HW.out.1, hh3, ⟨Lab.ok_nil 2, by simp, .inl ⟨rfl, rfl⟩⟩, HW.out.2.2.1.below hb3, HW.out.2.2.2, by rw [← eH]; exact HW.out.2.1.b.size⟩)
              try rw [e3]
              try rw [eH]
              have x1 := HS.out.oc 1 (.int .i64 o.m.pa) rfl
              clear e3 eH hb3 hh3 y0
              obtain ⟨qh, eqh⟩ : ∃ qh, decide (o.m.pa > 0) = qh := ⟨_, rfl⟩
              have eqh' : decide (0 < o.m.pa) = qh := eqh
              have HQ := Lib.hid eqh
              go_upto_if 110 with fail
              clear eqh eqh'
              go_cut [4, 10] from 89 to 249 (fun v4 v10 wx => ∃ (q2 : Bool) (hD : Int) (ha : Option Addr) (hn hc : Nat) (hP : LP), v4 = .bool q2 ∧ HomeIs os o.m.pa q2 hD hP ∧ Hid (HoS W P co fr nm A1 l1 c1 (some ⟨b, off, none⟩) l2 c2 OB H o hD ha hn hc hP wx))
              case first =>
                cases qh with
                | true =>
                  have hgt : 0 < o.m.pa := of_decide_eq_true HQ.out
                  obtain ⟨pn, epn⟩ : ∃ pn : Nat, o.m.pa = (pn : Int) + 1 := ⟨(o.m.pa - 1).toNat, by omega⟩
                  have hpl : pn < l2 := by have := HPA.out.2; have := HG.out.2.1; omega
                  obtain ⟨po, hpo⟩ : ∃ po, ovs[pn]? = some po := ⟨_, List.getElem?_eq_getElem (by rw [HP.out.n2.1]; exact hpl)⟩
                  have hpos := HO.out.2 pn po hpo
                  have hr := HP.out.r2.below HS.out.s.b
                  have hprd := (HP.out.o2 po (List.mem_of_getElem? hpo)).below HS.out.s.b
                  have j0 := hr.at_ (j := 0) hpo (u := .int .i64 po.m.kd) rfl
                  rw [Nat.add_zero] at j0
                  have j1 := hr.at_ (j := 1) hpo (u := .int .i64 po.m.pa) rfl
                  have j2 := hr.at_ (j := 2) hpo (u := .int .i64 po.m.lD) rfl
                  have j3 := hr.at_ (j := 3) hpo (u := po.lv.v) rfl
                  have j4 := hr.at_ (j := 4) hpo (u := .int .i64 po.m.cD) rfl
                  have j5 := hr.at_ (j := 5) hpo (u := po.cv.v) rfl
                  have j6 := hr.at_ (j := 6) hpo (u := .int .i64 po.m.pg) rfl
                  have j7 := hr.at_ (j := 7) hpo (u := .int .i64 po.m.nm) rfl
                  have j8 := hr.at_ (j := 8) hpo (u := po.dv.v) rfl
                  have j9 := hr.at_ (j := 9) hpo (u := po.mv.v) rfl
                  have j10 := hr.at_ (j := 10) hpo (u := .int .i64 po.m.sp) rfl
                  have j11 := hr.at_ (j := 11) hpo (u := .int .i64 po.m.pc) rfl
                  have x1 := HS.out.oc 1 (.int .i64 o.m.pa) rfl
                  obtain ⟨d0, d1, d2, d3, d4⟩ := HS.out.s.cell
                  have w1 : IntKind.i64.wrap (o.m.pa - 1) = (pn : Int) := by have := HL.out.2; rw [IntKind.wrap_i64]; omega
                  have q4 : (pn : Int) < l2 := by omega
                  have q5 : (0 : Int) ≤ pn := by omega
                  have HPo := Lib.hid (And.intro epn (And.intro hpos hpo))
                  clear hgt epn hpo hpos hr hprd hpl d0 d1 d2 d3
                  go_upto_region 17 with fail
                  obtain ⟨w4, e4⟩ : ∃ w4, w3.alloc (Obj.cells (arO po) 44) = w4 := ⟨_, rfl⟩
                  obtain ⟨PB, ePB⟩ : ∃ PB, w3.heap.size = PB := ⟨_, rfl⟩
                  have hb4 : Below w3.heap.size w3 w4 := by rw [← e4]; exact below_alloc1 w3 _
                  have hp4 : w4.heap[PB]? = some (Obj.cells (arO po) 44) := by rw [← e4, ← ePB]; exact heap_alloc_new w3 _
                  have HS4 := Lib.hid (HS.out.below hb4)
                  unfold arO at e4
                  rw [e4, ePB]
                  have z0 : w4.cell? ⟨PB, 0, none⟩ = some (.int .i64 po.m.kd) := by rw [cell_of_row _ _ _ _ _ (0, 0) hp4]; rfl
                  have z2 : w4.cell? ⟨PB, 2, none⟩ = some (.int .i64 po.m.lD) := by rw [cell_of_row _ _ _ _ _ (0, 0) hp4]; rfl
                  have z3 : w4.cell? ⟨PB, 3, none⟩ = some po.lv.v := by rw [cell_of_row _ _ _ _ _ (0, 0) hp4]; rfl
                  obtain ⟨y0, y1, yf⟩ := HS4.out.hcell
                  obtain ⟨q2, eq2⟩ : ∃ q2, (po.m.kd == 1) = q2 := ⟨_, rfl⟩
                  have HQ2 := Lib.hid eq2
                  have hs0 := heap_setCell_same w4 H 0 _ 41 (.int .i64 po.m.lD) HS4.out.h
                  have hs1 := heap_setCell_same _ H 1 _ 41 po.lv.v hs0
                  have ho : ∀ bb, bb ≠ H → ((w4.setCell ⟨H, 0, none⟩ (.int .i64 po.m.lD)).setCell ⟨H, 1, none⟩ po.lv.v).heap[bb]? = w4.heap[bb]? := fun bb hb => (heap_setCell_other _ _ _ _ hb).trans (heap_setCell_other _ _ _ _ hb)
                  have hbW : Below W.heap.size W ((w4.setCell ⟨H, 0, none⟩ (.int .i64 po.m.lD)).setCell ⟨H, 1, none⟩ po.lv.v) := (HS4.out.s.b.setCell (p := ⟨H, 0, none⟩) HS4.out.n.2 _).setCell (p := ⟨H, 1, none⟩) HS4.out.n.2 _
                  have HFin := Lib.hid (show HoS W P co fr nm A1 l1 c1 (some ⟨b, off, none⟩) l2 c2 OB H o po.m.lD po.lv.a po.lv.n po.lv.c po.m.lP ((w4.setCell ⟨H, 0, none⟩ (.int .i64 po.m.lD)).setCell ⟨H, 1, none⟩ po.lv.v) from ⟨⟨hbW, (ho P fun e => absurd (cells_ty (by rw [← e]; exact HS4.out.s.p) HS4.out.h) (by decide)).trans HS4.out.s.p⟩, (ho OB fun e => absurd (cells_ty (by rw [← e]; exact HS4.out.ox) HS4.out.h) (by decide)).trans HS4.out.ox, by simpa using hs1, ((HP.out.o2 po (List.mem_of_getElem? HPo.out.2.2)).below hbW).l, (HP.out.o2 o (List.mem_of_getElem? HG.out.2.2.2)).below hbW, HS4.out.n⟩)
                  have HHm := Lib.hid (show HomeIs os o.m.pa q2 po.m.lD po.m.lP from by
                    have h0 : o.m.pa ≠ 0 := by have := HPo.out.1; omega
                    have h1 : (o.m.pa - 1).toNat = pn := by have := HPo.out.1; omega
                    unfold HomeIs homeB
                    rw [if_neg h0, h1, HPo.out.2.1]
                    simp only
                    refine ⟨fun h => ?_, fun h => ?_⟩
                    · rw [if_pos (by rw [h] at eq2; simpa using eq2)]
                    · rw [if_neg (by rw [h] at eq2; simpa using eq2)])
                  clear e4 ePB hb4 hp4 hs0 hs1 ho hbW j0 j1 j2 j3 j4 j5 j6 j7 j8 j9 j10 j11 x1 d4 w1 q4 q5
                  go_wp2_with fail
                  go_meet
                  exact ⟨q2, _, _, _, _, _, rfl, HHm.out, HFin⟩
                | false =>
                  have hz : o.m.pa = 0 := by have := of_decide_eq_false HQ.out; have := HPA.out; omega
                  have HZ := Lib.hid (show HomeIs os o.m.pa true 2 [] from ⟨fun _ => by unfold homeB; rw [if_pos hz], fun h => (by cases h)⟩)
                  clear hz
                  go_wp2_with fail
                  go_meet
                  exact ⟨true, 2, none, 0, 0, [], rfl, HZ.out, HS⟩
              case rest =>
                clear HS HQ x1
                obtain ⟨q2, hD, ha, hn, hc, hP, rfl, hHm, hI⟩ := hcut
                have HHm := Lib.hid hHm
                have CO := Lib.hid (rowns_m hI.out.r.l (by omega))
                have x2 := hI.out.oc 2 (.int .i64 o.m.lD) rfl
                have x3 := hI.out.oc 3 o.lv.v rfl
                clear hHm
                go_wp2_with fail
                refine CO.out.mono ?_
                rintro e wa ⟨a5, c5, rfl, hor, hb⟩
                have HI := Lib.hid (hI.out.below hb)
                obtain ⟨qp, eqp⟩ : ∃ qp, (((Lab.owns o.m.lP).length : Int) == 0) = qp := ⟨_, rfl⟩
                have HQP := Lib.hid (show pln o.m.lP = qp from by
                  rw [← eqp]; unfold pln
                  rcases Nat.eq_zero_or_pos (Lab.owns o.m.lP).length with h | h
                  · rw [h]; rfl
                  · rw [decide_eq_false (by omega)]; symm; rw [beq_eq_false_iff_ne]; omega)
                clear hor hb CO x2 x3 hI
                go_upto_region 20 with fail
                clear eqp
                have HF := Lib.hid (fun (wS : World) (hS : Below wa.heap.size wa wS) => (show wS.cell? ⟨OB, 2, none⟩ = some (.int .i64 o.m.lD) ∧ wS.cell? ⟨OB, 3, none⟩ = some o.lv.v ∧ wS.cell? ⟨H, 0, none⟩ = some (.int .i64 hD) ∧ wS.cell? ⟨H, 1, none⟩ = some (.slice ha hn hc) from ⟨(HI.out.below hS).oc 2 _ rfl, (HI.out.below hS).oc 3 _ rfl, (HI.out.below hS).hcell.1, (HI.out.below hS).hcell.2.1⟩))
                go_cut [4] from 89 to 249 (fun v4 wx => v4 = .bool (homeOk (homeB os o.m.pa) o.m) ∧ Hid (HoS W P co fr nm A1 l1 c1 (some ⟨b, off, none⟩) l2 c2 OB H o hD ha hn hc hP wx))
                case first =>
                  cases q2
                  · have HV := Lib.hid (show homeOk (homeB os o.m.pa) o.m = false from by rw [HHm.out.2 rfl]; rfl)
                    refine region_AU (Z := fun j => false) (S := fun w' => Below wa.heap.size wa w') (by kernel_rfl) ((Below.refl _ _).drew) (fun hHeld => ?_)
                    refine AUS_take (by kernel_rfl) rfl (i := 0) (oi := _) (v := ?vw501) rfl (by kernel_rfl) (by kernel_rfl) (by kernel_rfl) (fun _ _ _ h => h) (Or.inl ⟨by rfl, ?hz501⟩) hHeld ?rst501
                    case hz501 => (intro wS hSw; clear hSw; go_simp; try with_reducible rfl)
                    try simp only [Act.put, List.getElem_toArray, List.getElem_cons_zero, List.getElem_cons_succ, List.setIfInBounds_toArray, List.set_cons_zero, List.set_cons_succ]
                    refine AUS_take (by kernel_rfl) rfl (i := 1) (oi := _) (v := ?vw502) rfl (by kernel_rfl) (by kernel_rfl) (by kernel_rfl) (fun _ _ _ h => h) (Or.inl ⟨by rfl, ?hz502⟩) hHeld ?rst502
                    case hz502 => (intro wS hSw; clear hSw; go_simp; try with_reducible rfl)
                    try simp only [Act.put, List.getElem_toArray, List.getElem_cons_zero, List.getElem_cons_succ, List.setIfInBounds_toArray, List.set_cons_zero, List.set_cons_succ]
                    refine AUS_take (by kernel_rfl) rfl (i := 2) (oi := _) (v := undef) rfl (by kernel_rfl) (by kernel_rfl) (by kernel_rfl) (fun _ _ _ h => h) (Or.inr ⟨by rfl, rfl⟩) hHeld ?rst503
                    try simp only [Act.put, List.getElem_toArray, List.getElem_cons_zero, List.getElem_cons_succ, List.setIfInBounds_toArray, List.set_cons_zero, List.set_cons_succ]
                    refine AUS_take (by kernel_rfl) rfl (i := 3) (oi := _) (v := undef) rfl (by kernel_rfl) (by kernel_rfl) (by kernel_rfl) (fun _ _ _ h => h) (Or.inr ⟨by rfl, rfl⟩) hHeld ?rst504
                    try simp only [Act.put, List.getElem_toArray, List.getElem_cons_zero, List.getElem_cons_succ, List.setIfInBounds_toArray, List.set_cons_zero, List.set_cons_succ]
                    refine AUS_take (by kernel_rfl) rfl (i := 4) (oi := _) (v := undef) rfl (by kernel_rfl) (by kernel_rfl) (by kernel_rfl) (fun _ _ _ h => h) (Or.inr ⟨by rfl, rfl⟩) hHeld ?rst505
                    try simp only [Act.put, List.getElem_toArray, List.getElem_cons_zero, List.getElem_cons_succ, List.setIfInBounds_toArray, List.set_cons_zero, List.set_cons_succ]
                    refine AUS_take (by kernel_rfl) rfl (i := 5) (oi := _) (v := ?vw506) rfl (by kernel_rfl) (by kernel_rfl) (by kernel_rfl) (fun _ _ _ h => h) (Or.inl ⟨by rfl, ?hz506⟩) hHeld ?rst506
                    case hz506 => (intro wS hSw; clear hSw; go_simp; try with_reducible rfl)
                    try simp only [Act.put, List.getElem_toArray, List.getElem_cons_zero, List.getElem_cons_succ, List.setIfInBounds_toArray, List.set_cons_zero, List.set_cons_succ]
                    refine AUS_take (by kernel_rfl) rfl (i := 6) (oi := _) (v := ?vw507) rfl (by kernel_rfl) (by kernel_rfl) (by kernel_rfl) (fun _ _ _ h => h) (Or.inl ⟨by rfl, ?hz507⟩) hHeld ?rst507
                    case hz507 => (intro wS hSw; clear hSw; go_simp; try with_reducible rfl)
                    try simp only [Act.put, List.getElem_toArray, List.getElem_cons_zero, List.getElem_cons_succ, List.setIfInBounds_toArray, List.set_cons_zero, List.set_cons_succ]
                    refine AUS_take (by kernel_rfl) rfl (i := 7) (oi := _) (v := undef) rfl (by kernel_rfl) (by kernel_rfl) (by kernel_rfl) (fun _ _ _ h => h) (Or.inr ⟨by rfl, rfl⟩) hHeld ?rst508
                    try simp only [Act.put, List.getElem_toArray, List.getElem_cons_zero, List.getElem_cons_succ, List.setIfInBounds_toArray, List.set_cons_zero, List.set_cons_succ]
                    refine AUS_take (by kernel_rfl) rfl (i := 8) (oi := _) (v := undef) rfl (by kernel_rfl) (by kernel_rfl) (by kernel_rfl) (fun _ _ _ h => h) (Or.inr ⟨by rfl, rfl⟩) hHeld ?rst509
                    try simp only [Act.put, List.getElem_toArray, List.getElem_cons_zero, List.getElem_cons_succ, List.setIfInBounds_toArray, List.set_cons_zero, List.set_cons_succ]
                    refine AUS_take (by kernel_rfl) rfl (i := 9) (oi := _) (v := undef) rfl (by kernel_rfl) (by kernel_rfl) (by kernel_rfl) (fun _ _ _ h => h) (Or.inr ⟨by rfl, rfl⟩) hHeld ?rst510
                    try simp only [Act.put, List.getElem_toArray, List.getElem_cons_zero, List.getElem_cons_succ, List.setIfInBounds_toArray, List.set_cons_zero, List.set_cons_succ]
                    refine AUS_take (by kernel_rfl) rfl (i := 10) (oi := _) (v := undef) rfl (by kernel_rfl) (by kernel_rfl) (by kernel_rfl) (fun _ _ _ h => h) (Or.inr ⟨by rfl, rfl⟩) hHeld ?rst511
                    try simp only [Act.put, List.getElem_toArray, List.getElem_cons_zero, List.getElem_cons_succ, List.setIfInBounds_toArray, List.set_cons_zero, List.set_cons_succ]
                    refine AUS_take (by kernel_rfl) rfl (i := 11) (oi := _) (v := undef) rfl (by kernel_rfl) (by kernel_rfl) (by kernel_rfl) (fun _ _ _ h => h) (Or.inr ⟨by rfl, rfl⟩) hHeld ?rst512
                    try simp only [Act.put, List.getElem_toArray, List.getElem_cons_zero, List.getElem_cons_succ, List.setIfInBounds_toArray, List.set_cons_zero, List.set_cons_succ]
                    refine AUS_take (by kernel_rfl) rfl (i := 12) (oi := _) (v := ?vw513) rfl (by kernel_rfl) (by kernel_rfl) (by kernel_rfl) (fun _ _ _ h => h) (Or.inl ⟨by rfl, ?hz513⟩) hHeld ?rst513
                    case hz513 => (intro wS hSw; clear hSw; go_simp; try with_reducible rfl)
                    try simp only [Act.put, List.getElem_toArray, List.getElem_cons_zero, List.getElem_cons_succ, List.setIfInBounds_toArray, List.set_cons_zero, List.set_cons_succ]
                    refine AUS_take (by kernel_rfl) rfl (i := 13) (oi := _) (v := ?vw514) rfl (by kernel_rfl) (by kernel_rfl) (by kernel_rfl) (fun _ _ _ h => h) (Or.inl ⟨by rfl, ?hz514⟩) hHeld ?rst514
                    case hz514 => (intro wS hSw; clear hSw; go_simp; try with_reducible rfl)
                    try simp only [Act.put, List.getElem_toArray, List.getElem_cons_zero, List.getElem_cons_succ, List.setIfInBounds_toArray, List.set_cons_zero, List.set_cons_succ]
                    refine AU_done (by kernel_rfl) ?_ _
                    simp only [OnlyN]
                    have HFin := Lib.hid (HI.out.below hHeld)
                    go_wp2_with fail
                    go_meet
                    exact ⟨by rw [HV.out], HFin⟩
                  · refine region_AU (Z := fun j => false) (S := fun w' => Below wa.heap.size wa w') (by kernel_rfl) ((Below.refl _ _).drew) (fun hHeld => ?_)
                    refine AUS_take (by kernel_rfl) rfl (i := 0) (oi := _) (v := ?vw515) rfl (by kernel_rfl) (by kernel_rfl) (by kernel_rfl) (fun _ _ _ h => h) (Or.inl ⟨by rfl, ?hz515⟩) hHeld ?rst515
                    case hz515 => (intro wS hSw; clear hSw; go_simp; try with_reducible rfl)
                    try simp only [Act.put, List.getElem_toArray, List.getElem_cons_zero, List.getElem_cons_succ, List.setIfInBounds_toArray, List.set_cons_zero, List.set_cons_succ]
                    refine AUS_take (by kernel_rfl) rfl (i := 1) (oi := _) (v := ?vw516) rfl (by kernel_rfl) (by kernel_rfl) (by kernel_rfl) (fun _ _ _ h => h) (Or.inl ⟨by rfl, ?hz516⟩) hHeld ?rst516
                    case hz516 => (intro wS hSw; clear hSw; go_simp; try with_reducible rfl)
                    try simp only [Act.put, List.getElem_toArray, List.getElem_cons_zero, List.getElem_cons_succ, List.setIfInBounds_toArray, List.set_cons_zero, List.set_cons_succ]
                    refine AUS_take (by kernel_rfl) rfl (i := 2) (oi := _) (v := ?vw517) rfl (by kernel_rfl) (by kernel_rfl) (by kernel_rfl) (fun _ _ _ h => h) (Or.inl ⟨by rfl, ?hz517⟩) hHeld ?rst517
                    case hz517 => (intro wS hSw; clear hSw; go_simp; try with_reducible rfl)
                    try simp only [Act.put, List.getElem_toArray, List.getElem_cons_zero, List.getElem_cons_succ, List.setIfInBounds_toArray, List.set_cons_zero, List.set_cons_succ]
                    refine AUS_take (by kernel_rfl) rfl (i := 3) (oi := _) (v := ?vw518) rfl (by kernel_rfl) (by kernel_rfl) (by kernel_rfl) (fun _ _ _ h => h) (Or.inl ⟨by rfl, ?hz518⟩) hHeld ?rst518
                    case hz518 => (intro wS hSw; obtain ⟨f2, f3, g0, g1⟩ := HF.out wS hSw; clear hSw; go_simp; try with_reducible rfl)
                    try simp only [Act.put, List.getElem_toArray, List.getElem_cons_zero, List.getElem_cons_succ, List.setIfInBounds_toArray, List.set_cons_zero, List.set_cons_succ]
                    obtain ⟨qr, eqr⟩ : ∃ qr, Lab.right o.m.lD o.m.lP = qr := ⟨_, rfl⟩
                    have HH := Lib.hid hHeld
                    have CR := Lib.hid (rright_m (HI.out.below hHeld).r.l)
                    rw [eqr] at CR
                    clear hHeld
                    refine AU_one (i := 4) (o := _) (by kernel_rfl) rfl (fun K hK => ?_)
                    go_simp
                    refine CR.out.mono ?_
                    clear CR
                    rintro e w6 ⟨rfl, hb6⟩
                    have hHeld := HH.out.trans (hb6.mono HH.out.size)
                    clear HH hb6
                    refine hK.out _ _ (fun _ => hHeld) ?_
                    clear hK K
                    try simp only [Act.put, List.getElem_toArray, List.getElem_cons_zero, List.getElem_cons_succ, List.setIfInBounds_toArray, List.set_cons_zero, List.set_cons_succ]
                    cases qr
                    · have HV := Lib.hid (show homeOk (homeB os o.m.pa) o.m = false from by rw [HHm.out.1 rfl]; show (Lab.right o.m.lD o.m.lP && _) = false; rw [eqr]; rfl)
                      clear eqr
                      refine AUS_take (by kernel_rfl) rfl (i := 5) (oi := _) (v := ?vw519) rfl (by kernel_rfl) (by kernel_rfl) (by kernel_rfl) (fun _ _ _ h => h) (Or.inl ⟨by rfl, ?hz519⟩) hHeld ?rst519
                      case hz519 => (intro wS hSw; clear hSw; go_simp; try with_reducible rfl)
                      try simp only [Act.put, List.getElem_toArray, List.getElem_cons_zero, List.getElem_cons_succ, List.setIfInBounds_toArray, List.set_cons_zero, List.set_cons_succ]
                      refine AUS_take (by kernel_rfl) rfl (i := 6) (oi := _) (v := ?vw520) rfl (by kernel_rfl) (by kernel_rfl) (by kernel_rfl) (fun _ _ _ h => h) (Or.inl ⟨by rfl, ?hz520⟩) hHeld ?rst520
                      case hz520 => (intro wS hSw; clear hSw; go_simp; try with_reducible rfl)
                      try simp only [Act.put, List.getElem_toArray, List.getElem_cons_zero, List.getElem_cons_succ, List.setIfInBounds_toArray, List.set_cons_zero, List.set_cons_succ]
                      refine AUS_take (by kernel_rfl) rfl (i := 7) (oi := _) (v := undef) rfl (by kernel_rfl) (by kernel_rfl) (by kernel_rfl) (fun _ _ _ h => h) (Or.inr ⟨by rfl, rfl⟩) hHeld ?rst521
                      try simp only [Act.put, List.getElem_toArray, List.getElem_cons_zero, List.getElem_cons_succ, List.setIfInBounds_toArray, List.set_cons_zero, List.set_cons_succ]
                      refine AUS_take (by kernel_rfl) rfl (i := 8) (oi := _) (v := undef) rfl (by kernel_rfl) (by kernel_rfl) (by kernel_rfl) (fun _ _ _ h => h) (Or.inr ⟨by rfl, rfl⟩) hHeld ?rst522
                      try simp only [Act.put, List.getElem_toArray, List.getElem_cons_zero, List.getElem_cons_succ, List.setIfInBounds_toArray, List.set_cons_zero, List.set_cons_succ]
                      refine AUS_take (by kernel_rfl) rfl (i := 9) (oi := _) (v := undef) rfl (by kernel_rfl) (by kernel_rfl) (by kernel_rfl) (fun _ _ _ h => h) (Or.inr ⟨by rfl, rfl⟩) hHeld ?rst523
                      try simp only [Act.put, List.getElem_toArray, List.getElem_cons_zero, List.getElem_cons_succ, List.setIfInBounds_toArray, List.set_cons_zero, List.set_cons_succ]
                      refine AUS_take (by kernel_rfl) rfl (i := 10) (oi := _) (v := undef) rfl (by kernel_rfl) (by kernel_rfl) (by kernel_rfl) (fun _ _ _ h => h) (Or.inr ⟨by rfl, rfl⟩) hHeld ?rst524
                      try simp only [Act.put, List.getElem_toArray, List.getElem_cons_zero, List.getElem_cons_succ, List.setIfInBounds_toArray, List.set_cons_zero, List.set_cons_succ]
                      refine AUS_take (by kernel_rfl) rfl (i := 11) (oi := _) (v := undef) rfl (by kernel_rfl) (by kernel_rfl) (by kernel_rfl) (fun _ _ _ h => h) (Or.inr ⟨by rfl, rfl⟩) hHeld ?rst525
                      try simp only [Act.put, List.getElem_toArray, List.getElem_cons_zero, List.getElem_cons_succ, List.setIfInBounds_toArray, List.set_cons_zero, List.set_cons_succ]
                      refine AUS_take (by kernel_rfl) rfl (i := 12) (oi := _) (v := ?vw526) rfl (by kernel_rfl) (by kernel_rfl) (by kernel_rfl) (fun _ _ _ h => h) (Or.inl ⟨by rfl, ?hz526⟩) hHeld ?rst526
                      case hz526 => (intro wS hSw; clear hSw; go_simp; try with_reducible rfl)
                      try simp only [Act.put, List.getElem_toArray, List.getElem_cons_zero, List.getElem_cons_succ, List.setIfInBounds_toArray, List.set_cons_zero, List.set_cons_succ]
                      refine AUS_take (by kernel_rfl) rfl (i := 13) (oi := _) (v := ?vw527) rfl (by kernel_rfl) (by kernel_rfl) (by kernel_rfl) (fun _ _ _ h => h) (Or.inl ⟨by rfl, ?hz527⟩) hHeld ?rst527
                      case hz527 => (intro wS hSw; clear hSw; go_simp; try with_reducible rfl)
                      try simp only [Act.put, List.getElem_toArray, List.getElem_cons_zero, List.getElem_cons_succ, List.setIfInBounds_toArray, List.set_cons_zero, List.set_cons_succ]
                      refine AU_done (by kernel_rfl) ?_ _
                      simp only [OnlyN]
                      have HFin := Lib.hid (HI.out.below hHeld)
                      go_wp2_with fail
                      go_meet
                      exact ⟨by rw [HV.out], HFin⟩
                    · obtain ⟨ql, eql⟩ : ∃ ql, lq hD hP (Lab.turn 0 2 o.m.lD) (Lab.tn 0 2 o.m.lD o.m.lP) = ql := ⟨_, rfl⟩
                      have HV := Lib.hid (show homeOk (homeB os o.m.pa) o.m = ql from by rw [HHm.out.1 rfl]; show (Lab.right o.m.lD o.m.lP && lq hD hP _ _) = ql; rw [eqr, eql]; rfl)
                      have HQL := Lib.hid eql
                      clear eqr eql
                      refine AUS_take (by kernel_rfl) rfl (i := 5) (oi := _) (v := ?vw528) rfl (by kernel_rfl) (by kernel_rfl) (by kernel_rfl) (fun _ _ _ h => h) (Or.inl ⟨by rfl, ?hz528⟩) hHeld ?rst528
                      case hz528 => (intro wS hSw; clear hSw; go_simp; try with_reducible rfl)
                      try simp only [Act.put, List.getElem_toArray, List.getElem_cons_zero, List.getElem_cons_succ, List.setIfInBounds_toArray, List.set_cons_zero, List.set_cons_succ]
                      refine AUS_take (by kernel_rfl) rfl (i := 6) (oi := _) (v := ?vw529) rfl (by kernel_rfl) (by kernel_rfl) (by kernel_rfl) (fun _ _ _ h => h) (Or.inl ⟨by rfl, ?hz529⟩) hHeld ?rst529
                      case hz529 => (intro wS hSw; clear hSw; go_simp; try with_reducible rfl)
                      try simp only [Act.put, List.getElem_toArray, List.getElem_cons_zero, List.getElem_cons_succ, List.setIfInBounds_toArray, List.set_cons_zero, List.set_cons_succ]
                      refine AUS_take (by kernel_rfl) rfl (i := 7) (oi := _) (v := ?vw530) rfl (by kernel_rfl) (by kernel_rfl) (by kernel_rfl) (fun _ _ _ h => h) (Or.inl ⟨by rfl, ?hz530⟩) hHeld ?rst530
                      case hz530 => (intro wS hSw; obtain ⟨f2, f3, g0, g1⟩ := HF.out wS hSw; clear hSw; go_simp; try with_reducible rfl)
                      try simp only [Act.put, List.getElem_toArray, List.getElem_cons_zero, List.getElem_cons_succ, List.setIfInBounds_toArray, List.set_cons_zero, List.set_cons_succ]
                      refine AUS_take (by kernel_rfl) rfl (i := 8) (oi := _) (v := ?vw531) rfl (by kernel_rfl) (by kernel_rfl) (by kernel_rfl) (fun _ _ _ h => h) (Or.inl ⟨by rfl, ?hz531⟩) hHeld ?rst531
                      case hz531 => (intro wS hSw; clear hSw; go_simp; try with_reducible rfl)
                      try simp only [Act.put, List.getElem_toArray, List.getElem_cons_zero, List.getElem_cons_succ, List.setIfInBounds_toArray, List.set_cons_zero, List.set_cons_succ]
                      refine AUS_take (by kernel_rfl) rfl (i := 9) (oi := _) (v := ?vw532) rfl (by kernel_rfl) (by kernel_rfl) (by kernel_rfl) (fun _ _ _ h => h) (Or.inl ⟨by rfl, ?hz532⟩) hHeld ?rst532
                      case hz532 => (intro wS hSw; obtain ⟨f2, f3, g0, g1⟩ := HF.out wS hSw; clear hSw; go_simp; try with_reducible rfl)
                      try simp only [Act.put, List.getElem_toArray, List.getElem_cons_zero, List.getElem_cons_succ, List.setIfInBounds_toArray, List.set_cons_zero, List.set_cons_succ]
                      have HH := Lib.hid hHeld
                      have CR := Lib.hid (rrest_m (HI.out.below hHeld).r.l (by omega))
                      clear hHeld
                      refine AU_one (i := 10) (o := _) (by kernel_rfl) rfl (fun K hK => ?_)
                      go_simp
                      refine CR.out.mono ?_
                      clear CR
                      rintro e w7 ⟨a7, n7, c7, rfl, hl7, hb7⟩
                      have hHeld := HH.out.trans (hb7.mono HH.out.size)
                      have CL := Lib.hid (rleq_m (HI.out.below hHeld).a hl7.la (by omega) (by omega))
                      rw [HQL.out] at CL
                      clear HH hb7 hl7
                      refine hK.out _ _ (fun _ => hHeld) ?_
                      clear hK K
                      try simp only [Act.put, List.getElem_toArray, List.getElem_cons_zero, List.getElem_cons_succ, List.setIfInBounds_toArray, List.set_cons_zero, List.set_cons_succ]
                      have HH := Lib.hid hHeld
                      clear hHeld
                      refine AU_one (i := 11) (o := _) (by kernel_rfl) rfl (fun K hK => ?_)
                      go_simp
                      refine CL.out.mono ?_
                      clear CL
                      rintro e w8 ⟨rfl, hb8⟩
                      have hHeld := HH.out.trans (hb8.mono HH.out.size)
                      clear HH hb8
                      refine hK.out _ _ (fun _ => hHeld) ?_
                      clear hK K
                      try simp only [Act.put, List.getElem_toArray, List.getElem_cons_zero, List.getElem_cons_succ, List.setIfInBounds_toArray, List.set_cons_zero, List.set_cons_succ]
                      refine AUS_take (by kernel_rfl) rfl (i := 12) (oi := _) (v := ?vw533) rfl (by kernel_rfl) (by kernel_rfl) (by kernel_rfl) (fun _ _ _ h => h) (Or.inl ⟨by rfl, ?hz533⟩) hHeld ?rst533
                      case hz533 => (intro wS hSw; clear hSw; go_simp; try with_reducible rfl)
                      try simp only [Act.put, List.getElem_toArray, List.getElem_cons_zero, List.getElem_cons_succ, List.setIfInBounds_toArray, List.set_cons_zero, List.set_cons_succ]
                      refine AUS_take (by kernel_rfl) rfl (i := 13) (oi := _) (v := ?vw534) rfl (by kernel_rfl) (by kernel_rfl) (by kernel_rfl) (fun _ _ _ h => h) (Or.inl ⟨by rfl, ?hz534⟩) hHeld ?rst534
                      case hz534 => (intro wS hSw; clear hSw; go_simp; try with_reducible rfl)
                      try simp only [Act.put, List.getElem_toArray, List.getElem_cons_zero, List.getElem_cons_succ, List.setIfInBounds_toArray, List.set_cons_zero, List.set_cons_succ]
                      refine AU_done (by kernel_rfl) ?_ _
                      simp only [OnlyN]
                      have HFin := Lib.hid (HI.out.below hHeld)
                      go_wp2_with fail
                      go_meet
                      exact ⟨by rw [HV.out], HFin⟩
                case rest =>
                  clear HF HI
                  obtain ⟨rfl, hI⟩ := hcut
                  obtain ⟨q3, eq3⟩ : ∃ q3, homeOk (homeB os o.m.pa) o.m = q3 := ⟨_, rfl⟩
                  rw [eq3]
                  have HQ3 := Lib.hid (show objB os k o.m = (q3 && kindB l2 o.m) from by unfold objB; rw [decide_eq_true HPA.out, eq3, HO.out.1]; rfl)
                  have x0 := hI.out.oc 0 (.int .i64 o.m.kd) rfl
                  clear eq3
                  go_upto_block 4 with fail
                  clear x0
                  by_cases h1 : o.m.kd = 1
                  · as_aux_lemma =>
                      have e1 : (o.m.kd == 1) = true := by rw [h1]; rfl
                      have y6 := hI.out.oc 6 (.int .i64 o.m.pg) rfl
                      have y7 := hI.out.oc 7 (.int .i64 o.m.nm) rfl
                      cases q3
                      · have HV := Lib.hid (show (false && kindB l2 o.m) = false from rfl)
                        go_wp2_with fail
                        go_roundg (l2 + 1 - (k + 1))
                        case rel => exact ⟨k + 1, false, Nat.le_refl _, by first | rfl | (simp; done) | (simp; omega), by first | rfl | simp, HG.out.2.1, by rw [HG.out.2.2.1, HQ3.out, HV.out]; simp, Lib.hid hI.out.s⟩
                        case measure => have := HG.out; omega
                      · cases qp
                        · have HV := Lib.hid (show kindB l2 o.m = false from by unfold kindB; rw [if_pos h1]; rw [HQP.out]; rfl)
                          go_wp2_with fail
                          go_roundg (l2 + 1 - (k + 1))
                          case rel => exact ⟨k + 1, false, Nat.le_refl _, by first | rfl | (simp; done) | (simp; omega), by first | rfl | simp, HG.out.2.1, by rw [HG.out.2.2.1, HQ3.out, HV.out]; simp, Lib.hid hI.out.s⟩
                          case measure => have := HG.out; omega
                        · by_cases p0 : 0 ≤ o.m.pg
                          · have f0a : o.m.pg ≥ 0 := by omega
                            have f0b : 0 ≤ o.m.pg := by omega
                            by_cases p1 : o.m.pg ≤ 4096
                            · have f1a : o.m.pg ≤ 4096 := by omega
                              by_cases p2 : 0 ≤ o.m.nm
                              · have f2a : o.m.nm ≥ 0 := by omega
                                have f2b : 0 ≤ o.m.nm := by omega
                                by_cases p3 : o.m.nm ≤ 4194304
                                · have f3a : o.m.nm ≤ 4194304 := by omega
                                  have HV := Lib.hid (show kindB l2 o.m = true from by unfold kindB; rw [if_pos h1]; rw [HQP.out]; rw [decide_eq_true (by omega)]; rfl)
                                  clear p0 p1 p2 p3
                                  go_wp2_with fail
                                  go_roundg (l2 + 1 - (k + 1))
                                  case rel => exact ⟨k + 1, true, Nat.le_refl _, by first | rfl | (simp; done) | (simp; omega), by first | rfl | simp, HG.out.2.1, by rw [HG.out.2.2.1, HQ3.out, HV.out]; simp, Lib.hid hI.out.s⟩
                                  case measure => have := HG.out; omega
                                · have f3a : ¬ (o.m.nm ≤ 4194304) := by omega
                                  have HV := Lib.hid (show kindB l2 o.m = false from by unfold kindB; rw [if_pos h1]; rw [HQP.out]; rw [decide_eq_false (by omega)]; rfl)
                                  clear p0 p1 p2 p3
                                  go_wp2_with fail
                                  go_roundg (l2 + 1 - (k + 1))
                                  case rel => exact ⟨k + 1, false, Nat.le_refl _, by first | rfl | (simp; done) | (simp; omega), by first | rfl | simp, HG.out.2.1, by rw [HG.out.2.2.1, HQ3.out, HV.out]; simp, Lib.hid hI.out.s⟩
                                  case measure => have := HG.out; omega
                              · have f2a : ¬ (o.m.nm ≥ 0) := by omega
                                have f2b : ¬ (0 ≤ o.m.nm) := by omega
                                have HV := Lib.hid (show kindB l2 o.m = false from by unfold kindB; rw [if_pos h1]; rw [HQP.out]; rw [decide_eq_false (by omega)]; rfl)
                                clear p0 p1 p2
                                go_wp2_with fail
                                go_roundg (l2 + 1 - (k + 1))
                                case rel => exact ⟨k + 1, false, Nat.le_refl _, by first | rfl | (simp; done) | (simp; omega), by first | rfl | simp, HG.out.2.1, by rw [HG.out.2.2.1, HQ3.out, HV.out]; simp, Lib.hid hI.out.s⟩
                                case measure => have := HG.out; omega
                            · have f1a : ¬ (o.m.pg ≤ 4096) := by omega
                              have HV := Lib.hid (show kindB l2 o.m = false from by unfold kindB; rw [if_pos h1]; rw [HQP.out]; rw [decide_eq_false (by omega)]; rfl)
                              clear p0 p1
                              go_wp2_with fail
                              go_roundg (l2 + 1 - (k + 1))
                              case rel => exact ⟨k + 1, false, Nat.le_refl _, by first | rfl | (simp; done) | (simp; omega), by first | rfl | simp, HG.out.2.1, by rw [HG.out.2.2.1, HQ3.out, HV.out]; simp, Lib.hid hI.out.s⟩
                              case measure => have := HG.out; omega
                          · have f0a : ¬ (o.m.pg ≥ 0) := by omega
                            have f0b : ¬ (0 ≤ o.m.pg) := by omega
                            have HV := Lib.hid (show kindB l2 o.m = false from by unfold kindB; rw [if_pos h1]; rw [HQP.out]; rw [decide_eq_false (by omega)]; rfl)
                            clear p0
                            go_wp2_with fail
                            go_roundg (l2 + 1 - (k + 1))
                            case rel => exact ⟨k + 1, false, Nat.le_refl _, by first | rfl | (simp; done) | (simp; omega), by first | rfl | simp, HG.out.2.1, by rw [HG.out.2.2.1, HQ3.out, HV.out]; simp, Lib.hid hI.out.s⟩
                            case measure => have := HG.out; omega
                  by_cases h2 : o.m.kd = 2
                  · as_aux_lemma =>
                      have e1 : (o.m.kd == 1) = false := by rw [beq_eq_false_iff_ne]; exact h1
                      have e2 : (o.m.kd == 2) = true := by rw [h2]; rfl
                      have y6 := hI.out.oc 6 (.int .i64 o.m.pg) rfl
                      have y8 := hI.out.oc 8 o.dv.v rfl
                      have hdn := hI.out.r.d.1
                      cases q3
                      · have HV := Lib.hid (show (false && kindB l2 o.m) = false from rfl)
                        go_wp2_with fail
                        go_roundg (l2 + 1 - (k + 1))
                        case rel => exact ⟨k + 1, false, Nat.le_refl _, by first | rfl | (simp; done) | (simp; omega), by first | rfl | simp, HG.out.2.1, by rw [HG.out.2.2.1, HQ3.out, HV.out]; simp, Lib.hid hI.out.s⟩
                        case measure => have := HG.out; omega
                      · cases qp
                        · have HV := Lib.hid (show kindB l2 o.m = false from by unfold kindB; rw [if_neg (by omega)]; rw [if_pos h2]; rw [HQP.out]; rfl)
                          go_wp2_with fail
                          go_roundg (l2 + 1 - (k + 1))
                          case rel => exact ⟨k + 1, false, Nat.le_refl _, by first | rfl | (simp; done) | (simp; omega), by first | rfl | simp, HG.out.2.1, by rw [HG.out.2.2.1, HQ3.out, HV.out]; simp, Lib.hid hI.out.s⟩
                          case measure => have := HG.out; omega
                        · by_cases p0 : 0 ≤ o.m.pg
                          · have f0a : o.m.pg ≥ 0 := by omega
                            have f0b : 0 ≤ o.m.pg := by omega
                            by_cases p1 : o.m.pg ≤ 16
                            · have f1a : o.m.pg ≤ 16 := by omega
                              have w6 : IntKind.i64.wrap (64 * o.m.pg) = 64 * o.m.pg := by rw [IntKind.wrap_i64]; omega
                              by_cases p2 : (o.m.da.length : Int) ≤ 64 * o.m.pg
                              · have f2a : (o.dv.n : Int) ≤ 64 * o.m.pg := by omega
                                have HV := Lib.hid (show kindB l2 o.m = true from by unfold kindB; rw [if_neg (by omega)]; rw [if_pos h2]; rw [HQP.out]; rw [decide_eq_true (by omega)]; rfl)
                                clear p0 p1 p2 hdn
                                go_wp2_with fail
                                go_roundg (l2 + 1 - (k + 1))
                                case rel => exact ⟨k + 1, true, Nat.le_refl _, by first | rfl | (simp; done) | (simp; omega), by first | rfl | simp, HG.out.2.1, by rw [HG.out.2.2.1, HQ3.out, HV.out]; simp, Lib.hid hI.out.s⟩
                                case measure => have := HG.out; omega
                              · have f2a : ¬ (o.dv.n : Int) ≤ 64 * o.m.pg := by omega
                                have HV := Lib.hid (show kindB l2 o.m = false from by unfold kindB; rw [if_neg (by omega)]; rw [if_pos h2]; rw [HQP.out]; rw [decide_eq_false (by omega)]; rfl)
                                clear p0 p1 p2 hdn
                                go_wp2_with fail
                                go_roundg (l2 + 1 - (k + 1))
                                case rel => exact ⟨k + 1, false, Nat.le_refl _, by first | rfl | (simp; done) | (simp; omega), by first | rfl | simp, HG.out.2.1, by rw [HG.out.2.2.1, HQ3.out, HV.out]; simp, Lib.hid hI.out.s⟩
                                case measure => have := HG.out; omega
                            · have f1a : ¬ (o.m.pg ≤ 16) := by omega
                              have HV := Lib.hid (show kindB l2 o.m = false from by unfold kindB; rw [if_neg (by omega)]; rw [if_pos h2]; rw [HQP.out]; rw [decide_eq_false (by omega)]; rfl)
                              clear p0 p1
                              go_wp2_with fail
                              go_roundg (l2 + 1 - (k + 1))
                              case rel => exact ⟨k + 1, false, Nat.le_refl _, by first | rfl | (simp; done) | (simp; omega), by first | rfl | simp, HG.out.2.1, by rw [HG.out.2.2.1, HQ3.out, HV.out]; simp, Lib.hid hI.out.s⟩
                              case measure => have := HG.out; omega
                          · have f0a : ¬ (o.m.pg ≥ 0) := by omega
                            have f0b : ¬ (0 ≤ o.m.pg) := by omega
                            have HV := Lib.hid (show kindB l2 o.m = false from by unfold kindB; rw [if_neg (by omega)]; rw [if_pos h2]; rw [HQP.out]; rw [decide_eq_false (by omega)]; rfl)
                            clear p0
                            go_wp2_with fail
                            go_roundg (l2 + 1 - (k + 1))
                            case rel => exact ⟨k + 1, false, Nat.le_refl _, by first | rfl | (simp; done) | (simp; omega), by first | rfl | simp, HG.out.2.1, by rw [HG.out.2.2.1, HQ3.out, HV.out]; simp, Lib.hid hI.out.s⟩
                            case measure => have := HG.out; omega
                  by_cases h4 : o.m.kd = 4
                  · as_aux_lemma =>
                      have e1 : (o.m.kd == 1) = false := by rw [beq_eq_false_iff_ne]; exact h1
                      have e2 : (o.m.kd == 2) = false := by rw [beq_eq_false_iff_ne]; exact h2
                      have e4 : (o.m.kd == 4) = true := by rw [h4]; rfl
                      have y9 := hI.out.oc 9 o.mv.v rfl
                      cases q3
                      · have HV := Lib.hid (show (false && kindB l2 o.m) = false from rfl)
                        go_wp2_with fail
                        go_roundg (l2 + 1 - (k + 1))
                        case rel => exact ⟨k + 1, false, Nat.le_refl _, by first | rfl | (simp; done) | (simp; omega), by first | rfl | simp, HG.out.2.1, by rw [HG.out.2.2.1, HQ3.out, HV.out]; simp, Lib.hid hI.out.s⟩
                        case measure => have := HG.out; omega
                      · cases qp
                        · have HV := Lib.hid (show kindB l2 o.m = false from by unfold kindB; rw [if_neg (by omega)]; rw [if_neg (by omega)]; rw [if_pos h4]; rw [HQP.out]; rfl)
                          go_wp2_with fail
                          go_roundg (l2 + 1 - (k + 1))
                          case rel => exact ⟨k + 1, false, Nat.le_refl _, by first | rfl | (simp; done) | (simp; omega), by first | rfl | simp, HG.out.2.1, by rw [HG.out.2.2.1, HQ3.out, HV.out]; simp, Lib.hid hI.out.s⟩
                          case measure => have := HG.out; omega
                        · have CM := Lib.hid (lmaps_any (c := o.mv.c) (n := l2) hI.out.r.p.1 hI.out.r.p.2.2.2.2 hI.out.r.p.2.2.1 hI.out.r.p.2.2.2.1 HL.out.2)
                          have HV := Lib.hid (show kindB l2 o.m = mapsB l2 o.m.mp from by unfold kindB; rw [if_neg (by omega)]; rw [if_neg (by omega)]; rw [if_pos h4]; rw [HQP.out]; rfl)
                          obtain ⟨qm, eqm⟩ : ∃ qm, mapsB l2 o.m.mp = qm := ⟨_, rfl⟩
                          rw [eqm] at CM HV
                          clear eqm
                          go_wp2_with fail
                          refine CM.out.mono ?_
                          rintro e w6 ⟨rfl, hb6⟩
                          have HI6 := Lib.hid (hI.out.below hb6)
                          clear hb6 CM y9
                          go_wp2_with fail
                          go_roundg (l2 + 1 - (k + 1))
                          case rel => exact ⟨k + 1, qm, Nat.le_refl _, by first | rfl | (simp; done) | (simp; omega), by first | rfl | simp, HG.out.2.1, by rw [HG.out.2.2.1, HQ3.out, HV.out]; simp, Lib.hid HI6.out.s⟩
                          case measure => have := HG.out; omega
                  by_cases h3 : o.m.kd = 3
                  · as_aux_lemma =>
                      have e1 : (o.m.kd == 1) = false := by rw [beq_eq_false_iff_ne]; exact h1
                      have e2 : (o.m.kd == 2) = false := by rw [beq_eq_false_iff_ne]; exact h2
                      have e4 : (o.m.kd == 4) = false := by rw [beq_eq_false_iff_ne]; exact h4
                      have e3 : (o.m.kd == 3) = true := by rw [h3]; rfl
                      have y4 := hI.out.oc 4 (.int .i64 o.m.cD) rfl
                      have y5 := hI.out.oc 5 o.cv.v rfl
                      cases q3
                      · have HV := Lib.hid (show (false && kindB l2 o.m) = false from rfl)
                        go_wp2_with fail
                        go_roundg (l2 + 1 - (k + 1))
                        case rel => exact ⟨k + 1, false, Nat.le_refl _, by first | rfl | (simp; done) | (simp; omega), by first | rfl | simp, HG.out.2.1, by rw [HG.out.2.2.1, HQ3.out, HV.out]; simp, Lib.hid hI.out.s⟩
                        case measure => have := HG.out; omega
                      · have CR := Lib.hid (rright_m hI.out.r.c)
                        obtain ⟨qr, eqr⟩ : ∃ qr, Lab.right o.m.cD o.m.cP = qr := ⟨_, rfl⟩
                        have HQR := Lib.hid eqr
                        rw [eqr] at CR
                        clear eqr
                        go_wp2_with fail
                        refine CR.out.mono ?_
                        rintro e w6 ⟨rfl, hb6⟩
                        have HI6 := Lib.hid (hI.out.below hb6)
                        clear hb6 CR y4 y5
                        cases qr
                        · have HV := Lib.hid (show kindB l2 o.m = false from by unfold kindB; rw [if_neg (by omega)]; rw [if_neg (by omega)]; rw [if_neg (by omega)]; rw [if_pos (by omega)]; rw [HQR.out]; rfl)
                          go_wp2_with fail
                          go_roundg (l2 + 1 - (k + 1))
                          case rel => exact ⟨k + 1, false, Nat.le_refl _, by first | rfl | (simp; done) | (simp; omega), by first | rfl | simp, HG.out.2.1, by rw [HG.out.2.2.1, HQ3.out, HV.out]; simp, Lib.hid HI6.out.s⟩
                          case measure => have := HG.out; omega
                        · have y2 := HI6.out.oc 2 (.int .i64 o.m.lD) rfl
                          have y3 := HI6.out.oc 3 o.lv.v rfl
                          have y4 := HI6.out.oc 4 (.int .i64 o.m.cD) rfl
                          have y5 := HI6.out.oc 5 o.cv.v rfl
                          have CL := Lib.hid (rleq_m HI6.out.r.l HI6.out.r.c (by omega) (by omega))
                          obtain ⟨ql, eql⟩ : ∃ ql, lq o.m.lD o.m.lP o.m.cD o.m.cP = ql := ⟨_, rfl⟩
                          have HQL := Lib.hid eql
                          rw [eql] at CL
                          clear eql
                          go_wp2_with fail
                          refine CL.out.mono ?_
                          rintro e w7 ⟨rfl, hb7⟩
                          have HI7 := Lib.hid (HI6.out.below hb7)
                          clear hb7 CL y2 y3 y4 y5
                          cases ql
                          · have HV := Lib.hid (show kindB l2 o.m = false from by unfold kindB; rw [if_neg (by omega)]; rw [if_neg (by omega)]; rw [if_neg (by omega)]; rw [if_pos (by omega)]; rw [HQR.out, HQL.out]; rfl)
                            go_wp2_with fail
                            go_roundg (l2 + 1 - (k + 1))
                            case rel => exact ⟨k + 1, false, Nat.le_refl _, by first | rfl | (simp; done) | (simp; omega), by first | rfl | simp, HG.out.2.1, by rw [HG.out.2.2.1, HQ3.out, HV.out]; simp, Lib.hid HI7.out.s⟩
                            case measure => have := HG.out; omega
                          · have y10 := HI7.out.oc 10 (.int .i64 o.m.sp) rfl
                            have y11 := HI7.out.oc 11 (.int .i64 o.m.pc) rfl
                            by_cases p0 : 0 ≤ o.m.pc
                            · have f0a : o.m.pc ≥ 0 := by omega
                              have f0b : 0 ≤ o.m.pc := by omega
                              by_cases p1 : o.m.pc < 262144
                              · have f1a : o.m.pc < 262144 := by omega
                                by_cases p2 : 0 ≤ o.m.sp
                                · have f2a : o.m.sp ≥ 0 := by omega
                                  have f2b : 0 ≤ o.m.sp := by omega
                                  by_cases p3 : o.m.sp ≤ l2
                                  · have f3a : o.m.sp ≤ l2 := by omega
                                    have HV := Lib.hid (show kindB l2 o.m = true from by unfold kindB; rw [if_neg (by omega)]; rw [if_neg (by omega)]; rw [if_neg (by omega)]; rw [if_pos (by omega)]; rw [HQR.out, HQL.out]; rw [decide_eq_true (by omega)]; rfl)
                                    clear p0 p1 p2 p3
                                    go_wp2_with fail
                                    go_roundg (l2 + 1 - (k + 1))
                                    case rel => exact ⟨k + 1, true, Nat.le_refl _, by first | rfl | (simp; done) | (simp; omega), by first | rfl | simp, HG.out.2.1, by rw [HG.out.2.2.1, HQ3.out, HV.out]; simp, Lib.hid HI7.out.s⟩
                                    case measure => have := HG.out; omega
                                  · have f3a : ¬ (o.m.sp ≤ l2) := by omega
                                    have HV := Lib.hid (show kindB l2 o.m = false from by unfold kindB; rw [if_neg (by omega)]; rw [if_neg (by omega)]; rw [if_neg (by omega)]; rw [if_pos (by omega)]; rw [HQR.out, HQL.out]; rw [decide_eq_false (by omega)]; rfl)
                                    clear p0 p1 p2 p3
                                    go_wp2_with fail
                                    go_roundg (l2 + 1 - (k + 1))
                                    case rel => exact ⟨k + 1, false, Nat.le_refl _, by first | rfl | (simp; done) | (simp; omega), by first | rfl | simp, HG.out.2.1, by rw [HG.out.2.2.1, HQ3.out, HV.out]; simp, Lib.hid HI7.out.s⟩
                                    case measure => have := HG.out; omega
                                · have f2a : ¬ (o.m.sp ≥ 0) := by omega
                                  have f2b : ¬ (0 ≤ o.m.sp) := by omega
                                  have HV := Lib.hid (show kindB l2 o.m = false from by unfold kindB; rw [if_neg (by omega)]; rw [if_neg (by omega)]; rw [if_neg (by omega)]; rw [if_pos (by omega)]; rw [HQR.out, HQL.out]; rw [decide_eq_false (by omega)]; rfl)
                                  clear p0 p1 p2
                                  go_wp2_with fail
                                  go_roundg (l2 + 1 - (k + 1))
                                  case rel => exact ⟨k + 1, false, Nat.le_refl _, by first | rfl | (simp; done) | (simp; omega), by first | rfl | simp, HG.out.2.1, by rw [HG.out.2.2.1, HQ3.out, HV.out]; simp, Lib.hid HI7.out.s⟩
                                  case measure => have := HG.out; omega
                              · have f1a : ¬ (o.m.pc < 262144) := by omega
                                have HV := Lib.hid (show kindB l2 o.m = false from by unfold kindB; rw [if_neg (by omega)]; rw [if_neg (by omega)]; rw [if_neg (by omega)]; rw [if_pos (by omega)]; rw [HQR.out, HQL.out]; rw [decide_eq_false (by omega)]; rfl)
                                clear p0 p1
                                go_wp2_with fail
                                go_roundg (l2 + 1 - (k + 1))
                                case rel => exact ⟨k + 1, false, Nat.le_refl _, by first | rfl | (simp; done) | (simp; omega), by first | rfl | simp, HG.out.2.1, by rw [HG.out.2.2.1, HQ3.out, HV.out]; simp, Lib.hid HI7.out.s⟩
                                case measure => have := HG.out; omega
                            · have f0a : ¬ (o.m.pc ≥ 0) := by omega
                              have f0b : ¬ (0 ≤ o.m.pc) := by omega
                              have HV := Lib.hid (show kindB l2 o.m = false from by unfold kindB; rw [if_neg (by omega)]; rw [if_neg (by omega)]; rw [if_neg (by omega)]; rw [if_pos (by omega)]; rw [HQR.out, HQL.out]; rw [decide_eq_false (by omega)]; rfl)
                              clear p0
                              go_wp2_with fail
                              go_roundg (l2 + 1 - (k + 1))
                              case rel => exact ⟨k + 1, false, Nat.le_refl _, by first | rfl | (simp; done) | (simp; omega), by first | rfl | simp, HG.out.2.1, by rw [HG.out.2.2.1, HQ3.out, HV.out]; simp, Lib.hid HI7.out.s⟩
                              case measure => have := HG.out; omega
                  by_cases h5 : o.m.kd = 5
                  · as_aux_lemma =>
                      have e1 : (o.m.kd == 1) = false := by rw [beq_eq_false_iff_ne]; exact h1
                      have e2 : (o.m.kd == 2) = false := by rw [beq_eq_false_iff_ne]; exact h2
                      have e4 : (o.m.kd == 4) = false := by rw [beq_eq_false_iff_ne]; exact h4
                      have e3 : (o.m.kd == 3) = false := by rw [beq_eq_false_iff_ne]; exact h3
                      have e5 : (o.m.kd == 5) = true := by rw [h5]; rfl
                      have y4 := hI.out.oc 4 (.int .i64 o.m.cD) rfl
                      have y5 := hI.out.oc 5 o.cv.v rfl
                      cases q3
                      · have HV := Lib.hid (show (false && kindB l2 o.m) = false from rfl)
                        go_wp2_with fail
                        go_roundg (l2 + 1 - (k + 1))
                        case rel => exact ⟨k + 1, false, Nat.le_refl _, by first | rfl | (simp; done) | (simp; omega), by first | rfl | simp, HG.out.2.1, by rw [HG.out.2.2.1, HQ3.out, HV.out]; simp, Lib.hid hI.out.s⟩
                        case measure => have := HG.out; omega
                      · have CR := Lib.hid (rright_m hI.out.r.c)
                        obtain ⟨qr, eqr⟩ : ∃ qr, Lab.right o.m.cD o.m.cP = qr := ⟨_, rfl⟩
                        have HQR := Lib.hid eqr
                        rw [eqr] at CR
                        clear eqr
                        go_wp2_with fail
                        refine CR.out.mono ?_
                        rintro e w6 ⟨rfl, hb6⟩
                        have HI6 := Lib.hid (hI.out.below hb6)
                        clear hb6 CR y4 y5
                        cases qr
                        · have HV := Lib.hid (show kindB l2 o.m = false from by unfold kindB; rw [if_neg (by omega)]; rw [if_neg (by omega)]; rw [if_neg (by omega)]; rw [if_pos (by omega)]; rw [HQR.out]; rfl)
                          go_wp2_with fail
                          go_roundg (l2 + 1 - (k + 1))
                          case rel => exact ⟨k + 1, false, Nat.le_refl _, by first | rfl | (simp; done) | (simp; omega), by first | rfl | simp, HG.out.2.1, by rw [HG.out.2.2.1, HQ3.out, HV.out]; simp, Lib.hid HI6.out.s⟩
                          case measure => have := HG.out; omega
                        · have y2 := HI6.out.oc 2 (.int .i64 o.m.lD) rfl
                          have y3 := HI6.out.oc 3 o.lv.v rfl
                          have y4 := HI6.out.oc 4 (.int .i64 o.m.cD) rfl
                          have y5 := HI6.out.oc 5 o.cv.v rfl
                          have CL := Lib.hid (rleq_m HI6.out.r.l HI6.out.r.c (by omega) (by omega))
                          obtain ⟨ql, eql⟩ : ∃ ql, lq o.m.lD o.m.lP o.m.cD o.m.cP = ql := ⟨_, rfl⟩
                          have HQL := Lib.hid eql
                          rw [eql] at CL
                          clear eql
                          go_wp2_with fail
                          refine CL.out.mono ?_
                          rintro e w7 ⟨rfl, hb7⟩
                          have HI7 := Lib.hid (HI6.out.below hb7)
                          clear hb7 CL y2 y3 y4 y5
                          cases ql
                          · have HV := Lib.hid (show kindB l2 o.m = false from by unfold kindB; rw [if_neg (by omega)]; rw [if_neg (by omega)]; rw [if_neg (by omega)]; rw [if_pos (by omega)]; rw [HQR.out, HQL.out]; rfl)
                            go_wp2_with fail
                            go_roundg (l2 + 1 - (k + 1))
                            case rel => exact ⟨k + 1, false, Nat.le_refl _, by first | rfl | (simp; done) | (simp; omega), by first | rfl | simp, HG.out.2.1, by rw [HG.out.2.2.1, HQ3.out, HV.out]; simp, Lib.hid HI7.out.s⟩
                            case measure => have := HG.out; omega
                          · have y10 := HI7.out.oc 10 (.int .i64 o.m.sp) rfl
                            have y11 := HI7.out.oc 11 (.int .i64 o.m.pc) rfl
                            by_cases p0 : 0 ≤ o.m.pc
                            · have f0a : o.m.pc ≥ 0 := by omega
                              have f0b : 0 ≤ o.m.pc := by omega
                              by_cases p1 : o.m.pc < 262144
                              · have f1a : o.m.pc < 262144 := by omega
                                by_cases p2 : 0 ≤ o.m.sp
                                · have f2a : o.m.sp ≥ 0 := by omega
                                  have f2b : 0 ≤ o.m.sp := by omega
                                  by_cases p3 : o.m.sp ≤ l2
                                  · have f3a : o.m.sp ≤ l2 := by omega
                                    have HV := Lib.hid (show kindB l2 o.m = true from by unfold kindB; rw [if_neg (by omega)]; rw [if_neg (by omega)]; rw [if_neg (by omega)]; rw [if_pos (by omega)]; rw [HQR.out, HQL.out]; rw [decide_eq_true (by omega)]; rfl)
                                    clear p0 p1 p2 p3
                                    go_wp2_with fail
                                    go_roundg (l2 + 1 - (k + 1))
                                    case rel => exact ⟨k + 1, true, Nat.le_refl _, by first | rfl | (simp; done) | (simp; omega), by first | rfl | simp, HG.out.2.1, by rw [HG.out.2.2.1, HQ3.out, HV.out]; simp, Lib.hid HI7.out.s⟩
                                    case measure => have := HG.out; omega
                                  · have f3a : ¬ (o.m.sp ≤ l2) := by omega
                                    have HV := Lib.hid (show kindB l2 o.m = false from by unfold kindB; rw [if_neg (by omega)]; rw [if_neg (by omega)]; rw [if_neg (by omega)]; rw [if_pos (by omega)]; rw [HQR.out, HQL.out]; rw [decide_eq_false (by omega)]; rfl)
                                    clear p0 p1 p2 p3
                                    go_wp2_with fail
                                    go_roundg (l2 + 1 - (k + 1))
                                    case rel => exact ⟨k + 1, false, Nat.le_refl _, by first | rfl | (simp; done) | (simp; omega), by first | rfl | simp, HG.out.2.1, by rw [HG.out.2.2.1, HQ3.out, HV.out]; simp, Lib.hid HI7.out.s⟩
                                    case measure => have := HG.out; omega
                                · have f2a : ¬ (o.m.sp ≥ 0) := by omega
                                  have f2b : ¬ (0 ≤ o.m.sp) := by omega
                                  have HV := Lib.hid (show kindB l2 o.m = false from by unfold kindB; rw [if_neg (by omega)]; rw [if_neg (by omega)]; rw [if_neg (by omega)]; rw [if_pos (by omega)]; rw [HQR.out, HQL.out]; rw [decide_eq_false (by omega)]; rfl)
                                  clear p0 p1 p2
                                  go_wp2_with fail
                                  go_roundg (l2 + 1 - (k + 1))
                                  case rel => exact ⟨k + 1, false, Nat.le_refl _, by first | rfl | (simp; done) | (simp; omega), by first | rfl | simp, HG.out.2.1, by rw [HG.out.2.2.1, HQ3.out, HV.out]; simp, Lib.hid HI7.out.s⟩
                                  case measure => have := HG.out; omega
                              · have f1a : ¬ (o.m.pc < 262144) := by omega
                                have HV := Lib.hid (show kindB l2 o.m = false from by unfold kindB; rw [if_neg (by omega)]; rw [if_neg (by omega)]; rw [if_neg (by omega)]; rw [if_pos (by omega)]; rw [HQR.out, HQL.out]; rw [decide_eq_false (by omega)]; rfl)
                                clear p0 p1
                                go_wp2_with fail
                                go_roundg (l2 + 1 - (k + 1))
                                case rel => exact ⟨k + 1, false, Nat.le_refl _, by first | rfl | (simp; done) | (simp; omega), by first | rfl | simp, HG.out.2.1, by rw [HG.out.2.2.1, HQ3.out, HV.out]; simp, Lib.hid HI7.out.s⟩
                                case measure => have := HG.out; omega
                            · have f0a : ¬ (o.m.pc ≥ 0) := by omega
                              have f0b : ¬ (0 ≤ o.m.pc) := by omega
                              have HV := Lib.hid (show kindB l2 o.m = false from by unfold kindB; rw [if_neg (by omega)]; rw [if_neg (by omega)]; rw [if_neg (by omega)]; rw [if_pos (by omega)]; rw [HQR.out, HQL.out]; rw [decide_eq_false (by omega)]; rfl)
                              clear p0
                              go_wp2_with fail
                              go_roundg (l2 + 1 - (k + 1))
                              case rel => exact ⟨k + 1, false, Nat.le_refl _, by first | rfl | (simp; done) | (simp; omega), by first | rfl | simp, HG.out.2.1, by rw [HG.out.2.2.1, HQ3.out, HV.out]; simp, Lib.hid HI7.out.s⟩
                              case measure => have := HG.out; omega
                  by_cases h6 : o.m.kd = 6
                  · as_aux_lemma =>
                      have e1 : (o.m.kd == 1) = false := by rw [beq_eq_false_iff_ne]; exact h1
                      have e2 : (o.m.kd == 2) = false := by rw [beq_eq_false_iff_ne]; exact h2
                      have e4 : (o.m.kd == 4) = false := by rw [beq_eq_false_iff_ne]; exact h4
                      have e3 : (o.m.kd == 3) = false := by rw [beq_eq_false_iff_ne]; exact h3
                      have e5 : (o.m.kd == 5) = false := by rw [beq_eq_false_iff_ne]; exact h5
                      have e6 : (o.m.kd == 6) = true := by rw [h6]; rfl
                      cases q3
                      · have HV := Lib.hid (show (false && kindB l2 o.m) = false from rfl)
                        go_wp2_with fail
                        go_roundg (l2 + 1 - (k + 1))
                        case rel => exact ⟨k + 1, false, Nat.le_refl _, by first | rfl | (simp; done) | (simp; omega), by first | rfl | simp, HG.out.2.1, by rw [HG.out.2.2.1, HQ3.out, HV.out]; simp, Lib.hid hI.out.s⟩
                        case measure => have := HG.out; omega
                      · have HV := Lib.hid (show kindB l2 o.m = qp from by unfold kindB; rw [if_neg h1]; rw [if_neg h2]; rw [if_neg h4]; rw [if_neg (fun h => h.elim h3 h5)]; rw [if_pos h6]; exact HQP.out)
                        go_wp2_with fail
                        go_roundg (l2 + 1 - (k + 1))
                        case rel => exact ⟨k + 1, qp, Nat.le_refl _, by first | rfl | (simp; done) | (simp; omega), by first | rfl | simp, HG.out.2.1, by rw [HG.out.2.2.1, HQ3.out, HV.out]; simp, Lib.hid hI.out.s⟩
                        case measure => have := HG.out; omega
                  as_aux_lemma =>
                    have e1 : (o.m.kd == 1) = false := by rw [beq_eq_false_iff_ne]; exact h1
                    have e2 : (o.m.kd == 2) = false := by rw [beq_eq_false_iff_ne]; exact h2
                    have e4 : (o.m.kd == 4) = false := by rw [beq_eq_false_iff_ne]; exact h4
                    have e3 : (o.m.kd == 3) = false := by rw [beq_eq_false_iff_ne]; exact h3
                    have e5 : (o.m.kd == 5) = false := by rw [beq_eq_false_iff_ne]; exact h5
                    have e6 : (o.m.kd == 6) = false := by rw [beq_eq_false_iff_ne]; exact h6
                    have HR := Lib.hid (show rightB co fr nm xs os = false from by rw [HG.out.2.2.1, HQ3.out, show kindB l2 o.m = false from by unfold kindB; rw [if_neg h1]; rw [if_neg h2]; rw [if_neg h4]; rw [if_neg (fun h => h.elim h3 h5)]; rw [if_neg h6]]; simp)
                    go_wp2_with fail
                    go_ret
                    exact ⟨by rw [HR.out]; first | rfl | simp, hI.out.s.b⟩
            · have HR := Lib.hid (objB_no HG.out.2.2.1 (.inr hpa))
              by_cases hp0 : 0 ≤ o.m.pa
              · have y0 : o.m.pa ≥ 0 := hp0
                have y1 : ¬ o.m.pa ≤ k := fun h => hpa ⟨hp0, h⟩
                clear hpa
                go_wp2_with fail
                go_ret
                exact ⟨by rw [HR.out]; first | rfl | simp, HW.out.2.1.b⟩
              · have y0 : ¬ o.m.pa ≥ 0 := hp0
                clear hpa
                go_wp2_with fail
                go_ret
                exact ⟨by rw [HR.out]; first | rfl | simp, HW.out.2.1.b⟩
          · have q1 : ¬ (k : Int) < l2 := by omega
            obtain rfl : l2 = k := by omega
            rw [List.drop_of_length_le (by rw [HO.out.1]; exact Nat.le_refl _)] at hm
            have HR := Lib.hid (show rightB co fr nm xs os = q from by rw [hm]; simp [objsB])
            clear hg hk hlt hm
            go_wp2_with fail
            go_ret
            exact ⟨by rw [HR.out]; first | rfl | simp, hI.out.b⟩
end Go.Proofs.Ytmadldgajjgbmaa
