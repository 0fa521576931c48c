import Derived.Test.YtmadldgajjgbmaaKc
import Derived.Deep.RegionLaw
namespace Pk
theorem al_eq (s : St) : al s = (((nx 1 s).1 : Int), (prs (nx 1 (nx 1 s).2).1 (nx 1 (nx 1 s).2).2).1, (prs (nx 1 (nx 1 s).2).1 (nx 1 (nx 1 s).2).2).2) := rfl
theorem prs_snoc {k : Nat} {s0 s : St} {m : List (Nat × Int)} (h : prs (m.length + (k + 1)) s0 = (m ++ (prs (k + 1) s).1, (prs (k + 1) s).2)) :
    prs ((m ++ [((nx 4 s).1, ((nx 1 (nx 4 s).2).1 : Int))]).length + k) s0 = ((m ++ [((nx 4 s).1, ((nx 1 (nx 4 s).2).1 : Int))]) ++ (prs k (nx 1 (nx 4 s).2).2).1, (prs k (nx 1 (nx 4 s).2).2).2) := by
  rw [List.length_append, List.length_singleton, Nat.add_assoc, Nat.add_comm 1 k, h, List.append_assoc]
  rfl
end Pk
namespace Go.Proofs.Ytmadldgajjgbmaa
open Go.RowKit
set_option linter.unusedVariables false
set_option linter.unusedSimpArgs false

/-- Rows of other elements lie elsewhere. -/
theorem own_ne {w : World} {base : Nat} {e t : TypeId} {size : Nat} {v : Value} {n g : Nat} {xs : List Value} {cs : Array Value} (h : w.ownsRow base e size v n xs) (hg : w.heap[g]? = some (Obj.cells cs t)) (hne : e ≠ t) : some g ≠ v.ownBlock := by
  rcases h.2 with ⟨rfl, _⟩ | ⟨g', cap, cur, rfl, _, hh, _⟩
  · simp [Value.ownBlock]
  · intro he
    have e1 : g = g' := by simpa [Value.ownBlock] using he
    subst e1
    rw [hh] at hg
    simp at hg
    exact hne hg.2
/-- What is no reader stays where a reader turns. -/
theorem Rd.keeps {W W' : World} {R g : Nat} {bs : List Nat} {bad : Bool} {cs : Array Value} {t : TypeId} (hr : Rd W R bs bad) (hg : W.grownBy W' (some R)) (hh : W.heap[g]? = some (Obj.cells cs t)) (ht : t ≠ 100) : W'.heap[g]? = some (Obj.cells cs t) := by
  rw [hg.block _ (Array.getElem?_eq_some_iff.1 hh).1 (fun e => ?_)]
  · exact hh
  · injection e with e
    subst e
    obtain ⟨A, c, r1, _⟩ := hr
    rw [hh] at r1
    simp at r1
    exact ht r1.2
theorem Rd.keepsOwn {W W' : World} {R base : Nat} {bs : List Nat} {bad : Bool} {e : TypeId} {size n : Nat} {v : Value} {xs : List Value} (hr : Rd W R bs bad) (hg : W.grownBy W' (some R)) (ho : W.ownsRow base e size v n xs) (ht : e ≠ 100) : W'.ownsRow base e size v n xs :=
  ho.kept hg (.inr fun e1 => by
    obtain ⟨A, c, r1, _⟩ := hr
    exact own_ne ho r1 ht e1.symm)
/-- What holds while a label is read: the reader at R, the label at L, the answer's place at B. -/
def AlRel (W : World) (R L k : Nat) (d : Int) (s0 : Pk.St) (j : Nat) (wr : World) : Prop :=
  W.heap.size < L ∧ ∃ m s v, m.length = j ∧ Pk.prs (m.length + (k - j)) s0 = (m ++ (Pk.prs (k - j) s).1, (Pk.prs (k - j) s).2) ∧ Rd wr R s.1 s.2 ∧ wr.heap[L]? = some (Obj.cells #[.int .i64 d, v] 41) ∧ wr.heap[W.heap.size]? = some (Obj.cells #[.int .i64 0, .slice none 0 0] 41) ∧
    wr.ownsRow W.heap.size 80 2 v m.length (F m) ∧ W.grownBy wr (some R)
/-- What stands where a label should, as it is answered. -/
def Alled (W : World) (R : Nat) (r : Int × List (Nat × Int) × Pk.St) (e : Ending) (w' : World) : Prop :=
  ∃ v, e = .returned (.agg #[.int .i64 r.1, v]) ∧ w'.ownsRow W.heap.size 80 2 v r.2.1.length (F r.2.1) ∧ Rd w' R r.2.2.1 r.2.2.2 ∧ W.grownBy w' (some R)
set_option maxHeartbeats 2000000 in
theorem anyl_any (R : Nat) (bs : List Nat) (bad : Bool) (w : World) (h : Rd w R bs bad) : Calls Try.prog 71 #[.pointer (some ⟨R, 0, none⟩)] w (Alled w R (Pk.al (bs, bad))) := by
  rw [Pk.al_eq]
  obtain ⟨i0, hi, hz0, hz1, hz2⟩ := info_parts info47
  have CN := Lib.hid (fun (W : World) (s : Pk.St) (n : Nat) (h : Rd W R s.1 s.2) (h1 : 1 ≤ n) (h8 : n ≤ 8) => num_any R s.1 s.2 n W h h1 h8)
  have CO := Lib.hid (fun (D : Int) (W : World) => of_any D W)
  have hb0 := h.byte
  have hb1 := (Pk.nx_byte (n := 1) (s := (bs, bad)) hb0)
  have hb2 := (Pk.nx_byte (n := 1) (s := (Pk.nx 1 (bs, bad)).2) hb1.2.1)
  obtain ⟨⟨d, s1⟩, e1⟩ : ∃ r, Pk.nx 1 (bs, bad) = r := ⟨_, rfl⟩
  rw [e1] at hb1 hb2 ⊢
  obtain ⟨⟨k, s2⟩, e2⟩ : ∃ r, Pk.nx 1 s1 = r := ⟨_, rfl⟩
  simp only [e2] at hb1 hb2 ⊢
  have hd : d < 256 := by have := hb1.1; simpa using this
  have hk : k < 256 := by have := hb2.1; simpa using this
  have HB2 := Lib.hid hb2.2.1
  have C1 := Lib.hid (show ∀ W, Rd W R bs bad → Calls Try.prog 59 #[.pointer (some ⟨R, 0, none⟩), .int .i64 1] W (Numd W R (d, s1)) from fun W h => by rw [← e1]; exact CN.out W (bs, bad) 1 h (by omega) (by omega))
  have C2 := Lib.hid (show ∀ W, Rd W R s1.1 s1.2 → Calls Try.prog 59 #[.pointer (some ⟨R, 0, none⟩), .int .i64 1] W (Numd W R (k, s2)) from fun W h => by rw [← e2]; exact CN.out W s1 1 h (by omega) (by omega))
  have HR := Lib.hid h
  have wd : IntKind.i64.wrap (d : Int) = (d : Int) := by rw [IntKind.wrap_i64]; omega
  have HA0 := Lib.hid (h.below ((Below.refl _ _).alloc (Nat.le_refl _) (Obj.cells #[.int .i64 0, .slice none 0 0] 41)))
  clear h hb0 hb1 hb2 e1 e2
  go_enter Try.func71, Try.ntmps71
  go_wp2_with fail
  refine (C1.out _ HA0.out).mono ?_
  rintro e w1 ⟨rfl, hr1, hg1⟩
  have HG1 := Lib.hid hg1
  have HR1 := Lib.hid hr1
  clear hr1 hg1
  go_wp2_with fail
  refine (CO.out _ _).mono ?_
  rintro e w2 ⟨rfl, hb2⟩
  have HW2 := Lib.hid hb2
  clear hb2
  have h3 : Rd (w2.alloc (Obj.cells #[.int .i64 (d : Int), .slice none 0 0] 41)) R s1.1 s1.2 := (HR1.out.below HW2.out).below ((Below.refl _ _).alloc (Nat.le_refl _) _)
  have H3 := Lib.hid h3
  clear h3
  go_wp2_with fail
  refine (C2.out _ H3.out).mono ?_
  rintro e w3 ⟨rfl, hr3, hg3⟩
  obtain ⟨L, eL⟩ : ∃ L, L = w2.heap.size := ⟨_, rfl⟩
  rw [← eL]
  have hA : AlRel w R L k d s2 0 w3 := by
    have t0 := heap_alloc_new w (Obj.cells #[.int .i64 0, .slice none 0 0] 41)
    have t1 := heap_alloc_new w2 (Obj.cells #[.int .i64 (d : Int), .slice none 0 0] 41)
    have t2 := HA0.out.keeps HG1.out t0 (by decide)
    have t3 : w2.heap[w.heap.size]? = some (Obj.cells #[.int .i64 0, .slice none 0 0] 41) := by rw [HW2.out.block _ (Array.getElem?_eq_some_iff.1 t2).1]; exact t2
    have t4 : (w2.alloc (Obj.cells #[.int .i64 (d : Int), .slice none 0 0] 41)).heap[w.heap.size]? = some (Obj.cells #[.int .i64 0, .slice none 0 0] 41) := by rw [Below.heap_alloc _ _ _ (Array.getElem?_eq_some_iff.1 t3).1]; exact t3
    refine ⟨by rw [eL]; exact (Array.getElem?_eq_some_iff.1 t3).1, [], s2, .slice none 0 0, rfl, by simp, hr3, ?_, H3.out.keeps hg3 t4 (by decide), World.ownsRow_nil _ _ _ _, ?_⟩
    · rw [eL]; exact H3.out.keeps hg3 t1 (by decide)
    · have g0 : w.grownBy (w.alloc (Obj.cells #[.int .i64 0, .slice none 0 0] 41)) (some R) := World.grownBy_alloc w _ _
      have g1 := grown_trans g0 HG1.out
      have g2 := grown_trans g1 (grown_below HW2.out)
      exact grown_trans (grown_trans g2 (World.grownBy_alloc w2 _ _)) hg3
  have HA := Lib.hid hA
  clear hA hr3 hg3 H3 HW2 HR1 HG1 HA0 HR eL CO C1 C2 wd
  go_wp2_with fail
  go_loopg [4, 11] k (fun g c i wr => ∃ j : Nat, j ≤ k ∧ Hid (g = k - j) ∧ i = .int .u64 j ∧ Hid (AlRel w R L k d s2 j wr))
  case atStart => exact ⟨0, by omega, Lib.hid (by omega), rfl, HA⟩
  case round =>
    obtain ⟨j, hj, hg, rfl, hrl⟩ := hrel
    clear HA
    by_cases hlt : j < k
    · obtain ⟨hwL, m, s, v, r1, r2, r3, r4, r5, r6, r7⟩ := hrl.out
      have q1 := Pk.nx_byte (n := 4) (s := s) r3.byte
      have q2 := Pk.nx_byte (n := 1) (s := (Pk.nx 4 s).2) q1.2.1
      have C4 := Lib.hid (CN.out wr s 4 r3 (by omega) (by omega))
      have hst := Lib.hid (Pk.prs_snoc (k := k - j - 1) (s0 := s2) (s := s) (m := m) (by rw [show k - j - 1 + 1 = k - j by omega]; exact r2))
      obtain ⟨⟨c, s4⟩, e4⟩ : ∃ r, Pk.nx 4 s = r := ⟨_, rfl⟩
      rw [e4] at q1 q2 C4 hst
      have C5 := Lib.hid (show ∀ W, Rd W R s4.1 s4.2 → Calls Try.prog 59 #[.pointer (some ⟨R, 0, none⟩), .int .i64 1] W (Numd W R (Pk.nx 1 s4)) from fun W h => CN.out W s4 1 h (by omega) (by omega))
      obtain ⟨⟨l, s5⟩, e5⟩ : ∃ r, Pk.nx 1 s4 = r := ⟨_, rfl⟩
      rw [e5] at q2 C5 hst
      have hc : c < 4294967296 := q1.1
      have hl : l < 256 := q2.1
      have wc : IntKind.u32.wrap (c : Int) = (c : Int) := by rw [IntKind.wrap_u32]; omega
      have wl : IntKind.i64.wrap (l : Int) = (l : Int) := by rw [IntKind.wrap_i64]; omega
      have H := Lib.hid (And.intro r3 (And.intro r4 (And.intro r5 (And.intro r6 r7))))
      have R1 := Lib.hid r1
      have hml : m.length < 256 := by omega
      clear r1 r2 r3 r4 r5 r6 r7 q1 q2 e4 e5 CN hrl
      go_wp2_with fail
      refine C4.out.mono ?_
      rintro e w4 ⟨rfl, hr4, hg4⟩
      have k4 := H.out.1.keeps hg4 H.out.2.1 (by decide)
      have k0 := H.out.1.keeps hg4 H.out.2.2.1 (by decide)
      have o4 := H.out.1.keepsOwn hg4 H.out.2.2.2.1 (by decide)
      have g4 := grown_trans H.out.2.2.2.2 hg4
      have H4 := Lib.hid (And.intro hr4 (And.intro k4 (And.intro k0 (And.intro o4 g4))))
      have c4 : w4.cell? ⟨L, 1, none⟩ = some v := by rw [cell_of_row _ _ 1 _ 41 (0, 0) k4]; rfl
      clear H C4 hr4 hg4 k4 k0 o4 g4
      dsimp only
      go_upto_region 5 with fail
      obtain ⟨St, eSt⟩ : ∃ St : World → Prop, St = fun W => Rd W R s5.1 s5.2 ∧ W.heap[L]? = some (Obj.cells #[.int .i64 (d : Int), v] 41) ∧ W.heap[w.heap.size]? = some (Obj.cells #[.int .i64 0, .slice none 0 0] 41) ∧ W.ownsRow w.heap.size 80 2 v m.length (F m) ∧ w.grownBy W (some R) := ⟨_, rfl⟩
      have CC := Lib.hid (show Calls Try.prog 59 #[.pointer (some ⟨R, 0, none⟩), .int .i64 1] w4.drew (fun e w' => e = .returned (.int .u64 (l : Int)) ∧ St w' ∧ w'.cell? ⟨L, 1, none⟩ = some v ∧ (w'.alloc (Obj.cells #[.int .u32 (c : Int), .int .i64 (l : Int)] 80)).cell? ⟨L, 1, none⟩ = some v) from by
        have h4 : Rd w4.drew R s4.1 s4.2 := H4.out.1
        refine (C5.out _ h4).mono ?_
        rintro e w5 ⟨rfl, hr5, hg5⟩
        have k5 := h4.keeps hg5 H4.out.2.1 (by decide)
        have c5 : w5.cell? ⟨L, 1, none⟩ = some v := by rw [cell_of_row _ _ 1 _ 41 (0, 0) k5]; rfl
        refine ⟨rfl, ?_, c5, by rw [World.cell?_alloc_lt _ _ _ (Array.getElem?_eq_some_iff.1 k5).1]; exact c5⟩
        rw [eSt]
        exact ⟨hr5, k5, h4.keeps hg5 H4.out.2.2.1 (by decide), h4.keepsOwn hg5 H4.out.2.2.2.1 (by decide), grown_trans (show w.grownBy w4.drew (some R) from ⟨H4.out.2.2.2.2.os, H4.out.2.2.2.2.tape, H4.out.2.2.2.2.output, H4.out.2.2.2.2.size, H4.out.2.2.2.2.block⟩) hg5⟩)
      have HS := Lib.hid (fun (W : World) (h : St W) => (show W.ownsRow w.heap.size 80 2 v m.length (F m) ∧ w.heap.size ≤ W.heap.size from by rw [eSt] at h; exact ⟨h.2.2.2.1, h.2.2.2.2.size⟩))
      have HP := Lib.hid (fun (W W' : World) (v' : Value) (h : St W) (ho : W'.ownsRow w.heap.size 80 2 v' (m.length + 1) (F m ++ [.int .u32 (c : Int), .int .i64 (l : Int)])) (hg : (W.alloc (Obj.cells #[.int .u32 (c : Int), .int .i64 (l : Int)] 80)).grownBy W' v.ownBlock) =>
        (show W'.cell? ⟨L, 1, none⟩ = some v ∧ W'.frozen? ⟨L, 1, none⟩ = false ∧ AlRel w R L k d s2 (j + 1) (W'.setCell ⟨L, 1, none⟩ v') from by
          rw [eSt] at h
          obtain ⟨hr, hL, hA, hO, hG⟩ := h
          have hga : ∀ (g : Nat) (cs : Array Value) (t : TypeId), t ≠ 80 → W.heap[g]? = some (Obj.cells cs t) → W'.heap[g]? = some (Obj.cells cs t) := fun g cs t ht hh => by
            have hl := (Array.getElem?_eq_some_iff.1 hh).1
            rw [hg.block g (by simp; omega) (own_ne hO hh (Ne.symm ht)), Below.heap_alloc _ _ _ hl]
            exact hh
          have hL' := hga L _ 41 (by decide) hL
          have hA' := hga _ _ 41 (by decide) hA
          have hf : ∀ (g : Nat) (cs : Array Value) (t : TypeId), g ≠ L → W'.heap[g]? = some (Obj.cells cs t) → (W'.setCell ⟨L, 1, none⟩ v').heap[g]? = some (Obj.cells cs t) := fun g cs t hn hh => by
            rw [heap_setCell_other _ _ _ _ hn]; exact hh
          have hfive : ∀ (b : Nat) (cs : Array Value), W.heap[b]? = some (Obj.cells cs 5) → b ≠ L := fun b cs hh e => by
            subst e
            rw [hh] at hL
            simp at hL
          obtain ⟨A0, c0, hR0, _⟩ := hr
          have hRL : R ≠ L := fun e => by
            subst e
            rw [hR0] at hL
            simp at hL
          have hl1 := R1.out
          refine ⟨by rw [cell_of_row _ _ 1 _ 41 (0, 0) hL']; rfl, frozen_of_row _ _ 1 _ 41 hL', hwL, m ++ [(c, (l : Int))], s5, v', by simp [hl1], ?_, ?_, ?_, hf _ _ _ (by omega) hA', ?_, ?_⟩
          · rw [show k - (j + 1) = k - j - 1 by omega]; exact hst.out
          · refine Rd.kept (w := W) ⟨A0, c0, hR0, by assumption⟩ (fun b cs hh => hf _ _ _ (hfive b cs hh) (hga _ _ 5 (by decide) hh)) ?_
            rw [hR0]
            exact hf _ _ _ hRL (hga _ _ 100 (by decide) hR0)
          · have := heap_setCell_same _ _ 1 _ 41 v' hL'; simpa using this
          · rw [F_snoc, List.length_append]
            exact owns_set ho _ _ (own_ne ho hL' (by decide))
          · have hs := hg.size
            simp at hs
            refine ⟨hg.os.trans hG.os, hg.tape.trans hG.tape, hg.output.trans hG.output, by have := hG.size; simp; omega, fun i hi hri => ?_⟩
            have h1 := hG.block i hi hri
            have hi2 := hG.size
            rw [heap_setCell_other _ _ _ _ (by simp; omega), hg.block i (by simp; omega) (fun e => by have := (hO.lt i e.symm).1; omega), Below.heap_alloc _ _ _ (by omega)]
            exact h1))
      have n1 : ∀ (W : World) (cs : Array Value), (W.alloc (Obj.cells cs 80)).heap[W.heap.size]? = some (Obj.cells cs 80) := fun W cs => heap_alloc_new W _
      have N1 := Lib.hid n1
      clear eSt H4 C5 n1
      go_region_law (first
        | (go_simp
           refine CC.out.mono ?_
           rintro e w5 ⟨rfl, h5, c5, c5a⟩
           have H5 := Lib.hid h5
           clear h5)
        | (refine step_append_own _ (by rfl) _ _ _ (by rfl) w.heap.size 80 i0 _ 2 16 Try.underlying39 hi hz0 hz1 hz2 rfl (by omega) v m.length _ (by rfl) ((HS.out _ H5.out).1.alloc _)
            ⟨w5.heap.size, 0, none⟩ 1 1 [.int .u32 (c : Int), .int .i64 (l : Int)] (by rfl) (by rfl) (World.news_of_block (cs := #[.int .u32 (c : Int), .int .i64 (l : Int)]) (t := 80) (fr := (0, 0)) (N1.out w5 _)) (by simp [Value.oneCell']) (by unfold maxLen; omega) (by omega) (by have := (HS.out _ H5.out).2; simp; omega) ?_
           intro v' w6 hown6 hg6 _
           have h6 := HP.out _ _ _ H5.out hown6 hg6
           obtain ⟨c6, f6, h6'⟩ := h6
           have H6 := Lib.hid h6'
           obtain ⟨g', cap', rfl, _, _⟩ := hown6.form (by omega)
           clear hown6 hg6 h6'))
      all_goals
        go_wp2_with fail
        go_roundg (k - (j + 1))
        case measure => rw [hg.out]; omega
        case rel => exact ⟨j + 1, by omega, Lib.hid rfl, by go_num, H6⟩
    · obtain ⟨hwL, m, s, v, r1, r2, r3, r4, r5, r6, r7⟩ := hrl.out
      obtain rfl : j = k := by omega
      have hres : Pk.prs j s2 = (m, s) := by
        rw [Nat.sub_self, Nat.add_zero, r1] at r2
        simpa [Pk.prs] using r2
      have hne : L ≠ w.heap.size := by omega
      obtain ⟨c0, _, _, _, _, c1⟩ := old2 wr _ 41 _ _ (.int .i64 (d : Int)) v r4
      obtain ⟨b0, b1, b2, b3, b4, _⟩ := old2 wr (w.heap.size) 41 _ _ (.int .i64 (d : Int)) v r5
      have hform := form2 r6
      have hG : Alled w R ((d : Int), (Pk.prs j s2).1, (Pk.prs j s2).2) (.returned (.agg #[.int .i64 (d : Int), v])) ((wr.setCell ⟨w.heap.size, 0, none⟩ (.int .i64 (d : Int))).setCell ⟨w.heap.size, 1, none⟩ v) := by
        rw [hres]
        have hA : some w.heap.size ≠ v.ownBlock := own_ne r6 r5 (by decide)
        obtain ⟨A0, e0, hR0, q⟩ := r3
        have hRA : R ≠ w.heap.size := fun e => by
          rw [e, r5] at hR0
          simp at hR0
        refine ⟨v, rfl, owns_set (owns_set r6 _ _ hA) _ _ hA, Rd.kept (w := wr) ⟨A0, e0, hR0, q⟩ (fun b cs hh => ?_) ?_, ?_⟩
        · have hbA : b ≠ w.heap.size := fun e => by
            rw [e, r5] at hh
            simp at hh
          rw [heap_setCell_other _ _ _ _ hbA, heap_setCell_other _ _ _ _ hbA]; exact hh
        · rw [heap_setCell_other _ _ _ _ hRA, heap_setCell_other _ _ _ _ hRA]
        · refine ⟨r7.os, r7.tape, r7.output, by have := r7.size; simp; omega, fun i hi hri => ?_⟩
          rw [heap_setCell_other _ _ _ _ (by simp; omega), heap_setCell_other _ _ _ _ (by simp; omega)]
          exact r7.block i hi hri
      have G := Lib.hid hG
      have S4 := Lib.hid b4
      clear hG b4 hne hres r1 r2 r3 r4 r5 r6 r7 hrl CN
      rcases hform with rfl | ⟨g', n', c', rfl⟩
      all_goals
        go_wp2_with fail
        refine bodyPost_ret (results_cell_row (by rfl) _ _ (w.heap.size) 41 _ (0, 0) _ (by rfl) S4.out Try.underlying41 rfl info24) rfl G.out
end Go.Proofs.Ytmadldgajjgbmaa
-- with Kh
namespace Pk
/-- What a reader's Label answers. -/
def ln (s : St) : Int × List (Nat × Int) × St := if s.2 = true then (0, [], (s.1, true)) else match rl s.1 with
  | none => (0, [], (s.1, true))
  | some (D, ps, r) => (D, ps, (r, false))
theorem ln_none {bs : List Nat} (h : (al (bs, false)).2.2.2 = true ∨ Lab.right (al (bs, false)).1 (al (bs, false)).2.1 = false) : ln (bs, false) = (0, [], (bs, true)) := by
  unfold ln rl
  rw [if_neg (by simp), if_neg (by rintro ⟨h1, h2⟩; simp only at h1 h2; rcases h with h | h <;> simp_all)]
theorem ln_some {bs : List Nat} (h1 : (al (bs, false)).2.2.2 = false) (h2 : Lab.right (al (bs, false)).1 (al (bs, false)).2.1 = true) : ln (bs, false) = al (bs, false) := by
  unfold ln rl
  rw [if_neg (by simp), if_pos ⟨h1, h2⟩]
  simp only
  generalize al (bs, false) = t at h1
  obtain ⟨a, b, c, d⟩ := t
  simp only at h1
  rw [h1]
theorem al_len {bs : List Nat} {b : Bool} (hb : ∀ c ∈ bs, c < 256) : (al (bs, b)).2.1.length < 256 := by
  rw [al]
  simp only
  rw [prs_len]
  have h1 := nx_byte (n := 1) (s := (bs, b)) hb
  have h2 := nx_byte (n := 1) (s := (nx 1 (bs, b)).2) h1.2.1
  simpa using h2.1
end Pk
namespace Go.Proofs.Ytmadldgajjgbmaa
open Go.RowKit
set_option linter.unusedVariables false
set_option linter.unusedSimpArgs false

set_option maxHeartbeats 1000000 in
theorem label_bad (R : Nat) (bs : List Nat) (w : World) (h : Rd w R bs true) : Calls Try.prog 60 #[.pointer (some ⟨R, 0, none⟩)] w (Alled w R (0, [], (bs, true))) := by
  have hB : Below w.heap.size w (w.alloc (Obj.cells #[.int .i64 0, .slice none 0 0] 41)) := (Below.refl _ _).alloc (Nat.le_refl _) _
  have hk := heap_alloc_new w (Obj.cells #[.int .i64 0, .slice none 0 0] 41)
  have C := Lib.hid (bad_any R bs true _ (h.below hB))
  have HA := Lib.hid (h.below hB)
  have HB := Lib.hid hB
  have HK := Lib.hid hk
  clear h hB hk
  go_enter Try.func60, Try.ntmps60
  go_wp2_with fail
  refine C.out.mono ?_
  rintro e w1 ⟨rfl, rfl⟩
  go_wp2_with fail
  refine bodyPost_ret (results_cell_row (by rfl) _ _ (w.heap.size) 41 _ (0, 0) _ (by rfl) HK.out Try.underlying41 rfl info24) rfl ⟨_, rfl, World.ownsRow_nil _ _ _ _, HA.out, grown_below HB.out⟩
/-- What holds while a reader's Label looks at what was read. -/
def LabRel (w : World) (R P L : Nat) (bs : List Nat) (d : Int) (v : Value) (ps : List (Nat × Int)) (s : Pk.St) (W : World) : Prop :=
  Rd W R bs false ∧ Rd W P s.1 s.2 ∧ W.heap[w.heap.size]? = some (Obj.cells #[.int .i64 0, .slice none 0 0] 41) ∧ W.heap[L]? = some (Obj.cells #[.int .i64 d, v] 41) ∧ W.ownsRow w.heap.size 80 2 v ps.length (F ps) ∧ Below w.heap.size w W ∧
    R ≠ P ∧ P ≠ w.heap.size ∧ L ≠ w.heap.size ∧ w.heap.size ≤ P ∧ R < w.heap.size
theorem LabRel.below {w : World} {R P L : Nat} {bs : List Nat} {d : Int} {v : Value} {ps : List (Nat × Int)} {s : Pk.St} {W W' : World} (h : LabRel w R P L bs d v ps s W) (hb : Below W.heap.size W W') : LabRel w R P L bs d v ps s W' := by
  obtain ⟨h1, h2, h3, h4, h5, h6, h7⟩ := h
  exact ⟨h1.below hb, h2.below hb, by rw [hb.block _ (Array.getElem?_eq_some_iff.1 h3).1]; exact h3, by rw [hb.block _ (Array.getElem?_eq_some_iff.1 h4).1]; exact h4, owns_below h5 hb, h6.trans (hb.mono h6.size), h7⟩
/-- The answer of a reader that fails there. -/
theorem LabRel.failed {w : World} {R P L : Nat} {bs : List Nat} {d : Int} {v : Value} {ps : List (Nat × Int)} {s : Pk.St} {W W' : World} (h : LabRel w R P L bs d v ps s W) (hr : Rd W' R bs true) (hg : W.grownBy W' (some R)) :
    W'.heap[w.heap.size]? = some (Obj.cells #[.int .i64 0, .slice none 0 0] 41) ∧ Alled w R (0, [], (bs, true)) (.returned (.agg #[.int .i64 0, .slice none 0 0])) ((W'.setCell ⟨w.heap.size, 0, none⟩ (.int .i64 0)).setCell ⟨w.heap.size, 1, none⟩ (.slice none 0 0)) := by
  obtain ⟨h1, h2, h3, h4, h5, h6, h7, h8, h9, h10, h11⟩ := h
  have k := h1.keeps hg h3 (by decide)
  have hx : ∀ (b : Nat) (cs : Array Value) (t : TypeId), t ≠ 41 → W'.heap[b]? = some (Obj.cells cs t) → ((W'.setCell ⟨w.heap.size, 0, none⟩ (.int .i64 0)).setCell ⟨w.heap.size, 1, none⟩ (.slice none 0 0)).heap[b]? = some (Obj.cells cs t) := fun b cs t ht hh => by
    have hne : b ≠ w.heap.size := fun e => by
      rw [e, k] at hh
      simp at hh
      exact ht hh.2.symm
    rw [heap_setCell_other _ _ _ _ hne, heap_setCell_other _ _ _ _ hne]; exact hh
  refine ⟨k, _, rfl, World.ownsRow_nil _ _ _ _, hr.kept (fun b cs hh => hx b cs 5 (by decide) hh) ?_, ?_⟩
  · rw [heap_setCell_other _ _ _ _ (by simp; omega), heap_setCell_other _ _ _ _ (by simp; omega)]
  · have q := grown_trans (grown_below (row := some R) h6) hg
    refine ⟨q.os, q.tape, q.output, by have := q.size; simp; omega, fun i hi hri => ?_⟩
    rw [heap_setCell_other _ _ _ _ (by simp; omega), heap_setCell_other _ _ _ _ (by simp; omega)]
    exact q.block i hi hri
/-- The answer of a reader that goes on. -/
theorem LabRel.went {w : World} {R P L : Nat} {bs rest : List Nat} {d : Int} {v : Value} {ps : List (Nat × Int)} {bad : Bool} {W : World} {A : Option Addr} {c : Nat} (h : LabRel w R P L bs d v ps (rest, bad) W) (hA : W.heap[P]? = some (Obj.cells #[.slice A rest.length c, .bool bad] 100)) :
    (((W.setCell ⟨R, 0, none⟩ (.slice A rest.length c)).setCell ⟨R, 1, none⟩ (.bool bad)).heap[w.heap.size]? = some (Obj.cells #[.int .i64 0, .slice none 0 0] 41)) ∧ (((W.setCell ⟨R, 0, none⟩ (.slice A rest.length c)).setCell ⟨R, 1, none⟩ (.bool bad)).heap[L]? = some (Obj.cells #[.int .i64 d, v] 41)) ∧
      Alled w R (d, ps, (rest, bad)) (.returned (.agg #[.int .i64 d, v])) ((((W.setCell ⟨R, 0, none⟩ (.slice A rest.length c)).setCell ⟨R, 1, none⟩ (.bool bad)).setCell ⟨w.heap.size, 0, none⟩ (.int .i64 d)).setCell ⟨w.heap.size, 1, none⟩ v) := by
  obtain ⟨⟨A1, c1, h1, _⟩, ⟨A2, c2, h2, q1, q2, q3, q4, q5⟩, h3, h4, h5, h6, h7, h8, h9, h10, h11⟩ := h
  rw [hA] at h2
  obtain ⟨rfl, rfl⟩ : A = A2 ∧ c = c2 := by simpa using h2
  have hx : ∀ (b : Nat) (cs : Array Value) (t : TypeId), t ≠ 100 → W.heap[b]? = some (Obj.cells cs t) → ((W.setCell ⟨R, 0, none⟩ (.slice A rest.length c)).setCell ⟨R, 1, none⟩ (.bool bad)).heap[b]? = some (Obj.cells cs t) := fun b cs t ht hh => by
    have hne : b ≠ R := fun e => by
      rw [e, h1] at hh
      simp at hh
      exact ht hh.2.symm
    rw [heap_setCell_other _ _ _ _ hne, heap_setCell_other _ _ _ _ hne]; exact hh
  obtain ⟨_, _, _, _, hR, _⟩ := old2 W R 100 _ _ (.slice A rest.length c) (.bool bad) h1
  have h3' := hx _ _ 41 (by decide) h3
  have h4' := hx _ _ 41 (by decide) h4
  have hO : ((W.setCell ⟨R, 0, none⟩ (.slice A rest.length c)).setCell ⟨R, 1, none⟩ (.bool bad)).ownsRow w.heap.size 80 2 v ps.length (F ps) := owns_set (owns_set h5 _ _ (own_ne h5 h1 (by decide))) _ _ (own_ne h5 h1 (by decide))
  obtain ⟨V, eV⟩ : ∃ V, V = (W.setCell ⟨R, 0, none⟩ (.slice A rest.length c)).setCell ⟨R, 1, none⟩ (.bool bad) := ⟨_, rfl⟩
  rw [← eV] at hx hR h3' h4' hO ⊢
  have hg : w.grownBy V (some R) := by
    have q := grown_below (row := some R) h6
    rw [eV]
    exact grown_trans q (grown_trans (grown_set _) (grown_set _))
  have hy : ∀ (b : Nat) (cs : Array Value) (t : TypeId), t ≠ 41 → V.heap[b]? = some (Obj.cells cs t) → ((V.setCell ⟨w.heap.size, 0, none⟩ (.int .i64 d)).setCell ⟨w.heap.size, 1, none⟩ v).heap[b]? = some (Obj.cells cs t) := fun b cs t ht hh => by
    have hne : b ≠ w.heap.size := fun e => by
      rw [e, h3'] at hh
      simp at hh
      exact ht hh.2.symm
    rw [heap_setCell_other _ _ _ _ hne, heap_setCell_other _ _ _ _ hne]; exact hh
  have hn := own_ne hO h3' (by decide)
  refine ⟨h3', h4', v, rfl, owns_set (owns_set hO _ _ hn) _ _ hn, ⟨A, c, hy _ _ 100 (by decide) hR, q1, q2, q3.kept fun b cs hh => hy b cs 5 (by decide) (hx b cs 5 (by decide) hh), q4, q5⟩, ?_⟩
  refine ⟨hg.os, hg.tape, hg.output, by have := hg.size; simp; omega, fun i hi hri => ?_⟩
  rw [heap_setCell_other _ _ _ _ (by simp; omega), heap_setCell_other _ _ _ _ (by simp; omega)]
  exact hg.block i hi hri
theorem LabRel.old {w : World} {R P L : Nat} {bs : List Nat} {d : Int} {v : Value} {ps : List (Nat × Int)} {s : Pk.St} {W : World} (h : LabRel w R P L bs d v ps s W) (V : World) (t : TypeId) (a b : Value) (g : Nat) (hk : V.heap[g]? = some (Obj.cells #[a, b] t)) :
    V.cell? ⟨g, 0, none⟩ = some a ∧ V.frozen? ⟨g, 0, none⟩ = false ∧ (V.setCell ⟨g, 0, none⟩ (.int .i64 d)).cell? ⟨g, 1, none⟩ = some b ∧ (V.setCell ⟨g, 0, none⟩ (.int .i64 d)).frozen? ⟨g, 1, none⟩ = false ∧
    ((V.setCell ⟨g, 0, none⟩ (.int .i64 d)).setCell ⟨g, 1, none⟩ v).heap[g]? = some (Obj.cells #[.int .i64 d, v] t) ∧ V.cell? ⟨g, 1, none⟩ = some b := old2 V g t a b (.int .i64 d) v hk
set_option maxHeartbeats 2000000 in
theorem label_ok (R : Nat) (bs : List Nat) (w : World) (h : Rd w R bs false) : Calls Try.prog 60 #[.pointer (some ⟨R, 0, none⟩)] w (Alled w R (Pk.ln (bs, false))) := by
  have hB : Below w.heap.size w (w.alloc (Obj.cells #[.int .i64 0, .slice none 0 0] 41)) := (Below.refl _ _).alloc (Nat.le_refl _) _
  obtain ⟨w0, e0⟩ : ∃ w0, w0 = w.alloc (Obj.cells #[.int .i64 0, .slice none 0 0] 41) := ⟨_, rfl⟩
  have hk : w0.heap[w.heap.size]? = some (Obj.cells #[.int .i64 0, .slice none 0 0] 41) := by rw [e0]; exact heap_alloc_new w _
  rw [← e0] at hB
  have h0 := h.below hB
  have hRw := h.lt
  have C := Lib.hid (bad_any R bs false w0 h0)
  obtain ⟨A, c, h1, c0, c1, f0, f1, h2, h3, h4, h5, h6⟩ := h0.cells
  have HN := Lib.hid h0
  have H1 := Lib.hid h1
  have H4 := Lib.hid (And.intro h2 (And.intro h3 (And.intro h4 (And.intro h5 h6))))
  have HB := Lib.hid hB
  have HK := Lib.hid hk
  obtain ⟨n, en⟩ : ∃ n, bs.length = n := ⟨_, rfl⟩
  rw [en] at c0 H1
  have EN := Lib.hid en
  clear h hB hk h0 h1 h2 h3 h4 h5 h6 f0 f1 en
  go_enter Try.func60, Try.ntmps60
  go_wp2_with fail
  rw [← e0]
  have E0 := Lib.hid e0
  clear e0
  refine C.out.mono ?_
  rintro e w1 ⟨rfl, rfl⟩
  obtain ⟨P, eP⟩ : ∃ P, P = w0.heap.size := ⟨_, rfl⟩
  have hnew := heap_alloc_new w0 (Obj.cells #[.slice A n c, .bool false] 100)
  have hold : ∀ (b : Nat) (o : Obj), w0.heap[b]? = some o → (w0.alloc (Obj.cells #[.slice A n c, .bool false] 100)).heap[b]? = some o := fun b o hh => by
    rw [Below.heap_alloc _ _ _ (Array.getElem?_eq_some_iff.1 hh).1]; exact hh
  have hrd : Rd (w0.alloc (Obj.cells #[.slice A n c, .bool false] 100)) P bs false :=
    ⟨A, c, by rw [eP, EN.out]; exact hnew, H4.out.1, H4.out.2.1, H4.out.2.2.1.kept fun b cs hh => hold _ _ hh, H4.out.2.2.2.1, H4.out.2.2.2.2⟩
  have C2 := Lib.hid (anyl_any P bs false _ hrd)
  have HR := Lib.hid hrd
  have HR0 := Lib.hid (HN.out.kept (fun b cs hh => hold _ _ hh) (by rw [hold _ _ H1.out, H1.out]))
  have HK1 := Lib.hid (hold _ _ HK.out)
  have hPw : w.heap.size < P := by rw [eP]; exact (Array.getElem?_eq_some_iff.1 HK.out).1
  have HB1 := Lib.hid (HB.out.alloc HB.out.size (Obj.cells #[.slice A n c, .bool false] 100))
  clear hnew hold hrd C
  go_wp2_with fail
  rw [← eP]
  clear eP
  obtain ⟨W1, eW1⟩ : ∃ W1, W1 = w0.alloc (Obj.cells #[.slice A n c, .bool false] 100) := ⟨_, rfl⟩
  rw [← eW1] at C2 HR HR0 HK1 HB1 ⊢
  clear eW1 c0 c1
  have LN := Lib.hid (And.intro (fun h => Pk.ln_none (bs := bs) h) (fun h1 h2 => Pk.ln_some (bs := bs) h1 h2))
  have hpl := Pk.al_len (b := false) HN.out.byte
  obtain ⟨⟨d, ps, s⟩, eal⟩ : ∃ t, Pk.al (bs, false) = t := ⟨_, rfl⟩
  rw [eal] at C2 LN hpl
  simp only at hpl
  clear eal
  refine C2.out.mono ?_
  rintro e w2 ⟨v, rfl, ho, hr2, hg2⟩
  obtain ⟨L, eL⟩ : ∃ L, L = w2.heap.size := ⟨_, rfl⟩
  obtain ⟨w3, e3⟩ : ∃ w3, w3 = w2.alloc (Obj.cells #[.int .i64 d, v] 41) := ⟨_, rfl⟩
  have hlr : LabRel w R P L bs d v ps s w3 := by
    have hb3 : Below w2.heap.size w2 w3 := by rw [e3]; exact (Below.refl _ _).alloc (Nat.le_refl _) _
    have hL : w3.heap[L]? = some (Obj.cells #[.int .i64 d, v] 41) := by rw [eL, e3]; exact heap_alloc_new w2 _
    have hk := HR.out.keeps hg2 HK1.out (by decide)
    have hwL : w.heap.size < L := by rw [eL]; exact (Array.getElem?_eq_some_iff.1 hk).1
    refine ⟨(HR0.out.grown HR.out hg2 (by omega)).below hb3, hr2.below hb3, ?_, hL, owns_below (owns_mono ho HB1.out.size) hb3, (below_grown HB1.out hg2 (by omega)).trans (hb3.mono (below_grown HB1.out hg2 (by omega)).size), by omega, by omega, by omega, by omega, hRw⟩
    rw [hb3.block _ (Array.getElem?_eq_some_iff.1 hk).1]; exact hk
  have hform := form2 ho
  have HL := Lib.hid hlr
  have CB := Lib.hid (bad_any P s.1 s.2 w3 hlr.2.1)
  clear hlr ho hr2 hg2 HR HR0 HK1 HB1 C2 HN H4 HB HK H1 EN E0
  have hkL := HL.out.2.2.2.1
  obtain ⟨l0, l1⟩ := cells2 hkL
  clear hkL
  rcases hform with rfl | ⟨g', n', c', rfl⟩
  all_goals
    go_upto_region 5 with fail
    rw [← e3, ← eL]
    clear e3 eL
    by_cases hs : s.2 = true
    · rw [hs] at CB
      have HLn := Lib.hid (LN.out.1 (.inl hs))
      clear hs LN
      have CF := Lib.hid (fail_any R bs false w3 HL.out.1)
      go_wp2_with fail
      refine CB.out.mono ?_
      rintro e w4 ⟨rfl, rfl⟩
      go_wp2_with fail
      refine CF.out.mono ?_
      rintro e w4 ⟨rfl, hr4, hg4⟩
      obtain ⟨hk4, ha4⟩ := HL.out.failed hr4 hg4
      obtain ⟨b0, b1, b2, b3, b4, _⟩ := old2 w4 (w.heap.size) 41 _ _ (.int .i64 0) (.slice none 0 0) hk4
      have HA := Lib.hid ha4
      have S4 := Lib.hid b4
      clear hk4 ha4 b4 hr4 hg4
      go_wp2_with fail
      refine bodyPost_ret (results_cell_row (by rfl) _ _ (w.heap.size) 41 _ (0, 0) _ (by rfl) S4.out Try.underlying41 rfl info24) rfl (by rw [HLn.out]; exact HA.out)
    · obtain ⟨rest, bad⟩ := s
      obtain rfl : bad = false := by simpa using hs
      clear hs
      have CR := Lib.hid (pright_any _ ps d w3 (reads_of_owns HL.out.2.2.2.2.1 (by omega)))
      by_cases hri : Lab.right d ps = true
      · have HLn := Lib.hid (LN.out.2 rfl hri)
        rw [hri] at CR
        clear hri LN
        go_wp2_with fail
        refine CB.out.mono ?_
        rintro e w4 ⟨rfl, rfl⟩
        go_wp2_with fail
        refine CR.out.mono ?_
        rintro e w4 ⟨rfl, hb4⟩
        have hl4 := HL.out.below hb4
        obtain ⟨A1, c1, k1, p0, p1, _⟩ := hl4.2.1.cells
        obtain ⟨A2, c2, k2, q0, q1, _⟩ := hl4.1.cells
        obtain ⟨_, f0, q2, f1, _, _⟩ := old2 w4 R 100 _ _ (.slice A1 rest.length c1) (.bool false) k2
        obtain ⟨m1, m2, m3⟩ := hl4.went k1
        obtain ⟨b0, b1, b2, b3, b4, _⟩ := LabRel.old hl4 _ 41 _ _ (w.heap.size) m1
        obtain ⟨x0, x1⟩ := cells2 m2
        have HA := Lib.hid m3
        have S4 := Lib.hid b4
        clear hb4 hl4 k1 k2 m1 m2 m3 b4 CB
        go_wp2_with fail
        refine bodyPost_ret (results_cell_row (by rfl) _ _ (w.heap.size) 41 _ (0, 0) _ (by rfl) S4.out Try.underlying41 rfl info24) rfl (by rw [HLn.out]; exact HA.out)
      · have hri' : Lab.right d ps = false := by simpa using hri
        have HLn := Lib.hid (LN.out.1 (.inr hri'))
        rw [hri'] at CR
        clear hri hri' LN
        go_wp2_with fail
        refine CB.out.mono ?_
        rintro e w4 ⟨rfl, rfl⟩
        go_wp2_with fail
        refine CR.out.mono ?_
        rintro e w4 ⟨rfl, hb4⟩
        have hl4 := Lib.hid (HL.out.below hb4)
        have CF := Lib.hid (fail_any R bs false w4 hl4.out.1)
        clear hb4 CB
        go_wp2_with fail
        refine CF.out.mono ?_
        rintro e w5 ⟨rfl, hr5, hg5⟩
        obtain ⟨hk4, ha4⟩ := hl4.out.failed hr5 hg5
        obtain ⟨b0, b1, b2, b3, b4, _⟩ := old2 w5 (w.heap.size) 41 _ _ (.int .i64 0) (.slice none 0 0) hk4
        have HA := Lib.hid ha4
        have S4 := Lib.hid b4
        clear hk4 ha4 b4 hr5 hg5
        go_wp2_with fail
        refine bodyPost_ret (results_cell_row (by rfl) _ _ (w.heap.size) 41 _ (0, 0) _ (by rfl) S4.out Try.underlying41 rfl info24) rfl (by rw [HLn.out]; exact HA.out)
theorem label_any (R : Nat) (bs : List Nat) (bad : Bool) (w : World) (h : Rd w R bs bad) : Calls Try.prog 60 #[.pointer (some ⟨R, 0, none⟩)] w (Alled w R (Pk.ln (bs, bad))) := by
  cases bad with
  | true => exact label_bad R bs w h
  | false => exact label_ok R bs w h
end Go.Proofs.Ytmadldgajjgbmaa
-- with Ki
namespace Pk
end Pk
namespace Go.Proofs.Ytmadldgajjgbmaa
open Go.RowKit
set_option linter.unusedVariables false
set_option linter.unusedSimpArgs false

/-- Labels, as cells: default, slice of pairs. -/
def LC (ts : List (Int × Value × List (Nat × Int))) : List Value := ts.flatMap fun t => [Value.int .i64 t.1, t.2.1]
theorem LC_snoc (ts : List (Int × Value × List (Nat × Int))) (D : Int) (v : Value) (ps : List (Nat × Int)) : LC (ts ++ [(D, v, ps)]) = LC ts ++ [.int .i64 D, v] := by simp [LC]
/-- A slice of labels of a call's own. -/
def LS (X : Nat) (w : World) (v : Value) (ls : List Pk.Lb) : Prop :=
  ∃ ts : List (Int × Value × List (Nat × Int)), ts.map (fun t => (t.1, t.2.2)) = ls ∧ w.ownsRow X 41 2 v ls.length (LC ts) ∧ ∀ t ∈ ts, w.ownsRow X 80 2 t.2.1 t.2.2.length (F t.2.2)
theorem LS.nil (X : Nat) (w : World) : LS X w (.slice none 0 0) [] := ⟨[], rfl, World.ownsRow_nil _ _ _ _, by simp⟩
theorem LS.below {X : Nat} {w w' : World} {v : Value} {ls : List Pk.Lb} (h : LS X w v ls) (hb : Below w.heap.size w w') : LS X w' v ls := by
  obtain ⟨ts, h1, h2, h3⟩ := h
  exact ⟨ts, h1, owns_below h2 hb, fun t ht => owns_below (h3 t ht) hb⟩
theorem LS.turned {X R : Nat} {w w' : World} {v : Value} {ls : List Pk.Lb} {bs : List Nat} {bad : Bool} (h : LS X w v ls) (hr : Rd w R bs bad) (hg : w.grownBy w' (some R)) : LS X w' v ls := by
  obtain ⟨ts, h1, h2, h3⟩ := h
  exact ⟨ts, h1, hr.keepsOwn hg h2 (by decide), fun t ht => hr.keepsOwn hg (h3 t ht) (by decide)⟩
theorem LS.mono {X X' : Nat} {w : World} {v : Value} {ls : List Pk.Lb} (h : LS X w v ls) (hX : X' ≤ X) : LS X' w v ls := by
  obtain ⟨ts, h1, h2, h3⟩ := h
  exact ⟨ts, h1, owns_mono h2 hX, fun t ht => owns_mono (h3 t ht) hX⟩
/-- One more. -/
theorem LS.push {X : Nat} {w w' : World} {v v' pv : Value} {ls : List Pk.Lb} {D : Int} {ps : List (Nat × Int)} {ts : List (Int × Value × List (Nat × Int))} (h1 : ts.map (fun t => (t.1, t.2.2)) = ls) (h2 : w.ownsRow X 41 2 v ls.length (LC ts)) (h3 : ∀ t ∈ ts, w.ownsRow X 80 2 t.2.1 t.2.2.length (F t.2.2))
   (hp : w.ownsRow X 80 2 pv ps.length (F ps)) (hg : w.grownBy w' v.ownBlock) (ho : w'.ownsRow X 41 2 v' (ls.length + 1) (LC ts ++ [.int .i64 D, pv])) : LS X w' v' (ls ++ [(D, ps)]) := by
  have hx : ∀ (u : Value) (qs : List (Nat × Int)), w.ownsRow X 80 2 u qs.length (F qs) → w'.ownsRow X 80 2 u qs.length (F qs) := fun u qs hu => by
    refine hu.kept hg ?_
    cases hb : u.ownBlock with
    | none => exact .inl rfl
    | some g =>
      refine .inr fun e => ?_
      rcases hu.2 with ⟨rfl, _⟩ | ⟨g', cap, cur, rfl, _, hh, _⟩
      · simp [Value.ownBlock] at hb
      · have e1 : g' = g := by simpa [Value.ownBlock] using hb
        subst e1
        exact own_ne h2 hh (by decide) e
  refine ⟨ts ++ [(D, pv, ps)], by simp [h1], by rw [LC_snoc, List.length_append]; exact ho, fun t ht => ?_⟩
  rcases List.mem_append.1 ht with ht | ht
  · exact hx _ _ (h3 t ht)
  · simp at ht; subst ht; exact hx _ _ hp
end Go.Proofs.Ytmadldgajjgbmaa
