import Derived.Test.YtjmfjehjlnghmaaKf
import Derived.Deep.RegionLaw
namespace Pk
theorem al_eq (s : St) : al s = (((nx 1 s).1 : Int), (prs (nx 1 (nx 1 s).2).1 (nx 1 (nx 1 s).2).2).1, (prs (nx 1 (nx 1 s).2).1 (nx 1 (nx 1 s).2).2).2) := rfl
theorem prs_snoc {k : Nat} {s0 s : St} {m : List (Nat × Int)} (h : prs (m.length + (k + 1)) s0 = (m ++ (prs (k + 1) s).1, (prs (k + 1) s).2)) :
    prs ((m ++ [((nx 4 s).1, ((nx 1 (nx 4 s).2).1 : Int))]).length + k) s0 = ((m ++ [((nx 4 s).1, ((nx 1 (nx 4 s).2).1 : Int))]) ++ (prs k (nx 1 (nx 4 s).2).2).1, (prs k (nx 1 (nx 4 s).2).2).2) := by
  rw [List.length_append, List.length_singleton, Nat.add_assoc, Nat.add_comm 1 k, h, List.append_assoc]
  rfl
end Pk
namespace Go.Proofs.Ytjmfjehjlnghmaa
open Go.RowKit
set_option linter.unusedVariables false
set_option linter.unusedSimpArgs false

/-- Rows of other elements lie elsewhere. -/
theorem own_ne {w : World} {base : Nat} {e t : TypeId} {size : Nat} {v : Value} {n g : Nat} {xs : List Value} {cs : Array Value} (h : w.ownsRow base e size v n xs) (hg : w.heap[g]? = some (Obj.cells cs t)) (hne : e ≠ t) : some g ≠ v.ownBlock := by
  rcases h.2 with ⟨rfl, _⟩ | ⟨g', cap, cur, rfl, _, hh, _⟩
  · simp [Value.ownBlock]
  · intro he
    have e1 : g = g' := by simpa [Value.ownBlock] using he
    subst e1
    rw [hh] at hg
    simp at hg
    exact hne hg.2
/-- What is no reader stays where a reader turns. -/
theorem Rd.keeps {W W' : World} {R g : Nat} {bs : List Nat} {bad : Bool} {cs : Array Value} {t : TypeId} (hr : Rd W R bs bad) (hg : W.grownBy W' (some R)) (hh : W.heap[g]? = some (Obj.cells cs t)) (ht : t ≠ 59) : W'.heap[g]? = some (Obj.cells cs t) := by
  rw [hg.block _ (Array.getElem?_eq_some_iff.1 hh).1 (fun e => ?_)]
  · exact hh
  · injection e with e
    subst e
    obtain ⟨A, c, r1, _⟩ := hr
    rw [hh] at r1
    simp at r1
    exact ht r1.2
theorem Rd.keepsOwn {W W' : World} {R base : Nat} {bs : List Nat} {bad : Bool} {e : TypeId} {size n : Nat} {v : Value} {xs : List Value} (hr : Rd W R bs bad) (hg : W.grownBy W' (some R)) (ho : W.ownsRow base e size v n xs) (ht : e ≠ 59) : W'.ownsRow base e size v n xs :=
  ho.kept hg (.inr fun e1 => by
    obtain ⟨A, c, r1, _⟩ := hr
    exact own_ne ho r1 ht e1.symm)
/-- What holds while a label is read: the reader at R, the label at L, the answer's place at B. -/
def AlRel (W : World) (R L k : Nat) (d : Int) (s0 : Pk.St) (j : Nat) (wr : World) : Prop :=
  W.heap.size < L ∧ ∃ m s v, m.length = j ∧ Pk.prs (m.length + (k - j)) s0 = (m ++ (Pk.prs (k - j) s).1, (Pk.prs (k - j) s).2) ∧ Rd wr R s.1 s.2 ∧ wr.heap[L]? = some (Obj.cells #[.int .i64 d, v] 31) ∧ wr.heap[W.heap.size]? = some (Obj.cells #[.int .i64 0, .slice none 0 0] 31) ∧
    wr.ownsRow W.heap.size 57 2 v m.length (F m) ∧ W.grownBy wr (some R)
/-- What stands where a label should, as it is answered. -/
def Alled (W : World) (R : Nat) (r : Int × List (Nat × Int) × Pk.St) (e : Ending) (w' : World) : Prop :=
  ∃ v, e = .returned (.agg #[.int .i64 r.1, v]) ∧ w'.ownsRow W.heap.size 57 2 v r.2.1.length (F r.2.1) ∧ Rd w' R r.2.2.1 r.2.2.2 ∧ W.grownBy w' (some R)
set_option maxHeartbeats 2000000 in
theorem anyl_any (R : Nat) (bs : List Nat) (bad : Bool) (w : World) (h : Rd w R bs bad) : Calls Try.prog 25 #[.pointer (some ⟨R, 0, none⟩)] w (Alled w R (Pk.al (bs, bad))) := by
  rw [Pk.al_eq]
  obtain ⟨i0, hi, hz0, hz1, hz2⟩ := info_parts info47
  have CN := Lib.hid (fun (W : World) (s : Pk.St) (n : Nat) (h : Rd W R s.1 s.2) (h1 : 1 ≤ n) (h8 : n ≤ 8) => num_any R s.1 s.2 n W h h1 h8)
  have CO := Lib.hid (fun (D : Int) (W : World) => of_any D W)
  have hb0 := h.byte
  have hb1 := (Pk.nx_byte (n := 1) (s := (bs, bad)) hb0)
  have hb2 := (Pk.nx_byte (n := 1) (s := (Pk.nx 1 (bs, bad)).2) hb1.2.1)
  obtain ⟨⟨d, s1⟩, e1⟩ : ∃ r, Pk.nx 1 (bs, bad) = r := ⟨_, rfl⟩
  rw [e1] at hb1 hb2 ⊢
  obtain ⟨⟨k, s2⟩, e2⟩ : ∃ r, Pk.nx 1 s1 = r := ⟨_, rfl⟩
  simp only [e2] at hb1 hb2 ⊢
  have hd : d < 256 := by have := hb1.1; simpa using this
  have hk : k < 256 := by have := hb2.1; simpa using this
  have HB2 := Lib.hid hb2.2.1
  have C1 := Lib.hid (show ∀ W, Rd W R bs bad → Calls Try.prog 17 #[.pointer (some ⟨R, 0, none⟩), .int .i64 1] W (Numd W R (d, s1)) from fun W h => by rw [← e1]; exact CN.out W (bs, bad) 1 h (by omega) (by omega))
  have C2 := Lib.hid (show ∀ W, Rd W R s1.1 s1.2 → Calls Try.prog 17 #[.pointer (some ⟨R, 0, none⟩), .int .i64 1] W (Numd W R (k, s2)) from fun W h => by rw [← e2]; exact CN.out W s1 1 h (by omega) (by omega))
  have HR := Lib.hid h
  have wd : IntKind.i64.wrap (d : Int) = (d : Int) := by rw [IntKind.wrap_i64]; omega
  have HA0 := Lib.hid (h.below ((Below.refl _ _).alloc (Nat.le_refl _) (Obj.cells #[.int .i64 0, .slice none 0 0] 31)))
  clear h hb0 hb1 hb2 e1 e2
  go_enter Try.func25, Try.ntmps25
  go_wp2_with fail
  refine (C1.out _ HA0.out).mono ?_
  rintro e w1 ⟨rfl, hr1, hg1⟩
  have HG1 := Lib.hid hg1
  have HR1 := Lib.hid hr1
  clear hr1 hg1
  go_wp2_with fail
  refine (CO.out _ _).mono ?_
  rintro e w2 ⟨rfl, hb2⟩
  have HW2 := Lib.hid hb2
  clear hb2
  have h3 : Rd (w2.alloc (Obj.cells #[.int .i64 (d : Int), .slice none 0 0] 31)) R s1.1 s1.2 := (HR1.out.below HW2.out).below ((Below.refl _ _).alloc (Nat.le_refl _) _)
  have H3 := Lib.hid h3
  clear h3
  go_wp2_with fail
  refine (C2.out _ H3.out).mono ?_
  rintro e w3 ⟨rfl, hr3, hg3⟩
  obtain ⟨L, eL⟩ : ∃ L, L = w2.heap.size := ⟨_, rfl⟩
  rw [← eL]
  have hA : AlRel w R L k d s2 0 w3 := by
    have t0 := heap_alloc_new w (Obj.cells #[.int .i64 0, .slice none 0 0] 31)
    have t1 := heap_alloc_new w2 (Obj.cells #[.int .i64 (d : Int), .slice none 0 0] 31)
    have t2 := HA0.out.keeps HG1.out t0 (by decide)
    have t3 : w2.heap[w.heap.size]? = some (Obj.cells #[.int .i64 0, .slice none 0 0] 31) := by rw [HW2.out.block _ (Array.getElem?_eq_some_iff.1 t2).1]; exact t2
    have t4 : (w2.alloc (Obj.cells #[.int .i64 (d : Int), .slice none 0 0] 31)).heap[w.heap.size]? = some (Obj.cells #[.int .i64 0, .slice none 0 0] 31) := by rw [Below.heap_alloc _ _ _ (Array.getElem?_eq_some_iff.1 t3).1]; exact t3
    refine ⟨by rw [eL]; exact (Array.getElem?_eq_some_iff.1 t3).1, [], s2, .slice none 0 0, rfl, by simp, hr3, ?_, H3.out.keeps hg3 t4 (by decide), World.ownsRow_nil _ _ _ _, ?_⟩
    · rw [eL]; exact H3.out.keeps hg3 t1 (by decide)
    · have g0 : w.grownBy (w.alloc (Obj.cells #[.int .i64 0, .slice none 0 0] 31)) (some R) := World.grownBy_alloc w _ _
      have g1 := grown_trans g0 HG1.out
      have g2 := grown_trans g1 (grown_below HW2.out)
      exact grown_trans (grown_trans g2 (World.grownBy_alloc w2 _ _)) hg3
  have HA := Lib.hid hA
  clear hA hr3 hg3 H3 HW2 HR1 HG1 HA0 HR eL CO C1 C2 wd
  go_wp2_with fail
  go_loopg [4, 11] k (fun g c i wr => ∃ j : Nat, j ≤ k ∧ Hid (g = k - j) ∧ i = .int .u64 j ∧ Hid (AlRel w R L k d s2 j wr))
  case atStart => exact ⟨0, by omega, Lib.hid (by omega), rfl, HA⟩
  case round =>
    obtain ⟨j, hj, hg, rfl, hrl⟩ := hrel
    clear HA
    by_cases hlt : j < k
    · obtain ⟨hwL, m, s, v, r1, r2, r3, r4, r5, r6, r7⟩ := hrl.out
      have q1 := Pk.nx_byte (n := 4) (s := s) r3.byte
      have q2 := Pk.nx_byte (n := 1) (s := (Pk.nx 4 s).2) q1.2.1
      have C4 := Lib.hid (CN.out wr s 4 r3 (by omega) (by omega))
      have hst := Lib.hid (Pk.prs_snoc (k := k - j - 1) (s0 := s2) (s := s) (m := m) (by rw [show k - j - 1 + 1 = k - j by omega]; exact r2))
      obtain ⟨⟨c, s4⟩, e4⟩ : ∃ r, Pk.nx 4 s = r := ⟨_, rfl⟩
      rw [e4] at q1 q2 C4 hst
      have C5 := Lib.hid (show ∀ W, Rd W R s4.1 s4.2 → Calls Try.prog 17 #[.pointer (some ⟨R, 0, none⟩), .int .i64 1] W (Numd W R (Pk.nx 1 s4)) from fun W h => CN.out W s4 1 h (by omega) (by omega))
      obtain ⟨⟨l, s5⟩, e5⟩ : ∃ r, Pk.nx 1 s4 = r := ⟨_, rfl⟩
      rw [e5] at q2 C5 hst
      have hc : c < 4294967296 := q1.1
      have hl : l < 256 := q2.1
      have wc : IntKind.u32.wrap (c : Int) = (c : Int) := by rw [IntKind.wrap_u32]; omega
      have wl : IntKind.i64.wrap (l : Int) = (l : Int) := by rw [IntKind.wrap_i64]; omega
      have H := Lib.hid (And.intro r3 (And.intro r4 (And.intro r5 (And.intro r6 r7))))
      have R1 := Lib.hid r1
      have hml : m.length < 256 := by omega
      clear r1 r2 r3 r4 r5 r6 r7 q1 q2 e4 e5 CN hrl
      go_wp2_with fail
      refine C4.out.mono ?_
      rintro e w4 ⟨rfl, hr4, hg4⟩
      have k4 := H.out.1.keeps hg4 H.out.2.1 (by decide)
      have k0 := H.out.1.keeps hg4 H.out.2.2.1 (by decide)
      have o4 := H.out.1.keepsOwn hg4 H.out.2.2.2.1 (by decide)
      have g4 := grown_trans H.out.2.2.2.2 hg4
      have H4 := Lib.hid (And.intro hr4 (And.intro k4 (And.intro k0 (And.intro o4 g4))))
      have c4 : w4.cell? ⟨L, 1, none⟩ = some v := by rw [cell_of_row _ _ 1 _ 31 (0, 0) k4]; rfl
      clear H C4 hr4 hg4 k4 k0 o4 g4
      dsimp only
      go_upto_region 5 with fail
      obtain ⟨St, eSt⟩ : ∃ St : World → Prop, St = fun W => Rd W R s5.1 s5.2 ∧ W.heap[L]? = some (Obj.cells #[.int .i64 (d : Int), v] 31) ∧ W.heap[w.heap.size]? = some (Obj.cells #[.int .i64 0, .slice none 0 0] 31) ∧ W.ownsRow w.heap.size 57 2 v m.length (F m) ∧ w.grownBy W (some R) := ⟨_, rfl⟩
      have CC := Lib.hid (show Calls Try.prog 17 #[.pointer (some ⟨R, 0, none⟩), .int .i64 1] w4.drew (fun e w' => e = .returned (.int .u64 (l : Int)) ∧ St w' ∧ w'.cell? ⟨L, 1, none⟩ = some v ∧ (w'.alloc (Obj.cells #[.int .u32 (c : Int), .int .i64 (l : Int)] 57)).cell? ⟨L, 1, none⟩ = some v) from by
        have h4 : Rd w4.drew R s4.1 s4.2 := H4.out.1
        refine (C5.out _ h4).mono ?_
        rintro e w5 ⟨rfl, hr5, hg5⟩
        have k5 := h4.keeps hg5 H4.out.2.1 (by decide)
        have c5 : w5.cell? ⟨L, 1, none⟩ = some v := by rw [cell_of_row _ _ 1 _ 31 (0, 0) k5]; rfl
        refine ⟨rfl, ?_, c5, by rw [World.cell?_alloc_lt _ _ _ (Array.getElem?_eq_some_iff.1 k5).1]; exact c5⟩
        rw [eSt]
        exact ⟨hr5, k5, h4.keeps hg5 H4.out.2.2.1 (by decide), h4.keepsOwn hg5 H4.out.2.2.2.1 (by decide), grown_trans (show w.grownBy w4.drew (some R) from ⟨H4.out.2.2.2.2.os, H4.out.2.2.2.2.tape, H4.out.2.2.2.2.output, H4.out.2.2.2.2.size, H4.out.2.2.2.2.block⟩) hg5⟩)
      have HS := Lib.hid (fun (W : World) (h : St W) => (show W.ownsRow w.heap.size 57 2 v m.length (F m) ∧ w.heap.size ≤ W.heap.size from by rw [eSt] at h; exact ⟨h.2.2.2.1, h.2.2.2.2.size⟩))
      have HP := Lib.hid (fun (W W' : World) (v' : Value) (h : St W) (ho : W'.ownsRow w.heap.size 57 2 v' (m.length + 1) (F m ++ [.int .u32 (c : Int), .int .i64 (l : Int)])) (hg : (W.alloc (Obj.cells #[.int .u32 (c : Int), .int .i64 (l : Int)] 57)).grownBy W' v.ownBlock) =>
        (show W'.cell? ⟨L, 1, none⟩ = some v ∧ W'.frozen? ⟨L, 1, none⟩ = false ∧ AlRel w R L k d s2 (j + 1) (W'.setCell ⟨L, 1, none⟩ v') from by
          rw [eSt] at h
          obtain ⟨hr, hL, hA, hO, hG⟩ := h
          have hga : ∀ (g : Nat) (cs : Array Value) (t : TypeId), t ≠ 57 → W.heap[g]? = some (Obj.cells cs t) → W'.heap[g]? = some (Obj.cells cs t) := fun g cs t ht hh => by
            have hl := (Array.getElem?_eq_some_iff.1 hh).1
            rw [hg.block g (by simp; omega) (own_ne hO hh (Ne.symm ht)), Below.heap_alloc _ _ _ hl]
            exact hh
          have hL' := hga L _ 31 (by decide) hL
          have hA' := hga _ _ 31 (by decide) hA
          have hf : ∀ (g : Nat) (cs : Array Value) (t : TypeId), g ≠ L → W'.heap[g]? = some (Obj.cells cs t) → (W'.setCell ⟨L, 1, none⟩ v').heap[g]? = some (Obj.cells cs t) := fun g cs t hn hh => by
            rw [heap_setCell_other _ _ _ _ hn]; exact hh
          have hfive : ∀ (b : Nat) (cs : Array Value), W.heap[b]? = some (Obj.cells cs 5) → b ≠ L := fun b cs hh e => by
            subst e
            rw [hh] at hL
            simp at hL
          obtain ⟨A0, c0, hR0, _⟩ := hr
          have hRL : R ≠ L := fun e => by
            subst e
            rw [hR0] at hL
            simp at hL
          have hl1 := R1.out
          refine ⟨by rw [cell_of_row _ _ 1 _ 31 (0, 0) hL']; rfl, frozen_of_row _ _ 1 _ 31 hL', hwL, m ++ [(c, (l : Int))], s5, v', by simp [hl1], ?_, ?_, ?_, hf _ _ _ (by omega) hA', ?_, ?_⟩
          · rw [show k - (j + 1) = k - j - 1 by omega]; exact hst.out
          · refine Rd.kept (w := W) ⟨A0, c0, hR0, by assumption⟩ (fun b cs hh => hf _ _ _ (hfive b cs hh) (hga _ _ 5 (by decide) hh)) ?_
            rw [hR0]
            exact hf _ _ _ hRL (hga _ _ 59 (by decide) hR0)
          · have := heap_setCell_same _ _ 1 _ 31 v' hL'; simpa using this
          · rw [F_snoc, List.length_append]
            exact owns_set ho _ _ (own_ne ho hL' (by decide))
          · have hs := hg.size
            simp at hs
            refine ⟨hg.os.trans hG.os, hg.tape.trans hG.tape, hg.output.trans hG.output, by have := hG.size; simp; omega, fun i hi hri => ?_⟩
            have h1 := hG.block i hi hri
            have hi2 := hG.size
            rw [heap_setCell_other _ _ _ _ (by simp; omega), hg.block i (by simp; omega) (fun e => by have := (hO.lt i e.symm).1; omega), Below.heap_alloc _ _ _ (by omega)]
            exact h1))
      have n1 : ∀ (W : World) (cs : Array Value), (W.alloc (Obj.cells cs 57)).heap[W.heap.size]? = some (Obj.cells cs 57) := fun W cs => heap_alloc_new W _
      have N1 := Lib.hid n1
      clear eSt H4 C5 n1
      go_region_law (first
        | (go_simp
           refine CC.out.mono ?_
           rintro e w5 ⟨rfl, h5, c5, c5a⟩
           have H5 := Lib.hid h5
           clear h5)
        | (refine step_append_own _ (by rfl) _ _ _ (by rfl) w.heap.size 57 i0 _ 2 16 Try.underlying29 hi hz0 hz1 hz2 rfl (by omega) v m.length _ (by rfl) ((HS.out _ H5.out).1.alloc _)
            ⟨w5.heap.size, 0, none⟩ 1 1 [.int .u32 (c : Int), .int .i64 (l : Int)] (by rfl) (by rfl) (World.news_of_block (cs := #[.int .u32 (c : Int), .int .i64 (l : Int)]) (t := 57) (fr := (0, 0)) (N1.out w5 _)) (by simp [Value.oneCell']) (by unfold maxLen; omega) (by omega) (by have := (HS.out _ H5.out).2; simp; omega) ?_
           intro v' w6 hown6 hg6 _
           have h6 := HP.out _ _ _ H5.out hown6 hg6
           obtain ⟨c6, f6, h6'⟩ := h6
           have H6 := Lib.hid h6'
           obtain ⟨g', cap', rfl, _, _⟩ := hown6.form (by omega)
           clear hown6 hg6 h6'))
      all_goals
        go_wp2_with fail
        go_roundg (k - (j + 1))
        case measure => rw [hg.out]; omega
        case rel => exact ⟨j + 1, by omega, Lib.hid rfl, by go_num, H6⟩
    · obtain ⟨hwL, m, s, v, r1, r2, r3, r4, r5, r6, r7⟩ := hrl.out
      obtain rfl : j = k := by omega
      have hres : Pk.prs j s2 = (m, s) := by
        rw [Nat.sub_self, Nat.add_zero, r1] at r2
        simpa [Pk.prs] using r2
      have hne : L ≠ w.heap.size := by omega
      obtain ⟨c0, _, _, _, _, c1⟩ := old2 wr _ 31 _ _ (.int .i64 (d : Int)) v r4
      obtain ⟨b0, b1, b2, b3, b4, _⟩ := old2 wr (w.heap.size) 31 _ _ (.int .i64 (d : Int)) v r5
      have hform := form2 r6
      have hG : Alled w R ((d : Int), (Pk.prs j s2).1, (Pk.prs j s2).2) (.returned (.agg #[.int .i64 (d : Int), v])) ((wr.setCell ⟨w.heap.size, 0, none⟩ (.int .i64 (d : Int))).setCell ⟨w.heap.size, 1, none⟩ v) := by
        rw [hres]
        have hA : some w.heap.size ≠ v.ownBlock := own_ne r6 r5 (by decide)
        obtain ⟨A0, e0, hR0, q⟩ := r3
        have hRA : R ≠ w.heap.size := fun e => by
          rw [e, r5] at hR0
          simp at hR0
        refine ⟨v, rfl, owns_set (owns_set r6 _ _ hA) _ _ hA, Rd.kept (w := wr) ⟨A0, e0, hR0, q⟩ (fun b cs hh => ?_) ?_, ?_⟩
        · have hbA : b ≠ w.heap.size := fun e => by
            rw [e, r5] at hh
            simp at hh
          rw [heap_setCell_other _ _ _ _ hbA, heap_setCell_other _ _ _ _ hbA]; exact hh
        · rw [heap_setCell_other _ _ _ _ hRA, heap_setCell_other _ _ _ _ hRA]
        · refine ⟨r7.os, r7.tape, r7.output, by have := r7.size; simp; omega, fun i hi hri => ?_⟩
          rw [heap_setCell_other _ _ _ _ (by simp; omega), heap_setCell_other _ _ _ _ (by simp; omega)]
          exact r7.block i hi hri
      have G := Lib.hid hG
      have S4 := Lib.hid b4
      clear hG b4 hne hres r1 r2 r3 r4 r5 r6 r7 hrl CN
      rcases hform with rfl | ⟨g', n', c', rfl⟩
      all_goals
        go_wp2_with fail
        refine bodyPost_ret (results_cell_row (by rfl) _ _ (w.heap.size) 31 _ (0, 0) _ (by rfl) S4.out Try.underlying31 rfl info24) rfl G.out
end Go.Proofs.Ytjmfjehjlnghmaa
