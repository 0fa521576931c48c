/- A segment is made longer or shorter. -/
import Derived.Test.YtkpdgjmeeeddhaaBg
set_option linter.unusedVariables false
set_option linter.unusedSimpArgs false
namespace Go.Proofs.Ytkpdgjmeeeddhaa
open Go.RowKit
set_option linter.unusedVariables false
set_option linter.unusedSimpArgs false
variable {w w' w1 w2 : World} {b o R c : Nat} {v P : Value} {fs S S1 os os' : List Nat} {ds ds' : List (List Nat)} {A : Option Addr}
theorem resize_nil (x n : Int) (w : World) : Calls Try.prog 16 #[.pointer none, P, .int .u64 x, .int .i64 n] w fun e w' => e = .returned (.bool false) ∧ w = w' := by
  go_enter Try.func16, Try.ntmps16
  go_wp2_with fail
  go_ret
  exact ⟨rfl, rfl⟩
theorem resize_no {x n : Int} (h : SV w b o v fs) (hp : Pl w R S os ds) (hn2 : n ≤ 9223372036854775807) (hn : ¬ (0 ≤ n ∧ n ≤ 16 ∧ x ≠ 0 ∧ n ≤ (fs.length + os.count 0 : Nat))) :
    Calls Try.prog 16 #[.pointer (some ⟨b, o, none⟩), .pointer (some ⟨R, 0, none⟩), .int .u64 x, .int .i64 n] w fun e w' => e = .returned (.bool false) ∧ w = w' := by
  have C := Lib.hid (pages_any h)
  have CL := Lib.hid (left_any w hp)
  have hl := h.l
  obtain ⟨q, eq⟩ : ∃ q, os.count 0 = q := ⟨_, rfl⟩
  obtain ⟨m, em⟩ : ∃ m, fs.length = m := ⟨_, rfl⟩
  rw [eq] at CL hn
  rw [em] at C hl hn
  clear h hp eq em
  by_cases h0 : n < 0
  · clear hn
    go_enter Try.func16, Try.ntmps16
    go_wp2_with fail
    go_ret
    exact ⟨rfl, rfl⟩
  · by_cases h1 : 16 < n
    · clear hn
      go_enter Try.func16, Try.ntmps16
      go_wp2_with fail
      go_ret
      exact ⟨rfl, rfl⟩
    · by_cases h2 : x = 0
      · clear hn
        subst h2
        go_enter Try.func16, Try.ntmps16
        go_wp2_with fail
        go_ret
        exact ⟨rfl, rfl⟩
      · have t1 : (q : Int) < RowKit.wrap64 (n - (m : Int)) := by unfold RowKit.wrap64; omega
        have t2 : (q : Int) < n - m := by omega
        have t3 : (x == 0) = false := by simpa using h2
        clear hn hn2
        go_enter Try.func16, Try.ntmps16
        go_wp2_with fail
        refine C.out.mono ?_
        rintro e w1 ⟨rfl, rfl⟩
        go_wp2_with fail
        refine CL.out.mono ?_
        rintro e w1 ⟨rfl, rfl⟩
        go_wp2_with fail
        go_ret
        exact ⟨rfl, rfl⟩
/-- What frames are freed: K stay, L are left to free. -/
def FI (w : World) (R : Nat) (S os : List Nat) (ds : List (List Nat)) (o : Nat) (K L : List Nat) (wr : World) : Prop := ∃ os', Sg.Own os' o (K ++ L) ∧ Sg.Oth o os ds os' ds ∧ PlT w R S os' ds wr
theorem free_own {K L : List Nat} {f x : Nat} (h : FI w R S os ds x K (f :: L) w1) : Calls Try.prog 27 #[.pointer (some ⟨R, 0, none⟩), .int .i64 (f : Int)] w1 fun e w' => e = .returned (.tuple #[]) ∧ FI w R S os ds x K L w' := by
  obtain ⟨os', h1, h2, S1, hp, hT, hS⟩ := h
  have hf := h1.own f (by simp)
  have hlt := h1.lt (f := f) (by simp)
  have hle := hp.len.2.2.1
  refine (pfree_any (f : Int) w1 hp (by omega) (by omega)).mono fun e w' ⟨he, hw⟩ => ⟨he, ?_⟩
  have ef : Fr.free os' (f : Int) = os'.set (f - 1) 0 := by
    unfold Fr.free; rw [if_pos (by omega), Int.toNat_natCast]
  rw [ef] at hw
  obtain ⟨h3, h4⟩ := h1.free (ds := ds)
  exact ⟨_, h3, h2.trans h4, plt_step hT hS hw⟩
/-- What stands while frames are charged. -/
structure GI (w : World) (b o R : Nat) (S os : List Nat) (ds : List (List Nat)) (x : Nat) (K : List Nat) (i : Nat) (v : Value) (os' : List Nat) (ds' : List (List Nat)) (E : List Nat) (wr : World) : Prop where
  own : Sg.Own os' x (K ++ E)
  len : E.length = i
  cont : Sg.cont ds' (K ++ E) = Sg.cont ds K ++ List.replicate (64 * i) 0
  oth : Sg.Oth x os ds os' ds'
  plt : PlT (w.setCell ⟨b, o, none⟩ v) R S os' ds' wr
  fo : FO w.heap.size wr v (K ++ E)
/-- A segment was made longer or shorter. -/
def RZ (w : World) (b o R : Nat) (S os : List Nat) (ds : List (List Nat)) (x : Nat) (fs : List Nat) (n : Nat) (w' : World) : Prop :=
  ∃ v' os' ds' fs', Sg.Own os' x fs' ∧ fs'.length = n ∧ (∀ i, i < n → i < fs.length → fs'[i]? = fs[i]?) ∧ Sg.cont ds' fs' = Sg.rsz (Sg.cont ds fs) n ∧ Sg.Oth x os ds os' ds' ∧ PlT (w.setCell ⟨b, o, none⟩ v') R S os' ds' w' ∧ RW (fun _ => True) 3 encI w' v' fs'
/-- One more frame was charged and is held. -/
theorem gi_step {x i kf : Nat} {K E : List Nat} {v2 : Value} {cs : Array Value} {w5 w6 : World} {S6 : List Nat} (hG : GI w b o R S os ds x K i v os' ds' E w1) (hp : Pl w R S os ds) (hb : w.heap[b]? = some (Obj.cells cs 37)) (hk : os'[kf]? = some 0) (hd : Sg.DW os' ds')
    (h5 : PlT (w.setCell ⟨b, o, none⟩ v) R S (os'.set kf x) (ds'.set kf Fr.zeros) w5) (hr : RW (fun k => w.heap.size ≤ k) 3 encI w6 v2 (K ++ E ++ [kf + 1])) (hT : Turn S6 w5 w6) (hS : ∀ y ∈ S6, w.heap.size ≤ y ∧ ∃ cur, w5.heap[y]? = some (Obj.cells cur 3)) (hb6 : ∃ cs', w6.heap[b]? = some (Obj.cells cs' 37)) :
    GI w b o R S os ds x K (i + 1) v2 (os'.set kf x) (ds'.set kf Fr.zeros) (E ++ [kf + 1]) (w6.setCell ⟨b, o, none⟩ v2) := by
  obtain ⟨a1, a2, a3, a4⟩ := hG.own.alloc hd hk
  refine ⟨by rw [← List.append_assoc]; exact a1, by rw [List.length_append, hG.len]; rfl, ?_, hG.oth.trans a4, plt_store (plt_ints h5 (by simpa using hT) (by simpa using hS)) hp hb, .inl ?_⟩
  · rw [← List.append_assoc, a3, hG.cont, List.append_assoc]
    congr 1
    unfold Fr.zeros
    rw [List.replicate_append_replicate, Nat.mul_succ]
  · rw [← List.append_assoc]
    refine RW.keep hr fun g' cur hg hc => ⟨hg, heap_setCell_other _ _ _ _ (fun e => ?_)⟩
    obtain ⟨cs', hb6⟩ := hb6
    have e' : g' = b := e
    rw [e', hb6] at hc; simp at hc
set_option maxRecDepth 100000 in
set_option maxHeartbeats 2000000 in
theorem resize_in {x n : Nat} (h : SV w b o v fs) (hp : Pl w R S os ds) (ho : Sg.Own os x fs) (hx : x < 18446744073709551616) (hn : n ≤ 16) (hq : n ≤ fs.length + os.count 0) :
    Calls Try.prog 16 #[.pointer (some ⟨b, o, none⟩), .pointer (some ⟨R, 0, none⟩), .int .u64 (x : Int), .int .i64 (n : Int)] w fun e w' => e = .returned (.bool true) ∧ RZ w b o R S os ds x fs n w' := by
  have C := Lib.hid (pages_any h)
  have CL := Lib.hid (left_any w hp)
  have hl := h.l
  obtain ⟨A, c, rfl, hlc, hcm, hlr⟩ := h.form
  have c0 := h.c
  have f0 := h.f
  have HS := Lib.hid (And.intro h (And.intro hp (And.intro ho hq)))
  have hx0 := ho.pos
  have hA0 := Lib.hid (show ∀ a, A = some a → a.add 0 = a from fun a ha => by
    rcases h.r with ⟨_, e⟩ | ⟨g, o', cap, cur, e, _⟩
    · injection e with e; rw [e] at ha; cases ha
    · injection e with e; rw [e] at ha; injection ha with ha; rw [← ha, addr_add]; rfl)
  obtain ⟨q, eq⟩ : ∃ q, os.count 0 = q := ⟨_, rfl⟩
  obtain ⟨m, em⟩ : ∃ m, fs.length = m := ⟨_, rfl⟩
  obtain ⟨k, ek⟩ : ∃ k, min n m = k := ⟨_, rfl⟩
  obtain ⟨g, eg⟩ : ∃ g, n - k = g := ⟨_, rfl⟩
  rw [eq] at CL hq
  rw [em] at C hl hq hlc c0 HS
  have t2 : decide ((q : Int) < RowKit.wrap64 ((n : Int) - (m : Int))) = false := by unfold RowKit.wrap64; rw [decide_eq_false_iff_not]; omega
  have t3 : ((x : Int) == 0) = false := by simpa using (by omega : ¬ x = 0)
  have t4 : decide ((n : Int) < 0) = false := by rw [decide_eq_false_iff_not]; omega
  have t5 : decide ((16 : Int) < (n : Int)) = false := by rw [decide_eq_false_iff_not]; omega
  have t6 : min (n : Int) (m : Int) = (k : Int) := by omega
  have t7 : RowKit.wrap64 ((n : Int) - (k : Int)) = (g : Int) := by unfold RowKit.wrap64; omega
  have hkm : k ≤ m := by omega
  have S1 := Lib.hid (fun W => sl_lo W A m c k hkm)
  have S2 := Lib.hid (fun W => sl_hm W A m c k (Nat.le_trans hkm hlc) hA0.out)
  have HFR := Lib.hid (show ∀ (j f : Nat), (fs.drop k)[j]? = some f → ∃ g4 o4 cur, (if c = k then A else A.map (·.add k)) = some ⟨g4, o4, none⟩ ∧ w.heap[g4]? = some (Obj.cells cur 3) ∧ cur[o4 + j]? = some (.int .i64 (f : Int)) from fun j f hj => by
    rw [List.getElem?_drop] at hj
    have hjl := (List.getElem?_eq_some_iff.1 hj).1
    rcases h.r with ⟨e, _⟩ | ⟨g4, o4, cap, cur, e, _, r1, _, _, _, r2⟩
    · subst e; simp at hjl
    · injection e with e1 e2 e3
      rw [if_neg (by omega), e1]
      exact ⟨g4, o4 + k, cur, by rw [Option.map_some, addr_add], r1, by rw [Nat.add_assoc]; exact r2 _ _ hj⟩)
  have HE := Lib.hid (And.intro em (And.intro ek (And.intro eg (And.intro hkm (And.intro hn (And.intro hl hx))))))
  have hmin := @min2 Try.prog
  obtain ⟨p, ep⟩ : ∃ p, m - k = p := ⟨_, rfl⟩
  obtain ⟨cz, ecz⟩ : ∃ cz, c - k = cz := ⟨_, rfl⟩
  obtain ⟨A4, eA4⟩ : ∃ A4, (if c = k then A else A.map (·.add k)) = A4 := ⟨_, rfl⟩
  rw [eA4] at HFR
  rw [eA4, ep, ecz] at S1
  have HEP := Lib.hid ep
  clear h hp ho hq eq em ek eg hlr hlc hcm hl hA0 hn hkm hx eA4 ep ecz
  go_enter Try.func16, Try.ntmps16
  go_wp2_with fail
  refine C.out.mono ?_
  rintro e w1 ⟨rfl, rfl⟩
  go_wp2_with fail
  refine CL.out.mono ?_
  rintro e w1 ⟨rfl, rfl⟩
  go_wp2_with fail
  refine C.out.mono ?_
  rintro e w1 ⟨rfl, rfl⟩
  clear t2 t3 t4 t5 C CL
  go_wp2_with (refine wpList_slice_by rfl 35 (.tmp 42) (some (.tmp 43)) none none rfl (.slice A m c) _ (some (.int .i64 (k : Int))) none none rfl rfl rfl rfl (S1.out _) ?_)
  go_loopg [46] p (fun gh i wr => ∃ j : Nat, j ≤ p ∧ gh = p - j ∧ i = .int .i64 j ∧ Hid (FI w R S os ds x (fs.take k) ((fs.drop k).drop j) wr))
  case atStart => exact ⟨0, Nat.zero_le _, rfl, rfl, Lib.hid ⟨os, by rw [List.drop_zero, List.take_append_drop]; exact HS.out.2.2.1, Sg.Oth.refl _ _ _, PlT.refl HS.out.2.1⟩⟩
  case round =>
    obtain ⟨j, hj, hg, rfl, hI⟩ := hrel
    by_cases hlt : j < p
    · have l1 : (j : Int) < (p : Int) := Int.ofNat_lt.2 hlt
      have i1 : RowKit.wrap64 ((j : Int) + 1) = (j : Int) + 1 := by have := HE.out; have := HEP.out; unfold RowKit.wrap64; omega
      obtain ⟨f, hf⟩ : ∃ f, (fs.drop k)[j]? = some f := ⟨_, List.getElem?_eq_getElem (by have := HE.out; have := HEP.out; rw [List.length_drop]; omega)⟩
      have hdr : (fs.drop k).drop j = f :: (fs.drop k).drop (j + 1) := by
        have hjl := (List.getElem?_eq_some_iff.1 hf).1
        rw [List.drop_eq_getElem_cons hjl]
        congr 1
        rw [List.getElem?_eq_getElem hjl] at hf; injection hf
      have hfi := hI.out
      rw [hdr] at hfi
      have CF := Lib.hid (free_own hfi)
      obtain ⟨g4, o4, cur, rfl, hcur, hcf⟩ := HFR.out j f hf
      obtain ⟨os9, _, _, hplt⟩ := hfi
      have hk := (PlT.kp HS.out.2.1 hplt).block g4 cur _ hcur (by decide) (by decide)
      have x0 : wr.cell? ⟨g4, o4 + j, none⟩ = some (.int .i64 (f : Int)) := by rw [cell_of_row _ _ _ _ _ (0, 0) (hk.trans hcur)]; exact hcf
      have hjm : j + 1 ≤ p := hlt
      clear hI hdr hplt hk hcur hcf hf hlt
      go_wp2_with fail
      refine CF.out.mono ?_
      rintro e w3 ⟨rfl, hw3⟩
      have H3 := Lib.hid hw3
      clear hw3 CF
      go_wp2_with fail
      go_roundg (p - (j + 1))
      case rel => exact ⟨j + 1, hjm, rfl, by rw [i1]; rfl, H3⟩
      case measure => omega
    · obtain rfl : j = p := by omega
      obtain ⟨hsv, hp, ho, hq⟩ := HS.out
      obtain ⟨em, ek, eg, hkm, hn, hl, hx⟩ := HE.out
      obtain ⟨os1, ho1, hot1, hpl1⟩ := hI.out
      have hdn : (fs.drop k).drop j = [] := List.drop_of_length_le (by have := HEP.out; rw [List.length_drop]; omega)
      rw [hdn, List.append_nil] at ho1
      have hsv1 := hsv.kp (PlT.kp hp hpl1)
      have c1 := hsv1.c
      have f1 := hsv1.f
      obtain ⟨cs0, hb0⟩ := hsv.h
      obtain ⟨cs1, hb1⟩ := hsv1.h
      have ho0 : o < cs0.size := by
        have := hsv.c
        rw [cell_of_row _ _ _ _ _ (0, 0) hb0] at this
        exact (Array.getElem?_eq_some_iff.1 this).1
      obtain ⟨W0, eW0⟩ : ∃ W0, wr.setCell ⟨b, o, none⟩ (.slice A k k) = W0 := ⟨_, rfl⟩
      have hG0 : GI w b o R S os ds x (fs.take k) 0 (.slice A k k) os1 ds [] W0 := by
        refine ⟨by rw [List.append_nil]; exact ho1, rfl, by simp, hot1, by rw [← eW0]; exact plt_store0 hpl1 hp hb0, .inr ⟨A, by rw [List.append_nil, List.length_take, Nat.min_eq_left (by omega)], ?_⟩⟩
        rw [List.append_nil]
        refine RW.keep (rw_cut hsv1.r (by omega)) fun g' cur _ hc => ⟨trivial, ?_⟩
        rw [← eW0]
        exact heap_setCell_other _ _ _ _ (fun e => by
          have e' : g' = b := e
          rw [e', hb1] at hc; simp at hc)
      have HG := Lib.hid hG0
      have HB := Lib.hid (And.intro hb0 ho0)
      have HW := Lib.hid eW0
      clear hI hsv hp ho hq em ek eg hkm hn hl hx ho1 hot1 hpl1 hdn hsv1 hb0 hb1 ho0 eW0 hG0 hlt hj c0 f0 t6 S1 hmin
      go_wp2_with (refine wpList_slice_by rfl 35 (.tmp 58) none (some (.tmp 59)) (some (.tmp 60)) rfl (.slice A m c) _ none (some (.int .i64 (k : Int))) (some (.int .i64 (k : Int))) rfl rfl rfl rfl (S2.out _) ?_)
      rw [HW.out]
      rw [t7]
      clear c1 f1 S2 HW t7
      go_loopg [67] g (fun gh i wx => ∃ j2 : Nat, j2 ≤ g ∧ gh = g - j2 ∧ i = .int .i64 j2 ∧ Hid (∃ v' os' ds' E, GI w b o R S os ds x (fs.take k) j2 v' os' ds' E wx))
      case atStart => exact ⟨0, Nat.zero_le _, rfl, rfl, Lib.hid ⟨_, _, _, _, HG.out⟩⟩
      case round =>
        clear HG
        obtain ⟨j2, hj, hg, rfl, hI⟩ := hrel
        by_cases hlt : j2 < g
        · obtain ⟨v', os2, ds2, E, hG⟩ := hI.out
          obtain ⟨hsv, hp, ho, hq⟩ := HS.out
          obtain ⟨em, ek, eg, hkm, hn, hl, hx⟩ := HE.out
          obtain ⟨hb0, ho0⟩ := HB.out
          obtain ⟨hc2, hf2, hb2⟩ := plt_cell hG.plt hp hb0 ho0
          have hnl : (fs.take k ++ E).length = k + j2 := by rw [List.length_append, List.length_take, hG.len, em, Nat.min_eq_left hkm]
          have hfree : 0 < os2.count 0 := by
            have h1 := hG.oth.sum
            have h2 := hG.own.cnt
            have h3 := ho.cnt
            rw [hnl] at h2
            omega
          obtain ⟨kf, hkf⟩ := free_some hfree
          have hk0 := (least_some hkf).1
          obtain ⟨S1, hpl1, hT1, hS1⟩ := hG.plt
          have hdw := hpl1.dw
          have hol := hpl1.len.2.2.1
          have hpl2 : Pl wr.drew R S1 os2 ds2 := hpl1.below ((Below.refl _ _).drew)
          have hfo2 : FO w.heap.size wr.drew v' (fs.take k ++ E) := hG.fo.keep fun _ _ _ => rfl
          have hsz : w.heap.size ≤ wr.heap.size := by have := hT1.size; simpa using this
          obtain ⟨f, ef⟩ : ∃ f, kf + 1 = f := ⟨_, rfl⟩
          have hall : Fr.alloc os2 x = (f, os2.set kf x) ∧ Fr.allocD os2 ds2 x = ds2.set kf Fr.zeros := by
            unfold Fr.alloc Fr.allocD
            rw [if_neg (by omega), if_neg (by omega), hkf, ← ef]
            exact ⟨rfl, rfl⟩
          obtain ⟨St, eSt⟩ : ∃ St : World → Prop, St = fun W => PlT (w.setCell ⟨b, o, none⟩ v') R S (os2.set kf x) (ds2.set kf Fr.zeros) W ∧ FO w.heap.size W v' (fs.take k ++ E) ∧ w.heap.size ≤ W.heap.size ∧ ∃ cs', W.heap[b]? = some (Obj.cells cs' 37) := ⟨_, rfl⟩
          have CC : Calls Try.prog 28 #[.pointer (some ⟨R, 0, none⟩), .int .u64 (x : Int)] wr.drew (fun e w' => e = .returned (.int .i64 (f : Int)) ∧ St w' ∧ w'.cell? ⟨b, o, none⟩ = some v' ∧ (w'.alloc (Obj.cells #[.int .i64 (f : Int)] 3)).cell? ⟨b, o, none⟩ = some v') := by
            refine (palloc_any x wr.drew hpl2 hx).mono fun e w5 ⟨he, hw⟩ => ?_
            rw [hall.1] at he
            rw [hall.1, hall.2] at hw
            have hT0 : Turn S (w.setCell ⟨b, o, none⟩ v') wr.drew := hT1.trans (Turn.of_below ((Below.refl _ _).drew) (S := [])) (by simp)
            have h5 := plt_step hT0 hS1 hw
            obtain ⟨y1, y2, y3⟩ := plt_cell h5 hp hb0 ho0
            have hkp := PlT.kp hpl2 hw
            refine ⟨he, ?_, y1, ?_⟩
            · rw [eSt]
              exact ⟨h5, hfo2.keep fun g' cur hc => hkp.block g' cur _ hc (by decide) (by decide), Nat.le_trans hsz hkp.size, y3⟩
            · rw [World.cell?_alloc_lt _ _ _ (by obtain ⟨cs', y3⟩ := y3; exact (Array.getElem?_eq_some_iff.1 y3).1)]; exact y1
          have HSt := Lib.hid eSt
          obtain ⟨A2, c2, ev, hc3, _, _⟩ := RW.form hG.fo.row
          rw [hnl] at ev hc3
          have HA : Hid (∀ w5, St w5 → ∃ A3 n3 c3 w6, (Builtin.append_ #[35, 35] 35 #[v', .slice (some ⟨w5.heap.size, 0, none⟩) 1 1]).run Try.prog (w5.alloc (Obj.cells #[.int .i64 (f : Int)] 3)) = .ok (.slice A3 n3 c3) w6 ∧ w6.cell? ⟨b, o, none⟩ = some v' ∧ w6.frozen? ⟨b, o, none⟩ = false ∧
              GI w b o R S os ds x (fs.take k) (j2 + 1) (.slice A3 n3 c3) (os2.set kf x) (ds2.set kf Fr.zeros) (E ++ [f]) (w6.setCell ⟨b, o, none⟩ (.slice A3 n3 c3))) := Lib.hid fun w5 h5 => by
            rw [HSt.out] at h5
            obtain ⟨h5a, h5b, h5c, h5d⟩ := h5
            obtain ⟨v2, w6, hrun, hr, S6, hT, hS⟩ := append_i (f := f) 35 h5b (by rw [hnl]; omega) h5c
            obtain ⟨A3, c3, e3, _, _, _⟩ := RW.form hr
            obtain ⟨y1, y2, y3⟩ := plt_cell (plt_ints h5a (by simpa using hT) (by simpa using hS)) hp hb0 ho0
            rw [← ef] at hr
            have hgi := gi_step hG hp hb0 hk0 hdw h5a hr hT hS y3
            rw [e3] at hrun hgi
            rw [ef] at hgi
            exact ⟨A3, _, c3, w6, hrun, y1, y2, hgi⟩
          have CH := Lib.hid CC
          obtain ⟨n2, en2⟩ : ∃ n2, k + j2 = n2 := ⟨_, rfl⟩
          rw [en2] at ev hc3
          subst ev
          have l1 : (j2 : Int) < (g : Int) := Int.ofNat_lt.2 hlt
          have i1 : RowKit.wrap64 ((j2 : Int) + 1) = (j2 : Int) + 1 := by unfold RowKit.wrap64; omega
          have hjm : j2 + 1 ≤ g := hlt
          clear hI hG hsv hp ho hq em ek eg hkm hn hl hx hb0 ho0 hb2 hnl hfree hkf hk0 hpl1 hT1 hS1 hdw hol hpl2 hfo2 hsz ef hall eSt CC en2 hc3 hlt
          go_upto_region 12 with fail
          go_region_law (first
            | (go_simp
               refine CH.out.mono ?_
               rintro e w5 ⟨rfl, h5, c5, c5a⟩
               have H5 := Lib.hid h5
               clear h5)
            | (obtain ⟨A3, n3, c3, w6, hrun, c6, f6, h6⟩ := HA.out _ H5.out
               have H6 := Lib.hid h6
               clear h6
               refine step_append_by (by rfl) _ _ _ _ (by rfl) _ _ _ (by rfl) (by rfl) w6 hrun ?_))
          all_goals
            go_wp2_with fail
            go_roundg (g - (j2 + 1))
            case rel => exact ⟨j2 + 1, hjm, rfl, by rw [i1]; rfl, Lib.hid ⟨_, _, _, _, H6.out⟩⟩
            case measure => omega
        · obtain rfl : j2 = g := by omega
          clear hlt hj
          go_wp2_with fail
          go_ret
          obtain ⟨v', os2, ds2, E, hG⟩ := hI.out
          obtain ⟨hsv, hp, ho, hq⟩ := HS.out
          obtain ⟨em, ek, eg, hkm, hn, hl, hx⟩ := HE.out
          refine ⟨rfl, v', os2, ds2, fs.take k ++ E, hG.own, ?_, fun i hi1 hi2 => ?_, ?_, hG.oth, hG.plt, hG.fo.row⟩
          · rw [List.length_append, List.length_take, hG.len, em]; omega
          · rw [List.getElem?_append_left (by rw [List.length_take]; omega), List.getElem?_take, if_pos (by omega)]
          · rw [hG.cont]
            exact Sg.cont_rsz hp.dw (fun f hf => ho.lt hf) (by rw [em]; exact ek) eg
end Go.Proofs.Ytkpdgjmeeeddhaa
