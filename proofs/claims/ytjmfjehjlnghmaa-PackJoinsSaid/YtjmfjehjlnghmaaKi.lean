import Derived.Test.YtjmfjehjlnghmaaKh
namespace Pk
theorem ln_rl (bs : List Nat) : ln (bs, false) = match rl bs with
  | none => (0, [], (bs, true))
  | some (D, ps, r) => (D, ps, (r, false)) := by unfold ln; rw [if_neg (by simp)]; rfl
theorem labs_len (ls : List Lb) : 2 * ls.length ≤ (labs ls).length := by
  induction ls with
  | nil => simp [labs]
  | cons l ls ih => rw [labs_cons, List.length_append, lab_len]; simp; omega
end Pk
namespace Go.Proofs.Ytjmfjehjlnghmaa
open Go.RowKit
set_option linter.unusedVariables false
set_option linter.unusedSimpArgs false

theorem info31 : (Try.prog.info? 31).map (fun i => (i.zero, i.size, i.bytes)) = some (some (.agg #[.int .i64 0, .slice none 0 0]), 2, 32) := by kernel_rfl
/-- Labels, as cells: default, slice of pairs. -/
def LC (ts : List (Int × Value × List (Nat × Int))) : List Value := ts.flatMap fun t => [Value.int .i64 t.1, t.2.1]
theorem LC_snoc (ts : List (Int × Value × List (Nat × Int))) (D : Int) (v : Value) (ps : List (Nat × Int)) : LC (ts ++ [(D, v, ps)]) = LC ts ++ [.int .i64 D, v] := by simp [LC]
theorem LC_at : ∀ {ts : List (Int × Value × List (Nat × Int))} {i : Nat} {t : Int × Value × List (Nat × Int)}, ts[i]? = some t → (LC ts)[i * 2]? = some (.int .i64 t.1) ∧ (LC ts)[i * 2 + 1]? = some t.2.1
  | [], i, t, h => by simp at h
  | u :: ts, 0, t, h => by simp at h; subst h; simp [LC]
  | u :: ts, i + 1, t, h => by
      have ih := LC_at (ts := ts) (i := i) (t := t) (by simpa using h)
      have e1 : (i + 1) * 2 = i * 2 + 1 + 1 := by omega
      have e2 : (i + 1) * 2 + 1 = i * 2 + 1 + 1 + 1 := by omega
      rw [e2, e1]
      simpa [LC] using ih
/-- A slice of labels of a call's own. -/
def LS (X : Nat) (w : World) (v : Value) (ls : List Pk.Lb) : Prop :=
  ∃ ts : List (Int × Value × List (Nat × Int)), ts.map (fun t => (t.1, t.2.2)) = ls ∧ w.ownsRow X 31 2 v ls.length (LC ts) ∧ ∀ t ∈ ts, w.ownsRow X 57 2 t.2.1 t.2.2.length (F t.2.2)
theorem LS.nil (X : Nat) (w : World) : LS X w (.slice none 0 0) [] := ⟨[], rfl, World.ownsRow_nil _ _ _ _, by simp⟩
theorem LS.below {X : Nat} {w w' : World} {v : Value} {ls : List Pk.Lb} (h : LS X w v ls) (hb : Below w.heap.size w w') : LS X w' v ls := by
  obtain ⟨ts, h1, h2, h3⟩ := h
  exact ⟨ts, h1, owns_below h2 hb, fun t ht => owns_below (h3 t ht) hb⟩
theorem LS.turned {X R : Nat} {w w' : World} {v : Value} {ls : List Pk.Lb} {bs : List Nat} {bad : Bool} (h : LS X w v ls) (hr : Rd w R bs bad) (hg : w.grownBy w' (some R)) : LS X w' v ls := by
  obtain ⟨ts, h1, h2, h3⟩ := h
  exact ⟨ts, h1, hr.keepsOwn hg h2 (by decide), fun t ht => hr.keepsOwn hg (h3 t ht) (by decide)⟩
theorem LS.mono {X X' : Nat} {w : World} {v : Value} {ls : List Pk.Lb} (h : LS X w v ls) (hX : X' ≤ X) : LS X' w v ls := by
  obtain ⟨ts, h1, h2, h3⟩ := h
  exact ⟨ts, h1, owns_mono h2 hX, fun t ht => owns_mono (h3 t ht) hX⟩
/-- One more. -/
theorem LS.push {X : Nat} {w w' : World} {v v' pv : Value} {ls : List Pk.Lb} {D : Int} {ps : List (Nat × Int)} {ts : List (Int × Value × List (Nat × Int))} (h1 : ts.map (fun t => (t.1, t.2.2)) = ls) (h2 : w.ownsRow X 31 2 v ls.length (LC ts)) (h3 : ∀ t ∈ ts, w.ownsRow X 57 2 t.2.1 t.2.2.length (F t.2.2))
   (hp : w.ownsRow X 57 2 pv ps.length (F ps)) (hg : w.grownBy w' v.ownBlock) (ho : w'.ownsRow X 31 2 v' (ls.length + 1) (LC ts ++ [.int .i64 D, pv])) : LS X w' v' (ls ++ [(D, ps)]) := by
  have hx : ∀ (u : Value) (qs : List (Nat × Int)), w.ownsRow X 57 2 u qs.length (F qs) → w'.ownsRow X 57 2 u qs.length (F qs) := fun u qs hu => by
    refine hu.kept hg ?_
    cases hb : u.ownBlock with
    | none => exact .inl rfl
    | some g =>
      refine .inr fun e => ?_
      rcases hu.2 with ⟨rfl, _⟩ | ⟨g', cap, cur, rfl, _, hh, _⟩
      · simp [Value.ownBlock] at hb
      · have e1 : g' = g := by simpa [Value.ownBlock] using hb
        subst e1
        exact own_ne h2 hh (by decide) e
  refine ⟨ts ++ [(D, pv, ps)], by simp [h1], by rw [LC_snoc, List.length_append]; exact ho, fun t ht => ?_⟩
  rcases List.mem_append.1 ht with ht | ht
  · exact hx _ _ (h3 t ht)
  · simp at ht; subst ht; exact hx _ _ hp
/-- A row of the call's own has grown: readers stay. -/
theorem Rd.grownOwn {X R : Nat} {w w' : World} {bs : List Nat} {bad : Bool} {e : TypeId} {size n : Nat} {v : Value} {xs : List Value} (h : Rd w R bs bad) (ho : w.ownsRow X e size v n xs) (h5 : e ≠ 5) (h59 : e ≠ 59) (hg : w.grownBy w' v.ownBlock) : Rd w' R bs bad := by
  obtain ⟨A, c, h1, h2⟩ := h
  refine Rd.kept (w := w) ⟨A, c, h1, h2⟩ (fun b cs hh => ?_) (hg.block _ (Array.getElem?_eq_some_iff.1 h1).1 (own_ne ho h1 h59))
  rw [hg.block _ (Array.getElem?_eq_some_iff.1 hh).1 (own_ne ho hh h5)]; exact hh
/-- What Labels answers. -/
def Told (W : World) (r : Option (List Pk.Lb)) (e : Ending) (w' : World) : Prop :=
  (r = none ∧ e = .returned (.tuple #[.slice none 0 0, .int .i64 10]) ∧ Below W.heap.size W w') ∨ ∃ ls v, r = some ls ∧ e = .returned (.tuple #[v, .int .i64 0]) ∧ LS W.heap.size w' v ls ∧ Below W.heap.size W w'
/-- What holds at each round. -/
def LbsRel (w : World) (R : Nat) (bs : List Nat) (j : Nat) (v : Value) (wr : World) : Prop :=
  ∃ ls r, Pk.decs j bs = some (ls, r) ∧ ls.length = j ∧ j ≤ 500000 ∧ Rd wr R r false ∧ LS w.heap.size wr v ls ∧ Below w.heap.size w wr ∧ w.heap.size ≤ R
theorem decs_bound {bs : List Nat} {j : Nat} {ls : List Pk.Lb} {r : List Nat} (hb : ∀ x ∈ bs, x < 256) (hn : bs.length ≤ 1000000) (h : Pk.decs j bs = some (ls, r)) : ls.length = j ∧ j ≤ 500000 := by
  obtain ⟨h1, _, h3⟩ := Pk.decs_true _ _ _ _ hb h
  have := Pk.labs_len ls
  rw [h3, List.length_append] at hn
  exact ⟨h1, by omega⟩
set_option maxHeartbeats 2000000 in
theorem labels_any (A : Option Addr) (c n k : Nat) (bs : List Nat) (w : World) (hn : bs.length = n) (hm : n ≤ 1000000) (hr : BR w A bs) (hA : A = none → c = 0) (hb : ∀ x ∈ bs, x < 256) (hk : k ≤ 1000000) :
    Calls Try.prog 11 #[.slice A n c, .int .i64 k] w (Told w (Pk.tell k bs)) := by
  obtain ⟨i0, hi, hz0, hz1, hz2⟩ := info_parts info31
  have C := Lib.hid (new_any A c n bs w hn (by omega) hr hA hb)
  have CL := Lib.hid (fun (R : Nat) (r : List Nat) (W : World) (h : Rd W R r false) => label_any R r false W h)
  have CB := Lib.hid (fun (R : Nat) (r : List Nat) (bad : Bool) (W : World) (h : Rd W R r bad) => bad_any R r bad W h)
  have CR := Lib.hid (fun (R : Nat) (r : List Nat) (bad : Bool) (W : World) (h : Rd W R r bad) => rest_any R r bad W h)
  have HD := Lib.hid (fun (j : Nat) (ls : List Pk.Lb) (r : List Nat) (h : Pk.decs j bs = some (ls, r)) => decs_bound hb (by omega) h)
  clear hn hr hA hb
  go_enter Try.func11, Try.ntmps11
  go_wp2_with fail
  refine C.out.mono ?_
  rintro e w1 ⟨R, rfl, hR, hrd, hbl⟩
  have H0 := Lib.hid (show LbsRel w R bs 0 (.slice none 0 0) w1 from ⟨[], bs, rfl, rfl, by omega, hrd, LS.nil _ _, hbl, hR⟩)
  clear C hR hrd hbl
  go_wp2_with fail
  go_loopg [7, 14] k (fun g v i wr => ∃ j : Nat, j ≤ k ∧ Hid (g = k - j) ∧ i = .int .i64 j ∧ Hid (LbsRel w R bs j v wr))
  case atStart => exact ⟨0, by omega, Lib.hid (by omega), rfl, H0⟩
  case round =>
    obtain ⟨j, hj, hg, rfl, hrl⟩ := hrel
    clear H0
    by_cases hlt : j < k
    · obtain ⟨ls, r, q1, q2, q3, q4, q5, q6, q7⟩ := hrl.out
      have CL1 := Lib.hid (CL.out R r wr q4)
      rw [Pk.ln_rl] at CL1
      have Q := Lib.hid (And.intro q1 (And.intro q2 (And.intro q3 (And.intro q4 (And.intro q5 (And.intro q6 q7))))))
      clear q1 q2 q4 q5 q6 q7 hrl
      cases hrl : Pk.rl r with
      | none =>
        rw [hrl] at CL1
        have HT := Lib.hid (Pk.tell_stop Q.out.1 hlt hrl)
        clear hrl
        go_wp2_with fail
        refine CL1.out.mono ?_
        rintro e w2 ⟨pv, rfl, ho, hr2, hg2⟩
        have hform := form2 ho
        have hb2 : Below w.heap.size w w2 := below_grown Q.out.2.2.2.2.2.1 hg2 Q.out.2.2.2.2.2.2
        obtain ⟨w3, e3⟩ : ∃ w3, w3 = w2.alloc (Obj.cells #[.int .i64 0, pv] 31) := ⟨_, rfl⟩
        have hb3 : Rd w3 R r true ∧ Below w.heap.size w w3 := by rw [e3]; exact ⟨hr2.below ((Below.refl _ _).alloc (Nat.le_refl _) _), hb2.alloc hb2.size _⟩
        have H3 := Lib.hid hb3
        have CB1 := Lib.hid (CB.out R r true w3 H3.out.1)
        clear ho hr2 hg2 hb2 hb3 Q CL1 CL
        rcases hform with rfl | ⟨g', n', c', rfl⟩
        all_goals
          go_upto_region 8 with fail
          rw [← e3]
          clear e3
          go_wp2_with fail
          refine CB1.out.mono ?_
          rintro e w4 ⟨rfl, rfl⟩
          go_wp2_with fail
          go_ret2
          exact .inl ⟨HT.out, rfl, H3.out.2⟩
      | some t =>
        obtain ⟨D, ps, rest⟩ := t
        rw [hrl] at CL1
        have HS := Lib.hid (Pk.decs_snoc Q.out.1 hrl)
        clear hrl
        go_wp2_with fail
        refine CL1.out.mono ?_
        rintro e w2 ⟨pv, rfl, ho, hr2, hg2⟩
        have hform := form2 ho
        have hb2 : Below w.heap.size w w2 := below_grown Q.out.2.2.2.2.2.1 hg2 Q.out.2.2.2.2.2.2
        have hls := Q.out.2.2.2.2.1.turned Q.out.2.2.2.1 hg2
        have hpo : w2.ownsRow w.heap.size 57 2 pv ps.length (F ps) := owns_mono ho Q.out.2.2.2.2.2.1.size
        have hbw : Below w2.heap.size w2 (w2.alloc (Obj.cells #[.int .i64 D, pv] 31)) := (Below.refl _ _).alloc (Nat.le_refl _) _
        have hnew := heap_alloc_new w2 (Obj.cells #[.int .i64 D, pv] 31)
        obtain ⟨w3, e3⟩ : ∃ w3, w3 = w2.alloc (Obj.cells #[.int .i64 D, pv] 31) := ⟨_, rfl⟩
        rw [← e3] at hbw hnew
        have HQ := Lib.hid (And.intro (hr2.below hbw) (And.intro (hls.below hbw) (And.intro (owns_below hpo hbw) (hb2.trans (hbw.mono hb2.size)))))
        have CB1 := Lib.hid (CB.out R rest false w3 HQ.out.1)
        have q7 := Lib.hid Q.out.2.2.2.2.2.2
        clear ho hr2 hg2 hb2 hls hpo hbw CL1 CL Q
        obtain ⟨L, eL⟩ : ∃ L, L = w2.heap.size := ⟨_, rfl⟩
        rw [← eL] at hnew
        obtain ⟨l0, l1⟩ := cells2 hnew
        clear hnew
        obtain ⟨ts, t1, t2, t3⟩ := HQ.out.2.1
        have T1 := Lib.hid t1
        have T2 := Lib.hid t2
        have T3 := Lib.hid t3
        have hjl := (HD.out _ _ _ HS.out)
        have hjl1 : ls.length + 1 = j + 1 := by simpa using hjl.1
        obtain ⟨m, em⟩ : ∃ m, ls.length = m := ⟨_, rfl⟩
        rw [em] at hjl1 T2
        obtain rfl : m = j := by omega
        have hj5 := hjl.2
        have EM := Lib.hid em
        clear t1 t2 t3 hjl hjl1 em
        rcases hform with rfl | ⟨g', n', c', rfl⟩
        all_goals
          go_upto_region 8 with fail
          rw [← e3, ← eL]
          clear e3 eL
          go_wp2_with fail
          refine CB1.out.mono ?_
          rintro e w4 ⟨rfl, rfl⟩
          have hsz3 := HQ.out.2.2.2.size
          go_wp2_with (at_builtin; refine wpList_append_own _ rfl _ _ 33 rfl w.heap.size 31 i0 (.agg #[.int .i64 0, .slice none 0 0]) 2 32 Try.underlying33 hi hz0 hz1 hz2 rfl (by decide) _ m (LC ts) rfl (T2.out.alloc _) ⟨w3.heap.size, 0, none⟩ 1 1 [.int .i64 D, _] rfl rfl (cell_two_new _ _ _ _) (by simp [Value.oneCell']) (by unfold maxLen; omega) (by omega) (by simp; omega) ?_)
          intro v' w5 hown5 hg5 _
          have hnx := Lib.hid (show LbsRel w R bs (m + 1) v' w5 from by
            have em := EM.out
            have ha : ∀ o, Below w3.heap.size w3 (w3.alloc o) := fun o => (Below.refl _ _).alloc (Nat.le_refl _) _
            refine ⟨_, rest, HS.out, by simp [em], hj5, (HQ.out.1.below (ha _)).grownOwn (T2.out.alloc _) (by decide) (by decide) hg5, ?_, ((HQ.out.2.2.2.trans ((ha _).mono hsz3)).grown hg5 (by simp; omega) (fun b hb => (T2.out.lt b hb).1)), q7.out⟩
            exact LS.push (w := w3.alloc _) T1.out (by rw [em]; exact T2.out.alloc _) (fun t ht => (T3.out t ht).alloc _) (HQ.out.2.2.1.alloc _) hg5 (by rw [em]; exact hown5))
          clear hown5 hg5 hsz3
          go_wp2_with fail
          go_roundg (k - (m + 1))
          case measure => rw [hg.out]; omega
          case rel => exact ⟨m + 1, by omega, Lib.hid rfl, by go_num, hnx⟩
    · obtain ⟨ls, r, q1, q2, q3, q4, q5, q6, q7⟩ := hrl.out
      obtain rfl : j = k := by omega
      have HT := Lib.hid (Pk.tell_end q1)
      have CR1 := Lib.hid (CR.out R r false wr q4)
      have Q := Lib.hid (And.intro q5 q6)
      clear q1 q2 q3 q4 q5 q6 q7 hrl CL CB
      cases r with
      | nil =>
        go_wp2_with fail
        refine CR1.out.mono ?_
        rintro e w2 ⟨rfl, rfl⟩
        go_wp2_with fail
        go_ret2
        exact .inr ⟨ls, _, by rw [HT.out]; rfl, rfl, Q.out.1, Q.out.2⟩
      | cons y r =>
        have hpos : (0 : Int) < ((y :: r).length : Int) := by simp
        obtain ⟨q, eq⟩ : ∃ q, (y :: r).length = q := ⟨_, rfl⟩
        rw [eq] at CR1 hpos
        go_wp2_with fail
        refine CR1.out.mono ?_
        rintro e w2 ⟨rfl, rfl⟩
        go_wp2_with fail
        go_ret2
        exact .inl ⟨by rw [HT.out]; rfl, rfl, Q.out.2⟩
end Go.Proofs.Ytjmfjehjlnghmaa
