/- TicketServes. -/
import Derived.Test.YtogbidkkdhhllaaVh
import Derived.Test.YtogbidkkdhhllaaVm
set_option linter.unusedVariables false
set_option linter.unusedSimpArgs false
namespace Tk
/-- Numbers 1 to m of which g says no. -/
def left (g : Nat → Bool) (m : Nat) : List Nat := (List.range' 1 m).filter fun x => !g x
theorem left_succ (g : Nat → Bool) (m : Nat) : left g (m + 1) = left g m ++ if g (m + 1) then [] else [m + 1] := by
  unfold left
  rw [List.range'_concat, List.filter_append]
  simp only [Nat.one_mul]
  rw [Nat.add_comm 1 m]
  cases h : g (m + 1) <;> simp [h]
theorem left_none (m : Nat) : left (fun _ => false) m = List.range' 1 m := by unfold left; simp
theorem left_nodup (g : Nat → Bool) (m : Nat) : (left g m).Nodup := List.Pairwise.filter _ (List.nodup_range' (step := 1))
theorem left_len (g : Nat → Bool) (m : Nat) : (left g m).length ≤ m := by
  have := List.length_filter_le (fun x => !g x) (List.range' 1 m)
  rw [List.length_range'] at this
  exact this
theorem left_le {g : Nat → Bool} {m x : Nat} (h : x ∈ left g m) : 1 ≤ x ∧ x ≤ m := by
  unfold left at h
  have := List.mem_range'_1.1 (List.mem_filter.1 h).1
  omega
theorem left_erase (g : Nat → Bool) (m x : Nat) : (left g m).erase x = left (fun i => if i = x then true else g i) m := by
  rw [List.Nodup.erase_eq_filter (left_nodup g m)]
  unfold left
  rw [List.filter_filter]
  apply List.filter_congr
  intro y _
  by_cases e : y = x <;> simp [e]
theorem join_next (m : Nat) : jq (left (fun _ => false) m) (m + 1) = left (fun _ => false) (m + 1) := by
  rw [left_succ]
  unfold jq
  rw [if_neg]
  · rfl
  · rintro (h | h)
    · omega
    · have := left_le h; omega
/-- P11.2: the version is odd just as long as somebody is there. -/
def Odd (us : List Nat) (n : Nat) : Prop := n % 2 = if us = [] then 0 else 1
theorem odd_join {us : List Nat} {n x : Nat} (h : Odd us n) : Odd (jq us x) (jv us n x) := by
  unfold Odd jq jv at *
  by_cases hx : x = 0 ∨ x ∈ us
  · rw [if_pos hx, if_pos hx]; exact h
  · rw [if_neg hx, if_neg hx]
    by_cases hu : us = []
    · simp [hu] at h ⊢; omega
    · simp [hu] at h ⊢; exact h
theorem odd_leave {us : List Nat} {n x : Nat} (h : Odd us n) : Odd (us.erase x) (lv us n x) := by
  unfold Odd lv at *
  by_cases hx : x ∈ us
  · rw [if_pos hx]
    have hl : (us.erase x).length = us.length - 1 := List.length_erase_of_mem hx
    have hne : us ≠ [] := fun e => by rw [e] at hx; cases hx
    rw [if_neg hne] at h
    have h0 : 0 < us.length := List.length_pos_iff.2 hne
    have he : us.erase x = [] ↔ us.length = 1 := by
      rw [← List.length_eq_zero_iff, hl]; omega
    by_cases h1 : us.length = 1
    · have hi : us.idxOf x = 0 := by have := List.idxOf_lt_length_iff.2 hx; omega
      rw [if_pos hi, if_pos h1, if_pos (he.2 h1)]; omega
    · rw [if_neg (fun e => h1 (he.1 e))]
      by_cases hi : us.idxOf x = 0
      · rw [if_pos hi, if_neg h1]; omega
      · rw [if_neg hi]; exact h
  · rw [if_neg hx, List.erase_of_not_mem hx]; exact h
end Tk
namespace Go.Proofs.Ytogbidkkdhhllaa
open Go.RowKit Tk
set_option linter.unusedVariables false
set_option linter.unusedSimpArgs false
theorem i64_and31 (n : Int) : bits .and .i64 n 31 = n % 32 := by
  have h127 : (BitVec.ofInt 64 31).toNat = 2 ^ 5 - 1 := by decide
  have key : (BitVec.ofInt 64 n &&& BitVec.ofInt 64 31).toNat = (n % ((2 ^ 64 : Nat) : Int)).toNat % 2 ^ 5 := by
    rw [BitVec.toNat_and, BitVec.toNat_ofInt, h127, Nat.and_two_pow_sub_one_eq_mod]
  show IntKind.i64.wrap ((BitVec.ofInt 64 n &&& BitVec.ofInt 64 31).toNat : Nat) = n % 32
  rw [key, IntKind.wrap_i64]
  omega
theorem u64_and1 (n : Nat) : bits .and .u64 (n : Int) 1 = ((n % 2 : Nat) : Int) := by
  have h127 : (BitVec.ofInt 64 1).toNat = 2 ^ 1 - 1 := by decide
  have key : (BitVec.ofInt 64 (n : Int) &&& BitVec.ofInt 64 1).toNat = ((n : Int) % ((2 ^ 64 : Nat) : Int)).toNat % 2 ^ 1 := by
    rw [BitVec.toNat_and, BitVec.toNat_ofInt, h127, Nat.and_two_pow_sub_one_eq_mod]
  show IntKind.u64.wrap ((BitVec.ofInt 64 (n : Int) &&& BitVec.ofInt 64 1).toNat : Nat) = _
  rw [key, IntKind.wrap_u64]
  omega
theorem off20 (off : Int) : ∃ (t u : Int) (v : Nat), off.tmod 20 = t ∧ RowKit.wrap64 (t + 20) = u ∧ u.tmod 20 = (v : Int) ∧ v < 20 := by
  have h1 := Int.tmod_lt_of_pos off (show (0 : Int) < 20 by omega)
  have h2 := Int.lt_tmod_of_pos off (show (0 : Int) < 20 by omega)
  refine ⟨_, _, (RowKit.wrap64 (off.tmod 20 + 20)).toNat % 20, rfl, rfl, ?_, by omega⟩
  have e : RowKit.wrap64 (off.tmod 20 + 20) = off.tmod 20 + 20 := by unfold RowKit.wrap64; omega
  rw [e, Int.tmod_eq_emod_of_nonneg (by omega)]
  omega
/-- A lock and what is gone. -/
structure SS (W : World) (L G : Nat) (us : List Nat) (n : Nat) (g : Nat → Bool) (m : Nat) (w : World) : Prop where
  ls : LS W L us n w
  mp : MapB w G m g
  gl : W.heap.size ≤ G
  ne : G ≠ L
variable {W w w' : World} {L G : Nat} {us us' : List Nat} {n n' m m' : Nat} {g g' : Nat → Bool}
theorem SS.lock (h : SS W L G us n g m w) (hl : LS W L us' n' w') (hT : Turn [L] w w') : SS W L G us' n' g m w' :=
  ⟨hl, h.mp.same (hT.block G h.mp.lt fun hm => h.ne (List.mem_singleton.1 hm)), h.gl, h.ne⟩
theorem SS.put (h : SS W L G us n g m w) (hm : MapB w' G m' g') (hT : Turn [G] w w') : SS W L G us n g' m' w' :=
  ⟨⟨h.ls.b.trans (hT.below h.ls.b.size fun b hb => by rw [List.mem_singleton.1 hb]; exact h.gl), h.ls.l, h.ls.m.keep (hT.block L h.ls.m.lt fun hm => h.ne (List.mem_singleton.1 hm).symm) fun b cur hb hc => ⟨hb, hT.block b (Array.getElem?_eq_some_iff.1 hc).1 fun hm => h.mp.not_row (by rw [← List.mem_singleton.1 hm]; exact hc)⟩⟩, hm, h.gl, h.ne⟩
theorem SS.below (h : SS W L G us n g m w) (hb : Below w.heap.size w w') : SS W L G us n g m w' := ⟨h.ls.below hb, h.mp.same (hb.block G h.mp.lt), h.gl, h.ne⟩
set_option maxRecDepth 100000 in
set_option maxHeartbeats 4000000 in
theorem serves_all (nn : Int) (A : Option Addr) (l c : Nat) (xs : List Int) (w : World) (hc : l ≤ c) (hcm : c ≤ maxLen) (hl : xs.length = l) (hr : LR inI w A xs) :
    Calls Try.prog 4 #[.int .i64 nn, .slice A l c] w fun e w' => e = .returned (.bool true) ∧ Below w.heap.size w w' := by
  have B := Lib.hid (fit_any w)
  have HR := Lib.hid hr
  have HL := Lib.hid hl
  have hcm' : c ≤ 9223372036854775807 := hcm
  obtain ⟨t, u, n, e1, e2, e3, hn⟩ := off20 nn
  clear hr hl
  by_cases hbig : 50 < l
  · have g1 : (l : Int) > 50 := by omega
    have g2 : (50 : Int) < l := by omega
    go_enter Try.func4, Try.ntmps4
    go_wp2_with fail
    refine B.out.mono ?_; rintro e w1 ⟨rfl, hb⟩
    go_wp2_with fail
    go_ret
    exact ⟨rfl, hb⟩
  have hmm := @run_makeMap Try.prog
  have g1 : ¬ (l : Int) > 50 := by omega
  have g2 : ¬ (50 : Int) < l := by omega
  go_enter Try.func4, Try.ntmps4
  go_wp2_with fail
  refine B.out.mono ?_; rintro e w1 ⟨rfl, hb⟩
  have h1 := LS.new hb
  have h2 := MapB.new (w1.alloc (Obj.cells #[.slice none 0 0, .int .u64 0] 27))
  have HN : Hid (SS w w1.heap.size (w1.heap.size + 1) [] 0 (fun _ => false) 0 _) := Lib.hid ⟨h1.below (below_alloc1 _ (.map #[] 0)), by simpa using h2, by have := hb.size; omega, by omega⟩
  clear h1 h2 B hb
  go_wp2_with fail
  obtain ⟨L, eL⟩ : ∃ L, w1.heap.size = L := ⟨_, rfl⟩
  rw [eL] at HN ⊢
  obtain ⟨G, eG⟩ : ∃ G, L + 1 = G := ⟨_, rfl⟩
  rw [eG] at HN ⊢
  clear eL eG e1 e2 e3
  go_loopg [26] n (fun gh i wr => ∃ k : Nat, k ≤ n ∧ gh = n - k ∧ i = .int .i64 k ∧ Hid (∃ v, SS w L G (left (fun _ => false) k) v (fun _ => false) 0 wr ∧ v ≤ k ∧ Odd (left (fun _ => false) k) v))
  case atStart => exact ⟨0, by omega, by omega, rfl, Lib.hid ⟨0, HN.out, by omega, rfl⟩⟩
  case round =>
    clear HN
    obtain ⟨k, hk, hg, rfl, hI⟩ := hrel
    by_cases hlt : k < n
    · obtain ⟨v, hs, hv, ho⟩ := hI.out
      have hle := left_len (fun _ => false) k
      have C := Lib.hid (join_ls (k + 1) hs.ls (by omega) (by omega))
      have HS := Lib.hid hs
      have q1 := jv_le (left (fun _ => false) k) v (k + 1)
      have q2 := odd_join (x := k + 1) ho
      rw [join_next] at C q2
      have Q := Lib.hid (And.intro q2 (show jv (left (fun _ => false) k) v (k + 1) ≤ k + 1 by omega))
      have i1 : IntKind.i64.wrap ((k : Int) + 1) = ((k + 1 : Nat) : Int) := by rw [IntKind.wrap_i64]; omega
      have i2 : IntKind.u64.wrap ((k + 1 : Nat) : Int) = ((k + 1 : Nat) : Int) := by rw [IntKind.wrap_u64]; omega
      have l1 : (k : Int) < n := by omega
      obtain ⟨k1, ek1⟩ : ∃ k1, k + 1 = k1 := ⟨_, rfl⟩
      rw [ek1] at C Q i1 i2
      clear q1 q2 hs hv ho hle hI
      go_wp2_with fail
      refine C.out.mono ?_; rintro e w2 ⟨rfl, h2, t2⟩
      have H2 := Lib.hid (HS.out.lock h2 t2)
      clear h2 t2 C HS
      go_wp2_with fail
      go_roundg (n - (k + 1))
      case rel => exact ⟨k + 1, by omega, rfl, by simp [ek1], Lib.hid ⟨_, by rw [ek1]; exact H2.out, by rw [ek1]; have := Q.out.2; omega, by rw [ek1]; exact Q.out.1⟩⟩
      case measure => first | omega | (simp; omega)
    · obtain rfl : k = n := by omega
      clear hlt hk hg
      go_wp2_with fail
      go_loopg [36] l (fun gh i wr => ∃ j : Nat, j ≤ l ∧ gh = l - j ∧ i = .int .i64 j ∧ Hid (∃ v g, SS w L G (left g k) v g j wr ∧ v ≤ 100 + 2 * j ∧ Odd (left g k) v))
      case atStart =>
        obtain ⟨v, hs, hv, ho⟩ := hI.out
        exact ⟨0, by omega, by omega, rfl, Lib.hid ⟨v, _, hs, by omega, ho⟩⟩
      case round =>
        clear hI
        obtain ⟨j, hj, hg, rfl, hI⟩ := hrel
        by_cases hlt : j < l
        · obtain ⟨v, g, hs, hv, ho⟩ := hI.out
          obtain ⟨x, hx⟩ : ∃ x, xs[j]? = some x := ⟨_, List.getElem?_eq_getElem (by rw [HL.out]; exact hlt)⟩
          obtain ⟨b, off, rfl, hb, hcell⟩ := HR.out j x hx
          have c1 : wr.cell? ⟨b, off + j, none⟩ = some (.int .i64 x) := by rw [hs.ls.b.cell (p := ⟨b, off + j, none⟩) hb]; exact hcell
          obtain ⟨q, e1, hq⟩ : ∃ q : Nat, bits .and .i64 x 31 = (q : Int) ∧ q < 32 := ⟨(x % 32).toNat, by rw [i64_and31]; omega, by omega⟩
          obtain ⟨id, eid⟩ : ∃ id, q + 1 = id := ⟨_, rfl⟩
          have e2 : IntKind.u64.wrap (q : Int) = (q : Int) := by rw [IntKind.wrap_u64]; omega
          have e3 : IntKind.u64.wrap ((q : Int) + 1) = (id : Int) := by rw [IntKind.wrap_u64]; omega
          have i1 : IntKind.i64.wrap ((j : Int) + 1) = (j : Int) + 1 := by rw [IntKind.wrap_i64]; omega
          have l1 : (j : Int) < l := by omega
          have hle := left_len g k
          obtain ⟨w2, hrun, hm2, ht2⟩ := hs.mp.store (j := id) (by unfold maxLen; omega) (by omega) true
          have hs2 := hs.put hm2 ht2
          have C := Lib.hid (leave_ls id hs2.ls (by omega) (by omega))
          have q1 := lv_le (left g k) v id
          have q2 := odd_leave (x := id) ho
          rw [left_erase] at C q2
          have Q := Lib.hid (And.intro q2 (show lv (left g k) v id ≤ 100 + 2 * (j + 1) by omega))
          have HS := Lib.hid hs2
          have HX := Lib.hid hrun
          have hrun' := hrun
          clear q1 q2 hs hv ho hle hI hb hcell hx hm2 ht2 hs2 hrun
          go_wp2_with fail
          refine C.out.mono ?_; rintro e w3 ⟨rfl, h3, t3⟩
          have H3 := Lib.hid (HS.out.lock h3 t3)
          clear h3 t3 C HS
          go_wp2_with fail
          go_roundg (l - (j + 1))
          case rel => exact ⟨j + 1, by omega, rfl, by simp, Lib.hid ⟨_, _, H3.out, Q.out.2, Q.out.1⟩⟩
          case measure => first | omega | (simp; omega)
        · obtain rfl : j = l := by omega
          clear hlt hj hg
          obtain ⟨v, g, hs, hv, ho⟩ := hI.out
          have HS := Lib.hid hs
          have HO := Lib.hid (And.intro hv ho)
          clear hI hs hv ho
          obtain ⟨Wb, rfl⟩ : ∃ Wb, Wb = wr := ⟨_, rfl⟩
          go_wp2_with fail
          go_loopg [6, 50] k (fun gh va i wr => ∃ q : Nat, q ≤ k ∧ gh = k - q ∧ i = .int .i64 q ∧ Hid (Below Wb.heap.size Wb wr ∧ RW (fun b => Wb.heap.size ≤ b) 25 enU wr va (left g q)))
          case atStart => exact ⟨0, by omega, by omega, rfl, Lib.hid ⟨Below.refl _ _, RW.nil _ _⟩⟩
          case round =>
            obtain ⟨q, hq, hg, rfl, hI⟩ := hrel
            by_cases hlt : q < k
            · have hmp : MapB wr G j g := HS.out.mp.same (hI.out.1.block G HS.out.mp.lt)
              have hlk := hmp.at_ (j := q + 1) (by omega)
              have hls := left_succ g q
              have hle := left_len g q
              obtain ⟨q1, eq1⟩ : ∃ q1, q + 1 = q1 := ⟨_, rfl⟩
              rw [eq1] at hlk hls
              have i1 : IntKind.i64.wrap ((q : Int) + 1) = (q1 : Int) := by rw [IntKind.wrap_i64]; omega
              have i2 : IntKind.u64.wrap (q1 : Int) = (q1 : Int) := by rw [IntKind.wrap_u64]; omega
              have l1 : (q : Int) < k := by omega
              cases hgb : g q1 with
              | true =>
                rw [hgb] at hlk hls
                clear hmp hgb
                go_wp2_with fail
                go_roundg (k - (q + 1))
                case rel => exact ⟨q + 1, by omega, rfl, by simp [eq1], Lib.hid ⟨hI.out.1, by rw [eq1, hls]; simpa using hI.out.2⟩⟩
                case measure => first | omega | (simp; omega)
              | false =>
                rw [hgb] at hlk hls
                obtain ⟨W1, eW1⟩ : ∃ W1, wr.alloc (Obj.cells #[.int .u64 (q1 : Int)] 25) = W1 := ⟨_, rfl⟩
                have hb1 : Below wr.heap.size wr W1 := by rw [← eW1]; exact below_alloc1 _ _
                have hr1 : LR enU W1 (some ⟨wr.heap.size, 0, none⟩) [q1] := fun i y hi => by
                  match i with
                  | 0 =>
                    obtain rfl : q1 = y := by simpa using hi
                    refine ⟨_, _, rfl, by rw [← eW1]; simp, ?_⟩
                    rw [← eW1, cell_of_row _ _ _ _ 25 (0, 0) (heap_alloc_new _ _)]; rfl
                  | i + 1 => simp at hi
                obtain ⟨va', W2, hrun, hu, S, ht, hS⟩ := append_u 24 (hI.out.2.keep (own' := fun b => Wb.heap.size ≤ b) (w' := W1) fun b cur hb hc => ⟨hb, hb1.block b (Array.getElem?_eq_some_iff.1 hc).1⟩) (by simp; omega) (some ⟨wr.heap.size, 0, none⟩) 1 1 rfl (by simp) hr1
                have hW := hI.out.1.trans (hb1.mono hI.out.1.size)
                have HE : Hid (Below Wb.heap.size Wb W2 ∧ RW (fun b => Wb.heap.size ≤ b) 25 enU W2 va' (left g q1)) := Lib.hid ⟨hW.trans (ht.below hW.size fun b hb => (hS b hb).1), by rw [hls]; exact hu.keep fun b cur hb _ => ⟨by rcases hb with h | h; exact h; exact Nat.le_trans hW.size h, rfl⟩⟩
                have HR' := Lib.hid hrun
                obtain ⟨Av, cv, rfl, _⟩ := hI.out.2.form
                clear hrun hu ht hS hW hb1 hr1 hmp hgb hls
                go_wp2_with (at_builtin; refine wpList_append_by rfl (.tmp 59) (.tmp 63) _ _ rfl _ _ _ rfl rfl W2 HR'.out ?_)
                go_wp2_with fail
                go_roundg (k - (q + 1))
                case rel => exact ⟨q + 1, by omega, rfl, by simp [eq1], Lib.hid (by rw [eq1]; exact HE.out)⟩
                case measure => first | omega | (simp; omega)
            · obtain rfl : q = k := by omega
              clear hlt hq hg
              obtain ⟨v, hs⟩ : ∃ v', v' = v := ⟨_, rfl⟩
              obtain ⟨us, eus⟩ : ∃ us, left g q = us := ⟨_, rfl⟩
              have hlen := left_len g q
              have hls := HS.out.ls.below hI.out.1
              have hrw := hI.out.2
              have hod := HO.out
              rw [eus] at hls hrw hod hlen
              obtain ⟨Av, cv, rfl, _, _, lr⟩ := hrw.form
              have HW := Lib.hid hrw
              have HLS := Lib.hid hls
              have HOD := Lib.hid hod
              obtain ⟨m, em⟩ : ∃ m, us.length = m := ⟨_, rfl⟩
              have EM := Lib.hid em
              rw [em] at HW hlen ⊢
              have HB := Lib.hid (And.intro hI.out.1.size HS.out.ls.m.lt)
              clear hI hls hrw hod eus em lr HO HS
              go_wp2_with fail
              go_loopg [68] m (fun gh i wr2 => ∃ p : Nat, p ≤ m ∧ gh = m - p ∧ i = .int .i64 p ∧ Hid (∃ v, LS w L (us.drop p) v wr2 ∧ RW (fun b => Wb.heap.size ≤ b) 25 enU wr2 (.slice Av m cv) us ∧ v ≤ 300 + 2 * p ∧ Odd (us.drop p) v))
              case atStart => exact ⟨0, by omega, by omega, rfl, Lib.hid ⟨_, HLS.out, HW.out, by have := HOD.out.1; omega, HOD.out.2⟩⟩
              case round =>
                clear HLS HW HOD
                obtain ⟨p, hp, hg, rfl, hI⟩ := hrel
                by_cases hlt : p < m
                · obtain ⟨v, hls, hrw, hv, hod⟩ := hI.out
                  obtain ⟨x, hx⟩ : ∃ x, us[p]? = some x := ⟨_, List.getElem?_eq_getElem (by rw [EM.out]; exact hlt)⟩
                  have hd : us.drop p = x :: us.drop (p + 1) := by
                    obtain ⟨h1, h2⟩ := List.getElem?_eq_some_iff.1 hx
                    rw [← h2]; exact List.drop_eq_getElem_cons h1
                  obtain ⟨Av', cv', e, _, _, lr⟩ := hrw.form
                  injection e with ea eb ec
                  subst ea ec
                  clear eb
                  obtain ⟨b, o, rfl, hb, hc⟩ := lr p x hx
                  unfold enU at hc
                  have C1 := Lib.hid (holds_ls x hls)
                  have C2 := Lib.hid (ver_ls hls)
                  have hl2 : (us.drop p).length ≤ m := by rw [List.length_drop, EM.out]; omega
                  have C3 := Lib.hid (leave_ls x hls (by omega) (by omega))
                  have q1 := lv_le (us.drop p) v x
                  have q2 := odd_leave (x := x) hod
                  have ee : (us.drop p).erase x = us.drop (p + 1) := by rw [hd]; simp
                  rw [ee] at q2 C3
                  rw [decide_eq_true (by rw [hd]; rfl)] at C1
                  have hv1 : v % 2 = 1 := by unfold Odd at hod; rw [if_neg (by rw [hd]; simp)] at hod; exact hod
                  have a1 : bits .and .u64 (v : Int) 1 = 1 := by rw [u64_and1, hv1]; rfl
                  have Q := Lib.hid (And.intro q2 (show lv (us.drop p) v x ≤ 300 + 2 * (p + 1) by omega))
                  have HW := Lib.hid hrw
                  have HLs := Lib.hid hls
                  have i1 : IntKind.i64.wrap ((p : Int) + 1) = (p : Int) + 1 := by rw [IntKind.wrap_i64]; omega
                  have l1 : (p : Int) < m := by omega
                  clear hls hrw hv hod hI lr hb hl2 q1 q2 ee hd hv1 hx
                  go_wp2_with fail
                  refine C1.out.mono ?_; rintro e w4 ⟨rfl, rfl⟩
                  go_wp2_with fail
                  refine C2.out.mono ?_; rintro e w5 ⟨rfl, rfl⟩
                  go_wp2_with fail
                  refine C3.out.mono ?_; rintro e w6 ⟨rfl, h6, t6⟩
                  have K6 : Hid (RW (fun b => Wb.heap.size ≤ b) 25 enU w6 (.slice (some ⟨b, o, none⟩) m cv) us) := Lib.hid (HW.out.keep fun b' cur hb' hc' => ⟨hb', t6.block b' (Array.getElem?_eq_some_iff.1 hc').1 fun hm => by
                    have e := List.mem_singleton.1 hm
                    have h1 : Wb.heap.size ≤ b' := hb'
                    have := HB.out.2
                    omega⟩)
                  have H6 := Lib.hid h6
                  clear h6 t6 HW HLs C1 C2 C3
                  go_wp2_with fail
                  go_roundg (m - (p + 1))
                  case rel => exact ⟨p + 1, by omega, rfl, by simp, Lib.hid ⟨_, H6.out, K6.out, Q.out.2, Q.out.1⟩⟩
                  case measure => first | omega | (simp; omega)
                · obtain rfl : p = m := by omega
                  clear hlt hp hg
                  obtain ⟨v, hls, hrw, hv, hod⟩ := hI.out
                  have e0 : us.drop p = [] := by rw [List.drop_eq_nil_iff, EM.out]; exact Nat.le_refl _
                  rw [e0] at hls hod
                  have hv0 : v % 2 = 0 := hod
                  have a1 : bits .and .u64 (v : Int) 1 = 0 := by rw [u64_and1, hv0]; rfl
                  have C1 := Lib.hid (busy_ls hls)
                  have C2 := Lib.hid (ver_ls hls)
                  have C3 := Lib.hid (queue_ls hls (by simp))
                  clear hls hrw hv hod hI e0 hv0
                  go_wp2_with fail
                  refine C1.out.mono ?_; rintro e w4 ⟨rfl, rfl⟩
                  go_wp2_with fail
                  refine C2.out.mono ?_; rintro e w5 ⟨rfl, rfl⟩
                  go_wp2_with fail
                  refine C3.out.mono ?_; rintro e w6 ⟨vq, rfl, rq, h6, _⟩
                  obtain ⟨Aq, cq, rfl, _⟩ := rq.form
                  have HBB := Lib.hid h6.b
                  clear rq h6 C1 C2 C3
                  go_wp2_with fail
                  go_ret
                  exact ⟨rfl, HBB.out⟩
end Go.Proofs.Ytogbidkkdhhllaa
