/- TicketRuns. -/
import Derived.Test.YtogbidkkdhhllaaVk
set_option linter.unusedVariables false
set_option linter.unusedSimpArgs false
namespace Go.Proofs.Ytogbidkkdhhllaa
open Go.RowKit Tk
set_option linter.unusedVariables false
set_option linter.unusedSimpArgs false
theorem i64_and1 (n : Int) : bits .and .i64 n 1 = n % 2 := by
  have h127 : (BitVec.ofInt 64 1).toNat = 2 ^ 1 - 1 := by decide
  have key : (BitVec.ofInt 64 n &&& BitVec.ofInt 64 1).toNat = (n % ((2 ^ 64 : Nat) : Int)).toNat % 2 ^ 1 := by
    rw [BitVec.toNat_and, BitVec.toNat_ofInt, h127, Nat.and_two_pow_sub_one_eq_mod]
  show IntKind.i64.wrap ((BitVec.ofInt 64 n &&& BitVec.ofInt 64 1).toNat : Nat) = n % 2
  rw [key, IntKind.wrap_i64]
  omega
theorem i64_and7 (n : Int) : bits .and .i64 n 7 = n % 8 := by
  have h127 : (BitVec.ofInt 64 7).toNat = 2 ^ 3 - 1 := by decide
  have key : (BitVec.ofInt 64 n &&& BitVec.ofInt 64 7).toNat = (n % ((2 ^ 64 : Nat) : Int)).toNat % 2 ^ 3 := by
    rw [BitVec.toNat_and, BitVec.toNat_ofInt, h127, Nat.and_two_pow_sub_one_eq_mod]
  show IntKind.i64.wrap ((BitVec.ofInt 64 n &&& BitVec.ofInt 64 7).toNat : Nat) = n % 8
  rw [key, IntKind.wrap_i64]
  omega
/-- The law's state behind k calls. -/
def RI (W : World) (L k : Nat) (v : Value) (n : Nat) (w : World) : Prop := ∃ T us, QS W L T us n v w ∧ us.length ≤ k ∧ n ≤ 2 * k ∧ us.Nodup
set_option maxRecDepth 100000 in
set_option maxHeartbeats 8000000 in
theorem runs_all (A : Option Addr) (l c : Nat) (xs : List Int) (w : World) (hc : l ≤ c) (hcm : c ≤ maxLen) (hl : xs.length = l) (hr : LR inI w A xs) :
    Calls Try.prog 3 #[.slice A l c] w fun e w' => e = .returned (.bool true) ∧ Below w.heap.size w w' := by
  have B := Lib.hid (fit_any w)
  have HR := Lib.hid hr
  have HL := Lib.hid hl
  have hcm' : c ≤ 9223372036854775807 := hcm
  clear hr hl
  by_cases hbig : 300 < l
  · have g1 : (l : Int) > 300 := by omega
    have g2 : (300 : Int) < l := by omega
    go_enter Try.func3, Try.ntmps3
    go_wp2_with fail
    refine B.out.mono ?_; rintro e w1 ⟨rfl, hb⟩
    go_wp2_with fail
    go_ret
    exact ⟨rfl, hb⟩
  have g1 : ¬ (l : Int) > 300 := by omega
  have g2 : ¬ (300 : Int) < l := by omega
  go_enter Try.func3, Try.ntmps3
  go_wp2_with fail
  refine B.out.mono ?_; rintro e w1 ⟨rfl, hb⟩
  have h1 := LS.new hb
  have HN := Lib.hid (⟨h1.b, h1.l, by simp, h1.m.keep rfl fun b cur _ _ => ⟨by simp, rfl⟩, RW.nil _ _⟩ : QS w w1.heap.size [] [] 0 (.slice none 0 0) _)
  clear h1 B hb
  go_wp2_with fail
  obtain ⟨L, eL⟩ : ∃ L, w1.heap.size = L := ⟨_, rfl⟩
  rw [eL] at HN ⊢
  clear eL
  go_loopg [4, 5, 21] l (fun gh v n i wr => ∃ k : Nat, k ≤ l ∧ gh = l - k ∧ i = .int .i64 k ∧ ∃ n' : Nat, n = .int .u64 n' ∧ Hid (RI w L k v n' wr))
  case atStart => exact ⟨0, by omega, by omega, rfl, 0, rfl, Lib.hid ⟨[], [], HN.out, by simp, by simp, by simp⟩⟩
  case round =>
    clear HN
    obtain ⟨k, hk, hg, rfl, n, rfl, hI⟩ := hrel
    by_cases hlt : k < l
    · obtain ⟨T, us, hq, hu, hn, hnd⟩ := hI.out
      obtain ⟨x, hx⟩ : ∃ x, xs[k]? = some x := ⟨_, List.getElem?_eq_getElem (by rw [HL.out]; exact hlt)⟩
      obtain ⟨b, off, rfl, hb, hcell⟩ := HR.out k x hx
      have c1 : wr.cell? ⟨b, off + k, none⟩ = some (.int .i64 x) := by rw [hq.b.cell (p := ⟨b, off + k, none⟩) hb]; exact hcell
      obtain ⟨id, e1, hid⟩ : ∃ q : Nat, bits .and .i64 (x / 2) 7 = (q : Int) ∧ q < 8 := ⟨(x / 2 % 8).toNat, by rw [i64_and7]; omega, by omega⟩
      obtain ⟨cc, e3, hcc⟩ : ∃ q : Nat, bits .and .i64 x 1 = (q : Int) ∧ q < 2 := ⟨(x % 2).toNat, by rw [i64_and1]; omega, by omega⟩
      have e2 : IntKind.u64.wrap (id : Int) = (id : Int) := by rw [IntKind.wrap_u64]; omega
      have i1 : IntKind.i64.wrap ((k : Int) + 1) = (k : Int) + 1 := by rw [IntKind.wrap_i64]; omega
      have l1 : (k : Int) < l := by omega
      obtain ⟨Av, cv, rfl, hlc, hcv, lr⟩ := hq.q.form
      obtain ⟨m, em⟩ : ∃ m, us.length = m := ⟨_, rfl⟩
      have EM := Lib.hid em
      have LRQ := Lib.hid lr
      have HQ := Lib.hid hq
      rw [em] at HQ hlc ⊢
      have HU := Lib.hid (And.intro hu (And.intro hn (And.intro hnd (And.intro hlc hcv))))
      clear hq hu hn hnd hI hb hcell hx lr em hlc hcv
      go_wp2_with fail
      go_loopg [9, 31] m (fun gh a i wr2 => ∃ p : Nat, p ≤ m ∧ gh = m - p ∧ i = .int .i64 p ∧ wr = wr2 ∧ ∃ z : Int, a = .int .i64 z ∧ Hid (At us id p z))
      case atStart => exact ⟨0, by omega, by omega, rfl, rfl, -1, rfl, Lib.hid (.inl ⟨rfl, fun j hj => by omega⟩)⟩
      case round =>
        obtain ⟨p, hp, hg, rfl, rfl, z, rfl, hA⟩ := hrel
        by_cases hlt2 : p < m
        · obtain ⟨y, hy⟩ : ∃ y, us[p]? = some y := ⟨_, List.getElem?_eq_getElem (by rw [EM.out]; exact hlt2)⟩
          obtain ⟨b2, o2, rfl, hb2, hc2⟩ := LRQ.out p y hy
          unfold enU at hc2
          have HY := Lib.hid hy
          have j1 : IntKind.i64.wrap ((p : Int) + 1) = (p : Int) + 1 := by have := HU.out; have := EM.out; rw [IntKind.wrap_i64]; omega
          have l2 : (p : Int) < m := by omega
          clear hb2 hy
          by_cases hyx : y = id
          · subst hyx
            go_wp2_with fail
            go_roundg (m - (p + 1))
            case rel => exact ⟨p + 1, by omega, rfl, by simp, rfl, _, rfl, Lib.hid (.inr ⟨p, by omega, HY.out, rfl⟩)⟩
            case measure => first | omega | (simp; omega)
          · have n1 : ¬ (y : Int) = (id : Int) := by omega
            go_wp2_with fail
            go_roundg (m - (p + 1))
            case rel => exact ⟨p + 1, by omega, rfl, by simp, rfl, z, rfl, Lib.hid (by
              rcases hA.out with ⟨h1, h2⟩ | ⟨j, h1, h2, h3⟩
              · refine .inl ⟨h1, fun j hj => ?_⟩
                rcases Nat.lt_succ_iff_lt_or_eq.1 hj with h | rfl
                · exact h2 j h
                · rw [HY.out]; simpa using hyx
              · exact .inr ⟨j, by omega, h2, h3⟩)⟩
            case measure => first | omega | (simp; omega)
        · obtain rfl : p = m := by omega
          have HA : Hid ((z = -1 ∧ id ∉ us) ∨ ∃ j : Nat, id ∈ us ∧ us.idxOf id = j ∧ j < us.length ∧ z = (j : Int)) := Lib.hid (At.ix (by rw [EM.out]; exact hA.out) HU.out.2.2.1)
          clear hlt2 hp hg hA
          go_upto_if 43 with fail
          go_cut [4, 5] (fun vq ver wx => ∃ (wz : World) (T' : List Nat) (us' : List Nat) (n' : Nat), wz = wx ∧ ver = .int .u64 n' ∧ Hid (QS w L T' us' n' vq wz ∧ us'.length ≤ k + 1 ∧ n' ≤ 2 * (k + 1) ∧ us'.Nodup))
          case first =>
            obtain rfl | rfl : cc = 0 ∨ cc = 1 := by omega
            · have C := Lib.hid (join_any id HQ.out.m (by have := HU.out.1; have := EM.out; omega) (by have := HU.out.2.1; omega))
              by_cases hold : id = 0 ∨ id ∈ us
              · have ej : jq us id = us := by unfold jq; rw [if_pos hold]
                have ev : jv us n id = n := by unfold jv; rw [if_pos hold]
                rw [ej, ev] at C
                have FIN : ∀ w2, QH w L T us n (.slice Av p cv) us w2 → Hid (QS w L T us n (.slice Av p cv) w2 ∧ us.length ≤ k + 1 ∧ n ≤ 2 * (k + 1) ∧ us.Nodup) := fun w2 h => Lib.hid ⟨h.same, by have := HU.out.1; omega, by have := HU.out.2.1; omega, HU.out.2.2.1⟩
                by_cases hz : z = -1
                · subst hz
                  have h0 : id = 0 := by
                    rcases HA.out with ⟨_, h⟩ | ⟨j, _, _, _, h⟩
                    · rcases hold with h1 | h1
                      · exact h1
                      · exact absurd h1 h
                    · omega
                  subst h0
                  clear ej ev hold HA
                  go_wp2_with fail
                  refine C.out.mono ?_; rintro e w2 ⟨rfl, t2, m2⟩
                  have HF := FIN w2 (HQ.out.lock t2 m2)
                  clear t2 m2 FIN C
                  go_wp2_with fail
                  go_meet
                  exact ⟨_, _, _, _, rfl, rfl, HF⟩
                · obtain ⟨j, rfl⟩ : ∃ j : Nat, z = (j : Int) := by
                    rcases HA.out with ⟨h, _⟩ | ⟨j, _, _, _, h⟩
                    · exact absurd h hz
                    · exact ⟨j, h⟩
                  have z1 : ¬ (j : Int) < 0 := by omega
                  clear ej ev hold HA hz
                  go_wp2_with fail
                  refine C.out.mono ?_; rintro e w2 ⟨rfl, t2, m2⟩
                  have HF := FIN w2 (HQ.out.lock t2 m2)
                  clear t2 m2 FIN C
                  go_wp2_with fail
                  go_meet
                  exact ⟨_, _, _, _, rfl, rfl, HF⟩
              · have ej : jq us id = us ++ [id] := by unfold jq; rw [if_neg hold]
                have hnd := jq_nodup (x := id) HU.out.2.2.1
                rw [ej] at C hnd
                obtain ⟨h0, hni⟩ := not_or.1 hold
                have hz : z = -1 := by
                  rcases HA.out with ⟨h, _⟩ | ⟨j, h, _⟩
                  · exact h
                  · exact absurd h hni
                subst hz
                have n1 : ¬ (id : Int) = 0 := by omega
                obtain ⟨n', en'⟩ : ∃ n', jv us n id = n' := ⟨_, rfl⟩
                rw [en'] at C
                have EN : Hid (n' = if p = 0 then n + 1 else n) := Lib.hid (by
                  rw [← en', jv, if_neg hold]
                  by_cases hp0 : p = 0
                  · rw [if_pos hp0, if_pos (List.length_eq_zero_iff.1 (by rw [EM.out]; exact hp0))]
                  · rw [if_neg hp0, if_neg fun e => hp0 (by rw [← EM.out, e]; rfl)])
                clear ej hold HA hni en'
                go_wp2_with fail
                refine C.out.mono ?_; rintro e w2 ⟨rfl, t2, m2⟩
                have h2 := HQ.out.lock t2 m2
                obtain ⟨W1, eW1⟩ : ∃ W1, w2.alloc (Obj.cells #[.int .u64 (id : Int)] 25) = W1 := ⟨_, rfl⟩
                have hb1 : Below w2.heap.size w2 W1 := by rw [← eW1]; exact below_alloc1 _ _
                have h3 := h2.below hb1
                have hr1 : LR enU W1 (some ⟨w2.heap.size, 0, none⟩) [id] := fun i y hi => by
                  match i with
                  | 0 =>
                    obtain rfl : id = y := by simpa using hi
                    refine ⟨_, _, rfl, by rw [← eW1]; simp, ?_⟩
                    rw [← eW1, cell_of_row _ _ _ _ 25 (0, 0) (heap_alloc_new _ _)]; rfl
                  | i + 1 => simp at hi
                obtain ⟨v', W2, hrun, hu2, S, ht, hS⟩ := append_u 24 h3.q (by simp; have := HU.out.1; omega) (some ⟨w2.heap.size, 0, none⟩) 1 1 rfl (by simp) hr1
                obtain ⟨T', h4⟩ := h3.list ht hS hu2
                have elen : (us ++ [id]).length = p + 1 := by rw [List.length_append, EM.out]; rfl
                have HF : Hid (QS w L T' (us ++ [id]) n' v' W2 ∧ (us ++ [id]).length ≤ k + 1 ∧ n' ≤ 2 * (k + 1) ∧ (us ++ [id]).Nodup) := Lib.hid ⟨h4, by rw [elen]; have := HU.out.1; have := EM.out; omega, by have := HU.out.2.1; have := EN.out; split at this <;> omega, hnd⟩
                have HR' := Lib.hid hrun
                obtain ⟨Av', cv', rfl, _⟩ := h4.q.form
                rw [elen] at HF HR'
                have k1 : IntKind.i64.wrap ((p : Int) + 1) = (p : Int) + 1 := by have := HU.out.1; have := EM.out; rw [IntKind.wrap_i64]; omega
                have u1 : IntKind.u64.wrap ((n : Int) + 1) = ((n + 1 : Nat) : Int) := by have := HU.out.2.1; rw [IntKind.wrap_u64]; omega
                clear t2 m2 h2 h3 hr1 hrun hu2 ht hS h4 hb1 C hnd
                by_cases hp0 : p = 0
                · obtain rfl : n' = n + 1 := by have := EN.out; rw [if_pos hp0] at this; exact this
                  subst hp0
                  obtain ⟨N, eN⟩ : ∃ N, n + 1 = N := ⟨_, rfl⟩
                  rw [eN] at HF u1
                  clear eN EN
                  go_wp2_with (at_builtin; refine wpList_append_by rfl (.tmp 52) (.tmp 54) _ _ rfl _ _ _ rfl rfl W2 HR'.out ?_)
                  go_wp2_with fail
                  go_meet
                  exact ⟨_, _, _, _, rfl, rfl, Lib.hid ⟨HF.out.1, by rw [elen]; exact HF.out.2.1, HF.out.2.2⟩⟩
                · obtain rfl : n' = n := by have := EN.out; rw [if_neg hp0] at this; exact this
                  have k2 : ((p : Int) + 1 == 1) = false := by simp; omega
                  have k3 : ¬ ((p : Int) + 1 = 1) := by omega
                  clear EN
                  go_wp2_with (at_builtin; refine wpList_append_by rfl (.tmp 52) (.tmp 54) _ _ rfl _ _ _ rfl rfl W2 HR'.out ?_)
                  go_wp2_with fail
                  go_meet
                  exact ⟨_, _, _, _, rfl, rfl, Lib.hid ⟨HF.out.1, by rw [elen]; exact HF.out.2.1, HF.out.2.2⟩⟩
            · have C := Lib.hid (leave_any id HQ.out.m (by have := HU.out.1; have := EM.out; omega) (by have := HU.out.2.1; omega))
              rcases HA.out with ⟨hz, hni⟩ | ⟨j, hin, hix, hj, hz⟩
              · subst hz
                have ev : lv us n id = n := by unfold lv; rw [if_neg hni]
                rw [List.erase_of_not_mem hni, ev] at C
                clear ev hni HA
                go_wp2_with fail
                refine C.out.mono ?_; rintro e w2 ⟨rfl, t2, m2⟩
                have HF : Hid (QS w L T us n (.slice Av p cv) w2 ∧ us.length ≤ k + 1 ∧ n ≤ 2 * (k + 1) ∧ us.Nodup) := Lib.hid ⟨(HQ.out.lock t2 m2).same, by have := HU.out.1; omega, by have := HU.out.2.1; omega, HU.out.2.2.1⟩
                clear t2 m2 C
                go_wp2_with fail
                go_meet
                exact ⟨_, _, _, _, rfl, rfl, HF⟩
              · subst hz
                rw [EM.out] at hj
                clear HA
                have elen : (us.erase id).length = p - 1 := by rw [List.length_erase_of_mem hin, EM.out]
                have z1 : ¬ (j : Int) < 0 := by omega
                have z2 : (j : Int) ≥ 0 := by omega
                have z3 : (0 : Int) ≤ j := by omega
                obtain ⟨n', en'⟩ : ∃ n', lv us n id = n' := ⟨_, rfl⟩
                rw [en'] at C
                have EN : Hid (n' = if j = 0 then (if p = 1 then n + 1 else n + 2) else n) := Lib.hid (by rw [← en', lv, if_pos hin, hix, EM.out])
                have HIN := Lib.hid (And.intro hin (And.intro hix elen))
                clear hin hix elen en'
                go_wp2_with fail
                refine C.out.mono ?_; rintro e w2 ⟨rfl, t2, m2⟩
                have H2 := Lib.hid (HQ.out.lock t2 m2)
                clear t2 m2 C
                go_upto_region 27 with fail
                obtain ⟨b2, o2, rfl⟩ := LRQ.out.some_ (by rw [EM.out]; omega)
                obtain ⟨A2, eA2⟩ : ∃ A2, (if cv = j + 1 then some (⟨b2, o2, none⟩ : Addr) else some ⟨b2, o2 + (j + 1), none⟩) = A2 := ⟨_, rfl⟩
                obtain ⟨m2, em2⟩ : ∃ m2, p - (j + 1) = m2 := ⟨_, rfl⟩
                obtain ⟨d2, ed2⟩ : ∃ d2, cv - (j + 1) = d2 := ⟨_, rfl⟩
                obtain ⟨A', c', e', f1, f2, lr2⟩ := H2.out.q.form
                injection e' with ea eb ec
                subst ea ec
                clear eb
                have hd : LR enU w2 A2 (us.drop (j + 1)) := by
                  have := lr2.drop (k := j + 1) (c := cv) (by rw [EM.out]; exact HU.out.2.2.2.1)
                  rw [Option.map_some, addr_add, eA2] at this
                  exact this
                have hb0 : Below w2.heap.size w2 w2.drew := (Below.refl _ _).drew
                obtain ⟨v1, W1, hrun1, hu1, S1, ht1, hS1⟩ := append_u 24 (RW.nil (e := 25) (enc := enU) (fun _ => False) w2.drew) (ys := us.take j) (by rw [List.length_take]; simp; have := HU.out.1; omega) (some ⟨b2, o2, none⟩) j cv (by rw [List.length_take, EM.out]; omega) (by rw [List.length_take, EM.out]; have := HU.out.2.2.2.1; omega) ((lr2.take j).below hb0)
                have hb1 : Below w2.heap.size w2 W1 := hb0.trans (ht1.below (Nat.le_refl _) fun b hb => ((hS1 b hb).1).elim)
                have hu1' : RW (fun b => w2.heap.size ≤ b) 25 enU W1 v1 (us.take j) := hu1.keep fun b cur hb _ => ⟨by
                  rcases hb with h | h
                  · exact h.elim
                  · exact h, rfl⟩
                obtain ⟨v2, W2, hrun2, hu2, S2, ht2, hS2⟩ := append_u 24 hu1' (ys := us.drop (j + 1)) (by rw [List.length_take, List.length_drop]; have := HU.out.1; omega) A2 m2 d2 (by rw [List.length_drop, EM.out]; exact em2) (by rw [List.length_drop, EM.out]; have := HU.out.2.2.2.1; omega) (hd.below hb1)
                have hb2 : Below w2.heap.size w2 W2 := hb1.trans (ht2.below hb1.size fun b hb => (hS2 b hb).1)
                rw [← erase_at HIN.out.2.1] at hu2
                obtain ⟨T', h4⟩ := H2.out.list (S := []) (Turn.of_below hb2) (by simp) (hu2.keep fun b cur hb _ => ⟨by
                  rcases hb with h | h
                  · exact .inr h
                  · exact .inr (Nat.le_trans hb1.size h), rfl⟩)
                obtain ⟨Av', cv', rfl, _⟩ := h4.q.form
                have HF : Hid (QS w L T' (us.erase id) n' (.slice Av' (us.erase id).length cv') W2 ∧ (us.erase id).length ≤ k + 1 ∧ n' ≤ 2 * (k + 1) ∧ (us.erase id).Nodup) := Lib.hid ⟨h4, by rw [HIN.out.2.2]; have := HU.out.1; have := EM.out; omega, by have := HU.out.2.1; have := EN.out; split at this <;> (try split at this) <;> omega, HU.out.2.2.1.erase _⟩
                have HR1 := Lib.hid hrun1
                have HR2 := Lib.hid hrun2
                obtain ⟨pl, epl⟩ : ∃ pl, (us.erase id).length = pl := ⟨_, rfl⟩
                have EPL : Hid (pl = p - 1) := Lib.hid (by rw [← epl, HIN.out.2.2])
                have ELEN := Lib.hid epl
                rw [epl] at HR2
                rw [epl] at HF
                have EA2 := Lib.hid eA2
                have q1 : (j : Int) ≤ cv := by have := HU.out.2.2.2.1; omega
                have q2 : IntKind.i64.wrap ((j : Int) + 1) = (j : Int) + 1 := by have := HU.out.1; have := EM.out; rw [IntKind.wrap_i64]; omega
                clear eA2 hd hb0 hrun1 hu1 ht1 hS1 hu1' hrun2 hu2 ht2 hS2 hb1 hb2 h4 epl lr2 f1 f2
                refine region_AU (Z := fun _ => false) (S := fun _ => True) (by kernel_rfl) trivial (fun hHeld => ?_)
                refine AU_take (by kernel_rfl) rfl (i := 0) (oi := _) (v := ?vw0) rfl (by kernel_rfl) (by kernel_rfl) (by kernel_rfl) (fun _ _ _ h => h) (Or.inl ⟨by rfl, ?hz0⟩) hHeld ?rst0
                case hz0 => (intro wS hSw; go_simp; try with_reducible rfl)
                simp only [Act.put, List.getElem_toArray, List.getElem_cons_zero, List.getElem_cons_succ, List.setIfInBounds_toArray, List.set_cons_zero, List.set_cons_succ]
                refine AU_take (by kernel_rfl) rfl (i := 1) (oi := _) (v := ?vw1) rfl (by kernel_rfl) (by kernel_rfl) (by kernel_rfl) (fun _ _ _ h => h) (Or.inl ⟨by rfl, ?hz1⟩) hHeld ?rst1
                case hz1 => (intro wS hSw; go_simp; try with_reducible rfl)
                simp only [Act.put, List.getElem_toArray, List.getElem_cons_zero, List.getElem_cons_succ, List.setIfInBounds_toArray, List.set_cons_zero, List.set_cons_succ]
                refine AU_take (by kernel_rfl) rfl (i := 2) (oi := _) (v := ?vw2) rfl (by kernel_rfl) (by kernel_rfl) (by kernel_rfl) (fun _ _ _ h => h) (Or.inl ⟨by rfl, ?hz2⟩) hHeld ?rst2
                case hz2 => (intro wS hSw; go_simp; try with_reducible rfl)
                simp only [Act.put, List.getElem_toArray, List.getElem_cons_zero, List.getElem_cons_succ, List.setIfInBounds_toArray, List.set_cons_zero, List.set_cons_succ]
                refine AU_take (by kernel_rfl) rfl (i := 4) (oi := _) (v := ?vw4) rfl (by kernel_rfl) (by kernel_rfl) (by kernel_rfl) (fun _ _ _ h => h) (Or.inl ⟨by rfl, ?hz4⟩) hHeld ?rst4
                case hz4 => (intro wS hSw; go_simp; try with_reducible rfl)
                simp only [Act.put, List.getElem_toArray, List.getElem_cons_zero, List.getElem_cons_succ, List.setIfInBounds_toArray, List.set_cons_zero, List.set_cons_succ]
                refine AU_take (by kernel_rfl) rfl (i := 5) (oi := _) (v := ?vw5) rfl (by kernel_rfl) (by kernel_rfl) (by kernel_rfl) (fun _ _ _ h => h) (Or.inl ⟨by rfl, ?hz5⟩) hHeld ?rst5
                case hz5 => (intro wS hSw; go_simp; try with_reducible rfl)
                simp only [Act.put, List.getElem_toArray, List.getElem_cons_zero, List.getElem_cons_succ, List.setIfInBounds_toArray, List.set_cons_zero, List.set_cons_succ]
                refine AU_take (by kernel_rfl) rfl (i := 6) (oi := _) (v := ?vw6) rfl (by kernel_rfl) (by kernel_rfl) (by kernel_rfl) (fun _ _ _ h => h) (Or.inl ⟨by rfl, ?hz6⟩) hHeld ?rst6
                case hz6 => (intro wS hSw; go_simp; try with_reducible rfl)
                simp only [Act.put, List.getElem_toArray, List.getElem_cons_zero, List.getElem_cons_succ, List.setIfInBounds_toArray, List.set_cons_zero, List.set_cons_succ]
                refine AU_take (by kernel_rfl) rfl (i := 7) (oi := _) (v := .slice A2 m2 d2) rfl (by kernel_rfl) (by kernel_rfl) (by kernel_rfl) (fun _ _ _ h => h) (Or.inl ⟨by rfl, ?hz7⟩) hHeld ?rst7
                case hz7 => (intro wS hSw; have j1 : (0 : Int) ≤ (j : Int) + 1 := (by omega); have j2 : (j : Int) + 1 ≤ p := (by omega); have ea := EA2.out; go_simp; try with_reducible rfl)
                simp only [Act.put, List.getElem_toArray, List.getElem_cons_zero, List.getElem_cons_succ, List.setIfInBounds_toArray, List.set_cons_zero, List.set_cons_succ]
                refine AU_one (i := 3) (o := _) (by kernel_rfl) rfl (fun K hK => ?_)
                refine step_append rfl (.const (.slice none 0 0)) (.tmp 67) 24 24 rfl _ _ _ rfl rfl W1 HR1.out ?_
                refine hK.out _ _ (fun _ => trivial) ?_
                clear hK K
                try simp only [Act.put, List.getElem_toArray, List.getElem_cons_zero, List.getElem_cons_succ, List.setIfInBounds_toArray, List.set_cons_zero, List.set_cons_succ]
                refine AU_one (i := 8) (o := _) (by kernel_rfl) rfl (fun K hK => ?_)
                refine step_append rfl (.tmp 68) (.tmp 72) 24 24 rfl _ _ _ rfl rfl W2 HR2.out ?_
                refine hK.out _ _ (fun _ => trivial) ?_
                clear hK K
                try simp only [Act.put, List.getElem_toArray, List.getElem_cons_zero, List.getElem_cons_succ, List.setIfInBounds_toArray, List.set_cons_zero, List.set_cons_succ]
                refine AU_one (i := 9) (o := _) (by kernel_rfl) rfl (fun K hK => ?_)
                go_simp
                refine hK.out _ _ (fun _ => trivial) ?_
                clear hK K
                try simp only [Act.put, List.getElem_toArray, List.getElem_cons_zero, List.getElem_cons_succ, List.setIfInBounds_toArray, List.set_cons_zero, List.set_cons_succ]
                refine AU_done (by kernel_rfl) ?_ _
                simp only [OnlyN]
                clear hHeld HR1 HR2 H2 em2 ed2 EA2
                have u1 : ∀ q : Nat, q ≤ 10000 → IntKind.u64.wrap ((q : Int) + 1) = ((q + 1 : Nat) : Int) := fun q hq => by rw [IntKind.wrap_u64]; omega
                have hn1 := HU.out.2.1
                by_cases hj0 : j = 0
                · by_cases hp1 : p = 1
                  · obtain rfl : n' = n + 1 := by have := EN.out; rw [if_pos hj0, if_pos hp1] at this; exact this
                    obtain rfl : pl = 0 := by have := EPL.out; omega
                    have u2 := u1 n (by omega)
                    obtain ⟨N, eN⟩ : ∃ N, n + 1 = N := ⟨_, rfl⟩
                    rw [eN] at HF u2
                    subst hj0
                    clear eN EN u1 hn1 EPL
                    go_wp2_with fail
                    go_meet
                    exact ⟨_, _, _, _, rfl, rfl, Lib.hid ⟨HF.out.1, by rw [ELEN.out]; exact HF.out.2.1, HF.out.2.2⟩⟩
                  · obtain rfl : n' = n + 2 := by have := EN.out; rw [if_pos hj0, if_neg hp1] at this; exact this
                    have u2 := u1 n (by omega)
                    have u3 := u1 (n + 1) (by omega)
                    obtain ⟨N, eN⟩ : ∃ N, n + 1 = N := ⟨_, rfl⟩
                    rw [eN] at u2 u3
                    obtain ⟨M, eM⟩ : ∃ M, n + 2 = M := ⟨_, rfl⟩
                    rw [eM] at HF
                    rw [show N + 1 = M by omega] at u3
                    have p1 : (pl : Int) > 0 := by have := EPL.out; omega
                    have p2 : (0 : Int) < pl := by omega
                    subst hj0
                    clear eN eM EN u1 hn1
                    go_wp2_with fail
                    go_meet
                    exact ⟨_, _, _, _, rfl, rfl, Lib.hid ⟨HF.out.1, by rw [ELEN.out]; exact HF.out.2.1, HF.out.2.2⟩⟩
                · obtain rfl : n' = n := by have := EN.out; rw [if_neg hj0] at this; exact this
                  have n1 : ¬ (j : Int) = 0 := by omega
                  clear EN u1 hn1
                  go_wp2_with fail
                  go_meet
                  exact ⟨_, _, _, _, rfl, rfl, Lib.hid ⟨HF.out.1, by rw [ELEN.out]; exact HF.out.2.1, HF.out.2.2⟩⟩
          case rest =>
            obtain ⟨wz, T', us', n', rfl, rfl, hH⟩ := hcut
            have HM := hH.out.1.m
            obtain ⟨Aq, cq, rfl, _, _, lrq⟩ := hH.out.1.q.form
            have C1 := Lib.hid (ver_any HM)
            have C2 := Lib.hid (busy_any HM)
            have C3 := Lib.hid (holds_any id HM)
            have hlen : us'.length ≤ 1000 := by have := hH.out.2.1; omega
            have C4 := Lib.hid (queue_any HM (by omega))
            have LQ := Lib.hid lrq
            obtain ⟨m, em⟩ : ∃ m, us'.length = m := ⟨_, rfl⟩
            have EM2 := Lib.hid em
            rw [em] at C2 hlen ⊢
            clear HQ HU HA EM LRQ HM lrq em
            go_upto_region 32 with fail
            go_cut [107] (fun vb wy => wz = wy ∧ vb = .bool false)
            case first =>
              clear C4
              cases us' with
              | nil =>
                obtain rfl : m = 0 := by rw [← EM2.out]; rfl
                clear EM2 LQ hH
                go_wp2_with fail
                refine C1.out.mono ?_; rintro e w3 ⟨rfl, rfl⟩
                go_wp2_with fail
                refine C2.out.mono ?_; rintro e w3 ⟨rfl, rfl⟩
                go_wp2_with fail
                refine C3.out.mono ?_; rintro e w3 ⟨rfl, rfl⟩
                go_wp2_with fail
                go_meet
                exact ⟨rfl, rfl⟩
              | cons y r =>
                obtain ⟨b2, o2, rfl, _, hcy⟩ := LQ.out 0 y rfl
                unfold enU at hcy
                rw [Nat.add_zero] at hcy
                have hm0 : 0 < m := by rw [← EM2.out]; simp
                rw [decide_eq_true hm0] at C2
                have m1 : (m : Int) > 0 := by omega
                have m2 : (0 : Int) < m := by omega
                by_cases hyi : y = id
                · subst hyi
                  rw [decide_eq_true (by rfl)] at C3
                  clear EM2 LQ hH
                  go_wp2_with fail
                  refine C1.out.mono ?_; rintro e w3 ⟨rfl, rfl⟩
                  go_wp2_with fail
                  refine C2.out.mono ?_; rintro e w3 ⟨rfl, rfl⟩
                  go_wp2_with fail
                  refine C3.out.mono ?_; rintro e w3 ⟨rfl, rfl⟩
                  go_wp2_with fail
                  go_meet
                  exact ⟨rfl, rfl⟩
                · rw [decide_eq_false (by simpa using hyi)] at C3
                  have n1 : ¬ (y : Int) = (id : Int) := by omega
                  have n2 : ((y : Int) == (id : Int)) = false := by simpa using n1
                  clear EM2 LQ hH
                  go_wp2_with fail
                  refine C1.out.mono ?_; rintro e w3 ⟨rfl, rfl⟩
                  go_wp2_with fail
                  refine C2.out.mono ?_; rintro e w3 ⟨rfl, rfl⟩
                  go_wp2_with fail
                  refine C3.out.mono ?_; rintro e w3 ⟨rfl, rfl⟩
                  go_wp2_with fail
                  go_meet
                  exact ⟨rfl, rfl⟩
            case rest =>
              obtain ⟨rfl, rfl⟩ := hcut
              clear C1 C2 C3
              go_wp2_with fail
              refine C4.out.mono ?_; rintro e w3 ⟨vg, rfl, rg, b3⟩
              have HRG := Lib.hid rg
              have HB3 := Lib.hid b3
              obtain ⟨Ag, cg, rfl, _, _, _⟩ := rg.form
              rw [EM2.out] at HRG ⊢
              clear C4 rg b3
              go_wp2_with fail
              go_loopg [116] m (fun gh i wr2 => ∃ p : Nat, p ≤ m ∧ gh = m - p ∧ i = .int .i64 p ∧ Hid (Below wz.heap.size wz wr2 ∧ RW (fun b => wz.heap.size ≤ b) 25 enU wr2 (.slice Ag m cg) (List.replicate p 0 ++ us'.drop p)))
              case atStart => exact ⟨0, by omega, by omega, rfl, Lib.hid ⟨HB3.out, by simpa using HRG.out⟩⟩
              case round =>
                clear HB3 HRG
                obtain ⟨p, hp, hg, rfl, hI⟩ := hrel
                by_cases hlt2 : p < m
                · obtain ⟨x', hx'⟩ : ∃ x', us'[p]? = some x' := ⟨_, List.getElem?_eq_getElem (by rw [EM2.out]; exact hlt2)⟩
                  obtain ⟨b2, o2, rfl, hb2, hc2⟩ := LQ.out p x' hx'
                  rw [← hI.out.1.cell (p := ⟨b2, _, none⟩) hb2] at hc2
                  have hgl : (List.replicate p 0 ++ us'.drop p).length = m := by rw [List.length_append, List.length_replicate, List.length_drop, EM2.out]; omega
                  have hgp : (List.replicate p 0 ++ us'.drop p)[p]? = some x' := by
                    rw [List.getElem?_append_right (by simp), List.length_replicate, Nat.sub_self, List.getElem?_drop, Nat.add_zero]; exact hx'
                  obtain ⟨A', c', e', _, _, lr2⟩ := hI.out.2.form
                  injection e' with ea eb ec
                  subst ea ec
                  clear eb
                  obtain ⟨b3, o3, rfl, hb3, hc3⟩ := lr2 p x' hgp
                  obtain ⟨_, s2, _, s4⟩ := hI.out.2.set (y := 0) (k := p) (by rw [hgl]; exact hlt2)
                  have hset : (List.replicate p 0 ++ us'.drop p).set p 0 = List.replicate (p + 1) 0 ++ us'.drop (p + 1) := by
                    obtain ⟨h1, h2⟩ := List.getElem?_eq_some_iff.1 hx'
                    rw [List.set_append_right _ _ (by simp), List.length_replicate, Nat.sub_self, List.drop_eq_getElem_cons h1, List.set_cons_zero, List.replicate_succ', List.append_assoc]
                    rfl
                  have S1 : Hid (∀ q, Below wz.heap.size wz ((wr.drewN q).setCell ⟨b3, o3 + p, none⟩ (.int .u64 0)) ∧ RW (fun b => wz.heap.size ≤ b) 25 enU ((wr.drewN q).setCell ⟨b3, o3 + p, none⟩ (.int .u64 0)) (.slice (some ⟨b3, o3, none⟩) m cg) (List.replicate (p + 1) 0 ++ us'.drop (p + 1))) := Lib.hid fun q => by
                    have h1 := (hI.out.2.keep (own' := fun b => wz.heap.size ≤ b) (w' := wr.drewN q) (fun _ _ h _ => ⟨h, rfl⟩)).set (y := 0) (k := p) (by rw [hgl]; exact hlt2)
                    rw [hset] at h1
                    exact ⟨(hI.out.1.trans (⟨rfl, rfl, rfl, Nat.le_refl _, fun _ _ => rfl⟩ : Below wz.heap.size wr (wr.drewN q))).setCell (p := ⟨b3, _, none⟩) s4 _, h1.1⟩
                  unfold enU at hc2 hc3
                  have j1 : IntKind.i64.wrap ((p : Int) + 1) = (p : Int) + 1 := by rw [IntKind.wrap_i64]; omega
                  have l2 : (p : Int) < m := by omega
                  clear hb2 hx' hgl hgp lr2 hb3 hset s4
                  go_upto_region 40 with fail
                  go_quiet (fail)
                  go_wp2_with fail
                  go_roundg (m - (p + 1))
                  case rel => exact ⟨p + 1, by omega, rfl, by simp, Lib.hid (S1.out _)⟩
                  case measure => first | omega | (simp; omega)
                · obtain rfl : p = m := by omega
                  have HF := Lib.hid (hH.out.1.below hI.out.1)
                  clear hlt2 hp hg hI
                  go_wp2_with fail
                  go_roundg (l - (k + 1))
                  case rel => exact ⟨k + 1, by omega, rfl, by simp, _, rfl, Lib.hid ⟨_, _, by have h := HF.out; rw [EM2.out] at h; exact h, hH.out.2⟩⟩
                  case measure => first | omega | (simp; omega)
    · obtain rfl : k = l := by omega
      obtain ⟨T, us, hq, _⟩ := hI.out
      have HB := Lib.hid hq.b
      clear hlt hk hg hI hq
      go_wp2_with fail
      go_ret
      exact ⟨rfl, HB.out⟩
end Go.Proofs.Ytogbidkkdhhllaa
