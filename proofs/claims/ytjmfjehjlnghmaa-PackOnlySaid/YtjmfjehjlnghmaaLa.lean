import Derived.Test.YtjmfjehjlnghmaaKm
namespace Go.Proofs.Ytjmfjehjlnghmaa
open Go.RowKit
set_option linter.unusedVariables false
set_option linter.unusedSimpArgs false

/-- Bytes, as an argument has them. -/
def CameB (w : World) (v : Value) : Prop := ∃ (A : Option Addr) (n c : Nat) (bs : List Nat), v = .slice A n c ∧ bs.length = n ∧ n ≤ 140737488351232 ∧ BR w A bs ∧ (A = none → c = 0) ∧ ∀ x ∈ bs, x < 256
theorem eight (x : Int) : ∃ (y N : Int) (k : Nat), x.tmod 8 = y ∧ wrap64 (y + 8) = y + 8 ∧ (y + 8).tmod 8 = N ∧ N + 1 = (k : Int) ∧ 1 ≤ k ∧ k ≤ 8 ∧ 0 ≤ N ∧ N ≤ 7 := by
  have h1 : x.tmod 8 < 8 := Int.tmod_lt_of_pos x (by omega)
  have h2 : -8 < x.tmod 8 := Int.lt_tmod_of_pos x (by omega)
  have h3 : 0 ≤ (x.tmod 8 + 8).tmod 8 ∧ (x.tmod 8 + 8).tmod 8 < 8 := by
    rw [Int.tmod_eq_emod_of_nonneg (by omega)]; omega
  exact ⟨_, _, ((x.tmod 8 + 8).tmod 8 + 1).toNat, rfl, by unfold wrap64; omega, rfl, by omega, by omega, by omega, by omega, by omega⟩
theorem mask (x k : Nat) (hk : k < 8) (hx : x < 18446744073709551616) : bits .and .u64 (x : Int) (IntKind.u64.wrap (IntKind.u64.wrap (2 ^ (8 * k)) - 1)) = ((x % 256 ^ k : Nat) : Int) := by
  have hp : (2 : Nat) ^ (8 * k) ≤ 72057594037927936 := Nat.le_trans (Nat.pow_le_pow_right (by omega) (show 8 * k ≤ 56 by omega)) (by decide)
  have hp1 : 1 ≤ (2 : Nat) ^ (8 * k) := Nat.one_le_two_pow
  have e0 : ((2 : Int) ^ (8 * k)) = (((2 : Nat) ^ (8 * k) : Nat) : Int) := by rw [Int.natCast_pow]; rfl
  rw [e0]
  obtain ⟨P, eP⟩ : ∃ P, (2 : Nat) ^ (8 * k) = P := ⟨_, rfl⟩
  rw [eP] at hp hp1 ⊢
  have e1 : IntKind.u64.wrap (P : Int) = (P : Int) := by rw [IntKind.wrap_u64]; omega
  have e2 : IntKind.u64.wrap ((P : Int) - 1) = ((P - 1 : Nat) : Int) := by rw [IntKind.wrap_u64]; omega
  rw [e1, e2]
  have h1 : (BitVec.ofInt 64 (x : Int)).toNat = x := by rw [BitVec.toNat_ofInt]; omega
  have h2 : (BitVec.ofInt 64 ((P - 1 : Nat) : Int)).toNat = P - 1 := by rw [BitVec.toNat_ofInt]; omega
  show IntKind.u64.wrap ((BitVec.ofInt 64 (x : Int) &&& BitVec.ofInt 64 ((P - 1 : Nat) : Int)).toNat : Nat) = _
  rw [BitVec.toNat_and, h1, h2, ← eP, Nat.and_two_pow_sub_one_eq_mod, Nat.pow_mul, show (2 : Nat) ^ 8 = 256 from rfl, IntKind.wrap_u64]
  have := Nat.mod_le x (256 ^ k)
  omega
set_option maxRecDepth 100000 in
set_option maxHeartbeats 4000000 in
theorem puts_law (v : Value) (q : Int) (x : Nat) (w : World) (hv : CameB w v) (hx : x < 18446744073709551616) :
    Calls Try.prog 5 #[v, .int .i64 q, .int .u64 x] w fun e w' => e = .returned (.bool true) ∧ Below w.heap.size w w' := by
  obtain ⟨A, n, c, bs, rfl, hn, hm, hr, hA, hb⟩ := hv
  have HFit := Lib.hid (fit_any w)
  by_cases h100 : 100 < n
  · clear hn hr hA hb hx
    go_enter Try.func5, Try.ntmps5
    go_wp2_with fail
    refine HFit.out.mono ?_
    rintro e w1 ⟨rfl, hb1⟩
    have HB1 := Lib.hid hb1
    clear hb1
    go_wp2_with fail
    go_ret
    exact ⟨rfl, HB1.out⟩
  · obtain ⟨y, N, k, e1, e2, e3, e4, k1, k8, n0, n7⟩ := eight q
    obtain ⟨i0, hi, hz0, hz1, hz2⟩ := info_parts info5
    have HN := Lib.hid hn
    have HR := Lib.hid hr
    have HA := Lib.hid hA
    have HB := Lib.hid hb
    have HX := Lib.hid hx
    have hslot : (k < 8 ∧ bits .and .u64 (x : Int) (IntKind.u64.wrap (IntKind.u64.wrap (2 ^ (8 * k)) - 1)) = ((x % 256 ^ k : Nat) : Int)) ∨ (8 ≤ k ∧ x = x % 256 ^ k) := by
      by_cases h : k < 8
      · exact .inl ⟨h, mask x k h hx⟩
      · obtain rfl : k = 8 := by omega
        exact .inr ⟨by omega, (Nat.mod_eq_of_lt (by omega)).symm⟩
    obtain ⟨M, eM⟩ : ∃ M, x % 256 ^ k = M := ⟨_, rfl⟩
    have HNM := Lib.hid (show Pk.num (Pk.enc k x) = M by rw [Pk.num_enc, eM])
    rw [eM] at hslot
    clear eM
    clear hn hr hA hb hx
    go_enter Try.func5, Try.ntmps5
    go_wp2_with fail
    refine HFit.out.mono ?_
    rintro e w1 ⟨rfl, hb1⟩
    have HB1 := Lib.hid hb1
    have hr1 := Lib.hid (HR.out.below hb1)
    clear hb1 HFit
    go_upto_region 6 with fail
    clear e1 e2 e3 e4 n0 n7
    go_wp2_with (at_builtin; refine wpList_append_bytes _ rfl _ _ 24 rfl w1.heap.size 5 i0 (.int .u8 0) 1 Try.underlying24 hi hz0 hz1 hz2 rfl (.slice none 0 0) 0 [] rfl (World.ownsRow_nil _ _ _ _) A n c bs HN.out rfl hr1.out HA.out ?c1 ?c2 ?c3 ?_)
    case c1 => unfold maxLen; omega
    case c2 => omega
    case c3 => omega
    intro v1 w2 hown2 hg2
    have hnb : NB w1.heap.size w2 bs v1 := by
      unfold NB
      rw [HN.out]
      simpa using hown2
    obtain ⟨A1, c1, rfl, hc1, hy1, hA1⟩ := hnb.form
    have hbl2 : Below w.heap.size w w2 := (HB1.out).grown hg2 HB1.out.size (fun k hk => by simp [Value.ownBlock] at hk)
    have hr2 := HR.out.below hbl2
    have C := Lib.hid (put_any A c n k x bs w2 HN.out (by omega) hr2 k1 k8 HX.out)
    have H2 := Lib.hid (And.intro hy1 (And.intro hbl2 hr2))
    rw [HN.out] at hc1 ⊢
    clear hown2 hg2 hnb hy1 hA1 hbl2 hr2 hr1 HB1
    go_wp2_with fail
    refine C.out.mono ?_
    rintro e w3 ⟨v2, rfl, hn3, hb3⟩
    have hl3 : (bs ++ Pk.enc k x).length = n + k := by rw [List.length_append, Pk.enc_len, HN.out]
    obtain ⟨g, cp, rfl, hcp, hy3⟩ := hn3.at_ (by rw [hl3]; omega)
    rw [hl3] at hcp ⊢
    have hb23 := H2.out.2.1.trans (hb3.mono H2.out.2.1.size)
    have hy1' : BR w3 A1 bs := H2.out.1.br.below hb3
    have hr3 : BR w3 A bs := H2.out.2.2.below hb3
    have hall : ∀ x ∈ bs, x < 256 := HB.out
    have CS1 := Lib.hid (same_any_b A A1 n n c c1 bs bs true w3 HN.out HN.out hr3 hy1' hall hall (by simp))
    have ht : BR w3 (some ⟨g, 0, none⟩) bs := by
      have := (hy3.take n).br
      rwa [List.take_left' HN.out] at this
    have CS2 := Lib.hid (same_any_b (some ⟨g, 0, none⟩) A n n cp c bs bs true w3 HN.out HN.out ht hr3 hall hall (by simp))
    have hd : BR w3 (some ⟨g, n, none⟩) (Pk.enc k x) := by
      have := (hy3.drop (k := n) (c := cp) (by rw [List.length_append, Pk.enc_len, HN.out]; exact hcp)).br
      rw [List.drop_left' HN.out, if_neg (by omega), Option.map_some, addr_add, Nat.zero_add] at this
      exact this
    have CN := Lib.hid (new_any (some ⟨g, n, none⟩) (cp - n) k (Pk.enc k x) w3 (Pk.enc_len k x) (by omega) hd (fun e => by cases e) (Pk.enc_byte k x))
    have H3 := Lib.hid hb23
    have hne : ¬ cp = n := by omega
    clear hn3 hb3 C hl3 hy3 hy1' hr3 hall ht hd hb23 H2
    rcases hslot with ⟨hk8, hmask⟩ | ⟨hk8, rfl⟩
    all_goals
      go_wp2_with fail
      refine CS1.out.mono ?_
      rintro e w4 ⟨rfl, rfl⟩
      go_wp2_with fail
      refine CS2.out.mono ?_
      rintro e w4 ⟨rfl, rfl⟩
      go_wp2_with fail
      refine CN.out.mono ?_
      rintro e w4 ⟨R, rfl, hR, hr4, hb4⟩
      have CQ := Lib.hid (num_any R (Pk.enc k x) false k w4 hr4 k1 k8)
      rw [Pk.nx_ok (by rw [Pk.enc_len]; omega), List.take_of_length_le (by rw [Pk.enc_len]; omega), HNM.out] at CQ
      have H4 := Lib.hid (H3.out.trans (hb4.mono H3.out.size))
      have HR4 := Lib.hid (show w.heap.size ≤ R from Nat.le_trans H3.out.size hR)
      clear hr4 hb4 hR CN CS1 CS2
      go_wp2_with fail
      refine CQ.out.mono ?_
      rintro e w5 ⟨rfl, _, hg5⟩
      have H5 := Lib.hid (below_grown H4.out hg5 HR4.out)
      have CB := Lib.hid (bad_nil w5)
      have CR := Lib.hid (rest_nil w5)
      have CT := Lib.hid (take_nil 0 w5)
      clear hg5 H4 CQ
      go_wp2_with fail
      refine CB.out.mono ?_
      rintro e w6 ⟨rfl, rfl⟩
      go_wp2_with fail
      refine CR.out.mono ?_
      rintro e w6 ⟨rfl, rfl⟩
      go_wp2_with fail
      refine CT.out.mono ?_
      rintro e w6 ⟨rfl, rfl⟩
      go_wp2_with fail
      go_ret
      exact ⟨by first | rfl | simp, H5.out⟩
end Go.Proofs.Ytjmfjehjlnghmaa
