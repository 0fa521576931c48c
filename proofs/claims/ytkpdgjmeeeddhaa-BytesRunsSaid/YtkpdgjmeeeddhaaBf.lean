/- Numbers in a segment; bytes of another one. -/
import Derived.Test.YtkpdgjmeeeddhaaBe
import Derived.Test.YtkpdgjmeeeddhaaKf
import Derived.Test.YtkpdgjmeeeddhaaKk
set_option linter.unusedVariables false
set_option linter.unusedSimpArgs false
namespace Go.Proofs.Ytkpdgjmeeeddhaa
open Go.RowKit
set_option linter.unusedVariables false
set_option linter.unusedSimpArgs false
variable {w w' w1 w2 : World} {b o R c b2 o2 : Nat} {v v2 P : Value} {fs fs2 S S1 os os' bs : List Nat} {ds ds' : List (List Nat)} {A : Option Addr}
theorem Pl.not_mem {g : Nat} {cs : Array Value} {t : TypeId} (hp : Pl w R S os ds) (hg : w.heap[g]? = some (Obj.cells cs t)) (h1 : t ≠ 56) (h2 : t ≠ 68) : g ∉ S := fun hm => by
  obtain ⟨B, cs', rfl, g1, g2, _⟩ := hp
  rcases List.mem_cons.1 hm with rfl | hm
  · rw [g1] at hg; injection hg with hg; injection hg with _ hg; exact h1 hg.symm
  · obtain rfl := List.mem_singleton.1 hm
    rw [g2] at hg; injection hg with hg; injection hg with _ hg; exact h2 hg.symm
theorem grown_fresh {N : Nat} (h : w1.grownBy w2 (some N)) (hb : Below w.heap.size w w1) (hN : w.heap.size ≤ N) : Below w.heap.size w w2 := below_grown hb h hN
/-- No such number: the reader fails. -/
theorem knum_bad (N : Nat) (bs : List Nat) (bad : Bool) (n : Int) (w : World) (h : Rd w N bs bad) (hn : n < 1 ∨ 8 < n) :
    Calls Try.prog 32 #[.pointer (some ⟨N, 0, none⟩), .int .i64 n] w fun e w' => e = .returned (.int .u64 0) ∧ Rd w' N bs true ∧ w.grownBy w' (some N) := by
  have C := Lib.hid (fail_any N bs bad w h)
  clear h
  by_cases h0 : n < 1
  all_goals
    try have t1 : 8 < n := by omega
    clear hn
    go_enter Try.func32, Try.ntmps32
    go_wp2_with fail
    refine C.out.mono ?_
    rintro e w1 ⟨rfl, hr, hg⟩
    have H := Lib.hid (And.intro hr hg)
    clear hr hg
    go_wp2_with fail
    go_ret
    exact ⟨rfl, H.out⟩
set_option maxHeartbeats 1000000 in
theorem num_in {off k : Nat} (h : SV w b o v fs) (hp : Pl w R S os ds) (hf : Live os fs) (hn : off + k ≤ 64 * fs.length) (h1 : 1 ≤ k) (h8 : k ≤ 8) :
    Calls Try.prog 20 #[.pointer (some ⟨b, o, none⟩), .pointer (some ⟨R, 0, none⟩), .int .i64 (off : Int), .int .i64 (k : Int)] w fun e w' => e = .returned (.tuple #[.int .u64 (Pk.num (((Sg.cont ds fs).drop off).take k) : Nat), .bool true]) ∧ Below w.heap.size w w' := by
  have C := Lib.hid (read_in h hp hf hn)
  have hcl := Sg.cont_len hp.dw (fun f hm => (hf.lt f hm).2)
  have hbl : (((Sg.cont ds fs).drop off).take k).length = k := by rw [List.length_take, List.length_drop]; omega
  have hby : ∀ x ∈ ((Sg.cont ds fs).drop off).take k, x < 256 := fun x hx => Sg.cont_byte hp.dw x (List.mem_of_mem_drop (List.mem_of_mem_take hx))
  obtain ⟨bs, ebs⟩ : ∃ bs, ((Sg.cont ds fs).drop off).take k = bs := ⟨_, rfl⟩
  rw [ebs] at C hbl hby ⊢
  have HB := Lib.hid (And.intro hbl hby)
  have CN := Lib.hid (fun (A : Option Addr) (c : Nat) (W : World) (hr : BR W A bs) (hA : A = none → c = 0) => new_any A c k bs W hbl (by omega) hr hA hby)
  have hnx : Pk.nx k (bs, false) = (Pk.num bs, ([], false)) := by
    unfold Pk.nx
    rw [if_pos ⟨rfl, by simp only; omega⟩]
    simp only
    rw [List.take_of_length_le (by omega), List.drop_of_length_le (by omega)]
  have CK := Lib.hid (fun (N : Nat) (W : World) (h : Rd W N bs false) => num_any N bs false k W h h1 h8)
  rw [hnx] at CK
  obtain ⟨q, eq⟩ : ∃ q, Pk.num bs = q := ⟨_, rfl⟩
  rw [eq] at CK ⊢
  have CB := Lib.hid (fun (N : Nat) (W : World) (h : Rd W N [] false) => bad_any N [] false W h)
  clear h hp hf hn hcl hbl hby ebs hnx eq h1 h8
  go_enter Try.func20, Try.ntmps20
  go_wp2_with fail
  refine C.out.mono ?_
  rintro e w1 ⟨v1, rfl, hbw, hb1⟩
  obtain ⟨A, c, rfl, hc1, hc2, hr, hA, _⟩ := hbw.form
  have hbl := HB.out.1
  rw [hbl] at hc1 ⊢
  have C1 := Lib.hid (CN.out A c w1 hr hA)
  have H1 := Lib.hid hb1
  clear hbw hc1 hc2 hr hA hb1 hbl C CN
  go_wp2_with fail
  refine C1.out.mono ?_
  rintro e w2 ⟨N, rfl, hN, hrd, hb2⟩
  have C2 := Lib.hid (CK.out N w2 hrd)
  have H2 := Lib.hid (And.intro (Nat.le_trans H1.out.size hN) (H1.out.trans (hb2.mono H1.out.size)))
  clear hN hrd hb2 C1 CK H1
  go_wp2_with fail
  refine C2.out.mono ?_
  rintro e w3 ⟨rfl, hrd, hg⟩
  have C3 := Lib.hid (CB.out N w3 hrd)
  have H3 := Lib.hid (grown_fresh hg H2.out.2 H2.out.1)
  clear hrd hg C2 CB H2
  go_wp2_with fail
  refine C3.out.mono ?_
  rintro e w4 ⟨rfl, rfl⟩
  go_wp2_with fail
  go_ret2
  exact ⟨rfl, H3.out⟩
set_option maxHeartbeats 1000000 in
theorem num_no {off k : Int} (h : SV w b o v fs) (hp : Pl w R S os ds) (hf : Live os fs) (hk1 : -9223372036854775808 ≤ k) (hk2 : k ≤ 9223372036854775807) (hn : ¬ (1 ≤ k ∧ k ≤ 8 ∧ 0 ≤ off ∧ off + k ≤ (64 * fs.length : Nat))) :
    Calls Try.prog 20 #[.pointer (some ⟨b, o, none⟩), .pointer (some ⟨R, 0, none⟩), .int .i64 off, .int .i64 k] w fun e w' => e = .returned (.tuple #[.int .u64 0, .bool false]) ∧ Below w.heap.size w w' := by
  by_cases hin : 0 ≤ off ∧ 0 ≤ k ∧ off + k ≤ (64 * fs.length : Nat)
  · obtain ⟨off, rfl⟩ := Int.eq_ofNat_of_zero_le hin.1
    obtain ⟨k, rfl⟩ := Int.eq_ofNat_of_zero_le hin.2.1
    have hl := h.l
    have C := Lib.hid (read_in h hp hf (by omega) (off := off) (n := k))
    have hcl := Sg.cont_len hp.dw (fun f hm => (hf.lt f hm).2)
    have hbl : (((Sg.cont ds fs).drop off).take k).length = k := by rw [List.length_take, List.length_drop]; omega
    have hby : ∀ x ∈ ((Sg.cont ds fs).drop off).take k, x < 256 := fun x hx => Sg.cont_byte hp.dw x (List.mem_of_mem_drop (List.mem_of_mem_take hx))
    obtain ⟨bs, ebs⟩ : ∃ bs, ((Sg.cont ds fs).drop off).take k = bs := ⟨_, rfl⟩
    rw [ebs] at C hbl hby
    have HB := Lib.hid (And.intro hbl hby)
    have CN := Lib.hid (fun (A : Option Addr) (c : Nat) (W : World) (hr : BR W A bs) (hA : A = none → c = 0) => new_any A c k bs W hbl (by omega) hr hA hby)
    have CK := Lib.hid (fun (N : Nat) (W : World) (h : Rd W N bs false) => knum_bad N bs false (k : Int) W h (by omega))
    have CB := Lib.hid (fun (N : Nat) (W : World) (h : Rd W N bs true) => bad_any N bs true W h)
    clear h hp hf hn hcl hbl hby ebs hl hin hk1 hk2
    go_enter Try.func20, Try.ntmps20
    go_wp2_with fail
    refine C.out.mono ?_
    rintro e w1 ⟨v1, rfl, hbw, hb1⟩
    obtain ⟨A, c, rfl, hc1, hc2, hr, hA, _⟩ := hbw.form
    have hbl := HB.out.1
    rw [hbl] at hc1 ⊢
    have C1 := Lib.hid (CN.out A c w1 hr hA)
    have H1 := Lib.hid hb1
    clear hbw hc1 hc2 hr hA hb1 hbl C CN
    go_wp2_with fail
    refine C1.out.mono ?_
    rintro e w2 ⟨N, rfl, hN, hrd, hb2⟩
    have C2 := Lib.hid (CK.out N w2 hrd)
    have H2 := Lib.hid (And.intro (Nat.le_trans H1.out.size hN) (H1.out.trans (hb2.mono H1.out.size)))
    clear hN hrd hb2 C1 CK H1
    go_wp2_with fail
    refine C2.out.mono ?_
    rintro e w3 ⟨rfl, hrd, hg⟩
    have C3 := Lib.hid (CB.out N w3 hrd)
    have H3 := Lib.hid (grown_fresh hg H2.out.2 H2.out.1)
    clear hrd hg C2 CB H2
    go_wp2_with fail
    refine C3.out.mono ?_
    rintro e w4 ⟨rfl, rfl⟩
    go_wp2_with fail
    go_ret2
    exact ⟨rfl, H3.out⟩
  · have C := Lib.hid (read_out (P := .pointer (some ⟨R, 0, none⟩)) h hk1 hk2 hin)
    clear hn hin h hp hf
    go_enter Try.func20, Try.ntmps20
    go_wp2_with fail
    refine C.out.mono ?_
    rintro e w1 ⟨rfl, rfl⟩
    go_wp2_with fail
    go_ret2
    exact ⟨rfl, Below.refl _ _⟩
theorem enc_byte : ∀ (k x : Nat), ∀ y ∈ Pk.enc k x, y < 256
  | 0, x => fun y hy => by simp [Pk.enc] at hy
  | k + 1, x => fun y hy => by
    rw [Pk.enc_cons] at hy
    rcases List.mem_cons.1 hy with rfl | hy
    · exact Nat.mod_lt _ (by omega)
    · exact enc_byte k x y hy
/-- A number's bytes. -/
theorem kput_nil (k x : Nat) (w : World) (h1 : 1 ≤ k) (h8 : k ≤ 8) (hx : x < 18446744073709551616) : Calls Try.prog 30 #[.slice none 0 0, .int .i64 (k : Int), .int .u64 (x : Int)] w fun e w' => ∃ A c, e = .returned (.slice A k c) ∧ k ≤ c ∧ BR w' A (Pk.enc k x) ∧ (∀ a, A = some a → 0 < k → ∃ cs, w'.heap[a.block]? = some (Obj.cells cs 5)) ∧ Below w.heap.size w w' := by
  refine (put_any none 0 0 k x [] w rfl (by omega) (BR.nil _ _) h1 h8 hx).mono fun e w' ⟨v, he, hn, hb⟩ => ?_
  obtain ⟨A, c, rfl, hc, hy, _⟩ := hn.form
  rw [List.nil_append] at hc hy he
  rw [Pk.enc_len] at hc he
  refine ⟨A, c, he, hc, hy.br, fun a ha h0 => ?_, hb⟩
  have hl : 0 < (Pk.enc k x).length := by rw [Pk.enc_len]; exact h0
  obtain ⟨b, off, cs, e, hh, _⟩ := hy 0 _ (List.getElem?_eq_getElem hl)
  rw [ha] at e; injection e with e; rw [e]; exact ⟨cs, hh⟩
set_option maxHeartbeats 1000000 in
theorem put_in {off k x : Nat} (h : SV w b o v fs) (hp : Pl w R S os ds) (hf : Live os fs) (hn : off + k ≤ 64 * fs.length) (h1 : 1 ≤ k) (h8 : k ≤ 8) (hx : x < 18446744073709551616) :
    Calls Try.prog 19 #[.pointer (some ⟨b, o, none⟩), .pointer (some ⟨R, 0, none⟩), .int .i64 (off : Int), .int .i64 (k : Int), .int .u64 (x : Int)] w fun e w' => e = .returned (.bool true) ∧ PlT w R S os (Sg.wr ds (Sg.prts fs off k) (Pk.enc k x)) w' := by
  have C := Lib.hid (kput_nil k x w h1 h8 hx)
  have hby := enc_byte k x
  have CW := Lib.hid (fun (A : Option Addr) (c : Nat) (W : World) (hb : Below w.heap.size w W) (hc : k ≤ c) (hr : BR W A (Pk.enc k x)) (hs : ∀ a, A = some a → 0 < k → a.block ∉ S) => write_in (h.below hb) (hp.below hb) hf hn (Pk.enc_len k x) hc hr hs hby)
  have HP := Lib.hid (fun (W : World) (hb : Below w.heap.size w W) => hp.below hb)
  have HT := Lib.hid (PlT.refl hp)
  have t1 : (1 : Int) ≤ k := by omega
  have t2 : (k : Int) ≤ 8 := by omega
  clear h hp hf hn h1 h8 hx hby
  go_enter Try.func19, Try.ntmps19
  go_wp2_with fail
  refine C.out.mono ?_
  rintro e w1 ⟨A, c, rfl, hc, hr, hs, hb⟩
  have CX := Lib.hid (CW.out A c w1 hb hc hr (fun a ha h0 => by obtain ⟨cs, hh⟩ := hs a ha h0; exact Pl.not_mem (HP.out w1 hb) hh (by decide) (by decide)))
  have HB := Lib.hid hb
  clear hc hr hs hb C CW HP
  go_wp2_with fail
  refine CX.out.mono ?_
  rintro e w2 ⟨rfl, hw⟩
  have HW := Lib.hid (plt_step (Turn.of_below HB.out (S := S)) (fun b hb => .inl hb) hw)
  clear hw CX
  go_wp2_with fail
  go_ret
  exact ⟨rfl, HW.out⟩
theorem put_no {off k : Int} {x : Nat} (h : SV w b o v fs) (hx : x < 18446744073709551616) (hn : ¬ (1 ≤ k ∧ k ≤ 8 ∧ 0 ≤ off ∧ off + k ≤ (64 * fs.length : Nat))) :
    Calls Try.prog 19 #[.pointer (some ⟨b, o, none⟩), P, .int .i64 off, .int .i64 k, .int .u64 (x : Int)] w fun e w' => e = .returned (.bool false) ∧ Below w.heap.size w w' := by
  by_cases h1 : k < 1
  · clear hn
    go_enter Try.func19, Try.ntmps19
    go_wp2_with fail
    go_ret
    exact ⟨rfl, Below.refl _ _⟩
  · by_cases h8 : 8 < k
    · clear hn
      go_enter Try.func19, Try.ntmps19
      go_wp2_with fail
      go_ret
      exact ⟨rfl, Below.refl _ _⟩
    · obtain ⟨k, rfl⟩ : ∃ n : Nat, k = n := ⟨k.toNat, by omega⟩
      have C := Lib.hid (kput_nil k x w (by omega) (by omega) hx)
      have CW := Lib.hid (fun (A : Option Addr) (c : Nat) (W : World) (hb : Below w.heap.size w W) => write_out (P := P) (A := A) (c := c) (n := k) (h.below hb) (by omega) (fun hh => hn ⟨by omega, by omega, hh⟩))
      have t1 : (1 : Int) ≤ k := by omega
      have t2 : (k : Int) ≤ 8 := by omega
      clear h hn h1 h8
      go_enter Try.func19, Try.ntmps19
      go_wp2_with fail
      refine C.out.mono ?_
      rintro e w1 ⟨A, c, rfl, hc, hr, hs, hb⟩
      have CX := Lib.hid (CW.out A c w1 hb)
      have HB := Lib.hid hb
      clear hc hr hs hb C CW
      go_wp2_with fail
      refine CX.out.mono ?_
      rintro e w2 ⟨rfl, rfl⟩
      go_wp2_with fail
      go_ret
      exact ⟨rfl, HB.out⟩
set_option maxHeartbeats 1000000 in
theorem copy_in {off at_ n : Nat} (h : SV w b o v fs) (h2 : SV w b2 o2 v2 fs2) (hp : Pl w R S os ds) (hf : Live os fs) (hf2 : Live os fs2) (hn : off + n ≤ 64 * fs.length) (hn2 : at_ + n ≤ 64 * fs2.length) :
    Calls Try.prog 23 #[.pointer (some ⟨b, o, none⟩), .pointer (some ⟨R, 0, none⟩), .int .i64 (off : Int), .pointer (some ⟨b2, o2, none⟩), .int .i64 (at_ : Int), .int .i64 (n : Int)] w fun e w' => e = .returned (.bool true) ∧ PlT w R S os (Sg.wr ds (Sg.prts fs off n) (((Sg.cont ds fs2).drop at_).take n)) w' := by
  have C := Lib.hid (read_in h2 hp hf2 hn2)
  have hcl := Sg.cont_len hp.dw (fun f hm => (hf2.lt f hm).2)
  have hbl : (((Sg.cont ds fs2).drop at_).take n).length = n := by rw [List.length_take, List.length_drop]; omega
  have hby : ∀ x ∈ ((Sg.cont ds fs2).drop at_).take n, x < 256 := fun x hx => Sg.cont_byte hp.dw x (List.mem_of_mem_drop (List.mem_of_mem_take hx))
  obtain ⟨bs, ebs⟩ : ∃ bs, ((Sg.cont ds fs2).drop at_).take n = bs := ⟨_, rfl⟩
  rw [ebs] at C hbl hby ⊢
  have HBL := Lib.hid hbl
  have CW := Lib.hid (fun (A : Option Addr) (c : Nat) (W : World) (hb : Below w.heap.size w W) (hc : n ≤ c) (hr : BR W A bs) (hs : ∀ a, A = some a → 0 < n → a.block ∉ S) => write_in (h.below hb) (hp.below hb) hf hn hbl hc hr hs hby)
  have HP := Lib.hid (fun (W : World) (hb : Below w.heap.size w W) => hp.below hb)
  clear h h2 hp hf hf2 hn hn2 hcl hbl hby ebs
  go_enter Try.func23, Try.ntmps23
  go_wp2_with fail
  refine C.out.mono ?_
  rintro e w1 ⟨v1, rfl, hbw, hb⟩
  obtain ⟨A, c, rfl, hc1, hc2, hr, hA, hty⟩ := hbw.form
  rw [HBL.out] at hc1 ⊢
  have CX := Lib.hid (CW.out A c w1 hb hc1 hr (fun a ha _ => by obtain ⟨_, cs, hh⟩ := hty a ha; exact Pl.not_mem (HP.out w1 hb) hh (by decide) (by decide)))
  have HB := Lib.hid hb
  clear hbw hb hc1 hc2 hr hA hty C CW HP
  go_wp2_with fail
  refine CX.out.mono ?_
  rintro e w2 ⟨rfl, hw⟩
  have HW := Lib.hid (plt_step (Turn.of_below HB.out (S := S)) (fun b hb => .inl hb) hw)
  clear hw CX
  go_wp2_with fail
  go_ret
  exact ⟨rfl, HW.out⟩
set_option maxHeartbeats 1000000 in
theorem copy_no {off at_ n : Int} (h : SV w b o v fs) (h2 : SV w b2 o2 v2 fs2) (hp : Pl w R S os ds) (hf2 : Live os fs2) (hk1 : -9223372036854775808 ≤ n) (hk2 : n ≤ 9223372036854775807) (hn : ¬ (0 ≤ n ∧ (0 ≤ off ∧ off + n ≤ (64 * fs.length : Nat)) ∧ (0 ≤ at_ ∧ at_ + n ≤ (64 * fs2.length : Nat)))) :
    Calls Try.prog 23 #[.pointer (some ⟨b, o, none⟩), .pointer (some ⟨R, 0, none⟩), .int .i64 off, .pointer (some ⟨b2, o2, none⟩), .int .i64 at_, .int .i64 n] w fun e w' => e = .returned (.bool false) ∧ Below w.heap.size w w' := by
  by_cases hin : 0 ≤ at_ ∧ 0 ≤ n ∧ at_ + n ≤ (64 * fs2.length : Nat)
  · obtain ⟨at_, rfl⟩ := Int.eq_ofNat_of_zero_le hin.1
    obtain ⟨n, rfl⟩ := Int.eq_ofNat_of_zero_le hin.2.1
    have C := Lib.hid (read_in h2 hp hf2 (by omega) (off := at_) (n := n))
    have hcl := Sg.cont_len hp.dw (fun f hm => (hf2.lt f hm).2)
    have hbl : (((Sg.cont ds fs2).drop at_).take n).length = n := by rw [List.length_take, List.length_drop]; omega
    obtain ⟨bs, ebs⟩ : ∃ bs, ((Sg.cont ds fs2).drop at_).take n = bs := ⟨_, rfl⟩
    rw [ebs] at C hbl
    have HBL := Lib.hid hbl
    have CW := Lib.hid (fun (A : Option Addr) (c : Nat) (W : World) (hb : Below w.heap.size w W) => write_out (P := .pointer (some ⟨R, 0, none⟩)) (off := off) (A := A) (c := c) (n := n) (h.below hb) (by omega) (fun hh => hn ⟨by omega, hh, hin.1, hin.2.2⟩))
    clear h h2 hp hf2 hn hcl hbl ebs hin hk1 hk2
    go_enter Try.func23, Try.ntmps23
    go_wp2_with fail
    refine C.out.mono ?_
    rintro e w1 ⟨v1, rfl, hbw, hb⟩
    obtain ⟨A, c, rfl, hc1, hc2, hr, hA, hty⟩ := hbw.form
    rw [HBL.out] at hc1 ⊢
    have CX := Lib.hid (CW.out A c w1 hb)
    have HB := Lib.hid hb
    clear hbw hb hc1 hc2 hr hA hty C CW
    go_wp2_with fail
    refine CX.out.mono ?_
    rintro e w2 ⟨rfl, rfl⟩
    go_wp2_with fail
    go_ret
    exact ⟨rfl, HB.out⟩
  · have C := Lib.hid (read_out (P := .pointer (some ⟨R, 0, none⟩)) h2 hk1 hk2 hin)
    clear hn hin h h2 hp hf2
    go_enter Try.func23, Try.ntmps23
    go_wp2_with fail
    refine C.out.mono ?_
    rintro e w1 ⟨rfl, rfl⟩
    go_wp2_with fail
    go_ret
    exact ⟨rfl, Below.refl _ _⟩
end Go.Proofs.Ytkpdgjmeeeddhaa
