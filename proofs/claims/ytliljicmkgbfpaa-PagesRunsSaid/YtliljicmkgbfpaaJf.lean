/- Fill, where nothing is mapped; addresses. -/
import Derived.Test.YtliljicmkgbfpaaJe
import Derived.Laws.BitsLemmas
set_option linter.unusedVariables false
set_option linter.unusedSimpArgs false
namespace Go.Proofs.Ytliljicmkgbfpaa
open Go.RowKit Pg
set_option linter.unusedVariables false
set_option linter.unusedSimpArgs false
variable {W : World} {T : List Nat} {R : Nat} {os : List Nat} {ds : List (List Nat)} {o : Nat} {ks : List (Nat × Nat)} {nd : Nat → Nat → Nat} {mp : Nat → Option (Nat × Bool)} {w w' : World}
set_option maxRecDepth 100000 in
set_option maxHeartbeats 4000000 in
theorem fill_few (h : St W T R os ds w) (t : Tb os ds o ks nd mp) (r page frame most : Int) (ow : Int) (m : Bool) (hr : ((nd 0 0 : Nat) : Int) = r) (p f need : Nat) (hp : (p : Int) = page) (p1 : p < 4096) (hf : (f : Int) = frame) (f1 : 1 ≤ f) (f2 : f ≤ 1000000) (ho : (o : Int) = ow) (hn : (fill ks p).length = ks.length + need) (h1 : most < (need : Int)) (h0 : 0 ≤ most) :
    Calls Try.prog 12 #[.pointer (some ⟨R, 0, none⟩), .int .i64 r, .int .i64 page, .int .i64 frame, .bool m, .int .u64 ow, .int .i64 most] w fun e w' => e = .returned (.tuple #[.int .i64 0, .bool false]) ∧ St W T R os ds w' ∧ Same T w w' ∧ Below w.heap.size w w' := by
  subst hp hf ho
  have hdr := dep_range ks p
  have hnd : need = 4 - dep ks p := by have := t.dep_fill p; omega
  have Y := Lib.hid (way_st h t r hr p p1)
  have HH := Lib.hid h
  have AF := Lib.hid (fun (X : World) => affords_no (some ⟨R, 0, none⟩) need (o : Int) most X h1)
  have FT := Lib.hid (fun (X : World) => fits_yes f X f1 f2)
  obtain ⟨d, ed⟩ : ∃ d, dep ks p = d := ⟨_, rfl⟩
  rw [ed] at Y hnd hdr
  have hsub : (4 : Int) - (d : Int) = (need : Int) := by omega
  have hd0 : ((d : Int) == 0) = false := by simp; omega
  have ED := Lib.hid (And.intro ed (And.intro hdr hnd))
  clear h t ed hdr hnd h1 f1
  go_enter Try.func12, Try.ntmps12
  go_wp2_with fail
  refine Y.out.mono ?_; rintro e w1 ⟨⟨v1, rfl, hN⟩, hb1⟩
  obtain ⟨g, cap, rfl, g1, g2, g3, g4⟩ := hN.at_ (by have := ED.out.2.1; omega)
  have H1 := Lib.hid hb1
  clear hN g4 hb1 Y g1 g2
  go_wp2_with fail
  refine (FT.out _).mono ?_; rintro e w2 ⟨rfl, rfl⟩
  go_wp2_with fail
  refine (AF.out _).mono ?_; rintro e w2 ⟨rfl, hb2⟩
  have H2 := Lib.hid (H1.out.trans (hb2.mono H1.out.size))
  clear hb2 H1 AF FT g3 hd0
  go_wp2_with fail
  go_ret2
  exact ⟨rfl, HH.out.below H2.out, HH.out.same H2.out, H2.out⟩
set_option maxRecDepth 100000 in
set_option maxHeartbeats 4000000 in
theorem fill_bad (h : St W T R os ds w) (t : Tb os ds o ks nd mp) (r page frame most : Int) (ow : Int) (m : Bool) (hb : (((nd 0 0 : Nat) : Int) = r ∧ (¬ (0 ≤ page ∧ page < 4096) ∨ frame ≤ 0)) ∨ r = 0) (p1 : -9223372036854775808 ≤ page) (p2 : page ≤ 9223372036854775807) (f1 : -9223372036854775808 ≤ frame) (f2 : frame ≤ 1000000) :
    Calls Try.prog 12 #[.pointer (some ⟨R, 0, none⟩), .int .i64 r, .int .i64 page, .int .i64 frame, .bool m, .int .u64 ow, .int .i64 most] w fun e w' => e = .returned (.tuple #[.int .i64 0, .bool false]) ∧ St W T R os ds w' ∧ Same T w w' ∧ Below w.heap.size w w' := by
  have HH := Lib.hid h
  have hroot := tb_frame h t t.root
  by_cases hw : Fr.own os r = 0 ∨ ¬ (0 ≤ page ∧ page < 4096)
  · have hr12 : -9223372036854775808 ≤ r ∧ r ≤ 9223372036854775807 := by omega
    have Y := Lib.hid (way_no h r page hr12.1 hr12.2 hw)
    clear h t hb hw hr12
    go_enter Try.func12, Try.ntmps12
    go_wp2_with fail
    refine Y.out.mono ?_; rintro e w1 ⟨rfl, hb1⟩
    have H1 := Lib.hid hb1
    clear hb1 Y
    go_wp2_with fail
    go_ret2
    exact ⟨rfl, HH.out.below H1.out, HH.out.same H1.out, H1.out⟩
  · have hr0 : r ≠ 0 := fun e => hw (.inl (by rw [e]; unfold Fr.own; rw [if_neg (by omega)]))
    have hpg : 0 ≤ page ∧ page < 4096 := Classical.byContradiction fun e => hw (.inr e)
    have hr : ((nd 0 0 : Nat) : Int) = r := by rcases hb with hb | hb; exact hb.1; exact absurd hb hr0
    have hfr : frame ≤ 0 := by
      rcases hb with ⟨_, hb | hb⟩ | hb
      · exact absurd hpg hb
      · exact hb
      · exact absurd hb hr0
    obtain ⟨p, rfl⟩ : ∃ p : Nat, page = (p : Int) := ⟨page.toNat, by omega⟩
    have Y := Lib.hid (way_st h t r hr p (by omega))
    have FT := Lib.hid (fun (X : World) => fits_no frame X hfr)
    have hdr := dep_range ks p
    obtain ⟨d, ed⟩ : ∃ d, dep ks p = d := ⟨_, rfl⟩
    rw [ed] at Y hdr
    have hd0 : ((d : Int) == 0) = false := by simp; omega
    have hsub : IntKind.i64.wrap ((4 : Int) - (d : Int)) = (4 : Int) - (d : Int) := by rw [IntKind.wrap_i64]; omega
    have HD := Lib.hid hdr
    clear h t hb hw ed hdr hr hr0
    go_enter Try.func12, Try.ntmps12
    go_wp2_with fail
    refine Y.out.mono ?_; rintro e w1 ⟨⟨v1, rfl, hN⟩, hb1⟩
    obtain ⟨g, cap, rfl, g1, g2, g3, g4⟩ := hN.at_ (by have := HD.out; omega)
    have H1 := Lib.hid hb1
    clear hN g4 hb1 Y g1 g2
    go_wp2_with fail
    refine (FT.out _).mono ?_; rintro e w2 ⟨rfl, rfl⟩
    go_wp2_with fail
    go_ret2
    exact ⟨rfl, HH.out.below H1.out, HH.out.same H1.out, H1.out⟩
theorem i64_and63 (n : Int) : bits .and .i64 n 63 = n % 64 := by
  have h127 : (BitVec.ofInt 64 63).toNat = 2 ^ 6 - 1 := by decide
  have key : (BitVec.ofInt 64 n &&& BitVec.ofInt 64 63).toNat = (n % ((2 ^ 64 : Nat) : Int)).toNat % 2 ^ 6 := by
    rw [BitVec.toNat_and, BitVec.toNat_ofInt, h127, Nat.and_two_pow_sub_one_eq_mod]
  show IntKind.i64.wrap ((BitVec.ofInt 64 n &&& BitVec.ofInt 64 63).toNat : Nat) = n % 64
  rw [key, IntKind.wrap_i64]
  omega
theorem offset_any (v : Int) (w : World) (h0 : 0 ≤ v) (h1 : v ≤ 9223372036854775807) : Calls Try.prog 19 #[.int .i64 v] w fun e w' => e = .returned (.int .i64 (v % 64)) ∧ Below w.heap.size w w' := by
  have h6 := i64_and63 v
  go_enter Try.func19, Try.ntmps19
  go_wp2_with fail
  go_ret
  exact ⟨rfl, Below.refl _ _⟩
theorem page_any (v : Int) (w : World) (h0 : 0 ≤ v) (h1 : v ≤ 9223372036854775807) : Calls Try.prog 18 #[.int .i64 v] w fun e w' => e = .returned (.int .i64 (v / 64)) ∧ Below w.heap.size w w' := by
  have O := Lib.hid (offset_any v w h0 h1)
  obtain ⟨q, eq⟩ : ∃ q, v % 64 = q := ⟨_, rfl⟩
  rw [eq] at O
  have hw : IntKind.i64.wrap (v - q) = v - q := by rw [IntKind.wrap_i64]; omega
  have HR := Lib.hid (show (v - q) / 64 = v / 64 by omega)
  have h2 : 0 ≤ v - q := by omega
  have h3 : Int.tdiv (v - q) 64 = (v - q) / 64 := Int.tdiv_eq_ediv_of_nonneg h2
  have hw2 : wrap64 ((v - q) / 64) = v / 64 := by rw [HR.out]; unfold wrap64; omega
  clear eq
  go_enter Try.func18, Try.ntmps18
  go_wp2_with fail
  refine O.out.mono ?_; rintro e w1 ⟨rfl, hb⟩
  have H1 := Lib.hid hb
  clear hb
  go_wp2_with fail
  go_ret
  exact ⟨by rw [hw2]; rfl, H1.out⟩
end Go.Proofs.Ytliljicmkgbfpaa
