/- table: the slots that a law makes. -/
import Derived.Test.YtjmdgmlpecjolaaCb
set_option linter.unusedVariables false
set_option linter.unusedSimpArgs false
namespace Go.Proofs.Ytjmdgmlpecjolaa
open Go.RowKit
set_option linter.unusedVariables false
set_option linter.unusedSimpArgs false
variable {own own' : Nat → Prop} {w w' : World} {v : Value} {ys : List Sl} {p q : Sl} {b B off n cp k : Nat} {xs : List Int} {A : Option Addr}
/-- A row of slots of a law's own. -/
def RS (own : Nat → Prop) (w : World) (v : Value) (ys : List Sl) : Prop := RV own 32 2 encS w v ys
theorem RS.keep (h : RS own w v ys) (hk : ∀ b cur, own b → w.heap[b]? = some (Obj.cells cur 32) → own' b ∧ w'.heap[b]? = w.heap[b]?) : RS own' w' v ys := RV.keep h hk
theorem RS.below (h : RS own w v ys) (hb : Below w.heap.size w w') : RS own w' v ys := h.keep fun b cur ho hc => ⟨ho, hb.block b (Array.getElem?_eq_some_iff.1 hc).1⟩
theorem RS.one (w : World) (p : Sl) (ho : own w.heap.size) : RS own (w.alloc (Obj.cells #[.int .u64 p.c, .int .i64 p.t] 32)) (.slice (some ⟨w.heap.size, 0, none⟩) 1 1) [p] := by
  refine .inr ⟨w.heap.size, 0, 1, _, rfl, ho, heap_alloc_new w _, by simp, Nat.le_refl _, by unfold maxLen; omega, fun i x hi j u hu => ?_⟩
  match i with
  | 0 =>
    obtain rfl : p = x := by simpa using hi
    match j with
    | 0 => simpa [encS] using hu
    | 1 => simpa [encS] using hu
    | j + 2 => simp [encS] at hu
  | i + 1 => simp at hi
theorem infoS : (Try.prog.info? 32).map (fun i => (i.zero, i.size, i.bytes)) = some (some (.agg #[.int .u64 0, .int .i64 0]), 2, 16) := by kernel_rfl
/-- One more. -/
theorem append_s (ty : TypeId) (h : RS own w v ys) (hl : ys.length + 1 ≤ 100000) :
    ∃ v' w', (Builtin.append_ #[24, 24] ty #[v, .slice (some ⟨w.heap.size, 0, none⟩) 1 1]).run Try.prog (w.alloc (Obj.cells #[.int .u64 p.c, .int .i64 p.t] 32)) = .ok v' w' ∧ RS (fun b => own b ∨ w.heap.size ≤ b) w' v' (ys ++ [p]) ∧ ∃ S, Turn S w w' ∧ ∀ b ∈ S, own b ∧ ∃ cur, w.heap[b]? = some (Obj.cells cur 32) := by
  obtain ⟨i, hi, hie⟩ := Option.map_eq_some_iff.1 infoS
  injection hie with hz h2
  injection h2 with hsz hby
  have b1 := below_alloc1 w (Obj.cells #[.int .u64 p.c, .int .i64 p.t] 32)
  have hlv : LV 2 encS (w.alloc (Obj.cells #[.int .u64 p.c, .int .i64 p.t] 32)) (some ⟨w.heap.size, 0, none⟩) [p] := by
    obtain ⟨A, c, e, _, _, h⟩ := RV.form (RS.one (own := fun _ => True) w p trivial)
    injection e with e
    rw [e]; exact h
  obtain ⟨v', w', hrun, hr, S, hT, hS⟩ := append_rv (P := Try.prog) (ys := [p]) 24 ty i _ 16 Try.underlying24 hi hz hsz hby (by omega) rfl encS_len encS_one (by omega) (h.below b1) (by simpa using hl) (some ⟨w.heap.size, 0, none⟩) 1 (by simp) hlv
  refine ⟨v', w', hrun, hr.keep fun b cur hb _ => ⟨?_, rfl⟩, S.filter (· < w.heap.size), ?_, fun b hb => ?_⟩
  · rcases hb with h | h
    · exact .inl h
    · exact .inr (by simp at h; omega)
  · refine ⟨hT.os.trans b1.os, hT.tape.trans b1.tape, hT.output.trans b1.output, Nat.le_trans b1.size hT.size, fun k hk hn => ?_⟩
    rw [hT.block k (Nat.lt_of_lt_of_le hk b1.size) (fun hm => hn (List.mem_filter.2 ⟨hm, by simpa using hk⟩)), b1.block k hk]
  · have hm := List.mem_filter.1 hb
    have hlt : b < w.heap.size := by simpa using hm.2
    obtain ⟨h1, cur, h2⟩ := hS b hm.1
    exact ⟨h1, cur, by rw [← h2]; exact (b1.block b hlt).symm⟩
theorem RS.form (h : RS own w v ys) (h0 : 0 < ys.length) (h8 : ys.length ≤ 8) (ht : ∀ x ∈ ys, 1 ≤ x.t ∧ x.t ≤ 16) : ∃ B off cp, v = .slice (some ⟨B, off, none⟩) ys.length cp ∧ TW w B off ys.length cp ys ∧ own B := by
  rcases h with ⟨rfl, _⟩ | ⟨g, o, cap, cur, rfl, h1, h2, h5, h3, h4, h6⟩
  · cases h0
  · exact ⟨g, o, cap, rfl, ⟨rfl, h0, h8, h3, h4, fun i x hi => ⟨g, o, rfl, (Array.getElem?_eq_some_iff.1 h2).1, fun j u hu => by rw [cell_of_row _ _ _ _ _ (0, 0) h2]; exact h6 i x hi j u hu⟩, ht⟩, h1⟩
theorem i64_low (k : Nat) (hk : k ≤ 62) (n : Int) : bits .and .i64 n ((2 ^ k - 1 : Nat) : Int) = n % ((2 ^ k : Nat) : Int) := by
  have hp : 2 ^ k ≤ 2 ^ 62 := Nat.pow_le_pow_right (by omega) hk
  have h127 : (BitVec.ofInt 64 ((2 ^ k - 1 : Nat) : Int)).toNat = 2 ^ k - 1 := by
    rw [BitVec.toNat_ofInt]; omega
  have key : (BitVec.ofInt 64 n &&& BitVec.ofInt 64 ((2 ^ k - 1 : Nat) : Int)).toNat = (n % ((2 ^ 64 : Nat) : Int)).toNat % 2 ^ k := by
    rw [BitVec.toNat_and, BitVec.toNat_ofInt, h127, Nat.and_two_pow_sub_one_eq_mod]
  show IntKind.i64.wrap ((BitVec.ofInt 64 n &&& BitVec.ofInt 64 ((2 ^ k - 1 : Nat) : Int)).toNat : Nat) = _
  have hd : (2 ^ k : Nat) ∣ 2 ^ 64 := Nat.pow_dvd_pow 2 (by omega)
  rw [key, IntKind.wrap_i64]
  have h3 : (n % ((2 ^ 64 : Nat) : Int)).toNat % 2 ^ k < 2 ^ k := Nat.mod_lt _ (Nat.pow_pos (by omega))
  have h4 : (((n % ((2 ^ 64 : Nat) : Int)).toNat % 2 ^ k : Nat) : Int) = n % ((2 ^ k : Nat) : Int) := by
    rw [Int.natCast_emod, Int.toNat_of_nonneg (Int.emod_nonneg _ (by omega)), Int.emod_emod_of_dvd _ (Int.natCast_dvd_natCast.2 hd)]
  omega
theorem and1 (n : Int) : ∃ m : Nat, bits .and .i64 n 1 = (m : Int) ∧ m < 2 :=
  ⟨(n % 2).toNat, by have := i64_low 1 (by omega) n; simp at this; rw [this]; omega, by omega⟩
theorem and7 (n : Int) : ∃ m : Nat, bits .and .i64 n 7 = (m : Int) ∧ m < 8 :=
  ⟨(n % 8).toNat, by have := i64_low 3 (by omega) n; simp at this; rw [this]; omega, by omega⟩
theorem and15 (n : Int) : ∃ m : Nat, bits .and .i64 n 15 = (m : Int) ∧ m < 16 :=
  ⟨(n % 16).toNat, by have := i64_low 4 (by omega) n; simp at this; rw [this]; omega, by omega⟩
theorem and255 (n : Int) : ∃ m : Nat, bits .and .i64 n 255 = (m : Int) ∧ m < 256 :=
  ⟨(n % 256).toNat, by have := i64_low 8 (by omega) n; simp at this; rw [this]; omega, by omega⟩
/-- What table gives. -/
def TRet (w : World) (v : Value) (w' : World) : Prop := ∃ B off m c ys, v = .slice (some ⟨B, off, none⟩) m c ∧ TW w' B off m c ys ∧ Below w.heap.size w w' ∧ w.heap.size ≤ B
set_option maxRecDepth 100000 in
set_option maxHeartbeats 1000000 in
theorem table_any (hc : n ≤ cp) (hcm : cp ≤ maxLen) (hl : xs.length = n) (hr : LR inI w A xs) (hn : n ≤ 50) :
    Calls Try.prog 8 #[.slice A n cp] w fun e w' => ∃ v, e = .returned v ∧ TRet w v w' := by
  have hcm' : cp ≤ 9223372036854775807 := hcm
  by_cases h0 : n = 0
  · subst h0
    have b1 := Lib.hid (below_alloc1 w (Obj.cells #[.int .u64 0, .int .i64 1] 32))
    have r1 := Lib.hid (RS.one (own := fun b => w.heap.size ≤ b) w ⟨0, 1⟩ (Nat.le_refl _))
    clear hl hr
    go_enter Try.func8, Try.ntmps8
    go_wp2_with fail
    go_ret
    obtain ⟨B, off, cp', e, ht, ho⟩ := r1.out.form (by simp) (by simp) (by simp)
    injection e with e1 e2 e3
    injection e1 with e1
    injection e1 with e1 e4
    subst e1 e3 e4
    exact ⟨_, rfl, _, _, _, _, [⟨0, 1⟩], rfl, ht, b1.out, Nat.le_refl _⟩
  · have n0 : ¬ (n : Int) = 0 := by omega
    have nb : ((n : Int) == 0) = false := by simp; omega
    have HR := Lib.hid (And.intro hl hr)
    clear hl hr
    go_enter Try.func8, Try.ntmps8
    go_wp2_with fail
    go_loopg [3, 13] n (fun gh vo vi wr => ∃ k : Nat, k ≤ n ∧ gh = n - k ∧ vi = .int .i64 k ∧ Hid (∃ ys, RS (fun b => w.heap.size ≤ b) wr vo ys ∧ ys.length = min k 8 ∧ (∀ x ∈ ys, 1 ≤ x.t ∧ x.t ≤ 16) ∧ Below w.heap.size w wr))
    case atStart => exact ⟨0, by omega, by omega, rfl, Lib.hid ⟨[], RV.nil _ _, rfl, by simp, Below.refl _ _⟩⟩
    case round =>
      obtain ⟨k, hk, hg, rfl, hI⟩ := hrel
      by_cases hlt : k < n
      · obtain ⟨y, hy⟩ : ∃ y, xs[k]? = some y := ⟨_, List.getElem?_eq_getElem (by rw [HR.out.1]; exact hlt)⟩
        obtain ⟨b, off, rfl, hb, hcell⟩ := HR.out.2 k y hy
        obtain ⟨ys, hrs, hlen, hys, hbw⟩ := hI.out
        have c1 : wr.cell? ⟨b, off + k, none⟩ = some (.int .i64 y) := by rw [hbw.cell (p := ⟨b, off + k, none⟩) hb]; exact hcell
        have i1 : IntKind.i64.wrap ((k : Int) + 1) = (k : Int) + 1 := by rw [IntKind.wrap_i64]; omega
        have l1 : (k : Int) < n := by omega
        by_cases h8 : k < 8
        · have l8 : (k : Int) < 8 := by omega
          obtain ⟨m, em, hm⟩ := and15 y
          have i2 : IntKind.i64.wrap ((m : Int) + 1) = ((m + 1 : Nat) : Int) := by rw [IntKind.wrap_i64]; omega
          obtain ⟨vo', W5, hrun, hr5, S, hT, hS⟩ := append_s (p := ⟨0, ((m + 1 : Nat) : Int)⟩) 24 hrs (by omega)
          have HXX := Lib.hid hrun
          have H5 := Lib.hid (And.intro (hr5.keep (own' := fun b => w.heap.size ≤ b) (w' := W5) fun b cur hb _ => ⟨by rcases hb with h | h; exact h; exact Nat.le_trans hbw.size h, rfl⟩) (And.intro (below_turn hbw hT fun b hb => (hS b hb).1) (And.intro hlen (And.intro hys hm))))
          clear hrun hr5 hT hS hI hy hb hcell hrs hlen hys hbw hm
          go_wp2_with (at_builtin; refine wpList_append_by rfl (.tmp 20) (.tmp 25) _ _ rfl _ _ _ rfl rfl W5 HXX.out ?_)
          go_wp2_with fail
          go_roundg (n - (k + 1))
          case rel => exact ⟨k + 1, by omega, rfl, by simp, Lib.hid ⟨_, H5.out.1, by rw [List.length_append, H5.out.2.2.1]; simp; omega, fun x hx => by
            rcases List.mem_append.1 hx with h | h
            · exact H5.out.2.2.2.1 x h
            · obtain rfl := List.mem_singleton.1 h
              have := H5.out.2.2.2.2
              show 1 ≤ ((m + 1 : Nat) : Int) ∧ ((m + 1 : Nat) : Int) ≤ 16
              omega, H5.out.2.1⟩⟩
          case measure => first | omega | (simp; omega)
        · have l8 : ¬ (k : Int) < 8 := by omega
          have H5 := Lib.hid (And.intro hrs (And.intro hlen (And.intro hys hbw)))
          clear hI hy hb hcell hrs hlen hys hbw
          go_wp2_with fail
          go_roundg (n - (k + 1))
          case rel => exact ⟨k + 1, by omega, rfl, by simp, Lib.hid ⟨ys, H5.out.1, by rw [H5.out.2.1]; omega, H5.out.2.2.1, H5.out.2.2.2⟩⟩
          case measure => first | omega | (simp; omega)
      · obtain rfl : k = n := by omega
        obtain ⟨ys, hrs, hlen, hys, hbw⟩ := hI.out
        obtain ⟨B, off, cp', rfl, ht, ho⟩ := hrs.form (by omega) (by omega) hys
        have H5 := Lib.hid (And.intro ht (And.intro ho hbw))
        obtain ⟨m, em⟩ : ∃ m, ys.length = m := ⟨_, rfl⟩
        rw [em] at H5 ⊢
        clear hI hrs hlen hys hbw ht ho em hlt hk hg
        go_wp2_with fail
        go_ret
        exact ⟨_, rfl, _, _, _, _, _, rfl, H5.out.1, H5.out.2.2, H5.out.2.1⟩
end Go.Proofs.Ytjmdgmlpecjolaa
