/- slices.Compact of rising numbers. -/
import Derived.Test.YtbjegfkjibfadaaSf
import Derived.Lib.SliceRun
set_option linter.unusedVariables false
set_option linter.unusedSimpArgs false
namespace Go.Proofs.Ytbjegfkjibfadaa
open Go.RowKit
set_option linter.unusedVariables false
set_option linter.unusedSimpArgs false
section
variable {w wr w' : World} {g o n m k j y : Nat} {f fr : Nat → Int}
theorem AR.cut (h : AR w g o n f) (hm : m ≤ n) : AR w g o m f := by
  obtain ⟨cur, h1, h2, h3⟩ := h
  exact ⟨cur, h1, by omega, fun k hk => h3 k (by omega)⟩
theorem AR.out (h : AR w g o n f) {x : Nat} (hx : o + n ≤ x) (v : Value) : AR (w.setCell ⟨g, x, none⟩ v) g o n f := by
  obtain ⟨cur, h1, h2, h3⟩ := h
  refine ⟨_, heap_setCell_same w g x cur 24 v h1, by simpa using h2, fun k hk => ?_⟩
  rw [Array.getElem?_setIfInBounds_ne (by omega)]
  exact h3 k hk
theorem AR.outs : ∀ (vs : List Value) {x : Nat} {w : World}, AR w g o n f → o + n ≤ x → AR (w.setCells g x vs) g o n f
  | [], _, _, h, _ => h
  | v :: r, x, w, h, hx => AR.outs r (h.out hx v) (by omega)
theorem turn_cells (g : Nat) : ∀ (vs : List Value) (x : Nat) (w : World), Turn [g] w (w.setCells g x vs)
  | [], _, w => Turn.refl _ w
  | v :: r, x, w => (Turn.set w g x v).next (turn_cells g r (x + 1) _)
def updN (f : Nat → Int) (k : Nat) (v : Int) : Nat → Int := fun x => if x = k then v else f x
theorem updN_s (f : Nat → Int) (k : Nat) (v : Int) : updN f k v k = v := by unfold updN; rw [if_pos rfl]
theorem updN_o (f : Nat → Int) {k x : Nat} (v : Int) (h : x ≠ k) : updN f k v x = f x := by unfold updN; rw [if_neg h]
theorem AR.put (h : AR w g o n f) (hk : k < n) (v : Int) : AR (w.setCell ⟨g, o + k, none⟩ (.int .u64 v)) g o n (updN f k v) := by
  obtain ⟨cur, h1, h2, h3⟩ := h
  refine ⟨_, heap_setCell_same w g (o + k) cur 24 _ h1, by simpa using h2, fun x hx => ?_⟩
  by_cases e : x = k
  · subst e
    rw [Array.getElem?_setIfInBounds_self_of_lt (by omega), updN_s]
  · rw [Array.getElem?_setIfInBounds_ne (by omega), updN_o f v e]
    exact h3 x hx
/-- f' has what f has, each once. -/
structure Cmp (n : Nat) (f : Nat → Int) (m : Nat) (fr : Nat → Int) : Prop where
  rise : ∀ i1 i2, i1 < i2 → i2 < m → fr i1 < fr i2
  back : ∀ x, x < m → ∃ y, y < n ∧ fr x = f y
  forth : ∀ y, y < n → ∃ x, x < m ∧ f y = fr x
/-- The first j have been looked at; k of them stay. -/
structure CS (w : World) (g o n : Nat) (f : Nat → Int) (k j : Nat) (fr : Nat → Int) (wr : World) : Prop where
  t : Turn [g] w wr
  ar : AR wr g o n fr
  far : ∀ x, j ≤ x + 1 → x < n → fr x = f x
  cm : Cmp j f k fr
  last : ∀ z y, z + 1 = k → y + 1 = j → fr z = f y
  k1 : 1 ≤ k
  kj : k ≤ j
  jn : j ≤ n
theorem CS.start (h : AR w g o n f) (hn : 1 ≤ n) : CS w g o n f 1 1 f w :=
  ⟨Turn.refl _ _, h, fun _ _ _ => rfl, ⟨fun i1 i2 h1 h2 => by omega, fun x hx => ⟨x, hx, rfl⟩, fun y hy => ⟨y, hy, rfl⟩⟩, fun z y h1 h2 => by rw [show z = y by omega], Nat.le_refl _, Nat.le_refl _, hn⟩
theorem CS.drewN (h : CS w g o n f k j fr wr) (q : Nat) : CS w g o n f k j fr (wr.drewN q) := ⟨h.t.drewN q, h.ar.drewN q, h.far, h.cm, h.last, h.k1, h.kj, h.jn⟩
theorem CS.skip (h : CS w g o n f k j fr wr) (hy : y + 1 = j) (hj : j < n) (he : f j = f y) : CS w g o n f k (j + 1) fr wr :=
  ⟨h.t, h.ar, fun x h1 h2 => h.far x (by omega) h2, ⟨h.cm.rise, fun x hx => by
    obtain ⟨z, h1, h2⟩ := h.cm.back x hx
    exact ⟨z, by omega, h2⟩, fun z hz => by
    by_cases e : z = j
    · rw [e, he]; exact h.cm.forth y (by omega)
    · exact h.cm.forth z (by omega)⟩, fun z y' h1 h2 => by
    have : y' = j := by omega
    rw [this, he]; exact h.last z y h1 hy, h.k1, by have := h.kj; omega, hj⟩
theorem CS.go (h : CS w g o n f j j fr wr) (hs : Srt 0 n f) (hy : y + 1 = j) (hj : j < n) (he : f j ≠ f y) : CS w g o n f (j + 1) (j + 1) fr wr := by
  have hfj := h.far j (by omega) hj
  refine ⟨h.t, h.ar, fun x h1 h2 => h.far x (by omega) h2, ⟨fun i1 i2 h1 h2 => ?_, fun x hx => ?_, fun z hz => ?_⟩, fun z y' h1 h2 => by rw [show z = j by omega, show y' = j by omega]; exact hfj, by omega, Nat.le_refl _, hj⟩
  · by_cases e : i2 = j
    · have hl := h.last y y hy hy
      have hle := hs y j (by omega) (by omega) hj
      rw [e, hfj]
      by_cases e1 : i1 = y
      · rw [e1, hl]; omega
      · have := h.cm.rise i1 y (by omega) (by omega)
        rw [hl] at this; omega
    · exact h.cm.rise i1 i2 h1 (by omega)
  · by_cases e : x = j
    · exact ⟨j, by omega, by rw [e]; exact hfj⟩
    · obtain ⟨z, h1, h2⟩ := h.cm.back x (by omega)
      exact ⟨z, by omega, h2⟩
  · by_cases e : z = j
    · exact ⟨j, by omega, by rw [e]; exact hfj.symm⟩
    · obtain ⟨x, h1, h2⟩ := h.cm.forth z (by omega)
      exact ⟨x, by omega, h2⟩
theorem CS.take (h : CS w g o n f k j fr wr) (hs : Srt 0 n f) (hk : k + 1 ≤ j) (hy : y + 1 = j) (hj : j < n) (he : f j ≠ f y) : CS w g o n f (k + 1) (j + 1) (updN fr k (f j)) (wr.setCell ⟨g, o + k, none⟩ (.int .u64 (f j))) := by
  refine ⟨h.t.next (Turn.set _ _ _ _), h.ar.put (by omega) _, fun x h1 h2 => by rw [updN_o fr _ (by omega)]; exact h.far x (by omega) h2, ⟨fun i1 i2 h1 h2 => ?_, fun x hx => ?_, fun z hz => ?_⟩, fun z y' h1 h2 => by rw [show z = k by omega, show y' = j by omega, updN_s], by omega, by omega, hj⟩
  · by_cases e : i2 = k
    · obtain ⟨z, ez⟩ : ∃ z, z + 1 = k := ⟨k - 1, by have := h.k1; omega⟩
      have hl := h.last z y ez hy
      have hle := hs y j (by omega) (by omega) hj
      rw [e, updN_s, updN_o fr _ (by omega)]
      by_cases e1 : i1 = z
      · rw [e1, hl]; omega
      · have := h.cm.rise i1 z (by omega) (by omega)
        rw [hl] at this; omega
    · rw [updN_o fr _ e, updN_o fr _ (by omega)]
      exact h.cm.rise i1 i2 h1 (by omega)
  · by_cases e : x = k
    · exact ⟨j, by omega, by rw [e, updN_s]⟩
    · obtain ⟨z, h1, h2⟩ := h.cm.back x (by omega)
      exact ⟨z, by omega, by rw [updN_o fr _ e]; exact h2⟩
  · by_cases e : z = j
    · exact ⟨k, by omega, by rw [e, updN_s]⟩
    · obtain ⟨x, h1, h2⟩ := h.cm.forth z (by omega)
      exact ⟨x, by omega, by rw [updN_o fr _ (by omega)]; exact h2⟩
end
theorem w_sub1' {x z : Nat} (h : z + 1 = x) (hz : x ≤ 100000) : IntKind.i64.wrap ((x : Int) - 1) = (z : Int) := by rw [IntKind.wrap_i64]; omega
theorem w_add1' {x z : Nat} (h : x + 1 = z) (hz : z ≤ 100000) : IntKind.i64.wrap ((x : Int) + 1) = (z : Int) := by rw [IntKind.wrap_i64]; omega
theorem wpList_clear_by {P : Program} {ops : Array Oper} {rest : List Oper} {o : Oper} {a : Act} {w : World} {Q : Exit → Act → World → Prop} (hgd : o.guard = none) (s : Operand) (sT : TypeId)
    (ho : o.op = .call { callee := .builtin .clear, args := #[s], argTypes := #[sT] }) (y r : Value) (hs : a.eval s = y) (w' : World)
    (hrun : (Builtin.clear_ #[sT] o.type #[y]).run P w = .ok r w') (h : wpList P ops Q rest (a.put o.dst r) w') : wpList P ops Q (o :: rest) a w := by
  refine wpList_plain hgd fun K hK => ?_
  unfold Oper.wp
  simp [execOp, ho, resolve, invoke, builtin, hs, hrun, Result.andThen]
  exact hK _ _ h
theorem zeroU (w : World) : (zeroValue 24).run Try.prog w = .ok (.int .u64 0) w := by kernel_rfl
set_option maxHeartbeats 4000000 in
set_option maxRecDepth 100000 in
theorem compact_any {w : World} {g o n c : Nat} {f : Nat → Int} (h : AR w g o n f) (hs : Srt 0 n f) (hn : 1 ≤ n) (hn2 : n ≤ 1000) (hc : n ≤ c) (hcm : c ≤ maxLen) :
    Calls Try.prog 22 #[.slice (some ⟨g, o, none⟩) n c] w fun e w' => ∃ m : Nat, e = .returned (.slice (some ⟨g, o, none⟩) m c) ∧ m ≤ n ∧ 1 ≤ m ∧ Turn [g] w w' ∧ ∃ fr, AR w' g o m fr ∧ Cmp n f m fr := by
  have H := Lib.hid h
  have HS := Lib.hid hs
  have HN := Lib.hid (And.intro hn (And.intro hn2 (And.intro hc hcm)))
  have H0 := Lib.hid (CS.start h hn)
  by_cases h2 : n < 2
  · have q1 : (n : Int) < 2 := by omega
    have HC := Lib.hid (show Cmp n f n f from ⟨fun i1 i2 k1 k2 => by omega, fun x hx => ⟨x, hx, rfl⟩, fun y hy => ⟨y, hy, rfl⟩⟩)
    clear h hs hn hn2 hc hcm h2
    go_enter Try.func22, Try.ntmps22
    go_wp2_with fail
    go_ret
    exact ⟨n, rfl, Nat.le_refl _, HN.out.1, Turn.refl _ _, f, H.out, HC.out⟩
  · have q1 : ¬ (n : Int) < 2 := by omega
    have HM : Hid (2 ≤ n) := Lib.hid (by omega)
    clear h hs hn hn2 hc hcm h2
    go_enter Try.func22, Try.ntmps22
    go_wp2_with fail
    go_loopg [3] (n + 2) (fun gh v3 wr => ∃ k : Nat, n + 2 - k ≤ gh ∧ v3 = .int .i64 k ∧ Hid (CS w g o n f k k f wr))
    case atStart => exact ⟨1, by omega, rfl, H0⟩
    case round =>
      clear H0
      obtain ⟨k, hg, rfl, hI⟩ := hrel
      have hnn := HN.out
      have k1 := hI.out.k1
      have k2 := hI.out.jn
      by_cases hlt : k < n
      · have l1 : (k : Int) < n := by omega
        obtain ⟨y, ey⟩ : ∃ y, y + 1 = k := ⟨k - 1, by omega⟩
        have q2 : (y : Int) < n := by omega
        have q3 : (0 : Int) ≤ y := by omega
        have c0 := hI.out.ar.cell (k := k) hlt
        have c1 := hI.out.ar.cell (k := y) (by omega)
        obtain ⟨X, eX⟩ : ∃ X, f k = X := ⟨_, rfl⟩
        obtain ⟨Y, eY⟩ : ∃ Y, f y = Y := ⟨_, rfl⟩
        rw [eX] at c0
        rw [eY] at c1
        have w1 := w_sub1' ey (by omega)
        by_cases hxy : X = Y
        · have q4 : (X == Y) = true := by simp [hxy]
          obtain ⟨j, ej⟩ : ∃ j, k + 1 = j := ⟨_, rfl⟩
          have HK := Lib.hid (show 1 ≤ k ∧ k < n from ⟨k1, hlt⟩)
          have HS1 := Lib.hid (fun q => (show CS w g o n f k j f (World.drewN _ q) from by rw [← ej]; exact (hI.out.drewN q).skip ey hlt (by rw [eX, eY]; exact hxy)))
          obtain ⟨n2, en2⟩ : ∃ n2, n - k = n2 := ⟨_, rfl⟩
          obtain ⟨c2, ec2⟩ : ∃ c2, c - k = c2 := ⟨_, rfl⟩
          have HN2 := Lib.hid (show k + n2 = n from by omega)
          have hck : ¬ c = k := by omega
          have hc' : c ≤ 9223372036854775807 := hnn.2.2.2
          have i4 : (k : Int) ≤ n := by omega
          have i5 : (n : Int) ≤ c := by omega
          clear eX eY hxy k1 k2 ey hg hnn hlt hI
          go_upto_region 6 with fail
          go_quiet (fail)
          rename_i nq
          have HS2 := Lib.hid (HS1.out nq)
          clear c0 c1 HS1
          go_wp2_with fail
          clear en2 ec2 hck i4 q4 q2 q3 w1
          go_loopg [3, 5] (n + 2) (fun gh v3 v5 wr => ∃ (k' t : Nat) (fr : Nat → Int), n + 2 - t ≤ gh ∧ v3 = .int .i64 k' ∧ v5 = .int .i64 t ∧ k' + 1 ≤ k + t ∧ 1 ≤ t ∧ Hid (CS w g o n f k' (k + t) fr wr))
          case atStart => exact ⟨k, 1, f, by omega, rfl, rfl, Nat.le_refl _, Nat.le_refl _, by rw [ej]; exact HS2⟩
          case round =>
            clear HS2 ej
            obtain ⟨k', t, fr, hg, rfl, rfl, hkt, ht1, hJ⟩ := hrel
            have hnn := HN.out
            have hn2 := HN2.out
            have hk0 := HK.out
            have HGG := Lib.hid hg
            by_cases hlt : t < n2
            · have l2 : (t : Int) < n2 := by omega
              obtain ⟨t1, et⟩ : ∃ t1, t1 + 1 = t := ⟨t - 1, by omega⟩
              have q2 : (t1 : Int) < n2 := by omega
              have q3 : (0 : Int) ≤ t1 := by omega
              have q5 : (k' : Int) < n := by omega
              have c0 := hJ.out.ar.cell (k := k + t) (by omega)
              have c1 := hJ.out.ar.cell (k := k + t1) (by omega)
              have c3 := hJ.out.ar.cell (k := k') (by omega)
              have f3 := hJ.out.ar.frozen (o + k')
              rw [hJ.out.far (k + t) (by omega) (by omega), ← Nat.add_assoc] at c0
              rw [hJ.out.far (k + t1) (by omega) (by omega), ← Nat.add_assoc] at c1
              obtain ⟨X, eX⟩ : ∃ X, f (k + t) = X := ⟨_, rfl⟩
              obtain ⟨Y, eY⟩ : ∃ Y, f (k + t1) = Y := ⟨_, rfl⟩
              rw [eX] at c0
              rw [eY] at c1
              have u1 : t ≤ 100000 := by omega
              have u2 : t + 1 ≤ 100000 := by omega
              have u3 : k' + 1 ≤ 100000 := by omega
              have ey : k + t1 + 1 = k + t := by omega
              have hkn : k + t < n := by omega
              have HG := Lib.hid (show t < n ∧ k' + 1 ≤ k + t from ⟨by omega, hkt⟩)
              by_cases hxy : X = Y
              · have q4 : (X != Y) = false := by simp [hxy]
                have HS1 := Lib.hid (fun q => (hJ.out.drewN q).skip ey hkn (by rw [eX, eY]; exact hxy))
                have w1 := w_sub1' et u1
                have w2 := w_add1' rfl u2
                clear eX eY hxy et hnn hn2 hk0 hlt hkt ht1 u1 u2 u3 ey hkn c3 f3 hg
                go_upto_region 11 with fail
                go_quiet (fail)
                rename_i nq
                have HS2 := Lib.hid (HS1.out nq)
                clear c0 c1 HS1
                go_wp2_with fail
                go_roundg (n + 2 - (t + 1))
                case rel => exact ⟨k', t + 1, fr, Nat.le_refl _, rfl, by first | rfl | simp, by have := HG.out; omega, by omega, HS2⟩
                case measure => have := HG.out; have := HGG.out; omega
              · have q4 : (X != Y) = true := by simp [hxy]
                have HS1 := Lib.hid (fun q => (hJ.out.drewN q).take HS.out hkt ey hkn (by rw [eX, eY]; exact hxy))
                rw [eX] at HS1
                have w1 := w_sub1' et u1
                have w2 := w_add1' rfl u2
                have w3 := w_add1' rfl u3
                clear eX eY hxy et hnn hn2 hk0 hlt hkt ht1 u1 u2 u3 ey hkn hg
                go_upto_region 11 with fail
                go_quiet (fail)
                rename_i nq
                have HS2 := Lib.hid (HS1.out nq)
                clear HS1
                go_wp2_with fail
                go_roundg (n + 2 - (t + 1))
                case rel => exact ⟨k' + 1, t + 1, _, Nat.le_refl _, by first | rfl | simp, by first | rfl | simp, by have := HG.out; omega, by omega, HS2⟩
                case measure => have := HG.out; have := HGG.out; omega
            · have l2 : ¬ (t : Int) < n2 := by omega
              have hJ' := hJ.out
              have hjn := hJ'.jn
              have hkn : k + t = n := by omega
              rw [hkn] at hJ'
              have hk1 := hJ'.k1
              obtain ⟨n3, en3⟩ : ∃ n3, n - k' = n3 := ⟨_, rfl⟩
              obtain ⟨c3, ec3⟩ : ∃ c3, c - k' = c3 := ⟨_, rfl⟩
              have hck : ¬ c = k' := by omega
              have i6 : (k' : Int) ≤ n := by omega
              have i7 : (k' : Int) ≤ c := by omega
              have hrun := Lib.run_clear_slice (P := Try.prog) wr 37 24 0 (.int .u64 0) Try.underlying37 zeroU rfl rfl g (o + k') n3 c3 (by omega) (fun j hj => by
                have := hJ'.ar.cell (k := k' + j) (by omega)
                rw [← Nat.add_assoc] at this
                rw [this]; rfl) (fun j hj => hJ'.ar.frozen _)
              obtain ⟨W9, eW9⟩ : ∃ W9, wr.setCells g (o + k') (List.replicate n3 (Value.int .u64 0)) = W9 := ⟨_, rfl⟩
              have HF := Lib.hid (show Turn [g] w W9 ∧ AR W9 g o k' fr from by
                rw [← eW9]
                exact ⟨hJ'.t.next (turn_cells g _ _ _), AR.outs _ (hJ'.ar.cut (by omega)) (Nat.le_refl _)⟩)
              rw [eW9] at hrun
              have HRUN := Lib.hid hrun
              have HE := Lib.hid (show k' ≤ n ∧ 1 ≤ k' ∧ Cmp n f k' fr from ⟨by omega, hk1, hJ'.cm⟩)
              clear hJ' hjn hkn hk1 hrun eW9 hnn hn2 hk0 hlt hkt ht1 hg hJ
              go_wp2_with (refine wpList_clear_by rfl (.tmp 56) 37 rfl _ _ rfl W9 HRUN.out ?_)
              go_wp2_with fail
              go_ret
              exact ⟨k', rfl, HE.out.1, HE.out.2.1, HF.out.1, fr, HF.out.2, HE.out.2.2⟩
        · have q4 : (X == Y) = false := by simp [hxy]
          have HS1 := Lib.hid (fun q => (hI.out.drewN q).go HS.out ey hlt (by rw [eX, eY]; exact hxy))
          have HG := Lib.hid (show k + 1 ≤ n from hlt)
          have w2 := w_add1' rfl (show k + 1 ≤ 100000 by omega)
          clear eX eY hxy k1 k2 ey hnn hlt
          go_upto_region 6 with fail
          go_quiet (fail)
          rename_i nq
          have HS2 := Lib.hid (HS1.out nq)
          clear c0 c1 HS1
          go_wp2_with fail
          go_roundg (n + 2 - (k + 1))
          case rel => exact ⟨k + 1, Nat.le_refl _, by first | rfl | simp, HS2⟩
          case measure => have := HG.out; omega
      · have l1 : ¬ (k : Int) < n := by omega
        obtain rfl : k = n := by omega
        have hcm := hI.out.cm
        have HD := Lib.hid hcm
        clear hnn k1 k2 hlt hcm
        go_wp2_with fail
        go_ret
        exact ⟨k, rfl, Nat.le_refl _, HN.out.1, hI.out.t, f, hI.out.ar, HD.out⟩
end Go.Proofs.Ytbjegfkjibfadaa
