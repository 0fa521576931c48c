/- Fill. -/
import Derived.Test.YtliljicmkgbfpaaJd
set_option linter.unusedVariables false
set_option linter.unusedSimpArgs false
namespace Pg
variable {os os' os'' : List Nat} {ds ds' ds'' : List (List Nat)} {o : Nat} {ks : List (Nat × Nat)} {nd nd' : Nat → Nat → Nat} {p m : Nat} {mp : Nat → Option (Nat × Bool)}
/-- The tables with those of a page's first levels. -/
def fl (ks : List (Nat × Nat)) (p : Nat) : Nat → List (Nat × Nat)
  | 0 => ks
  | n + 1 => if n = 0 then ks else ins (n, pf p n) (fl ks p n)
theorem fl_4 (ks : List (Nat × Nat)) (p : Nat) : fl ks p 4 = fill ks p := rfl
theorem mem_fl {ks : List (Nat × Nat)} {p : Nat} {j : Nat × Nat} : ∀ n, j ∈ fl ks p n ↔ j ∈ ks ∨ ∃ m, 1 ≤ m ∧ m < n ∧ j = (m, pf p m)
  | 0 => by simp [fl]
  | n + 1 => by
    rw [fl]
    split
    · rename_i h; subst h; simp; intro m h1 h2; omega
    · rename_i h
      rw [mem_ins, mem_fl n]
      constructor
      · rintro (e | e | ⟨m, h1, h2, e⟩)
        · exact .inr ⟨n, by omega, by omega, e⟩
        · exact .inl e
        · exact .inr ⟨m, h1, by omega, e⟩
      · rintro (e | ⟨m, h1, h2, e⟩)
        · exact .inr (.inl e)
        · by_cases hm : m = n
          · subst hm; exact .inl e
          · exact .inr (.inr ⟨m, h1, by omega, e⟩)
theorem Tb.fl_dep (h : Tb os ds o ks nd mp) {p : Nat} (hp : p < 4096) : ∀ n, n ≤ dep ks p → fl ks p n = ks
  | 0, _ => rfl
  | n + 1, hn => by
    rw [fl]
    split
    · rfl
    · have hd := (dep_range ks p).2
      rw [h.fl_dep hp n (by omega)]
      unfold ins
      rw [if_pos ((h.dep_mem hp (by omega)).1 (by omega))]
/-- How far Fill has come. -/
structure FI (os : List Nat) (ds : List (List Nat)) (o : Nat) (ks : List (Nat × Nat)) (nd : Nat → Nat → Nat) (mp : Nat → Option (Nat × Bool)) (p m : Nat) (os' : List Nat) (ds' : List (List Nat)) (nd' : Nat → Nat → Nat) : Prop where
  tb : Tb os' ds' o (fl ks p m) nd' mp
  root : nd' 0 0 = nd 0 0
  oth : Oth o os ds os' ds'
  cnt : os'.count 0 + (m - dep ks p) = os.count 0
theorem FI.start (h : Tb os ds o ks nd mp) {p : Nat} (hp : p < 4096) : FI os ds o ks nd mp p (dep ks p) os ds nd :=
  ⟨by rw [h.fl_dep hp _ (Nat.le_refl _)]; exact h, rfl, Oth.refl _ _ _, by omega⟩
theorem FI.mem (h : FI os ds o ks nd mp p m os' ds' nd') (t : Tb os ds o ks nd mp) (hp : p < 4096) (hm : dep ks p ≤ m) (hm4 : m ≤ 4) {l : Nat} (hl : l < m) : (l, pf p l) ∈ fl ks p m := by
  rw [mem_fl]
  by_cases h0 : l = 0
  · subst h0; rw [pf_0 hp]; exact .inl t.root
  · exact .inr ⟨l, by omega, hl, rfl⟩
theorem FI.new (h : FI os ds o ks nd mp p m os' ds' nd') (t : Tb os ds o ks nd mp) (hp : p < 4096) (hm : dep ks p ≤ m) (hm4 : m < 4) : (m, pf p m) ∉ fl ks p m := by
  rw [mem_fl]
  rintro (e | ⟨l, h1, h2, e⟩)
  · have := (t.dep_mem hp hm4).2 e; omega
  · injection e with e; omega
theorem FI.step (h : FI os ds o ks nd mp p m os' ds' nd') (t : Tb os ds o ks nd mp) (hp : p < 4096) (hm : dep ks p ≤ m) (hm4 : m < 4) {k x : Nat} (hk : k < os'.length) (h0 : os'.getD k 0 = 0) (hx : x < 18446744073709551616) (xt : there x = true) (xf : frame x = k + 1) :
    FI os ds o ks nd mp p (m + 1) (os'.set k o) ((ds'.set k Fr.zeros).set (nd' (m - 1) (pf p (m - 1)) - 1) (lay8 ((ds'.set k Fr.zeros).getD (nd' (m - 1) (pf p (m - 1)) - 1) []) (Go.Proofs.Ytliljicmkgbfpaa.idx p (m - 1)) x)) (fun a b => if a = m ∧ b = pf p m then k + 1 else nd' a b) := by
  have hd1 := (dep_range ks p).1
  have hmem := h.mem t hp hm (by omega) (l := m - 1) (by omega)
  have hnew := h.new t hp hm hm4
  obtain ⟨f1, f2, f3, f4⟩ := h.tb.own _ _ hmem
  have hne : nd' (m - 1) (pf p (m - 1)) - 1 ≠ k := fun e => h.tb.own0 (by rw [← f3, e, h0])
  have hnx : 8 * pf p (m - 1) + Go.Proofs.Ytliljicmkgbfpaa.idx p (m - 1) = pf p m := by have := pf_next (p := p) (l := m - 1) (by omega); rwa [show m - 1 + 1 = m by omega] at this
  have e0 : (ds'.set k Fr.zeros).getD (nd' (m - 1) (pf p (m - 1)) - 1) [] = ds'.getD (nd' (m - 1) (pf p (m - 1)) - 1) [] := by rw [getD_set _ _ _ _ (by rw [h.tb.len]; exact hk), if_neg hne]
  have g := h.tb.grow hmem (by omega) (Go.Proofs.Ytliljicmkgbfpaa.idx_lt p (m - 1)) (by rw [show m - 1 + 1 = m by omega, hnx]; exact hnew) (f := k + 1) (by omega) (by omega) h0 hx xt xf
  rw [show m - 1 + 1 = m by omega, hnx] at g
  rw [e0]
  have efl : fl ks p (m + 1) = (m, pf p m) :: fl ks p m := by rw [fl, if_neg (by omega)]; unfold ins; rw [if_neg hnew]
  refine ⟨by rw [efl]; exact g, ?_, h.oth.trans ((Oth.charge hk h0 h.tb.len Fr.zeros).trans (Oth.write f1 (by simp; rw [h.tb.len]; exact f2) ?_ _)), ?_⟩
  · show (if 0 = m ∧ 0 = pf p m then k + 1 else nd' 0 0) = nd 0 0
    rw [if_neg (by omega)]; exact h.root
  · rw [getD_setN _ _ _ _ hk, if_neg hne]; exact f3
  · have hk' : os'[k] = 0 := by rw [List.getD_eq_getElem?_getD, List.getElem?_eq_getElem hk] at h0; exact h0
    have := h.cnt
    have ho := h.tb.own0
    rw [List.count_set hk, hk']
    have e2 : (o == (0 : Nat)) = false := by simpa using ho
    have hc : 0 < os'.count 0 := List.count_pos_iff.2 (by rw [← hk']; exact List.getElem_mem hk)
    simp only [e2]
    simp
    omega
theorem wy_keep {nd : Nat → Nat → Nat} {p m k : Nat} : wy (fun a b => if a = m ∧ b = pf p m then k else nd a b) p m = wy nd p m := by
  unfold wy
  apply List.map_congr_left
  intro l hl
  rw [List.mem_range] at hl
  dsimp only
  rw [if_neg (by omega)]
/-- The end of Fill. -/
theorem FI.done (h : FI os ds o ks nd mp p 4 os' ds' nd') (t : Tb os ds o ks nd mp) (hp : p < 4096) {f : Nat} {m : Bool} (hf : f ≤ 1000000) :
    Tb os' (ds'.set (nd' 3 (pf p 3) - 1) (lay8 (ds'.getD (nd' 3 (pf p 3) - 1) []) (Go.Proofs.Ytliljicmkgbfpaa.idx p 3) (Go.Proofs.Ytliljicmkgbfpaa.lead f m))) o (fill ks p) nd' (upd mp p f m) ∧ Oth o os ds os' (ds'.set (nd' 3 (pf p 3) - 1) (lay8 (ds'.getD (nd' 3 (pf p 3) - 1) []) (Go.Proofs.Ytliljicmkgbfpaa.idx p 3) (Go.Proofs.Ytliljicmkgbfpaa.lead f m))) := by
  have hd := (dep_range ks p).2
  have hmem := h.mem t hp (by omega) (by omega) (l := 3) (by omega)
  obtain ⟨f1, f2, f3, f4⟩ := h.tb.own _ _ hmem
  have g := h.tb.put hmem (Go.Proofs.Ytliljicmkgbfpaa.idx_lt p 3) (Go.Proofs.Ytliljicmkgbfpaa.lead_lt (m := m) hf)
  have hq3 : 8 * pf p 3 + Go.Proofs.Ytliljicmkgbfpaa.idx p 3 = p := by rw [pf_3]; unfold Go.Proofs.Ytliljicmkgbfpaa.idx; simp; omega
  rw [hq3, Go.Proofs.Ytliljicmkgbfpaa.lead_look] at g
  exact ⟨g, h.oth.trans (Oth.write f1 (by rw [h.tb.len]; exact f2) f3 _)⟩
end Pg
namespace Go.Proofs.Ytliljicmkgbfpaa
open Go.RowKit Pg
set_option linter.unusedVariables false
set_option linter.unusedSimpArgs false
variable {W : World} {T : List Nat} {R : Nat} {os : List Nat} {ds : List (List Nat)} {o : Nat} {ks : List (Nat × Nat)} {nd : Nat → Nat → Nat} {mp : Nat → Option (Nat × Bool)} {w w' : World}
/-- Whatever is of another type is no pool's. -/
theorem St.own (h : St W T R os ds w) {g : Nat} {cs : Array Value} {t : TypeId} {fz : Nat × Nat} (hh : w.heap[g]? = some (.cells cs t fz)) (h1 : t ≠ 56) (h2 : t ≠ 60) : St W (g :: T) R os ds w := by
  obtain ⟨b1, b2, S, ⟨B, cs', rfl, p1, p2, p3⟩, b3⟩ := h
  refine ⟨b1, fun b hb => ?_, _, ⟨B, cs', rfl, p1, p2, p3⟩, fun b hb => ⟨(b3 b hb).1, fun hm => ?_⟩⟩
  · rcases List.mem_cons.1 hb with rfl | hb
    · exact (Array.getElem?_eq_some_iff.1 hh).1
    · exact b2 b hb
  · rcases List.mem_cons.1 hm with e | hm
    · subst e
      rcases List.mem_cons.1 hb with e | hb
      · subst e; rw [p1] at hh; injection hh with hh; injection hh with _ hh; exact h1 hh.symm
      · obtain rfl := List.mem_singleton.1 hb; rw [p2] at hh; injection hh with hh; injection hh with _ hh; exact h2 hh.symm
    · exact (b3 b hb).2 hm
theorem St.turn1 (h : St W T R os ds w) {g : Nat} (hg : g ∈ T) (hW : W.heap.size ≤ g) (hb : Turn [g] w w') : St W T R os ds w' := by
  obtain ⟨h1, h2, S, h3, h4⟩ := h
  refine ⟨h1.trans (hb.below h1.size (by simpa using hW)), fun b hm => Nat.lt_of_lt_of_le (h2 b hm) hb.size, S, h3.keep fun b hm => hb.block b (h3.lt b hm) (fun e => ?_), h4⟩
  obtain rfl := List.mem_singleton.1 e
  exact (h4 _ hm).2 hg
theorem Turn.of_grown {g : Nat} (h : w.grownBy w' (some g)) : Turn [g] w w' := ⟨h.os, h.tape, h.output, h.size, fun k hk hn => h.block k hk (fun e => hn (by cases e; simp))⟩
theorem NI.same {X n n' cap g : Nat} {L : List Nat} (h : NI X w L n (.slice (some ⟨g, 0, none⟩) n' cap)) (hk : w'.heap[g]? = w.heap[g]?) : NI X w' L n (.slice (some ⟨g, 0, none⟩) n' cap) := by
  obtain ⟨hl, h1, h2⟩ := h
  refine ⟨hl, h1, ?_⟩
  rcases h2 with ⟨e, _⟩ | ⟨g', cap', cur, e, hg, hh, hr⟩
  · cases e
  · injection e with e1 e2 e3
    injection e1 with e1
    injection e1 with e1
    subst e1
    exact .inr ⟨g, cap', cur, by rw [e2, e3], hg, by rw [hk]; exact hh, hr⟩
theorem NI.block {X n n' cap g : Nat} {L : List Nat} (h : NI X w L n (.slice (some ⟨g, 0, none⟩) n' cap)) : ∃ cur, w.heap[g]? = some (.cells cur 3 (0, 0)) := by
  obtain ⟨hl, h1, h2⟩ := h
  rcases h2 with ⟨e, _⟩ | ⟨g', cap', cur, e, hg, hh, hr⟩
  · cases e
  · injection e with e1 e2 e3
    injection e1 with e1
    injection e1 with e1
    subst e1
    exact ⟨cur, hh⟩
/-- What a page that is mapped leaves. -/
def Filled (W : World) (T : List Nat) (R : Nat) (os : List Nat) (ds : List (List Nat)) (o : Nat) (ks : List (Nat × Nat)) (nd : Nat → Nat → Nat) (mp : Nat → Option (Nat × Bool)) (p f : Nat) (m : Bool) (need : Nat) (w w' : World) : Prop :=
  ∃ os' ds' nd', St W T R os' ds' w' ∧ Tb os' ds' o (fill ks p) nd' (upd mp p f m) ∧ nd' 0 0 = nd 0 0 ∧ Oth o os ds os' ds' ∧ os'.count 0 + need = os.count 0 ∧ Same T w w'
set_option maxRecDepth 100000 in
set_option maxHeartbeats 4000000 in
theorem fill_st (h : St W T R os ds w) (t : Tb os ds o ks nd mp) (r page frame most : Int) (ow : Int) (m : Bool) (hr : ((nd 0 0 : Nat) : Int) = r) (p f need : Nat) (hp : (p : Int) = page) (p1 : p < 4096) (hf : (f : Int) = frame) (f1 : 1 ≤ f) (f2 : f ≤ 1000000) (ho : (o : Int) = ow) (hn : (fill ks p).length = ks.length + need) (h1 : (need : Int) ≤ most) (h2 : most ≤ 1000000) (h3 : need ≤ os.count 0) :
    Calls Try.prog 12 #[.pointer (some ⟨R, 0, none⟩), .int .i64 r, .int .i64 page, .int .i64 frame, .bool m, .int .u64 ow, .int .i64 most] w fun e w' => e = .returned (.tuple #[.int .i64 (need : Nat), .bool true]) ∧ Filled W T R os ds o ks nd mp p f m need w w' := by
  subst hp hf ho
  have hdr := dep_range ks p
  have hnd : need = 4 - dep ks p := by have := t.dep_fill p; omega
  have Y := Lib.hid (way_st h t r hr p p1)
  have HH := Lib.hid h
  have HT := Lib.hid t
  have olt : o < 18446744073709551616 := by
    obtain ⟨g1, g2, g3, _⟩ := t.own 0 0 t.root
    refine h.len.2.2.2.1 o (List.mem_iff_getElem?.2 ⟨nd 0 0 - 1, ?_⟩)
    rw [List.getD_eq_getElem?_getD, List.getElem?_eq_getElem (by omega)] at g3
    rw [List.getElem?_eq_getElem (by omega)]
    exact congrArg some g3
  have AF := Lib.hid (fun (X : World) (hb : Below w.heap.size w X) => affords_yes (HH.out.below hb) need (o : Int) most h1 h3 (by have := t.own0; omega))
  have FT := Lib.hid (fun (X : World) => fits_yes f X f1 f2)
  obtain ⟨d, ed⟩ : ∃ d, dep ks p = d := ⟨_, rfl⟩
  rw [ed] at Y hnd hdr
  have hsub : (4 : Int) - (d : Int) = (need : Int) := by omega
  have hd0 : ((d : Int) == 0) = false := by simp; omega
  have ED := Lib.hid (And.intro ed (And.intro hdr hnd))
  have H3 := Lib.hid h3
  clear h t ed hdr hnd h1 h2 h3 f1
  go_enter Try.func12, Try.ntmps12
  go_wp2_with fail
  refine Y.out.mono ?_; rintro e w1 ⟨⟨v1, rfl, hN⟩, hb1⟩
  obtain ⟨g, cap, rfl, g1, g2, g3, g4⟩ := hN.at_ (by have := ED.out.2.1; omega)
  have H1 := Lib.hid hb1
  have HN1 := Lib.hid (And.intro hN g1)
  clear hN g4 hb1 Y g1 g2
  go_wp2_with fail
  refine (FT.out _).mono ?_; rintro e w2 ⟨rfl, rfl⟩
  go_wp2_with fail
  refine (AF.out _ H1.out).mono ?_; rintro e w2 ⟨rfl, hb2⟩
  have hN2 := HN1.out.1.below hb2
  have H2 := Lib.hid (And.intro (H1.out.trans (hb2.mono H1.out.size)) (And.intro hN2 HN1.out.2))
  clear hb2 hN2 HN1 H1 AF FT g3 hd0
  go_wp2_with fail
  go_loopw [16] (fun v wr => ∃ (n g cap : Nat) (os' : List Nat) (ds' : List (List Nat)) (nd' : Nat → Nat → Nat), v = .slice (some ⟨g, 0, none⟩) n cap ∧ d ≤ n ∧ n ≤ 4 ∧ w.heap.size ≤ g ∧ FI os ds o ks nd mp p n os' ds' nd' ∧ NI w.heap.size wr (wy nd' p n) n (.slice (some ⟨g, 0, none⟩) n cap) ∧ St W T R os' ds' wr ∧ Same T w wr ∧ w.heap.size ≤ wr.heap.size) (fun v wr => match v with
    | .slice _ n _ => 4 - n
    | _ => 0)
  case atStart =>
    refine ⟨d, g, cap, os, ds, nd, rfl, Nat.le_refl _, ED.out.2.1.2, H2.out.2.2, ?_, H2.out.2.1, HH.out.below H2.out.1, HH.out.same H2.out.1, H2.out.1.size⟩
    have := FI.start HT.out p1
    rw [ED.out.1] at this
    exact this
  case round =>
    clear H2
    obtain ⟨n, g, cap, os', ds', nd', rfl, hdn, hn4, hg, hFI, hNI, hst, hsm, hsz⟩ := hrel
    obtain ⟨g', cap', e1, _, g2, g3, g4⟩ := hNI.at_ (by have := ED.out.2.1; omega)
    obtain ⟨rfl, rfl⟩ : g' = g ∧ cap' = cap := by
      injection e1 with e1 _ e3
      injection e1 with e1
      injection e1 with e1
      exact ⟨e1.symm, e3.symm⟩
    clear e1
    obtain ⟨cur, hcur⟩ := hNI.block
    have hst1 := hst.own hcur (by decide) (by decide)
    have hgT : g' ∉ T := fun hm => by have := HH.out.2.1 g' hm; omega
    have hdn1 : 1 ≤ n := by have := ED.out.2.1; omega
    by_cases hlt : n = 4
    · subst hlt
      have hl4 : ¬ ((4 : Int) < 4) := by omega
      have hm3 := hFI.mem HT.out p1 (by have := ED.out.1; omega) (by omega) (l := 3) (by omega)
      have hc := g4 3 _ (wy_get nd' (by omega))
      have ho3 := tb_own hFI.tb hm3
      have hdone := hFI.done HT.out p1 (m := m) f2
      have hroot := hFI.root
      have hcnt := hFI.cnt
      have hf3 := tb_frame hst hFI.tb hm3
      obtain ⟨f0, ef0⟩ : ∃ f0, nd' 3 (pf p 3) = f0 := ⟨_, rfl⟩
      obtain ⟨i, ei⟩ : ∃ i, idx p 3 = i := ⟨_, rfl⟩
      have hi8 : i < 8 := by rw [← ei]; exact idx_lt p 3
      have IX := Lib.hid (show ∀ X : World, Calls Try.prog 26 #[.int .i64 (p : Int), .int .i64 3] X (fun e w' => e = .returned (.int .i64 ((idx p 3 : Nat) : Int)) ∧ X = w') from fun X => index_any p 3 X p1 (by omega))
      rw [ei] at IX hdone
      rw [ef0] at ho3 hdone hc hf3
      have LD := Lib.hid (fun (X : World) => lead_any f m X f2)
      have hle := lead_lt (m := m) f2
      obtain ⟨x, ex⟩ : ∃ x, lead f m = x := ⟨_, rfl⟩
      rw [ex] at LD hle hdone
      have FN := Lib.hid (fun (X : World) (hs : St W (g' :: T) R os' (ds'.set (f0 - 1) (lay8 (ds'.getD (f0 - 1) []) i x)) X) (hk : Same T wr X) => (show Filled W T R os ds o ks nd mp p f m need w X from
        ⟨os', _, nd', hs.less (by simp_all), hdone.1, hroot, hdone.2, by have := ED.out; omega, hsm.trans hk⟩))
      have hcall := Lib.hid (show Same (g' :: T) wr wr.drew ∧ St W (g' :: T) R os' ds' wr.drew from ⟨Same.refl _ _, hst1.drew⟩)
      have PT := Lib.hid (fun (X : World) (hk : Same (g' :: T) wr X ∧ St W (g' :: T) R os' ds' X) => put_st hk.2 f0 i x ho3 hi8 hle)
      have KS := Lib.hid (fun (X : World) (hk : Same (g' :: T) wr X ∧ St W (g' :: T) R os' ds' X) => (show X.cell? ⟨g', 3, none⟩ = some (.int .i64 (f0 : Int)) from by
        have := hk.1 g' (by simp)
        unfold World.cell? at hc ⊢
        rw [this]; exact hc))
      have KT := Lib.hid (fun (X Z : World) (hk : Same (g' :: T) wr X ∧ St W (g' :: T) R os' ds' X) (hz : Same (g' :: T) X Z) => (show Z.cell? ⟨g', 3, none⟩ = some (.int .i64 (f0 : Int)) from by
        have := (hz g' (by simp)).trans (hk.1 g' (by simp))
        unfold World.cell? at hc ⊢
        rw [this]; exact hc))
      generalize g' = g at *
      clear hst1 hst hNI hFI hsm g4 hc ho3 hdone hroot hcnt ex ei ef0 hm3 hcur hle
      go_upto_region 9 with fail
      refine wp_region_held_drew (S := fun w' => w'.cell? ⟨g, 3, none⟩ = some (.int .i64 (f0 : Int))) (by kernel_rfl) (KS.out _ hcall.out) (fun hHeld => ?_)
      refine wpAnyH_take (i := 0) (oi := { dst := some 68, op := Op.move (Operand.tmp 0), type := 24, pos := "pages.go:61", after := #[], guard := none }) (v := ?vv2_1) rfl (by kernel_rfl) (by kernel_rfl) (by kernel_rfl) (fun _ _ _ h => h) (Or.inl ⟨by rfl, ?hy2_1⟩) hHeld ?rest2_1
      case hy2_1 => (intro wS hSw; (try dsimp only at hSw); go_simp; try with_reducible rfl)
      simp only [Act.put, List.setIfInBounds_toArray, List.set_cons_zero, List.set_cons_succ]
      refine wpAnyH_take (i := 1) (oi := { dst := some 69, op := Op.move (Operand.tmp 16), type := 44, pos := "pages.go:61", after := #[], guard := none }) (v := ?vv2_2) rfl (by kernel_rfl) (by kernel_rfl) (by kernel_rfl) (fun _ _ _ h => h) (Or.inl ⟨by rfl, ?hy2_2⟩) hHeld ?rest2_2
      case hy2_2 => (intro wS hSw; (try dsimp only at hSw); go_simp; try with_reducible rfl)
      simp only [Act.put, List.setIfInBounds_toArray, List.set_cons_zero, List.set_cons_succ]
      refine wpAnyH_take (i := 2) (oi := { dst := some 70, op := Op.indexAddr 44 (Operand.tmp 69) (Operand.const (Value.int IntKind.i64 3)), type := 0, pos := "pages.go:61", after := #[{ on := 1, ground := Ground.data }], guard := none }) (v := ?vv2_3) rfl (by kernel_rfl) (by kernel_rfl) (by kernel_rfl) (fun _ _ _ h => h) (Or.inl ⟨by rfl, ?hy2_3⟩) hHeld ?rest2_3
      case hy2_3 => (intro wS hSw; (try dsimp only at hSw); go_simp; try with_reducible rfl)
      simp only [Act.put, List.setIfInBounds_toArray, List.set_cons_zero, List.set_cons_succ]
      refine wpAnyH_take (i := 3) (oi := { dst := some 71, op := Op.load 3 (Operand.tmp 70), type := 3, pos := "pages.go:61", after := #[{ on := 2, ground := Ground.data }], guard := none }) (v := ?vv2_4) rfl (by kernel_rfl) (by kernel_rfl) (by kernel_rfl) (fun _ _ _ h => h) (Or.inl ⟨by rfl, ?hy2_4⟩) hHeld ?rest2_4
      case hy2_4 => (intro wS hSw; (try dsimp only at hSw); go_simp; try with_reducible rfl)
      simp only [Act.put, List.setIfInBounds_toArray, List.set_cons_zero, List.set_cons_succ]
      refine wpAnyH_take (i := 4) (oi := { dst := some 72, op := Op.move (Operand.tmp 2), type := 3, pos := "pages.go:61", after := #[], guard := none }) (v := ?vv2_5) rfl (by kernel_rfl) (by kernel_rfl) (by kernel_rfl) (fun _ _ _ h => h) (Or.inl ⟨by rfl, ?hy2_5⟩) hHeld ?rest2_5
      case hy2_5 => (intro wS hSw; (try dsimp only at hSw); go_simp; try with_reducible rfl)
      simp only [Act.put, List.setIfInBounds_toArray, List.set_cons_zero, List.set_cons_succ]
      refine wpAnyH_take (i := 7) (oi := { dst := some 75, op := Op.move (Operand.tmp 3), type := 3, pos := "pages.go:61", after := #[], guard := none }) (v := ?vv2_6) rfl (by kernel_rfl) (by kernel_rfl) (by kernel_rfl) (fun _ _ _ h => h) (Or.inl ⟨by rfl, ?hy2_6⟩) hHeld ?rest2_6
      case hy2_6 => (intro wS hSw; (try dsimp only at hSw); go_simp; try with_reducible rfl)
      simp only [Act.put, List.setIfInBounds_toArray, List.set_cons_zero, List.set_cons_succ]
      refine wpAnyH_take (i := 8) (oi := { dst := some 76, op := Op.move (Operand.tmp 4), type := 4, pos := "pages.go:61", after := #[], guard := none }) (v := ?vv2_7) rfl (by kernel_rfl) (by kernel_rfl) (by kernel_rfl) (fun _ _ _ h => h) (Or.inl ⟨by rfl, ?hy2_7⟩) hHeld ?rest2_7
      case hy2_7 => (intro wS hSw; (try dsimp only at hSw); go_simp; try with_reducible rfl)
      simp only [Act.put, List.setIfInBounds_toArray, List.set_cons_zero, List.set_cons_succ]
      refine wpAnyH_ready (rs := [5]) (by kernel_rfl) (by simp) ?_
      refine AllReadyH.cons (o := { dst := some 73, op := Op.call { callee := Callee.value (Operand.func 26), args := #[Operand.tmp 72, Operand.const (Value.int IntKind.i64 3)], argTypes := #[3, 3] }, type := 3, pos := "pages.go:61", after := #[{ on := 4, ground := Ground.data }], guard := none }) rfl (fun K hK => ?_) AllReadyH.nil
      go_simp
      with_reducible refine (IX.out _).mono ?_
      rintro e w3 ⟨rfl, rfl⟩
      skip
      clear hHeld
      try go_wp2_with fail
      refine hK.out _ _ (by first | exact HS3.out | exact KS.out _ hcall.out) (fun hHeld => ?_)
      clear hK K
      try simp only [Act.put, List.setIfInBounds_toArray, List.set_cons_zero, List.set_cons_succ]
      refine wpAnyH_take (i := 6) (oi := { dst := some 74, op := Op.build 67 #[(0, Operand.tmp 71), (1, Operand.tmp 73)], type := 67, pos := "pages.go:61", after := #[{ on := 3, ground := Ground.data }, { on := 5, ground := Ground.data }], guard := none }) (v := ?vv2_8) rfl (by kernel_rfl) (by kernel_rfl) (by kernel_rfl) (fun _ _ _ h => h) (Or.inl ⟨by rfl, ?hy2_8⟩) hHeld ?rest2_8
      case hy2_8 => (intro wS hSw; (try dsimp only at hSw); go_simp; try with_reducible rfl)
      simp only [Act.put, List.setIfInBounds_toArray, List.set_cons_zero, List.set_cons_succ]
      refine wpAnyH_ready (rs := [9]) (by kernel_rfl) (by simp) ?_
      refine AllReadyH.cons (o := { dst := some 77, op := Op.call { callee := Callee.value (Operand.func 27), args := #[Operand.tmp 75, Operand.tmp 76], argTypes := #[3, 4] }, type := 68, pos := "pages.go:61", after := #[{ on := 7, ground := Ground.data }, { on := 8, ground := Ground.data }, { on := 5, ground := Ground.chain }], guard := none }) rfl (fun K hK => ?_) AllReadyH.nil
      go_simp
      with_reducible refine (LD.out _).mono ?_
      rintro e w3 ⟨rfl, rfl⟩
      skip
      clear hHeld
      try go_wp2_with fail
      refine hK.out _ _ (by first | exact HS3.out | exact KS.out _ hcall.out) (fun hHeld => ?_)
      clear hK K
      try simp only [Act.put, List.setIfInBounds_toArray, List.set_cons_zero, List.set_cons_succ]
      refine wpAnyH_ready (rs := [10]) (by kernel_rfl) (by simp) ?_
      refine AllReadyH.cons (o := { dst := some 78, op := Op.call { callee := Callee.value (Operand.func 25), args := #[Operand.tmp 68, Operand.tmp 74, Operand.tmp 77], argTypes := #[24, 67, 68] }, type := 0, pos := "pages.go:61", after := #[{ on := 0, ground := Ground.data }, { on := 6, ground := Ground.data }, { on := 9, ground := Ground.data }, { on := 9, ground := Ground.chain }], guard := none }) rfl (fun K hK => ?_) AllReadyH.nil
      go_simp
      with_reducible refine (PT.out _ hcall.out).mono ?_
      rintro e w3 ⟨rfl, hst3, hsm3⟩
      have H3 := Lib.hid (And.intro hst3 hsm3)
      have HS3 := Lib.hid (KT.out _ _ hcall.out hsm3)
      clear hst3 hsm3
      clear hHeld
      try go_wp2_with fail
      refine hK.out _ _ (by first | exact HS3.out | exact KS.out _ hcall.out) (fun hHeld => ?_)
      clear hK K
      try simp only [Act.put, List.setIfInBounds_toArray, List.set_cons_zero, List.set_cons_succ]
      refine wpAnyH_done (by kernel_rfl) ?_ _
      try go_wp2_with fail
      go_ret2
      exact ⟨rfl, FN.out _ H3.out.1 (fun b hb => (H3.out.2 b (List.mem_cons_of_mem _ hb)).trans (hcall.out.1 b (List.mem_cons_of_mem _ hb)))⟩
    · have hl4 : (n : Int) < 4 := by omega
      have hn3 : n < 4 := by omega
      have hdn' : dep ks p ≤ n := by have := ED.out.1; omega
      have hm1 := hFI.mem HT.out p1 hdn' (by omega) (l := n - 1) (by omega)
      have hc := g4 (n - 1) _ (wy_get nd' (by omega))
      have hcnt := hFI.cnt
      obtain ⟨k, hk, hk0, eal, eald⟩ := alloc_is (ds := ds') HT.out.own0 (os := os') (by have := ED.out; have := H3.out; omega)
      have hk4 : k + 1 ≤ 1000000 := by have := hst.len.2.2.1; omega
      have hle := lead_lt (m := false) hk4
      have hstep := hFI.step HT.out p1 hdn' hn3 hk hk0 hle (lead_there _ _) (lead_frame _ _)
      have hm1' := hstep.mem HT.out p1 (by omega) (by omega) (l := n - 1) (by omega)
      have ho3 := tb_own hstep.tb hm1'
      have hne1 : ¬ (n - 1 = n ∧ pf p (n - 1) = pf p n) := by omega
      rw [if_neg hne1] at ho3
      have hf3 := tb_frame hst hFI.tb hm1
      have hwy := wy_keep (nd := nd') (p := p) (m := n) (k := k + 1)
      obtain ⟨f0, ef0⟩ : ∃ f0, nd' (n - 1) (pf p (n - 1)) = f0 := ⟨_, rfl⟩
      obtain ⟨i, ei⟩ : ∃ i, idx p (n - 1) = i := ⟨_, rfl⟩
      have hi8 : i < 8 := by rw [← ei]; exact idx_lt p (n - 1)
      obtain ⟨q, hqn⟩ : ∃ q, n = q + 1 := ⟨n - 1, by omega⟩
      have hq1 : n - 1 = q := by omega
      rw [hq1] at ei ef0 hc hstep ho3
      have hq : (n : Int) - 1 = (q : Int) := by omega
      have hqw : IntKind.i64.wrap ((n : Int) - 1) = (q : Int) := by rw [IntKind.wrap_i64]; omega
      have hqn' : (q : Int) < (n : Int) := by omega
      have IX := Lib.hid (fun (X : World) => index_any p q X p1 (by omega))
      rw [ei] at IX hstep
      rw [ef0] at ho3 hc
      rw [hq1, ef0] at hf3
      rw [ef0] at hstep
      obtain ⟨kk, ekk⟩ : ∃ kk, k + 1 = kk := ⟨_, rfl⟩
      rw [ekk] at hk4 hle hstep eal hwy
      have LD := Lib.hid (fun (X : World) => lead_any kk false X hk4)
      obtain ⟨x, ex⟩ : ∃ x, lead kk false = x := ⟨_, rfl⟩
      rw [ex] at LD hle hstep
      have AL := Lib.hid (alloc_st o hst1 olt kk (kk : Int) (os'.set k o) eal rfl)
      rw [eald] at AL
      have HSTEP := Lib.hid hstep
      have HX := Lib.hid (And.intro hNI (And.intro hsm (And.intro hdn (And.intro hqn hwy))))
      obtain ⟨i0, hi, hz0, hz1, hz2⟩ := info_parts infoI
      have I0 := Lib.hid (And.intro hi (And.intro hz0 (And.intro hz1 hz2)))
      generalize g' = g at *
      have PT := Lib.hid (fun (w2 X : World) (hk : Same (g :: T) w2 X ∧ St W (g :: T) R (os'.set k o) (ds'.set k Fr.zeros) X) => put_st hk.2 f0 i x ho3 hi8 hle)
      have KC := Lib.hid (fun (X : World) (hk : Same (g :: T) wr X) => (show X.cell? ⟨g, q, none⟩ = some (.int .i64 (f0 : Int)) from by
        have := hk g (by simp)
        unfold World.cell? at hc ⊢
        rw [this]; exact hc))
      clear hst1 hst hNI hFI hsm g4 hc ho3 hcnt ex ei ef0 hm1 hm1' hcur hle hstep hk hk0 eal eald hne1 hwy ekk hdn' hdn hn4 hlt hdn1 hq1 hqn hk4 hi hz0 hz1 hz2
      go_wp2_with fail
      refine AL.out.mono ?_; rintro e w2 ⟨rfl, hst2, hsm2⟩
      have hcall := Lib.hid (show Same (g :: T) w2 w2.drew ∧ St W (g :: T) R (os'.set k o) (ds'.set k Fr.zeros) w2.drew from ⟨Same.refl _ _, hst2.drew⟩)
      have KS := Lib.hid (fun (X : World) (hk : Same (g :: T) w2 X ∧ St W (g :: T) R (os'.set k o) (ds'.set k Fr.zeros) X) => KC.out X (hsm2.trans hk.1))
      have KT := Lib.hid (fun (X Z : World) (hk : Same (g :: T) w2 X ∧ St W (g :: T) R (os'.set k o) (ds'.set k Fr.zeros) X) (hz : Same (g :: T) X Z) => KC.out Z (hsm2.trans (hk.1.trans hz)))
      have H4 := Lib.hid hsm2
      clear hst2 hsm2 AL KC
      go_upto_region 7 with fail
      go_cut [52, 53, 54, 55, 56, 57, 58, 59, 60, 61, 62, 63] (fun s52 s53 s54 s55 s56 s57 s58 s59 s60 s61 s62 s63 wx => Hid (St W (g :: T) R (os'.set k o) ((ds'.set k Fr.zeros).set (f0 - 1) (lay8 ((ds'.set k Fr.zeros).getD (f0 - 1) []) i x)) wx ∧ Same (g :: T) w2 wx))
      case first =>
        refine wp_region_held_drew (S := fun w' => w'.cell? ⟨g, q, none⟩ = some (.int .i64 (f0 : Int))) (by kernel_rfl) (KS.out _ hcall.out) (fun hHeld => ?_)
        refine wpAnyH_take (i := 0) (oi := { dst := some 52, op := Op.move (Operand.tmp 0), type := 24, pos := "pages.go:58", after := #[], guard := none }) (v := ?vv1_1) rfl (by kernel_rfl) (by kernel_rfl) (by kernel_rfl) (fun _ _ _ h => h) (Or.inl ⟨by rfl, ?hy1_1⟩) hHeld ?rest1_1
        case hy1_1 => (intro wS hSw; (try dsimp only at hSw); go_simp; try with_reducible rfl)
        simp only [Act.put, List.setIfInBounds_toArray, List.set_cons_zero, List.set_cons_succ]
        refine wpAnyH_take (i := 1) (oi := { dst := some 53, op := Op.move (Operand.tmp 16), type := 44, pos := "pages.go:58", after := #[], guard := none }) (v := ?vv1_2) rfl (by kernel_rfl) (by kernel_rfl) (by kernel_rfl) (fun _ _ _ h => h) (Or.inl ⟨by rfl, ?hy1_2⟩) hHeld ?rest1_2
        case hy1_2 => (intro wS hSw; (try dsimp only at hSw); go_simp; try with_reducible rfl)
        simp only [Act.put, List.setIfInBounds_toArray, List.set_cons_zero, List.set_cons_succ]
        refine wpAnyH_take (i := 2) (oi := { dst := some 54, op := Op.move (Operand.tmp 19), type := 3, pos := "pages.go:58", after := #[], guard := none }) (v := ?vv1_3) rfl (by kernel_rfl) (by kernel_rfl) (by kernel_rfl) (fun _ _ _ h => h) (Or.inl ⟨by rfl, ?hy1_3⟩) hHeld ?rest1_3
        case hy1_3 => (intro wS hSw; (try dsimp only at hSw); go_simp; try with_reducible rfl)
        simp only [Act.put, List.setIfInBounds_toArray, List.set_cons_zero, List.set_cons_succ]
        refine wpAnyH_take (i := 3) (oi := { dst := some 55, op := Op.indexAddr 44 (Operand.tmp 53) (Operand.tmp 54), type := 0, pos := "pages.go:58", after := #[{ on := 1, ground := Ground.data }, { on := 2, ground := Ground.data }], guard := none }) (v := ?vv1_4) rfl (by kernel_rfl) (by kernel_rfl) (by kernel_rfl) (fun _ _ _ h => h) (Or.inl ⟨by rfl, ?hy1_4⟩) hHeld ?rest1_4
        case hy1_4 => (intro wS hSw; (try dsimp only at hSw); go_simp; try with_reducible rfl)
        simp only [Act.put, List.setIfInBounds_toArray, List.set_cons_zero, List.set_cons_succ]
        refine wpAnyH_take (i := 4) (oi := { dst := some 56, op := Op.load 3 (Operand.tmp 55), type := 3, pos := "pages.go:58", after := #[{ on := 3, ground := Ground.data }], guard := none }) (v := ?vv1_5) rfl (by kernel_rfl) (by kernel_rfl) (by kernel_rfl) (fun _ _ _ h => h) (Or.inl ⟨by rfl, ?hy1_5⟩) hHeld ?rest1_5
        case hy1_5 => (intro wS hSw; (try dsimp only at hSw); go_simp; try with_reducible rfl)
        simp only [Act.put, List.setIfInBounds_toArray, List.set_cons_zero, List.set_cons_succ]
        refine wpAnyH_take (i := 5) (oi := { dst := some 57, op := Op.move (Operand.tmp 2), type := 3, pos := "pages.go:58", after := #[], guard := none }) (v := ?vv1_6) rfl (by kernel_rfl) (by kernel_rfl) (by kernel_rfl) (fun _ _ _ h => h) (Or.inl ⟨by rfl, ?hy1_6⟩) hHeld ?rest1_6
        case hy1_6 => (intro wS hSw; (try dsimp only at hSw); go_simp; try with_reducible rfl)
        simp only [Act.put, List.setIfInBounds_toArray, List.set_cons_zero, List.set_cons_succ]
        refine wpAnyH_take (i := 6) (oi := { dst := some 58, op := Op.move (Operand.tmp 19), type := 3, pos := "pages.go:58", after := #[], guard := none }) (v := ?vv1_7) rfl (by kernel_rfl) (by kernel_rfl) (by kernel_rfl) (fun _ _ _ h => h) (Or.inl ⟨by rfl, ?hy1_7⟩) hHeld ?rest1_7
        case hy1_7 => (intro wS hSw; (try dsimp only at hSw); go_simp; try with_reducible rfl)
        simp only [Act.put, List.setIfInBounds_toArray, List.set_cons_zero, List.set_cons_succ]
        refine wpAnyH_take (i := 9) (oi := { dst := some 61, op := Op.move (Operand.tmp 18), type := 3, pos := "pages.go:58", after := #[], guard := none }) (v := ?vv1_8) rfl (by kernel_rfl) (by kernel_rfl) (by kernel_rfl) (fun _ _ _ h => h) (Or.inl ⟨by rfl, ?hy1_8⟩) hHeld ?rest1_8
        case hy1_8 => (intro wS hSw; (try dsimp only at hSw); go_simp; try with_reducible rfl)
        simp only [Act.put, List.setIfInBounds_toArray, List.set_cons_zero, List.set_cons_succ]
        refine wpAnyH_ready (rs := [7]) (by kernel_rfl) (by simp) ?_
        refine AllReadyH.cons (o := { dst := some 59, op := Op.call { callee := Callee.value (Operand.func 26), args := #[Operand.tmp 57, Operand.tmp 58], argTypes := #[3, 3] }, type := 3, pos := "pages.go:58", after := #[{ on := 5, ground := Ground.data }, { on := 6, ground := Ground.data }], guard := none }) rfl (fun K hK => ?_) AllReadyH.nil
        go_simp
        with_reducible refine (IX.out _).mono ?_
        rintro e w3 ⟨rfl, rfl⟩
        skip
        clear hHeld
        try go_wp2_with fail
        refine hK.out _ _ (by first | exact HS3.out | exact KS.out _ hcall.out) (fun hHeld => ?_)
        clear hK K
        try simp only [Act.put, List.setIfInBounds_toArray, List.set_cons_zero, List.set_cons_succ]
        refine wpAnyH_take (i := 8) (oi := { dst := some 60, op := Op.build 67 #[(0, Operand.tmp 56), (1, Operand.tmp 59)], type := 67, pos := "pages.go:58", after := #[{ on := 4, ground := Ground.data }, { on := 7, ground := Ground.data }], guard := none }) (v := ?vv1_9) rfl (by kernel_rfl) (by kernel_rfl) (by kernel_rfl) (fun _ _ _ h => h) (Or.inl ⟨by rfl, ?hy1_9⟩) hHeld ?rest1_9
        case hy1_9 => (intro wS hSw; (try dsimp only at hSw); go_simp; try with_reducible rfl)
        simp only [Act.put, List.setIfInBounds_toArray, List.set_cons_zero, List.set_cons_succ]
        refine wpAnyH_ready (rs := [10]) (by kernel_rfl) (by simp) ?_
        refine AllReadyH.cons (o := { dst := some 62, op := Op.call { callee := Callee.value (Operand.func 27), args := #[Operand.tmp 61, Operand.const (Value.bool false)], argTypes := #[3, 4] }, type := 68, pos := "pages.go:58", after := #[{ on := 9, ground := Ground.data }, { on := 7, ground := Ground.chain }], guard := none }) rfl (fun K hK => ?_) AllReadyH.nil
        go_simp
        with_reducible refine (LD.out _).mono ?_
        rintro e w3 ⟨rfl, rfl⟩
        skip
        clear hHeld
        try go_wp2_with fail
        refine hK.out _ _ (by first | exact HS3.out | exact KS.out _ hcall.out) (fun hHeld => ?_)
        clear hK K
        try simp only [Act.put, List.setIfInBounds_toArray, List.set_cons_zero, List.set_cons_succ]
        refine wpAnyH_ready (rs := [11]) (by kernel_rfl) (by simp) ?_
        refine AllReadyH.cons (o := { dst := some 63, op := Op.call { callee := Callee.value (Operand.func 25), args := #[Operand.tmp 52, Operand.tmp 60, Operand.tmp 62], argTypes := #[24, 67, 68] }, type := 0, pos := "pages.go:58", after := #[{ on := 0, ground := Ground.data }, { on := 8, ground := Ground.data }, { on := 10, ground := Ground.data }, { on := 10, ground := Ground.chain }], guard := none }) rfl (fun K hK => ?_) AllReadyH.nil
        go_simp
        with_reducible refine (PT.out _ _ hcall.out).mono ?_
        rintro e w3 ⟨rfl, hst3, hsm3⟩
        have H5 := Lib.hid (And.intro hst3 hsm3)
        have HS3 := Lib.hid (KT.out _ _ hcall.out hsm3)
        clear hst3 hsm3
        clear hHeld
        try go_wp2_with fail
        refine hK.out _ _ (by first | exact HS3.out | exact KS.out _ hcall.out) (fun hHeld => ?_)
        clear hK K
        try simp only [Act.put, List.setIfInBounds_toArray, List.set_cons_zero, List.set_cons_succ]
        refine wpAnyH_done (by kernel_rfl) ?_ _
        try go_wp2_with fail
        go_meet
        exact Lib.hid ⟨H5.out.1, fun b hb => (H5.out.2 b hb).trans (hcall.out.1 b hb)⟩
      case rest =>
        have HC := Lib.hid hcut.out
        clear hcut hcall KS KT PT LD IX
        obtain ⟨hi, hz0, hz1, hz2⟩ := I0.out
        have hcg : wc.heap[g]? = wr.heap[g]? := (HC.out.2 g (by simp)).trans (H4.out g (by simp))
        have hNc := HX.out.1.same hcg
        have hrow := hNc.2
        have hwc : w.heap.size ≤ wc.heap.size := by
          obtain ⟨cur, hc⟩ := hNc.block
          have := (Array.getElem?_eq_some_iff.1 hc).1
          omega
        have hgc : g < wc.heap.size := by
          obtain ⟨cur, hc⟩ := hNc.block
          exact (Array.getElem?_eq_some_iff.1 hc).1
        have hn4 : n ≤ 4 := by omega
        clear hn3
        go_wp2_with (at_builtin; refine wpList_append_own _ rfl _ _ 44 rfl w.heap.size 3 i0 (.int .i64 0) 1 8 Try.underlying44 hi hz0 hz1 hz2 rfl (by decide) _ _ _ rfl (hrow.alloc _) ⟨wc.heap.size, 0, none⟩ 1 1 [.int .i64 (kk : Int)] rfl rfl (cell_one_new _ _ _) (by simp [Value.oneCell']) (by unfold maxLen; omega) (by omega) (by simp; omega) ?_; intro v' w4 hown' hgrow _)
        have hs4 : ∀ b, b < wc.heap.size → b ≠ g → w4.heap[b]? = wc.heap[b]? := fun b hb hne => by
          rw [hgrow.block b (by simp; omega) (fun e => hne (by cases e; rfl))]
          exact Below.heap_alloc _ _ _ hb
        have hst4 : St W T R (os'.set k o) ((ds'.set k Fr.zeros).set (f0 - 1) (lay8 ((ds'.set k Fr.zeros).getD (f0 - 1) []) i x)) w4 :=
          ((HC.out.1.below (below_alloc1 wc _)).turn1 (g := g) (by simp) (Nat.le_trans HH.out.b.size hg) (Turn.of_grown hgrow)).less (by simp_all)
        obtain ⟨g', cap', rfl, hg', _⟩ := hown'.form (by omega)
        have hN4 : NI w.heap.size w4 (wy (fun a b => if a = n ∧ b = pf p n then kk else nd' a b) p (n + 1)) (n + 1) (.slice (some ⟨g', 0, none⟩) (n + 1) cap') := by
          refine ⟨wy_len _ _ _, ?_⟩
          rw [wy_succ, HX.out.2.2.2.2, List.map_append, if_pos ⟨rfl, rfl⟩]
          exact hown'
        have hsm4 : Same T w w4 := fun b hb => by
          have hbw := HH.out.2.1 b hb
          have hne : b ≠ g := by omega
          rw [hs4 b (by omega) hne, HC.out.2 b (by simp [hb]), H4.out b (by simp [hb])]
          exact HX.out.2.1 b hb
        have hsz4 : w.heap.size ≤ w4.heap.size := by have := hgrow.size; simp at this; omega
        have HE := Lib.hid (And.intro hN4 (And.intro hst4 (And.intro hsm4 (And.intro hsz4 hg'))))
        clear hN4 hst4 hsm4 hown' hgrow hrow hNc hs4 hi hz0 hz1 hz2 hsz4 hg' hcg
        go_wp2_with fail
        go_roundw
        case rel => exact ⟨n + 1, g', cap', _, _, _, by first | rfl | go_num, by have := HX.out.2.2.1; omega, by omega, HE.out.2.2.2.2, HSTEP.out, HE.out.1, HE.out.2.1, HE.out.2.2.1, HE.out.2.2.2.1⟩
        case measure => show 4 - (n + 1) < 4 - n; omega
end Go.Proofs.Ytliljicmkgbfpaa
