/- config.Decode. -/
import Derived.Test.YtmadldgajjgbmaaGe
import Derived.Test.YtmadldgajjgbmaaDe
set_option linter.unusedVariables false
set_option linter.unusedSimpArgs false
namespace Go.Proofs.Ytmadldgajjgbmaa
open Go.RowKit
set_option linter.unusedVariables false
set_option linter.unusedSimpArgs false
def zeroCA : Array Value := #[.int .i64 0, .int .i64 0, .int .i64 0, .slice none 0 0, .slice none 0 0]
theorem loadC (w : World) (g : Nat) (t : TypeId) (cs : Array Value) (fr : Nat × Nat) (hg : w.heap[g]? = some (.cells cs t fr)) (hs : cs.size = 5) :
    (loadVar 29 ⟨g, 0, none⟩).run Try.prog w = .ok (.agg cs) w := run_loadVar_row w g t 29 cs fr _ hg Try.underlying29 rfl (by rw [hs]; exact sizeC)
theorem results_cfg {fn : Func} {p u : Tmp} (h : fn.results = #[.cell p 29, .tmp u]) (tmps : Array Value) (w : World) (g : Nat) (t : TypeId) (cs : Array Value) (fr : Nat × Nat)
    (hp : tmps.getD p undef = .pointer (some ⟨g, 0, none⟩)) (hg : w.heap[g]? = some (.cells cs t fr)) (hs : cs.size = 5) :
    (results fn tmps).run Try.prog w = .ok (.tuple #[.agg cs, tmps.getD u undef]) w := by
  have hp' : tmps[p]?.getD undef = .pointer (some ⟨g, 0, none⟩) := by simpa using hp
  simp [results, h, hp', asAddr, loadC w g t cs fr hg hs]
theorem CfT.cfr {B : Nat} {w : World} {s : St} {A1 A2 : Option Addr} {c1 c2 : Nat} {ovs : List Ov} (h : CfT B w s A1 c1 A2 c2 ovs) (hs : ∀ c ∈ s.1, c < 256) : CfR w A1 A2 (rCf s).1.xs.length (rCf s).1.os.length (rCf s).1.xs ovs ∧ (rCf s).1.os.length ≤ c2 := by
  have k1 : (rCf s).1.xs.length < 256 := by
    show (rLs rSl (rHd s).2).1.length < 256
    unfold rLs
    rw [rList_len]
    exact (Pk.nx_byte (n := 1) (rHd_kps s hs)).1
  have k2 : (rCf s).1.os.length < 256 := by
    show (rLs rOm (rLs rSl (rHd s).2).2).1.length < 256
    unfold rLs
    rw [rList_len]
    exact (Pk.nx_byte (n := 1) (rLs_kps rSl_kps _ (rHd_kps s hs))).1
  have hl : ovs.length = (rCf s).1.os.length := by rw [← h.m, List.length_map]
  obtain ⟨a1, d1, e1, _, _, r1⟩ := h.x.form
  obtain ⟨a2, d2, e2, hd, _, r2⟩ := h.o.form
  injection e1 with e11 e12 e13
  injection e2 with e21 e22 e23
  subst e11 e21 e23
  exact ⟨⟨⟨rfl, by omega⟩, r1, h.xo, ⟨hl, by omega⟩, r2, fun o ho => (h.rt o ho).rd⟩, by omega⟩
theorem CfT.below {B : Nat} {w w' : World} {s : St} {A1 A2 : Option Addr} {c1 c2 : Nat} {ovs : List Ov} (h : CfT B w s A1 c1 A2 c2 ovs) (hb : Below w.heap.size w w') : CfT B w' s A1 c1 A2 c2 ovs :=
  h.keep fun b cur u _ hc => (hb.block b (Array.getElem?_eq_some_iff.1 hc).1).trans hc
/-- What Decode answers. -/
def DecE (W : World) (bs : List Nat) (e : Ending) (w' : World) : Prop :=
  ((rCf (bs, false)).2 = ([], false) ∧ rightB (rCf (bs, false)).1.co (rCf (bs, false)).1.fr (rCf (bs, false)).1.nm (rCf (bs, false)).1.xs (rCf (bs, false)).1.os = true ∧ ∃ A1 c1 A2 c2 ovs, e = .returned (.tuple #[.agg #[.int .i64 ((rCf (bs, false)).1.co : Int), .int .i64 ((rCf (bs, false)).1.fr : Int), .int .i64 ((rCf (bs, false)).1.nm : Int), .slice A1 (rCf (bs, false)).1.xs.length c1, .slice A2 (rCf (bs, false)).1.os.length c2], .int .i64 0]) ∧ CfR w' A1 A2 (rCf (bs, false)).1.xs.length (rCf (bs, false)).1.os.length (rCf (bs, false)).1.xs ovs ∧ ovs.map Ov.m = (rCf (bs, false)).1.os ∧ (rCf (bs, false)).1.os.length ≤ c2 ∧ Below W.heap.size W w') ∨
  (¬ ((rCf (bs, false)).2 = ([], false) ∧ rightB (rCf (bs, false)).1.co (rCf (bs, false)).1.fr (rCf (bs, false)).1.nm (rCf (bs, false)).1.xs (rCf (bs, false)).1.os = true) ∧ e = .returned (.tuple #[.agg #[.int .i64 0, .int .i64 0, .int .i64 0, .slice none 0 0, .slice none 0 0], .int .i64 10]) ∧ Below W.heap.size W w')
/-- While it is decoded. -/
structure DS (W : World) (Q Z : Nat) (bs : List Nat) (A1 : Option Addr) (c1 : Nat) (A2 : Option Addr) (c2 : Nat) (ovs : List Ov) (w : World) : Prop where
  b : Below W.heap.size W w
  q : w.heap[Q]? = some (Obj.cells zeroCA 29)
  z : w.heap[Z]? = some (Obj.cells #[.int .i64 ((rCf (bs, false)).1.co : Int), .int .i64 ((rCf (bs, false)).1.fr : Int), .int .i64 ((rCf (bs, false)).1.nm : Int), .slice A1 (rCf (bs, false)).1.xs.length c1, .slice A2 (rCf (bs, false)).1.os.length c2] 29)
  t : CfT W.heap.size w (bs, false) A1 c1 A2 c2 ovs
theorem DS.below {W w w' : World} {Q Z : Nat} {bs : List Nat} {A1 A2 : Option Addr} {c1 c2 : Nat} {ovs : List Ov} (h : DS W Q Z bs A1 c1 A2 c2 ovs w) (hb : Below w.heap.size w w') : DS W Q Z bs A1 c1 A2 c2 ovs w' :=
  ⟨h.b.trans (hb.mono h.b.size), (hb.block _ (Array.getElem?_eq_some_iff.1 h.q).1).trans h.q, (hb.block _ (Array.getElem?_eq_some_iff.1 h.z).1).trans h.z, h.t.below hb⟩
set_option maxHeartbeats 8000000 in
set_option maxRecDepth 100000 in
theorem decode_any {W : World} {A : Option Addr} {n c : Nat} {bs : List Nat} (hr : BR W A bs) (hn : bs.length = n) (hm : n ≤ 200000) (hA : A = none → c = 0) (hb : ∀ x ∈ bs, x < 256) : Calls Try.prog 13 #[.slice A n c] W (DecE W bs) := by
  obtain ⟨w0, e0⟩ : ∃ w0, W.alloc (Obj.cells #[.int .i64 0, .int .i64 0, .int .i64 0, .slice none 0 0, .slice none 0 0] 29) = w0 := ⟨_, rfl⟩
  obtain ⟨Q, eQ⟩ : ∃ Q, W.heap.size = Q := ⟨_, rfl⟩
  have hb0 : Below W.heap.size W w0 := by rw [← e0]; exact below_alloc1 W _
  have hQ0 : w0.heap[Q]? = some (Obj.cells zeroCA 29) := by rw [← e0, ← eQ]; exact heap_alloc_new W _
  have CN := Lib.hid (new_any A c n bs w0 hn (by omega) (hr.below hb0) hA hb)
  have H0 := Lib.hid (And.intro hb0 (And.intro hQ0 (And.intro hb (show W.heap.size ≤ Q by omega))))
  clear hr hn hm hA hb hb0 hQ0
  go_enter Try.func13, Try.ntmps13
  go_upto_region 1 with fail
  try rw [e0]
  try rw [eQ]
  clear e0 eQ
  go_wp2_with fail
  refine CN.out.mono ?_; rintro e w1 ⟨R, rfl, hR, hrd, hb1⟩
  obtain ⟨w2, e2⟩ : ∃ w2, w1.alloc (Obj.cells #[.pointer (some ⟨R, 0, none⟩)] 76) = w2 := ⟨_, rfl⟩
  obtain ⟨Y, eY⟩ : ∃ Y, w1.heap.size = Y := ⟨_, rfl⟩
  have hb2 : Below w1.heap.size w1 w2 := by rw [← e2]; exact below_alloc1 w1 _
  have hY2 : w2.heap[Y]? = some (Obj.cells #[.pointer (some ⟨R, 0, none⟩)] 76) := by rw [← e2, ← eY]; exact heap_alloc_new w1 _
  have hB2 : Below W.heap.size W w2 := H0.out.1.trans ((hb1.trans (hb2.mono hb1.size)).mono H0.out.1.size)
  have hrd2 := hrd.below hb2
  have hQ2 : w2.heap[Q]? = some (Obj.cells zeroCA 29) := ((hb1.trans (hb2.mono hb1.size)).block _ (Array.getElem?_eq_some_iff.1 H0.out.2.1).1).trans H0.out.2.1
  have CC := Lib.hid (rconf_any (s := (bs, false)) (B := W.heap.size) hrd2 hB2.size)
  have H2 := Lib.hid (And.intro (show Rd w2 R (bs, false).1 (bs, false).2 from hrd2) (And.intro hB2 (And.intro hY2 (And.intro hQ2 (Nat.le_trans H0.out.1.size hR)))))
  clear hR hrd hb1 hb2 hY2 hB2 hrd2 hQ2 CN
  go_upto_region 2 with fail
  try rw [e2]
  try rw [eY]
  clear e2 eY
  have cy : w2.cell? ⟨Y, 0, none⟩ = some (.pointer (some ⟨R, 0, none⟩)) := by rw [cell_of_row _ _ _ _ _ (0, 0) H2.out.2.2.1]; rfl
  go_wp2_with fail
  refine CC.out.mono ?_; rintro e w3 ⟨A1, c1, A2, c2, ovs, rfl, hcf, hre⟩
  obtain ⟨t, et⟩ : ∃ t, (rCf (bs, false)).2 = t := ⟨_, rfl⟩
  rw [et] at hre
  obtain ⟨w4, e4⟩ : ∃ w4, w3.alloc (Obj.cells #[.int .i64 ((rCf (bs, false)).1.co : Int), .int .i64 ((rCf (bs, false)).1.fr : Int), .int .i64 ((rCf (bs, false)).1.nm : Int), .slice A1 (rCf (bs, false)).1.xs.length c1, .slice A2 (rCf (bs, false)).1.os.length c2] 29) = w4 := ⟨_, rfl⟩
  obtain ⟨Z, eZ⟩ : ∃ Z, w3.heap.size = Z := ⟨_, rfl⟩
  have hb4 : Below w3.heap.size w3 w4 := by rw [← e4]; exact below_alloc1 w3 _
  have hZ4 : w4.heap[Z]? = some (Obj.cells #[.int .i64 ((rCf (bs, false)).1.co : Int), .int .i64 ((rCf (bs, false)).1.fr : Int), .int .i64 ((rCf (bs, false)).1.nm : Int), .slice A1 (rCf (bs, false)).1.xs.length c1, .slice A2 (rCf (bs, false)).1.os.length c2] 29) := by rw [← e4, ← eZ]; exact heap_alloc_new w3 _
  have hB3 : Below W.heap.size W w3 := H2.out.2.1.grown hre.2 H2.out.2.1.size fun k hk => by injection hk with hk; rw [← hk]; exact H2.out.2.2.2.2
  have hY4 := (hb4.block _ (Array.getElem?_eq_some_iff.1 (hre.keeps (s := (bs, false)) H2.out.1 H2.out.2.2.1 (by decide))).1).trans (hre.keeps (s := (bs, false)) H2.out.1 H2.out.2.2.1 (by decide))
  have hQ4 := (hb4.block _ (Array.getElem?_eq_some_iff.1 (hre.keeps (s := (bs, false)) H2.out.1 H2.out.2.2.2.1 (by decide))).1).trans (hre.keeps (s := (bs, false)) H2.out.1 H2.out.2.2.2.1 (by decide))
  have HD := Lib.hid (show DS W Q Z bs A1 c1 A2 c2 ovs w4 from ⟨hB3.trans (hb4.mono hB3.size), hQ4, hZ4, hcf.below hb4⟩)
  have HR4 := Lib.hid (hre.1.below hb4)
  have HY4 := Lib.hid hY4
  have HT := Lib.hid et
  clear CC cy hcf hre hb4 hZ4 hB3 hY4 hQ4 et
  go_upto_region 3 with fail
  try rw [e4]
  try rw [eZ]
  clear e4 eZ
  have cy : w4.cell? ⟨Y, 0, none⟩ = some (.pointer (some ⟨R, 0, none⟩)) := by rw [cell_of_row _ _ _ _ _ (0, 0) HY4.out]; rfl
  obtain ⟨rb, erb⟩ : ∃ rb, rightB (rCf (bs, false)).1.co (rCf (bs, false)).1.fr (rCf (bs, false)).1.nm (rCf (bs, false)).1.xs (rCf (bs, false)).1.os = rb := ⟨_, rfl⟩
  have HRB := Lib.hid erb
  obtain ⟨t1, t2⟩ := t
  simp only at HR4 HT
  go_cut [24] from 11 to 26 (fun v24 wx => v24 = .bool (!(!t2 && (decide (t1.length = 0) && rb))) ∧ Hid (DS W Q Z bs A1 c1 A2 c2 ovs wx))
  case first =>
    have CB := Lib.hid (bad_any R t1 t2 w4 HR4.out)
    have CR := Lib.hid (rd_rest R t1 t2 w4 HR4.out)
    clear erb
    go_wp2_with fail
    refine CB.out.mono ?_; rintro e w5 ⟨rfl, rfl⟩
    clear CB
    cases t2
    · go_wp2_with fail
      refine CR.out.mono ?_; rintro e w5 ⟨rfl, rfl⟩
      clear CR
      by_cases hl : t1.length = 0
      · have q1 : ¬ ((t1.length : Int) > 0) := by omega
        have q2 : ¬ ((0 : Int) < (t1.length : Int)) := by omega
        have HQ3 := Lib.hid (show decide (t1.length = 0) = true from decide_eq_true hl)
        have q5 : decide (0 < t1.length) = false := decide_eq_false (by omega)
        have q6 : ¬ 0 < t1.length := by omega
        clear hl cy
        obtain ⟨hcr, hcc⟩ := HD.out.t.cfr H0.out.2.2.1
        have CR := cright_any (co := ((rCf (bs, false)).1.co : Int)) (fr := ((rCf (bs, false)).1.fr : Int)) (nm := ((rCf (bs, false)).1.nm : Int)) (c1 := c1) hcr hcc
        rw [HD.out.t.m, HRB.out] at CR
        have CR := Lib.hid CR
        have z0 : w4.cell? ⟨Z, 0, none⟩ = some (.int .i64 ((rCf (bs, false)).1.co : Int)) := by rw [cell_of_row _ _ _ _ _ (0, 0) HD.out.z]; rfl
        have z1 : w4.cell? ⟨Z, 1, none⟩ = some (.int .i64 ((rCf (bs, false)).1.fr : Int)) := by rw [cell_of_row _ _ _ _ _ (0, 0) HD.out.z]; rfl
        have z2 : w4.cell? ⟨Z, 2, none⟩ = some (.int .i64 ((rCf (bs, false)).1.nm : Int)) := by rw [cell_of_row _ _ _ _ _ (0, 0) HD.out.z]; rfl
        have z3 : w4.cell? ⟨Z, 3, none⟩ = some (.slice A1 (rCf (bs, false)).1.xs.length c1) := by rw [cell_of_row _ _ _ _ _ (0, 0) HD.out.z]; rfl
        have z4 : w4.cell? ⟨Z, 4, none⟩ = some (.slice A2 (rCf (bs, false)).1.os.length c2) := by rw [cell_of_row _ _ _ _ _ (0, 0) HD.out.z]; rfl
        clear hcr hcc
        go_wp2_with fail
        refine CR.out.mono ?_; rintro e w6 ⟨rfl, hb6⟩
        have HD6 := Lib.hid (HD.out.below hb6)
        clear hb6 CR z0 z1 z2 z3 z4
        go_wp2_with fail
        go_meet
        exact ⟨by rw [HQ3.out]; rfl, HD6⟩
      · have q1 : ((t1.length : Int) > 0) := by omega
        have q2 : ((0 : Int) < (t1.length : Int)) := by omega
        have HQ3 := Lib.hid (show decide (t1.length = 0) = false from decide_eq_false hl)
        have q5 : decide (0 < t1.length) = true := decide_eq_true (by omega)
        have q6 : 0 < t1.length := by omega
        clear hl cy
        go_wp2_with fail
        go_meet
        exact ⟨by rw [HQ3.out]; rfl, HD⟩
    · clear cy
      go_wp2_with fail
      go_meet
      exact ⟨rfl, HD⟩
  case rest =>
    obtain ⟨rfl, hJ⟩ := hcut
    obtain ⟨ok, eok⟩ : ∃ ok, (!t2 && (decide (t1.length = 0) && rb)) = ok := ⟨_, rfl⟩
    rw [eok]
    have HOK := Lib.hid eok
    clear eok erb HD cy
    have HU := Lib.hid Try.underlying29
    cases ok
    · have HN : Hid (¬ ((rCf (bs, false)).2 = ([], false) ∧ rightB (rCf (bs, false)).1.co (rCf (bs, false)).1.fr (rCf (bs, false)).1.nm (rCf (bs, false)).1.xs (rCf (bs, false)).1.os = true)) := Lib.hid (by
        rintro ⟨h1, h2⟩
        rw [HT.out] at h1
        injection h1 with h1 h3
        have h4 := HOK.out
        rw [h1, h3, ← HRB.out, h2] at h4
        cases h4)
      have HSz : Hid ((Try.prog.info? 29).map (·.size) = some (#[.int .i64 0, .int .i64 0, .int .i64 0, .slice none 0 0, .slice none 0 0] : Array Value).size) := Lib.hid sizeC
      have HOz : Hid ((#[.int .i64 0, .int .i64 0, .int .i64 0, .slice none 0 0, .slice none 0 0] : Array Value).all (·.oneCell') = true) := Lib.hid (by simp [Value.oneCell'])
      have HZ5 : Hid (zeroCA.size = (#[.int .i64 0, .int .i64 0, .int .i64 0, .slice none 0 0, .slice none 0 0] : Array Value).size) := Lib.hid rfl
      go_wp2_with (first | with_reducible refine wpList_store_row rfl 29 (.tmp 2) (.tmp 25) rfl Q #[.int .i64 0, .int .i64 0, .int .i64 0, .slice none 0 0, .slice none 0 0] rfl rfl 29 zeroCA hJ.out.q HSz.out HZ5.out HOz.out ?_)
      refine bodyPost_ret (results_cfg (by rfl) _ _ Q 29 #[.int .i64 0, .int .i64 0, .int .i64 0, .slice none 0 0, .slice none 0 0] (0, 0) (by rfl) (setRow_heap wc Q _ _ _ _ hJ.out.q) rfl) rfl ?_
      exact .inr ⟨HN.out, rfl, hJ.out.b.trans (((Turn.row wc Q _).below (X := W.heap.size) hJ.out.b.size fun b hb => by rw [List.mem_singleton.1 hb]; exact H0.out.2.2.2))⟩
    · have HN : Hid ((rCf (bs, false)).2 = ([], false) ∧ rightB (rCf (bs, false)).1.co (rCf (bs, false)).1.fr (rCf (bs, false)).1.nm (rCf (bs, false)).1.xs (rCf (bs, false)).1.os = true) := Lib.hid (by
        have h4 := HOK.out
        simp only [Bool.and_eq_true, Bool.not_eq_true', decide_eq_true_eq] at h4
        obtain ⟨h1, h2, h3⟩ := h4
        rw [HT.out, HRB.out, h1, List.length_eq_zero_iff.1 h2]
        exact ⟨rfl, h3⟩)
      obtain ⟨cs, ecs⟩ : ∃ cs, (#[.int .i64 ((rCf (bs, false)).1.co : Int), .int .i64 ((rCf (bs, false)).1.fr : Int), .int .i64 ((rCf (bs, false)).1.nm : Int), .slice A1 (rCf (bs, false)).1.xs.length c1, .slice A2 (rCf (bs, false)).1.os.length c2] : Array Value) = cs := ⟨_, rfl⟩
      have HV : Hid (wc.heap[Z]? = some (Obj.cells cs 29)) := Lib.hid (by rw [← ecs]; exact hJ.out.z)
      have HS : Hid ((Try.prog.info? 29).map (·.size) = some cs.size) := Lib.hid (by rw [← ecs]; exact sizeC)
      have HO : Hid (cs.all (·.oneCell') = true) := Lib.hid (by rw [← ecs]; simp [Value.oneCell'])
      have HS5 : Hid (zeroCA.size = cs.size) := Lib.hid (by rw [← ecs]; rfl)
      have HEC := Lib.hid ecs
      clear ecs
      go_wp2_with (first | with_reducible refine wpList_load_row rfl 29 (.tmp 5) rfl Z rfl 29 cs (0, 0) _ HV.out HU.out rfl HS.out ?_ | with_reducible refine wpList_store_row rfl 29 (.tmp 2) (.tmp 26) rfl Q cs rfl rfl 29 zeroCA hJ.out.q HS.out HS5.out HO.out ?_)
      refine bodyPost_ret (results_cfg (by rfl) _ _ Q 29 cs (0, 0) (by rfl) (setRow_heap wc Q _ _ _ _ hJ.out.q) HS5.out.symm) rfl ?_
      have ht : CfT W.heap.size (wc.setRow Q cs) (bs, false) A1 c1 A2 c2 ovs := hJ.out.t.keep fun b cur u hu hb => (setRow_other wc Q b _ fun e => hu (cells_ty (by rw [← e]; exact hb) hJ.out.q)).trans hb
      obtain ⟨hcr, hcc⟩ := ht.cfr H0.out.2.2.1
      exact .inl ⟨HN.out.1, HN.out.2, A1, c1, A2, c2, ovs, by rw [HEC.out]; rfl, hcr, ht.m, hcc, hJ.out.b.trans (((Turn.row wc Q _).below (X := W.heap.size) hJ.out.b.size fun b hb => by rw [List.mem_singleton.1 hb]; exact H0.out.2.2.2))⟩
end Go.Proofs.Ytmadldgajjgbmaa
