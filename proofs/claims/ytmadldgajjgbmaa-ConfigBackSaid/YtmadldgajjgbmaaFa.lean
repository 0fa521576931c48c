/- config's writer. -/
import Derived.Test.YtmadldgajjgbmaaMa
import Derived.Test.YtmadldgajjgbmaaKj
import Derived.Test.YtmadldgajjgbmaaDe
set_option linter.unusedVariables false
set_option linter.unusedSimpArgs false
namespace Go.Proofs.Ytmadldgajjgbmaa
open Go.RowKit
set_option linter.unusedVariables false
set_option linter.unusedSimpArgs false
/-- A writer in box WB, what it wrote in blocks from B on. -/
def Wr (B WB : Nat) (all : List Nat) (w : World) : Prop := ∃ a c, w.heap[WB]? = some (Obj.cells #[.slice a all.length c] 70) ∧ RW (fun b => B ≤ b) 5 inB w (.slice a all.length c) all ∧ ∀ x ∈ all, x < 256
/-- All but bytes and writers from B on is as it was. -/
structure KW (B : Nat) (w w' : World) : Prop where
  b : Below B w w'
  k : ∀ (b : Nat) (cur : Array Value) (u : TypeId), u ≠ 5 → u ≠ 70 → w.heap[b]? = some (Obj.cells cur u) → w'.heap[b]? = some (Obj.cells cur u)
theorem KW.trans {B : Nat} {w1 w2 w3 : World} (h : KW B w1 w2) (h' : KW B w2 w3) : KW B w1 w3 := ⟨h.b.trans h'.b, fun b cur u h1 h2 hb => h'.k b cur u h1 h2 (h.k b cur u h1 h2 hb)⟩
theorem KW.refl (B : Nat) (w : World) : KW B w w := ⟨Below.refl _ _, fun _ _ _ _ _ h => h⟩
theorem KW.of_below {B : Nat} {w w' : World} (hB : B ≤ w.heap.size) (h : Below w.heap.size w w') : KW B w w' := ⟨h.mono hB, fun b cur u _ _ hb => (h.block b (Array.getElem?_eq_some_iff.1 hb).1).trans hb⟩
theorem Wr.below {B WB : Nat} {all : List Nat} {w w' : World} (h : Wr B WB all w) (hb : Below w.heap.size w w') : Wr B WB all w' := by
  obtain ⟨a, c, h1, h2, h3⟩ := h
  exact ⟨a, c, (hb.block _ (Array.getElem?_eq_some_iff.1 h1).1).trans h1, h2.keep fun b cur h4 h5 => ⟨h4, hb.block b (Array.getElem?_eq_some_iff.1 h5).1⟩, h3⟩
/-- All but bytes is as it was. -/
def SW (w w' : World) : Prop := ∀ (b : Nat) (cur : Array Value) (u : TypeId), u ≠ 5 → w.heap[b]? = some (Obj.cells cur u) → w'.heap[b]? = some (Obj.cells cur u)
theorem SW.of_below {w w' : World} (h : Below w.heap.size w w') : SW w w' := fun b cur u _ hb => (h.block b (Array.getElem?_eq_some_iff.1 hb).1).trans hb
/-- Bytes are appended, and the box is written. -/
theorem Wr.step {B WB : Nat} {all ys : List Nat} {w w1 : World} {a A2 : Option Addr} {c n c2 : Nat} (ty : TypeId) (hB : B ≤ WB) (hBs : B ≤ w.heap.size) (hb : Below w.heap.size w w1) (hn : all.length = n)
    (h1 : w.heap[WB]? = some (Obj.cells #[.slice a n c] 70)) (h2 : RW (fun b => B ≤ b) 5 inB w (.slice a n c) all) (h3 : ∀ x ∈ all, x < 256)
    (hy : ∀ x ∈ ys, x < 256) (hl : all.length + ys.length ≤ 100000) {m : Nat} (hm : ys.length = m) (hc : m ≤ c2) (hr : LR inB w1 A2 ys) :
    ∃ a' c' l', (all ++ ys).length = l' ∧ ∃ w2, (Builtin.append_ #[33, 33] ty #[.slice a n c, .slice A2 m c2]).run Try.prog w1 = .ok (.slice a' l' c') w2 ∧ SW w w2 ∧ w2.cell? ⟨WB, 0, none⟩ = some (.slice a n c) ∧ (∀ i, w2.frozen? ⟨WB, i, none⟩ = false) ∧
      Wr B WB (all ++ ys) (w2.setCell ⟨WB, 0, none⟩ (.slice a' l' c')) ∧ KW B w (w2.setCell ⟨WB, 0, none⟩ (.slice a' l' c')) := by
  subst hm hn
  obtain ⟨i, hi, hz, hsz, hby⟩ := info_parts infoB
  have h1' := (hb.block _ (Array.getElem?_eq_some_iff.1 h1).1).trans h1
  have h2' : RW (fun b => B ≤ b) 5 inB w1 (.slice a all.length c) all := h2.keep fun b cur h4 h5 => ⟨h4, hb.block b (Array.getElem?_eq_some_iff.1 h5).1⟩
  obtain ⟨v', w2, hrun, hrw, S, hT, hS⟩ := append_rw (P := Try.prog) (xs := all) (ys := ys) 33 ty i _ 1 Try.underlying33 hi hz hsz hby (by omega) rfl (fun _ => rfl) h2' hl A2 c2 hc hr
  obtain ⟨a', c', rfl, _⟩ := hrw.form
  have hk : ∀ b cur u, u ≠ 5 → w1.heap[b]? = some (Obj.cells cur u) → w2.heap[b]? = some (Obj.cells cur u) := fun b cur u hu hb => (hT.block b (Array.getElem?_eq_some_iff.1 hb).1 fun hm => by
    obtain ⟨_, cur', h2⟩ := hS b hm
    exact hu (cells_ty hb h2)).trans hb
  have h12 := hk WB _ _ (by decide) h1'
  have hset := heap_setCell_same w2 WB 0 _ 70 (.slice a' (all ++ ys).length c') h12
  have ho : ∀ b, b ≠ WB → (w2.setCell ⟨WB, 0, none⟩ (.slice a' (all ++ ys).length c')).heap[b]? = w2.heap[b]? := fun b hb => heap_setCell_other _ _ _ _ hb
  refine ⟨a', c', _, rfl, w2, hrun, fun b cur u hu hb' => hk b cur u hu ((hb.block b (Array.getElem?_eq_some_iff.1 hb').1).trans hb'), by rw [cell_of_row _ _ _ _ _ (0, 0) h12]; rfl, fun i => frozen_of_row _ _ _ _ _ h12, ⟨a', c', hset, hrw.keep fun b cur hb1 hb2 => ⟨?_, ho b fun e => ?_⟩, fun x hx => ?_⟩, ?_, fun b cur u hu hu2 hbb => ?_⟩
  · rcases hb1 with h | h
    · exact h
    · exact Nat.le_trans hBs (Nat.le_trans hb.size h)
  · rw [e] at hb2
    exact absurd (cells_ty hb2 h12) (by decide)
  · rcases List.mem_append.1 hx with h | h
    · exact h3 x h
    · exact hy x h
  · exact ((hb.mono hBs).trans (hT.below (Nat.le_trans hBs hb.size) fun b hb => (hS b hb).1)).setCell (p := ⟨WB, 0, none⟩) hB _
  · have hb1 := (hb.block b (Array.getElem?_eq_some_iff.1 hbb).1).trans hbb
    exact (ho b fun e => hu2 (by rw [e] at hbb; exact cells_ty hbb h1)).trans (hk b cur u hu hb1)
theorem enc_byte (n x : Nat) : ∀ c ∈ Pk.enc n x, c < 256 := by
  induction n generalizing x with
  | zero => intro c hc; cases hc
  | succ n ih =>
    intro c hc
    rw [Pk.enc] at hc
    rcases List.mem_append.1 hc with h | h
    · exact ih _ c h
    · rw [List.mem_singleton.1 h]; omega
set_option maxHeartbeats 4000000 in
set_option maxRecDepth 100000 in
theorem nums_any {w : World} {B WB g n L : Nat} {all : List Nat} {ns : List Int} (hw : Wr B WB all w) (hB : B ≤ WB) (hBs : B ≤ w.heap.size) (hg : w.heap[g]? = some (Obj.cells (ns.map fun x => .int .i64 x).toArray 3)) (hL : ns.length = L)
    (hns : ∀ x ∈ ns, 0 ≤ x ∧ x ≤ 9223372036854775807) (hn : 1 ≤ n ∧ n ≤ 8) (hb : all.length + n * L ≤ 100000) :
    Calls Try.prog 26 #[.pointer (some ⟨WB, 0, none⟩), .int .i64 (n : Int), .slice (some ⟨g, 0, none⟩) L L] w fun e w' => e = .returned (.tuple #[]) ∧ Wr B WB (all ++ ns.flatMap fun x => Pk.enc n x.toNat) w' ∧ KW B w w' := by
  have HP := Lib.hid (And.intro hw (And.intro hB (And.intro hBs (And.intro hg (And.intro hL (And.intro hns (And.intro hn hb)))))))
  have hLb : L ≤ 100000 := by
    have : 1 * L ≤ n * L := Nat.mul_le_mul_right _ hn.1
    omega
  have HLb := Lib.hid hLb
  clear hw hB hBs hg hL hns hn hb hLb
  go_enter Try.func26, Try.ntmps26
  go_wp2_with fail
  go_loopg [10] L (fun gh vi wr => ∃ k : Nat, k ≤ L ∧ L - k ≤ gh ∧ vi = .int .i64 k ∧ Hid (Wr B WB (all ++ (ns.take k).flatMap fun x => Pk.enc n x.toNat) wr ∧ KW B w wr))
  case atStart => exact ⟨0, by omega, by omega, rfl, Lib.hid ⟨by simpa using HP.out.1, KW.refl _ _⟩⟩
  case round =>
    obtain ⟨k, hk, hg, rfl, hI⟩ := hrel
    by_cases hlt : k < L
    · obtain ⟨x, hx⟩ : ∃ x, ns[k]? = some x := ⟨_, List.getElem?_eq_getElem (by rw [HP.out.2.2.2.2.1]; exact hlt)⟩
      have hx0 := HP.out.2.2.2.2.2.1 x (List.mem_of_getElem? hx)
      obtain ⟨xn, rfl⟩ : ∃ xn : Nat, x = (xn : Int) := ⟨x.toNat, by omega⟩
      have hg1 := hI.out.2.k g _ _ (by decide) (by decide) HP.out.2.2.2.1
      have k0 : wr.cell? ⟨g, k, none⟩ = some (.int .i64 (xn : Int)) := by rw [cell_of_row _ _ _ _ _ (0, 0) hg1]; simp [hx]
      have l1 : (k : Int) < L := by omega
      have iw : IntKind.i64.wrap ((k : Int) + 1) = ((k + 1 : Nat) : Int) := by have := HLb.out; rw [IntKind.wrap_i64]; omega
      have iu : IntKind.u64.wrap (xn : Int) = (xn : Int) := by rw [IntKind.wrap_u64]; omega
      have htk : ns.take (k + 1) = ns.take k ++ [(xn : Int)] := by rw [List.take_add_one, hx]; rfl
      obtain ⟨al, eal⟩ : ∃ al, (all ++ (ns.take k).flatMap fun x => Pk.enc n x.toNat) = al := ⟨_, rfl⟩
      have heq : (all ++ (ns.take (k + 1)).flatMap fun x => Pk.enc n x.toNat) = al ++ Pk.enc n xn := by rw [htk, List.flatMap_append, ← List.append_assoc, eal]; simp
      have hlen : al.length + (Pk.enc n xn).length ≤ 100000 := by
        have h1 : (al ++ Pk.enc n xn).length ≤ all.length + n * L := by
          rw [← heq, List.length_append]
          have : ∀ l : List Int, (l.flatMap fun x => Pk.enc n x.toNat).length = n * l.length := by
            intro l
            induction l with
            | nil => rfl
            | cons y r ih => rw [List.flatMap_cons, List.length_append, ih, Pk.enc_len, List.length_cons, Nat.mul_add]; omega
          rw [this]
          have h2 : (ns.take (k + 1)).length ≤ L := by rw [List.length_take, HP.out.2.2.2.2.1]; omega
          have := Nat.mul_le_mul_left n h2
          omega
        rw [List.length_append] at h1
        have := HP.out.2.2.2.2.2.2.2
        omega
      have hw1 := hI.out.1
      rw [eal] at hw1
      obtain ⟨a, c, hwb, hrw, h256⟩ := hw1
      obtain ⟨la, ela⟩ : ∃ la, al.length = la := ⟨_, rfl⟩
      rw [ela] at hwb hrw
      have HW := Lib.hid (And.intro hwb (And.intro hrw (And.intro h256 (And.intro hlen (And.intro ela heq)))))
      have HG := Lib.hid (And.intro hg hlt)
      have HX := Lib.hid hx0
      clear hx hx0 hg1 htk heq hlen eal hwb hrw h256 ela hg hlt
      go_upto_region 3 with fail
      clear k0
      have HF := Lib.hid (fun (wS : World) (hS : SW wr wS) => (show wS.cell? ⟨WB, 0, none⟩ = some (.slice a la c) from by rw [cell_of_row _ _ _ _ _ (0, 0) (hS _ _ _ (by decide) HW.out.1)]; rfl))
      refine region_AU (Z := fun j => j == 12) (S := SW wr) (by kernel_rfl) (SW.of_below (Below.refl _ wr).drew) (fun hHeld => ?_)
      refine AUS_take (by kernel_rfl) rfl (i := 0) (oi := _) (v := ?vw101) rfl (by kernel_rfl) (by kernel_rfl) (by kernel_rfl) (fun _ _ _ h => h) (Or.inl ⟨by rfl, ?hz101⟩) hHeld ?rst101
      case hz101 => (intro wS hSw; clear hSw; go_simp; try with_reducible rfl)
      simp only [Act.put, List.getElem_toArray, List.getElem_cons_zero, List.getElem_cons_succ, List.setIfInBounds_toArray, List.set_cons_zero, List.set_cons_succ]
      refine AUS_take (by kernel_rfl) rfl (i := 1) (oi := _) (v := ?vw102) rfl (by kernel_rfl) (by kernel_rfl) (by kernel_rfl) (fun _ _ _ h => h) (Or.inl ⟨by rfl, ?hz102⟩) hHeld ?rst102
      case hz102 => (intro wS hSw; clear hSw; go_simp; try with_reducible rfl)
      simp only [Act.put, List.getElem_toArray, List.getElem_cons_zero, List.getElem_cons_succ, List.setIfInBounds_toArray, List.set_cons_zero, List.set_cons_succ]
      refine AUS_take (by kernel_rfl) rfl (i := 2) (oi := _) (v := ?vw103) rfl (by kernel_rfl) (by kernel_rfl) (by kernel_rfl) (fun _ _ _ h => h) (Or.inl ⟨by rfl, ?hz103⟩) hHeld ?rst103
      case hz103 => (intro wS hSw; clear hSw; go_simp; try with_reducible rfl)
      simp only [Act.put, List.getElem_toArray, List.getElem_cons_zero, List.getElem_cons_succ, List.setIfInBounds_toArray, List.set_cons_zero, List.set_cons_succ]
      refine AUS_take (by kernel_rfl) rfl (i := 3) (oi := _) (v := ?vw104) rfl (by kernel_rfl) (by kernel_rfl) (by kernel_rfl) (fun _ _ _ h => h) (Or.inl ⟨by rfl, ?hz104⟩) hHeld ?rst104
      case hz104 => (intro wS hSw; clear hSw; go_simp; try with_reducible rfl)
      simp only [Act.put, List.getElem_toArray, List.getElem_cons_zero, List.getElem_cons_succ, List.setIfInBounds_toArray, List.set_cons_zero, List.set_cons_succ]
      refine AUS_take (by kernel_rfl) rfl (i := 4) (oi := _) (v := ?vw105) rfl (by kernel_rfl) (by kernel_rfl) (by kernel_rfl) (fun _ _ _ h => h) (Or.inl ⟨by rfl, ?hz105⟩) hHeld ?rst105
      case hz105 => (intro wS hSw; obtain f0 := HF.out wS hSw; clear hSw; go_simp; try with_reducible rfl)
      simp only [Act.put, List.getElem_toArray, List.getElem_cons_zero, List.getElem_cons_succ, List.setIfInBounds_toArray, List.set_cons_zero, List.set_cons_succ]
      refine AUS_take (by kernel_rfl) rfl (i := 5) (oi := _) (v := ?vw106) rfl (by kernel_rfl) (by kernel_rfl) (by kernel_rfl) (fun _ _ _ h => h) (Or.inl ⟨by rfl, ?hz106⟩) hHeld ?rst106
      case hz106 => (intro wS hSw; clear hSw; go_simp; try with_reducible rfl)
      simp only [Act.put, List.getElem_toArray, List.getElem_cons_zero, List.getElem_cons_succ, List.setIfInBounds_toArray, List.set_cons_zero, List.set_cons_succ]
      refine AUS_take (by kernel_rfl) rfl (i := 6) (oi := _) (v := ?vw107) rfl (by kernel_rfl) (by kernel_rfl) (by kernel_rfl) (fun _ _ _ h => h) (Or.inl ⟨by rfl, ?hz107⟩) hHeld ?rst107
      case hz107 => (intro wS hSw; clear hSw; go_simp; try with_reducible rfl)
      simp only [Act.put, List.getElem_toArray, List.getElem_cons_zero, List.getElem_cons_succ, List.setIfInBounds_toArray, List.set_cons_zero, List.set_cons_succ]
      refine AUS_take (by kernel_rfl) rfl (i := 7) (oi := _) (v := ?vw108) rfl (by kernel_rfl) (by kernel_rfl) (by kernel_rfl) (fun _ _ _ h => h) (Or.inl ⟨by rfl, ?hz108⟩) hHeld ?rst108
      case hz108 => (intro wS hSw; clear hSw; go_simp; try with_reducible rfl)
      simp only [Act.put, List.getElem_toArray, List.getElem_cons_zero, List.getElem_cons_succ, List.setIfInBounds_toArray, List.set_cons_zero, List.set_cons_succ]
      refine AU_one (i := 8) (o := _) (by kernel_rfl) rfl (fun K hK => ?_)
      have CC := Lib.hid (put_any none 0 0 n xn [] wr.drew rfl (by omega) (BR.nil _ _) HP.out.2.2.2.2.2.2.1.1 HP.out.2.2.2.2.2.2.1.2 (by have := HX.out; omega))
      clear hHeld
      go_simp
      refine CC.out.mono ?_
      rintro e wz1 ⟨v1, rfl, hnb, hb⟩
      obtain ⟨A2, c2, rfl, hc2, hyr, _⟩ := hnb.form
      rw [List.nil_append] at hyr hc2
      rw [List.nil_append]
      have HBW := Lib.hid ((Below.refl _ wr).drew.trans hb)
      have HY := Lib.hid (show LR inB wz1 A2 (Pk.enc n xn) from hyr.br)
      have HC2 := Lib.hid hc2
      obtain ⟨le, ele⟩ : ∃ le, (Pk.enc n xn).length = le := ⟨_, rfl⟩
      have HLE := Lib.hid ele
      rw [ele]
      clear hb CC hnb hyr hc2 ele
      have hHeld : SW wr wz1 := SW.of_below HBW.out
      refine hK.out _ _ (fun _ => hHeld) ?_
      clear hK K hHeld
      try simp only [Act.put, List.getElem_toArray, List.getElem_cons_zero, List.getElem_cons_succ, List.setIfInBounds_toArray, List.set_cons_zero, List.set_cons_succ]
      obtain ⟨a', c', l', el', w2, hrun, hsw, hcell, hfr, hW2, hK2⟩ := Wr.step (ys := Pk.enc n xn) (A2 := A2) (c2 := c2) 33 HP.out.2.1 (Nat.le_trans HP.out.2.2.1 hI.out.2.b.size) HBW.out HW.out.2.2.2.2.1 HW.out.1 HW.out.2.1 HW.out.2.2.1 (enc_byte n xn) HW.out.2.2.2.1 HLE.out (by rw [← HLE.out]; exact HC2.out) HY.out
      have HE := Lib.hid (And.intro hW2 hK2)
      have HR := Lib.hid hrun
      clear hW2 hK2 hrun el'
      
      refine AU_one (i := 9) (o := _) (by kernel_rfl) rfl (fun K hK => ?_)
      refine step_append rfl (.tmp 18) (.tmp 22) 33 33 rfl _ _ _ rfl rfl w2 HR.out ?_
      refine hK.out _ _ (fun _ => hsw) ?_
      clear hK K HR
      try simp only [Act.put, List.getElem_toArray, List.getElem_cons_zero, List.getElem_cons_succ, List.setIfInBounds_toArray, List.set_cons_zero, List.set_cons_succ]
      refine AU_one (i := 10) (o := _) (by kernel_rfl) rfl (fun K hK => ?_)
      go_simp
      refine hK.out _ _ (fun _ => hsw) ?_
      clear hK K
      try simp only [Act.put, List.getElem_toArray, List.getElem_cons_zero, List.getElem_cons_succ, List.setIfInBounds_toArray, List.set_cons_zero, List.set_cons_succ]
      refine AU_one (i := 11) (o := _) (by kernel_rfl) rfl (fun K hK => ?_)
      go_simp
      refine hK.out _ _ (fun _ => hsw) ?_
      clear hK K
      try simp only [Act.put, List.getElem_toArray, List.getElem_cons_zero, List.getElem_cons_succ, List.setIfInBounds_toArray, List.set_cons_zero, List.set_cons_succ]
      refine AU_one (i := 12) (o := _) (by kernel_rfl) rfl (fun K hK => ?_)
      go_simp
      refine hK.out _ _ (fun h => absurd h (by decide)) ?_
      clear hK K
      try simp only [Act.put, List.getElem_toArray, List.getElem_cons_zero, List.getElem_cons_succ, List.setIfInBounds_toArray, List.set_cons_zero, List.set_cons_succ]
      refine AU_done (by kernel_rfl) ?_ _
      simp only [OnlyN]
      clear hsw hcell hfr
      have HE2 := Lib.hid (show Wr B WB (all ++ (ns.take (k + 1)).flatMap fun x => Pk.enc n x.toNat) _ ∧ KW B w _ from ⟨by rw [HW.out.2.2.2.2.2]; exact HE.out.1, hI.out.2.trans HE.out.2⟩)
      clear HE
      go_wp2_with fail
      go_roundg (L - (k + 1))
      case rel => exact ⟨k + 1, HG.out.2, Nat.le_refl _, by first | rfl | simp, HE2⟩
      case measure => have := HG.out; omega
      
    · have l1 : ¬ (k : Int) < L := by omega
      have HE := Lib.hid (show Wr B WB (all ++ ns.flatMap fun x => Pk.enc n x.toNat) wr ∧ KW B w wr from by
        have h1 := hI.out
        rw [List.take_of_length_le (by have := HP.out.2.2.2.2.1; omega)] at h1
        exact h1)
      clear hI hg hlt
      go_wp2_with fail
      go_end0
      exact ⟨rfl, HE.out⟩
set_option maxHeartbeats 4000000 in
set_option maxRecDepth 100000 in
theorem wlabel_any {w : World} {B WB n c : Nat} {al : List Nat} {D : Int} {a : Option Addr} {P : LP} (hw : Wr B WB al w) (hB : B ≤ WB) (hBs : B ≤ w.heap.size) (hl : LA 300 w D a n c P) (hr : Lab.right D P = true) (hb : al.length + (Pk.lab D P).length ≤ 100000) :
    Calls Try.prog 42 #[.pointer (some ⟨WB, 0, none⟩), .agg #[.int .i64 D, .slice a n c]] w fun e w' => e = .returned (.tuple #[]) ∧ Wr B WB (al ++ Pk.lab D P) w' ∧ KW B w w' := by
  obtain ⟨wr, er⟩ : ∃ wr, w.alloc (Obj.cells #[.int .i64 D, .slice a n c] 41) = wr := ⟨_, rfl⟩
  obtain ⟨X, eX⟩ : ∃ X, w.heap.size = X := ⟨_, rfl⟩
  have hb0 : Below w.heap.size w wr := by rw [← er]; exact below_alloc1 w _
  have hX : wr.heap[X]? = some (Obj.cells #[.int .i64 D, .slice a n c] 41) := by rw [← er, ← eX]; exact heap_alloc_new w _
  obtain ⟨aw, cw, hwb, hrw, h256⟩ := hw.below hb0
  obtain ⟨la, ela⟩ : ∃ la, al.length = la := ⟨_, rfl⟩
  rw [ela] at hwb hrw
  have HW := Lib.hid (And.intro hwb (And.intro hrw (And.intro h256 (And.intro hb (And.intro ela (And.intro hB (And.intro (Nat.le_trans hBs hb0.size) (And.intro (KW.of_below hBs hb0) (And.intro hX (And.intro (hl.below hb0) hr))))))))))
  clear hw hB hBs hl hr hb hb0 hX hwb hrw h256 ela
  go_enter Try.func42, Try.ntmps42
  go_upto_region 1 with fail
  try rw [er]
  try rw [eX]
  clear er eX
  have HF := Lib.hid (fun (wS : World) (hS : SW wr wS) => (show wS.cell? ⟨WB, 0, none⟩ = some (.slice aw la cw) ∧ wS.cell? ⟨X, 0, none⟩ = some (.int .i64 D) ∧ wS.cell? ⟨X, 1, none⟩ = some (.slice a n c) from ⟨by rw [cell_of_row _ _ _ _ _ (0, 0) (hS _ _ _ (by decide) HW.out.1)]; rfl, by rw [cell_of_row _ _ _ _ _ (0, 0) (hS _ _ _ (by decide) HW.out.2.2.2.2.2.2.2.2.1)]; rfl, by rw [cell_of_row _ _ _ _ _ (0, 0) (hS _ _ _ (by decide) HW.out.2.2.2.2.2.2.2.2.1)]; rfl⟩))
  refine region_AU (Z := fun j => j == 10) (S := SW wr) (by kernel_rfl) (SW.of_below (Below.refl _ wr).drew) (fun hHeld => ?_)
  refine AUS_take (by kernel_rfl) rfl (i := 0) (oi := _) (v := ?vw101) rfl (by kernel_rfl) (by kernel_rfl) (by kernel_rfl) (fun _ _ _ h => h) (Or.inl ⟨by rfl, ?hz101⟩) hHeld ?rst101
  case hz101 => (intro wS hSw; clear hSw; go_simp; try with_reducible rfl)
  simp only [Act.put, List.getElem_toArray, List.getElem_cons_zero, List.getElem_cons_succ, List.setIfInBounds_toArray, List.set_cons_zero, List.set_cons_succ]
  refine AUS_take (by kernel_rfl) rfl (i := 1) (oi := _) (v := ?vw102) rfl (by kernel_rfl) (by kernel_rfl) (by kernel_rfl) (fun _ _ _ h => h) (Or.inl ⟨by rfl, ?hz102⟩) hHeld ?rst102
  case hz102 => (intro wS hSw; clear hSw; go_simp; try with_reducible rfl)
  simp only [Act.put, List.getElem_toArray, List.getElem_cons_zero, List.getElem_cons_succ, List.setIfInBounds_toArray, List.set_cons_zero, List.set_cons_succ]
  refine AUS_take (by kernel_rfl) rfl (i := 2) (oi := _) (v := ?vw103) rfl (by kernel_rfl) (by kernel_rfl) (by kernel_rfl) (fun _ _ _ h => h) (Or.inl ⟨by rfl, ?hz103⟩) hHeld ?rst103
  case hz103 => (intro wS hSw; clear hSw; go_simp; try with_reducible rfl)
  simp only [Act.put, List.getElem_toArray, List.getElem_cons_zero, List.getElem_cons_succ, List.setIfInBounds_toArray, List.set_cons_zero, List.set_cons_succ]
  refine AUS_take (by kernel_rfl) rfl (i := 3) (oi := _) (v := ?vw104) rfl (by kernel_rfl) (by kernel_rfl) (by kernel_rfl) (fun _ _ _ h => h) (Or.inl ⟨by rfl, ?hz104⟩) hHeld ?rst104
  case hz104 => (intro wS hSw; clear hSw; go_simp; try with_reducible rfl)
  simp only [Act.put, List.getElem_toArray, List.getElem_cons_zero, List.getElem_cons_succ, List.setIfInBounds_toArray, List.set_cons_zero, List.set_cons_succ]
  refine AUS_take (by kernel_rfl) rfl (i := 4) (oi := _) (v := ?vw105) rfl (by kernel_rfl) (by kernel_rfl) (by kernel_rfl) (fun _ _ _ h => h) (Or.inl ⟨by rfl, ?hz105⟩) hHeld ?rst105
  case hz105 => (intro wS hSw; obtain ⟨f0, f1, f2⟩ := HF.out wS hSw; clear hSw; go_simp; try with_reducible rfl)
  simp only [Act.put, List.getElem_toArray, List.getElem_cons_zero, List.getElem_cons_succ, List.setIfInBounds_toArray, List.set_cons_zero, List.set_cons_succ]
  refine AUS_take (by kernel_rfl) rfl (i := 5) (oi := _) (v := ?vw106) rfl (by kernel_rfl) (by kernel_rfl) (by kernel_rfl) (fun _ _ _ h => h) (Or.inl ⟨by rfl, ?hz106⟩) hHeld ?rst106
  case hz106 => (intro wS hSw; obtain ⟨f0, f1, f2⟩ := HF.out wS hSw; clear hSw; go_simp; try with_reducible rfl)
  simp only [Act.put, List.getElem_toArray, List.getElem_cons_zero, List.getElem_cons_succ, List.setIfInBounds_toArray, List.set_cons_zero, List.set_cons_succ]
  refine AU_one (i := 6) (o := _) (by kernel_rfl) rfl (fun K hK => ?_)
  have CC := Lib.hid (plabel_any none 0 0 [] D (.slice a n c) P wr.drew rfl (by omega) (BR.nil _ _) (fun _ => rfl) (Pk.small_of_right HW.out.2.2.2.2.2.2.2.2.2.2) (HW.out.2.2.2.2.2.2.2.2.2.1.below (Below.refl _ wr).drew).2.2)
  clear hHeld
  go_simp
  refine CC.out.mono ?_
  rintro e wz1 ⟨v1, rfl, hnb, hb⟩
  obtain ⟨A2, c2, rfl, hc2, hyr, _⟩ := hnb.form
  rw [List.nil_append] at hyr hc2
  rw [List.nil_append]
  have HBW := Lib.hid ((Below.refl _ wr).drew.trans hb)
  have HY := Lib.hid (show LR inB wz1 A2 (Pk.lab D P) from hyr.br)
  have HC2 := Lib.hid hc2
  obtain ⟨le, ele⟩ : ∃ le, (Pk.lab D P).length = le := ⟨_, rfl⟩
  have HLE := Lib.hid ele
  rw [ele]
  clear hb CC hnb hyr hc2 ele
  have hHeld : SW wr wz1 := SW.of_below HBW.out
  refine hK.out _ _ (fun _ => hHeld) ?_
  clear hK K hHeld
  try simp only [Act.put, List.getElem_toArray, List.getElem_cons_zero, List.getElem_cons_succ, List.setIfInBounds_toArray, List.set_cons_zero, List.set_cons_succ]
  obtain ⟨a', c', l', el', w2, hrun, hsw, hcell, hfr, hW2, hK2⟩ := Wr.step (ys := Pk.lab D P) (A2 := A2) (c2 := c2) 33 HW.out.2.2.2.2.2.1 HW.out.2.2.2.2.2.2.1 HBW.out HW.out.2.2.2.2.1 HW.out.1 HW.out.2.1 HW.out.2.2.1 (Pk.lab_byte (Pk.small_of_right HW.out.2.2.2.2.2.2.2.2.2.2)) HW.out.2.2.2.1 HLE.out (by rw [← HLE.out]; exact HC2.out) HY.out
  have HE := Lib.hid (And.intro hW2 (HW.out.2.2.2.2.2.2.2.1.trans hK2))
  have HR := Lib.hid hrun
  clear hW2 hK2 hrun el'
  
  refine AU_one (i := 7) (o := _) (by kernel_rfl) rfl (fun K hK => ?_)
  refine step_append rfl (.tmp 8) (.tmp 10) 33 33 rfl _ _ _ rfl rfl w2 HR.out ?_
  refine hK.out _ _ (fun _ => hsw) ?_
  clear hK K HR
  try simp only [Act.put, List.getElem_toArray, List.getElem_cons_zero, List.getElem_cons_succ, List.setIfInBounds_toArray, List.set_cons_zero, List.set_cons_succ]
  refine AU_one (i := 8) (o := _) (by kernel_rfl) rfl (fun K hK => ?_)
  go_simp
  refine hK.out _ _ (fun _ => hsw) ?_
  clear hK K
  try simp only [Act.put, List.getElem_toArray, List.getElem_cons_zero, List.getElem_cons_succ, List.setIfInBounds_toArray, List.set_cons_zero, List.set_cons_succ]
  refine AU_one (i := 9) (o := _) (by kernel_rfl) rfl (fun K hK => ?_)
  go_simp
  refine hK.out _ _ (fun _ => hsw) ?_
  clear hK K
  try simp only [Act.put, List.getElem_toArray, List.getElem_cons_zero, List.getElem_cons_succ, List.setIfInBounds_toArray, List.set_cons_zero, List.set_cons_succ]
  refine AU_one (i := 10) (o := _) (by kernel_rfl) rfl (fun K hK => ?_)
  go_simp
  refine hK.out _ _ (fun h => absurd h (by decide)) ?_
  clear hK K
  try simp only [Act.put, List.getElem_toArray, List.getElem_cons_zero, List.getElem_cons_succ, List.setIfInBounds_toArray, List.set_cons_zero, List.set_cons_succ]
  refine AU_done (by kernel_rfl) ?_ _
  simp only [OnlyN]
  clear hsw hcell hfr
  go_wp2_with fail
  go_end0
  exact ⟨rfl, HE.out⟩
  
end Go.Proofs.Ytmadldgajjgbmaa
