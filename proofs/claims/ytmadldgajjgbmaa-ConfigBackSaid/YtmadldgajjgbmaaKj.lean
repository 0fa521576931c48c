import Derived.Test.YtmadldgajjgbmaaKc
import Derived.Deep.RegionHeld3
import Derived.Laws.MakeOwn
import Derived.Laws.CopyOwn
import Derived.Laws.BytesArg
import Derived.WideShapes
namespace Pk
theorem prsB_snoc (ps : List (Nat × Int)) (p : Nat × Int) : prsB (ps ++ [p]) = prsB ps ++ pair p := by simp [prsB]
theorem prsB_take {ps : List (Nat × Int)} {k : Nat} {p : Nat × Int} (h : ps[k]? = some p) : prsB (ps.take (k + 1)) = prsB (ps.take k) ++ pair p := by
  rw [List.take_add_one, h]; exact prsB_snoc _ _
end Pk
namespace Go.Proofs.Ytmadldgajjgbmaa
open Go.RowKit
set_option linter.unusedVariables false
set_option linter.unusedSimpArgs false

theorem pair_cells (pc l : Nat) (h : pc < 4294967296) : [Value.int .u8 ((pc : Int) / 16777216), .int .u8 ((pc : Int) / 65536 % 256), .int .u8 ((pc : Int) / 256 % 256), .int .u8 ((pc : Int) % 256), .int .u8 (l : Int)] = Y (Pk.pair (pc, (l : Int))) := by
  have e : pc / 16777216 % 256 = pc / 16777216 := by omega
  simp only [Pk.pair, Y, List.map_cons, List.map_nil, e, Int.toNat_natCast]
  rfl
theorem u8_wrap (x : Nat) (h : x < 256) : IntKind.u8.wrap (x : Int) = (x : Int) := by rw [IntKind.wrap_u8]; omega
theorem own_ne5 {w : World} {base : Nat} {size : Nat} {v : Value} {n g : Nat} {xs : List Value} {cs : Array Value} (h : w.ownsRow base 5 size v n xs) (hg : w.heap[g]? = some (Obj.cells cs 41)) : some g ≠ v.ownBlock := by
  rcases h.2 with ⟨rfl, _⟩ | ⟨g', cap, cur, rfl, _, hh, _⟩
  · simp [Value.ownBlock]
  · intro he
    have e1 : g = g' := by simpa [Value.ownBlock] using he
    subst e1
    rw [hh] at hg
    simp at hg
/-- What holds while a label is written. -/
def PutRel (w : World) (bs : List Nat) (d : Nat) (pv : Value) (ps : List (Nat × Int)) (k : Nat) (v : Value) (wr : World) : Prop :=
  NB w.heap.size wr (bs ++ (d :: ps.length :: Pk.prsB (ps.take k))) v ∧ Below w.heap.size w wr ∧ wr.heap[w.heap.size]? = some (Obj.cells #[.int .i64 (d : Int), pv] 41)
set_option maxHeartbeats 2000000 in
theorem plabel_at (A : Option Addr) (c n : Nat) (bs : List Nat) (d : Nat) (a : Option Addr) (cap m : Nat) (ps : List (Nat × Int)) (w : World) (hn : bs.length = n) (hm : n ≤ 1000000) (hr : BR w A bs) (hA : A = none → c = 0)
   (hd : d < 256) (hml : ps.length = m) (hm2 : m < 256) (hp : ∀ p ∈ ps, p.1 < 4294967296 ∧ 0 ≤ p.2 ∧ p.2 < 256)
   (hc : ∀ (i : Nat) (p : Nat × Int), ps[i]? = some p → ∃ b off, a = some ⟨b, off, none⟩ ∧ b < w.heap.size ∧ w.cell? ⟨b, off + i * 2, none⟩ = some (.int .u32 p.1) ∧ w.cell? ⟨b, off + i * 2 + 1, none⟩ = some (.int .i64 p.2)) :
    Calls Try.prog 58 #[.slice A n c, .agg #[.int .i64 d, .slice a m cap]] w (NBs w (bs ++ Pk.lab d ps)) := by
  obtain ⟨i0, hi, hz0, hz1, hz2⟩ := info_parts info5
  obtain ⟨w1, e1⟩ : ∃ w1, w1 = w.alloc (Obj.cells #[.int .i64 (d : Int), .slice a m cap] 41) := ⟨_, rfl⟩
  have hb1 : Below w.heap.size w w1 := by rw [e1]; exact (Below.refl _ _).alloc (Nat.le_refl _) _
  have hk1 : w1.heap[w.heap.size]? = some (Obj.cells #[.int .i64 (d : Int), .slice a m cap] 41) := by rw [e1]; exact heap_alloc_new w _
  have hsz1 : w1.heap.size = w.heap.size + 1 := by rw [e1]; simp
  have C := Lib.hid (fun (W : World) (h : Below w1.heap.size w1 W) => clone_any A c n bs W hn (by omega) ((hr.below hb1).below h) hA)
  have HMK := Lib.hid (fun (W : World) (h : Below w1.heap.size w1 W) => (show W.cell? ⟨w.heap.size, 0, none⟩ = some (.int .i64 (d : Int)) ∧ W.cell? ⟨w.heap.size, 1, none⟩ = some (.slice a m cap) from by
    have k : W.heap[w.heap.size]? = some (Obj.cells #[.int .i64 (d : Int), .slice a m cap] 41) := by rw [h.block _ (by omega)]; exact hk1
    exact cells2 k))
  obtain ⟨q0, q1⟩ := HMK.out w1 (Below.refl _ _)
  have hcall := Lib.hid ((Below.refl w1.heap.size w1).drew)
  obtain ⟨bk, ebk⟩ : ∃ bk, bk = Obj.cells #[.int .u8 (d : Int), .int .u8 (m : Int)] 5 := ⟨_, rfl⟩
  have CA := Lib.hid (show Calls Try.prog 44 #[.slice A n c] w1.drew (fun e w' => ∃ v, e = .returned v ∧ NB w1.heap.size w' bs v ∧ Below w1.heap.size w1 w') from
    (C.out w1.drew hcall.out).mono fun e w' ⟨v, h1, h2, h3⟩ => ⟨v, h1, h2, hcall.out.trans h3⟩)
  have CB := Lib.hid (show Calls Try.prog 44 #[.slice A n c] (w1.drew.alloc (Obj.cells #[.int .u8 (d : Int), .int .u8 (m : Int)] 5)) (fun e w' => ∃ v, e = .returned v ∧ NB w1.heap.size w' bs v ∧ Below w1.heap.size w1 w' ∧ w'.heap[w1.heap.size]? = some (Obj.cells #[.int .u8 (d : Int), .int .u8 (m : Int)] 5)) from
    (C.out (w1.drew.alloc _) (hcall.out.alloc hcall.out.size _)).mono fun e w' ⟨v, h1, h2, h3⟩ => ⟨v, h1, h2.mono (by simp), (hcall.out.alloc hcall.out.size _).trans (h3.mono (by simp)), by
      rw [h3.block w1.heap.size (by simp)]; exact heap_alloc_new w1.drew _⟩)
  have HO := Lib.hid (fun (W : World) (v : Value) (h : NB w1.heap.size W bs v) => (show W.ownsRow w.heap.size 5 1 v n (Y bs) from by rw [← hn]; exact owns_mono h (by omega)))
  have HF2 := Lib.hid (fun (W W' : World) (v v' : Value) (h : NB w1.heap.size W bs v) (hb : Below w1.heap.size w1 W) (ho : W'.ownsRow w.heap.size 5 1 v' (n + 2) (Y bs ++ [.int .u8 (d : Int), .int .u8 (m : Int)])) (hg : W.grownBy W' v.ownBlock) =>
    (show Below w1.heap.size w1 W' ∧ PutRel w bs d (.slice a m cap) ps 0 v' W' from by
      have hb' : Below w1.heap.size w1 W' := hb.grown hg hb.size (fun k hk => (h.lt k hk).1)
      refine ⟨hb', ?_, hb1.trans (hb'.mono (by omega)), by rw [hb'.block _ (by omega)]; exact hk1⟩
      show W'.ownsRow w.heap.size 5 1 v' (bs ++ (d :: ps.length :: [])).length (Y (bs ++ (d :: ps.length :: [])))
      rw [Y_app, List.length_append, hn, hml]
      exact ho))
  have HF := Lib.hid (fun (W W' : World) (o : Obj) (v v' : Value) (h : NB w1.heap.size W bs v) (hb : Below w1.heap.size w1 W) (ho : W'.ownsRow w.heap.size 5 1 v' (n + 2) (Y bs ++ [.int .u8 (d : Int), .int .u8 (m : Int)])) (hg : (W.alloc o).grownBy W' v.ownBlock) =>
    HF2.out (W.alloc o) W' v v' (World.ownsRow.alloc h o) (hb.alloc hb.size o) ho hg)
  have n1 : ∀ (W : World) (cs : Array Value), (W.alloc (Obj.cells cs 5)).heap[W.heap.size]? = some (Obj.cells cs 5) := fun W cs => heap_alloc_new W _
  have N1 := Lib.hid n1
  have HS1 := Lib.hid hsz1
  clear n1 ebk hsz1
  have wd := u8_wrap d hd
  have wm := u8_wrap m hm2
  have HN := Lib.hid hn
  have HML := Lib.hid hml
  have HP := Lib.hid hp
  have HC := Lib.hid hc
  have HB1 := Lib.hid hb1
  have HK1 := Lib.hid hk1
  clear hn hr hA hml hp hc hb1 hk1
  go_enter Try.func58, Try.ntmps58
  go_upto_region 1 with fail
  rw [← e1]
  clear e1
  go_cut [5] (fun v wx => Hid (PutRel w bs d (.slice a m cap) ps 0 v wx))
  case first =>
    go_region_held3 (fun w' => w'.cell? ⟨w.heap.size, 0, none⟩ = some (.int .i64 (d : Int)) ∧ w'.cell? ⟨w.heap.size, 1, none⟩ = some (.slice a m cap))
      (first
        | exact HMK.out _ hcall.out
        | exact HMK.out _ (hcall.out.alloc hcall.out.size _))
      (first
        | (refine CA.out.mono ?_
           rintro e w2 ⟨v, rfl, hnb, hb2⟩
           replace hcall := Lib.hid hb2
           replace hnb := Lib.hid hnb
           clear hb2)
        | (refine CB.out.mono ?_
           rintro e w2 ⟨v, rfl, hnb, hb2, hk2⟩
           replace hcall := Lib.hid hb2
           replace hnb := Lib.hid hnb
           replace hk2 := Lib.hid hk2
           clear hb2)
        | (refine step_append_own _ (by rfl) _ _ _ (by rfl) w.heap.size 5 i0 _ 1 1 Try.underlying33 hi hz0 hz1 hz2 rfl (by omega) v n _ (by rfl) ((HO.out _ _ hnb.out).alloc _)
            ⟨w2.heap.size, 0, none⟩ 2 2 [.int .u8 (d : Int), .int .u8 (m : Int)] (by rfl) (by rfl) (World.news_of_block (cs := #[.int .u8 (d : Int), .int .u8 (m : Int)]) (t := 5) (fr := (0, 0)) (N1.out w2 _)) (by simp [Value.oneCell']) (by unfold maxLen; omega) (by omega) (by have := hcall.out.size; have := HS1.out; simp; omega) ?_
           intro v' w3 hown3 hg3 _
           have hfin := HF.out w2 w3 _ v v' hnb.out hcall.out hown3 hg3
           replace hfin := Lib.hid hfin
           replace hcall := Lib.hid (hfin.out.1)
           clear hown3 hg3)
        | (refine step_append_own _ (by rfl) _ _ _ (by rfl) w.heap.size 5 i0 _ 1 1 Try.underlying33 hi hz0 hz1 hz2 rfl (by omega) v n _ (by rfl) (HO.out _ _ hnb.out)
            ⟨w1.heap.size, 0, none⟩ 2 2 [.int .u8 (d : Int), .int .u8 (m : Int)] (by rfl) (by rfl) (World.news_of_block (cs := #[.int .u8 (d : Int), .int .u8 (m : Int)]) (t := 5) (fr := (0, 0)) hk2.out) (by simp [Value.oneCell']) (by unfold maxLen; omega) (by omega) (by have := hcall.out.size; have := HS1.out; omega) ?_
           intro v' w3 hown3 hg3 _
           have hfin := HF2.out w2 w3 v v' hnb.out hcall.out hown3 hg3
           replace hfin := Lib.hid hfin
           replace hcall := Lib.hid (hfin.out.1)
           clear hown3 hg3))
    all_goals
      go_wp2_with fail
      go_meet
      exact Lib.hid hfin.out.2
  case rest =>
    have HR0 := hcut
    clear hcut hcall CA CB HO HF HF2 N1 C HMK q0 q1 wd wm
    obtain ⟨X, rfl⟩ : ∃ X, X = wc := ⟨_, rfl⟩
    obtain ⟨q0, q1⟩ := cells2 HR0.out.2.2
    go_wp2_with fail
    go_loopg [5, 23] m (fun g v i wr => ∃ k : Nat, k ≤ m ∧ Hid (g = m - k) ∧ i = .int .i64 k ∧ Hid (PutRel w bs d (.slice a m cap) ps k v wr))
    case atStart => exact ⟨0, by omega, Lib.hid (by omega), rfl, HR0⟩
    case round =>
      obtain ⟨k, hk, hg, rfl, hrl⟩ := hrel
      clear HR0 q0 q1
      by_cases hlt : k < m
      · obtain ⟨⟨pc, pl⟩, hp⟩ : ∃ p, ps[k]? = some p := ⟨_, List.getElem?_eq_getElem (by rw [HML.out]; exact hlt)⟩
        obtain ⟨b, off, rfl, hb, x1, x2⟩ := HC.out k _ hp
        have hpb := HP.out _ (List.mem_of_getElem? hp)
        simp only at x1 x2 hpb
        obtain ⟨l, rfl⟩ : ∃ l : Nat, pl = (l : Int) := ⟨pl.toNat, by omega⟩
        have y1 : wr.cell? ⟨b, off + k * 2, none⟩ = some (.int .u32 pc) := by rw [hrl.out.2.1.cell (p := ⟨b, _, none⟩) hb]; exact x1
        have y2 : wr.cell? ⟨b, off + k * 2 + 1, none⟩ = some (.int .i64 l) := by rw [hrl.out.2.1.cell (p := ⟨b, _, none⟩) hb]; exact x2
        have hst := Lib.hid (Pk.prsB_take hp)
        have wl := u8_wrap l (by omega)
        clear x1 x2 hp
        obtain ⟨q, eq⟩ : ∃ q, (bs ++ (d :: ps.length :: Pk.prsB (ps.take k))).length = q := ⟨_, rfl⟩
        obtain ⟨ys, eys⟩ : ∃ ys, Y (bs ++ (d :: ps.length :: Pk.prsB (ps.take k))) = ys := ⟨_, rfl⟩
        have hq : q ≤ 1100000 := by
          rw [← eq, List.length_append, HN.out, List.length_cons, List.length_cons, Pk.prsB_len, List.length_take]
          omega
        have ho := hrl.out.1
        unfold NB at ho
        rw [eq, eys] at ho
        have HO := Lib.hid ho
        have hwr := hrl.out.2.1.size
        have hpc := hpb.1
        have hwsz : w.heap.size < wr.heap.size := (Array.getElem?_eq_some_iff.1 hrl.out.2.2).1
        have HQ := Lib.hid (And.intro eq eys)
        have HPC := Lib.hid (pair_cells pc l hpc)
        clear ho eq eys
        go_wp2_with (at_builtin; refine wpList_append_own _ rfl _ _ 33 rfl w.heap.size 5 i0 (.int .u8 0) 1 1 Try.underlying33 hi hz0 hz1 hz2 rfl (by decide) _ q ys rfl ((HO.out.alloc _).alloc _) ⟨wr.heap.size + 1, 0, none⟩ 5 5 [.int .u8 ((pc : Int) / 16777216), .int .u8 ((pc : Int) / 65536 % 256), .int .u8 ((pc : Int) / 256 % 256), .int .u8 ((pc : Int) % 256), .int .u8 (l : Int)] rfl rfl ?c1 (by simp [Value.oneCell']) (by unfold maxLen; omega) (by omega) (by simp; omega) ?_)
        case c1 => exact World.news_of_block (cs := #[.int .u8 ((pc : Int) / 16777216), .int .u8 ((pc : Int) / 65536 % 256), .int .u8 ((pc : Int) / 256 % 256), .int .u8 ((pc : Int) % 256), .int .u8 (l : Int)]) (t := 5) (fr := (0, 0)) (by have := heap_alloc_new (wr.alloc (Obj.cells #[.int .u32 (pc : Int), .int .i64 (l : Int)] 80)) (Obj.cells #[.int .u8 ((pc : Int) / 16777216), .int .u8 ((pc : Int) / 65536 % 256), .int .u8 ((pc : Int) / 256 % 256), .int .u8 ((pc : Int) % 256), .int .u8 (l : Int)] 5); simpa using this)
        intro v' w3 hown3 hg3 _
        have hnx := Lib.hid (show PutRel w bs d (.slice (some ⟨b, off, none⟩) m cap) ps (k + 1) v' w3 from by
          obtain ⟨r1, r2, r3⟩ := hrl.out
          have hb2 : Below wr.heap.size wr ((wr.alloc (Obj.cells #[.int .u32 (pc : Int), .int .i64 (l : Int)] 80)).alloc (Obj.cells #[.int .u8 ((pc : Int) / 16777216), .int .u8 ((pc : Int) / 65536 % 256), .int .u8 ((pc : Int) / 256 % 256), .int .u8 ((pc : Int) % 256), .int .u8 (l : Int)] 5)) := ((Below.refl _ _).alloc (Nat.le_refl _) _).alloc (by simp) _
          refine ⟨?_, (r2.trans (hb2.mono hwr)).grown hg3 (by simp; omega) (fun g hgg => (HO.out.lt g hgg).1), ?_⟩
          · have e : bs ++ (d :: ps.length :: Pk.prsB (ps.take (k + 1))) = (bs ++ (d :: ps.length :: Pk.prsB (ps.take k))) ++ Pk.pair (pc, (l : Int)) := by
              rw [hst.out, List.append_assoc]; rfl
            unfold NB
            rw [e, List.length_append, Y_app, HQ.out.1, HQ.out.2, ← HPC.out]
            exact hown3
          · rw [hg3.block _ (by simp; omega) (own_ne5 HO.out r3), hb2.block _ hwsz]; exact r3)
        clear hown3 hg3
        go_wp2_with fail
        go_roundg (m - (k + 1))
        case measure => rw [hg.out]; omega
        case rel => exact ⟨k + 1, by omega, Lib.hid rfl, by go_num, hnx⟩
      · obtain ⟨r1, r2, r3⟩ := hrl.out
        obtain rfl : k = m := by omega
        have e : bs ++ (d :: ps.length :: Pk.prsB (ps.take k)) = bs ++ Pk.lab d ps := by
          rw [List.take_of_length_le (by rw [HML.out]; omega)]; rfl
        rw [e] at r1
        have R1 := Lib.hid r1
        have R2 := Lib.hid r2
        clear r1 r2 r3 e hrl
        go_wp2_with fail
        go_ret
        exact ⟨_, rfl, R1.out, R2.out⟩
/-- pack.Label, of a label whose numbers its bytes can hold. -/
theorem plabel_any (A : Option Addr) (c n : Nat) (bs : List Nat) (D : Int) (v : Value) (ps : List (Nat × Int)) (w : World) (hn : bs.length = n) (hm : n ≤ 1000000) (hr : BR w A bs) (hA : A = none → c = 0) (hs : Pk.Small D ps) (hv : RC w.heap.size w v ps) :
    Calls Try.prog 58 #[.slice A n c, .agg #[.int .i64 D, v]] w (NBs w (bs ++ Pk.lab D ps)) := by
  obtain ⟨s1, s2, s3, s4⟩ := hs
  obtain ⟨d, rfl⟩ : ∃ d : Nat, D = (d : Int) := ⟨D.toNat, by omega⟩
  rcases hv with ⟨rfl, rfl⟩ | ⟨b, off, cap, rfl, h2, h3, h4, h5⟩
  · exact plabel_at A c n bs d none 0 0 [] w hn hm hr hA (by omega) rfl (by omega) (by simp) (fun i p h => by simp at h)
  · exact plabel_at A c n bs d _ cap _ ps w hn hm hr hA (by omega) rfl s3 s4 (fun i p h => ⟨b, off, rfl, h2, h5 i p h⟩)
end Go.Proofs.Ytmadldgajjgbmaa
-- with Kk
namespace Pk
theorem enc_cons : ∀ (n x : Nat), enc (n + 1) x = (x / 256 ^ n % 256) :: enc n x
  | 0, x => by simp [enc]
  | n + 1, x => by
      rw [enc, enc_cons n (x / 256)]
      conv => rhs; rw [enc]
      rw [List.cons_append, Nat.div_div_eq_div_mul, Nat.pow_succ, Nat.mul_comm 256]
theorem enc_zero : ∀ (m j x : Nat), x / 256 ^ j = 0 → enc (j + m) x = List.replicate m 0 ++ enc j x
  | 0, j, x, h => rfl
  | m + 1, j, x, h => by
      rw [← Nat.add_assoc, enc_cons, enc_zero m j x h, List.replicate_succ, List.cons_append]
      congr 1
      rw [Nat.pow_add, ← Nat.div_div_eq_div_mul, h]
      simp
/-- A buffer that is filled from its end on. -/
def buf (bs : List Nat) (k x j : Nat) : List Nat := bs ++ (List.replicate (k - j) 0 ++ enc j x)
theorem buf_len (bs : List Nat) {k x j : Nat} (h : j ≤ k) : (buf bs k x j).length = bs.length + k := by
  unfold buf; rw [List.length_append, List.length_append, List.length_replicate, enc_len]; omega
theorem buf_set (bs : List Nat) {k x j : Nat} (h : j < k) : (buf bs k x j).set (bs.length + k - 1 - j) (x / 256 ^ j % 256) = buf bs k x (j + 1) := by
  unfold buf
  rw [List.set_append_right _ _ (by omega), List.set_append_left _ _ (by rw [List.length_replicate]; omega), enc_cons]
  congr 1
  rw [show k - j = (k - (j + 1)) + 1 by omega, List.replicate_succ', show bs.length + k - 1 - j - bs.length = (k - (j + 1)) by omega]
  rw [List.set_append_right _ _ (by rw [List.length_replicate]; omega), List.length_replicate, Nat.sub_self]
  simp
theorem buf_end {bs : List Nat} {k x j : Nat} (h : j ≤ k) (hx : j = k ∨ x / 256 ^ j = 0) : buf bs k x j = bs ++ enc k x := by
  unfold buf
  rcases hx with rfl | hx
  · simp
  · have := enc_zero (k - j) j x hx
    rw [show j + (k - j) = k by omega] at this
    rw [this]
theorem div_step (x j : Nat) : x / 256 ^ j / 256 = x / 256 ^ (j + 1) := by rw [Nat.div_div_eq_div_mul, Nat.pow_succ]
end Pk
namespace Go.Proofs.Ytmadldgajjgbmaa
open Go.RowKit
set_option linter.unusedVariables false
set_option linter.unusedSimpArgs false

theorem size5 : (Try.prog.info? 5).map (·.size) = some 1 := by kernel_rfl
theorem run_bytes (w : World) (N : Nat) (h : N ≤ 1000100) : (Instr.makeSlice 33 (.int .i64 (N : Int)) (.int .i64 (N : Int))).run Try.prog w = .ok (.slice (some ⟨w.heap.size, 0, none⟩) N N) (w.alloc (Obj.cells (Y (List.replicate N 0)).toArray 5)) := by
  obtain ⟨i0, hi, hz0, hz1, hz2⟩ := info_parts info5
  have := run_make (P := Try.prog) w 33 5 i0 (.int .u8 0) Try.underlying33 hi hz0 .i64 .i64 N N (by omega) (Int.le_refl _) (by rw [hz2]; omega) (by omega)
  rw [this, hz1]
  have e : madeCells (Value.int .u8 0).cells (N * 1) = (Y (List.replicate N 0)).toArray := by
    apply Array.toList_inj.1
    show (madeCells #[Value.int .u8 0] (N * 1)).toList = _
    rw [toList_madeCells_one, Nat.mul_one]
    simp [Y]
  simp only [Int.toNat_natCast]
  rw [e]
/-- What holds while a number is put. -/
def PutN (w : World) (G : Nat) (L : List Nat) (wr : World) : Prop := wr.heap[G]? = some (Obj.cells (Y L).toArray 5) ∧ Below w.heap.size w wr ∧ w.heap.size ≤ G
theorem PutN.nb {w wr : World} {G : Nat} {L : List Nat} (h : PutN w G L wr) (hl : L.length ≤ maxLen) : NB w.heap.size wr L (.slice (some ⟨G, 0, none⟩) L.length L.length) :=
  ⟨by rw [Y_len, Nat.mul_one], .inr ⟨G, L.length, _, rfl, h.2.2, h.1, Nat.le_refl _, hl, by simp [Y_len], by rw [Nat.mul_one]; simp [← Y_len]⟩⟩
theorem PutN.set {w wr : World} {G i x : Nat} {L : List Nat} (h : PutN w G L wr) : PutN w G (L.set i x) (wr.setCell ⟨G, i, none⟩ (.int .u8 (x : Int))) := by
  refine ⟨?_, h.2.1.setCell (p := ⟨G, i, none⟩) h.2.2 _, h.2.2⟩
  have := heap_setCell_same wr G i _ 5 (.int .u8 (x : Int)) h.1
  rw [this]
  congr 2
  unfold Y
  rw [List.setIfInBounds_toArray, List.map_set]
theorem PutN.cell {w wr : World} {G i : Nat} {L : List Nat} (h : PutN w G L wr) (hi : i < L.length) : (∃ y : Nat, wr.cell? ⟨G, i, none⟩ = some (.int .u8 (y : Int))) ∧ wr.frozen? ⟨G, i, none⟩ = false := by
  refine ⟨⟨L[i], ?_⟩, frozen_of_row _ _ _ _ 5 h.1⟩
  rw [cell_of_row _ _ _ _ 5 (0, 0) h.1]
  simp [Y, hi]
set_option maxRecDepth 100000 in
set_option maxHeartbeats 2000000 in
theorem put_any (A : Option Addr) (c n k x : Nat) (bs : List Nat) (w : World) (hn : bs.length = n) (hm : n ≤ 1000000) (hr : BR w A bs) (hk1 : 1 ≤ k) (hk8 : k ≤ 8) (hx : x < 18446744073709551616) :
    Calls Try.prog 41 #[.slice A n c, .int .i64 k, .int .u64 x] w (NBs w (bs ++ Pk.enc k x)) := by
  have hmk := run_bytes w (n + k) (by omega)
  obtain ⟨Z, eZ⟩ : ∃ Z, Y (List.replicate (n + k) 0) = Z := ⟨_, rfl⟩
  obtain ⟨Cs, eC⟩ : ∃ Cs, Y bs = Cs := ⟨_, rfl⟩
  rw [eZ, Int.natCast_add] at hmk
  have hbuf : splice Z 0 Cs = Y (Pk.buf bs k x 0) := by
    rw [← eZ, ← eC]
    unfold splice Pk.buf
    rw [List.take_zero, List.nil_append, Y_app, Y_app, Y_len, hn]
    congr 1
    simp [Y, Pk.enc]
  obtain ⟨W1, eW⟩ : ∃ W1, W1 = w.alloc (Obj.cells Z.toArray 5) := ⟨_, rfl⟩
  obtain ⟨G, eG⟩ : ∃ G, w.heap.size = G := ⟨_, rfl⟩
  have hb1 : Below w.heap.size w W1 := by rw [eW]; exact (Below.refl _ _).alloc (Nat.le_refl _) _
  have hg1 : W1.heap[G]? = some (Obj.cells Z.toArray 5) := by rw [eW, ← eG]; exact heap_alloc_new w _
  have hC1 : Cs.length = n := by rw [← eC, Y_len, hn]
  have hC2 : ∀ u ∈ Cs, u.oneCell' = true := by rw [← eC]; exact Y_one bs
  have hC3 : 0 < Cs.length → (some (⟨G, 0, none⟩ : Addr)) = some ⟨G, 0, none⟩ ∧ ∃ ad, A = some ad ∧ ∀ j v, Cs[j]? = some v → W1.cell? (ad.add j) = some v := by
    intro hpos
    rw [← eC] at hpos ⊢
    have hpos' : 0 < bs.length := by rw [Y_len] at hpos; exact hpos
    have h0 : bs[0]? = some bs[0] := List.getElem?_eq_getElem hpos'
    obtain ⟨b, off, hA, _, _⟩ := hr 0 _ h0
    refine ⟨rfl, ⟨b, off, none⟩, hA, fun j v hv => ?_⟩
    obtain ⟨y, hy, rfl⟩ := Y_get hv
    obtain ⟨b', off', hA', _, hc'⟩ := (hr.below hb1) j y hy
    rw [hA] at hA'
    injection hA' with e
    injection e with e1 e2
    subst e1 e2
    rw [addr_addq]; exact hc'
  have hZ : Z.length = n + k := by rw [← eZ, Y_len]; simp
  have hCm : Cs.length = Nat.min n (n + k) := by rw [hC1]; exact (Nat.min_eq_left (by omega)).symm
  have HN := Lib.hid hn
  have H1 := Lib.hid hC1
  have H2 := Lib.hid hC2
  have H3 := Lib.hid hC3
  have HZ := Lib.hid hZ
  have HM := Lib.hid hCm
  have HB1 := Lib.hid hb1
  have HG1 := Lib.hid hg1
  have HBF := Lib.hid hbuf
  have hwG : w.heap.size ≤ G := by omega
  rw [← eW, eG] at hmk
  clear hn hr eZ eC hbuf hb1 hg1 hC1 hC2 hC3 hZ hCm eW
  have EG := Lib.hid eG
  clear eG
  go_enter Try.func41, Try.ntmps41
  go_wp2_with (with_reducible refine wpList_copy_splice rfl (.tmp 25) (.tmp 26) 33 33 rfl 5 Try.underlying33 size5 _ _ _ _ _ _ rfl rfl G 0 Z 5 HG1.out Cs HM.out H3.out ?c1 H2.out w.heap.size w HB1.out hwG ?_)
  case c1 => rw [H1.out, HZ.out]; omega
  intro w2 hg2 hb2
  have HP := Lib.hid (show PutN w G (Pk.buf bs k x 0) w2 from ⟨by rw [← HBF.out]; exact hg2.out, hb2, hwG⟩)
  clear hg2 hb2 hmk HG1 HB1 H1 H2 H3 HZ HM HBF
  go_wp2_with fail
  go_loopg [2, 8] k (fun g xv i wr => ∃ (j y : Nat) (iv : Int), j ≤ k ∧ Hid (g = k - j) ∧ i = .int .i64 iv ∧ Hid (iv = (n : Int) + k - 1 - j) ∧ xv = .int .u64 y ∧ Hid (y = x / 256 ^ j) ∧ Hid (PutN w G (Pk.buf bs k x j) wr))
  case atStart => exact ⟨0, x, _, by omega, Lib.hid (by omega), rfl, Lib.hid (by omega), rfl, Lib.hid (by simp), HP⟩
  case round =>
    obtain ⟨j, y, iv, hj, hg, rfl, hiv, rfl, hy, hrl⟩ := hrel
    clear HP
    have hyx : y < 18446744073709551616 := by rw [hy.out]; exact Nat.lt_of_le_of_lt (Nat.div_le_self _ _) hx
    have hb1 := hiv.out
    have i1 : -1 ≤ iv := by omega
    have i2 : iv ≤ 1000100 := by omega
    clear hb1
    by_cases hjk : j < k
    · by_cases hy0 : 0 < y
      · obtain ⟨q, rfl⟩ : ∃ q : Nat, iv = (q : Int) := ⟨iv.toNat, by have := hiv.out; omega⟩
        have hq : q = bs.length + k - 1 - j := by have := hiv.out; have := HN.out; omega
        have hnq : n ≤ q := by have := hiv.out; omega
        have hqk : q < n + k := by have := hiv.out; omega
        have hbl := Pk.buf_len bs (k := k) (x := x) (j := j) (by omega)
        obtain ⟨⟨yo, y1⟩, y2⟩ := hrl.out.cell (i := q) (by rw [hbl, HN.out]; omega)
        have hnx := Lib.hid (show PutN w G (Pk.buf bs k x (j + 1)) (wr.setCell ⟨G, q, none⟩ (.int .u8 ((y : Int) % 256))) from by
          rw [show ((y : Int) % 256) = ((y % 256 : Nat) : Int) from rfl]
          rw [← Pk.buf_set bs hjk, ← hq, ← hy.out]
          exact hrl.out.set)
        have HQ := Lib.hid hq
        clear hq hbl
        have HX := Lib.hid (And.intro hx hyx)
        clear hx hyx
        go_wp2_with fail
        go_roundg (k - (j + 1))
        case measure => rw [hg.out]; omega
        case rel => exact ⟨j + 1, y / 256, _, by omega, Lib.hid rfl, rfl, Lib.hid (by have := hiv.out; omega), by go_num, Lib.hid (by rw [hy.out]; exact Pk.div_step x j), hnx⟩
      · obtain rfl : y = 0 := by omega
        have hi0 : (n : Int) ≤ iv := by have := hiv.out; omega
        have hend := Lib.hid (Pk.buf_end (bs := bs) (k := k) (x := x) hj (.inr hy.out.symm))
        have hl := Pk.buf_len bs (k := k) (x := x) hj
        have HE := Lib.hid (show NBs w (bs ++ Pk.enc k x) (.returned (.slice (some ⟨G, 0, none⟩) (n + k) (n + k))) wr from
          ⟨_, rfl, by have := hrl.out.nb (by rw [hl, HN.out]; unfold maxLen; omega); rw [hl, HN.out, hend.out] at this; exact this, hrl.out.2.1⟩)
        clear hl hx hyx hy hy0
        go_wp2_with fail
        go_ret
        exact HE.out
    · obtain rfl : j = k := by omega
      have hi0 : iv < (n : Int) := by have := hiv.out; omega
      have hend := Lib.hid (Pk.buf_end (bs := bs) (k := j) (x := x) hj (.inl rfl))
      have hl := Pk.buf_len bs (k := j) (x := x) hj
      have HE := Lib.hid (show NBs w (bs ++ Pk.enc j x) (.returned (.slice (some ⟨G, 0, none⟩) (n + j) (n + j))) wr from
        ⟨_, rfl, by have := hrl.out.nb (by rw [hl, HN.out]; unfold maxLen; omega); rw [hl, HN.out, hend.out] at this; exact this, hrl.out.2.1⟩)
      clear hl hx hyx hy
      go_wp2_with fail
      go_ret
      exact HE.out
end Go.Proofs.Ytmadldgajjgbmaa
-- with Kl
namespace Go.Proofs.Ytmadldgajjgbmaa
open Go.RowKit
set_option linter.unusedVariables false
set_option linter.unusedSimpArgs false

/-- Bytes as a string. -/
def Str (bs : List Nat) : ByteArray := strOfNums (bs.map fun (x : Nat) => (x : Int))
theorem str_inj : ∀ {cs bs : List Nat}, (∀ x ∈ cs, x < 256) → (∀ x ∈ bs, x < 256) → Str cs = Str bs → cs = bs := by
  intro cs bs h1 h2 h
  have e : (Str cs).data.toList = (Str bs).data.toList := by rw [h]
  unfold Str at e
  rw [strOfNums_data, strOfNums_data, List.map_map, List.map_map] at e
  clear h
  induction cs generalizing bs with
  | nil =>
    cases bs with
    | nil => rfl
    | cons y r => simp at e
  | cons x r ih =>
    cases bs with
    | nil => simp at e
    | cons y s =>
      simp only [List.map_cons, List.cons.injEq, Function.comp] at e
      have hx := h1 x (by simp)
      have hy := h2 y (by simp)
      have e1 : x = y := by
        have := congrArg UInt8.toNat e.1
        simp at this
        omega
      rw [e1, ih (fun z hz => h1 z (by simp [hz])) (fun z hz => h2 z (by simp [hz])) e.2]
theorem conv_bytes (w : World) (A : Option Addr) (n c : Nat) (bs : List Nat) (hn : bs.length = n) (hr : BR w A bs) : (convert 33 9 (.slice A n c)).run Try.prog w = .ok (.string (Str bs)) w := by
  subst hn
  cases bs with
  | nil =>
    rw [run_convert_bytes_string w 33 9 5 _ _ c Try.underlying33 Try.underlying5 Try.underlying9]
    cases A <;> simp [Conv.bytesToString, loadCells]
    all_goals rfl
  | cons x r =>
    obtain ⟨b, off, rfl, hb, _⟩ := hr 0 x rfl
    refine run_convert_bytes_arg w 33 5 Try.underlying33 Try.underlying5 b off _ c _ (by simp) (fun i hi => ?_) 9 Try.underlying9
    obtain ⟨b', off', e, _, hc⟩ := hr i ((x :: r)[i]) (List.getElem?_eq_getElem hi)
    injection e with e
    injection e with e1 e2
    subst e1 e2
    rw [hc]
    congr 2
    rw [List.getD_eq_getElem?_getD, List.getElem?_map, List.getElem?_eq_getElem hi]
    rfl
end Go.Proofs.Ytmadldgajjgbmaa
