import Derived.Test.YtjmfjehjlnghmaaKe
import Derived.Deep.RegionHeld3
namespace Pk
theorem prsB_snoc (ps : List (Nat × Int)) (p : Nat × Int) : prsB (ps ++ [p]) = prsB ps ++ pair p := by simp [prsB]
theorem prsB_take {ps : List (Nat × Int)} {k : Nat} {p : Nat × Int} (h : ps[k]? = some p) : prsB (ps.take (k + 1)) = prsB (ps.take k) ++ pair p := by
  rw [List.take_add_one, h]; exact prsB_snoc _ _
end Pk
namespace Go.Proofs.Ytjmfjehjlnghmaa
open Go.RowKit
set_option linter.unusedVariables false
set_option linter.unusedSimpArgs false

theorem pair_cells (pc l : Nat) (h : pc < 4294967296) : [Value.int .u8 ((pc : Int) / 16777216), .int .u8 ((pc : Int) / 65536 % 256), .int .u8 ((pc : Int) / 256 % 256), .int .u8 ((pc : Int) % 256), .int .u8 (l : Int)] = Y (Pk.pair (pc, (l : Int))) := by
  have e : pc / 16777216 % 256 = pc / 16777216 := by omega
  simp only [Pk.pair, Y, List.map_cons, List.map_nil, e, Int.toNat_natCast]
  rfl
theorem u8_wrap (x : Nat) (h : x < 256) : IntKind.u8.wrap (x : Int) = (x : Int) := by rw [IntKind.wrap_u8]; omega
theorem own_ne5 {w : World} {base : Nat} {size : Nat} {v : Value} {n g : Nat} {xs : List Value} {cs : Array Value} (h : w.ownsRow base 5 size v n xs) (hg : w.heap[g]? = some (Obj.cells cs 31)) : some g ≠ v.ownBlock := by
  rcases h.2 with ⟨rfl, _⟩ | ⟨g', cap, cur, rfl, _, hh, _⟩
  · simp [Value.ownBlock]
  · intro he
    have e1 : g = g' := by simpa [Value.ownBlock] using he
    subst e1
    rw [hh] at hg
    simp at hg
/-- What holds while a label is written. -/
def PutRel (w : World) (bs : List Nat) (d : Nat) (pv : Value) (ps : List (Nat × Int)) (k : Nat) (v : Value) (wr : World) : Prop :=
  NB w.heap.size wr (bs ++ (d :: ps.length :: Pk.prsB (ps.take k))) v ∧ Below w.heap.size w wr ∧ wr.heap[w.heap.size]? = some (Obj.cells #[.int .i64 (d : Int), pv] 31)
set_option maxHeartbeats 2000000 in
theorem plabel_at (A : Option Addr) (c n : Nat) (bs : List Nat) (d : Nat) (a : Option Addr) (cap m : Nat) (ps : List (Nat × Int)) (w : World) (hn : bs.length = n) (hm : n ≤ 1000000) (hr : BR w A bs) (hA : A = none → c = 0)
   (hd : d < 256) (hml : ps.length = m) (hm2 : m < 256) (hp : ∀ p ∈ ps, p.1 < 4294967296 ∧ 0 ≤ p.2 ∧ p.2 < 256)
   (hc : ∀ (i : Nat) (p : Nat × Int), ps[i]? = some p → ∃ b off, a = some ⟨b, off, none⟩ ∧ b < w.heap.size ∧ w.cell? ⟨b, off + i * 2, none⟩ = some (.int .u32 p.1) ∧ w.cell? ⟨b, off + i * 2 + 1, none⟩ = some (.int .i64 p.2)) :
    Calls Try.prog 9 #[.slice A n c, .agg #[.int .i64 d, .slice a m cap]] w (NBs w (bs ++ Pk.lab d ps)) := by
  obtain ⟨i0, hi, hz0, hz1, hz2⟩ := info_parts info5
  obtain ⟨w1, e1⟩ : ∃ w1, w1 = w.alloc (Obj.cells #[.int .i64 (d : Int), .slice a m cap] 31) := ⟨_, rfl⟩
  have hb1 : Below w.heap.size w w1 := by rw [e1]; exact (Below.refl _ _).alloc (Nat.le_refl _) _
  have hk1 : w1.heap[w.heap.size]? = some (Obj.cells #[.int .i64 (d : Int), .slice a m cap] 31) := by rw [e1]; exact heap_alloc_new w _
  have hsz1 : w1.heap.size = w.heap.size + 1 := by rw [e1]; simp
  have C := Lib.hid (fun (W : World) (h : Below w1.heap.size w1 W) => clone_any A c n bs W hn (by omega) ((hr.below hb1).below h) hA)
  have HMK := Lib.hid (fun (W : World) (h : Below w1.heap.size w1 W) => (show W.cell? ⟨w.heap.size, 0, none⟩ = some (.int .i64 (d : Int)) ∧ W.cell? ⟨w.heap.size, 1, none⟩ = some (.slice a m cap) from by
    have k : W.heap[w.heap.size]? = some (Obj.cells #[.int .i64 (d : Int), .slice a m cap] 31) := by rw [h.block _ (by omega)]; exact hk1
    exact cells2 k))
  obtain ⟨q0, q1⟩ := HMK.out w1 (Below.refl _ _)
  have hcall := Lib.hid ((Below.refl w1.heap.size w1).drew)
  obtain ⟨bk, ebk⟩ : ∃ bk, bk = Obj.cells #[.int .u8 (d : Int), .int .u8 (m : Int)] 5 := ⟨_, rfl⟩
  have CA := Lib.hid (show Calls Try.prog 24 #[.slice A n c] w1.drew (fun e w' => ∃ v, e = .returned v ∧ NB w1.heap.size w' bs v ∧ Below w1.heap.size w1 w') from
    (C.out w1.drew hcall.out).mono fun e w' ⟨v, h1, h2, h3⟩ => ⟨v, h1, h2, hcall.out.trans h3⟩)
  have CB := Lib.hid (show Calls Try.prog 24 #[.slice A n c] (w1.drew.alloc (Obj.cells #[.int .u8 (d : Int), .int .u8 (m : Int)] 5)) (fun e w' => ∃ v, e = .returned v ∧ NB w1.heap.size w' bs v ∧ Below w1.heap.size w1 w' ∧ w'.heap[w1.heap.size]? = some (Obj.cells #[.int .u8 (d : Int), .int .u8 (m : Int)] 5)) from
    (C.out (w1.drew.alloc _) (hcall.out.alloc hcall.out.size _)).mono fun e w' ⟨v, h1, h2, h3⟩ => ⟨v, h1, h2.mono (by simp), (hcall.out.alloc hcall.out.size _).trans (h3.mono (by simp)), by
      rw [h3.block w1.heap.size (by simp)]; exact heap_alloc_new w1.drew _⟩)
  have HO := Lib.hid (fun (W : World) (v : Value) (h : NB w1.heap.size W bs v) => (show W.ownsRow w.heap.size 5 1 v n (Y bs) from by rw [← hn]; exact owns_mono h (by omega)))
  have HF2 := Lib.hid (fun (W W' : World) (v v' : Value) (h : NB w1.heap.size W bs v) (hb : Below w1.heap.size w1 W) (ho : W'.ownsRow w.heap.size 5 1 v' (n + 2) (Y bs ++ [.int .u8 (d : Int), .int .u8 (m : Int)])) (hg : W.grownBy W' v.ownBlock) =>
    (show Below w1.heap.size w1 W' ∧ PutRel w bs d (.slice a m cap) ps 0 v' W' from by
      have hb' : Below w1.heap.size w1 W' := hb.grown hg hb.size (fun k hk => (h.lt k hk).1)
      refine ⟨hb', ?_, hb1.trans (hb'.mono (by omega)), by rw [hb'.block _ (by omega)]; exact hk1⟩
      show W'.ownsRow w.heap.size 5 1 v' (bs ++ (d :: ps.length :: [])).length (Y (bs ++ (d :: ps.length :: [])))
      rw [Y_app, List.length_append, hn, hml]
      exact ho))
  have HF := Lib.hid (fun (W W' : World) (o : Obj) (v v' : Value) (h : NB w1.heap.size W bs v) (hb : Below w1.heap.size w1 W) (ho : W'.ownsRow w.heap.size 5 1 v' (n + 2) (Y bs ++ [.int .u8 (d : Int), .int .u8 (m : Int)])) (hg : (W.alloc o).grownBy W' v.ownBlock) =>
    HF2.out (W.alloc o) W' v v' (World.ownsRow.alloc h o) (hb.alloc hb.size o) ho hg)
  have n1 : ∀ (W : World) (cs : Array Value), (W.alloc (Obj.cells cs 5)).heap[W.heap.size]? = some (Obj.cells cs 5) := fun W cs => heap_alloc_new W _
  have N1 := Lib.hid n1
  have HS1 := Lib.hid hsz1
  clear n1 ebk hsz1
  have wd := u8_wrap d hd
  have wm := u8_wrap m hm2
  have HN := Lib.hid hn
  have HML := Lib.hid hml
  have HP := Lib.hid hp
  have HC := Lib.hid hc
  have HB1 := Lib.hid hb1
  have HK1 := Lib.hid hk1
  clear hn hr hA hml hp hc hb1 hk1
  go_enter Try.func9, Try.ntmps9
  go_upto_region 1 with fail
  rw [← e1]
  clear e1
  go_cut [5] (fun v wx => Hid (PutRel w bs d (.slice a m cap) ps 0 v wx))
  case first =>
    go_region_held3 (fun w' => w'.cell? ⟨w.heap.size, 0, none⟩ = some (.int .i64 (d : Int)) ∧ w'.cell? ⟨w.heap.size, 1, none⟩ = some (.slice a m cap))
      (first
        | exact HMK.out _ hcall.out
        | exact HMK.out _ (hcall.out.alloc hcall.out.size _))
      (first
        | (refine CA.out.mono ?_
           rintro e w2 ⟨v, rfl, hnb, hb2⟩
           replace hcall := Lib.hid hb2
           replace hnb := Lib.hid hnb
           clear hb2)
        | (refine CB.out.mono ?_
           rintro e w2 ⟨v, rfl, hnb, hb2, hk2⟩
           replace hcall := Lib.hid hb2
           replace hnb := Lib.hid hnb
           replace hk2 := Lib.hid hk2
           clear hb2)
        | (refine step_append_own _ (by rfl) _ _ _ (by rfl) w.heap.size 5 i0 _ 1 1 Try.underlying24 hi hz0 hz1 hz2 rfl (by omega) v n _ (by rfl) ((HO.out _ _ hnb.out).alloc _)
            ⟨w2.heap.size, 0, none⟩ 2 2 [.int .u8 (d : Int), .int .u8 (m : Int)] (by rfl) (by rfl) (World.news_of_block (cs := #[.int .u8 (d : Int), .int .u8 (m : Int)]) (t := 5) (fr := (0, 0)) (N1.out w2 _)) (by simp [Value.oneCell']) (by unfold maxLen; omega) (by omega) (by have := hcall.out.size; have := HS1.out; simp; omega) ?_
           intro v' w3 hown3 hg3 _
           have hfin := HF.out w2 w3 _ v v' hnb.out hcall.out hown3 hg3
           replace hfin := Lib.hid hfin
           replace hcall := Lib.hid (hfin.out.1)
           clear hown3 hg3)
        | (refine step_append_own _ (by rfl) _ _ _ (by rfl) w.heap.size 5 i0 _ 1 1 Try.underlying24 hi hz0 hz1 hz2 rfl (by omega) v n _ (by rfl) (HO.out _ _ hnb.out)
            ⟨w1.heap.size, 0, none⟩ 2 2 [.int .u8 (d : Int), .int .u8 (m : Int)] (by rfl) (by rfl) (World.news_of_block (cs := #[.int .u8 (d : Int), .int .u8 (m : Int)]) (t := 5) (fr := (0, 0)) hk2.out) (by simp [Value.oneCell']) (by unfold maxLen; omega) (by omega) (by have := hcall.out.size; have := HS1.out; omega) ?_
           intro v' w3 hown3 hg3 _
           have hfin := HF2.out w2 w3 v v' hnb.out hcall.out hown3 hg3
           replace hfin := Lib.hid hfin
           replace hcall := Lib.hid (hfin.out.1)
           clear hown3 hg3))
    all_goals
      go_wp2_with fail
      go_meet
      exact Lib.hid hfin.out.2
  case rest =>
    have HR0 := hcut
    clear hcut hcall CA CB HO HF HF2 N1 C HMK q0 q1 wd wm
    obtain ⟨X, rfl⟩ : ∃ X, X = wc := ⟨_, rfl⟩
    obtain ⟨q0, q1⟩ := cells2 HR0.out.2.2
    go_wp2_with fail
    go_loopg [5, 23] m (fun g v i wr => ∃ k : Nat, k ≤ m ∧ Hid (g = m - k) ∧ i = .int .i64 k ∧ Hid (PutRel w bs d (.slice a m cap) ps k v wr))
    case atStart => exact ⟨0, by omega, Lib.hid (by omega), rfl, HR0⟩
    case round =>
      obtain ⟨k, hk, hg, rfl, hrl⟩ := hrel
      clear HR0 q0 q1
      by_cases hlt : k < m
      · obtain ⟨⟨pc, pl⟩, hp⟩ : ∃ p, ps[k]? = some p := ⟨_, List.getElem?_eq_getElem (by rw [HML.out]; exact hlt)⟩
        obtain ⟨b, off, rfl, hb, x1, x2⟩ := HC.out k _ hp
        have hpb := HP.out _ (List.mem_of_getElem? hp)
        simp only at x1 x2 hpb
        obtain ⟨l, rfl⟩ : ∃ l : Nat, pl = (l : Int) := ⟨pl.toNat, by omega⟩
        have y1 : wr.cell? ⟨b, off + k * 2, none⟩ = some (.int .u32 pc) := by rw [hrl.out.2.1.cell (p := ⟨b, _, none⟩) hb]; exact x1
        have y2 : wr.cell? ⟨b, off + k * 2 + 1, none⟩ = some (.int .i64 l) := by rw [hrl.out.2.1.cell (p := ⟨b, _, none⟩) hb]; exact x2
        have hst := Lib.hid (Pk.prsB_take hp)
        have wl := u8_wrap l (by omega)
        clear x1 x2 hp
        obtain ⟨q, eq⟩ : ∃ q, (bs ++ (d :: ps.length :: Pk.prsB (ps.take k))).length = q := ⟨_, rfl⟩
        obtain ⟨ys, eys⟩ : ∃ ys, Y (bs ++ (d :: ps.length :: Pk.prsB (ps.take k))) = ys := ⟨_, rfl⟩
        have hq : q ≤ 1100000 := by
          rw [← eq, List.length_append, HN.out, List.length_cons, List.length_cons, Pk.prsB_len, List.length_take]
          omega
        have ho := hrl.out.1
        unfold NB at ho
        rw [eq, eys] at ho
        have HO := Lib.hid ho
        have hwr := hrl.out.2.1.size
        have hpc := hpb.1
        have hwsz : w.heap.size < wr.heap.size := (Array.getElem?_eq_some_iff.1 hrl.out.2.2).1
        have HQ := Lib.hid (And.intro eq eys)
        have HPC := Lib.hid (pair_cells pc l hpc)
        clear ho eq eys
        go_wp2_with (at_builtin; refine wpList_append_own _ rfl _ _ 24 rfl w.heap.size 5 i0 (.int .u8 0) 1 1 Try.underlying24 hi hz0 hz1 hz2 rfl (by decide) _ q ys rfl ((HO.out.alloc _).alloc _) ⟨wr.heap.size + 1, 0, none⟩ 5 5 [.int .u8 ((pc : Int) / 16777216), .int .u8 ((pc : Int) / 65536 % 256), .int .u8 ((pc : Int) / 256 % 256), .int .u8 ((pc : Int) % 256), .int .u8 (l : Int)] rfl rfl ?c1 (by simp [Value.oneCell']) (by unfold maxLen; omega) (by omega) (by simp; omega) ?_)
        case c1 => exact World.news_of_block (cs := #[.int .u8 ((pc : Int) / 16777216), .int .u8 ((pc : Int) / 65536 % 256), .int .u8 ((pc : Int) / 256 % 256), .int .u8 ((pc : Int) % 256), .int .u8 (l : Int)]) (t := 5) (fr := (0, 0)) (by have := heap_alloc_new (wr.alloc (Obj.cells #[.int .u32 (pc : Int), .int .i64 (l : Int)] 57)) (Obj.cells #[.int .u8 ((pc : Int) / 16777216), .int .u8 ((pc : Int) / 65536 % 256), .int .u8 ((pc : Int) / 256 % 256), .int .u8 ((pc : Int) % 256), .int .u8 (l : Int)] 5); simpa using this)
        intro v' w3 hown3 hg3 _
        have hnx := Lib.hid (show PutRel w bs d (.slice (some ⟨b, off, none⟩) m cap) ps (k + 1) v' w3 from by
          obtain ⟨r1, r2, r3⟩ := hrl.out
          have hb2 : Below wr.heap.size wr ((wr.alloc (Obj.cells #[.int .u32 (pc : Int), .int .i64 (l : Int)] 57)).alloc (Obj.cells #[.int .u8 ((pc : Int) / 16777216), .int .u8 ((pc : Int) / 65536 % 256), .int .u8 ((pc : Int) / 256 % 256), .int .u8 ((pc : Int) % 256), .int .u8 (l : Int)] 5)) := ((Below.refl _ _).alloc (Nat.le_refl _) _).alloc (by simp) _
          refine ⟨?_, (r2.trans (hb2.mono hwr)).grown hg3 (by simp; omega) (fun g hgg => (HO.out.lt g hgg).1), ?_⟩
          · have e : bs ++ (d :: ps.length :: Pk.prsB (ps.take (k + 1))) = (bs ++ (d :: ps.length :: Pk.prsB (ps.take k))) ++ Pk.pair (pc, (l : Int)) := by
              rw [hst.out, List.append_assoc]; rfl
            unfold NB
            rw [e, List.length_append, Y_app, HQ.out.1, HQ.out.2, ← HPC.out]
            exact hown3
          · rw [hg3.block _ (by simp; omega) (own_ne5 HO.out r3), hb2.block _ hwsz]; exact r3)
        clear hown3 hg3
        go_wp2_with fail
        go_roundg (m - (k + 1))
        case measure => rw [hg.out]; omega
        case rel => exact ⟨k + 1, by omega, Lib.hid rfl, by go_num, hnx⟩
      · obtain ⟨r1, r2, r3⟩ := hrl.out
        obtain rfl : k = m := by omega
        have e : bs ++ (d :: ps.length :: Pk.prsB (ps.take k)) = bs ++ Pk.lab d ps := by
          rw [List.take_of_length_le (by rw [HML.out]; omega)]; rfl
        rw [e] at r1
        have R1 := Lib.hid r1
        have R2 := Lib.hid r2
        clear r1 r2 r3 e hrl
        go_wp2_with fail
        go_ret
        exact ⟨_, rfl, R1.out, R2.out⟩
/-- pack.Label, of a label whose numbers its bytes can hold. -/
theorem plabel_any (A : Option Addr) (c n : Nat) (bs : List Nat) (D : Int) (v : Value) (ps : List (Nat × Int)) (w : World) (hn : bs.length = n) (hm : n ≤ 1000000) (hr : BR w A bs) (hA : A = none → c = 0) (hs : Pk.Small D ps) (hv : RC w.heap.size w v ps) :
    Calls Try.prog 9 #[.slice A n c, .agg #[.int .i64 D, v]] w (NBs w (bs ++ Pk.lab D ps)) := by
  obtain ⟨s1, s2, s3, s4⟩ := hs
  obtain ⟨d, rfl⟩ : ∃ d : Nat, D = (d : Int) := ⟨D.toNat, by omega⟩
  rcases hv with ⟨rfl, rfl⟩ | ⟨b, off, cap, rfl, h2, h3, h4, h5⟩
  · exact plabel_at A c n bs d none 0 0 [] w hn hm hr hA (by omega) rfl (by omega) (by simp) (fun i p h => by simp at h)
  · exact plabel_at A c n bs d _ cap _ ps w hn hm hr hA (by omega) rfl s3 s4 (fun i p h => ⟨b, off, rfl, h2, h5 i p h⟩)
end Go.Proofs.Ytjmfjehjlnghmaa
