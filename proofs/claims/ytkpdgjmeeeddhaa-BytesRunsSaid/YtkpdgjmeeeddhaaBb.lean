/- Segments in memory: what each call reads of them. -/
import Derived.Test.YtkpdgjmeeeddhaaBa
import Derived.Test.YtkpdgjmeeeddhaaVs
import Derived.StillTailTactics
import Derived.BigRegion
set_option linter.unusedVariables false
set_option linter.unusedSimpArgs false
namespace Go.Proofs.Ytkpdgjmeeeddhaa
open Go.RowKit
set_option linter.unusedVariables false
set_option linter.unusedSimpArgs false
variable {w w' w2 : World} {b o R c : Nat} {v : Value} {fs S os : List Nat} {ds : List (List Nat)}
def encI (f : Nat) : Value := .int .i64 (f : Int)
theorem encI_one (f : Nat) : (encI f).oneCell' = true := rfl
/-- All but pools is as it was. -/
structure Kp (w w' : World) : Prop where
  size : w.heap.size ≤ w'.heap.size
  block : ∀ (k : Nat) (cs : Array Value) (t : TypeId), w.heap[k]? = some (Obj.cells cs t) → t ≠ 56 → t ≠ 68 → w'.heap[k]? = w.heap[k]?
theorem Kp.refl (w : World) : Kp w w := ⟨Nat.le_refl _, fun _ _ _ _ _ _ => rfl⟩
theorem Kp.trans (h : Kp w w') (k : Kp w' w2) : Kp w w2 := ⟨Nat.le_trans h.size k.size, fun i cs t hi h1 h2 => (k.block i cs t ((h.block i cs t hi h1 h2).trans hi) h1 h2).trans (h.block i cs t hi h1 h2)⟩
theorem Kp.below (h : Below w.heap.size w w') : Kp w w' := ⟨h.size, fun k cs t hk _ _ => h.block k (Array.getElem?_eq_some_iff.1 hk).1⟩
theorem Kp.turn (hp : Pl w R S os ds) (h : Turn S w w') : Kp w w' := ⟨h.size, fun k cs t hk h1 h2 => h.block k (Array.getElem?_eq_some_iff.1 hk).1 fun hm => by
  obtain ⟨B, cs', rfl, g1, g2, _⟩ := hp
  rcases List.mem_cons.1 hm with rfl | hm
  · rw [g1] at hk; injection hk with hk; injection hk with _ hk; exact h1 hk.symm
  · obtain rfl := List.mem_singleton.1 hm
    rw [g2] at hk; injection hk with hk; injection hk with _ hk; exact h2 hk.symm⟩
/-- The segment at ⟨b, o⟩: v is what it holds. -/
structure SV (w : World) (b o : Nat) (v : Value) (fs : List Nat) : Prop where
  c : w.cell? ⟨b, o, none⟩ = some v
  h : ∃ cs, w.heap[b]? = some (Obj.cells cs 37)
  r : RW (fun _ => True) 3 encI w v fs
  l : fs.length ≤ 16
theorem SV.f (h : SV w b o v fs) : w.frozen? ⟨b, o, none⟩ = false := by
  obtain ⟨cs, h⟩ := h.h; exact frozen_of_row _ _ _ _ _ h
theorem SV.lt (h : SV w b o v fs) : b < w.heap.size := World.block_lt_of_cell? w _ h.c
theorem SV.kp (h : SV w b o v fs) (k : Kp w w') : SV w' b o v fs := by
  obtain ⟨cs, hh⟩ := h.h
  have e := k.block b cs _ hh (by decide) (by decide)
  exact ⟨by have := h.c; rw [cell_of_row _ _ _ _ _ _ hh] at this; rw [cell_of_row _ _ _ _ _ _ (e.trans hh)]; exact this, ⟨cs, e.trans hh⟩, h.r.keep fun b cur _ hb => ⟨trivial, k.block b cur _ hb (by decide) (by decide)⟩, h.l⟩
theorem SV.below (h : SV w b o v fs) (hb : Below w.heap.size w w') : SV w' b o v fs := h.kp (Kp.below hb)
theorem SV.form (h : SV w b o v fs) : ∃ A c, v = .slice A fs.length c ∧ fs.length ≤ c ∧ c ≤ maxLen ∧ LR encI w A fs := h.r.form
theorem pages_any (h : SV w b o v fs) : Calls Try.prog 13 #[.pointer (some ⟨b, o, none⟩)] w fun e w' => e = .returned (.int .i64 (fs.length : Nat)) ∧ w = w' := by
  obtain ⟨A, c, rfl, h1, h2, _⟩ := h.form
  have c0 := h.c
  have f0 := h.f
  obtain ⟨n, en⟩ : ∃ n, fs.length = n := ⟨_, rfl⟩
  rw [en] at c0 ⊢
  clear h h1 h2 en
  go_enter Try.func13, Try.ntmps13
  go_wp2_with fail
  go_ret
  exact ⟨rfl, rfl⟩
theorem pages_nil (w : World) : Calls Try.prog 13 #[.pointer none] w fun e w' => e = .returned (.int .i64 0) ∧ w = w' := by
  go_enter Try.func13, Try.ntmps13
  go_wp2_with fail
  go_ret
  exact ⟨rfl, rfl⟩
theorem size_any (h : SV w b o v fs) : Calls Try.prog 12 #[.pointer (some ⟨b, o, none⟩)] w fun e w' => e = .returned (.int .i64 (64 * fs.length : Nat)) ∧ w = w' := by
  have C := Lib.hid (pages_any h)
  have hl := h.l
  obtain ⟨n, en⟩ : ∃ n, fs.length = n := ⟨_, rfl⟩
  rw [en] at C hl ⊢
  have e1 : IntKind.i64.wrap ((n : Int) * 64) = ((64 * n : Nat) : Int) := by rw [IntKind.wrap_i64]; omega
  obtain ⟨m, em⟩ : ∃ m, 64 * n = m := ⟨_, rfl⟩
  rw [em] at e1 ⊢
  clear h en em
  go_enter Try.func12, Try.ntmps12
  go_wp2_with fail
  refine C.out.mono ?_
  rintro e w1 ⟨rfl, rfl⟩
  go_wp2_with fail
  go_ret
  exact ⟨rfl, rfl⟩
theorem size_nil (w : World) : Calls Try.prog 12 #[.pointer none] w fun e w' => e = .returned (.int .i64 0) ∧ w = w' := by
  have C := Lib.hid (pages_nil w)
  go_enter Try.func12, Try.ntmps12
  go_wp2_with fail
  refine C.out.mono ?_
  rintro e w1 ⟨rfl, rfl⟩
  go_wp2_with fail
  go_ret
  exact ⟨rfl, rfl⟩
theorem frame_in {k f : Nat} (h : SV w b o v fs) (hk : fs[k]? = some f) : Calls Try.prog 17 #[.pointer (some ⟨b, o, none⟩), .int .i64 (k : Int)] w fun e w' => e = .returned (.int .i64 (f : Int)) ∧ w = w' := by
  have C := Lib.hid (pages_any h)
  obtain ⟨A, c, rfl, h1, h2, h3⟩ := h.form
  have c0 := h.c
  have f0 := h.f
  have hlt := (List.getElem?_eq_some_iff.1 hk).1
  have hl := h.l
  obtain ⟨g, off, rfl, _, h4⟩ := h3 k f hk
  unfold encI at h4
  obtain ⟨n, en⟩ : ∃ n, fs.length = n := ⟨_, rfl⟩
  rw [en] at c0 C hlt hl
  have t1 : ¬ (n : Int) ≤ (k : Int) := by omega
  have t2 : (k : Int) < n := by omega
  clear h h1 h2 h3 hk en
  go_enter Try.func17, Try.ntmps17
  go_wp2_with fail
  refine C.out.mono ?_
  rintro e w1 ⟨rfl, rfl⟩
  go_wp2_with fail
  go_ret
  exact ⟨rfl, rfl⟩
theorem frame_out {i : Int} (h : SV w b o v fs) (hi : i < 0 ∨ fs.length ≤ i) : Calls Try.prog 17 #[.pointer (some ⟨b, o, none⟩), .int .i64 i] w fun e w' => e = .returned (.int .i64 0) ∧ w = w' := by
  have C := Lib.hid (pages_any h)
  obtain ⟨n, en⟩ : ∃ n, fs.length = n := ⟨_, rfl⟩
  rw [en] at C hi
  clear h en
  by_cases h0 : i < 0
  · clear hi
    go_enter Try.func17, Try.ntmps17
    go_wp2_with fail
    go_ret
    exact ⟨rfl, rfl⟩
  · have t1 : (n : Int) ≤ i := by omega
    clear hi
    go_enter Try.func17, Try.ntmps17
    go_wp2_with fail
    refine C.out.mono ?_
    rintro e w1 ⟨rfl, rfl⟩
    go_wp2_with fail
    go_ret
    exact ⟨rfl, rfl⟩
/-- Parts, as cells. -/
def encP (p : Sg.Pt) : List Value := [.int .i64 (p.f : Int), .int .i64 (p.a : Int), .int .i64 (p.l : Int)]
theorem encP_len (p : Sg.Pt) : (encP p).length = 3 := rfl
theorem encP_one (p : Sg.Pt) : ∀ u ∈ encP p, u.oneCell' = true := fun u hu => by
  simp only [encP, List.mem_cons, List.not_mem_nil, or_false] at hu
  rcases hu with rfl | rfl | rfl <;> rfl
section
variable {own own' : Nat → Prop} {ps : List Sg.Pt} {p : Sg.Pt} {n i : Nat}
/-- A row of parts. -/
def PR (own : Nat → Prop) (w : World) (v : Value) (ps : List Sg.Pt) : Prop := RV own 63 3 encP w v ps
theorem PR.keep (h : PR own w v ps) (hk : ∀ b cur, own b → w.heap[b]? = some (Obj.cells cur 63) → own' b ∧ w'.heap[b]? = w.heap[b]?) : PR own' w' v ps := RV.keep h hk
theorem PR.below (h : PR own w v ps) (hb : Below w.heap.size w w') : PR own w' v ps := h.keep fun b cur ho hc => ⟨ho, hb.block b (Array.getElem?_eq_some_iff.1 hc).1⟩
theorem PR.one (w : World) (p : Sg.Pt) (ho : own w.heap.size) : PR own (w.alloc (Obj.cells #[.int .i64 (p.f : Int), .int .i64 (p.a : Int), .int .i64 (p.l : Int)] 63)) (.slice (some ⟨w.heap.size, 0, none⟩) 1 1) [p] := by
  refine .inr ⟨w.heap.size, 0, 1, _, rfl, ho, heap_alloc_new w _, by simp, Nat.le_refl _, by unfold maxLen; omega, fun i x hi j u hu => ?_⟩
  match i with
  | 0 =>
    obtain rfl : p = x := by simpa using hi
    match j with
    | 0 => simpa [encP] using hu
    | 1 => simpa [encP] using hu
    | 2 => simpa [encP] using hu
    | j + 3 => simp [encP] at hu
  | i + 1 => simp at hi
theorem infoP : (Try.prog.info? 63).map (fun i => (i.zero, i.size, i.bytes)) = some (some (.agg #[.int .i64 0, .int .i64 0, .int .i64 0]), 3, 24) := by kernel_rfl
/-- One more. -/
theorem append_p (ty : TypeId) (h : PR own w v ps) (hl : ps.length + 1 ≤ 100000) :
    ∃ v' w', (Builtin.append_ #[59, 59] ty #[v, .slice (some ⟨w.heap.size, 0, none⟩) 1 1]).run Try.prog (w.alloc (Obj.cells #[.int .i64 (p.f : Int), .int .i64 (p.a : Int), .int .i64 (p.l : Int)] 63)) = .ok v' w' ∧ PR (fun b => own b ∨ w.heap.size ≤ b) w' v' (ps ++ [p]) ∧ ∃ S, Turn S w w' ∧ ∀ b ∈ S, own b ∧ ∃ cur, w.heap[b]? = some (Obj.cells cur 63) := by
  obtain ⟨i, hi, hie⟩ := Option.map_eq_some_iff.1 infoP
  injection hie with hz h2
  injection h2 with hsz hby
  have b1 := below_alloc1 w (Obj.cells #[.int .i64 (p.f : Int), .int .i64 (p.a : Int), .int .i64 (p.l : Int)] 63)
  have hlv : LV 3 encP (w.alloc (Obj.cells #[.int .i64 (p.f : Int), .int .i64 (p.a : Int), .int .i64 (p.l : Int)] 63)) (some ⟨w.heap.size, 0, none⟩) [p] := by
    obtain ⟨A, c, e, _, _, h⟩ := RV.form (PR.one (own := fun _ => True) w p trivial)
    injection e with e
    rw [e]; exact h
  obtain ⟨v', w', hrun, hr, S, hT, hS⟩ := append_rv (P := Try.prog) (ys := [p]) 59 ty i _ 24 Try.underlying59 hi hz hsz hby (by omega) rfl encP_len encP_one (by omega) (h.below b1) (by simpa using hl) (some ⟨w.heap.size, 0, none⟩) 1 (by simp) hlv
  refine ⟨v', w', hrun, hr.keep fun b cur hb _ => ⟨?_, rfl⟩, S.filter (· < w.heap.size), ?_, fun b hb => ?_⟩
  · rcases hb with h | h
    · exact .inl h
    · exact .inr (by simp at h; omega)
  · refine ⟨hT.os.trans b1.os, hT.tape.trans b1.tape, hT.output.trans b1.output, Nat.le_trans b1.size hT.size, fun k hk hn => ?_⟩
    rw [hT.block k (Nat.lt_of_lt_of_le hk b1.size) (fun hm => hn (List.mem_filter.2 ⟨hm, by simpa using hk⟩)), b1.block k hk]
  · have hm := List.mem_filter.1 hb
    have hlt : b < w.heap.size := by simpa using hm.2
    obtain ⟨h1, cur, h2⟩ := hS b hm.1
    exact ⟨h1, cur, by rw [← h2]; exact (b1.block b hlt).symm⟩
/-- One of them is read. -/
theorem PR.at_ (h : PR own w v ps) (hi : ps[i]? = some p) : ∃ g o c, v = .slice (some ⟨g, o, none⟩) ps.length c ∧ ps.length ≤ c ∧ c ≤ maxLen ∧ own g ∧ ∃ cur, w.heap[g]? = some (Obj.cells cur 63) ∧ cur[o + i * 3]? = some (.int .i64 (p.f : Int)) ∧ cur[o + i * 3 + 1]? = some (.int .i64 (p.a : Int)) ∧ cur[o + i * 3 + 2]? = some (.int .i64 (p.l : Int)) := by
  rcases h with ⟨rfl, _⟩ | ⟨g, o, cap, cur, rfl, h1, h2, h3, h4, h5, h6⟩
  · simp at hi
  · exact ⟨g, o, cap, rfl, h4, h5, h1, cur, h2, h6 i p hi 0 _ rfl, h6 i p hi 1 _ rfl, h6 i p hi 2 _ rfl⟩
end
theorem min2 {P : Program} (w : World) (ts : Array TypeId) (t : TypeId) (k k' : IntKind) (x y : Int) : (Builtin.min_ ts t #[.int k x, .int k' y]).run P w = .ok (.int k (min x y)) w := by
  have e : ∀ x y : Int, (if y < x then y else x) = min x y := fun x y => by
    rw [Int.min_def]; split <;> split <;> omega
  simp [Builtin.min_, Builtin.min2, e]
end Go.Proofs.Ytkpdgjmeeeddhaa
