/- config's reader: lists. -/
import Derived.Test.YtmadldgajjgbmaaGb
set_option linter.unusedVariables false
set_option linter.unusedSimpArgs false
namespace Go.Proofs.Ytmadldgajjgbmaa
open Go.RowKit
set_option linter.unusedVariables false
set_option linter.unusedSimpArgs false
theorem RE.keeps {w w' : World} {R g : Nat} {s t : St} {cs : Array Value} {T : TypeId} (h : RE w R t w') (hr : Rd w R s.1 s.2) (hh : w.heap[g]? = some (Obj.cells cs T)) (hT : T ≠ 100) : w'.heap[g]? = some (Obj.cells cs T) := hr.keeps h.2 hh hT
theorem RE.trans {w1 w2 w3 : World} {R : Nat} {t t' : St} (h : RE w1 R t w2) (h' : RE w2 R t' w3) : RE w1 R t' w3 := ⟨h'.1, grown_trans h.2 h'.2⟩
theorem RE.below {w1 w2 w3 : World} {R : Nat} {t : St} (h : RE w1 R t w2) (hb : Below w2.heap.size w2 w3) : RE w1 R t w3 := ⟨h.1.below hb, grown_trans h.2 (grown_below hb)⟩
theorem RE.turn {w1 w2 w3 : World} {R : Nat} {t : St} {S : List Nat} {T : TypeId} (h : RE w1 R t w2) (hT : Turn S w2 w3) (hS : ∀ b ∈ S, w1.heap.size ≤ b ∧ ∃ cur, w2.heap[b]? = some (Obj.cells cur T)) (h5 : T ≠ 5) (h1 : T ≠ 100) : RE w1 R t w3 := by
  obtain ⟨A, c, hR, _⟩ := h.1.cells
  have hk : ∀ b cur u, u ≠ T → w2.heap[b]? = some (Obj.cells cur u) → w3.heap[b]? = w2.heap[b]? := fun b cur u hu hb => hT.block b (Array.getElem?_eq_some_iff.1 hb).1 fun hm => by
    obtain ⟨_, cur', h2⟩ := hS b hm
    exact hu (cells_ty hb h2)
  exact ⟨h.1.kept (fun b c hb => (hk b c _ (Ne.symm h5) hb).trans hb) (hk R _ _ (Ne.symm h1) hR), ⟨hT.os.trans h.2.os, hT.tape.trans h.2.tape, hT.output.trans h.2.output, Nat.le_trans h.2.size hT.size, fun k hk' hne => (hT.block k (Nat.lt_of_lt_of_le hk' h.2.size) fun hm => by have := (hS k hm).1; omega).trans (h.2.block k hk' hne)⟩⟩
/-- While a list is read. -/
def LI {α β : Type} (T : TypeId) (sz : Nat) (enc : α → List Value) (g : α → β) (f : St → β × St) (E : World → List α → Prop) (w : World) (R X n : Nat) (s1 : St) (k : Nat) (v : Value) (wr : World) : Prop :=
  ∃ xs t, RV (fun b => w.heap.size ≤ b) T sz enc wr v xs ∧ xs.length = k ∧ RE w R t wr ∧ rList f n s1 = (xs.map g ++ (rList f (n - k) t).1, (rList f (n - k) t).2) ∧ wr.heap[X]? = some (Obj.cells #[.pointer (some ⟨R, 0, none⟩)] 76) ∧ E wr xs
theorem LI.app {α β : Type} {T : TypeId} {sz : Nat} {enc : α → List Value} {g : α → β} {f : St → β × St} {E : World → List α → Prop} {w : World} {R X n : Nat} {s1 : St} {k : Nat} {wr w1 w2 : World} {v' : Value} {xs : List α} {t : St} {x : α} {S : List Nat}
    (hk : k < n) (h2 : xs.length = k) (h3 : RE w R t wr) (h4 : rList f n s1 = (xs.map g ++ (rList f (n - k) t).1, (rList f (n - k) t).2)) (h5 : wr.heap[X]? = some (Obj.cells #[.pointer (some ⟨R, 0, none⟩)] 76)) (hre : RE wr R (f t).2 w1) (hx : g x = (f t).1)
    (hrv : RV (fun b => w.heap.size ≤ b ∨ w1.heap.size ≤ b) T sz enc w2 v' (xs ++ [x])) (hT : Turn S w1 w2) (hS : ∀ b ∈ S, w.heap.size ≤ b ∧ ∃ cur, w1.heap[b]? = some (Obj.cells cur T)) (hT5 : T ≠ 5) (hTR : T ≠ 100) (hTX : T ≠ 76) (hE : E w2 (xs ++ [x])) :
    LI T sz enc g f E w R X n s1 (k + 1) v' w2 := by
  have h1 := h3.trans hre
  have hX1 := hre.keeps h3.1 h5 (by decide)
  refine ⟨xs ++ [x], (f t).2, hrv.keep fun b cur hb _ => ⟨by rcases hb with h | h; exact h; exact Nat.le_trans h1.2.size h, rfl⟩, by rw [List.length_append, h2]; rfl, h1.turn hT hS hT5 hTR, ?_, (hT.block X (Array.getElem?_eq_some_iff.1 hX1).1 fun hm => ?_).trans hX1, hE⟩
  · rw [h4, show n - k = (n - (k + 1)) + 1 by omega, rList, List.map_append]
    simp [hx]
  · obtain ⟨_, cur', h2⟩ := hS X hm
    exact hTX (cells_ty h2 hX1)
theorem LI.done {α β : Type} {T : TypeId} {sz : Nat} {enc : α → List Value} {g : α → β} {f : St → β × St} {E : World → List α → Prop} {w : World} {R X n : Nat} {s1 : St} {v : Value} {wr : World} (h : LI T sz enc g f E w R X n s1 n v wr) :
    ∃ xs, RV (fun b => w.heap.size ≤ b) T sz enc wr v xs ∧ xs.map g = (rList f n s1).1 ∧ RE w R (rList f n s1).2 wr ∧ E wr xs := by
  obtain ⟨xs, t, h1, h2, h3, h4, h5, h6⟩ := h
  rw [Nat.sub_self, rList] at h4
  refine ⟨xs, h1, by rw [h4]; simp, by rw [h4]; exact h3, h6⟩
theorem app_sl1 {own : Nat → Prop} {w : World} {v : Value} {xs : List Sl} (ty : TypeId) (x : Sl) (h : RV own 49 2 encSl w v xs) (hl : xs.length + 1 ≤ 100000) :
    ∃ v' w', (Builtin.append_ #[22, 22] ty #[v, .slice (some ⟨w.heap.size, 0, none⟩) 1 1]).run Try.prog (w.alloc (Obj.cells #[.int .u64 (x.ct : Int), .int .i64 x.tk] 49)) = .ok v' w' ∧ RV (fun b => own b ∨ w.heap.size ≤ b) 49 2 encSl w' v' (xs ++ [x]) ∧ ∃ S, Turn S w w' ∧ ∀ b ∈ S, own b ∧ ∃ cur, w.heap[b]? = some (Obj.cells cur 49) := by
  obtain ⟨i, hi, hz, hsz, hby⟩ := info_parts infoSl
  have b1 := below_alloc1 w (Obj.cells #[.int .u64 (x.ct : Int), .int .i64 x.tk] 49)
  have hn := heap_alloc_new w (Obj.cells #[.int .u64 (x.ct : Int), .int .i64 x.tk] 49)
  have hlv : LV 2 encSl (w.alloc (Obj.cells #[.int .u64 (x.ct : Int), .int .i64 x.tk] 49)) (some ⟨w.heap.size, 0, none⟩) [x] := fun i q hi => by
    match i, hi with
    | 0, hi =>
      obtain rfl : x = q := by simpa using hi
      refine ⟨_, _, rfl, by simp, fun j u hu => ?_⟩
      rw [cell_of_row _ _ _ _ _ (0, 0) hn]
      simpa [encSl, inU] using hu
  obtain ⟨v', w', hrun, hr, S, hT, hS⟩ := append_rv (P := Try.prog) (ys := [x]) 22 ty i _ 16 Try.underlying22 hi hz hsz hby (by omega) rfl (fun _ => rfl) encSl_one (by omega) (h.keep fun b cur h1 h2 => ⟨(show own b ∧ b < w.heap.size from ⟨h1, (Array.getElem?_eq_some_iff.1 h2).1⟩), b1.block b (Array.getElem?_eq_some_iff.1 h2).1⟩) (by simpa using hl) (some ⟨w.heap.size, 0, none⟩) 1 (by simp) hlv
  refine ⟨v', w', hrun, hr.keep fun b cur h1 _ => ⟨h1.imp (·.1) fun h => by simp at h; omega, rfl⟩, S, (Turn.of_below b1).trans hT fun x hx => .inl hx, fun b hb => ?_⟩
  obtain ⟨⟨h1, h2⟩, cur, h3⟩ := hS b hb
  exact ⟨h1, cur, (b1.block b h2).symm.trans h3⟩
theorem app_mp1 {own : Nat → Prop} {w : World} {v : Value} {xs : List Mp} (ty : TypeId) (x : Mp) (h : RV own 93 5 encM w v xs) (hl : xs.length + 1 ≤ 100000) :
    ∃ v' w', (Builtin.append_ #[42, 42] ty #[v, .slice (some ⟨w.heap.size, 0, none⟩) 1 1]).run Try.prog (w.alloc (Obj.cells #[.int .i64 x.at_, .int .u64 (x.sg : Int), .int .i64 x.fr, .int .i64 x.n, .bool x.wr] 93)) = .ok v' w' ∧ RV (fun b => own b ∨ w.heap.size ≤ b) 93 5 encM w' v' (xs ++ [x]) ∧ ∃ S, Turn S w w' ∧ ∀ b ∈ S, own b ∧ ∃ cur, w.heap[b]? = some (Obj.cells cur 93) := by
  obtain ⟨i, hi, hz, hsz, hby⟩ := info_parts infoM
  have b1 := below_alloc1 w (Obj.cells #[.int .i64 x.at_, .int .u64 (x.sg : Int), .int .i64 x.fr, .int .i64 x.n, .bool x.wr] 93)
  have hn := heap_alloc_new w (Obj.cells #[.int .i64 x.at_, .int .u64 (x.sg : Int), .int .i64 x.fr, .int .i64 x.n, .bool x.wr] 93)
  have hlv : LV 5 encM (w.alloc (Obj.cells #[.int .i64 x.at_, .int .u64 (x.sg : Int), .int .i64 x.fr, .int .i64 x.n, .bool x.wr] 93)) (some ⟨w.heap.size, 0, none⟩) [x] := fun i q hi => by
    match i, hi with
    | 0, hi =>
      obtain rfl : x = q := by simpa using hi
      refine ⟨_, _, rfl, by simp, fun j u hu => ?_⟩
      rw [cell_of_row _ _ _ _ _ (0, 0) hn]
      simpa [encM, inU] using hu
  obtain ⟨v', w', hrun, hr, S, hT, hS⟩ := append_rv (P := Try.prog) (ys := [x]) 42 ty i _ 40 Try.underlying42 hi hz hsz hby (by omega) rfl (fun _ => rfl) encM_one (by omega) (h.keep fun b cur h1 h2 => ⟨(show own b ∧ b < w.heap.size from ⟨h1, (Array.getElem?_eq_some_iff.1 h2).1⟩), b1.block b (Array.getElem?_eq_some_iff.1 h2).1⟩) (by simpa using hl) (some ⟨w.heap.size, 0, none⟩) 1 (by simp) hlv
  refine ⟨v', w', hrun, hr.keep fun b cur h1 _ => ⟨h1.imp (·.1) fun h => by simp at h; omega, rfl⟩, S, (Turn.of_below b1).trans hT fun x hx => .inl hx, fun b hb => ?_⟩
  obtain ⟨⟨h1, h2⟩, cur, h3⟩ := hS b hb
  exact ⟨h1, cur, (b1.block b h2).symm.trans h3⟩
theorem rSl_ok {s : St} (hb : ∀ c ∈ s.1, c < 256) : (rSl s).1.Ok := by
  have h1 := (Pk.nx_byte (n := 1) hb).1
  have h2 := (Pk.nx_byte (n := 1) (nx_b (n := 1) hb)).1
  refine ⟨?_, ?_⟩
  · show ((Pk.nx 1 s).1 : Int) ≤ _; omega
  · show Bi ((Pk.nx 1 (Pk.nx 1 s).2).1 : Int); unfold Bi; omega
theorem rMp_ok {s : St} (hb : ∀ c ∈ s.1, c < 256) : (rMp s).1.Ok := by
  have h1 := (Pk.nx_byte (n := 2) hb).1
  have h2 := (Pk.nx_byte (n := 2) (nx_b (n := 2) hb)).1
  have h3 := (Pk.nx_byte (n := 2) (nx_b (n := 2) (nx_b (n := 2) hb))).1
  have h4 := (Pk.nx_byte (n := 2) (nx_b (n := 2) (nx_b (n := 2) (nx_b (n := 2) hb)))).1
  refine ⟨?_, ?_, ?_, ?_⟩
  · show Bi ((Pk.nx 2 s).1 : Int); unfold Bi; omega
  · show ((Pk.nx 2 (Pk.nx 2 s).2).1 : Int) ≤ _; omega
  · show Bi ((Pk.nx 2 (Pk.nx 2 (Pk.nx 2 s).2).2).1 : Int); unfold Bi; omega
  · show Bi ((Pk.nx 2 (Pk.nx 2 (Pk.nx 2 (Pk.nx 2 s).2).2).2).1 : Int); unfold Bi; omega
set_option maxHeartbeats 4000000 in
set_option maxRecDepth 100000 in
theorem lsl_any {w : World} {R : Nat} {s : St} (h : Rd w R s.1 s.2) : Calls Try.prog 46 #[.agg #[.pointer (some ⟨R, 0, none⟩)], .func (.func 47) #[] #[]] w fun e w' => ∃ v, e = .returned v ∧ ∃ xs, RV (fun b => w.heap.size ≤ b) 49 2 encSl w' v xs ∧ xs.map (id) = (rLs rSl s).1 ∧ RE w R (rLs rSl s).2 w' ∧ (fun _ xs => ∀ x ∈ xs, x.Ok) w' xs := by
  obtain ⟨w0, e0⟩ : ∃ w0, w.alloc (Obj.cells #[.pointer (some ⟨R, 0, none⟩)] 76) = w0 := ⟨_, rfl⟩
  obtain ⟨X, eX⟩ : ∃ X, w.heap.size = X := ⟨_, rfl⟩
  have hb0 : Below w.heap.size w w0 := by rw [← e0]; exact below_alloc1 w _
  have hX : w0.heap[X]? = some (Obj.cells #[.pointer (some ⟨R, 0, none⟩)] 76) := by rw [← e0, ← eX]; exact heap_alloc_new w _
  have H0 := Lib.hid (show RE w R s w0 from ⟨h.below hb0, grown_below hb0⟩)
  have hcn := (Pk.nx_byte (n := 1) h.byte).1
  have C := Lib.hid (rnum_any (n := 1) H0.out.1 (by omega))
  have c0 : w0.cell? ⟨X, 0, none⟩ = some (.pointer (some ⟨R, 0, none⟩)) := by rw [cell_of_row _ _ _ _ _ (0, 0) hX]; rfl
  obtain ⟨n, en⟩ : ∃ n, (Pk.nx 1 s).1 = n := ⟨_, rfl⟩
  rw [en] at C hcn
  have HX := Lib.hid hX
  have HN := Lib.hid (And.intro en hcn)
  clear h hb0 hX hcn en
  go_enter Try.func46, Try.ntmps46
  go_upto_region 1 with fail
  try rw [e0]
  try rw [eX]
  clear e0 eX
  go_wp2_with fail
  refine C.out.mono ?_; rintro e w1 ⟨rfl, hre⟩
  have HI0 := Lib.hid (show LI 49 2 encSl (id) rSl (fun _ xs => ∀ x ∈ xs, x.Ok) w R X n (Pk.nx 1 s).2 0 (.slice none 0 0) w1 from ⟨[], _, RV.nil _ _, rfl, H0.out.trans hre, by simp, hre.keeps H0.out.1 HX.out (by decide), by simp⟩)
  clear hre C c0
  go_wp2_with fail
  go_loopg [5, 8] n (fun gh v5 vi wr => ∃ (k : Nat) (v : Value), k ≤ n ∧ n - k ≤ gh ∧ v = v5 ∧ vi = .int .i64 k ∧ Hid (LI 49 2 encSl (id) rSl (fun _ xs => ∀ x ∈ xs, x.Ok) w R X n (Pk.nx 1 s).2 k v wr))
  case atStart => exact ⟨0, _, by omega, by omega, rfl, rfl, HI0⟩
  case round =>
    obtain ⟨k, vv, hk, hg, rfl, rfl, hI⟩ := hrel
    clear HI0
    by_cases hlt : k < n
    · have l1 : (k : Int) < n := by omega
      have iw : IntKind.i64.wrap ((k : Int) + 1) = ((k + 1 : Nat) : Int) := by have := HN.out.2; rw [IntKind.wrap_i64]; omega
      obtain ⟨xs, t, h1, h2, h3, h4, h5, h6⟩ := hI.out
      have c1 : wr.cell? ⟨X, 0, none⟩ = some (.pointer (some ⟨R, 0, none⟩)) := by rw [cell_of_row _ _ _ _ _ (0, 0) h5]; rfl
      have C := Lib.hid (rslot_any h3.1)
      have HG := Lib.hid (And.intro hg (And.intro hlt (And.intro h2 (And.intro h3 (And.intro h4 (And.intro h5 (And.intro h6 h1)))))))
      clear h1 h2 h3 h4 h5 h6 hg hlt hI
      go_wp2_with fail
      refine C.out.mono ?_; rintro e w2 ⟨rfl, hre⟩
      have hrv2 : RV (fun b => w.heap.size ≤ b) 49 2 encSl w2 vv xs := HG.out.2.2.2.2.2.2.2.keep fun b cur hb1 hb2 => ⟨hb1, (hre.keeps HG.out.2.2.2.1.1 hb2 (by decide)).trans hb2.symm⟩
      obtain ⟨v', w3, hrun, hrv, S, hT, hS⟩ := app_sl1 22 (rSl t).1 hrv2 (by have := HG.out; have := HN.out; omega)
      have HR := Lib.hid hrun
      have HE := Lib.hid (show LI 49 2 encSl (id) rSl (fun _ xs => ∀ x ∈ xs, x.Ok) w R X n (Pk.nx 1 s).2 (k + 1) v' w3 from LI.app HG.out.2.1 HG.out.2.2.1 HG.out.2.2.2.1 HG.out.2.2.2.2.1 HG.out.2.2.2.2.2.1 hre rfl hrv hT hS (by decide) (by decide) (by decide) (fun x hx => by
        rcases List.mem_append.1 hx with h | h
        · exact HG.out.2.2.2.2.2.2.1 x h
        · rw [List.mem_singleton.1 h]; exact rSl_ok HG.out.2.2.2.1.1.byte))
      clear hre hrv2 hrun hrv hT hS C c1
      go_wp2_with (at_builtin; refine wpList_append_by rfl (.tmp 10) (.tmp 14) _ _ rfl _ _ _ rfl rfl w3 HR.out ?_)
      go_roundg (n - (k + 1))
      case rel => exact ⟨k + 1, _, HG.out.2.1, Nat.le_refl _, rfl, by first | rfl | simp, HE⟩
      case measure => have := HG.out; omega
    · have l1 : ¬ (k : Int) < n := by omega
      obtain rfl : k = n := by omega
      clear hlt hg hk
      go_wp2_with fail
      go_ret
      obtain ⟨xs, h1, h2, h3, h4⟩ := hI.out.done
      unfold rLs
      rw [HN.out.1]
      exact ⟨_, rfl, xs, h1, by simpa using h2, h3, by simpa using h4⟩
set_option maxHeartbeats 4000000 in
set_option maxRecDepth 100000 in
theorem lmp_any {w : World} {R : Nat} {s : St} (h : Rd w R s.1 s.2) : Calls Try.prog 62 #[.agg #[.pointer (some ⟨R, 0, none⟩)], .func (.func 63) #[] #[]] w fun e w' => ∃ v, e = .returned v ∧ ∃ xs, RV (fun b => w.heap.size ≤ b) 93 5 encM w' v xs ∧ xs.map (id) = (rLs rMp s).1 ∧ RE w R (rLs rMp s).2 w' ∧ (fun _ xs => ∀ x ∈ xs, x.Ok) w' xs := by
  obtain ⟨w0, e0⟩ : ∃ w0, w.alloc (Obj.cells #[.pointer (some ⟨R, 0, none⟩)] 76) = w0 := ⟨_, rfl⟩
  obtain ⟨X, eX⟩ : ∃ X, w.heap.size = X := ⟨_, rfl⟩
  have hb0 : Below w.heap.size w w0 := by rw [← e0]; exact below_alloc1 w _
  have hX : w0.heap[X]? = some (Obj.cells #[.pointer (some ⟨R, 0, none⟩)] 76) := by rw [← e0, ← eX]; exact heap_alloc_new w _
  have H0 := Lib.hid (show RE w R s w0 from ⟨h.below hb0, grown_below hb0⟩)
  have hcn := (Pk.nx_byte (n := 1) h.byte).1
  have C := Lib.hid (rnum_any (n := 1) H0.out.1 (by omega))
  have c0 : w0.cell? ⟨X, 0, none⟩ = some (.pointer (some ⟨R, 0, none⟩)) := by rw [cell_of_row _ _ _ _ _ (0, 0) hX]; rfl
  obtain ⟨n, en⟩ : ∃ n, (Pk.nx 1 s).1 = n := ⟨_, rfl⟩
  rw [en] at C hcn
  have HX := Lib.hid hX
  have HN := Lib.hid (And.intro en hcn)
  clear h hb0 hX hcn en
  go_enter Try.func62, Try.ntmps62
  go_upto_region 1 with fail
  try rw [e0]
  try rw [eX]
  clear e0 eX
  go_wp2_with fail
  refine C.out.mono ?_; rintro e w1 ⟨rfl, hre⟩
  have HI0 := Lib.hid (show LI 93 5 encM (id) rMp (fun _ xs => ∀ x ∈ xs, x.Ok) w R X n (Pk.nx 1 s).2 0 (.slice none 0 0) w1 from ⟨[], _, RV.nil _ _, rfl, H0.out.trans hre, by simp, hre.keeps H0.out.1 HX.out (by decide), by simp⟩)
  clear hre C c0
  go_wp2_with fail
  go_loopg [5, 8] n (fun gh v5 vi wr => ∃ (k : Nat) (v : Value), k ≤ n ∧ n - k ≤ gh ∧ v = v5 ∧ vi = .int .i64 k ∧ Hid (LI 93 5 encM (id) rMp (fun _ xs => ∀ x ∈ xs, x.Ok) w R X n (Pk.nx 1 s).2 k v wr))
  case atStart => exact ⟨0, _, by omega, by omega, rfl, rfl, HI0⟩
  case round =>
    obtain ⟨k, vv, hk, hg, rfl, rfl, hI⟩ := hrel
    clear HI0
    by_cases hlt : k < n
    · have l1 : (k : Int) < n := by omega
      have iw : IntKind.i64.wrap ((k : Int) + 1) = ((k + 1 : Nat) : Int) := by have := HN.out.2; rw [IntKind.wrap_i64]; omega
      obtain ⟨xs, t, h1, h2, h3, h4, h5, h6⟩ := hI.out
      have c1 : wr.cell? ⟨X, 0, none⟩ = some (.pointer (some ⟨R, 0, none⟩)) := by rw [cell_of_row _ _ _ _ _ (0, 0) h5]; rfl
      have C := Lib.hid (rmap_any h3.1)
      have HG := Lib.hid (And.intro hg (And.intro hlt (And.intro h2 (And.intro h3 (And.intro h4 (And.intro h5 (And.intro h6 h1)))))))
      clear h1 h2 h3 h4 h5 h6 hg hlt hI
      go_wp2_with fail
      refine C.out.mono ?_; rintro e w2 ⟨rfl, hre⟩
      have hrv2 : RV (fun b => w.heap.size ≤ b) 93 5 encM w2 vv xs := HG.out.2.2.2.2.2.2.2.keep fun b cur hb1 hb2 => ⟨hb1, (hre.keeps HG.out.2.2.2.1.1 hb2 (by decide)).trans hb2.symm⟩
      obtain ⟨v', w3, hrun, hrv, S, hT, hS⟩ := app_mp1 42 (rMp t).1 hrv2 (by have := HG.out; have := HN.out; omega)
      have HR := Lib.hid hrun
      have HE := Lib.hid (show LI 93 5 encM (id) rMp (fun _ xs => ∀ x ∈ xs, x.Ok) w R X n (Pk.nx 1 s).2 (k + 1) v' w3 from LI.app HG.out.2.1 HG.out.2.2.1 HG.out.2.2.2.1 HG.out.2.2.2.2.1 HG.out.2.2.2.2.2.1 hre rfl hrv hT hS (by decide) (by decide) (by decide) (fun x hx => by
        rcases List.mem_append.1 hx with h | h
        · exact HG.out.2.2.2.2.2.2.1 x h
        · rw [List.mem_singleton.1 h]; exact rMp_ok HG.out.2.2.2.1.1.byte))
      clear hre hrv2 hrun hrv hT hS C c1
      go_wp2_with (at_builtin; refine wpList_append_by rfl (.tmp 10) (.tmp 14) _ _ rfl _ _ _ rfl rfl w3 HR.out ?_)
      go_roundg (n - (k + 1))
      case rel => exact ⟨k + 1, _, HG.out.2.1, Nat.le_refl _, rfl, by first | rfl | simp, HE⟩
      case measure => have := HG.out; omega
    · have l1 : ¬ (k : Int) < n := by omega
      obtain rfl : k = n := by omega
      clear hlt hg hk
      go_wp2_with fail
      go_ret
      obtain ⟨xs, h1, h2, h3, h4⟩ := hI.out.done
      unfold rLs
      rw [HN.out.1]
      exact ⟨_, rfl, xs, h1, by simpa using h2, h3, by simpa using h4⟩
end Go.Proofs.Ytmadldgajjgbmaa
