/- A call's text, read rune by rune: the walk. -/
import Derived.Test.YtjbaniclcaiehaaDoorTa
import Derived.Laws.ResultCell
set_option linter.unusedVariables false
set_option linter.unusedSimpArgs false
namespace Go.Proofs.YtjbaniclcaiehaaDoor
open Go.RowKit
set_option linter.unusedVariables false
set_option linter.unusedSimpArgs false
theorem sizeSp : (Tryd.prog.info? 29).map (·.size) = some 3 := by kernel_rfl
/-- What spec answers for a text. -/
def SpE (l : List UInt8) (W : World) (e : Ending) (w' : World) : Prop :=
  Below W.heap.size W w' ∧ ∃ a1 c1 a2 c2, e = .returned (.agg #[.string (S (prs l).nm), .slice a1 (prs l).l1.length c1, .slice a2 (prs l).l2.length c2]) ∧ (prs l).l1.length ≤ c1 ∧ (prs l).l2.length ≤ c2 ∧ RW (fun b => W.heap.size ≤ b) 3 inI w' (.slice a1 (prs l).l1.length c1) (prs l).l1 ∧ RW (fun b => W.heap.size ≤ b) 3 inI w' (.slice a2 (prs l).l2.length c2) (prs l).l2
def ptr (X : Nat) (r : Bool) : Value := .pointer (some ⟨X, if r then 2 else 1, none⟩)
theorem stp_colon {x : Pt} {c : UInt8} {m : Nat} (e : c.toNat = m) (h : m = 58) : stp x c = { x with r := true } := by unfold stp; rw [e, if_pos h]
theorem stp_num1 {x : Pt} {c : UInt8} {m : Nat} (e : c.toNat = m) (h : ¬ m = 58) (h1 : 49 ≤ m ∧ m ≤ 53) (hr : x.r = false) : stp x c = { x with l1 := x.l1 ++ [((m - 48 : Nat) : Int)] } := by unfold stp; rw [e, if_neg h, if_pos h1, if_neg (by rw [hr]; exact Bool.false_ne_true)]
theorem stp_num2 {x : Pt} {c : UInt8} {m : Nat} (e : c.toNat = m) (h : ¬ m = 58) (h1 : 49 ≤ m ∧ m ≤ 53) (hr : x.r = true) : stp x c = { x with l2 := x.l2 ++ [((m - 48 : Nat) : Int)] } := by unfold stp; rw [e, if_neg h, if_pos h1, if_pos hr]
theorem stp_blank {x : Pt} {c : UInt8} {m : Nat} (e : c.toNat = m) (h : m = 32) : stp x c = x := by unfold stp; rw [e, if_neg (by omega), if_neg (by omega), if_pos h]
theorem stp_name {x : Pt} {c : UInt8} {m : Nat} (e : c.toNat = m) (h : ¬ m = 58) (h1 : ¬ (49 ≤ m ∧ m ≤ 53)) (h2 : ¬ m = 32) : stp x c = { x with nm := x.nm ++ [c] } := by unfold stp; rw [e, if_neg h, if_neg h1, if_neg h2]
/-- All that stands at the loop's head. -/
def HD (W : World) (R X IT : Nat) (l : List UInt8) (k : Nat) (v4 : Value) (w : World) : Prop := SI W R X IT (S l) (prs (l.take k)) k w ∧ v4 = ptr X (prs (l.take k)).r
set_option maxHeartbeats 8000000 in
set_option maxRecDepth 100000 in
theorem spec_any (l : List UInt8) (hl : l.length ≤ 1000) (h128 : ∀ c ∈ l, c.toNat < 128) (W : World) : Calls Tryd.prog 10 #[.string (S l)] W (SpE l W) := by
  obtain ⟨w1, e1⟩ : ∃ w0, W.alloc (Obj.cells zSp 29) = w0 := ⟨_, rfl⟩
  obtain ⟨w2, e2⟩ : ∃ w0, w1.alloc (Obj.cells zSp 29) = w0 := ⟨_, rfl⟩
  obtain ⟨R, eR⟩ : ∃ R, W.heap.size = R := ⟨_, rfl⟩
  obtain ⟨X, eX⟩ : ∃ R, w1.heap.size = R := ⟨_, rfl⟩
  obtain ⟨IT, eI⟩ : ∃ R, w2.heap.size = R := ⟨_, rfl⟩
  obtain ⟨s, es⟩ : ∃ s, S l = s := ⟨_, rfl⟩
  obtain ⟨w3, e3⟩ : ∃ w0, w2.iter s 0 = w0 := ⟨_, rfl⟩
  obtain ⟨n, en⟩ : ∃ n, l.length = n := ⟨_, rfl⟩
  have hsz : s.size = n := by rw [← es, S_size, en]
  have HI : Hid (HD W R X IT l 0 (.pointer (some ⟨X, 1, none⟩)) w3) := by
    have b1 := below_alloc1 W (Obj.cells zSp 29)
    have n1 := heap_alloc_new W (Obj.cells zSp 29)
    rw [e1] at b1 n1
    have b2 := below_alloc1 w1 (Obj.cells zSp 29)
    have n2 := heap_alloc_new w1 (Obj.cells zSp 29)
    rw [e2] at b2 n2
    have b3 : Below w2.heap.size w2 w3 := by rw [← e3]; exact below_alloc1 w2 _
    have n3 := World.iter_heap w2 s 0
    rw [e3] at n3
    have q1 := b1.size
    have q2 := b2.size
    rw [eR] at n1
    rw [eX] at n2
    rw [eI] at n3
    have l1 := (Array.getElem?_eq_some_iff.1 n1).1
    have n12 := (b2.block R l1).trans n1
    have l12 := (Array.getElem?_eq_some_iff.1 n12).1
    have l2 := (Array.getElem?_eq_some_iff.1 n2).1
    refine Lib.hid ⟨⟨?_, ⟨by omega, by omega, by omega, by omega⟩, by rw [es]; exact n3, (b3.block R l12).trans n12, none, 0, none, 0, (b3.block X l2).trans n2, w3.heap.size, ?_, Nat.le_refl _, RW.nil _ _, RW.nil _ _, fun _ => ⟨rfl, rfl, rfl⟩⟩, rfl⟩
    · exact b1.trans ((b2.mono q1).trans (b3.mono (Nat.le_trans q1 q2)))
    · exact Nat.le_trans q1 (Nat.le_trans q2 b3.size)
  have hrg := run_range_string (P := Tryd.prog) w2 9 s Tryd.underlying9
  rw [e3, eI] at hrg
  have HE := Lib.hid (And.intro e1 (And.intro e2 (And.intro eR (And.intro eX eI))))
  have HL := Lib.hid (And.intro hl (And.intro h128 (And.intro en (And.intro es hsz))))
  rw [es]
  clear e1 e2 e3 eI eR eX es en hsz hl h128
  go_enter Tryd.func10, Tryd.ntmps10
  go_upto_region 1 with fail
  try rw [show W.alloc (Obj.cells #[.string ⟨#[]⟩, .slice none 0 0, .slice none 0 0] 29) = w1 from HE.out.1]
  go_upto_region 2 with fail
  try rw [show w1.alloc (Obj.cells #[.string ⟨#[]⟩, .slice none 0 0, .slice none 0 0] 29) = w2 from HE.out.2.1]
  try rw [HE.out.2.2.1]
  try rw [HE.out.2.2.2.1]
  clear HE
  go_wp2_with fail
  clear hrg
  go_loopg [4] n (fun gh v4 wr => ∃ k : Nat, k ≤ n ∧ n - k ≤ gh ∧ Hid (HD W R X IT l k v4 wr))
  case atStart => exact ⟨0, by omega, by omega, HI⟩
  case round =>
    clear HI
    obtain ⟨k, hk, hg, hI⟩ := hrel
    by_cases hlt : k < n
    · obtain ⟨c, hc⟩ : ∃ x, l[k]? = some x := ⟨_, List.getElem?_eq_getElem (by rw [HL.out.2.2.1]; exact hlt)⟩
      have hc8 := HL.out.2.1 c (List.mem_of_getElem? hc)
      obtain ⟨hs, hb⟩ := at_txt hc
      obtain ⟨m, em⟩ : ∃ m, c.toNat = m := ⟨_, rfl⟩
      rw [em] at hc8
      have hnx : ∀ ty, (Instr.next (.pointer (some ⟨IT, 0, none⟩)) true ty).run Tryd.prog wr = .ok (.tuple #[.bool true, .int .i64 (k : Int), .int .i32 (m : Int)]) (wr.iterAt IT s (k + 1)) := fun ty => by
        have h := Lib.run_next_ascii_at (P := Tryd.prog) wr IT (S l) k ty hI.out.1.i hs (by rw [hb, em]; exact hc8)
        rw [hb, em, HL.out.2.2.2.1] at h
        exact h
      have hS := hI.out.1.iter
      rw [HL.out.2.2.2.1] at hS
      have hv4 := hI.out.2
      obtain ⟨w5, e5⟩ : ∃ w5, wr.iterAt IT s (k + 1) = w5 := ⟨_, rfl⟩
      rw [e5] at hnx hS
      have htk : prs (l.take (k + 1)) = stp (prs (l.take k)) c := by rw [List.take_add_one, hc]; exact prs_snoc _ _
      have hlen := prs_len (l.take k)
      rw [List.length_take] at hlen
      obtain ⟨x, ex⟩ : ∃ x, prs (l.take k) = x := ⟨_, rfl⟩
      rw [ex] at htk hlen hS hv4
      have HX := Lib.hid (And.intro htk (And.intro hlen (And.intro em hS)))
      have HG := Lib.hid (And.intro hg (And.intro hlt hc8))
      clear hg hlt hc hb hs e5 htk hlen ex hS hI em
      have n58 : (m : Int) = 58 ↔ m = 58 := by omega
      by_cases h58 : m = 58
      · have HF : Hid (HD W R X IT l (k + 1) (.pointer (some ⟨X, 2, none⟩)) w5) := by
          refine Lib.hid ⟨?_, ?_⟩
          · rw [HX.out.1, stp_colon HX.out.2.2.1 h58, HL.out.2.2.2.1]; exact HX.out.2.2.2.mark
          · rw [HX.out.1, stp_colon HX.out.2.2.1 h58]; rfl
        have q1 : ((m : Int) == 58) = true := by rw [beq_iff_eq]; omega
        have q2 : (m : Int) = 58 := by omega
        clear h58 n58 HX hv4
        go_wp2_with fail
        go_roundg (n - (k + 1))
        case rel => exact ⟨k + 1, HG.out.2.1, Nat.le_refl _, HF⟩
        case measure => have := HG.out; omega
      · have q1 : ((m : Int) == 58) = false := by rw [beq_eq_false_iff_ne]; omega
        have q2 : ¬ (m : Int) = 58 := by omega
        by_cases hd : 49 ≤ m ∧ m ≤ 53
        · have q3 : (49 : Int) ≤ (m : Int) := by omega
          have q4 : (m : Int) ≤ 53 := by omega
          obtain ⟨z, ez⟩ : ∃ z : Int, ((m - 48 : Nat) : Int) = z := ⟨_, rfl⟩
          have j1 : IntKind.i32.wrap ((m : Int) - 48) = z := by rw [IntKind.wrap_i32]; omega
          have j2 : IntKind.i64.wrap z = z := by rw [IntKind.wrap_i64]; omega
          obtain ⟨A1, c1, A2, c2, hX, _⟩ := HX.out.2.2.2.x
          by_cases hr : x.r = true
          · have HH := HX.out.2.2.2.num2 hr (by have := HX.out.2.1; have := HL.out.1; have := HL.out.2.2.1; omega) z hX
            obtain ⟨A', c', w', hrun, ⟨⟨o, hold⟩, hfz⟩, hS'⟩ := HH
            obtain ⟨y', ey'⟩ : ∃ y, (x.l2 ++ [z]).length = y := ⟨_, rfl⟩
            rw [ey'] at hrun hS'
            have x2 : w5.cell? ⟨X, 2, none⟩ = some (.slice A2 x.l2.length c2) := by rw [cell_of_row _ _ _ _ _ (0, 0) hX]; rfl
            have hHF : HD W R X IT l (k + 1) u4 (w'.setCell ⟨X, 2, none⟩ (.slice A' y' c')) := by
              refine ⟨?_, ?_⟩
              · rw [HX.out.1, stp_num2 HX.out.2.2.1 h58 hd hr, ez, HL.out.2.2.2.1]; exact hS'
              · rw [HX.out.1, stp_num2 HX.out.2.2.1 h58 hd hr]; exact hv4
            obtain ⟨y2, ey2⟩ : ∃ y, x.l2.length = y := ⟨_, rfl⟩
            rw [ey2] at x2 hrun
            obtain ⟨w6, e6⟩ : ∃ w6, w5.alloc (Obj.cells #[.int .i64 z] 3) = w6 := ⟨_, rfl⟩
            have b6 := below_alloc1 w5 (Obj.cells #[.int .i64 z] 3)
            have x6 := (heap_alloc_new w5 (Obj.cells #[.int .i64 z] 3))
            rw [e6] at hrun
            rw [hr] at hv4
            obtain rfl : u4 = .pointer (some ⟨X, 2, none⟩) := hv4
            have HF := Lib.hid hHF
            have HRun := Lib.hid hrun
            clear hX hr hS' hHF hrun ez h58 hd n58 HX ey2 b6 x6 ey'
            go_upto_region 9 with fail
            go_wp2_with (at_builtin; refine wpList_append_by rfl (.tmp 27) (.tmp 31) _ _ rfl _ _ _ rfl rfl w' HRun.out ?_)
            go_roundg (n - (k + 1))
            case rel => exact ⟨k + 1, HG.out.2.1, Nat.le_refl _, HF⟩
            case measure => have := HG.out; omega
          · have hr : x.r = false := by simpa using hr
            have HH := HX.out.2.2.2.num1 hr (by have := HX.out.2.1; have := HL.out.1; have := HL.out.2.2.1; omega) z hX
            obtain ⟨A', c', w', hrun, ⟨⟨o, hold⟩, hfz⟩, hS'⟩ := HH
            obtain ⟨y', ey'⟩ : ∃ y, (x.l1 ++ [z]).length = y := ⟨_, rfl⟩
            rw [ey'] at hrun hS'
            have x2 : w5.cell? ⟨X, 1, none⟩ = some (.slice A1 x.l1.length c1) := by rw [cell_of_row _ _ _ _ _ (0, 0) hX]; rfl
            have hHF : HD W R X IT l (k + 1) u4 (w'.setCell ⟨X, 1, none⟩ (.slice A' y' c')) := by
              refine ⟨?_, ?_⟩
              · rw [HX.out.1, stp_num1 HX.out.2.2.1 h58 hd hr, ez, HL.out.2.2.2.1]; exact hS'
              · rw [HX.out.1, stp_num1 HX.out.2.2.1 h58 hd hr]; exact hv4
            obtain ⟨y2, ey2⟩ : ∃ y, x.l1.length = y := ⟨_, rfl⟩
            rw [ey2] at x2 hrun
            obtain ⟨w6, e6⟩ : ∃ w6, w5.alloc (Obj.cells #[.int .i64 z] 3) = w6 := ⟨_, rfl⟩
            have b6 := below_alloc1 w5 (Obj.cells #[.int .i64 z] 3)
            have x6 := (heap_alloc_new w5 (Obj.cells #[.int .i64 z] 3))
            rw [e6] at hrun
            rw [hr] at hv4
            obtain rfl : u4 = .pointer (some ⟨X, 1, none⟩) := hv4
            have HF := Lib.hid hHF
            have HRun := Lib.hid hrun
            clear hX hr hS' hHF hrun ez h58 hd n58 HX ey2 b6 x6 ey'
            go_upto_region 9 with fail
            go_wp2_with (at_builtin; refine wpList_append_by rfl (.tmp 27) (.tmp 31) _ _ rfl _ _ _ rfl rfl w' HRun.out ?_)
            go_roundg (n - (k + 1))
            case rel => exact ⟨k + 1, HG.out.2.1, Nat.le_refl _, HF⟩
            case measure => have := HG.out; omega
        · by_cases h32 : m = 32
          · have q3 : ¬ ((49 : Int) ≤ (m : Int)) := by omega
            have q5 : ((m : Int) == 32) = true := by rw [beq_iff_eq]; omega
            have q6 : ((m : Int) != 32) = false := by rw [bne_eq_false_iff_eq]; omega
            have q7 : (m : Int) = 32 := by omega
            have HF : Hid (HD W R X IT l (k + 1) u4 w5) := by
              refine Lib.hid ⟨?_, ?_⟩
              · rw [HX.out.1, stp_blank HX.out.2.2.1 h32, HL.out.2.2.2.1]; exact HX.out.2.2.2
              · rw [HX.out.1, stp_blank HX.out.2.2.1 h32]; exact hv4
            clear h58 n58 HX hv4 hd h32
            go_wp2_with fail
            go_roundg (n - (k + 1))
            case rel => exact ⟨k + 1, HG.out.2.1, Nat.le_refl _, HF⟩
            case measure => have := HG.out; omega
          · have q5 : ((m : Int) == 32) = false := by rw [beq_eq_false_iff_ne]; omega
            have q6 : ((m : Int) != 32) = true := by rw [bne_iff_ne]; omega
            have q7 : ¬ (m : Int) = 32 := by omega
            obtain ⟨A1, c1, A2, c2, hX, _⟩ := HX.out.2.2.2.x
            have x0 : w5.cell? ⟨X, 0, none⟩ = some (.string (S x.nm)) := by rw [cell_of_row _ _ _ _ _ (0, 0) hX]; rfl
            have f0 := frozen_of_row w5 X 0 _ _ hX
            have ec : Utf8.encode (m : Int) = S [c] := by rw [enc_ascii HG.out.2.2, ← HX.out.2.2.1, UInt8.ofNat_toNat]
            have ad := run_string_add_sum (P := Tryd.prog) w5 (S x.nm) (S [c]) (by rw [S_size, S_size]; have := HX.out.2.1; have := HL.out.1; have := HL.out.2.2.1; simp; omega)
            rw [S_append] at ad
            have hHF : HD W R X IT l (k + 1) u4 (w5.setCell ⟨X, 0, none⟩ (.string (S (x.nm ++ [c])))) := by
              refine ⟨?_, ?_⟩
              · rw [HX.out.1, stp_name HX.out.2.2.1 h58 hd h32, HL.out.2.2.2.1]; exact HX.out.2.2.2.name c
              · rw [HX.out.1, stp_name HX.out.2.2.1 h58 hd h32]; exact hv4
            have HF := Lib.hid hHF
            obtain ⟨sa, ea⟩ : ∃ sa, S x.nm = sa := ⟨_, rfl⟩
            obtain ⟨sb, eb⟩ : ∃ sa, S [c] = sa := ⟨_, rfl⟩
            obtain ⟨sc, esc⟩ : ∃ sa, S (x.nm ++ [c]) = sa := ⟨_, rfl⟩
            rw [ea] at x0 ad
            rw [eb] at ec ad
            have cv : ∀ w : World, (convert 21 9 (.int .i32 (m : Int))).run Tryd.prog w = .ok (.string sb) w := fun w => by rw [run_convert_int_string w 21 9 .i32 (m : Int) (by rw [Tryd.underlying21]; rfl) Tryd.underlying9, ec]
            rw [esc] at ad HF
            by_cases h49 : 49 ≤ m
            · have q3 : (49 : Int) ≤ (m : Int) := by omega
              have q4 : ¬ (m : Int) ≤ 53 := by omega
              clear ec hX HX hHF ea eb esc h58 hd h32 n58 h49 hv4
              go_upto_region 11 with fail
              go_wp2_with fail
              go_roundg (n - (k + 1))
              case rel => exact ⟨k + 1, HG.out.2.1, Nat.le_refl _, HF⟩
              case measure => have := HG.out; omega
            · have q3 : ¬ (49 : Int) ≤ (m : Int) := by omega
              clear ec hX HX hHF ea eb esc h58 hd h32 n58 h49 hv4
              go_upto_region 11 with fail
              go_wp2_with fail
              go_roundg (n - (k + 1))
              case rel => exact ⟨k + 1, HG.out.2.1, Nat.le_refl _, HF⟩
              case measure => have := HG.out; omega
    · have hnx : ∀ ty, (Instr.next (.pointer (some ⟨IT, 0, none⟩)) true ty).run Tryd.prog wr = .ok (.tuple #[.bool false]) wr := fun ty => Lib.run_next_end_at (P := Tryd.prog) wr IT s k ty (by have := hI.out.1.i; rw [HL.out.2.2.2.1] at this; exact this) (by rw [HL.out.2.2.2.2]; exact hlt)
      obtain rfl : k = n := by omega
      have HT := Lib.hid (show l.take k = l from List.take_of_length_le (by have := HL.out.2.2.1; omega))
      obtain ⟨A1, c1, A2, c2, hX, D, hD, hDw, r1, r2, _⟩ := hI.out.1.x
      rw [HT.out] at hX r1 r2
      have HX := Lib.hid hX
      have HZ := Lib.hid hI.out.1.z
      have HSZ := Lib.hid sizeSp
      obtain ⟨cs, ecs⟩ : ∃ cs : Array Value, #[.string (S (prs l).nm), .slice A1 (prs l).l1.length c1, .slice A2 (prs l).l2.length c2] = cs := ⟨_, rfl⟩
      have h3 : cs.size = 3 := by rw [← ecs]; rfl
      have h1 : cs.all (·.oneCell') = true := by rw [← ecs]; simp [Value.oneCell']
      have HO : Hid (SpE l W (.returned (.agg cs)) (wr.setRow R cs)) := by
        have hneR : ∀ {b cur}, wr.heap[b]? = some (Obj.cells cur 3) → b ≠ R := fun hb => ne_row hI.out.1.z hb
        have ht := Turn.row wr R cs
        have k1 := row_keep r1 (w' := wr.setRow R cs) fun b cur hb => setRow_other wr R b cs (hneR hb)
        have k2 := row_keep r2 (w' := wr.setRow R cs) fun b cur hb => setRow_other wr R b cs (hneR hb)
        have g1 : (prs l).l1.length ≤ c1 := by
          obtain ⟨A', c', e, h, _⟩ := r1.form
          injection e with _ _ e
          omega
        have g2 : (prs l).l2.length ≤ c2 := by
          obtain ⟨A', c', e, h, _⟩ := r2.form
          injection e with _ _ e
          omega
        exact Lib.hid ⟨hI.out.1.b.trans (ht.below hI.out.1.b.size fun b hb => by rw [List.mem_singleton.1 hb]; exact hI.out.1.lo.1), A1, c1, A2, c2, by rw [ecs], g1, g2, k1.keep fun b cur q _ => ⟨q.1, rfl⟩, k2.keep fun b cur q _ => ⟨Nat.le_trans hD q, rfl⟩⟩
      have HZ2 := Lib.hid (setRow_heap wr R _ cs _ _ hI.out.1.z)
      have HC := Lib.hid (And.intro h3 (And.intro h1 ecs))
      have HI3 : Hid ((Tryd.prog.info? 29).map (·.size) = some cs.size) := Lib.hid (by rw [h3]; exact sizeSp)
      have HZS : Hid (zSp.size = cs.size) := Lib.hid (by rw [h3]; rfl)
      have HXC : Hid (wr.heap[X]? = some (Obj.cells cs 29)) := Lib.hid (by rw [← ecs]; exact hX)
      clear hg hlt hk hX r1 r2 h3 h1 ecs hD hDw
      go_upto_region 12 with fail
      go_wp2_with (first
        | (with_reducible refine wpList_load_row rfl 29 (.tmp 3) rfl X rfl 29 cs (0, 0) _ HXC.out Tryd.underlying29 rfl HI3.out ?_)
        | (with_reducible refine wpList_store_row rfl 29 (.tmp 2) (.tmp 43) rfl R cs rfl rfl 29 zSp HZ.out HI3.out HZS.out HC.out.2.1 ?_))
      exact bodyPost_ret (results_cell_row (by rfl) _ _ R 29 _ (0, 0) _ (by rfl) HZ2.out Tryd.underlying29 rfl HI3.out) rfl HO.out
end Go.Proofs.YtjbaniclcaiehaaDoor
