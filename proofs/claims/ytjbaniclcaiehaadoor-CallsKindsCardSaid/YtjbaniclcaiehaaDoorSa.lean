/- Kernel calls by number: the law's own list, digits. -/
import Derived.Test.YtjbaniclcaiehaaDoorVq
import Derived.Laws.Tables
import Derived.Laws.BytesArg
import Derived.Laws.BytesString
set_option linter.unusedVariables false
set_option linter.unusedSimpArgs false
namespace Go.Proofs.YtjbaniclcaiehaaDoor
open Go.RowKit
set_option linter.unusedVariables false
set_option linter.unusedSimpArgs false
def S (l : List UInt8) : ByteArray := ⟨l.toArray⟩
/-- The calls: their names, and which registers name what they change and read. -/
def spL : List (List UInt8 × List Int × List Int) := [([99, 97, 116, 110, 101, 119], [], []), ([115, 101, 108, 102, 108, 97, 98, 101, 108], [], []), ([115, 101, 108, 102, 99, 108, 101, 97, 114], [], []), ([115, 101, 108, 102], [], []), ([108, 97, 98, 101, 108, 111, 102], [], [1]), ([99, 111, 110, 116, 110, 101, 119], [1], []), ([115, 101, 103, 110, 101, 119], [1], []), ([115, 112, 97, 99, 101, 110, 101, 119], [1], []), ([116, 104, 114, 101, 97, 100, 110, 101, 119], [1], []), ([103, 97, 116, 101, 110, 101, 119], [1], []), ([117, 110, 114, 101, 102], [1, 2], []), ([115, 116, 97, 116], [], [1]), ([108, 105, 115, 116], [], [1]), ([113, 117, 111, 116, 97], [], [1]), ([109, 111, 118, 101], [1, 2], []), ([114, 101, 115, 105, 122, 101], [1], []), ([114, 101, 97, 100], [], [1]), ([119, 114, 105, 116, 101], [1], []), ([99, 111, 112, 121], [1], [3]), ([109, 97, 112], [1], [3]), ([117, 110, 109, 97, 112], [1], []), ([117, 115, 101], [], [1]), ([101, 110, 116, 101, 114], [], [1]), ([104, 97, 108, 116], [], []), ([115, 116, 97, 114, 116], [1], []), ([119, 97, 105, 116], [], [1]), ([119, 97, 107, 101], [1], []), ([97, 108, 101, 114, 116], [1], []), ([97, 108, 101, 114, 116, 103, 101, 116], [], []), ([100, 101, 118, 114, 101, 97, 100], [1], []), ([100, 101, 118, 119, 114, 105, 116, 101], [1], []), ([99, 108, 111, 99, 107], [], []), ([121, 105, 101, 108, 100], [], []), ([115, 101, 116, 105, 110, 102, 111], [1], []), ([105, 110, 102, 111], [], [1]), ([109, 97, 112, 97, 116], [], [1]), ([104, 111, 109, 101, 111, 102], [], [1]), ([111, 119, 110, 101, 100], [], []), ([108, 101, 118, 101, 108], [], [1]), ([114, 105, 103, 104, 116, 115], [], [1])]
def dgt (l : List Int) : List UInt8 := l.map fun x => UInt8.ofNat (48 + x.toNat)
def spO (k : Nat) : List UInt8 × List Int × List Int := spL.getD (k - 1) ([], [], [])
def SPA : Array Value := #[.string ⟨#[99, 97, 116, 110, 101, 119]⟩, .string ⟨#[]⟩, .string ⟨#[]⟩, .string ⟨#[115, 101, 108, 102, 108, 97, 98, 101, 108]⟩, .string ⟨#[]⟩, .string ⟨#[]⟩, .string ⟨#[115, 101, 108, 102, 99, 108, 101, 97, 114]⟩, .string ⟨#[]⟩, .string ⟨#[]⟩, .string ⟨#[115, 101, 108, 102]⟩, .string ⟨#[]⟩, .string ⟨#[]⟩, .string ⟨#[108, 97, 98, 101, 108, 111, 102]⟩, .string ⟨#[]⟩, .string ⟨#[49]⟩, .string ⟨#[99, 111, 110, 116, 110, 101, 119]⟩, .string ⟨#[49]⟩, .string ⟨#[]⟩, .string ⟨#[115, 101, 103, 110, 101, 119]⟩, .string ⟨#[49]⟩, .string ⟨#[]⟩, .string ⟨#[115, 112, 97, 99, 101, 110, 101, 119]⟩, .string ⟨#[49]⟩, .string ⟨#[]⟩, .string ⟨#[116, 104, 114, 101, 97, 100, 110, 101, 119]⟩, .string ⟨#[49]⟩, .string ⟨#[]⟩, .string ⟨#[103, 97, 116, 101, 110, 101, 119]⟩, .string ⟨#[49]⟩, .string ⟨#[]⟩, .string ⟨#[117, 110, 114, 101, 102]⟩, .string ⟨#[49, 50]⟩, .string ⟨#[]⟩, .string ⟨#[115, 116, 97, 116]⟩, .string ⟨#[]⟩, .string ⟨#[49]⟩, .string ⟨#[108, 105, 115, 116]⟩, .string ⟨#[]⟩, .string ⟨#[49]⟩, .string ⟨#[113, 117, 111, 116, 97]⟩, .string ⟨#[]⟩, .string ⟨#[49]⟩, .string ⟨#[109, 111, 118, 101]⟩, .string ⟨#[49, 50]⟩, .string ⟨#[]⟩, .string ⟨#[114, 101, 115, 105, 122, 101]⟩, .string ⟨#[49]⟩, .string ⟨#[]⟩, .string ⟨#[114, 101, 97, 100]⟩, .string ⟨#[]⟩, .string ⟨#[49]⟩, .string ⟨#[119, 114, 105, 116, 101]⟩, .string ⟨#[49]⟩, .string ⟨#[]⟩, .string ⟨#[99, 111, 112, 121]⟩, .string ⟨#[49]⟩, .string ⟨#[51]⟩, .string ⟨#[109, 97, 112]⟩, .string ⟨#[49]⟩, .string ⟨#[51]⟩, .string ⟨#[117, 110, 109, 97, 112]⟩, .string ⟨#[49]⟩, .string ⟨#[]⟩, .string ⟨#[117, 115, 101]⟩, .string ⟨#[]⟩, .string ⟨#[49]⟩, .string ⟨#[101, 110, 116, 101, 114]⟩, .string ⟨#[]⟩, .string ⟨#[49]⟩, .string ⟨#[104, 97, 108, 116]⟩, .string ⟨#[]⟩, .string ⟨#[]⟩, .string ⟨#[115, 116, 97, 114, 116]⟩, .string ⟨#[49]⟩, .string ⟨#[]⟩, .string ⟨#[119, 97, 105, 116]⟩, .string ⟨#[]⟩, .string ⟨#[49]⟩, .string ⟨#[119, 97, 107, 101]⟩, .string ⟨#[49]⟩, .string ⟨#[]⟩, .string ⟨#[97, 108, 101, 114, 116]⟩, .string ⟨#[49]⟩, .string ⟨#[]⟩, .string ⟨#[97, 108, 101, 114, 116, 103, 101, 116]⟩, .string ⟨#[]⟩, .string ⟨#[]⟩, .string ⟨#[100, 101, 118, 114, 101, 97, 100]⟩, .string ⟨#[49]⟩, .string ⟨#[]⟩, .string ⟨#[100, 101, 118, 119, 114, 105, 116, 101]⟩, .string ⟨#[49]⟩, .string ⟨#[]⟩, .string ⟨#[99, 108, 111, 99, 107]⟩, .string ⟨#[]⟩, .string ⟨#[]⟩, .string ⟨#[121, 105, 101, 108, 100]⟩, .string ⟨#[]⟩, .string ⟨#[]⟩, .string ⟨#[115, 101, 116, 105, 110, 102, 111]⟩, .string ⟨#[49]⟩, .string ⟨#[]⟩, .string ⟨#[105, 110, 102, 111]⟩, .string ⟨#[]⟩, .string ⟨#[49]⟩, .string ⟨#[109, 97, 112, 97, 116]⟩, .string ⟨#[]⟩, .string ⟨#[49]⟩, .string ⟨#[104, 111, 109, 101, 111, 102]⟩, .string ⟨#[]⟩, .string ⟨#[49]⟩, .string ⟨#[111, 119, 110, 101, 100]⟩, .string ⟨#[]⟩, .string ⟨#[]⟩, .string ⟨#[108, 101, 118, 101, 108]⟩, .string ⟨#[]⟩, .string ⟨#[49]⟩, .string ⟨#[114, 105, 103, 104, 116, 115]⟩, .string ⟨#[]⟩, .string ⟨#[49]⟩]
def RB (W : World) (r : Bool) (e : Ending) (w' : World) : Prop := e = .returned (.bool r) ∧ Below W.heap.size W w'
set_option maxHeartbeats 4000000 in
set_option maxRecDepth 100000 in
theorem specs_any (w : World) : Calls Tryd.prog 7 #[] w fun e w' => ∃ B, e = .returned (.slice (some ⟨B, 0, none⟩) 40 40) ∧ w'.heap[B]? = some (Obj.cells SPA 32) ∧ Below w.heap.size w w' := by
  go_enter Tryd.func7, Tryd.ntmps7
  go_wp2_with fail
  go_ret
  exact ⟨_, rfl, heap_alloc_new w _, below_alloc1 w _⟩
theorem spa_at {k : Nat} (h1 : 1 ≤ k) (h2 : k ≤ 40) : SPA[(k - 1) * 3]? = some (.string (S (spO k).1)) ∧ SPA[(k - 1) * 3 + 1]? = some (.string (S (dgt (spO k).2.1))) ∧ SPA[(k - 1) * 3 + 2]? = some (.string (S (dgt (spO k).2.2))) := by
  rcases (by omega : k = 1 ∨ k = 2 ∨ k = 3 ∨ k = 4 ∨ k = 5 ∨ k = 6 ∨ k = 7 ∨ k = 8 ∨ k = 9 ∨ k = 10 ∨ k = 11 ∨ k = 12 ∨ k = 13 ∨ k = 14 ∨ k = 15 ∨ k = 16 ∨ k = 17 ∨ k = 18 ∨ k = 19 ∨ k = 20 ∨ k = 21 ∨ k = 22 ∨ k = 23 ∨ k = 24 ∨ k = 25 ∨ k = 26 ∨ k = 27 ∨ k = 28 ∨ k = 29 ∨ k = 30 ∨ k = 31 ∨ k = 32 ∨ k = 33 ∨ k = 34 ∨ k = 35 ∨ k = 36 ∨ k = 37 ∨ k = 38 ∨ k = 39 ∨ k = 40) with rfl | rfl | rfl | rfl | rfl | rfl | rfl | rfl | rfl | rfl | rfl | rfl | rfl | rfl | rfl | rfl | rfl | rfl | rfl | rfl | rfl | rfl | rfl | rfl | rfl | rfl | rfl | rfl | rfl | rfl | rfl | rfl | rfl | rfl | rfl | rfl | rfl | rfl | rfl | rfl <;> exact ⟨by kernel_rfl, by kernel_rfl, by kernel_rfl⟩
theorem S_size (l : List UInt8) : (S l).size = l.length := by simp [S, ByteArray.size]
theorem S_data (l : List UInt8) : (S l).data.toList = l := by simp [S]
theorem S_append (l m : List UInt8) : S l ++ S m = S (l ++ m) := by
  apply ByteArray.ext
  simp [S]
theorem S_inj {l m : List UInt8} (h : S l = S m) : l = m := by rw [← S_data l, h, S_data]
/-- Numbers in memory, to be read. -/
def NR (w : World) (A : Option Addr) (l : List Int) : Prop := LR (fun x : Int => .int .i64 x) w A l
/-- What Of answers. -/
def OfE (k : Nat) (W : World) (e : Ending) (w' : World) : Prop :=
  Below W.heap.size W w' ∧ if 1 ≤ k ∧ k ≤ 40 then ∃ a1 c1 a2 c2, e = .returned (.tuple #[.agg #[.string (S (spO k).1), .slice a1 (spO k).2.1.length c1, .slice a2 (spO k).2.2.length c2], .bool true]) ∧ (spO k).2.1.length ≤ c1 ∧ (spO k).2.2.length ≤ c2 ∧ NR w' a1 (spO k).2.1 ∧ NR w' a2 (spO k).2.2
  else ∃ a1 c1 a2 c2, e = .returned (.tuple #[.agg #[.string (S []), .slice a1 0 c1, .slice a2 0 c2], .bool false])
theorem sp_small {k : Nat} (h1 : 1 ≤ k) (h2 : k ≤ 40) : (spO k).2.1.length ≤ 2 ∧ (spO k).2.2.length ≤ 2 ∧ (∀ x ∈ (spO k).2.1 ++ (spO k).2.2, 1 ≤ x ∧ x ≤ 5) ∧ ((spO k).2.1 ++ (spO k).2.2).Nodup ∧ (spO k).1 ≠ [] := by
  rcases (by omega : k = 1 ∨ k = 2 ∨ k = 3 ∨ k = 4 ∨ k = 5 ∨ k = 6 ∨ k = 7 ∨ k = 8 ∨ k = 9 ∨ k = 10 ∨ k = 11 ∨ k = 12 ∨ k = 13 ∨ k = 14 ∨ k = 15 ∨ k = 16 ∨ k = 17 ∨ k = 18 ∨ k = 19 ∨ k = 20 ∨ k = 21 ∨ k = 22 ∨ k = 23 ∨ k = 24 ∨ k = 25 ∨ k = 26 ∨ k = 27 ∨ k = 28 ∨ k = 29 ∨ k = 30 ∨ k = 31 ∨ k = 32 ∨ k = 33 ∨ k = 34 ∨ k = 35 ∨ k = 36 ∨ k = 37 ∨ k = 38 ∨ k = 39 ∨ k = 40) with rfl | rfl | rfl | rfl | rfl | rfl | rfl | rfl | rfl | rfl | rfl | rfl | rfl | rfl | rfl | rfl | rfl | rfl | rfl | rfl | rfl | rfl | rfl | rfl | rfl | rfl | rfl | rfl | rfl | rfl | rfl | rfl | rfl | rfl | rfl | rfl | rfl | rfl | rfl | rfl <;> decide
theorem sp_names {a b : Nat} (h1 : 1 ≤ a ∧ a ≤ 40) (h2 : 1 ≤ b ∧ b ≤ 40) : (spO a).1 = (spO b).1 ↔ a = b := by
  have h : ∀ a < 40, ∀ b < 40, (spO (a + 1)).1 = (spO (b + 1)).1 ↔ a = b := by decide +kernel
  have := h (a - 1) (by omega) (b - 1) (by omega)
  rw [show a - 1 + 1 = a by omega, show b - 1 + 1 = b by omega] at this
  rw [this]; omega
set_option maxHeartbeats 2000000 in
theorem digits_any {w : World} {A : Option Addr} {n c : Nat} {l : List Int} (hl : l.length = n) (hn : n ≤ 1000) (hr : NR w A l) (hd : ∀ x ∈ l, 0 ≤ x ∧ x ≤ 9) : Calls Tryd.prog 9 #[.slice A n c] w fun e w' => e = .returned (.string (S (dgt l))) ∧ Below w.heap.size w w' := by
  have HR := Lib.hid (And.intro hl (And.intro hr hd))
  clear hl hr hd
  go_enter Tryd.func9, Tryd.ntmps9
  go_wp2_with fail
  go_loopg [3, 8] n (fun gh v3 vi wr => ∃ k : Nat, k ≤ n ∧ n - k ≤ gh ∧ v3 = .string (S (dgt (l.take k))) ∧ vi = .int .i64 k ∧ Hid (Below w.heap.size w wr))
  case atStart => exact ⟨0, by omega, by omega, rfl, rfl, Lib.hid (Below.refl _ _)⟩
  case round =>
    obtain ⟨k, hk, hg, rfl, rfl, hI⟩ := hrel
    by_cases hlt : k < n
    · obtain ⟨x, hx⟩ : ∃ x, l[k]? = some x := ⟨_, List.getElem?_eq_getElem (by rw [HR.out.1]; exact hlt)⟩
      have hx9 := HR.out.2.2 x (List.mem_of_getElem? hx)
      obtain ⟨b, off, rfl, hb, k0⟩ := (show LR (fun x : Int => .int .i64 x) w A l from HR.out.2.1).below hI.out k x hx
      have l1 : (k : Int) < n := by omega
      have iw : IntKind.i64.wrap ((k : Int) + 1) = ((k + 1 : Nat) : Int) := by rw [IntKind.wrap_i64]; omega
      have i2 : IntKind.i64.wrap (48 + x) = 48 + x := by rw [IntKind.wrap_i64]; omega
      have i3 : IntKind.u8.wrap (48 + x) = 48 + x := by rw [IntKind.wrap_u8]; omega
      obtain ⟨w2, e2⟩ : ∃ w2, wr.alloc (Obj.cells #[.int .u8 (48 + x)] 5) = w2 := ⟨_, rfl⟩
      have hb2 : Below wr.heap.size wr w2 := by rw [← e2]; exact below_alloc1 wr _
      have hn2 : w2.heap[wr.heap.size]? = some (Obj.cells #[.int .u8 (48 + x)] 5) := by rw [← e2]; exact heap_alloc_new wr _
      have cv : (convert 40 9 (.slice (some ⟨wr.heap.size, 0, none⟩) 1 1)).run Tryd.prog w2 = .ok (.string (S [UInt8.ofNat (48 + x.toNat)])) w2 := by
        have h := run_convert_bytes_arg w2 40 5 Tryd.underlying40 Tryd.underlying5 wr.heap.size 0 1 1 [48 + x] (by simp) (fun i hi => by
          have : i = 0 := by simpa using hi
          subst this
          rw [cell_of_row _ _ _ _ _ (0, 0) hn2]; rfl) 9 Tryd.underlying9
        rw [h]
        have : strOfNums [48 + x] = S [UInt8.ofNat (48 + x.toNat)] := by
          unfold strOfNums S
          simp only [List.map_cons, List.map_nil]
          rw [show (48 + x).toNat = 48 + x.toNat by omega]
        rw [this]
      have ad := run_string_add_sum (P := Tryd.prog) w2 (S (dgt (l.take k))) (S [UInt8.ofNat (48 + x.toNat)]) (by rw [S_size, S_size]; unfold dgt; rw [List.length_map, List.length_take]; simp; omega)
      have htk : dgt (l.take (k + 1)) = dgt (l.take k) ++ [UInt8.ofNat (48 + x.toNat)] := by unfold dgt; rw [List.take_add_one, hx]; simp
      rw [S_append, ← htk] at ad
      obtain ⟨s0, es0⟩ : ∃ s, S (dgt (l.take k)) = s := ⟨_, rfl⟩
      obtain ⟨sx, esx⟩ : ∃ s, S [UInt8.ofNat (48 + x.toNat)] = s := ⟨_, rfl⟩
      obtain ⟨s1, es1⟩ : ∃ s, S (dgt (l.take (k + 1))) = s := ⟨_, rfl⟩
      rw [es0, esx, es1] at ad
      rw [esx] at cv
      rw [es0]
      have HS1 := Lib.hid es1
      have HB := Lib.hid (hI.out.trans (hb2.mono hI.out.size))
      have HG := Lib.hid (And.intro hg hlt)
      clear hx hx9 hb hb2 hn2 htk hI hg hlt es0 esx es1
      go_wp2_with fail
      go_roundg (n - (k + 1))
      case rel => exact ⟨k + 1, HG.out.2, Nat.le_refl _, by rw [HS1.out], by first | rfl | simp, HB⟩
      case measure => have := HG.out; omega
    · have l1 : ¬ (k : Int) < n := by omega
      have HT := Lib.hid (show l.take k = l from List.take_of_length_le (by have := HR.out.1; omega))
      rw [HT.out]
      clear hg hlt
      go_wp2_with fail
      go_ret
      exact ⟨rfl, hI.out⟩
/-- Of answers OfE wherever all that was there at W0 still is. -/
def HOF (W0 : World) : Prop := ∀ (k : Nat) (w : World), (k : Int) < 18446744073709551616 → Below W0.heap.size W0 w → Calls Tryd.prog 8 #[.int .u64 (k : Int)] w (OfE k w)
set_option maxHeartbeats 4000000 in
set_option maxRecDepth 100000 in
theorem fit_any (w : World) (hOf : HOF w) : Calls Tryd.prog 6 #[] w (RB w true) := by
  have C := hOf 1 w (by decide) (Below.refl _ _)
  have C := Lib.hid C
  clear hOf
  go_enter Tryd.func6, Tryd.ntmps6
  go_wp2_with fail
  refine C.out.mono ?_; rintro e w1 ⟨hb, h⟩
  rw [if_pos (by decide)] at h
  obtain ⟨a1, c1, a2, c2, rfl, _, _, _, _⟩ := h
  have HB := Lib.hid hb
  clear hb C
  rw [show (spO 1).2.1.length = 0 from rfl, show (spO 1).2.2.length = 0 from rfl, show S (spO 1).1 = ⟨#[99, 97, 116, 110, 101, 119]⟩ from rfl]
  go_upto_region 2 with fail
  obtain ⟨X, eX⟩ : ∃ X, w1.heap.size = X := ⟨_, rfl⟩
  obtain ⟨w2, e2⟩ : ∃ w2, w1.alloc (Obj.cells #[.string ⟨#[99, 97, 116, 110, 101, 119]⟩, .slice a1 0 c1, .slice a2 0 c2] 29) = w2 := ⟨_, rfl⟩
  have hb2 : Below w1.heap.size w1 w2 := by rw [← e2]; exact below_alloc1 w1 _
  have hX : w2.heap[X]? = some (Obj.cells #[.string ⟨#[99, 97, 116, 110, 101, 119]⟩, .slice a1 0 c1, .slice a2 0 c2] 29) := by rw [← e2, ← eX]; exact heap_alloc_new w1 _
  have x0 : w2.cell? ⟨X, 0, none⟩ = some (.string ⟨#[99, 97, 116, 110, 101, 119]⟩) := by rw [cell_of_row _ _ _ _ _ (0, 0) hX]; rfl
  have x1 : w2.cell? ⟨X, 1, none⟩ = some (.slice a1 0 c1) := by rw [cell_of_row _ _ _ _ _ (0, 0) hX]; rfl
  have x2 : w2.cell? ⟨X, 2, none⟩ = some (.slice a2 0 c2) := by rw [cell_of_row _ _ _ _ _ (0, 0) hX]; rfl
  have HF := Lib.hid (HB.out.trans (hb2.mono HB.out.size))
  try rw [e2]
  try rw [eX]
  clear e2 eX hb2 hX
  go_wp2_with fail
  go_ret
  exact ⟨rfl, HF.out⟩
def inI (x : Int) : Value := .int .i64 x
theorem infoI : (Tryd.prog.info? 3).map (fun i => (i.zero, i.size, i.bytes)) = some (some (.int .i64 0), 1, 8) := by kernel_rfl
theorem info_parts {P : Program} {t : TypeId} {z : Option Value} {s b : Nat} (h : (P.info? t).map (fun i => (i.zero, i.size, i.bytes)) = some (z, s, b)) : ∃ i, P.info? t = some i ∧ i.zero = z ∧ i.size = s ∧ i.bytes = b := by
  cases e : P.info? t with
  | none => rw [e] at h; cases h
  | some i =>
    rw [e] at h
    simp only [Option.map_some, Option.some.injEq, Prod.mk.injEq] at h
    exact ⟨i, rfl, h.1, h.2.1, h.2.2⟩
/-- Numbers are appended to a list of one's own. -/
theorem app_n {w : World} {B n c : Nat} {v : Value} {A : Option Addr} {xs ys : List Int} (ty : TypeId) (hl : ys.length = n) (hn : xs.length + n ≤ 100000) (hc : n ≤ c) (hB : B ≤ w.heap.size) (hv : RW (fun b => B ≤ b) 3 inI w v xs) (hr : NR w A ys) :
    ∃ (v' : Value) (w' : World), (Builtin.append_ #[27, 27] ty #[v, .slice A n c]).run Tryd.prog w = .ok v' w' ∧ RW (fun b => B ≤ b) 3 inI w' v' (xs ++ ys) ∧ Below B w w' ∧ ∀ (b : Nat) (s : ByteArray) (p : Nat), w.heap[b]? = some (Obj.stringIter s p) → w'.heap[b]? = some (Obj.stringIter s p) := by
  obtain ⟨i, hi, hz, hsz, hby⟩ := info_parts infoI
  subst hl
  obtain ⟨v', w', h1, h2, S, h3, h4⟩ := append_rw (P := Tryd.prog) (own := fun b => B ≤ b) (xs := xs) (ys := ys) (enc := inI) 27 ty i _ 8 Tryd.underlying27 hi hz hsz hby (by omega) rfl (fun _ => rfl) hv hn A c hc hr
  exact ⟨v', w', h1, h2.keep fun b cur hb _ => ⟨hb.elim id fun h => Nat.le_trans hB h, rfl⟩, h3.below hB fun b hb => (h4 b hb).1, fun b s p hb => (h3.block b (Array.getElem?_eq_some_iff.1 hb).1 fun hm => by
    obtain ⟨_, cur, hc⟩ := h4 b hm
    rw [hb] at hc
    cases hc).trans hb⟩
theorem RW.lr {α : Type} {e : TypeId} {enc : α → Value} {w : World} {own : Nat → Prop} {A : Option Addr} {n c : Nat} {xs : List α} (h : RW own e enc w (.slice A n c) xs) : LR enc w A xs := by
  obtain ⟨A', c', e, _, _, hr⟩ := h.form
  injection e with e1
  subst e1
  exact hr
end Go.Proofs.YtjbaniclcaiehaaDoor
