/- What is stored is loaded again, reckoned. -/
import Derived.Test.YtojnokaeopadfaaKa
set_option linter.unusedVariables false
set_option linter.unusedSimpArgs false
namespace Cor
/-- The bytes before the program is laid. -/
def g0 (k : Nat) : Nat → Nat := fun j => if 64 ≤ j ∧ j < 64 + k then (j - 64) % 256 else 0
theorem g0_lt (k j : Nat) : g0 k j < 256 := by unfold g0; split <;> omega
theorem g0_zero : g0 0 = fun _ => 0 := by funext j; unfold g0; rw [if_neg (by omega)]
theorem g0_next (k j : Nat) : g0 (k + 1) j = if j = 64 + k then k % 256 else g0 k j := by
  unfold g0
  by_cases h : j = 64 + k
  · rw [if_pos (by omega), if_pos h, show j - 64 = k by omega]
  · rw [if_neg h]
    by_cases h2 : 64 ≤ j ∧ j < 64 + k
    · rw [if_pos (by omega), if_pos h2]
    · rw [if_neg (by omega), if_neg h2]
def wd (h : Nat) : Nat := if h = 0 then 8 else if h = 1 then 4 else 1
def g1 (h v : Nat) : Nat → Nat := lay (g0 192) 0 (Isa.enc ((22 + h : Nat) : Int) (3 : Nat) (4 : Nat) (0 : Nat) (v : Nat))
def g2 (h v : Nat) : Nat → Nat := lay (g1 h v) 8 (Isa.enc ((19 + h : Nat) : Int) (5 : Nat) (4 : Nat) (0 : Nat) (v : Nat))
def g3 (h v x : Nat) : Nat → Nat := sti (g2 h v) v (wd h) (low x (wd h)) (wd h)
theorem g2_lt (h v : Nat) (i : Nat) : g2 h v i < 256 := lay_lt (lay_lt (g0_lt 192) _ (Go.Proofs.Ytojnokaeopadfaa.byte_enc _ _ _ _ _)) _ (Go.Proofs.Ytojnokaeopadfaa.byte_enc _ _ _ _ _) i
theorem g2_at (h v j : Nat) (hj : 16 ≤ j) : g2 h v j = g0 192 j := by
  unfold g2 g1
  rw [lay_ne _ _ _ (by right; show 8 + 8 ≤ j; omega), lay_ne _ _ _ (by right; show 0 + 8 ≤ j; omega)]
theorem g3_at (h v x j : Nat) (hj : 16 ≤ j) (ho : j < v ∨ v + wd h ≤ j) : g3 h v x j = g0 192 j := by
  unfold g3 sti
  rw [if_neg (by omega), g2_at h v j hj]
theorem wd_is (h : Nat) (hh : h < 3) : wid ((22 + h : Nat) : Int) = wd h ∧ wid ((19 + h : Nat) : Int) = wd h := by
  match h, hh with
  | 0, _ => exact ⟨rfl, rfl⟩
  | 1, _ => exact ⟨rfl, rfl⟩
  | 2, _ => exact ⟨rfl, rfl⟩
theorem wd_in (h : Nat) : wd h = 1 ∨ wd h = 4 ∨ wd h = 8 := by
  unfold wd
  by_cases h0 : h = 0
  · rw [if_pos h0]; simp
  · rw [if_neg h0]
    by_cases h1 : h = 1
    · rw [if_pos h1]; simp
    · rw [if_neg h1]; simp
theorem ldf_sti (f : Nat → Nat) (v w x : Nat) (hw : w = 1 ∨ w = 4 ∨ w = 8) : ldf (sti f v w (low x w) w) v w = low x w := by
  have at_ : ∀ i, i < w → sti f v w (low x w) w (v + i) = low x w / 2 ^ (8 * (w - 1 - i)) % 256 := fun i hi => by
    unfold sti
    rw [if_pos (by omega), show v + i - v = i by omega]
  rcases hw with rfl | rfl | rfl
  · have h0 := at_ 0 (by omega)
    simp only [ldf, h0]
    show 0 * 256 + x % 256 / 1 % 256 = x % 256
    omega
  · have h0 := at_ 0 (by omega)
    have h1 := at_ 1 (by omega)
    have h2 := at_ 2 (by omega)
    have h3 := at_ 3 (by omega)
    simp only [ldf, h0, h1, h2, h3]
    show (((0 * 256 + x % 4294967296 / 16777216 % 256) * 256 + x % 4294967296 / 65536 % 256) * 256 + x % 4294967296 / 256 % 256) * 256 + x % 4294967296 / 1 % 256 = x % 4294967296
    omega
  · have h0 := at_ 0 (by omega)
    have h1 := at_ 1 (by omega)
    have h2 := at_ 2 (by omega)
    have h3 := at_ 3 (by omega)
    have h4 := at_ 4 (by omega)
    have h5 := at_ 5 (by omega)
    have h6 := at_ 6 (by omega)
    have h7 := at_ 7 (by omega)
    simp only [ldf, h0, h1, h2, h3, h4, h5, h6, h7]
    have hl : low x 8 < 18446744073709551616 := Nat.mod_lt _ (by decide)
    generalize low x 8 = z at hl ⊢
    show (((((((0 * 256 + z / 72057594037927936 % 256) * 256 + z / 281474976710656 % 256) * 256 + z / 1099511627776 % 256) * 256 + z / 4294967296 % 256) * 256 + z / 16777216 % 256) * 256 + z / 65536 % 256) * 256 + z / 256 % 256) * 256 + z / 1 % 256 = z
    omega
theorem place_v (v w : Nat) (hv : v < 262144) (hw : w = 1 ∨ w = 4 ∨ w = 8) (hm : v % w = 0) : Alu.place 0 (v : Int) (w : Nat) = ((v : Int), true) := by
  have e : (((0 : Nat) : Int) + (v : Int)) % 18446744073709551616 = v := by omega
  unfold Alu.place
  rw [e, if_neg]
  rintro (h | h | h)
  · omega
  · omega
  · apply h; rcases hw with rfl | rfl | rfl <;> omega
/-- The two steps. -/
theorem moves_1 (h v x : Nat) (hh : h < 3) (hv : 64 ≤ v) (hv2 : v + wd h ≤ 256) (hm : v % wd h = 0) : stp 256 0 ⟨put (fun _ => 0) 3 x, 0, g2 h v⟩ = (⟨put (fun _ => 0) 3 x, 8, g3 h v x⟩, 0) := by
  have hw := wd_in h
  rw [stp_enc 256 0 _ (22 + h) 3 4 0 v (show (0 : Nat) < 262144 by decide) (show (0 : Nat) % 8 = 0 by decide) (show ok 256 0 0 8 = true by decide) (fun k y hy => by
    have hk := (List.getElem?_eq_some_iff.1 hy).1
    have hk8 : k < 8 := hk
    show g2 h v (0 + k) = y
    unfold g2 g1
    rw [lay_ne _ _ _ (by left; omega)]
    exact lay_at (g0 192) 0 _ hy) (by omega) (by omega) (by decide) (by decide) (by decide) (by omega) (by omega)]
  have him : isMove ((22 + h : Nat) : Int) = true := by unfold isMove; exact decide_eq_true (by omega)
  unfold exec
  rw [him, if_pos rfl]
  unfold move
  rw [(wd_is h hh).1]
  have hp : Alu.place ((⟨put (fun _ => 0) 3 x, 0, g2 h v⟩ : S).R 4) (v : Int) (wd h : Nat) = ((v : Int), true) := place_v v (wd h) (by omega) hw hm
  rw [hp]
  have hok : ok 256 0 v (wd h) = true := by unfold ok; exact decide_eq_true ⟨hv2, .inl rfl⟩
  simp only [Int.toNat_natCast, hok]
  rw [if_neg (by decide), if_neg (by decide), if_pos (by omega)]
  rfl
theorem moves_2 (h v x : Nat) (hh : h < 3) (hv : 64 ≤ v) (hv2 : v + wd h ≤ 256) (hm : v % wd h = 0) : stp 256 0 ⟨put (fun _ => 0) 3 x, 8, g3 h v x⟩ = (⟨put (put (fun _ => 0) 3 x) 5 (low x (wd h)), 16, g3 h v x⟩, 0) := by
  have hw := wd_in h
  rw [stp_enc 256 0 _ (19 + h) 5 4 0 v (show (8 : Nat) < 262144 by decide) (show (8 : Nat) % 8 = 0 by decide) (show ok 256 0 8 8 = true by decide) (fun k y hy => by
    have hk := (List.getElem?_eq_some_iff.1 hy).1
    have hk8 : k < 8 := hk
    show g3 h v x (8 + k) = y
    unfold g3 sti
    rw [if_neg (by omega)]
    exact lay_at (g1 h v) 8 _ hy) (by omega) (by omega) (by decide) (by decide) (by decide) (by omega) (by omega)]
  have him : isMove ((19 + h : Nat) : Int) = true := by unfold isMove; exact decide_eq_true (by omega)
  unfold exec
  rw [him, if_pos rfl]
  unfold move
  rw [(wd_is h hh).2]
  have hp : Alu.place ((⟨put (fun _ => 0) 3 x, 8, g3 h v x⟩ : S).R 4) (v : Int) (wd h : Nat) = ((v : Int), true) := place_v v (wd h) (by omega) hw hm
  rw [hp]
  have hok : ok 256 0 v (wd h) = true := by unfold ok; exact decide_eq_true ⟨hv2, .inl rfl⟩
  simp only [Int.toNat_natCast, hok]
  rw [if_neg (by decide), if_neg (by decide), if_neg (by omega)]
  have e := ldf_sti (g2 h v) v (wd h) x hw
  show ((⟨put (put (fun _ => 0) 3 x) 5 (ldf (g3 h v x) v (wd h)), nxt 8, g3 h v x⟩ : S), (0 : Int)) = _
  unfold g3
  rw [e]
  rfl
end Cor
