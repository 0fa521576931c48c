import Derived.Test.YtlkhbbdigljpjaaRows
import Derived.Test.YtlkhbbdigljpjaaNa
import Derived.WalkKit
import Derived.WalkLawsBesides
import Derived.WalkSpells
import Derived.Lib.Hide
import Derived.Outline
import Derived.BigQuiet
import Derived.Deep.QuietTactic
import Derived.Deep.LoopGhost
namespace Go.Proofs.Ytlkhbbdigljpjaa
open Go.RowKit
set_option linter.unusedVariables false
set_option linter.unusedSimpArgs false

/-- A slice of pairs reads as a list of them. -/
def Reads (w : World) (v : Value) (ps : List (Nat × Int)) : Prop :=
  (v = .slice none 0 0 ∧ ps = []) ∨ ∃ b off cap, v = .slice (some ⟨b, off, none⟩) ps.length cap ∧ b < w.heap.size ∧ ps.length ≤ 140737488351232 ∧
    ∀ i p, ps[i]? = some p → w.cell? ⟨b, off + i * 2, none⟩ = some (.int .u32 p.1) ∧ w.cell? ⟨b, off + i * 2 + 1, none⟩ = some (.int .i64 p.2)
theorem Reads.below {w w' : World} {v : Value} {ps : List (Nat × Int)} (h : Reads w v ps) (hb : Below w.heap.size w w') : Reads w' v ps := by
  rcases h with h | ⟨b, off, cap, h1, h2, h3, h4⟩
  · exact .inl h
  · refine .inr ⟨b, off, cap, h1, Nat.lt_of_lt_of_le h2 hb.size, h3, fun i p hp => ?_⟩
    rw [hb.cell (p := ⟨b, _, none⟩) h2, hb.cell (p := ⟨b, _, none⟩) h2]
    exact h4 i p hp

theorem at_none (D : Int) (c : Nat) (w : World) :
    Calls Try.prog 29 #[.agg #[.int .i64 D, .slice none 0 0], .int .u32 c] w fun e w' => e = .returned (.int .i64 D) ∧ Below w.heap.size w w' := by
  go_enter Try.func29, Try.ntmps29
  go_wp2
  go_loop [5] (fun i => i = .int .i64 0) (fun i => 0)
  case atStart => rfl
  case round =>
    subst hrel
    go_wp2
    go_ret
    exact ⟨rfl, (Below.refl _ _).alloc (Nat.le_refl _) _⟩
set_option maxHeartbeats 1000000 in
theorem at_some (b off cap : Nat) (ps : List (Nat × Int)) (D : Int) (c : Nat) (w : World) (hn : ps.length ≤ 140737488351232) (hb : b < w.heap.size)
   (hc : ∀ i p, ps[i]? = some p → w.cell? ⟨b, off + i * 2, none⟩ = some (.int .u32 p.1) ∧ w.cell? ⟨b, off + i * 2 + 1, none⟩ = some (.int .i64 p.2)) :
    Calls Try.prog 29 #[.agg #[.int .i64 D, .slice (some ⟨b, off, none⟩) ps.length cap], .int .u32 c] w fun e w' => e = .returned (.int .i64 (Lab.at' D ps c)) ∧ Below w.heap.size w w' := by
  have HC := Lib.hid hc
  clear hc
  obtain ⟨n, en⟩ : ∃ n, ps.length = n := ⟨_, rfl⟩
  obtain ⟨r, er⟩ : ∃ r, Lab.at' D ps c = r := ⟨_, rfl⟩
  rw [en] at hn ⊢
  rw [er]
  have ER := Lib.hid (And.intro en er)
  clear en er
  go_enter Try.func29, Try.ntmps29
  go_wp2
  go_loop [5] (fun i => ∃ k : Nat, k ≤ n ∧ Hid (Lab.at' D (ps.drop k) c = r) ∧ i = .int .i64 k) (fun i => n - (intOf i).toNat)
  case atStart => exact ⟨0, by omega, Lib.hid (by rw [List.drop_zero]; exact ER.out.2), rfl⟩
  case round =>
    obtain ⟨k, hk, hat, rfl⟩ := hrel
    by_cases hlt : k < n
    · obtain ⟨p, hp⟩ : ∃ p, ps[k]? = some p := ⟨_, List.getElem?_eq_getElem (by rw [ER.out.1]; exact hlt)⟩
      obtain ⟨h1, h2⟩ := HC.out k p hp
      by_cases e : p.1 = c
      · have hv : Lab.at' D (ps.drop k) c = p.2 := Lab.at_drop_hit hp e
        have HV := Lib.hid (hv.symm.trans hat.out)
        have ht : ((p.1 : Int) == c) = true := by rw [beq_iff_eq]; omega
        obtain ⟨p1, p2⟩ := p
        clear e hv hat hp
        go_wp2
        go_ret
        exact ⟨by rw [← HV.out]; rfl, (Below.refl _ _).alloc (Nat.le_refl _) _⟩
      · have hv := Lib.hid ((Lab.at_drop_miss (D := D) hp e).symm.trans hat.out)
        have ht : ((p.1 : Int) == c) = false := by rw [beq_eq_false_iff_ne]; omega
        obtain ⟨p1, p2⟩ := p
        clear e hat hp
        go_wp2
        go_round
        case rel => exact ⟨k + 1, by omega, hv, by go_num⟩
        case measure => simp [intOf]; omega
    · have HV := Lib.hid ((Lab.at_drop_end (D := D) (ps := ps) (c := c) (k := k) (by rw [ER.out.1]; omega)).symm.trans hat.out)
      clear hat
      go_wp2
      go_ret
      exact ⟨by rw [← HV.out]; rfl, (Below.refl _ _).alloc (Nat.le_refl _) _⟩
theorem at_any (v : Value) (ps : List (Nat × Int)) (D : Int) (c : Nat) (w : World) (h : Reads w v ps) :
    Calls Try.prog 29 #[.agg #[.int .i64 D, v], .int .u32 c] w fun e w' => e = .returned (.int .i64 (Lab.at' D ps c)) ∧ Below w.heap.size w w' := by
  rcases h with ⟨rfl, rfl⟩ | ⟨b, off, cap, rfl, h2, h3, h4⟩
  · exact at_none D c w
  · exact at_some b off cap ps D c w h3 h2 h4
end Go.Proofs.Ytlkhbbdigljpjaa
