/- Put. -/
import Derived.Test.YtncbbfiafnpimaaBc
set_option linter.unusedVariables false
set_option linter.unusedSimpArgs false
namespace Go.Proofs.Ytncbbfiafnpimaa
open Go.RowKit Tl
set_option linter.unusedVariables false
set_option linter.unusedSimpArgs false
variable {w : World} {R : Nat} {g : Nat → En} {n : Nat}
theorem put_none (w : World) (p f : Int) (b : Bool) : Calls Try.prog 7 #[.pointer none, .int .i64 p, .int .i64 f, .bool b] w fun e w' => e = .returned (.tuple #[]) ∧ w' = w := by
  go_enter Try.func7, Try.ntmps7
  go_wp2_with fail
  exact bodyPost_ret (results_none rfl _ _ _) rfl ⟨rfl, rfl⟩
set_option maxHeartbeats 1000000 in
theorem put_any (h : Tb w R g n) (hn : n < 4) (p f : Int) (b : Bool) : Calls Try.prog 7 #[.pointer (some ⟨R, 0, none⟩), .int .i64 p, .int .i64 f, .bool b] w fun e w' => e = .returned (.tuple #[]) ∧ Turn [R] w w' ∧ Tb w' R (putG g n p f b) (putN g n p f) := by
  by_cases hf : f < 1
  · have HE := Lib.hid (show Turn [R] w w ∧ Tb w R (putG g n p f b) (putN g n p f) by rw [putG, putN, if_pos hf, if_pos hf]; exact ⟨Turn.refl _ _, h⟩)
    clear h
    go_enter Try.func7, Try.ntmps7
    go_wp2_with fail
    exact bodyPost_ret (results_none rfl _ _ _) rfl ⟨rfl, HE.out⟩
  have A := Lib.hid (at_any h p)
  have H := Lib.hid h
  clear h
  rcases ix_cases g p with ⟨e, _⟩ | ⟨k, hk, e, hh, _⟩
  · have eG : putG g n p f b = upd g n ⟨p, f, b⟩ := by rw [putG, if_neg hf, e, if_pos (by decide)]
    have eN : putN g n p f = (n + 1) % 4 := by rw [putN, if_neg hf, e, if_pos (by decide)]
    rw [eG, eN]
    rw [e] at A
    clear e eG eN
    obtain ⟨n1, en1, en1'⟩ : ∃ n1 : Nat, ((n : Int) + 1).tmod 4 = (n1 : Int) ∧ (n + 1) % 4 = n1 := ⟨(n + 1) % 4, by rw [Int.tmod_eq_emod_of_nonneg (by omega)]; omega, rfl⟩
    rw [en1']
    go_enter Try.func7, Try.ntmps7
    go_wp2_with fail
    refine A.out.mono ?_; rintro e w1 ⟨rfl, hb⟩
    have h1 := H.out.below hb
    have c12 : w1.cell? ⟨R, 12, none⟩ = some (.int .i64 (n : Int)) := by rw [h1.cell]; rfl
    have f12 : w1.frozen? ⟨R, 12, none⟩ = false := frozen_of_row _ _ _ _ 28 h1
    have h2 := h1.nexts n1
    have HE := Lib.hid (show Turn [R] w ((w1.setCell ⟨R, 12, none⟩ (.int .i64 (n1 : Int))).setCells R (n * 3) (ec ⟨p, f, b⟩)) ∧ Tb ((w1.setCell ⟨R, 12, none⟩ (.int .i64 (n1 : Int))).setCells R (n * 3) (ec ⟨p, f, b⟩)) R (upd g n ⟨p, f, b⟩) n1 from
      ⟨((Turn.of_below hb).trans (Turn.set w1 R 12 _) (fun x hx => .inl hx)).trans (setCells_turn R _ _ _) (fun x hx => .inl hx), h2.place hn _⟩)
    have HT := Lib.hid (show (w1.setCell ⟨R, 12, none⟩ (.int .i64 (n1 : Int))).there R (n * 3) (ec ⟨p, f, b⟩).toArray.size from h2.there (n * 3) 3 (by omega))
    have HZ := Lib.hid (show (Try.prog.info? 25).map (·.size) = some (ec ⟨p, f, b⟩).toArray.size from size25)
    have H1 := Lib.hid (show (ec ⟨p, f, b⟩).toArray.all (·.oneCell') = true from by kernel_rfl)
    clear A hb H h1 h2
    go_wp2_with (with_reducible refine wpList_store_mid rfl 25 (.tmp 38) (.tmp 35) rfl R (n * 3) (ec ⟨p, f, b⟩).toArray rfl rfl HT.out HZ.out H1.out ?_)
    go_wp2_with fail
    exact bodyPost_end (results_none rfl _ _ _) rfl ⟨rfl, HE.out⟩
  · have eG : putG g n p f b = upd g k ⟨p, f, b⟩ := by rw [putG, if_neg hf, e, if_neg (show ¬ ((k : Int) < 0) by omega), Int.toNat_natCast]
    have eN : putN g n p f = n := by rw [putN, if_neg hf, e, if_neg (show ¬ ((k : Int) < 0) by omega)]
    rw [eG, eN]
    rw [e] at A
    clear e eG eN hh
    go_enter Try.func7, Try.ntmps7
    go_wp2_with fail
    refine A.out.mono ?_; rintro e w1 ⟨rfl, hb⟩
    have h1 := H.out.below hb
    have HE := Lib.hid (show Turn [R] w (w1.setCells R (k * 3) (ec ⟨p, f, b⟩)) ∧ Tb (w1.setCells R (k * 3) (ec ⟨p, f, b⟩)) R (upd g k ⟨p, f, b⟩) n from
      ⟨(Turn.of_below hb).trans (setCells_turn R _ _ _) (fun x hx => .inl hx), h1.place hk _⟩)
    have HT := Lib.hid (show w1.there R (k * 3) (ec ⟨p, f, b⟩).toArray.size from h1.there (k * 3) 3 (by omega))
    have HZ := Lib.hid (show (Try.prog.info? 25).map (·.size) = some (ec ⟨p, f, b⟩).toArray.size from size25)
    have H1 := Lib.hid (show (ec ⟨p, f, b⟩).toArray.all (·.oneCell') = true from by kernel_rfl)
    clear A hb H h1
    go_wp2_with (with_reducible refine wpList_store_mid rfl 25 (.tmp 38) (.tmp 35) rfl R (k * 3) (ec ⟨p, f, b⟩).toArray rfl rfl HT.out HZ.out H1.out ?_)
    go_wp2_with fail
    exact bodyPost_end (results_none rfl _ _ _) rfl ⟨rfl, HE.out⟩
end Go.Proofs.Ytncbbfiafnpimaa
