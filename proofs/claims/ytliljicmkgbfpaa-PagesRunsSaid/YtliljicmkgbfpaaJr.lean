/- Drop. What the calls of pages do stands then: walk_st, fill_st, fill_few, fill_bad, each_any, each_iter, wipe_st, drop_st, page_any, offset_any. -/
import Derived.Test.YtliljicmkgbfpaaJq
set_option linter.unusedVariables false
set_option linter.unusedSimpArgs false
namespace Go.Proofs.Ytliljicmkgbfpaa
open Go.RowKit Go.Shelf Pg
set_option linter.unusedVariables false
set_option linter.unusedSimpArgs false
variable {W : World} {T : List Nat} {R : Nat} {os : List Nat} {ds : List (List Nat)} {o : Nat} {ks : List (Nat × Nat)} {nd : Nat → Nat → Nat} {mp : Nat → Option (Nat × Bool)} {w w' : World}
theorem empty_root (t : Tb os ds o ks nd mp) : Emp W R os ds o ks nd 3 0 0 := by
  have h3 : ∀ q, (3, q) ∈ ks → Emp W R os ds o ks nd 0 3 q := fun q hk => empty_step t 0 3 q (by omega) hk (fun k' e => by omega)
  have h2 : ∀ q, (2, q) ∈ ks → Emp W R os ds o ks nd 1 2 q := fun q hk => empty_step t 1 2 q (by omega) hk (fun k' e i hi hm => by rw [show k' = 0 by omega]; exact h3 _ hm)
  have h1 : ∀ q, (1, q) ∈ ks → Emp W R os ds o ks nd 2 1 q := fun q hk => empty_step t 2 1 q (by omega) hk (fun k' e i hi hm => by rw [show k' = 1 by omega]; exact h2 _ hm)
  exact empty_step t 3 0 0 (by omega) t.root (fun k' e i hi hm => by rw [show k' = 2 by omega]; exact h1 _ hm)
theorem drop_st (h : St W T R os ds w) (t : Tb os ds o ks nd mp) (r : Int) (hr : ((nd 0 0 : Nat) : Int) = r) :
    Calls Try.prog 14 #[.pointer (some ⟨R, 0, none⟩), .int .i64 r] w fun e w' => e = .returned (.int .i64 ((ks.length : Nat) - 1)) ∧ ∃ os' ds', St W T R os' ds' w' ∧ Tb os' ds' o [(0, 0)] (fun _ _ => nd 0 0) (fun _ => none) ∧ Oth o os ds os' ds' ∧ os'.count 0 + 1 = os.count 0 + ks.length ∧ Same T w w' := by
  subst hr
  have hE := empty_root (W := W) (R := R) t T os ds w h ⟨rfl, rfl, fun j hm => ⟨(by
    refine (t.own j.1 j.2 ?_).2.2.1
    rcases List.mem_cons.1 hm with rfl | hm
    · exact t.root
    · exact (sk_und _ _ _ _ hm).1), rfl⟩⟩
  have hs := t.sk_root
  have fin : ∀ os' ds' w', St W T R os' ds' w' → Em o os ds ((sk ks 3 0 0).map (nk nd)) (nd 0 0) os' ds' → (ds'.getD (nd 0 0 - 1) []).length = 64 → (∀ i, i < 8 → there (ent ds' (nd 0 0) i) = false) → Same T w w' →
      ∃ os' ds', St W T R os' ds' w' ∧ Tb os' ds' o [(0, 0)] (fun _ _ => nd 0 0) (fun _ => none) ∧ Oth o os ds os' ds' ∧ os'.count 0 + 1 = os.count 0 + ks.length ∧ Same T w w' := fun os' ds' w' h1 h2 h3 h4 h5 => by
    obtain ⟨g1, g2⟩ := t.dropped h2 h3 h4
    exact ⟨os', ds', h1, g1, h2.oth, g2, h5⟩
  have FIN := Lib.hid fin
  have HS := Lib.hid hs
  obtain ⟨sn, esn⟩ : ∃ sn : Int, (((sk ks 3 0 0).length : Nat) : Int) = sn := ⟨_, rfl⟩
  rw [esn] at hE
  rw [show ((0 : Nat) : Int) = 0 from rfl] at hE
  obtain ⟨f, ef⟩ : ∃ f : Int, ((nd 0 0 : Nat) : Int) = f := ⟨_, rfl⟩
  rw [ef] at hE ⊢
  have hsn : ((ks.length : Nat) : Int) - 1 = sn := by omega
  rw [hsn]
  have E := Lib.hid hE
  clear h t hE hs fin esn ef hsn
  go_enter Try.func14, Try.ntmps14
  go_wp2_with fail
  refine E.out.mono ?_; rintro e w1 ⟨rfl, os', ds', h1, h2, h3, h4, h5⟩
  have H := Lib.hid (FIN.out os' ds' w1 h1 h2 h3 h4 h5)
  clear h1 h2 h3 h4 h5 E
  go_wp2_with fail
  go_ret
  exact ⟨rfl, H.out⟩
/-- A root is charged. -/
theorem root_new (os : List Nat) (ds : List (List Nat)) (o k : Nat) (o0 : o ≠ 0) (hk : Fr.alloc os o = (k + 1, os.set k o)) (hd : Fr.allocD os ds o = ds.set k Fr.zeros) (hkl : k < os.length) (h0 : os.getD k 0 = 0) (hc : os.count o = 0) (hl : ds.length = os.length) : Tb (os.set k o) (ds.set k Fr.zeros) o [(0, 0)] (fun _ _ => k + 1) (fun _ => none) := by
  refine Tb.new o0 (by omega) (by rw [List.length_set]; omega) (by rw [getD_setN _ _ _ _ hkl, if_pos (by omega)]) (by rw [getD_set _ _ _ _ (by omega), if_pos (by omega)]) ?_ (by rw [List.length_set, List.length_set, hl])
  have e : os[k] = 0 := by rw [List.getD_eq_getElem?_getD, List.getElem?_eq_getElem hkl] at h0; exact h0
  rw [List.count_set hkl, e, hc, if_neg (by simp; omega), if_pos (by simp)]
end Go.Proofs.Ytliljicmkgbfpaa
