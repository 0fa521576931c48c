/- Sets of pages: a law's own map[int]bool. -/
import Derived.Test.YtliljicmkgbfpaaJr
import Derived.Maps.OwnSet
import Derived.Maps.OwnOps
import Derived.Maps.RangeWalk
import Derived.Maps.Ext
set_option linter.unusedVariables false
set_option linter.unusedSimpArgs false
namespace Go.Proofs.Ytliljicmkgbfpaa
open Go.RowKit Go.Maps
theorem keyI : Keyed Try.prog 3 := int_keyed Try.underlying3
theorem zeroB (w : World) : (zeroValue 4).run Try.prog w = .ok (.bool false) w := by kernel_rfl
theorem plain_bool_inv {v : Value} {z : DataW Unit × List MemPlace} (h : plainElem Try.prog 4 v = some z) : ∃ x, v = .bool x ∧ z = (.lit (.bool x), []) := by
  unfold plainElem at h
  rw [Try.underlying4] at h
  cases v <;> simp at h
  subst h
  exact ⟨_, rfl, rfl⟩
theorem wf_small {x : Int} (h1 : -9223372036854775808 ≤ x) (h2 : x ≤ 9223372036854775807) : (Lit.int .i64 x).wf = true := by
  simp [Lit.wf, IntKind.min, IntKind.max, IntKind.signed, IntKind.bits]; omega
theorem key_num {x : Int} (h1 : -9223372036854775808 ≤ x) (h2 : x ≤ 9223372036854775807) : keyOf Try.prog 3 (.int .i64 x) = some (.int .i64 x) := keyOf_int_mk Try.underlying3 (wf_small h1 h2)
/-- A set of numbers below 4194304: the map in block G holds just these, each with true. -/
def SetM (w : World) (G m : Nat) (S : List Nat) : Prop := S.Nodup ∧ ∃ D : DataW Unit, w.ownsMap Try.prog 3 (plainElem Try.prog 4) G m D ∧
  (∀ x : Int, Maps.has D (.int .i64 x) = decide (0 ≤ x ∧ x.toNat ∈ S)) ∧ Maps.size D = S.length
theorem SetM.new (w : World) : SetM (w.alloc (.map #[] 0)) w.heap.size 0 [] :=
  ⟨by simp, .map [], World.ownsMap_made _ _ _ _, fun x => by simp; rfl, rfl⟩
theorem SetM.same {w w' : World} {G m : Nat} {S : List Nat} (h : SetM w G m S) (hs : w'.heap[G]? = w.heap[G]?) : SetM w' G m S := by
  obtain ⟨h0, D, ⟨es, clock, h1, h2⟩, h3⟩ := h
  exact ⟨h0, D, ⟨es, clock, by rw [hs]; exact h1, h2⟩, h3⟩
theorem SetM.len {w : World} {G m : Nat} {S : List Nat} (h : SetM w G m S) (ty : TypeId) : (Builtin.len_ #[29] ty #[.map (some G)]).run Try.prog w = .ok (.int .i64 (S.length : Nat)) w := by
  obtain ⟨h0, D, ho, _, h3⟩ := h
  rw [ho.len Try.underlying29, h3]
/-- One more. -/
def add (S : List Nat) (i : Nat) : List Nat := if i ∈ S then S else i :: S
theorem mem_add {S : List Nat} {i j : Nat} : j ∈ add S i ↔ j = i ∨ j ∈ S := by
  unfold add
  split
  · exact ⟨.inr, fun h => by rcases h with rfl | h; assumption; exact h⟩
  · exact List.mem_cons
theorem SetM.put {w w' : World} {G m m' j : Nat} {S : List Nat} {D : DataW Unit} (h0 : S.Nodup) (ho : w.ownsMap Try.prog 3 (plainElem Try.prog 4) G m D) (h2 : ∀ x : Int, Maps.has D (.int .i64 x) = decide (0 ≤ x ∧ x.toNat ∈ S)) (h3 : Maps.size D = S.length) (hj : j < 4194304)
    (ho' : w'.ownsMap Try.prog 3 (plainElem Try.prog 4) G m' (D.put (.int .i64 (j : Int)) (.lit (.bool true)))) : SetM w' G m' (add S j) := by
  have hk : WideAt.IsKeyLit (.int .i64 (j : Int)) := keyI.key (key_num (x := j) (by omega) (by omega))
  refine ⟨?_, _, ho', fun x => ?_, ?_⟩
  · unfold add
    split
    · exact h0
    · exact List.nodup_cons.2 ⟨by assumption, h0⟩
  · by_cases e : x = j
    · subst e; rw [has_put_same ho.isMap hk]; simp [mem_add]
    · rw [has_put_other (by simp; omega), h2 x]
      by_cases hx : 0 ≤ x
      · have e2 : ¬ x.toNat = j := by omega
        simp [mem_add, hx, e2]
      · simp [hx]
  · rw [size_put (ho.tidy keyI), h2 j, h3]
    unfold add
    by_cases e : j ∈ S <;> simp [e]
theorem SetM.store {w : World} {G m j : Nat} {S : List Nat} {x : Int} (h : SetM w G m S) (hm : m < maxLen) (hj : j < 4194304) (hx : x = (j : Int)) :
    ∃ w', (Instr.mapUpdate 29 (.map (some G)) (.int .i64 x) (.bool true)).run Try.prog w = .ok () w' ∧ SetM w' G (m + 1) (add S j) ∧ w.grownBy w' (some G) := by
  subst hx
  obtain ⟨h0, D, ho, h2, h3⟩ := h
  obtain ⟨w', hrun, ho', hg⟩ := ho.update keyI Try.underlying29 hm (key_num (x := j) (by omega) (by omega)) (plainElem_bool Try.underlying4 true)
  exact ⟨w', hrun, SetM.put h0 ho h2 h3 hj ho', hg⟩
theorem or20 (q : Nat) (h : q < 64) : bits .or .i64 1048576 (q : Int) = ((1048576 + q : Nat) : Int) := by
  have : ∀ q : Fin 64, bits .or .i64 1048576 (q.val : Int) = ((1048576 + q.val : Nat) : Int) := by decide
  exact this ⟨q, h⟩
theorem or21 (q : Nat) (h : q < 8) : bits .or .i64 2097152 (q : Int) = ((2097152 + q : Nat) : Int) := by
  have : ∀ q : Fin 8, bits .or .i64 2097152 (q.val : Int) = ((2097152 + q.val : Nat) : Int) := by decide
  exact this ⟨q, h⟩
/-- What a range over pages has laid. -/
def Laid (S0 : List Nat) (left : Lit → Bool) (sk : List Nat) : Prop := (∀ x : Int, left (.int .i64 x) = true → 0 ≤ x ∧ x.toNat ∈ S0) ∧ ∀ k, k ∈ sk ↔ ∃ p ∈ S0, left (.int .i64 (p : Int)) = false ∧ (k = p / 8 ∨ k = 1048576 + p / 64 ∨ k = 2097152 + p / 512)
theorem Laid.step {S0 sk : List Nat} {left : Lit → Bool} {p : Nat} (h : Laid S0 left sk) (hp : left (.int .i64 (p : Int)) = true) : Laid S0 (fun z => left z && !z.sameKey (.int .i64 (p : Int))) (add (add (add sk (p / 8)) (1048576 + p / 64)) (2097152 + p / 512)) := by
  refine ⟨fun x hx => h.1 x (by simp at hx; exact hx.1), fun k => ?_⟩
  have hS := (h.1 p hp).2
  rw [Int.toNat_natCast] at hS
  rw [mem_add, mem_add, mem_add, h.2]
  have ek : ∀ x : Nat, (Lit.int .i64 (x : Int)).sameKey (.int .i64 (p : Int)) = decide (x = p) := fun x => by simp [Lit.sameKey]; omega
  constructor
  · rintro (e | e | e | ⟨x, h1, h2, h3⟩)
    · exact ⟨p, hS, by dsimp only; rw [ek]; simp, .inr (.inr e)⟩
    · exact ⟨p, hS, by dsimp only; rw [ek]; simp, .inr (.inl e)⟩
    · exact ⟨p, hS, by dsimp only; rw [ek]; simp, .inl e⟩
    · exact ⟨x, h1, by dsimp only; rw [h2]; rfl, h3⟩
  · rintro ⟨x, h1, h2, h3⟩
    by_cases e : x = p
    · subst e
      rcases h3 with e | e | e
      · exact .inr (.inr (.inl e))
      · exact .inr (.inl e)
      · exact .inl e
    · dsimp only at h2
      rw [ek] at h2
      refine .inr (.inr (.inr ⟨x, h1, ?_, h3⟩))
      simpa [e] using h2
set_option maxRecDepth 100000 in
set_option maxHeartbeats 4000000 in
/-- How many tables pages need, as the law counts them. -/
theorem tables_any (b n : Nat) (S0 : List Nat) (w : World) (h : SetM w b n S0) (hp : ∀ p ∈ S0, p < 4096) (hmax : S0.length ≤ 4096) :
    Calls Try.prog 10 #[.map (some b)] w fun e w' => ∃ sk : List Nat, e = .returned (.int .i64 (sk.length : Nat)) ∧ (sk.Nodup ∧ ∀ k, k ∈ sk ↔ ∃ p ∈ S0, (k = p / 8 ∨ k = 1048576 + p / 64 ∨ k = 2097152 + p / 512)) ∧ Below w.heap.size w w' := by
  have hmm := @run_makeMap Try.prog
  obtain ⟨s0, D0, hown, s2, s3⟩ := h
  have hbl := hown.lt
  have e1 : (w.alloc (.map #[] 0)).heap.size = w.heap.size + 1 := by simp
  go_enter Try.func10, Try.ntmps10
  go_wp2_with (first
    | (at_range; refine wpList_range_own _ rfl _ 29 rfl 3 4 keyI Try.underlying29 _ b n _ rfl (hown.alloc _) ?_; intro w0 hrg0 hg0 hs0)
    | go_in)
  go_frame
  rw [e1] at hrg0 hs0 ⊢
  obtain ⟨G, eG⟩ : ∃ G, w.heap.size = G := ⟨_, rfl⟩
  have hM0 := SetM.new w
  rw [eG] at hrg0 hs0 hM0 ⊢
  have hM1 : SetM w0 G 0 [] := hM0.same (hg0.block G (by simp; omega) (by simp))
  have HB0 : Below G w w0 := by rw [← eG]; exact ((Below.refl _ _).alloc (Nat.le_refl _) _).grown hg0 (by simp) (fun j hj => by cases hj)
  have HL0 : Laid S0 (Maps.has D0) [] := ⟨fun x hx => by rw [s2] at hx; simpa using hx, fun k => by
    simp only [List.not_mem_nil, false_iff]
    rintro ⟨p, h1, h2, _⟩
    rw [s2] at h2
    simp [h1] at h2⟩
  have bG : b < G := by omega
  have HX := Lib.hid (And.intro s0 (And.intro s2 (And.intro s3 (And.intro hp (And.intro hmax (And.intro eG e1))))))
  clear s0 s2 s3 hp hmax eG e1 hM0 hown hbl
  go_loopw [4] (fun _ wr => ∃ (left : Lit → Bool) (cnt : Nat) (sk : List Nat), wr.ranges Try.prog 3 (plainElem Try.prog 4) b (G + 1) n D0 left cnt ∧ cnt ≤ Maps.size D0 ∧ SetM wr G (3 * (Maps.size D0 - cnt)) sk ∧ Laid S0 left sk ∧ Below G w wr ∧ G + 1 < wr.heap.size)
    (fun _ wr => wr.rangeLeft b (G + 1))
  case atStart => exact ⟨_, _, [], hrg0, Nat.le_refl _, by simpa using hM1, HL0, HB0, by omega⟩
  case round =>
    obtain ⟨left, cnt, sk, hrg, hcs, hM, hA, hnx, hsz⟩ := hrel
    have hlen := hM.len 3
    go_wp2_with (first
      | (at_next; refine wpList_next_ranges _ rfl _ rfl 3 keyI (plainElem Try.prog 4) (Value.int .i64) (fun v : Value => v) (fun key kl hk => by obtain ⟨x, rfl, _⟩ := Maps.keyOf_int_inv Try.underlying3 hk; exact ⟨x, rfl⟩) (fun v y _ => ⟨v, rfl⟩) b (G + 1) n _ _ _ rfl hrg ?_ ?_)
      | go_in)
    · intro hc0 hl0
      have HL := Lib.hid hA
      have HN := Lib.hid hnx
      have HM := Lib.hid hM
      clear hrg hA hnx hM
      go_wp2_with fail
      go_ret
      exact ⟨sk, rfl, ⟨HM.out.1, fun k => (HL.out.2 k).trans ⟨fun ⟨p, h1, _, h3⟩ => ⟨p, h1, h3⟩, fun ⟨p, h1, h3⟩ => ⟨p, h1, hl0 _, h3⟩⟩⟩, by rw [HX.out.2.2.2.2.2.1]; exact HN.out⟩
    · intro x c kl y yp w1 cnt1 hk hlk hv hat hrg1 hlt hg1 hs1 hen
      obtain ⟨x', ex, rfl, hwx⟩ := Maps.keyOf_int_inv Try.underlying3 hk
      cases ex
      obtain ⟨x0, xm⟩ := hA.1 x hlk
      obtain ⟨p, rfl⟩ : ∃ p : Nat, x = (p : Int) := ⟨x.toNat, by omega⟩
      rw [Int.toNat_natCast] at xm
      have p4 := HX.out.2.2.2.1 p xm
      have hA2 := hA.step hlk
      have hc1 : Maps.size D0 ≤ 4096 := by rw [HX.out.2.2.1]; exact HX.out.2.2.2.2.1
      have hmx : 3 * (Maps.size D0 - cnt) + 2 < maxLen := by unfold maxLen; omega
      have hM1 : SetM w1 G (3 * (Maps.size D0 - cnt)) sk := hM.same (hg1.block G (by omega) (by simp))
      obtain ⟨w2, r2, m2, g2⟩ := hM1.store (j := p / 8) (x := (p : Int) / 8) (by omega) (by omega) (by omega)
      obtain ⟨w3, r3, m3, g3⟩ := m2.store (j := 1048576 + p / 64) (x := bits .or .i64 1048576 ((p : Int) / 64)) (by omega) (by omega) (by rw [show (p : Int) / 64 = ((p / 64 : Nat) : Int) by omega]; exact or20 _ (by omega))
      obtain ⟨w4, r4, m4, g4⟩ := m3.store (j := 2097152 + p / 512) (x := bits .or .i64 2097152 ((p : Int) / 512)) (by omega) (by omega) (by rw [show (p : Int) / 512 = ((p / 512 : Nat) : Int) by omega]; exact or21 _ (by omega))
      have hrg4 := ((hrg1.kept g2 (fun e => by have := Option.some.inj e; omega) (fun e => by have := Option.some.inj e; omega)).kept g3 (fun e => by have := Option.some.inj e; omega) (fun e => by have := Option.some.inj e; omega)).kept g4 (fun e => by have := Option.some.inj e; omega) (fun e => by have := Option.some.inj e; omega)
      have hB4 : Below G w w4 := (((hnx.grown hg1 (by omega) (fun j hj => by cases hj; omega)).grown g2 (by omega) (fun j hj => by cases hj; omega)).grown g3 (by have := g2.size; omega) (fun j hj => by cases hj; omega)).grown g4 (by have := g2.size; have := g3.size; omega) (fun j hj => by cases hj; omega)
      have HR := Lib.hid (show _ ∧ _ ∧ _ ∧ _ ∧ _ ∧ _ from ⟨hrg4, (show cnt1 ≤ Maps.size D0 by omega), (show SetM w4 G (3 * (Maps.size D0 - cnt1)) _ from by
        obtain ⟨q1, D, q2, q3⟩ := m4
        exact ⟨q1, D, q2.mono (by omega), q3⟩), hA2, hB4, (show G + 1 < w4.heap.size by have := g2.size; have := g3.size; have := g4.size; omega)⟩)
      have HME := Lib.hid (show w4.rangeLeft b (G + 1) < wr.rangeLeft b (G + 1) by rw [hrg4.left_eq, hrg.left_eq]; exact hlt)
      clear hrg hM hA hnx hlen hrg1 hg1 m2 m3 m4 g2 g3 g4 hrg4 hB4 hM1 hA2 hk hlk hv hat
      go_wp2_with fail
      go_roundw
      case rel => exact ⟨_, cnt1, _, HR.out⟩
      case measure => exact HME.out
end Go.Proofs.Ytliljicmkgbfpaa
