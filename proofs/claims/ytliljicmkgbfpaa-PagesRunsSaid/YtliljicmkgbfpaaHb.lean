/- Page tables: which there are, and how many (worked ahead of stage 7). -/
import Derived.Test.YtliljicmkgbfpaaHa
set_option linter.unusedVariables false
set_option linter.unusedSimpArgs false
namespace Pg
/-- Which tables there are, by the pages that need them. -/
structure KS (ks : List (Nat × Nat)) (kn : Nat → Prop) : Prop where
  nodup : ks.Nodup
  mem : ∀ l q, (l, q) ∈ ks ↔ (l = 0 ∧ q = 0) ∨ (l = 1 ∧ ∃ p, kn p ∧ p / 512 = q) ∨ (l = 2 ∧ ∃ p, kn p ∧ p / 64 = q) ∨ (l = 3 ∧ ∃ p, kn p ∧ p / 8 = q)
theorem KS.nil : KS [(0, 0)] (fun _ => False) := ⟨by simp, fun l q => by simp⟩
theorem nodup_ins {k : Nat × Nat} {ks : List (Nat × Nat)} (h : ks.Nodup) : (ins k ks).Nodup := by
  unfold ins
  split
  · exact h
  · exact List.nodup_cons.2 ⟨by assumption, h⟩
theorem KS.fill {ks : List (Nat × Nat)} {kn : Nat → Prop} (h : KS ks kn) (p : Nat) : KS (fill ks p) (fun x => x = p ∨ kn x) := by
  refine ⟨nodup_ins (nodup_ins (nodup_ins h.nodup)), fun l q => ?_⟩
  rw [mem_fill, h.mem]
  constructor
  · rintro (e | e | e | e | ⟨rfl, x, hx, e⟩ | ⟨rfl, x, hx, e⟩ | ⟨rfl, x, hx, e⟩)
    · injection e with e1 e2; exact .inr (.inr (.inr ⟨e1, p, .inl rfl, e2.symm⟩))
    · injection e with e1 e2; exact .inr (.inr (.inl ⟨e1, p, .inl rfl, e2.symm⟩))
    · injection e with e1 e2; exact .inr (.inl ⟨e1, p, .inl rfl, e2.symm⟩)
    · exact .inl e
    · exact .inr (.inl ⟨rfl, x, .inr hx, e⟩)
    · exact .inr (.inr (.inl ⟨rfl, x, .inr hx, e⟩))
    · exact .inr (.inr (.inr ⟨rfl, x, .inr hx, e⟩))
  · rintro (e | ⟨rfl, x, rfl | hx, e⟩ | ⟨rfl, x, rfl | hx, e⟩ | ⟨rfl, x, rfl | hx, e⟩)
    · exact .inr (.inr (.inr (.inl e)))
    · exact .inr (.inr (.inl (by rw [← e])))
    · exact .inr (.inr (.inr (.inr (.inl ⟨rfl, x, hx, e⟩))))
    · exact .inr (.inl (by rw [← e]))
    · exact .inr (.inr (.inr (.inr (.inr (.inl ⟨rfl, x, hx, e⟩)))))
    · exact .inl (by rw [← e])
    · exact .inr (.inr (.inr (.inr (.inr (.inr ⟨rfl, x, hx, e⟩)))))
theorem KS.same {ks : List (Nat × Nat)} {kn kn' : Nat → Prop} (h : KS ks kn) (e : ∀ p, kn p ↔ kn' p) : KS ks kn' := by
  have : kn = kn' := funext fun p => propext (e p)
  rw [← this]; exact h
/-- What the law lays for a table. -/
def code (k : Nat × Nat) : Nat := if k.1 = 3 then k.2 else if k.1 = 2 then 1048576 + k.2 else 2097152 + k.2
theorem KS.count {ks : List (Nat × Nat)} {kn : Nat → Prop} (h : KS ks kn) (hp : ∀ p, kn p → p < 4096) (sk : List Nat) (hs : sk.Nodup) (hm : ∀ k, k ∈ sk ↔ ∃ p, kn p ∧ (k = p / 8 ∨ k = 1048576 + p / 64 ∨ k = 2097152 + p / 512)) : sk.length + 1 = ks.length := by
  have h0 : (0, 0) ∈ ks := (h.mem 0 0).2 (.inl ⟨rfl, rfl⟩)
  have he := h.nodup.erase (0, 0)
  have hlev : ∀ k ∈ ks.erase (0, 0), (k.1 = 1 ∨ k.1 = 2 ∨ k.1 = 3) ∧ k ∈ ks := fun k hk => by
    have hk2 := List.mem_of_mem_erase hk
    refine ⟨?_, hk2⟩
    obtain ⟨l, q⟩ := k
    rcases (h.mem l q).1 hk2 with ⟨rfl, rfl⟩ | e | e | e
    · exact absurd hk (h.nodup.not_mem_erase)
    · exact .inl e.1
    · exact .inr (.inl e.1)
    · exact .inr (.inr e.1)
  have hq : ∀ l q, (l, q) ∈ ks → q < 512 := fun l q hk => by
    rcases (h.mem l q).1 hk with ⟨rfl, rfl⟩ | ⟨rfl, p, h1, h2⟩ | ⟨rfl, p, h1, h2⟩ | ⟨rfl, p, h1, h2⟩
    · omega
    all_goals (have := hp p h1; omega)
  have hinj : ∀ a ∈ ks.erase (0, 0), ∀ b ∈ ks.erase (0, 0), code a = code b → a = b := fun a ha b hb e => by
    obtain ⟨la, qa⟩ := a
    obtain ⟨lb, qb⟩ := b
    obtain ⟨ha1, ha2⟩ := hlev _ ha
    obtain ⟨hb1, hb2⟩ := hlev _ hb
    have q1 := hq _ _ ha2
    have q2 := hq _ _ hb2
    unfold code at e
    dsimp only at ha1 hb1 e
    rcases ha1 with rfl | rfl | rfl <;> rcases hb1 with rfl | rfl | rfl <;> simp at e ⊢ <;> omega
  have hn : ((ks.erase (0, 0)).map code).Nodup := by
    unfold List.Nodup
    rw [List.pairwise_map]
    exact List.Pairwise.imp_of_mem (fun ha hb hne e => hne (hinj _ ha _ hb e)) he
  have hmem : ∀ k, k ∈ (ks.erase (0, 0)).map code ↔ k ∈ sk := fun k => by
    rw [hm, List.mem_map]
    constructor
    · rintro ⟨⟨l, q⟩, hk, rfl⟩
      obtain ⟨hl, hk2⟩ := hlev _ hk
      rcases (h.mem l q).1 hk2 with ⟨rfl, rfl⟩ | ⟨rfl, p, h1, h2⟩ | ⟨rfl, p, h1, h2⟩ | ⟨rfl, p, h1, h2⟩
      · simp at hl
      · exact ⟨p, h1, .inr (.inr (by simp [code, h2]))⟩
      · exact ⟨p, h1, .inr (.inl (by simp [code, h2]))⟩
      · exact ⟨p, h1, .inl (by simp [code, h2])⟩
    · rintro ⟨p, h1, e | e | e⟩
      · exact ⟨(3, p / 8), (List.mem_erase_of_ne (by simp)).2 ((h.mem _ _).2 (.inr (.inr (.inr ⟨rfl, p, h1, rfl⟩)))), by simp [code, e]⟩
      · exact ⟨(2, p / 64), (List.mem_erase_of_ne (by simp)).2 ((h.mem _ _).2 (.inr (.inr (.inl ⟨rfl, p, h1, rfl⟩)))), by simp [code, e]⟩
      · exact ⟨(1, p / 512), (List.mem_erase_of_ne (by simp)).2 ((h.mem _ _).2 (.inr (.inl ⟨rfl, p, h1, rfl⟩))), by simp [code, e]⟩
  have hl := ((List.perm_ext_iff_of_nodup hn hs).2 hmem).length_eq
  rw [List.length_map, List.length_erase_of_mem h0] at hl
  have : 0 < ks.length := List.length_pos_of_mem h0
  omega
end Pg
