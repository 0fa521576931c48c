import Derived.Test.YtjmfjehjlnghmaaSh
namespace Go.Proofs.Ytjmfjehjlnghmaa
open Go.RowKit Go.Shelf
set_option linter.unusedVariables false
set_option linter.unusedSimpArgs false

theorem form2 {w : World} {base e k : Nat} {v : Value} {xs : List Value} (h : w.ownsRow base e 2 v k xs) : v = .slice none 0 0 ∨ ∃ g n c, v = .slice (some ⟨g, 0, none⟩) n c := by
  rcases h.2 with ⟨h, _⟩ | ⟨g', cap', cur, h, hg, _⟩
  · exact .inl h
  · exact .inr ⟨_, _, _, h⟩
end Go.Proofs.Ytjmfjehjlnghmaa
