/-
  A letter for a term.
-/
namespace Go.Proofs.YtbjacclfhgnffaaGreatDoor
theorem exE {α : Type _} (a : α) : ∃ x, x = a := ⟨a, rfl⟩
end Go.Proofs.YtbjacclfhgnffaaGreatDoor
