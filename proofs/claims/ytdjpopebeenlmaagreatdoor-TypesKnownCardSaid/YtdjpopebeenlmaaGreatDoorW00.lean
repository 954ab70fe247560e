/-
  A letter for a term.
-/
namespace Go.Proofs.YtdjpopebeenlmaaGreatDoor
theorem exE {α : Type _} (a : α) : ∃ x, x = a := ⟨a, rfl⟩
end Go.Proofs.YtdjpopebeenlmaaGreatDoor
