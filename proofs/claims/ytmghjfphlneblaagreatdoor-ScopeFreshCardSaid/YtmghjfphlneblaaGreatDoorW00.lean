/-
  A letter for a term.
-/
namespace Go.Proofs.YtmghjfphlneblaaGreatDoor
theorem exE {α : Type _} (a : α) : ∃ x, x = a := ⟨a, rfl⟩
end Go.Proofs.YtmghjfphlneblaaGreatDoor
