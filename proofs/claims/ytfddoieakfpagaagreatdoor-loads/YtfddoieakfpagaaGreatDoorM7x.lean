import Derived.Test.YtfddoieakfpagaaGreatDoorM6x
import Derived.Test.YtfddoieakfpagaaGreatDoorHC
namespace Go.Proofs.YtfddoieakfpagaaGreatDoor
open Go.RowKit

theorem load_ok : LoadOk := by
  intro l w A SS
  refine (load_any l SS).mono ?_
  intro e w' h
  unfold OutL at h
  unfold OutW
  cases hr : readS l with
  | ok x =>
    rw [hr] at h
    obtain ⟨g, n, mb, h1, h2, _⟩ := h
    exact ⟨h2, g, h1⟩
  | error q =>
    obtain ⟨i, p⟩ := q
    rw [hr] at h
    exact ⟨h.2, h.1⟩

theorem loads_card : Rows.LoadsCardSaid := loads_card0 load_ok
end Go.Proofs.YtfddoieakfpagaaGreatDoor
