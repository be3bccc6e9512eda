import Derived.Test.YtippenbbibfmdaaGreatDoorM6
namespace Go.Proofs.YtippenbbibfmdaaGreatDoor
open Go.RowKit

theorem load_ok : LoadOk := by
  intro l w A SS
  refine (load_any l SS).mono ?_
  intro e w' h
  unfold OutL at h
  unfold OutW
  cases hr : readS l with
  | ok x =>
    rw [hr] at h
    obtain ⟨g, n, vd, vr, rows, h1, h2, _⟩ := h
    exact ⟨h2, g, h1⟩
  | error q =>
    obtain ⟨i, p⟩ := q
    rw [hr] at h
    exact ⟨h.2, h.1⟩

theorem loads_card : Rows.LoadsCardSaid := loads_card0 load_ok
end Go.Proofs.YtippenbbibfmdaaGreatDoor
