import Derived.Test.YtfddoieakfpagaaGreatDoorJI
namespace Go.Proofs.YtfddoieakfpagaaGreatDoor
open Go.RowKit
/-- Keys that came in. -/
def Rq (w : World) (v : Value) (ks : List Nat) : Prop := ∃ a cap, v = .slice a ks.length cap ∧ (ks = [] ∨ ∃ g o, a = some ⟨g, o, none⟩ ∧ g < w.heap.size ∧ ∀ (j k : Nat), ks[j]? = some k → w.cell? ⟨g, o + j, none⟩ = some (.int .u64 k))
end Go.Proofs.YtfddoieakfpagaaGreatDoor
