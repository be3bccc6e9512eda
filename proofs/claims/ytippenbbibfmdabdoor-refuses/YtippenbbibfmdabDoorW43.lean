import Derived.Test.YtippenbbibfmdabDoorW40
import Derived.KernelRfl
namespace Go.Proofs.YtippenbbibfmdabDoor
open Go.RowKit

def ansS (l : List UInt8) : Nat × Nat := match readS l with
  | .ok _ => (0, 0)
  | .error (i, p) => (enoS i, p)
theorem faultsK_right : (faultsK.all fun r => ansS r.1 == (r.2.1, r.2.2)) = true := by kernel_rfl
theorem faultsH_right : (faultsH.all fun r => ansS r.1 == (r.2.1, r.2.2)) = true := by kernel_rfl
theorem faults_right (r : List UInt8 × Nat × Nat) (h : r ∈ faultsL) : ansS r.1 = (r.2.1, r.2.2) := by
  rcases List.mem_append.1 h with h | h
  · exact eq_of_beq (List.all_eq_true.1 faultsH_right r h)
  · exact eq_of_beq (List.all_eq_true.1 faultsK_right r h)
theorem faults_zero : (faultsL.all fun r => (r.2.1 != 0) || (r.2.2 == 0)) = true := by kernel_rfl
end Go.Proofs.YtippenbbibfmdabDoor
