/-
  DERIVED. GIVEN WITH THE SEED: THE PROGRAM's TIES (one call each: nine closed facts by the kernel) AND EACH ROW's TIE, after the 31st guide's Derived/Test/Toyas{Tie, Card}.lean. No idea stands in it: it is a product of the set-up. Laid BY PROGRAM, IN A SANDBOX (cutbox-door.mjs). By AI agents, Wed Nov 11 2026. No macro, syntax, notation, axiom, sorry.
-/
import Derived.Test.YtippenbbibfmdabDoorRows
import Derived.LaidByTextLater
import Derived.SevenTiedAt
import Derived.LaidSub
import Derived.LaidOnce
namespace Go.Proofs.YtippenbbibfmdabDoor
open Go
set_option maxRecDepth 100000
theorem seatTie1 : Tryd.prog.laidByTextLater [("errors.errorType", Rows.laid_errors_errorType), ("evictor/policy.ErrLong", Rows.laid_evictor_policy_ErrLong), ("evictor/policy.ErrSyntax", Rows.laid_evictor_policy_ErrSyntax), ("evictor/policy.ErrDeep", Rows.laid_evictor_policy_ErrDeep), ("evictor/policy.ErrTwice", Rows.laid_evictor_policy_ErrTwice), ("evictor/policy.ErrMany", Rows.laid_evictor_policy_ErrMany), ("evictor/policy.ErrNumber", Rows.laid_evictor_policy_ErrNumber), ("evictor/policy.ErrNone", Rows.laid_evictor_policy_ErrNone), ("evictor/policy.ErrKind", Rows.laid_evictor_policy_ErrKind), ("evictor/policy.ErrRule", Rows.laid_evictor_policy_ErrRule), ("evictor/policy.ErrMiss", Rows.laid_evictor_policy_ErrMiss)] [.handle, .sentinel, .sentinel, .sentinel, .sentinel, .sentinel, .sentinel, .sentinel, .sentinel, .sentinel, .sentinel] true :=
  Program.laidByTextLater_by_one 206 8 2 (by kernel_rfl) (by kernel_rfl) (by kernel_rfl) (by kernel_rfl) (by kernel_rfl) (by kernel_rfl) (fun _ _ => by kernel_rfl)
theorem noOwnUnsafe : Tryd.pinned.checked.prog.headLifts.contains "ownunsafe" = false := by kernel_rfl
theorem tie : Tryd.prog.laidByTextLater [("errors.errorType", Rows.laid_errors_errorType), ("evictor/policy.ErrLong", Rows.laid_evictor_policy_ErrLong), ("evictor/policy.ErrSyntax", Rows.laid_evictor_policy_ErrSyntax), ("evictor/policy.ErrDeep", Rows.laid_evictor_policy_ErrDeep), ("evictor/policy.ErrTwice", Rows.laid_evictor_policy_ErrTwice), ("evictor/policy.ErrMany", Rows.laid_evictor_policy_ErrMany), ("evictor/policy.ErrNumber", Rows.laid_evictor_policy_ErrNumber), ("evictor/policy.ErrNone", Rows.laid_evictor_policy_ErrNone), ("evictor/policy.ErrKind", Rows.laid_evictor_policy_ErrKind), ("evictor/policy.ErrRule", Rows.laid_evictor_policy_ErrRule), ("evictor/policy.ErrMiss", Rows.laid_evictor_policy_ErrMiss)] [.handle, .sentinel, .sentinel, .sentinel, .sentinel, .sentinel, .sentinel, .sentinel, .sentinel, .sentinel, .sentinel] true :=
  Program.laidByTextLater.sub seatTie1 ["errors.errorType", "evictor/policy.ErrLong", "evictor/policy.ErrSyntax", "evictor/policy.ErrDeep", "evictor/policy.ErrTwice", "evictor/policy.ErrMany", "evictor/policy.ErrNumber", "evictor/policy.ErrNone", "evictor/policy.ErrKind", "evictor/policy.ErrRule", "evictor/policy.ErrMiss"] (by kernel_rfl) (by kernel_rfl)
theorem refuses_row_tie : Rows.refusesRow.laidByTextAt .later Tryd.pinned [.handle, .sentinel, .sentinel, .sentinel, .sentinel, .sentinel, .sentinel, .sentinel, .sentinel, .sentinel, .sentinel] true :=
  OpenClaim.laidByTextAt_later rfl rfl tie noOwnUnsafe
theorem refusesUpto_row_tie : Rows.refusesUptoRow.laidByTextAt .later Tryd.pinned [.handle, .sentinel, .sentinel, .sentinel, .sentinel, .sentinel, .sentinel, .sentinel, .sentinel, .sentinel, .sentinel] true :=
  OpenClaim.laidByTextAt_later rfl rfl tie noOwnUnsafe
end Go.Proofs.YtippenbbibfmdabDoor
