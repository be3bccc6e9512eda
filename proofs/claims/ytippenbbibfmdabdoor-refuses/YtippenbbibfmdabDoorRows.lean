/-
  NARROWER THAN 'FOR EVERY INPUT', by the rows' own cells (each row's printed sentence says how): Refuses: laid.
  DERIVED. THE GIVEN ROWS OF THIS SEAT. 1 by the template 'for every input the law returns true; each argument reads behind the call as it read before'; 0 by the template 'total and deterministic' (their statements: YtippenbbibfmdabDoorTotals.lean).
  GIVEN WITH THE SEED: the statements are not yours to turn. If you find one false, say at which input.
  Laid BY PROGRAM, IN A SANDBOX (cutbox-rows.mjs): the forced cells as the released guide's own fill.sh prints them over the translation 2bdda06208c90cb6… (all of the seat's roots in one cut). By AI agents, Wed Nov 11 2026. No macro, syntax, notation, axiom, sorry.
-/
import Derived.Test.YtippenbbibfmdabDoorChecked
import GoSem.Claim
import GoSem.ClaimJoined
import GoSem.ClaimMapViews
import Derived.JoinedTies
import Derived.KernelRfl
namespace Go.Proofs.YtippenbbibfmdabDoor
/- THE CELL 'sum', in the pinned program and in every row, IS THE sha256 OF THE DUMP (.gsa) THAT YtippenbbibfmdabDoorProg.lean LOADS. Nothing in Lean hashes anything: it is a label: what it is worth is what the hold of that sum in a sandbox is worth. -/
noncomputable def Tryd.pinned : Pinned := { name := "ytippenbbibfmdabdoor", sum := "2bdda06208c90cb63a9013b6566ca907e3248a6ce5217acc8c4b9726126bc16a", checked := Tryd.checked }
namespace Rows
def none {H : Type} : Left H := { results := [], args := [] }

/- WHAT THE LISTED PACKAGE-LEVEL VARIABLES READ AS WHEN THE CALL BEGINS. Each datum BY PROGRAM (the guide's laid-datum.mjs) off the statement by which the dump's own 'gosem.cut.vars' lays the variable. In a bare row this is a premise. The card (YtippenbbibfmdabDoorCards.lean) ties it to the program's text. -/
def laid_errors_errorType {H : Type} : DataW H := .iface "internal/reflectlite.rtype" (.agg [.ptr (.lit (.string [101, 114, 114, 111, 114]))])
def laid_evictor_policy_ErrLong {H : Type} : DataW H := .iface "*errors.errorString" (.ptr (.agg [.lit (.string [116, 104, 101, 32, 116, 101, 120, 116, 32, 105, 115, 32, 116, 111, 111, 32, 108, 111, 110, 103])]))
def laid_evictor_policy_ErrSyntax {H : Type} : DataW H := .iface "*errors.errorString" (.ptr (.agg [.lit (.string [116, 104, 105, 115, 32, 99, 97, 110, 110, 111, 116, 32, 115, 116, 97, 110, 100, 32, 104, 101, 114, 101])]))
def laid_evictor_policy_ErrDeep {H : Type} : DataW H := .iface "*errors.errorString" (.ptr (.agg [.lit (.string [116, 111, 111, 32, 109, 97, 110, 121, 32, 98, 108, 111, 99, 107, 115, 32, 111, 114, 32, 108, 111, 111, 112, 115, 32, 119, 105, 116, 104, 105, 110, 32, 101, 97, 99, 104, 32, 111, 116, 104, 101, 114])]))
def laid_evictor_policy_ErrTwice {H : Type} : DataW H := .iface "*errors.errorString" (.ptr (.agg [.lit (.string [116, 104, 105, 115, 32, 105, 115, 32, 100, 101, 99, 108, 97, 114, 101, 100, 32, 97, 108, 114, 101, 97, 100, 121])]))
def laid_evictor_policy_ErrMany {H : Type} : DataW H := .iface "*errors.errorString" (.ptr (.agg [.lit (.string [116, 111, 111, 32, 109, 97, 110, 121, 32, 110, 97, 109, 101, 115, 32, 97, 114, 101, 32, 100, 101, 99, 108, 97, 114, 101, 100])]))
def laid_evictor_policy_ErrNumber {H : Type} : DataW H := .iface "*errors.errorString" (.ptr (.agg [.lit (.string [116, 104, 101, 32, 110, 117, 109, 98, 101, 114, 32, 105, 115, 32, 98, 101, 121, 111, 110, 100, 32, 105, 116, 115, 32, 98, 111, 117, 110, 100, 115])]))
def laid_evictor_policy_ErrNone {H : Type} : DataW H := .iface "*errors.errorString" (.ptr (.agg [.lit (.string [116, 104, 101, 32, 110, 97, 109, 101, 32, 105, 115, 32, 110, 111, 116, 32, 100, 101, 99, 108, 97, 114, 101, 100])]))
def laid_evictor_policy_ErrKind {H : Type} : DataW H := .iface "*errors.errorString" (.ptr (.agg [.lit (.string [116, 104, 101, 32, 110, 97, 109, 101, 32, 105, 115, 32, 111, 102, 32, 116, 104, 101, 32, 111, 116, 104, 101, 114, 32, 107, 105, 110, 100])]))
def laid_evictor_policy_ErrRule {H : Type} : DataW H := .iface "*errors.errorString" (.ptr (.agg [.lit (.string [116, 104, 101, 114, 101, 32, 105, 115, 32, 97, 32, 114, 117, 108, 101, 32, 102, 111, 114, 32, 116, 104, 105, 115, 32, 97, 108, 114, 101, 97, 100, 121])]))
def laid_evictor_policy_ErrMiss {H : Type} : DataW H := .iface "*errors.errorString" (.ptr (.agg [.lit (.string [116, 104, 101, 114, 101, 32, 105, 115, 32, 110, 111, 32, 114, 117, 108, 101, 32, 102, 111, 114, 32, 109, 105, 115, 115])]))

/-- 'evictorkeep.Refuses': WHATEVER THE INPUT: true; the input reads as it did. -/
def refusesSpec : ChangeSpec := { name := "refuses", fn := fun _ => fun
  | [d] => { results := [.lit (.bool true)], args := [d] }
  | _ => none }
def refusesRow : OpenClaim := { program := "ytippenbbibfmdabdoor", sum := "2bdda06208c90cb63a9013b6566ca907e3248a6ce5217acc8c4b9726126bc16a", func := "evictor/evictorkeep.Refuses", spec := "refuses", inPlace := ["internal/bytealg.IndexByteString", "internal/reflectlite.TypeOf", "internal/reflectlite.ValueOf", "(internal/reflectlite.Value).Type", "(internal/reflectlite.Value).IsNil", "(internal/reflectlite.Value).Elem", "(internal/reflectlite.Value).Set"], unfollowed := true, recurses := true, named := ["evictor/policy.ErrLong", "evictor/policy.ErrSyntax", "evictor/policy.ErrDeep", "evictor/policy.ErrMiss", "evictor/policy.ErrTwice", "evictor/policy.ErrMany", "evictor/policy.ErrNumber", "evictor/policy.ErrRule", "evictor/policy.ErrNone", "evictor/policy.ErrKind", "errors.errorType"], apart := false, laid := [("errors.errorType", laid_errors_errorType), ("evictor/policy.ErrLong", laid_evictor_policy_ErrLong), ("evictor/policy.ErrSyntax", laid_evictor_policy_ErrSyntax), ("evictor/policy.ErrDeep", laid_evictor_policy_ErrDeep), ("evictor/policy.ErrTwice", laid_evictor_policy_ErrTwice), ("evictor/policy.ErrMany", laid_evictor_policy_ErrMany), ("evictor/policy.ErrNumber", laid_evictor_policy_ErrNumber), ("evictor/policy.ErrNone", laid_evictor_policy_ErrNone), ("evictor/policy.ErrKind", laid_evictor_policy_ErrKind), ("evictor/policy.ErrRule", laid_evictor_policy_ErrRule), ("evictor/policy.ErrMiss", laid_evictor_policy_ErrMiss)] }
def RefusesSaid : Prop := refusesRow.holds Tryd.pinned (OpenSpec.ofChange refusesSpec)

/-- ITS FALSE NEIGHBOUR: 'it returns false'. Refute it at one input. -/
def refusesWrong : ChangeSpec := { name := "refuses", fn := fun _ => fun
  | [d] => { results := [.lit (.bool false)], args := [d] }
  | _ => none }
def RefusesWrongFalsely : Prop := refusesRow.holds Tryd.pinned (OpenSpec.ofChange refusesWrong)

/- THE SECOND FORM. 'bulk': how many values and letters a reading holds, each counted each time it is reached (what is shared counts as often as it is met; a slice's spare places count too). A statement '..UptoSaid' is the law's where the arguments, and the package variables that the reading takes, are together of bulk at most 1048576: NARROWER than '..Said'. Prove '..Said' where nothing that the law and all that it calls make is longer than what came in: it says more and counts as full. Else prove '..UptoSaid'. A law counts once. -/
mutual
def uptoBulk {H : Type} : DataW H → Nat
  | .lit (.string bytes) => bytes.length + 1
  | .lit _ => 1
  | .nil => 1
  | .ptr d => uptoBulk d + 1
  | .slice elems spare => uptoBulkAll elems + uptoBulkAll spare + 1
  | .agg parts => uptoBulkAll parts + 1
  | .iface _ d => uptoBulk d + 1
  | .map entries => uptoBulkEntries entries + 1
  | .held _ => 1
def uptoBulkAll {H : Type} : List (DataW H) → Nat
  | [] => 0
  | d :: r => uptoBulk d + uptoBulkAll r
def uptoBulkEntries {H : Type} : List (Lit × DataW H) → Nat
  | [] => 0
  | x :: r => uptoBulkEntry x + uptoBulkEntries r
def uptoBulkEntry {H : Type} : Lit × DataW H → Nat
  | (.string bytes, d) => bytes.length + uptoBulk d + 1
  | (_, d) => uptoBulk d + 1
 end
def uptoSmall : (H : Type) → List (DataW H) → Bool := fun _ ds => decide (uptoBulkAll ds ≤ 1048576)
def OpenSpec.upto (s : _root_.Go.ChangeSpec) : _root_.Go.OpenSpec := { _root_.Go.OpenSpec.ofChange s with cond := some uptoSmall }

/-- 'evictorkeep.Refuses', WHERE WHAT IT READS IS OF BULK AT MOST 1048576: true; the input reads as it did. -/
def refusesUptoRow : OpenClaim := { program := "ytippenbbibfmdabdoor", sum := "2bdda06208c90cb63a9013b6566ca907e3248a6ce5217acc8c4b9726126bc16a", func := "evictor/evictorkeep.Refuses", spec := "refuses", inPlace := ["internal/bytealg.IndexByteString", "internal/reflectlite.TypeOf", "internal/reflectlite.ValueOf", "(internal/reflectlite.Value).Type", "(internal/reflectlite.Value).IsNil", "(internal/reflectlite.Value).Elem", "(internal/reflectlite.Value).Set"], unfollowed := true, recurses := true, named := ["evictor/policy.ErrLong", "evictor/policy.ErrSyntax", "evictor/policy.ErrDeep", "evictor/policy.ErrMiss", "evictor/policy.ErrTwice", "evictor/policy.ErrMany", "evictor/policy.ErrNumber", "evictor/policy.ErrRule", "evictor/policy.ErrNone", "evictor/policy.ErrKind", "errors.errorType"], apart := false, laid := [("errors.errorType", laid_errors_errorType), ("evictor/policy.ErrLong", laid_evictor_policy_ErrLong), ("evictor/policy.ErrSyntax", laid_evictor_policy_ErrSyntax), ("evictor/policy.ErrDeep", laid_evictor_policy_ErrDeep), ("evictor/policy.ErrTwice", laid_evictor_policy_ErrTwice), ("evictor/policy.ErrMany", laid_evictor_policy_ErrMany), ("evictor/policy.ErrNumber", laid_evictor_policy_ErrNumber), ("evictor/policy.ErrNone", laid_evictor_policy_ErrNone), ("evictor/policy.ErrKind", laid_evictor_policy_ErrKind), ("evictor/policy.ErrRule", laid_evictor_policy_ErrRule), ("evictor/policy.ErrMiss", laid_evictor_policy_ErrMiss)], narrowed := true }
def RefusesUptoSaid : Prop := refusesUptoRow.holds Tryd.pinned (OpenSpec.upto refusesSpec)

end Rows
end Go.Proofs.YtippenbbibfmdabDoor
