import Derived.Laws.IdiomStrings
import Derived.KernelRfl
import Derived.Test.YtfddoieakfpagabGreatDoorGD
import Derived.Test.YtfddoieakfpagabGreatDoorHC
namespace Go.Proofs.YtfddoieakfpagabGreatDoor
set_option maxHeartbeats 1000000
set_option maxRecDepth 20000
open Go.RowKit
def longB (k : Nat) : List UInt8 := [113, 117, 101, 117, 101, 32, 114, 32, 49, 59, 32, 111, 110, 32, 109, 105, 115, 115, 32, 123, 32, 125] ++ List.replicate k 32
def deepB (k : Nat) : List UInt8 := [113, 117, 101, 117, 101, 32, 114, 32, 49, 59, 32, 111, 110, 32, 109, 105, 115, 115, 32] ++ (List.replicate k [123, 32, 105, 102, 32, 102, 117, 108, 108, 32, 114, 32]).flatten
def closedB (k : Nat) : List UInt8 := (List.replicate k [32, 125]).flatten
def manyB : Nat -> List UInt8
 | 0 => []
 | k + 1 => manyB k ++ ([113, 117, 101, 117, 101, 32, 113] ++ [UInt8.ofNat (97 + k)] ++ [32, 49, 59, 32])
theorem bapp (l m : List UInt8) : (ByteArray.mk l.toArray) ++ (ByteArray.mk m.toArray) = ByteArray.mk (l ++ m).toArray := by
 apply ByteArray.ext; simp
theorem longB_succ (k : Nat) : longB (k + 1) = longB k ++ [32] := by simp [longB, List.replicate_succ']
theorem deepB_succ (k : Nat) : deepB (k + 1) = deepB k ++ [123, 32, 105, 102, 32, 102, 117, 108, 108, 32, 114, 32] := by simp [deepB, List.replicate_succ']
theorem closedB_succ (k : Nat) : closedB (k + 1) = closedB k ++ [32, 125] := by simp [closedB, List.replicate_succ']
theorem manyB_len : ∀ k, (manyB k).length = 12 * k
 | 0 => rfl
 | k + 1 => by simp [manyB, manyB_len k]; omega
def faultsK : List (List UInt8 × Nat × Nat) := [
 ([], 10, 0),
 ([113, 117, 101, 117, 101, 32, 114, 32, 49, 59], 10, 0),
 ([113, 117, 101, 117, 101, 32, 114, 32, 49, 59, 32, 111, 110, 32, 114, 32, 123, 32, 125], 10, 0),
 ([111, 110, 32, 109, 105, 115, 115, 32, 123, 32, 125], 0, 0),
 ([111, 110, 32, 109, 105, 115, 115, 32, 123, 32, 125, 32, 120], 2, 12),
 ([113, 117, 101, 117, 101], 2, 5),
 ([113, 117, 101, 117, 101, 32, 114], 2, 7),
 ([113, 117, 101, 117, 101, 32, 114, 32, 49], 2, 9),
 ([113, 117, 101, 117, 101, 32, 49, 32, 114, 59], 2, 6),
 ([113, 117, 101, 117, 101, 32, 111, 110, 32, 49, 59], 2, 6),
 ([113, 117, 101, 117, 101, 32, 97, 98, 99, 100, 101, 102, 103, 104, 32, 49, 59, 32, 111, 110, 32, 109, 105, 115, 115, 32, 123, 32, 125], 0, 0),
 ([113, 117, 101, 117, 101, 32, 97, 98, 99, 100, 101, 102, 103, 104, 105, 32, 49, 59, 32, 111, 110, 32, 109, 105, 115, 115, 32, 123, 32, 125], 2, 6),
 ([113, 117, 101, 117, 101, 32, 114, 32, 48, 59, 32, 111, 110, 32, 109, 105, 115, 115, 32, 123, 32, 125], 7, 8),
 ([113, 117, 101, 117, 101, 32, 114, 32, 53, 48, 59, 32, 111, 110, 32, 109, 105, 115, 115, 32, 123, 32, 125], 0, 0),
 ([113, 117, 101, 117, 101, 32, 114, 32, 53, 49, 59, 32, 111, 110, 32, 109, 105, 115, 115, 32, 123, 32, 125], 7, 8),
 ([103, 104, 111, 115, 116, 32, 114, 32, 53, 49, 59, 32, 111, 110, 32, 109, 105, 115, 115, 32, 123, 32, 125], 7, 8),
 ([113, 117, 101, 117, 101, 32, 114, 32, 49, 48, 48, 48, 59, 32, 111, 110, 32, 109, 105, 115, 115, 32, 123, 32, 125], 2, 8),
 ([113, 117, 101, 117, 101, 32, 114, 32, 48, 48, 55, 59, 32, 111, 110, 32, 109, 105, 115, 115, 32, 123, 32, 125], 0, 0),
 ([118, 97, 114, 32, 114, 32, 57, 57, 59, 32, 111, 110, 32, 109, 105, 115, 115, 32, 123, 32, 125], 0, 0),
 ([118, 97, 114, 32, 114, 32, 49, 48, 48, 59, 32, 111, 110, 32, 109, 105, 115, 115, 32, 123, 32, 125], 7, 6),
 ([102, 114, 101, 113, 32, 57, 57, 59, 32, 111, 110, 32, 109, 105, 115, 115, 32, 123, 32, 125], 0, 0),
 ([102, 114, 101, 113, 32, 49, 48, 48, 59, 32, 111, 110, 32, 109, 105, 115, 115, 32, 123, 32, 125], 7, 5),
 ([102, 114, 101, 113, 32, 48, 59, 32, 111, 110, 32, 109, 105, 115, 115, 32, 123, 32, 125], 7, 5),
 ([102, 114, 101, 113, 32, 49, 59, 32, 102, 114, 101, 113, 32, 50, 59, 32, 111, 110, 32, 109, 105, 115, 115, 32, 123, 32, 125], 4, 8),
 ([113, 117, 101, 117, 101, 32, 114, 32, 49, 59, 32, 118, 97, 114, 32, 114, 32, 50, 59, 32, 111, 110, 32, 109, 105, 115, 115, 32, 123, 32, 125], 4, 15),
 ([81, 117, 101, 117, 101, 32, 114, 32, 49, 59], 2, 0),
 ([113, 117, 101, 117, 101, 32, 114, 32, 49, 59, 9, 111, 110, 32, 109, 105, 115, 115, 32, 123, 32, 125], 2, 10),
 ([113, 117, 101, 117, 101, 32, 114, 32, 49, 59, 10, 111, 110, 10, 109, 105, 115, 115, 123, 125], 0, 0),
 ([111, 110, 32, 109, 105, 115, 115, 32, 123, 32, 125, 32, 111, 110, 32, 109, 105, 115, 115, 32, 123, 32, 125], 8, 12),
 ([113, 117, 101, 117, 101, 32, 114, 32, 49, 59, 32, 111, 110, 32, 114, 32, 123, 32, 125, 32, 111, 110, 32, 114, 32, 123, 32, 125, 32, 111, 110, 32, 109, 105, 115, 115, 32, 123, 32, 125], 8, 20),
 ([111, 110, 32, 120, 32, 123, 32, 125, 32, 111, 110, 32, 109, 105, 115, 115, 32, 123, 32, 125], 5, 3),
 ([118, 97, 114, 32, 120, 32, 49, 59, 32, 111, 110, 32, 120, 32, 123, 32, 125, 32, 111, 110, 32, 109, 105, 115, 115, 32, 123, 32, 125], 6, 12),
 ([111, 110, 32, 109, 105, 115, 115, 32, 123], 2, 9),
 ([111, 110, 32, 109, 105, 115, 115, 32, 125], 2, 8),
 ([111, 110, 32, 109, 105, 115, 115, 32, 123, 32, 125, 32, 125], 2, 12),
 ([111, 110, 32, 109, 105, 115, 115, 32, 123, 32, 125, 32, 113, 117, 101, 117, 101, 32, 114, 32, 49, 59], 2, 12),
 ([113, 117, 101, 117, 101, 32, 114, 32, 49, 59, 32, 111, 110, 32, 109, 105, 115, 115, 32, 123, 32, 112, 117, 116, 32, 114, 32, 125], 2, 27),
 ([113, 117, 101, 117, 101, 32, 114, 32, 49, 59, 32, 111, 110, 32, 109, 105, 115, 115, 32, 123, 32, 112, 117, 116, 59, 32, 125], 2, 24),
 ([113, 117, 101, 117, 101, 32, 114, 32, 49, 59, 32, 111, 110, 32, 109, 105, 115, 115, 32, 123, 32, 112, 117, 116, 32, 114, 32, 116, 97, 105, 108, 59, 32, 125], 0, 0),
 ([113, 117, 101, 117, 101, 32, 114, 32, 49, 59, 32, 111, 110, 32, 109, 105, 115, 115, 32, 123, 32, 101, 118, 105, 99, 116, 32, 114, 32, 116, 97, 105, 108, 59, 32, 125], 2, 29),
 ([113, 117, 101, 117, 101, 32, 114, 32, 49, 59, 32, 111, 110, 32, 109, 105, 115, 115, 32, 123, 32, 115, 104, 105, 102, 116, 32, 114, 59, 32, 125], 2, 28),
 ([113, 117, 101, 117, 101, 32, 114, 32, 49, 59, 32, 111, 110, 32, 109, 105, 115, 115, 32, 123, 32, 115, 104, 105, 102, 116, 32, 114, 32, 114, 32, 116, 97, 105, 108, 59, 32, 125], 0, 0),
 ([113, 117, 101, 117, 101, 32, 114, 32, 49, 59, 32, 111, 110, 32, 109, 105, 115, 115, 32, 123, 32, 112, 117, 116, 32, 120, 59, 32, 125], 5, 25),
 ([118, 97, 114, 32, 120, 32, 49, 59, 32, 111, 110, 32, 109, 105, 115, 115, 32, 123, 32, 112, 117, 116, 32, 120, 59, 32, 125], 6, 23),
 ([113, 117, 101, 117, 101, 32, 114, 32, 49, 59, 32, 111, 110, 32, 109, 105, 115, 115, 32, 123, 32, 105, 110, 99, 32, 114, 59, 32, 125], 6, 25),
 ([113, 117, 101, 117, 101, 32, 114, 32, 49, 59, 32, 111, 110, 32, 109, 105, 115, 115, 32, 123, 32, 105, 110, 99, 32, 120, 59, 32, 100, 101, 99, 32, 121, 59, 32, 125], 5, 25),
 ([111, 110, 32, 109, 105, 115, 115, 32, 123, 32, 100, 114, 111, 112, 59, 32, 98, 117, 109, 112, 59, 32, 125], 0, 0),
 ([111, 110, 32, 109, 105, 115, 115, 32, 123, 32, 100, 114, 111, 112, 32, 120, 59, 32, 125], 2, 15),
 ([111, 110, 32, 109, 105, 115, 115, 32, 123, 32, 59, 32, 125], 2, 10),
 ([111, 110, 32, 109, 105, 115, 115, 32, 123, 32, 113, 117, 101, 117, 101, 32, 114, 32, 49, 59, 32, 125], 2, 10),
 ([113, 117, 101, 117, 101, 32, 114, 32, 49, 59, 32, 111, 110, 32, 109, 105, 115, 115, 32, 123, 32, 105, 102, 32, 102, 117, 108, 108, 32, 114, 32, 123, 32, 125, 32, 101, 108, 115, 101, 32, 123, 32, 125, 32, 125], 0, 0),
 ([113, 117, 101, 117, 101, 32, 114, 32, 49, 59, 32, 111, 110, 32, 109, 105, 115, 115, 32, 123, 32, 105, 102, 32, 123, 32, 125, 32, 125], 2, 24),
 ([113, 117, 101, 117, 101, 32, 114, 32, 49, 59, 32, 111, 110, 32, 109, 105, 115, 115, 32, 123, 32, 105, 102, 32, 102, 117, 108, 108, 32, 123, 32, 125, 32, 125], 2, 29),
 ([113, 117, 101, 117, 101, 32, 114, 32, 49, 59, 32, 111, 110, 32, 109, 105, 115, 115, 32, 123, 32, 101, 108, 115, 101, 32, 123, 32, 125, 32, 125], 2, 21),
 ([113, 117, 101, 117, 101, 32, 114, 32, 49, 59, 32, 111, 110, 32, 109, 105, 115, 115, 32, 123, 32, 105, 102, 32, 110, 111, 116, 32, 110, 111, 116, 32, 101, 109, 112, 116, 121, 32, 114, 32, 123, 32, 125, 32, 125], 0, 0),
 ([113, 117, 101, 117, 101, 32, 114, 32, 49, 59, 32, 111, 110, 32, 109, 105, 115, 115, 32, 123, 32, 105, 102, 32, 110, 111, 116, 32, 123, 32, 125, 32, 125], 2, 28),
 ([118, 97, 114, 32, 120, 32, 49, 59, 32, 111, 110, 32, 109, 105, 115, 115, 32, 123, 32, 105, 102, 32, 120, 32, 60, 32, 50, 32, 123, 32, 125, 32, 125], 0, 0),
 ([118, 97, 114, 32, 120, 32, 49, 59, 32, 111, 110, 32, 109, 105, 115, 115, 32, 123, 32, 105, 102, 32, 120, 32, 123, 32, 125, 32, 125], 2, 24),
 ([118, 97, 114, 32, 120, 32, 49, 59, 32, 111, 110, 32, 109, 105, 115, 115, 32, 123, 32, 105, 102, 32, 120, 32, 60, 32, 123, 32, 125, 32, 125], 2, 26),
 ([113, 117, 101, 117, 101, 32, 114, 32, 49, 59, 32, 111, 110, 32, 109, 105, 115, 115, 32, 123, 32, 105, 102, 32, 114, 32, 60, 32, 50, 32, 123, 32, 125, 32, 125], 6, 24),
 ([113, 117, 101, 117, 101, 32, 114, 32, 49, 59, 32, 111, 110, 32, 109, 105, 115, 115, 32, 123, 32, 105, 102, 32, 108, 101, 110, 32, 114, 32, 60, 32, 102, 114, 101, 113, 32, 123, 32, 125, 32, 125], 0, 0),
 ([118, 97, 114, 32, 120, 32, 49, 59, 32, 111, 110, 32, 109, 105, 115, 115, 32, 123, 32, 105, 102, 32, 108, 101, 110, 32, 120, 32, 60, 32, 49, 32, 123, 32, 125, 32, 125], 6, 26),
 ([111, 110, 32, 109, 105, 115, 115, 32, 123, 32, 105, 102, 32, 57, 57, 57, 32, 60, 32, 48, 32, 123, 32, 125, 32, 125], 0, 0),
 ([111, 110, 32, 109, 105, 115, 115, 32, 123, 32, 114, 101, 112, 101, 97, 116, 32, 53, 48, 32, 119, 104, 105, 108, 101, 32, 49, 32, 60, 32, 50, 32, 123, 32, 125, 32, 125], 0, 0),
 ([111, 110, 32, 109, 105, 115, 115, 32, 123, 32, 114, 101, 112, 101, 97, 116, 32, 53, 49, 32, 119, 104, 105, 108, 101, 32, 49, 32, 60, 32, 50, 32, 123, 32, 125, 32, 125], 7, 17),
 ([111, 110, 32, 109, 105, 115, 115, 32, 123, 32, 114, 101, 112, 101, 97, 116, 32, 48, 32, 119, 104, 105, 108, 101, 32, 49, 32, 60, 32, 50, 32, 123, 32, 125, 32, 125], 7, 17),
 ([111, 110, 32, 109, 105, 115, 115, 32, 123, 32, 114, 101, 112, 101, 97, 116, 32, 119, 104, 105, 108, 101, 32, 49, 32, 60, 32, 50, 32, 123, 32, 125, 32, 125], 2, 17),
 ([111, 110, 32, 109, 105, 115, 115, 32, 123, 32, 114, 101, 112, 101, 97, 116, 32, 53, 32, 49, 32, 60, 32, 50, 32, 123, 32, 125, 32, 125], 2, 19),
 ([111, 110, 32, 109, 105, 115, 115, 32, 123, 32, 114, 101, 112, 101, 97, 116, 32, 49, 32, 119, 104, 105, 108, 101, 32, 49, 32, 60, 32, 50, 32, 123, 32, 114, 101, 112, 101, 97, 116, 32, 49, 32, 119, 104, 105, 108, 101, 32, 49, 32, 60, 32, 50, 32, 123, 32, 125, 32, 125, 32, 114, 101, 112, 101, 97, 116, 32, 49, 32, 119, 104, 105, 108, 101, 32, 49, 32, 60, 32, 50, 32, 123, 32, 125, 32, 125], 0, 0),
 ([111, 110, 32, 109, 105, 115, 115, 32, 123, 32, 114, 101, 112, 101, 97, 116, 32, 49, 32, 119, 104, 105, 108, 101, 32, 49, 32, 60, 32, 50, 32, 123, 32, 114, 101, 112, 101, 97, 116, 32, 49, 32, 119, 104, 105, 108, 101, 32, 49, 32, 60, 32, 50, 32, 123, 32, 114, 101, 112, 101, 97, 116, 32, 49, 32, 119, 104, 105, 108, 101, 32, 49, 32, 60, 32, 50, 32, 123, 32, 125, 32, 125, 32, 125, 32, 125], 3, 56),
 ([111, 110, 32, 109, 105, 115, 115, 32, 123, 32, 114, 101, 112, 101, 97, 116, 32, 49, 32, 119, 104, 105, 108, 101, 32, 49, 32, 60, 32, 50, 32, 123, 32, 105, 102, 32, 49, 32, 60, 32, 50, 32, 123, 32, 114, 101, 112, 101, 97, 116, 32, 49, 32, 119, 104, 105, 108, 101, 32, 49, 32, 60, 32, 50, 32, 123, 32, 105, 102, 32, 49, 32, 60, 32, 50, 32, 123, 32, 114, 101, 112, 101, 97, 116, 32, 54, 48], 3, 78),
 ([111, 110, 32, 109, 105, 115, 115, 32, 123, 32, 112, 117, 116, 32, 120, 59, 32, 33, 32, 125], 2, 17),
 ([111, 110, 32, 109, 105, 115, 115, 32, 123, 32, 112, 117, 116, 32, 120, 59, 32, 125, 32, 111, 110, 32, 109, 105, 115, 115, 32, 123, 32, 125], 5, 14),
 ([113, 117, 101, 117, 101, 32, 114, 32, 48, 59, 32, 113, 117, 101, 117, 101, 32, 114, 32, 48, 59, 32, 111, 110, 32, 109, 105, 115, 115, 32, 123, 32, 125], 7, 8)]
def faultsH : List (List UInt8 × Nat × Nat) := [
 (longB 678, 0, 0),
 (longB 678 ++ [32], 1, 0),
 (deepB 7 ++ [123, 32, 125] ++ closedB 7, 0, 0),
 (deepB 7 ++ [123, 32, 105, 102, 32, 102, 117, 108, 108, 32, 114, 32, 123, 32, 125, 32, 125] ++ closedB 7, 3, 115),
 (manyB 8 ++ [111, 110, 32, 109, 105, 115, 115, 32, 123, 32, 125], 0, 0),
 (manyB 8 ++ [118, 97, 114, 32, 120, 32, 49, 59, 32, 111, 110, 32, 109, 105, 115, 115, 32, 123, 32, 125], 9, 100),
 (manyB 8 ++ [102, 114, 101, 113, 32, 49, 59, 32, 111, 110, 32, 109, 105, 115, 115, 32, 123, 32, 125], 0, 0)]
def faultsL : List (List UInt8 × Nat × Nat) := faultsH ++ faultsK
def flatF (l : List (List UInt8 × Nat × Nat)) : List Value := l.flatMap fun r => [S r.1, .int .i64 r.2.1, .int .i64 r.2.2]
theorem faultsL_len : faultsL.length = 81 := rfl
def runL (P : Program) : List Oper -> Act -> World -> Option (Act × World)
 | [], a, w => some (a, w)
 | o :: rest, a, w => match o.guard with
  | some _ => none
  | none => match (execOp a.eval o).run P w with
   | .ok (.value v) w' => runL P rest (a.put o.dst v) w'
   | _ => none
theorem wpList_runL {P : Program} {ops : Array Oper} {Q : Exit -> Act -> World -> Prop} : ∀ (l : List Oper) (a : Act) (w : World) (a' : Act) (w' : World), runL P l a w = some (a', w') -> Q .normal a' w' -> wpList P ops Q l a w
 | [], a, w, a', w', h, hq => by
  simp only [runL, Option.some.injEq, Prod.mk.injEq] at h
  obtain ⟨rfl, rfl⟩ := h
  exact hq
 | o :: rest, a, w, a', w', h, hq => by
  unfold runL at h
  cases hg : o.guard with
  | some g => rw [hg] at h; simp at h
  | none =>
   rw [hg] at h
   simp only at h
   refine BigFrame.wpList_want (by simp [Region.wanted, hg]) ?_
   intro K hK
   unfold Oper.wp
   cases hr : (execOp a.eval o).run P w with
   | halt e w1 => rw [hr] at h; simp at h
   | ok x w1 =>
    rw [hr] at h
    cases x with
    | value v => exact hK _ _ (wpList_runL rest _ _ _ _ h hq)
    | _ => simp at h
theorem wpList_calc {P : Program} {ops : Array Oper} {Q : Exit -> Act -> World -> Prop} {l : List Oper} {a : Act} {w w' : World} {v : Value}
  (h : (runL P l a w).map (fun p => (p.1.tmps.getD 0 undef, p.1.defers.length, p.2)) = some (v, 0, w')) (k : ∀ a' : Act, a'.tmps.getD 0 undef = v -> a'.defers = [] -> Q .normal a' w') : wpList P ops Q l a w := by
 obtain ⟨⟨a', w2⟩, h1, h2⟩ := Option.map_eq_some_iff.1 h
 simp only [Prod.mk.injEq] at h2
 obtain ⟨h2, h3, rfl⟩ := h2
 exact wpList_runL _ _ _ _ _ h1 (k a' h2 (List.eq_nil_of_length_eq_zero h3))
def cellsF : Array Value := ([S (longB 678), .int .i64 0, .int .i64 0,
 .string (⟨(longB 678).toArray⟩ ++ ⟨#[32]⟩), .int .i64 1, .int .i64 0,
 .string (⟨(deepB 7).toArray⟩ ++ ⟨#[123, 32, 125]⟩ ++ ⟨(closedB 7).toArray⟩), .int .i64 0, .int .i64 0,
 .string (⟨(deepB 7).toArray⟩ ++ ⟨#[123, 32, 105, 102, 32, 102, 117, 108, 108, 32, 114, 32, 123, 32, 125, 32, 125]⟩ ++ ⟨(closedB 7).toArray⟩), .int .i64 3, .int .i64 115,
 .string (⟨(manyB 8).toArray⟩ ++ ⟨#[111, 110, 32, 109, 105, 115, 115, 32, 123, 32, 125]⟩), .int .i64 0, .int .i64 0,
 .string (⟨(manyB 8).toArray⟩ ++ ⟨#[118, 97, 114, 32, 120, 32, 49, 59, 32, 111, 110, 32, 109, 105, 115, 115, 32, 123, 32, 125]⟩), .int .i64 9, .int .i64 100,
 .string (⟨(manyB 8).toArray⟩ ++ ⟨#[102, 114, 101, 113, 32, 49, 59, 32, 111, 110, 32, 109, 105, 115, 115, 32, 123, 32, 125]⟩), .int .i64 0, .int .i64 0] ++ flatF faultsK).toArray
theorem cellsF_eq : cellsF = (flatF faultsL).toArray := by
 unfold cellsF
 have e2 := bapp (longB 678) [32]
 have e3 := bapp (deepB 7) [123, 32, 125]
 have e3' := bapp (deepB 7 ++ [123, 32, 125]) (closedB 7)
 have e4 := bapp (deepB 7) [123, 32, 105, 102, 32, 102, 117, 108, 108, 32, 114, 32, 123, 32, 125, 32, 125]
 have e4' := bapp (deepB 7 ++ [123, 32, 105, 102, 32, 102, 117, 108, 108, 32, 114, 32, 123, 32, 125, 32, 125]) (closedB 7)
 have e5 := bapp (manyB 8) [111, 110, 32, 109, 105, 115, 115, 32, 123, 32, 125]
 have e6 := bapp (manyB 8) [118, 97, 114, 32, 120, 32, 49, 59, 32, 111, 110, 32, 109, 105, 115, 115, 32, 123, 32, 125]
 have e7 := bapp (manyB 8) [102, 114, 101, 113, 32, 49, 59, 32, 111, 110, 32, 109, 105, 115, 115, 32, 123, 32, 125]
 rw [e2, e3, e3', e4, e4', e5, e6, e7]
 rfl
theorem faults_any (w : World) :
  Calls Tryz.prog 26 #[] w fun e w' => ∃ n, e = .returned (.slice (some ⟨n, 0, none⟩) 81 81) /\ Below w.heap.size w w' /\ w.heap.size <= n /\ w'.heap[n]? = some (.cells (flatF faultsL).toArray 59) := by
 go_enter Tryz.func26, Tryz.ntmps26
 go_wp2_with fail
 go_loopg [1] 678 (fun f v wr => ∃ k, k + f = 678 /\ v = S (longB k) /\ wr = w)
 case atStart => exact ⟨0, rfl, rfl, rfl⟩
 case round =>
  obtain ⟨k, hk, rfl, rfl⟩ := hrel
  have hl : (longB k).length = 22 + k := by simp [longB]; omega
  by_cases hlt : k < 678
  ·go_wp2_with fail
   go_roundg (gk - 1)
   case measure => omega
   case rel => exact ⟨k + 1, by omega, by rw [longB_succ]; exact congrArg Value.string (bapp _ _), rfl⟩
  ·obtain rfl : k = 678 := by omega
   clear hlt hk hl
   have hl : (longB 678).length = 700 := by simp [longB]
   generalize hL : longB 678 = L at *
   go_wp2_with fail
   go_loopg [2, 3, 4] 7 (fun f v2 v3 v4 wr2 => ∃ k, k + f = 7 /\ v2 = S (deepB k) /\ v3 = S (closedB k) /\ v4 = .int .i64 k /\ wr2 = wr)
   case atStart => exact ⟨0, rfl, rfl, rfl, rfl, rfl⟩
   case round =>
    obtain ⟨k, hk, rfl, rfl, rfl, rfl⟩ := hrel
    have h2 : (deepB k).length = 19 + 12 * k := by simp [deepB]; omega
    have h3 : (closedB k).length = 2 * k := by simp [closedB]; omega
    by_cases hlt : k < 7
    ·go_wp2_with fail
     go_roundg (gk - 1)
     case measure => omega
     case rel => exact ⟨k + 1, by omega, by rw [deepB_succ]; exact congrArg Value.string (bapp _ _), by rw [closedB_succ]; exact congrArg Value.string (bapp _ _), by simp, rfl⟩
    ·obtain rfl : k = 7 := by omega
     clear hlt hk h2 h3
     generalize hD : deepB 7 = D at *
     generalize hC : closedB 7 = C at *
     go_wp2_with fail
     go_loopg [5, 6] 8 (fun f v5 v6 w3 => ∃ k, k + f = 8 /\ v5 = S (manyB k) /\ v6 = .int .i64 k /\ Below wr.heap.size wr w3)
     case atStart => exact ⟨0, rfl, rfl, rfl, Below.refl _ _⟩
     case round =>
      obtain ⟨k, hk, rfl, rfl, HB⟩ := hrel
      have h5 : (manyB k).length = 12 * k := manyB_len k
      by_cases hlt : k < 8
      ·have hu : ((97 : Int) + k) % 256 = 97 + k := by omega
       have hn : (UInt8.ofNat (97 + k)).toNat = 97 + k := by simp; omega
       have hcv := run_convert_bytes_back (P := Tryz.prog) (wr.alloc (.cells #[.int .u8 (97 + k)] 5)) 65 9 5 ⟨wr.heap.size, 0, none⟩ 1 [UInt8.ofNat (97 + k)] Tryz.underlying65 Tryz.underlying5 Tryz.underlying9
        (fun j hj => by
         obtain rfl : j = 0 := by simpa using hj
         simp [Addr.add]; omega)
       have e1 := bapp [113, 117, 101, 117, 101, 32, 113] [UInt8.ofNat (97 + k)]
       have z1 := HB.size
       simp only [List.length_singleton] at hcv
       generalize hU : UInt8.ofNat (97 + k) = u at *
       go_wp2_with fail
       go_roundg (gk - 1)
       case measure => omega
       case rel =>
        refine ⟨k + 1, by omega, ?_, by simp, HB.alloc z1 _⟩
        exact congrArg Value.string ((congrArg _ (bapp [113, 117, 101, 117, 101, 32, 113, u] [32, 49, 59, 32])).trans ((bapp (manyB k) _).trans (by rw [manyB, hU]; rfl)))
      ·obtain rfl : k = 8 := by omega
       clear hlt hk h5
       subst hL hD hC
       clear hl
       go_upto_region 16 with fail
       refine wp_region_lit ?_
       refine wpList_calc (v := .slice (some ⟨wr.heap.size, 0, none⟩) 81 81) (w' := wr.alloc (.cells cellsF 59)) (by kernel_rfl) ?_
       intro a' h1 h2
       have hz := HB.size
       go_wp2_with fail
       refine bodyPost_ret (v := .slice (some ⟨wr.heap.size, 0, none⟩) 81 81) (by simp [results, Tryz.results26, go_sem]; simpa using h1) h2 ⟨wr.heap.size, rfl, HB.alloc hz _, hz, ?_⟩
       rw [<- cellsF_eq]
       exact heap_new rfl
def ansS (l : List UInt8) : Nat × Nat := match readS l with
 | .ok _ => (0, 0)
 | .error (i, p) => (enoS i, p)
theorem faultsK_right : (faultsK.all fun r => ansS r.1 == (r.2.1, r.2.2)) = true := by kernel_rfl
theorem faultsH_right : (faultsH.all fun r => ansS r.1 == (r.2.1, r.2.2)) = true := by kernel_rfl
theorem faults_right (r : List UInt8 × Nat × Nat) (h : r ∈ faultsL) : ansS r.1 = (r.2.1, r.2.2) := by
 rcases List.mem_append.1 h with h | h
 ·exact eq_of_beq (List.all_eq_true.1 faultsH_right r h)
 ·exact eq_of_beq (List.all_eq_true.1 faultsK_right r h)
theorem faults_zero : (faultsL.all fun r => (r.2.1 != 0) || (r.2.2 == 0)) = true := by kernel_rfl
theorem pick_any (c : Int) (w : World) (h1 : -9223372036854775808 <= c) (h2 : c <= 9223372036854775807) :
  Calls Tryz.prog 9 #[.int .i64 c, .int .i64 81] w fun e w' => ∃ k : Nat, k < 81 /\ e = .returned (.int .i64 k) /\ w' = w := by
 by_cases h : c < 0
 ·have h4 : (-(c + 1)).tmod 81 = -(c + 1) % 81 := Int.tmod_eq_emod_of_nonneg (by omega)
  go_enter Tryz.func9, Tryz.ntmps9
  go_wp2_with fail
  go_ret
  refine ⟨(-(c + 1) % 81).toNat, by omega, ?_, rfl⟩
  have h3 : ((-(c + 1) % 81).toNat : Int) = -(c + 1) % 81 := by omega
  rw [h3]
  first | rfl | rw [<- h4] | (congr 3; omega)
 ·have h4 : c.tmod 81 = c % 81 := Int.tmod_eq_emod_of_nonneg (by omega)
  go_enter Tryz.func9, Tryz.ntmps9
  go_wp2_with fail
  go_ret
  refine ⟨(c % 81).toNat, by omega, ?_, rfl⟩
  have h3 : ((c % 81).toNat : Int) = c % 81 := by omega
  rw [h3]
  first | rfl | rw [<- h4] | (congr 3; omega)
theorem enoS_pos (i : Nat) : 0 < enoS i := by
 unfold enoS
 repeat' split
 all_goals decide
theorem flatF_at : ∀ (L : List (List UInt8 × Nat × Nat)) (k : Nat) r, L[k]? = some r -> ∀ j u, ([S r.1, .int .i64 r.2.1, .int .i64 r.2.2] : List Value)[j]? = some u -> (flatF L)[k * 3 + j]? = some u := by
 intro L
 induction L with
 | nil => intro k r h; simp at h
 | cons q qs ih =>
  intro k r h j u hu
  have hj : j < 3 := by
   have := (List.getElem?_eq_some_iff.1 hu).1
   simpa using this
  cases k with
  | zero =>
   simp only [List.getElem?_cons_zero, Option.some.injEq] at h
   subst h
   simp only [flatF, List.flatMap_cons, Nat.zero_mul, Nat.zero_add]
   rw [List.getElem?_append_left (by simpa using hj)]
   exact hu
  | succ k =>
   simp only [flatF, List.flatMap_cons]
   rw [List.getElem?_append_right (by simp; omega)]
   have := ih k r (by simpa using h) j u hu
   simp only [flatF] at this
   rw [<- this]
   congr 1
   simp
   omega
theorem refuses_any (c : Int) (h1 : -9223372036854775808 <= c) (h2 : c <= 9223372036854775807) {w : World} {A : Nat -> Addr} (SS : Sent w A) :
  Calls Tryz.prog 7 #[.int .i64 c] w fun e w' => e = .returned (.bool true) /\ Below w.heap.size w w' := by
 go_enter Tryz.func7, Tryz.ntmps7
 go_wp2_with fail
 refine (faults_any w).mono ?_
 rintro e w1 ⟨n, rfl, B1, hn, hF⟩
 go_wp2_with fail
 refine (pick_any c _ h1 h2).mono ?_
 rintro e w2 ⟨k, hk, rfl, rfl⟩
 have hr : k < faultsL.length := by rw [faultsL_len]; exact hk
 have hrow : faultsL[k]? = some faultsL[k] := List.getElem?_eq_getElem hr
 have hans := faults_right faultsL[k] (List.getElem_mem hr)
 have HL := fun o => load_any faultsL[k].1 (SS.move (B1.alloc B1.size o))
 generalize faultsL[k] = r at *
 obtain ⟨src, en, at'⟩ := r
 have hrg : w2.rangeAt n (k * 3) [S src, .int .i64 en, .int .i64 at'] := fun j u hu => by
  have := flatF_at faultsL k _ hrow j u hu
  simp [World.cell?, hF]
  exact this
 have hix : ∀ W : World, (Instr.indexAt 56 (.slice (some ⟨n, 0, none⟩) 81 81) (.int .i64 k)).run Tryz.prog W = .ok (.pointer (some ⟨n, k * 3, none⟩)) W := by
  intro W
  rw [run_indexAt_slice (h := by kernel_rfl), if_pos (by omega)]
  have : (sizeOf (Tryz.prog.elem 56)).run Tryz.prog W = .ok 3 W := by kernel_rfl
  rw [this]
  simp [Result.andThen, Addr.add]
  omega
 go_wp2_with (refine wpList_load_mid rfl 59 (.tmp 14) rfl n (k * 3) rfl [S src, .int .i64 en, .int .i64 at'] _ hrg Tryz.underlying59 rfl (by kernel_rfl) ?_)
 have hz := B1.size
 have B2 := B1.alloc hz (.cells #[S src, .int .i64 en, .int .i64 at'] 59)
 have HB := HL (.cells #[S src, .int .i64 en, .int .i64 at'] 59)
 have hb : (w2.alloc (.cells #[S src, .int .i64 en, .int .i64 at'] 59)).heap[w2.heap.size]? = some (.cells #[S src, .int .i64 en, .int .i64 at'] 59) := heap_new rfl
 clear HL SS
 refine HB.mono ?_
 clear HB
 unfold ansS at hans
 generalize readS src = rs at *
 generalize w2.alloc (.cells #[S src, .int .i64 en, .int .i64 at'] 59) = w3 at *
 rcases rs with ⟨i, p⟩ | x
 ·rintro e w4 ⟨rfl, B3⟩
  simp only [Prod.mk.injEq] at hans
  obtain ⟨rfl, rfl⟩ := hans
  have hpos : 0 < enoS i := enoS_pos i
  have hb4 := (B3.block _ (Array.getElem?_eq_some_iff.1 hb).1).trans hb
  have c1 : w4.cell? ⟨w2.heap.size, 1, none⟩ = some (.int .i64 (enoS i)) := by simp [World.cell?, hb4]
  have c2 : w4.cell? ⟨w2.heap.size, 2, none⟩ = some (.int .i64 p) := by simp [World.cell?, hb4]
  generalize enoS i = en at *
  go_wp2_with fail
  go_ret
  exact ⟨by simp; omega, B2.trans (B3.mono B2.size)⟩
 ·rintro e w4 ⟨g, n', mb, rfl, B3, hrest⟩
  simp only [Prod.mk.injEq] at hans
  obtain ⟨rfl, rfl⟩ := hans
  clear hrest
  have hb4 := (B3.block _ (Array.getElem?_eq_some_iff.1 hb).1).trans hb
  have c1 : w4.cell? ⟨w2.heap.size, 1, none⟩ = some (.int .i64 0) := by simp [World.cell?, hb4]
  have c2 : w4.cell? ⟨w2.heap.size, 2, none⟩ = some (.int .i64 0) := by simp [World.cell?, hb4]
  go_wp2_with fail
  go_ret
  exact ⟨by simp, B2.trans (B3.mono B2.size)⟩
end Go.Proofs.YtfddoieakfpagabGreatDoor
