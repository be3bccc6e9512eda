import Derived.ProofKit
import Derived.LaidMore
import Derived.LaidHandle
import Derived.OpenShut
import Derived.Stop.Joined
import Derived.Test.YtfddoieakfpagabGreatDoorRows
import Derived.Test.YtfddoieakfpagabGreatDoorGD
import Derived.Test.YtfddoieakfpagabGreatDoorHD
namespace Go.Proofs.YtfddoieakfpagabGreatDoor
section
open Go.ChangeShapes Go.WideShapes Go.ChangeAt Go.RowKit
def sents : List (String × List UInt8) := [
 ("evictor/policy.ErrLong", [116, 104, 101, 32, 116, 101, 120, 116, 32, 105, 115, 32, 116, 111, 111, 32, 108, 111, 110, 103]),
 ("evictor/policy.ErrSyntax", [116, 104, 105, 115, 32, 99, 97, 110, 110, 111, 116, 32, 115, 116, 97, 110, 100, 32, 104, 101, 114, 101]),
 ("evictor/policy.ErrDeep", [116, 111, 111, 32, 109, 97, 110, 121, 32, 98, 108, 111, 99, 107, 115, 32, 111, 114, 32, 108, 111, 111, 112, 115, 32, 119, 105, 116, 104, 105, 110, 32, 101, 97, 99, 104, 32, 111, 116, 104, 101, 114]),
 ("evictor/policy.ErrTwice", [116, 104, 105, 115, 32, 105, 115, 32, 100, 101, 99, 108, 97, 114, 101, 100, 32, 97, 108, 114, 101, 97, 100, 121]),
 ("evictor/policy.ErrMany", [116, 111, 111, 32, 109, 97, 110, 121, 32, 110, 97, 109, 101, 115, 32, 97, 114, 101, 32, 100, 101, 99, 108, 97, 114, 101, 100]),
 ("evictor/policy.ErrNumber", [116, 104, 101, 32, 110, 117, 109, 98, 101, 114, 32, 105, 115, 32, 98, 101, 121, 111, 110, 100, 32, 105, 116, 115, 32, 98, 111, 117, 110, 100, 115]),
 ("evictor/policy.ErrNone", [116, 104, 101, 32, 110, 97, 109, 101, 32, 105, 115, 32, 110, 111, 116, 32, 100, 101, 99, 108, 97, 114, 101, 100]),
 ("evictor/policy.ErrKind", [116, 104, 101, 32, 110, 97, 109, 101, 32, 105, 115, 32, 111, 102, 32, 116, 104, 101, 32, 111, 116, 104, 101, 114, 32, 107, 105, 110, 100]),
 ("evictor/policy.ErrRule", [116, 104, 101, 114, 101, 32, 105, 115, 32, 97, 32, 114, 117, 108, 101, 32, 102, 111, 114, 32, 116, 104, 105, 115, 32, 97, 108, 114, 101, 97, 100, 121]),
 ("evictor/policy.ErrMiss", [116, 104, 101, 114, 101, 32, 105, 115, 32, 110, 111, 32, 114, 117, 108, 101, 32, 102, 111, 114, 32, 109, 105, 115, 115]),
 ("evictor/machine.ErrName", [110, 111, 116, 104, 105, 110, 103, 32, 111, 102, 32, 116, 104, 101, 32, 107, 105, 110, 100, 32, 104, 97, 115, 32, 116, 104, 97, 116, 32, 110, 97, 109, 101]),
 ("evictor/machine.ErrFull", [116, 104, 101, 32, 113, 117, 101, 117, 101, 32, 104, 111, 108, 100, 115, 32, 105, 116, 115, 32, 99, 97, 112, 97, 99, 105, 116, 121, 32, 97, 108, 114, 101, 97, 100, 121]),
 ("evictor/machine.ErrEmpty", [116, 104, 101, 32, 113, 117, 101, 117, 101, 32, 105, 115, 32, 101, 109, 112, 116, 121])]
def posOf (i : Nat) : Nat := if i = 1 then 0 else if i = 13 then 1 else if i = 2 then 2 else if i = 3 then 3 else if i = 8 then 4 else if i = 6 then 5 else if i = 4 then 6 else if i = 5 then 7 else if i = 7 then 8 else if i = 9 then 9 else if i = 0 then 10 else if i = 10 then 11 else if i = 11 then 12 else 13
theorem Tryz.own : ownKnob Tryz.prog.godebug = none := by kernel_rfl
theorem Tryz.cellsE : Tryz.prog.cellsOf 297 = 1 := by kernel_rfl
theorem Tryz.cellsS : Tryz.prog.cellsOf 9 = 1 := by kernel_rfl
theorem Tryz.star : "*" ++ "errors.errorString" = "*errors.errorString" := by decide
theorem Tryz.rowE (u : TypeId) (h : Tryz.prog.typeName? 3 u = some "*errors.errorString") : u = 278 :=
 typeName_ptr_named (nm := "errors.errorString") (by rw [Tryz.star]; kernel_rfl) (by kernel_rfl) (by decide) u (by rw [Tryz.star]; exact h)
theorem Tryz.et : Tryz.prog.globalNamed "errors.errorType" = some 12 := by kernel_rfl
theorem Tryz.rt : (Tryz.prog.cutTypes.find? (·.1 == "internal/reflectlite.rtype")).map (·.2) = some 198 := by kernel_rfl
theorem Tryz.oneRow : ((List.range 309).filter fun t => Tryz.prog.rowNamed t [101, 114, 114, 111, 114]) = [67] := by kernel_rfl
theorem Tryz.size : Tryz.prog.types.size = 309 := by kernel_rfl
theorem Tryz.handleE : typeHandle Tryz.prog 67 = .pointer (some ⟨18, 67, none⟩) := by kernel_rfl
theorem laid_split : Rows.refusesRow.laid.filter (fun x => x.2.handleName?.isNone) = sents.map (sentinel "*errors.errorString") := by kernel_rfl
theorem laid_handle : Rows.refusesRow.laid.filter (fun x => x.2.handleName?.isSome) = [("errors.errorType", Rows.laid_errors_errorType)] := by kernel_rfl
def gOf (k : Nat) : Nat := [1, 13, 2, 3, 8, 6, 4, 5, 7, 9, 0, 10, 11].getD k 0
theorem sents_g : ∀ k, k < 13 -> (sents[k]?).map (fun x => (Tryz.prog.globalNamed x.1, (Tryz.prog.globals[gOf k]?).map (·.type))) = some (some (gOf k), some 67) := by
 intro k hk
 have : ∀ k ∈ List.range 13, (sents[k]?).map (fun x => (Tryz.prog.globalNamed x.1, (Tryz.prog.globals[gOf k]?).map (·.type))) = some (some (gOf k), some 67) := by
  decide +kernel
 exact this k (List.mem_range.2 hk)
theorem sent_of_laid {W : World} (h : laidMetH Tryz.prog Rows.refusesRow.laid W) : ∃ A, Sent W A := by
 unfold laidMetH at h
 rw [laid_handle, laid_split] at h
 obtain ⟨⟨ps, hv, hnd, hrows⟩, hh⟩ := h
 have hg : ∀ x ∈ sents, ∃ g, Tryz.prog.globalNamed x.1 = some g /\ (Tryz.prog.globals[g]?).map (·.type) = some 67 := by
  intro x hx
  obtain ⟨k, hk, rfl⟩ := List.mem_iff_getElem.1 hx
  have := sents_g k hk
  rw [List.getElem?_eq_getElem hk] at this
  simp only [Option.map_some, Option.some.injEq, Prod.mk.injEq] at this
  exact ⟨gOf k, this.1, this.2⟩
 obtain ⟨As, h1, h2, h3, h4⟩ := laid_many Tryz.underlying67 Tryz.rowE Tryz.underlying278 Tryz.underlying297 rfl rfl Tryz.underlying9 Tryz.cellsE Tryz.cellsS sents ps hg hv hnd hrows
 have hl : As.length = 13 := h1
 have hp : ∀ i, i < 12 \/ i = 13 -> posOf i < 13 /\ gOf (posOf i) = i := by
  intro i hi
  have h0 : ∀ i, i < 12 -> posOf i < 13 /\ gOf (posOf i) = i := by decide
  rcases hi with hi | rfl
  ·exact h0 i hi
  ·decide
 refine ⟨fun i => As.getD (posOf i) default, ?_, ?_, ?_, ?_⟩
 ·intro i i1
  obtain ⟨p1, p2⟩ := hp i i1
  have hs := sents_g (posOf i) p1
  have hk : posOf i < sents.length := p1
  rw [List.getElem?_eq_getElem hk] at hs
  simp only [Option.map_some, Option.some.injEq, Prod.mk.injEq, p2] at hs
  have hx := h4 (posOf i) _ (As[posOf i]'(by omega)) (List.getElem?_eq_getElem hk) (List.getElem?_eq_getElem (by omega))
  have := World.var?_cell hs.1 hx 0
  rw [List.getD_eq_getElem?_getD, List.getElem?_eq_getElem (by omega)]
  simpa using this
 ·intro i i1
  obtain ⟨p1, p2⟩ := hp i i1
  rw [List.getD_eq_getElem?_getD, List.getElem?_eq_getElem (by omega)]
  exact (h3 _ (List.getElem_mem (by omega))).2
 ·intro i j i1 j1 e
  obtain ⟨p1, p2⟩ := hp i i1
  obtain ⟨q1, q2⟩ := hp j j1
  simp only [List.getD_eq_getElem?_getD] at e
  rw [List.getElem?_eq_getElem (by omega), List.getElem?_eq_getElem (by omega)] at e
  simp only [Option.getD_some] at e
  have hpw := List.pairwise_iff_getElem.1 h2
  have : posOf i = posOf j := by
   rcases Nat.lt_trichotomy (posOf i) (posOf j) with h | h | h
   ·exact absurd e (hpw _ _ (by omega) (by omega) h)
   ·exact h
   ·exact absurd e.symm (hpw _ _ (by omega) (by omega) h)
  rw [<- p2, <- q2, this]
 ·obtain ⟨name, u, ty, e1, e2, e3, e4, e5⟩ := hh _ (List.mem_singleton.2 rfl)
  have en : name = [101, 114, 114, 111, 114] := (Option.some.inj e1).symm
  subst en
  obtain rfl := Option.some.inj (Tryz.rt.symm.trans e2)
  have hm : ty ∈ (List.range 309).filter fun t => Tryz.prog.rowNamed t [101, 114, 114, 111, 114] := List.mem_filter.2 ⟨List.mem_range.2 (by rw [<- Tryz.size]; exact e3), e4⟩
  rw [Tryz.oneRow] at hm
  obtain rfl := List.mem_singleton.1 hm
  rw [Tryz.handleE] at e5
  simpa using World.var?_cell Tryz.et e5 0
theorem door_met (os : Os) (args : Array Value) : laidMetH Tryz.prog Rows.refusesRow.laid ((World.doorLaid Tryz.prog 400 os).forCall (fun _ _ => 0) ⟨#[], args, []⟩).memory :=
 laidMetH_of_parts (laidMet_of_run' 8 (by kernel_rfl) (by kernel_rfl)) (by kernel_rfl)
end
end Go.Proofs.YtfddoieakfpagabGreatDoor
