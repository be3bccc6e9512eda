import Derived.Test.YtfddoieakfpagabGreatDoorM5x
import Derived.Test.YtfddoieakfpagabGreatDoorDD
import Derived.Test.YtfddoieakfpagabGreatDoorJJ
import Derived.Lib.LaidTab
import Derived.LaidMore
import Derived.LaidHandle
namespace Go.Proofs.YtfddoieakfpagabGreatDoor
section
open Go.ChangeShapes Go.WideShapes Go.ChangeAt Go.RowKit
theorem laid_peel {P : Program} {W : World} {n : String} {d : DataW Unit} {r : List (String × DataW Unit)} {ps : List MemPlace} {R : Nat -> Nat -> Prop} (h : DataW.LaidVars P W ((n, d) :: r) ps) (hnd : ps.Nodup) (hr : ∀ b off, MemPlace.cell b off ∈ ps -> R b off) :
  (∃ g t cs fuel p, P.globalNamed n = some g /\ (P.globals[g]?).map (·.type) = some t /\ W.var? P n = some cs /\ DataW.trod (fun _ => ()) P W 0 (fun _ => true) false fuel t cs.toList = some (d, p)) /\
  ∃ q, DataW.LaidVars P W r q /\ q.Nodup /\ ∀ b off, MemPlace.cell b off ∈ q -> R b off := by
 obtain ⟨g, t, cs, fuel, p, q, h1, h2, h3, h4, h5, rfl⟩ := h
 exact ⟨⟨g, t, cs, fuel, p, h1, h2, h3, h4⟩, q, h5, List.Nodup.sublist (List.sublist_append_right _ _) hnd, fun b off hm => hr b off (List.mem_append_right _ hm)⟩
theorem Tryz.gp : Tryz.prog.globalNamed "internal/strconv.uint64pow10" = some 15 := by kernel_rfl
theorem Tryz.gpt : (Tryz.prog.globals[15]?).map (·.type) = some 270 := by kernel_rfl
theorem Tryz.cellsP : Tryz.prog.cellsOf 270 = 20 := by kernel_rfl
theorem pow_of {W : World} (h : ∃ g t cs fuel p, Tryz.prog.globalNamed "internal/strconv.uint64pow10" = some g /\ (Tryz.prog.globals[g]?).map (·.type) = some t /\ W.var? Tryz.prog "internal/strconv.uint64pow10" = some cs /\ DataW.trod (fun _ => ()) Tryz.prog W 0 (fun _ => true) false fuel t cs.toList = some (Rows.laid_internal_strconv_uint64pow10, p)) : Tb W.heap.size W := by
 obtain ⟨g, t, cs, fuel, p, h1, h2, h3, h4⟩ := h
 obtain rfl := Option.some.inj (Tryz.gp.symm.trans h1)
 obtain rfl := Option.some.inj (Tryz.gpt.symm.trans h2)
 have e : (Rows.laid_internal_strconv_uint64pow10 : DataW Unit) = Lib.tabData .u64 Lib.pow10Tab := by kernel_rfl
 rw [e] at h4
 have hc := Lib.cells_of_tab Tryz.underlying270 Tryz.underlying27 Tryz.cellsU Tryz.cellsP h4
 refine Lib.tabBelow_of_tabIs (w := W) ?_
 unfold Lib.TabIs
 rw [h3, <- hc]
theorem cons_of_laid {W : World} (h : laidMetH Tryz.prog Rows.conservedRow.laid W) : laidMetH Tryz.prog Rows.clockRow.laid W /\ Tb W.heap.size W := by
 unfold laidMetH at h ⊢
 have e1 : Rows.conservedRow.laid.filter (fun x => x.2.handleName?.isNone) = ("math/bits.deBruijn32tab", Rows.laid_math_bits_deBruijn32tab) :: ("math/bits.deBruijn64tab", Rows.laid_math_bits_deBruijn64tab) :: ("internal/strconv.uint64pow10", Rows.laid_internal_strconv_uint64pow10) :: Rows.clockRow.laid.filter (fun x => x.2.handleName?.isNone) := by kernel_rfl
 have e2 : Rows.conservedRow.laid.filter (fun x => x.2.handleName?.isSome) = Rows.clockRow.laid.filter (fun x => x.2.handleName?.isSome) := by kernel_rfl
 rw [e1, e2] at h
 obtain ⟨⟨ps, hv, hnd, hrows⟩, hh⟩ := h
 obtain ⟨_, q1, hv1, hnd1, hr1⟩ := laid_peel hv hnd hrows
 obtain ⟨_, q2, hv2, hnd2, hr2⟩ := laid_peel hv1 hnd1 hr1
 obtain ⟨hpw, q3, hv3, hnd3, hr3⟩ := laid_peel hv2 hnd2 hr2
 exact ⟨⟨⟨q3, hv3, hnd3, hr3⟩, hh⟩, pow_of hpw⟩
end
end Go.Proofs.YtfddoieakfpagabGreatDoor
