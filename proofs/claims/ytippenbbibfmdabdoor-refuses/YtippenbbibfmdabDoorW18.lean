import Derived.Test.YtippenbbibfmdabDoorW17
import Derived.Defers
import Derived.Recover
namespace Go.Proofs.YtippenbbibfmdabDoor
open Go.RowKit

/-- The closure that recovers, where the reader left by a panic with a fault. -/
theorem clos_fault {w : World} (np ne f : Nat) (older : List PanicEntry) (hp : w.cell? ⟨np, 0, none⟩ = some (.pointer none)) (he : w.cell? ⟨ne, 0, none⟩ = some .nilIface) (hpf : w.frozen? ⟨np, 0, none⟩ = false) (hef : w.frozen? ⟨ne, 0, none⟩ = false) (hne : np ≠ ne) :
    CallsD Tryd.prog 14 #[.pointer (some ⟨np, 0, none⟩), .pointer (some ⟨ne, 0, none⟩)] (.panicking ({ v := .iface 42 (.pointer (some ⟨f, 0, none⟩)), recovered := false } :: older)) w fun e u' w' =>
      u' = .panicking ({ v := .iface 42 (.pointer (some ⟨f, 0, none⟩)), recovered := true } :: older) ∧ e = .returned (.tuple #[]) ∧ w' = (w.setCell ⟨np, 0, none⟩ (.pointer none)).setCell ⟨ne, 0, none⟩ (.iface 42 (.pointer (some ⟨f, 0, none⟩))) := by
  have hta : ∀ w, (Instr.typeAssert (.iface 42 (.pointer (some ⟨f, 0, none⟩))) 20 42 true).run Tryd.prog w = .ok (.tuple #[.pointer (some ⟨f, 0, none⟩), .bool true]) w := by intro w; kernel_rfl
  refine callsD_of_wpS Tryd.func14 rfl fun c₀ cs hu => ?_
  apply wpS_seq
  apply wpS_region
  simp [wpOpsS, go_sem, recoverD, hu, Tryd.ntmps14, Exit.thenS]
  apply wpS_seq
  apply wpS_seq
  apply wpS_region
  simp [wpOpsS, go_sem, Exit.thenS]
  refine wpS_cond (t := false) (by simp [Act.eval, Array.replicate]) ?_
  simp only [Bool.false_eq_true, if_false]
  refine wpS_of_wp (wp_skip ?_)
  simp only [Exit.thenS]
  apply wpS_seq
  apply wpS_region
  simp [wpOpsS, go_sem, Exit.thenS, Array.replicate, hta]
  apply wpS_seq
  apply wpS_seq
  apply wpS_region
  simp [wpOpsS, go_sem, Exit.thenS]
  refine wpS_cond (t := false) (by simp [Act.eval]) ?_
  simp only [Bool.false_eq_true, if_false]
  refine wpS_of_wp (wp_skip ?_)
  simp only [Exit.thenS]
  apply wpS_region
  simp [wpOpsS, go_sem, hp, he, hpf, hef]
  simp [bodyPostS, results, Tryd.results14]

set_option maxRecDepth 20000 in
theorem clos_idle {w : World} (p q : Value) :
    CallsD Tryd.prog 14 #[p, q] .returning w fun e u' w' => e = .returned (.tuple #[]) ∧ u' = .returning ∧ w' = w := by
  refine callsD_of_wpS Tryd.func14 rfl fun c₀ cs hu => ?_
  apply wpS_seq
  apply wpS_region
  simp [wpOpsS, go_sem, recoverD, hu, Tryd.ntmps14, Exit.thenS]
  apply wpS_seq
  apply wpS_seq
  apply wpS_region
  simp [wpOpsS, go_sem, Exit.thenS]
  refine wpS_cond (t := true) (by simp [Act.eval, Array.replicate]) ?_
  simp only [if_true]
  refine wpS_of_wp (wp_ret ?_)
  cases c₀
  simp_all [Exit.thenS, bodyPostS, results, Tryd.results14]
end Go.Proofs.YtippenbbibfmdabDoor
