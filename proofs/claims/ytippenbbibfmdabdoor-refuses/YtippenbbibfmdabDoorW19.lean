import Derived.Test.YtippenbbibfmdabDoorW18
import Derived.Test.YtippenbbibfmdabDoorShelf
namespace Go.Proofs.YtippenbbibfmdabDoor
open Go.RowKit

theorem clone_any (l : List UInt8) (w : World) (hl : l.length ≤ 700) :
    Calls Tryd.prog 15 #[S l] w fun e w' => e = .returned (S l) ∧ Below w.heap.size w w' := by
  go_enter Tryd.func15, Tryd.ntmps15
  go_wp2_with (go_at_call 27; refine (Tryd.stringslite_Clone _ _ (by simp [ByteArray.size]; omega)).mono ?_; rintro e w' ⟨rfl, hb⟩)
  go_ret
  exact ⟨rfl, hb⟩

theorem cell_lt {w : World} {k o : Nat} {v : Value} (hc : w.cell? ⟨k, o, none⟩ = some v) : k < w.heap.size := by
  by_cases e : k < w.heap.size
  · exact e
  · exfalso; unfold World.cell? at hc; simp [Array.getElem?_eq_none (Nat.le_of_not_lt e)] at hc

theorem But.below {b : Nat} {w w' : World} (h : But b w w') (hb : w.heap.size ≤ b) : Below w.heap.size w w' :=
  ⟨h.os, h.tape, h.output, h.size, fun k hk => h.block k hk (by omega)⟩

def OutR (w : World) (X Y : Value) (r : PR (List Dc × List (Nat × NP × BT 8))) (e : Ending) (w' : World) : Prop :=
  match r with
  | .ok (x, _) => ∃ n vd vr rows, e = .returned (.tuple #[ptr n, .nilIface]) ∧ Below w.heap.size w w' ∧ w.heap.size ≤ n ∧ w'.heap[n]? = some (.cells #[vd, vr] 67) ∧ w'.ownsRow (n + 1) 73 6 vd x.1.length (flatD x.1) ∧ w'.ownsRow (n + 1) 77 4 vr rows.length (flatU rows) ∧ RelU (SlR 8 w' (fun g => n + 1 ≤ g)) rows x.2
  | .error (q, p) => ∃ f, e = .returned (.tuple #[.pointer none, .iface 42 (.pointer (some ⟨f, 0, none⟩))]) ∧ Below w.heap.size w w' ∧ w.heap.size ≤ f ∧ w'.heap[f]? = some (.cells #[.iface 143 (if q then Y else X), .int .i64 p] 44)

set_option maxRecDepth 20000 in
set_option maxHeartbeats 2000000 in
theorem parse_any (l : List UInt8) (w : World) (X Y : Value) (hl : l.length ≤ 700) (hs : w.cell? ⟨10, 0, none⟩ = some (.iface 143 X)) (hd : w.cell? ⟨1, 0, none⟩ = some (.iface 143 Y)) :
    Calls Tryd.prog 10 #[S l] w fun e w' => OutR w X Y (policyS l (tokAt l 0)) e w' := by
  have hmf : ∀ (fn : Fn) (first cap : Array Value) (w : World), (Instr.makeFunc fn first cap).run Tryd.prog w = .ok (.func fn first cap) w := fun _ _ _ _ => rfl
  generalize hr : policyS l (tokAt l 0) = r
  have HR : Hid (policyS l (tokAt l 0) = r) := hr
  clear hr
  go_enter_defers Tryd.func10, Tryd.ntmps10
  go_wp2_with fail
  refine (clone_any l _ hl).mono ?_
  rintro e w1 ⟨rfl, B1⟩
  have z1 : w.heap.size + 1 < w1.heap.size := by have := B1.size; simp at this; omega
  have hp1 : w1.heap[w.heap.size]? = some (.cells #[.pointer none] 33) := by
    rw [B1.block _ (by simp; omega)]; rw [Below.heap_alloc _ _ _ (by simp)]; exact heap_new rfl
  have he1 : w1.heap[w.heap.size + 1]? = some (.cells #[.nilIface] 35) := by
    rw [B1.block _ (by simp)]; exact heap_new (by simp)
  have B0 : But w1.heap.size w w1 := (((But.refl _ w).alloc _).alloc _).trans (But.of_below B1)
  go_wp2_with fail
  refine (tokenAt_any l 0 _ hl (Nat.zero_le _)).mono ?_
  rintro e w2 ⟨rfl, B2⟩
  have hA : At w2 w1.heap.size l ⟨0, [], 0⟩ 0 0 := by
    refine Eq.trans (B2.block _ (by simp)) ?_
    exact heap_new rfl
  have hA2 := hA.put (tokAt l 0)
  have K2 : But w1.heap.size w w2 := (B0.alloc _).trans (But.of_below B2)
  have z2 : w1.heap.size + 1 ≤ w2.heap.size := by have := B2.size; simp at this; omega
  have hp2 : w2.heap[w.heap.size]? = some (.cells #[.pointer none] 33) := by
    rw [B2.block _ (by simp; omega)]; rw [Below.heap_alloc _ _ _ (by omega)]; exact hp1
  have he2 : w2.heap[w.heap.size + 1]? = some (.cells #[.nilIface] 35) := by
    rw [B2.block _ (by simp; omega)]; rw [Below.heap_alloc _ _ _ (by omega)]; exact he1
  obtain ⟨d0, d1, d2, d3, d4, d5⟩ := hA.cells
  have hf2 := hA.frozen
  go_wp2_with fail
  have K3 := ((K2.setCell (p := ⟨w1.heap.size, 1, none⟩) (Or.inr rfl) (.int .i64 (tokAt l 0).kind)).setCell (p := ⟨w1.heap.size, 2, none⟩) (Or.inr rfl) (.string ⟨(tokAt l 0).txt.toArray⟩)).setCell (p := ⟨w1.heap.size, 3, none⟩) (Or.inr rfl) (.int .i64 (tokAt l 0).pos)
  have L3 := (((But.refl w1.heap.size w2).setCell (p := ⟨w1.heap.size, 1, none⟩) (Or.inr rfl) (.int .i64 (tokAt l 0).kind)).setCell (p := ⟨w1.heap.size, 2, none⟩) (Or.inr rfl) (.string ⟨(tokAt l 0).txt.toArray⟩)).setCell (p := ⟨w1.heap.size, 3, none⟩) (Or.inr rfl) (.int .i64 (tokAt l 0).pos)
  generalize (((w2.setCell ⟨w1.heap.size, 1, none⟩ (.int .i64 (tokAt l 0).kind)).setCell ⟨w1.heap.size, 2, none⟩ (.string ⟨(tokAt l 0).txt.toArray⟩)).setCell ⟨w1.heap.size, 3, none⟩ (.int .i64 (tokAt l 0).pos)) = w3 at *
  have hsl : 10 < w.heap.size := cell_lt hs
  have hdl : 1 < w.heap.size := cell_lt hd
  have hR : Rw w3 w1.heap.size l (tokAt l 0) 0 0 X Y := ⟨hA2, K3.cell hs (by omega), K3.cell hd (by omega), by omega, by omega, hl, 0, Nat.zero_le _, rfl⟩
  have hp3 : w3.heap[w.heap.size]? = some (.cells #[.pointer none] 33) := (L3.block _ (by omega) (by omega)).trans hp2
  have he3 : w3.heap[w.heap.size + 1]? = some (.cells #[.nilIface] 35) := (L3.block _ (by omega) (by omega)).trans he2
  have z3 := L3.size
  have HP := policy_any hR
  rw [show policyS l (tokAt l 0) = r from HR] at HP
  refine HP.mono ?_
  clear HP
  rcases r with ⟨q, p⟩ | ⟨x, t'⟩
  · rintro e w4 ⟨f, rfl, hF, hfz, K4⟩
    have hp4 : w4.heap[w.heap.size]? = some (.cells #[.pointer none] 33) := (K4.block _ (by omega) (by omega)).trans hp3
    have he4 : w4.heap[w.heap.size + 1]? = some (.cells #[.nilIface] 35) := (K4.block _ (by omega) (by omega)).trans he3
    have cp : w4.cell? ⟨w.heap.size, 0, none⟩ = some (.pointer none) := by simp [World.cell?, hp4]
    have ce : w4.cell? ⟨w.heap.size + 1, 0, none⟩ = some .nilIface := by simp [World.cell?, he4]
    have fp : w4.frozen? ⟨w.heap.size, 0, none⟩ = false := by simp [World.frozen?, hp4]
    have fe : w4.frozen? ⟨w.heap.size + 1, 0, none⟩ = false := by simp [World.frozen?, he4]
    go_wp2_with fail
    refine leaves_cons (f := 14) (args := #[.pointer (some ⟨w.heap.size, 0, none⟩), .pointer (some ⟨w.heap.size + 1, 0, none⟩)]) (by simp) (by simp [go_sem]) ?_
    refine (clos_fault w.heap.size (w.heap.size + 1) f _ cp ce fp fe (by omega)).mono ?_
    rintro e u' w5 ⟨rfl, rfl, hw5⟩
    have hp5 : w5.heap[w.heap.size]? = some (.cells #[.pointer none] 33) := by
      rw [hw5, Below.heap_setCell _ _ _ _ (by simp), heap_setCell_same _ _ _ _ _ _ hp4]; rfl
    have he5 : w5.heap[w.heap.size + 1]? = some (.cells #[.iface 42 (.pointer (some ⟨f, 0, none⟩))] 35) := by
      rw [hw5, heap_setCell_same _ _ _ _ _ _ (Eq.trans (Below.heap_setCell _ _ _ _ (by simp)) he4)]; rfl
    have hF5 : w5.heap[f]? = some (.cells #[.iface 143 (if q then Y else X), .int .i64 p] 44) := by
      rw [hw5, Below.heap_setCell _ _ _ _ (by simp; omega), Below.heap_setCell _ _ _ _ (by simp; omega)]; exact hF
    have K5 : But w1.heap.size w w5 := by
      rw [hw5]; exact ((K3.trans K4).setCell (Or.inl (Nat.le_refl _)) _).setCell (Or.inl (Nat.le_succ _)) _
    have cp5 : w5.cell? ⟨w.heap.size, 0, none⟩ = some (.pointer none) := by simp [World.cell?, hp5]
    have ce5 : w5.cell? ⟨w.heap.size + 1, 0, none⟩ = some (.iface 42 (.pointer (some ⟨f, 0, none⟩))) := by simp [World.cell?, he5]
    clear hw5
    simp [Leaves, settle, results, Tryd.results10, go_sem, cp5, ce5]
    exact ⟨f, rfl, K5.below (by omega), by have := K3.size; omega, hF5⟩
  · rintro e w4 ⟨vd, vr, rows, rfl, hB, hP, hod, hou, hrel⟩
    have hp4 : w4.heap[w.heap.size]? = some (.cells #[.pointer none] 33) := (hB.k.block _ (by omega) (by omega)).trans hp3
    have he4 : w4.heap[w.heap.size + 1]? = some (.cells #[.nilIface] 35) := (hB.k.block _ (by omega) (by omega)).trans he3
    have cp : w4.cell? ⟨w.heap.size, 0, none⟩ = some (.pointer none) := by simp [World.cell?, hp4]
    have ce : w4.cell? ⟨w.heap.size + 1, 0, none⟩ = some .nilIface := by simp [World.cell?, he4]
    have fp : w4.frozen? ⟨w.heap.size, 0, none⟩ = false := by simp [World.frozen?, hp4]
    have fe : w4.frozen? ⟨w.heap.size + 1, 0, none⟩ = false := by simp [World.frozen?, he4]
    go_wp2_with fail
    have hp5 := Eq.trans (Below.heap_setCell (w4.setCell ⟨w.heap.size, 0, none⟩ (ptr w3.heap.size)) ⟨w.heap.size + 1, 0, none⟩ .nilIface w.heap.size (by simp)) (heap_setCell_same w4 w.heap.size 0 (ptr w3.heap.size) _ _ hp4)
    have he5 := heap_setCell_same (w4.setCell ⟨w.heap.size, 0, none⟩ (ptr w3.heap.size)) (w.heap.size + 1) 0 .nilIface _ _ (Eq.trans (Below.heap_setCell _ _ _ _ (by simp)) he4)
    have U5 : ∀ g, w3.heap.size ≤ g → ((w4.setCell ⟨w.heap.size, 0, none⟩ (ptr w3.heap.size)).setCell ⟨w.heap.size + 1, 0, none⟩ .nilIface).heap[g]? = w4.heap[g]? := fun g hg => by
      rw [Below.heap_setCell _ _ _ _ (by simp; omega), Below.heap_setCell _ _ _ _ (by simp; omega)]
    have K5 : But w1.heap.size w ((w4.setCell ⟨w.heap.size, 0, none⟩ (ptr w3.heap.size)).setCell ⟨w.heap.size + 1, 0, none⟩ .nilIface) := ((K3.trans hB.k).setCell (Or.inl (Nat.le_refl _)) _).setCell (Or.inl (Nat.le_succ _)) _
    have hod5 := ownsRow_moveB (w' := (w4.setCell ⟨w.heap.size, 0, none⟩ (ptr w3.heap.size)).setCell ⟨w.heap.size + 1, 0, none⟩ .nilIface) hod (fun g hg _ => U5 g (by have := (hod.lt g hg).1; omega))
    have hou5 := ownsRow_moveB (w' := (w4.setCell ⟨w.heap.size, 0, none⟩ (ptr w3.heap.size)).setCell ⟨w.heap.size + 1, 0, none⟩ .nilIface) hou (fun g hg _ => U5 g (by have := (hou.lt g hg).1; omega))
    have hrel5 : RelU (SlR 8 ((w4.setCell ⟨w.heap.size, 0, none⟩ (ptr w3.heap.size)).setCell ⟨w.heap.size + 1, 0, none⟩ .nilIface) (fun g => w3.heap.size + 1 ≤ g)) rows x.2 := RelU.mono (fun v x h => SlR.move 8 (fun g hg _ => U5 g (by omega)) v x h) _ _ hrel
    have hP5 := (U5 w3.heap.size (Nat.le_refl _)).trans hP
    change bodyPostD _ _ _ _ _ ((w4.setCell ⟨w.heap.size, 0, none⟩ (ptr w3.heap.size)).setCell ⟨w.heap.size + 1, 0, none⟩ .nilIface)
    generalize ((w4.setCell ⟨w.heap.size, 0, none⟩ (ptr w3.heap.size)).setCell ⟨w.heap.size + 1, 0, none⟩ .nilIface) = w5 at *
    have cp5 : w5.cell? ⟨w.heap.size, 0, none⟩ = some (ptr w3.heap.size) := by simp [World.cell?, hp5]
    have ce5 : w5.cell? ⟨w.heap.size + 1, 0, none⟩ = some .nilIface := by simp [World.cell?, he5]
    refine leaves_cons (f := 14) (args := #[.pointer (some ⟨w.heap.size, 0, none⟩), .pointer (some ⟨w.heap.size + 1, 0, none⟩)]) (by simp) (by simp [go_sem]) ?_
    refine (clos_idle _ _).mono ?_
    rintro e u' w'' ⟨rfl, rfl, rfl⟩
    simp [Leaves, settle, results, Tryd.results10, go_sem, cp5, ce5]
    exact ⟨w3.heap.size, vd, vr, rows, rfl, K5.below (by omega), K3.size, hP5, hod5, hou5, hrel5⟩
end Go.Proofs.YtippenbbibfmdabDoor
