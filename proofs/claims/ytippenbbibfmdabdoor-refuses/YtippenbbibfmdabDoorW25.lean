import Derived.Test.YtippenbbibfmdabDoorW24
namespace Go.Proofs.YtippenbbibfmdabDoor
open Go.RowKit

def Ck.cond (s : Ck) (x : Cd) : Ck := if x.word = [60] then (s.value x.left).value x.right else s.use x.queue 0

/-- The names of a value, of a condition are no longer than a text. -/
def Cd.small (x : Cd) : Prop := x.queue.1.length ≤ 700 ∧ x.left.name.1.length ≤ 700 ∧ x.right.name.1.length ≤ 700

theorem CkAt.in {w : World} {lo c nb rb : Nat} {E : Nat → Value} {s : Ck} (h : CkAt w lo c nb rb E s) : c < w.heap.size ∧ nb < w.heap.size ∧ rb < w.heap.size := by
  obtain ⟨v, hc, _⟩ := h.cell
  obtain ⟨n, _, hr⟩ := h.rules
  exact ⟨(Array.getElem?_eq_some_iff.1 hc).1, h.names.lt, hr.lt⟩

set_option maxRecDepth 20000 in
theorem ccond_any {w : World} {lo c nb rb : Nat} {E : Nat → Value} {s : Ck} (h : CkAt w lo c nb rb E s) (x : Cd) (hn : x.small) :
    Calls Tryd.prog 58 #[ptr c, cdV x] w fun e w' => OutC w lo c nb rb E (s.cond x) e w' := by
  have h1 := h.box (.cells (cdA x) 134)
  have B1 : Kp c nb rb w (w.alloc (.cells (cdA x) 134)) := (Kp.refl c nb rb w).alloc _
  have hin := h.in
  generalize hs : s.cond x = s'
  have HS : Hid (s.cond x = s') := hs
  clear hs
  by_cases hw : x.word = [60]
  · have e1 : s' = (s.value x.left).value x.right := by rw [← HS.out]; simp [Ck.cond, hw]
    clear HS
    subst e1
    have a1 : (x.word == [60]) = true := by simp [hw]
    clear hw
    go_enter Tryd.func58, Tryd.ntmps58
    go_wp2_with fail
    refine (cvalue_any h1 x.left hn.2.1).mono ?_
    rintro e w2 ⟨rfl, h2, K2⟩
    have hb : w2.heap[w.heap.size]? = some (.cells (cdA x) 134) := (K2.block _ (by simp) (by omega) (by omega) (by omega)).trans (heap_new rfl)
    have q9 : w2.cell? ⟨w.heap.size, 9, none⟩ = some (.int .i64 x.right.kind) := by simp [World.cell?, hb]
    have q10 : w2.cell? ⟨w.heap.size, 10, none⟩ = some (S x.right.name.1) := by simp [World.cell?, hb, S]
    have q11 : w2.cell? ⟨w.heap.size, 11, none⟩ = some (.int .i64 x.right.name.2) := by simp [World.cell?, hb]
    have q12 : w2.cell? ⟨w.heap.size, 12, none⟩ = some (.int .i64 x.right.num.1) := by simp [World.cell?, hb]
    have q13 : w2.cell? ⟨w.heap.size, 13, none⟩ = some (.int .i64 x.right.num.2) := by simp [World.cell?, hb]
    go_wp2_with fail
    refine (cvalue_any h2 x.right hn.2.2).mono ?_
    rintro e w3 ⟨rfl, h3, K3⟩
    go_wp2_with fail
    exact end0 rfl rfl ⟨rfl, h3, (B1.trans K2).trans K3⟩
  · have e1 : s' = s.use x.queue 0 := by rw [← HS.out]; simp [Ck.cond, hw]
    clear HS
    subst e1
    have a1 : (x.word == [60]) = false := by simp [hw]
    clear hw
    go_enter Tryd.func58, Tryd.ntmps58
    go_wp2_with fail
    refine (cuse_any h1 x.queue 0 hn.1).mono ?_
    rintro e w2 ⟨rfl, h2, K2⟩
    go_wp2_with fail
    exact ret0 rfl rfl ⟨rfl, h2, B1.trans K2⟩
end Go.Proofs.YtippenbbibfmdabDoor
