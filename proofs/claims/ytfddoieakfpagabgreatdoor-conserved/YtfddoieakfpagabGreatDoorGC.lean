import Derived.Maps.OwnSet
import Derived.StringKeys
import Derived.Deep.MidRow
import Derived.Carry
import Derived.Test.YtfddoieakfpagabGreatDoorGB
import Derived.Test.YtfddoieakfpagabGreatDoorShelf
namespace Go.Proofs.YtfddoieakfpagabGreatDoor
set_option maxHeartbeats 2000000
set_option maxRecDepth 20000
open Go.RowKit
theorem clone_any (l : List UInt8) (w : World) (hl : l.length <= 700) :
  Calls Tryz.prog 58 #[S l] w fun e w' => e = .returned (S l) /\ Below w.heap.size w w' := by
 go_enter Tryz.func58, Tryz.ntmps58
 go_wp2_with (go_at_call 80; refine (Tryz.stringslite_Clone _ _ (by simp [ByteArray.size]; omega)).mono ?_; rintro e w' ⟨rfl, hb⟩)
 go_ret
 exact ⟨rfl, hb⟩
theorem cell_lt {w : World} {k o : Nat} {v : Value} (hc : w.cell? ⟨k, o, none⟩ = some v) : k < w.heap.size := by
 by_cases e : k < w.heap.size
 ·exact e
 ·exfalso; unfold World.cell? at hc; simp [Array.getElem?_eq_none (Nat.le_of_not_lt e)] at hc
theorem But.below {b : Nat} {w w' : World} (h : But b w w') (hb : w.heap.size <= b) : Below w.heap.size w w' :=
 ⟨h.os, h.tape, h.output, h.size, fun k hk => h.block k hk (by omega)⟩
def OutR (w : World) (X Y : Value) (r : PR (List Dc × List (Nat × NP × BT 8))) (e : Ending) (w' : World) : Prop :=
 match r with
 | .ok (x, _) => ∃ n vd vr rows, e = .returned (.tuple #[ptr n, .nilIface]) /\ Below w.heap.size w w' /\ w.heap.size <= n /\ w'.heap[n]? = some (.cells #[vd, vr] 114) /\ w'.ownsRow (n + 1) 120 6 vd x.1.length (flatD x.1) /\ w'.ownsRow (n + 1) 161 4 vr rows.length (flatU rows) /\ RelU (SlR 8 w' (fun g => n + 1 <= g)) rows x.2
 | .error (q, p) => ∃ f, e = .returned (.tuple #[.pointer none, .iface 96 (.pointer (some ⟨f, 0, none⟩))]) /\ Below w.heap.size w w' /\ w.heap.size <= f /\ w'.heap[f]? = some (.cells #[.iface 278 (if q then Y else X), .int .i64 p] 98)
theorem parse_any (l : List UInt8) (w : World) (X Y : Value) (hl : l.length <= 700) (hs : w.cell? ⟨13, 0, none⟩ = some (.iface 278 X)) (hd : w.cell? ⟨2, 0, none⟩ = some (.iface 278 Y)) :
  Calls Tryz.prog 41 #[S l] w fun e w' => OutR w X Y (policyS l (tokAt l 0)) e w' := by
 have hmf : ∀ (fn : Fn) (first cap : Array Value) (w : World), (Instr.makeFunc fn first cap).run Tryz.prog w = .ok (.func fn first cap) w := fun _ _ _ _ => rfl
 generalize hr : policyS l (tokAt l 0) = r
 have HR : Hid (policyS l (tokAt l 0) = r) := hr
 clear hr
 go_enter_defers Tryz.func41, Tryz.ntmps41
 go_wp2_with fail
 refine (clone_any l _ hl).mono ?_
 rintro e w1 ⟨rfl, B1⟩
 have z1 : w.heap.size + 1 < w1.heap.size := by have := B1.size; simp at this; omega
 have hp1 : w1.heap[w.heap.size]? = some (.cells #[.pointer none] 69) := by
  rw [B1.block _ (by simp; omega)]; rw [Below.heap_alloc _ _ _ (by simp)]; exact heap_new rfl
 have he1 : w1.heap[w.heap.size + 1]? = some (.cells #[.nilIface] 67) := by
  rw [B1.block _ (by simp)]; exact heap_new (by simp)
 have B0 : But w1.heap.size w w1 := (((But.refl _ w).alloc _).alloc _).trans (But.of_below B1)
 go_wp2_with fail
 refine (tokenAt_any l 0 _ hl (Nat.zero_le _)).mono ?_
 rintro e w2 ⟨rfl, B2⟩
 have hA : At w2 w1.heap.size l ⟨0, [], 0⟩ 0 0 := by
  refine Eq.trans (B2.block _ (by simp)) ?_
  exact heap_new rfl
 have hA2 := hA.put (tokAt l 0)
 have K2 : But w1.heap.size w w2 := (B0.alloc _).trans (But.of_below B2)
 have z2 : w1.heap.size + 1 <= w2.heap.size := by have := B2.size; simp at this; omega
 have hp2 : w2.heap[w.heap.size]? = some (.cells #[.pointer none] 69) := by
  rw [B2.block _ (by simp; omega)]; rw [Below.heap_alloc _ _ _ (by omega)]; exact hp1
 have he2 : w2.heap[w.heap.size + 1]? = some (.cells #[.nilIface] 67) := by
  rw [B2.block _ (by simp; omega)]; rw [Below.heap_alloc _ _ _ (by omega)]; exact he1
 obtain ⟨d0, d1, d2, d3, d4, d5⟩ := hA.cells
 have hf2 := hA.frozen
 go_wp2_with fail
 have K3 := ((K2.setCell (p := ⟨w1.heap.size, 1, none⟩) (Or.inr rfl) (.int .i64 (tokAt l 0).kind)).setCell (p := ⟨w1.heap.size, 2, none⟩) (Or.inr rfl) (.string ⟨(tokAt l 0).txt.toArray⟩)).setCell (p := ⟨w1.heap.size, 3, none⟩) (Or.inr rfl) (.int .i64 (tokAt l 0).pos)
 have L3 := (((But.refl w1.heap.size w2).setCell (p := ⟨w1.heap.size, 1, none⟩) (Or.inr rfl) (.int .i64 (tokAt l 0).kind)).setCell (p := ⟨w1.heap.size, 2, none⟩) (Or.inr rfl) (.string ⟨(tokAt l 0).txt.toArray⟩)).setCell (p := ⟨w1.heap.size, 3, none⟩) (Or.inr rfl) (.int .i64 (tokAt l 0).pos)
 generalize (((w2.setCell ⟨w1.heap.size, 1, none⟩ (.int .i64 (tokAt l 0).kind)).setCell ⟨w1.heap.size, 2, none⟩ (.string ⟨(tokAt l 0).txt.toArray⟩)).setCell ⟨w1.heap.size, 3, none⟩ (.int .i64 (tokAt l 0).pos)) = w3 at *
 have hsl : 13 < w.heap.size := cell_lt hs
 have hdl : 2 < w.heap.size := cell_lt hd
 have hR : Rw w3 w1.heap.size l (tokAt l 0) 0 0 X Y := ⟨hA2, K3.cell hs (by omega), K3.cell hd (by omega), by omega, by omega, hl, 0, Nat.zero_le _, rfl⟩
 have hp3 : w3.heap[w.heap.size]? = some (.cells #[.pointer none] 69) := (L3.block _ (by omega) (by omega)).trans hp2
 have he3 : w3.heap[w.heap.size + 1]? = some (.cells #[.nilIface] 67) := (L3.block _ (by omega) (by omega)).trans he2
 have z3 := L3.size
 have HP := policy_any hR
 rw [show policyS l (tokAt l 0) = r from HR] at HP
 refine HP.mono ?_
 clear HP
 rcases r with ⟨q, p⟩ | ⟨x, t'⟩
 ·rintro e w4 ⟨f, rfl, hF, hfz, K4⟩
  have hp4 : w4.heap[w.heap.size]? = some (.cells #[.pointer none] 69) := (K4.block _ (by omega) (by omega)).trans hp3
  have he4 : w4.heap[w.heap.size + 1]? = some (.cells #[.nilIface] 67) := (K4.block _ (by omega) (by omega)).trans he3
  have cp : w4.cell? ⟨w.heap.size, 0, none⟩ = some (.pointer none) := by simp [World.cell?, hp4]
  have ce : w4.cell? ⟨w.heap.size + 1, 0, none⟩ = some .nilIface := by simp [World.cell?, he4]
  have fp : w4.frozen? ⟨w.heap.size, 0, none⟩ = false := by simp [World.frozen?, hp4]
  have fe : w4.frozen? ⟨w.heap.size + 1, 0, none⟩ = false := by simp [World.frozen?, he4]
  go_wp2_with fail
  refine leaves_cons (f := 57) (args := #[.pointer (some ⟨w.heap.size, 0, none⟩), .pointer (some ⟨w.heap.size + 1, 0, none⟩)]) (by simp) (by simp [go_sem]) ?_
  refine (clos_fault w.heap.size (w.heap.size + 1) f _ cp ce fp fe (by omega)).mono ?_
  rintro e u' w5 ⟨rfl, rfl, hw5⟩
  have hp5 : w5.heap[w.heap.size]? = some (.cells #[.pointer none] 69) := by
   rw [hw5, Below.heap_setCell _ _ _ _ (by simp), heap_setCell_same _ _ _ _ _ _ hp4]; rfl
  have he5 : w5.heap[w.heap.size + 1]? = some (.cells #[.iface 96 (.pointer (some ⟨f, 0, none⟩))] 67) := by
   rw [hw5, heap_setCell_same _ _ _ _ _ _ (Eq.trans (Below.heap_setCell _ _ _ _ (by simp)) he4)]; rfl
  have hF5 : w5.heap[f]? = some (.cells #[.iface 278 (if q then Y else X), .int .i64 p] 98) := by
   rw [hw5, Below.heap_setCell _ _ _ _ (by simp; omega), Below.heap_setCell _ _ _ _ (by simp; omega)]; exact hF
  have K5 : But w1.heap.size w w5 := by
   rw [hw5]; exact ((K3.trans K4).setCell (Or.inl (Nat.le_refl _)) _).setCell (Or.inl (Nat.le_succ _)) _
  have cp5 : w5.cell? ⟨w.heap.size, 0, none⟩ = some (.pointer none) := by simp [World.cell?, hp5]
  have ce5 : w5.cell? ⟨w.heap.size + 1, 0, none⟩ = some (.iface 96 (.pointer (some ⟨f, 0, none⟩))) := by simp [World.cell?, he5]
  clear hw5
  simp [Leaves, settle, results, Tryz.results41, go_sem, cp5, ce5]
  exact ⟨f, rfl, K5.below (by omega), by have := K3.size; omega, hF5⟩
 ·rintro e w4 ⟨vd, vr, rows, rfl, hB, hP, hod, hou, hrel⟩
  have hp4 : w4.heap[w.heap.size]? = some (.cells #[.pointer none] 69) := (hB.k.block _ (by omega) (by omega)).trans hp3
  have he4 : w4.heap[w.heap.size + 1]? = some (.cells #[.nilIface] 67) := (hB.k.block _ (by omega) (by omega)).trans he3
  have cp : w4.cell? ⟨w.heap.size, 0, none⟩ = some (.pointer none) := by simp [World.cell?, hp4]
  have ce : w4.cell? ⟨w.heap.size + 1, 0, none⟩ = some .nilIface := by simp [World.cell?, he4]
  have fp : w4.frozen? ⟨w.heap.size, 0, none⟩ = false := by simp [World.frozen?, hp4]
  have fe : w4.frozen? ⟨w.heap.size + 1, 0, none⟩ = false := by simp [World.frozen?, he4]
  go_wp2_with fail
  have hp5 := Eq.trans (Below.heap_setCell (w4.setCell ⟨w.heap.size, 0, none⟩ (ptr w3.heap.size)) ⟨w.heap.size + 1, 0, none⟩ .nilIface w.heap.size (by simp)) (heap_setCell_same w4 w.heap.size 0 (ptr w3.heap.size) _ _ hp4)
  have he5 := heap_setCell_same (w4.setCell ⟨w.heap.size, 0, none⟩ (ptr w3.heap.size)) (w.heap.size + 1) 0 .nilIface _ _ (Eq.trans (Below.heap_setCell _ _ _ _ (by simp)) he4)
  have U5 : ∀ g, w3.heap.size <= g -> ((w4.setCell ⟨w.heap.size, 0, none⟩ (ptr w3.heap.size)).setCell ⟨w.heap.size + 1, 0, none⟩ .nilIface).heap[g]? = w4.heap[g]? := fun g hg => by
   rw [Below.heap_setCell _ _ _ _ (by simp; omega), Below.heap_setCell _ _ _ _ (by simp; omega)]
  have K5 : But w1.heap.size w ((w4.setCell ⟨w.heap.size, 0, none⟩ (ptr w3.heap.size)).setCell ⟨w.heap.size + 1, 0, none⟩ .nilIface) := ((K3.trans hB.k).setCell (Or.inl (Nat.le_refl _)) _).setCell (Or.inl (Nat.le_succ _)) _
  have hod5 := ownsRow_moveB (w' := (w4.setCell ⟨w.heap.size, 0, none⟩ (ptr w3.heap.size)).setCell ⟨w.heap.size + 1, 0, none⟩ .nilIface) hod (fun g hg _ => U5 g (by have := (hod.lt g hg).1; omega))
  have hou5 := ownsRow_moveB (w' := (w4.setCell ⟨w.heap.size, 0, none⟩ (ptr w3.heap.size)).setCell ⟨w.heap.size + 1, 0, none⟩ .nilIface) hou (fun g hg _ => U5 g (by have := (hou.lt g hg).1; omega))
  have hrel5 : RelU (SlR 8 ((w4.setCell ⟨w.heap.size, 0, none⟩ (ptr w3.heap.size)).setCell ⟨w.heap.size + 1, 0, none⟩ .nilIface) (fun g => w3.heap.size + 1 <= g)) rows x.2 := RelU.mono (fun v x h => SlR.move 8 (fun g hg _ => U5 g (by omega)) v x h) _ _ hrel
  have hP5 := (U5 w3.heap.size (Nat.le_refl _)).trans hP
  change bodyPostD _ _ _ _ _ ((w4.setCell ⟨w.heap.size, 0, none⟩ (ptr w3.heap.size)).setCell ⟨w.heap.size + 1, 0, none⟩ .nilIface)
  generalize ((w4.setCell ⟨w.heap.size, 0, none⟩ (ptr w3.heap.size)).setCell ⟨w.heap.size + 1, 0, none⟩ .nilIface) = w5 at *
  have cp5 : w5.cell? ⟨w.heap.size, 0, none⟩ = some (ptr w3.heap.size) := by simp [World.cell?, hp5]
  have ce5 : w5.cell? ⟨w.heap.size + 1, 0, none⟩ = some .nilIface := by simp [World.cell?, he5]
  refine leaves_cons (f := 57) (args := #[.pointer (some ⟨w.heap.size, 0, none⟩), .pointer (some ⟨w.heap.size + 1, 0, none⟩)]) (by simp) (by simp [go_sem]) ?_
  refine (clos_idle _ _).mono ?_
  rintro e u' w'' ⟨rfl, rfl, rfl⟩
  simp [Leaves, settle, results, Tryz.results41, go_sem, cp5, ce5]
  exact ⟨w3.heap.size, vd, vr, rows, rfl, K5.below (by omega), K3.size, hP5, hod5, hou5, hrel5⟩
section
open Go.RowKit Go.ChangeMaps Go.MapKept Go.WideShapes
theorem k9 : Maps.Keyed Tryz.prog 9 := Maps.string_keyed (by kernel_rfl)
theorem u80 : Tryz.prog.underlying 154 = some (.map 9 214) := by kernel_rfl
theorem u81 : Tryz.prog.underlying 155 = some (.map 9 3) := by kernel_rfl
theorem u121 : Tryz.prog.underlying 214 = some (.int .i64) := by kernel_rfl
theorem u3 : Tryz.prog.underlying 3 = some (.int .i64) := by kernel_rfl
theorem z121 (w : World) : (zeroValue 214).run Tryz.prog w = .ok (.int .i64 0) w := by kernel_rfl
theorem z3 (w : World) : (zeroValue 3).run Tryz.prog w = .ok (.int .i64 0) w := by kernel_rfl
def look (k : List UInt8) : List (List UInt8 × Nat) -> Option Nat
 | [] => none
 | p :: r => if p.1 = k then some p.2 else look k r
theorem look_cons (k x : List UInt8) (v : Nat) (m : List (List UInt8 × Nat)) : look k ((x, v) :: m) = if x = k then some v else look k m := rfl
def MapR (w : World) (e : TypeId) (b c : Nat) (m : List (List UInt8 × Nat)) : Prop :=
 ∃ D : DataW Unit, w.ownsMap Tryz.prog 9 (plainElem Tryz.prog e) b c D /\
  (∀ k, Maps.has D (.string k) = (look k m).isSome) /\ (∀ k, D.atKey (.string k) (.lit (.int .i64 0)) = .lit (.int .i64 (((look k m).getD 0 : Nat) : Int))) /\
  Maps.size D = c
theorem tight {w : World} {P : Program} {k : TypeId} {R : Value -> Option (DataW Unit × List MemPlace)} {b n : Nat} {D : DataW Unit} (h : w.ownsMap P k R b n D) : w.ownsMap P k R b (Maps.size D) D := by
 obtain ⟨es, clock, hb, F, hs, rfl⟩ := h
 exact ⟨es, clock, hb, F, by simp [Maps.size, length_sorted], rfl⟩
theorem MapR.made (w : World) (e : TypeId) : MapR (w.alloc (.map #[] 0)) e w.heap.size 0 [] :=
 ⟨.map [], World.ownsMap_made w _ _ _, fun _ => rfl, fun _ => rfl, rfl⟩
theorem MapR.lt {w : World} {e : TypeId} {b c : Nat} {m : List (List UInt8 × Nat)} (h : MapR w e b c m) : b < w.heap.size := by
 obtain ⟨D, h, _⟩ := h
 exact h.lt
theorem MapR.move {w w' : World} {e : TypeId} {b c : Nat} {m : List (List UInt8 × Nat)} (h : MapR w e b c m) (hb : w'.heap[b]? = w.heap[b]?) : MapR w' e b c m := by
 obtain ⟨D, ⟨es, clock, h1, h2⟩, h3⟩ := h
 exact ⟨D, ⟨es, clock, hb.trans h1, h2⟩, h3⟩
theorem key_S (k : List UInt8) (hk : k.length <= 700) : keyOf Tryz.prog 9 (S k) = some (.string k) := by
 have := Go.WideMaps.keyOf_string_mk (P := Tryz.prog) (k := 9) (by kernel_rfl) (s := ⟨k.toArray⟩) (by simp [ByteArray.size, maxLen]; omega)
 simpa [S] using this
theorem MapR.get_ok {w : World} {t e : TypeId} {b c : Nat} {m : List (List UInt8 × Nat)} (h : MapR w e b c m) (ht : Tryz.prog.underlying t = some (.map 9 e)) (he : Tryz.prog.underlying e = some (.int .i64)) (hz : (zeroValue e).run Tryz.prog w = .ok (.int .i64 0) w) (k : List UInt8) (hk : k.length <= 700) :
  (Instr.lookup t (.map (some b)) (S k) true).run Tryz.prog w = .ok (.tuple #[.int .i64 (((look k m).getD 0 : Nat) : Int), .bool (look k m).isSome]) w := by
 obtain ⟨D, ho, h1, h2, _⟩ := h
 obtain ⟨v, ps, hrun, hv⟩ := ho.look_ok k9 ht hz (plainElem_int he (by decide)) (key_S k hk)
 obtain ⟨a, rfl, hc, _⟩ := plainElem_int_inv he hv
 rw [hrun, h1]
 rw [h2] at hc
 simp at hc
 rw [<- hc.1]
theorem MapR.get {w : World} {t e : TypeId} {b c : Nat} {m : List (List UInt8 × Nat)} (h : MapR w e b c m) (ht : Tryz.prog.underlying t = some (.map 9 e)) (he : Tryz.prog.underlying e = some (.int .i64)) (hz : (zeroValue e).run Tryz.prog w = .ok (.int .i64 0) w) (k : List UInt8) (hk : k.length <= 700) :
  (Instr.lookup t (.map (some b)) (S k) false).run Tryz.prog w = .ok (.int .i64 (((look k m).getD 0 : Nat) : Int)) w := by
 obtain ⟨D, ho, h1, h2, _⟩ := h
 obtain ⟨a, hrun, hat, _⟩ := ho.lookup_int k9 ht he hz (key_S k hk)
 rw [hrun]
 rw [h2] at hat
 simp at hat
 rw [<- hat]
theorem MapR.put {w : World} {t e : TypeId} {b c : Nat} {m : List (List UInt8 × Nat)} (h : MapR w e b c m) (ht : Tryz.prog.underlying t = some (.map 9 e)) (he : Tryz.prog.underlying e = some (.int .i64)) (hc : c <= 3000) (k : List UInt8) (hk : k.length <= 700) (v : Nat) (hv : v <= 3000) :
  ∃ w', (Instr.mapUpdate t (.map (some b)) (S k) (.int .i64 v)).run Tryz.prog w = .ok () w' /\ MapR w' e b (if (look k m).isSome then c else c + 1) ((k, v) :: m) /\ w.grownBy w' (some b) /\ w'.heap.size = w.heap.size := by
 obtain ⟨D, ho, h1, h2, h3⟩ := h
 obtain ⟨w', hrun, ho', ht'⟩ := ho.store k9 ht (by simp [maxLen]; omega) (key_S k hk) (plainElem_int (H := Unit) he (a := (v : Int)) (by simp [Lit.wf, IntKind.min, IntKind.max, IntKind.bits, IntKind.signed]; omega))
 refine ⟨w', hrun, ⟨D.put (.string k) (.lit (.int .i64 v)), ?_, ?_, ?_, ?_⟩, ht'.grown, ?_⟩
 ·have := tight ho'
  rw [Maps.size_put (ho.tidy k9), h1, h3] at this
  exact this
 ·intro x
  rw [look_cons]
  by_cases e : k = x
  ·subst e; rw [Maps.has_put_same (k := .string k) ho.isMap trivial]; simp
  ·rw [Maps.has_put_other (by simpa using fun h => e h.symm), h1, if_neg e]
 ·intro x
  rw [look_cons]
  by_cases e : k = x
  ·subst e; rw [Maps.atKey_put_same (k := .string k) ho.isMap trivial]; simp
  ·rw [Maps.atKey_put_other (by simpa using fun h => e h.symm), h2, if_neg e]
 ·rw [Maps.size_put (ho.tidy k9), h1, h3]
 ·obtain ⟨es, clock, es', clock', hb, rfl⟩ := ht'
  simp [setBlock]
theorem MapR.len {w : World} {t e : TypeId} {b c : Nat} {m : List (List UInt8 × Nat)} (h : MapR w e b c m) (ht : Tryz.prog.underlying t = some (.map 9 e)) (ty : TypeId) : (Builtin.len_ #[t] ty #[.map (some b)]).run Tryz.prog w = .ok (.int .i64 c) w := by
 obtain ⟨D, ho, _, _, h3⟩ := h
 rw [ho.len ht ty, h3]
end
structure Ck where
 names : List (List UInt8 × Nat)
 freqs : Nat
 rules : List (List UInt8 × Nat)
 first : Option (Nat × Nat)
def Ck.fault (s : Ck) (i p : Nat) : Ck := match s.first with
 | none => { s with first := some (i, p) }
 | some _ => s
def FirstR (w : World) (lo : Nat) (E : Nat -> Value) (v : Value) : Option (Nat × Nat) -> Prop
 | none => v = .nilIface
 | some (i, p) => ∃ f, v = .iface 96 (ptr f) /\ lo <= f /\ w.heap[f]? = some (.cells #[.iface 278 (E i), .int .i64 p] 98)
structure CkAt (w : World) (lo c nb rb : Nat) (E : Nat -> Value) (s : Ck) : Prop where
 cell : ∃ v, w.heap[c]? = some (.cells #[.map (some nb), .int .i64 s.freqs, .map (some rb), v] 157) /\ FirstR w lo E v s.first
 names : MapR w 214 nb s.names.length s.names
 rules : ∃ n, n <= s.rules.length /\ MapR w 3 rb n s.rules
 gl : ∀ i, 2 < i -> i < 10 -> w.cell? ⟨i, 0, none⟩ = some (.iface 278 (E i))
 low : 10 < lo /\ lo <= c /\ lo <= nb /\ lo <= rb /\ lo <= w.heap.size
 few : s.names.length <= 8 /\ s.rules.length <= 1000 /\ s.freqs <= 1000
theorem CkAt.ne {w : World} {lo c nb rb : Nat} {E : Nat -> Value} {s : Ck} (h : CkAt w lo c nb rb E s) : c ≠ nb /\ c ≠ rb := by
 obtain ⟨v, hc, _⟩ := h.cell
 obtain ⟨D, ⟨es, k, h1, _⟩, _⟩ := h.names
 obtain ⟨n, _, D', ⟨es', k', h1', _⟩, _⟩ := h.rules
 constructor
 ·rintro rfl; rw [hc] at h1; simp at h1
 ·rintro rfl; rw [hc] at h1'; simp at h1'
theorem FirstR.move {w w' : World} {lo : Nat} {E : Nat -> Value} {v : Value} {o : Option (Nat × Nat)} (h : FirstR w lo E v o) (hb : ∀ (f : Nat) (x : Array Value), w.heap[f]? = some (Obj.cells x 98) -> w'.heap[f]? = w.heap[f]?) : FirstR w' lo E v o := by
 cases o with
 | none => exact h
 | some q =>
  obtain ⟨f, h1, h2, h3⟩ := h
  exact ⟨f, h1, h2, (hb f _ h3).trans h3⟩
theorem CkAt.grow {w w' : World} {lo c nb rb : Nat} {E : Nat -> Value} {s : Ck} (h : CkAt w lo c nb rb E s) (hb : Below w.heap.size w w') : CkAt w' lo c nb rb E s := by
 obtain ⟨v, hc, hf⟩ := h.cell
 obtain ⟨n, hn, hr⟩ := h.rules
 refine ⟨⟨v, (hb.block _ (Array.getElem?_eq_some_iff.1 hc).1).trans hc, FirstR.move hf fun f x hx => hb.block _ (Array.getElem?_eq_some_iff.1 hx).1⟩, h.names.move (hb.block _ h.names.lt), ⟨n, hn, hr.move (hb.block _ hr.lt)⟩, fun i h1 h2 => ?_, ?_, h.few⟩
 ·exact (hb.cell (p := ⟨i, 0, none⟩) (cell_lt (h.gl i h1 h2))).trans (h.gl i h1 h2)
 ·have := h.low; have := hb.size; omega
structure Kp (c nb rb : Nat) (w w' : World) : Prop where
 os : w'.os = w.os
 tape : w'.tape = w.tape
 output : w'.output = w.output
 size : w.heap.size <= w'.heap.size
 block : ∀ k, k < w.heap.size -> k ≠ c -> k ≠ nb -> k ≠ rb -> w'.heap[k]? = w.heap[k]?
theorem Kp.refl (c nb rb : Nat) (w : World) : Kp c nb rb w w := ⟨rfl, rfl, rfl, Nat.le_refl _, fun _ _ _ _ _ => rfl⟩
theorem Kp.trans {c nb rb : Nat} {x y z : World} (h : Kp c nb rb x y) (k : Kp c nb rb y z) : Kp c nb rb x z :=
 ⟨k.os.trans h.os, k.tape.trans h.tape, k.output.trans h.output, Nat.le_trans h.size k.size, fun i hi h1 h2 h3 => (k.block i (Nat.lt_of_lt_of_le hi h.size) h1 h2 h3).trans (h.block i hi h1 h2 h3)⟩
theorem Kp.drew {c nb rb : Nat} {a w : World} (h : Kp c nb rb a w) : Kp c nb rb a w.drew := ⟨h.os, h.tape, h.output, h.size, h.block⟩
theorem Kp.alloc {c nb rb : Nat} {a w : World} (h : Kp c nb rb a w) (o : Obj) : Kp c nb rb a (w.alloc o) :=
 h.trans ⟨rfl, rfl, rfl, by simp, fun k hk _ _ _ => Below.heap_alloc _ _ _ hk⟩
theorem Kp.below {c nb rb lo : Nat} {w w' : World} (h : Kp c nb rb w w') (h0 : lo <= w.heap.size) (h1 : lo <= c) (h2 : lo <= nb) (h3 : lo <= rb) : Below lo w w' :=
 ⟨h.os, h.tape, h.output, h.size, fun k hk => h.block k (by omega) (by omega) (by omega) (by omega)⟩
def OutC (w : World) (lo c nb rb : Nat) (E : Nat -> Value) (s : Ck) (e : Ending) (w' : World) : Prop :=
 e = .returned (.tuple #[]) /\ CkAt w' lo c nb rb E s /\ Kp c nb rb w w'
theorem end0 {fn : Func} {R : Ending -> World -> Prop} {a : Act} {w : World} (hr : fn.results = #[]) (hd : a.defers = []) (hR : R (.returned (.tuple #[])) w) : bodyPost Tryz.prog fn R .normal a w :=
 bodyPost_end (by simp [results, hr, go_sem]) hd hR
theorem ret0 {fn : Func} {R : Ending -> World -> Prop} {a : Act} {w : World} (hr : fn.results = #[]) (hd : a.defers = []) (hR : R (.returned (.tuple #[])) w) : bodyPost Tryz.prog fn R .ret a w :=
 bodyPost_ret (by simp [results, hr, go_sem]) hd hR
theorem cfault_any {w : World} {lo c nb rb : Nat} {E : Nat -> Value} {s : Ck} (h : CkAt w lo c nb rb E s) (i p : Nat) :
  Calls Tryz.prog 63 #[ptr c, .iface 278 (E i), .int .i64 p] w fun e w' => OutC w lo c nb rb E (s.fault i p) e w' := by
 obtain ⟨v, hc, hf⟩ := h.cell
 have c3 : w.cell? ⟨c, 3, none⟩ = some v := by simp [World.cell?, hc]
 have hlt : c < w.heap.size := (Array.getElem?_eq_some_iff.1 hc).1
 have hlow := h.low
 generalize hs : s.fault i p = s'
 have HS : Hid (s.fault i p = s') := hs
 clear hs
 cases hfs : s.first with
 | some q =>
  rw [hfs] at hf
  obtain ⟨f, rfl, hlo, hF⟩ := hf
  go_enter Tryz.func63, Tryz.ntmps63
  go_wp2
  have e1 : s' = s := by rw [<- HS.out]; simp [Ck.fault, hfs]
  subst e1
  exact end0 rfl rfl ⟨rfl, h, Kp.refl _ _ _ _⟩
 | none =>
  rw [hfs] at hf
  have hv : v = .nilIface := hf
  subst hv
  have f3 : (w.alloc (.cells #[.iface 278 (E i), .int .i64 p] 98)).frozen? ⟨c, 3, none⟩ = false := by
   have := Below.heap_alloc w (.cells #[.iface 278 (E i), .int .i64 p] 98) _ hlt
   simp [World.frozen?, this, hc]
  go_enter Tryz.func63, Tryz.ntmps63
  go_wp2
  have e1 : s' = { s with first := some (i, p) } := by rw [<- HS.out]; simp [Ck.fault, hfs]
  have hne := h.ne
  obtain ⟨n, hn, hr⟩ := h.rules
  have K : Below lo w ((w.setCell ⟨c, 3, none⟩ (.iface 96 (ptr w.heap.size))).alloc (.cells #[.iface 278 (E i), .int .i64 p] 98)) := ((Below.refl lo w).setCell hlow.2.1 _).alloc (by simp [World.setCell]; omega) _
  have B : ∀ k, k < w.heap.size -> k ≠ c -> ((w.setCell ⟨c, 3, none⟩ (.iface 96 (ptr w.heap.size))).alloc (.cells #[.iface 278 (E i), .int .i64 p] 98)).heap[k]? = w.heap[k]? := fun k h1 h2 => by
   rw [Below.heap_alloc _ _ _ (by simpa [World.setCell] using h1), Below.heap_setCell _ _ _ _ h2]
  refine end0 rfl rfl ⟨rfl, ?_, K.os, K.tape, K.output, K.size, fun k h1 h2 _ _ => B k h1 h2⟩
  subst e1
  refine ⟨⟨.iface 96 (ptr w.heap.size), ?_, w.heap.size, rfl, hlow.2.2.2.2, ?_⟩, h.names.move (B _ h.names.lt hne.1.symm), ⟨n, hn, hr.move (B _ hr.lt hne.2.symm)⟩, ?_, ?_, h.few⟩
  ·rw [Below.heap_alloc _ _ _ (by simpa [World.setCell] using hlt)]
   exact heap_setCell_same _ _ _ _ _ _ hc
  ·exact heap_new (by simp [World.setCell])
  ·intro j h1 h2
   exact (K.cell (p := ⟨j, 0, none⟩) (by simp; omega)).trans (h.gl j h1 h2)
  ·exact ⟨hlow.1, hlow.2.1, hlow.2.2.1, hlow.2.2.2.1, Nat.le_trans hlow.2.2.2.2 K.size⟩
def Ck.use (s : Ck) (n : NP) (k : Nat) : Ck := match look n.1 s.names with
 | none => s.fault 4 n.2
 | some d => if d = k then s else s.fault 5 n.2
theorem CkAt.box {w : World} {lo c nb rb : Nat} {E : Nat -> Value} {s : Ck} (h : CkAt w lo c nb rb E s) (o : Obj) : CkAt (w.alloc o) lo c nb rb E s := h.grow ((Below.refl _ _).alloc (Nat.le_refl _) _)
theorem CkAt.cells {w : World} {lo c nb rb : Nat} {E : Nat -> Value} {s : Ck} (h : CkAt w lo c nb rb E s) : w.cell? ⟨c, 0, none⟩ = some (.map (some nb)) /\ w.cell? ⟨c, 1, none⟩ = some (.int .i64 s.freqs) /\ w.cell? ⟨c, 2, none⟩ = some (.map (some rb)) /\ ∀ i, w.frozen? ⟨c, i, none⟩ = false := by
 obtain ⟨v, hc, _⟩ := h.cell
 exact ⟨by simp [World.cell?, hc], by simp [World.cell?, hc], by simp [World.cell?, hc], fun i => by simp [World.frozen?, hc]⟩
theorem CkAt.drew {w : World} {lo c nb rb : Nat} {E : Nat -> Value} {s : Ck} (h : CkAt w lo c nb rb E s) : CkAt w.drew lo c nb rb E s := ⟨h.cell, h.names, h.rules, h.gl, h.low, h.few⟩
theorem OutC.from {w0 w : World} {lo c nb rb : Nat} {E : Nat -> Value} {s : Ck} {e : Ending} {w' : World} (h : OutC w lo c nb rb E s e w') (hb : Kp c nb rb w0 w) : OutC w0 lo c nb rb E s e w' := ⟨h.1, h.2.1, hb.trans h.2.2⟩
theorem cuse_any {w : World} {lo c nb rb : Nat} {E : Nat -> Value} {s : Ck} (h : CkAt w lo c nb rb E s) (n : NP) (k : Nat) (hn : n.1.length <= 700) :
  Calls Tryz.prog 94 #[ptr c, .agg #[S n.1, .int .i64 n.2], .int .i64 k] w fun e w' => OutC w lo c nb rb E (s.use n k) e w' := by
 have h1 := (h.box (.cells #[S n.1, .int .i64 n.2] 116)).drew
 have B1 : Kp c nb rb w (w.alloc (.cells #[S n.1, .int .i64 n.2] 116)).drew := ((Kp.refl c nb rb w).alloc _).drew
 obtain ⟨c0, c1, c2, cf⟩ := h1.cells
 have hg := h1.names.get_ok u80 u121 (z121 _) n.1 hn
 have g3 := h1.gl 4 (by omega) (by omega)
 have g4 := h1.gl 5 (by omega) (by omega)
 generalize hs : s.use n k = s'
 have HS : Hid (s.use n k = s') := hs
 clear hs
 cases hl : look n.1 s.names with
 | none =>
  rw [hl] at hg
  have e1 : s' = s.fault 4 n.2 := by rw [<- HS.out]; simp [Ck.use, hl]
  clear HS
  subst e1
  go_enter Tryz.func94, Tryz.ntmps94
  go_wp2_with fail
  go_region
  all_goals go_wp2_with fail
  all_goals (refine (cfault_any h1 4 n.2).mono ?_; rintro e w' ⟨rfl, h2, h3⟩)
  all_goals go_wp2_with fail
  all_goals exact end0 rfl rfl ⟨rfl, h2, B1.trans h3⟩
 | some d =>
  rw [hl] at hg
  by_cases hd : d = k
  ·have e1 : s' = s := by rw [<- HS.out]; simp [Ck.use, hl, hd]
   clear HS
   subst e1
   subst hd
   go_enter Tryz.func94, Tryz.ntmps94
   go_wp2_with fail
   go_region
   all_goals go_wp2_with fail
   all_goals exact end0 rfl rfl ⟨rfl, h1, B1⟩
  ·have e1 : s' = s.fault 5 n.2 := by rw [<- HS.out]; simp [Ck.use, hl, hd]
   clear HS
   subst e1
   go_enter Tryz.func94, Tryz.ntmps94
   go_wp2_with fail
   go_region
   all_goals go_wp2_with fail
   all_goals (refine (cfault_any h1 5 n.2).mono ?_; rintro e w' ⟨rfl, h2, h3⟩)
   all_goals go_wp2_with fail
   all_goals exact end0 rfl rfl ⟨rfl, h2, B1.trans h3⟩
def Ck.bound (s : Ck) (v p most : Nat) : Ck := if v < 1 \/ v > most then s.fault 6 p else s
theorem cbound_any {w : World} {lo c nb rb : Nat} {E : Nat -> Value} {s : Ck} (h : CkAt w lo c nb rb E s) (v p most : Nat) :
  Calls Tryz.prog 93 #[ptr c, .agg #[.int .i64 v, .int .i64 p], .int .i64 most] w fun e w' => OutC w lo c nb rb E (s.bound v p most) e w' := by
 have h1 := (h.box (.cells #[.int .i64 v, .int .i64 p] 118))
 have B1 : Kp c nb rb w (w.alloc (.cells #[.int .i64 v, .int .i64 p] 118)) := (Kp.refl c nb rb w).alloc _
 have g5 := h1.gl 6 (by omega) (by omega)
 generalize hs : s.bound v p most = s'
 have HS : Hid (s.bound v p most = s') := hs
 clear hs
 by_cases hv : v < 1
 ·have e1 : s' = s.fault 6 p := by rw [<- HS.out]; simp [Ck.bound, hv]
  clear HS
  subst e1
  have a1 : decide ((v : Int) < 1) = true := by simpa using by omega
  go_enter Tryz.func93, Tryz.ntmps93
  go_wp2_with (refine (cfault_any h1 6 p).mono ?_; rintro e w' ⟨rfl, h2, h3⟩)
  all_goals exact end0 rfl rfl ⟨rfl, h2, B1.trans h3⟩
 ·by_cases hm : v > most
  ·have e1 : s' = s.fault 6 p := by rw [<- HS.out]; simp [Ck.bound, hv, hm]
   clear HS
   subst e1
   go_enter Tryz.func93, Tryz.ntmps93
   go_wp2_with (refine (cfault_any h1 6 p).mono ?_; rintro e w' ⟨rfl, h2, h3⟩)
   all_goals exact end0 rfl rfl ⟨rfl, h2, B1.trans h3⟩
  ·have e1 : s' = s := by rw [<- HS.out]; unfold Ck.bound; rw [if_neg (by omega)]
   clear HS
   subst e1
   go_enter Tryz.func93, Tryz.ntmps93
   go_wp2_with fail
   all_goals exact end0 rfl rfl ⟨rfl, h1, B1⟩
def Ck.value (s : Ck) (v : Vl) : Ck := if v.kind = 1 then s.use v.name 1 else if v.kind = 2 then s.use v.name 0 else s
theorem cvalue_any {w : World} {lo c nb rb : Nat} {E : Nat -> Value} {s : Ck} (h : CkAt w lo c nb rb E s) (v : Vl) (hn : v.name.1.length <= 700) :
  Calls Tryz.prog 153 #[ptr c, vlV v] w fun e w' => OutC w lo c nb rb E (s.value v) e w' := by
 have h1 := h.box (.cells #[.int .i64 v.kind, S v.name.1, .int .i64 v.name.2, .int .i64 v.num.1, .int .i64 v.num.2] 222)
 have B1 : Kp c nb rb w (w.alloc (.cells #[.int .i64 v.kind, S v.name.1, .int .i64 v.name.2, .int .i64 v.num.1, .int .i64 v.num.2] 222)) := (Kp.refl c nb rb w).alloc _
 generalize hs : s.value v = s'
 have HS : Hid (s.value v = s') := hs
 clear hs
 by_cases h7 : v.kind = 1
 ·have e1 : s' = s.use v.name 1 := by rw [<- HS.out]; simp [Ck.value, h7]
  clear HS
  subst e1
  have a1 : (v.kind : Int) = 1 := by omega
  rw [a1] at h1 B1
  go_enter Tryz.func153, Tryz.ntmps153
  go_wp2_with fail
  refine (cuse_any h1 v.name 1 hn).mono ?_
  rintro e w' ⟨rfl, h2, h3⟩
  go_wp2_with fail
  exact end0 rfl rfl ⟨rfl, h2, B1.trans h3⟩
 ·by_cases h8 : v.kind = 2
  ·have e1 : s' = s.use v.name 0 := by rw [<- HS.out]; simp [Ck.value, h8]
   clear HS
   subst e1
   have a1 : (v.kind : Int) = 2 := by omega
   rw [a1] at h1 B1
   go_enter Tryz.func153, Tryz.ntmps153
   go_wp2_with fail
   refine (cuse_any h1 v.name 0 hn).mono ?_
   rintro e w' ⟨rfl, h2, h3⟩
   go_wp2_with fail
   exact end0 rfl rfl ⟨rfl, h2, B1.trans h3⟩
  ·have e1 : s' = s := by rw [<- HS.out]; simp [Ck.value, h7, h8]
   clear HS
   subst e1
   have a1 : ¬ (v.kind : Int) = 1 := by omega
   have a2 : ¬ (v.kind : Int) = 2 := by omega
   go_enter Tryz.func153, Tryz.ntmps153
   go_wp2_with fail
   exact end0 rfl rfl ⟨rfl, h1, B1⟩
def Ck.cond (s : Ck) (x : Cd) : Ck := if x.word = [60] then (s.value x.left).value x.right else s.use x.queue 0
def Cd.small (x : Cd) : Prop := x.queue.1.length <= 700 /\ x.left.name.1.length <= 700 /\ x.right.name.1.length <= 700
theorem CkAt.in {w : World} {lo c nb rb : Nat} {E : Nat -> Value} {s : Ck} (h : CkAt w lo c nb rb E s) : c < w.heap.size /\ nb < w.heap.size /\ rb < w.heap.size := by
 obtain ⟨v, hc, _⟩ := h.cell
 obtain ⟨n, _, hr⟩ := h.rules
 exact ⟨(Array.getElem?_eq_some_iff.1 hc).1, h.names.lt, hr.lt⟩
theorem ccond_any {w : World} {lo c nb rb : Nat} {E : Nat -> Value} {s : Ck} (h : CkAt w lo c nb rb E s) (x : Cd) (hn : x.small) :
  Calls Tryz.prog 141 #[ptr c, cdV x] w fun e w' => OutC w lo c nb rb E (s.cond x) e w' := by
 have h1 := h.box (.cells (cdA x) 224)
 have B1 : Kp c nb rb w (w.alloc (.cells (cdA x) 224)) := (Kp.refl c nb rb w).alloc _
 have hin := h.in
 generalize hs : s.cond x = s'
 have HS : Hid (s.cond x = s') := hs
 clear hs
 by_cases hw : x.word = [60]
 ·have e1 : s' = (s.value x.left).value x.right := by rw [<- HS.out]; simp [Ck.cond, hw]
  clear HS
  subst e1
  have a1 : (x.word == [60]) = true := by simp [hw]
  clear hw
  go_enter Tryz.func141, Tryz.ntmps141
  go_wp2_with fail
  refine (cvalue_any h1 x.left hn.2.1).mono ?_
  rintro e w2 ⟨rfl, h2, K2⟩
  have hb : w2.heap[w.heap.size]? = some (.cells (cdA x) 224) := (K2.block _ (by simp) (by omega) (by omega) (by omega)).trans (heap_new rfl)
  have q9 : w2.cell? ⟨w.heap.size, 9, none⟩ = some (.int .i64 x.right.kind) := by simp [World.cell?, hb]
  have q10 : w2.cell? ⟨w.heap.size, 10, none⟩ = some (S x.right.name.1) := by simp [World.cell?, hb, S]
  have q11 : w2.cell? ⟨w.heap.size, 11, none⟩ = some (.int .i64 x.right.name.2) := by simp [World.cell?, hb]
  have q12 : w2.cell? ⟨w.heap.size, 12, none⟩ = some (.int .i64 x.right.num.1) := by simp [World.cell?, hb]
  have q13 : w2.cell? ⟨w.heap.size, 13, none⟩ = some (.int .i64 x.right.num.2) := by simp [World.cell?, hb]
  go_wp2_with fail
  refine (cvalue_any h2 x.right hn.2.2).mono ?_
  rintro e w3 ⟨rfl, h3, K3⟩
  go_wp2_with fail
  exact end0 rfl rfl ⟨rfl, h3, (B1.trans K2).trans K3⟩
 ·have e1 : s' = s.use x.queue 0 := by rw [<- HS.out]; simp [Ck.cond, hw]
  clear HS
  subst e1
  have a1 : (x.word == [60]) = false := by simp [hw]
  clear hw
  go_enter Tryz.func141, Tryz.ntmps141
  go_wp2_with fail
  refine (cuse_any h1 x.queue 0 hn.1).mono ?_
  rintro e w2 ⟨rfl, h2, K2⟩
  go_wp2_with fail
  exact ret0 rfl rfl ⟨rfl, h2, B1.trans K2⟩
def Ck.stmt {β : Type} (blk : Ck -> β -> Ck) (s : Ck) (r : St × β × β) : Ck :=
 if r.1.word = [112, 117, 116] \/ r.1.word = [101, 118, 105, 99, 116] \/ r.1.word = [99, 111, 111, 108] then s.use r.1.name 0
 else if r.1.word = [115, 104, 105, 102, 116] then (s.use r.1.name 0).use r.1.to 0
 else if r.1.word = [105, 110, 99] \/ r.1.word = [100, 101, 99] then s.use r.1.name 1
 else if r.1.word = [105, 102] then blk (blk (s.cond r.1.cond) r.2.1) r.2.2
 else if r.1.word = [114, 101, 112, 101, 97, 116] then blk ((s.bound r.1.times.1 r.1.times.2 50).cond r.1.cond) r.2.1
 else s
def Ck.block : (d : Nat) -> Ck -> BT d -> Ck
 | 0, s, _ => s
 | d + 1, s, xs => List.foldl (fun s r => s.stmt (Ck.block d) r) s xs
def St.small (x : St) : Prop := x.name.1.length <= 700 /\ x.to.1.length <= 700 /\ x.cond.small
def smallL {β : Type} (P : β -> Prop) : List (St × β × β) -> Prop
 | [] => True
 | r :: rs => r.1.small /\ P r.2.1 /\ P r.2.2 /\ smallL P rs
def smallB : (d : Nat) -> BT d -> Prop
 | 0, _ => True
 | d + 1, xs => smallL (smallB d) xs
def CBlk (d : Nat) : Prop := ∀ (w : World) (lo c nb rb : Nat) (E : Nat -> Value) (s : Ck) (v : Value) (x : BT d), CkAt w lo c nb rb E s -> SlR d w (fun g => g < lo) v x -> smallB d x ->
 Calls Tryz.prog 95 #[ptr c, v] w fun e w' => OutC w lo c nb rb E (s.block d x) e w'
theorem SlR.kp {d : Nat} {w w' : World} {c nb rb lo : Nat} (hb : Kp c nb rb w w') (h1 : lo <= c) (h2 : lo <= nb) (h3 : lo <= rb) {v : Value} {x : BT d} (h : SlR d w (fun g => g < lo) v x) : SlR d w' (fun g => g < lo) v x :=
 SlR.move d (fun g hg hl => hb.block g hl (by omega) (by omega) (by omega)) v x h
theorem cstmt_put {d : Nat} (_HB : CBlk d) {w : World} {lo c nb rb : Nat} {E : Nat -> Value} {s : Ck} (h : CkAt w lo c nb rb E s) (x : St) (y z : Value) (ty tz : BT d) (hy : SlR d w (fun g => g < lo) y ty) (hz : SlR d w (fun g => g < lo) z tz) (hx : x.small) (_hsy : smallB d ty) (_hsz : smallB d tz) (hw : x.word = [112, 117, 116]) :
  Calls Tryz.prog 123 #[ptr c, .agg (stA x y z)] w fun e w' => OutC w lo c nb rb E (s.stmt (Ck.block d) (x, ty, tz)) e w' := by
 have h1 := h.box (.cells (stA x y z) 226)
 have B1 : Kp c nb rb w (w.alloc (.cells (stA x y z) 226)) := (Kp.refl c nb rb w).alloc _
 have hin := h.in
 have hlow := h.low
 obtain ⟨y1, y2, y3, rfl⟩ := SlR.form d _ _ hy
 obtain ⟨z1, z2, z3, rfl⟩ := SlR.form d _ _ hz
 have e1 : s.stmt (Ck.block d) (x, ty, tz) = s.use x.name 0 := by simp [Ck.stmt, hw]
 rw [e1]
 clear e1
 have a_put : (x.word == [112, 117, 116]) = true := by rw [hw]; rfl
 have a_evict : (x.word == [101, 118, 105, 99, 116]) = false := by rw [hw]; rfl
 have a_cool : (x.word == [99, 111, 111, 108]) = false := by rw [hw]; rfl
 have a_shift : (x.word == [115, 104, 105, 102, 116]) = false := by rw [hw]; rfl
 have a_inc : (x.word == [105, 110, 99]) = false := by rw [hw]; rfl
 have a_dec : (x.word == [100, 101, 99]) = false := by rw [hw]; rfl
 have a_if : (x.word == [105, 102]) = false := by rw [hw]; rfl
 have a_repeat : (x.word == [114, 101, 112, 101, 97, 116]) = false := by rw [hw]; rfl
 clear hw
 go_enter Tryz.func123, Tryz.ntmps123
 go_wp2_with fail
 refine (cuse_any h1 x.name 0 hx.1).mono ?_
 rintro e w2 ⟨rfl, h2, K2⟩
 go_wp2_with fail
 exact end0 rfl rfl ⟨rfl, h2, B1.trans K2⟩
theorem cstmt_evict {d : Nat} (_HB : CBlk d) {w : World} {lo c nb rb : Nat} {E : Nat -> Value} {s : Ck} (h : CkAt w lo c nb rb E s) (x : St) (y z : Value) (ty tz : BT d) (hy : SlR d w (fun g => g < lo) y ty) (hz : SlR d w (fun g => g < lo) z tz) (hx : x.small) (_hsy : smallB d ty) (_hsz : smallB d tz) (hw : x.word = [101, 118, 105, 99, 116]) :
  Calls Tryz.prog 123 #[ptr c, .agg (stA x y z)] w fun e w' => OutC w lo c nb rb E (s.stmt (Ck.block d) (x, ty, tz)) e w' := by
 have h1 := h.box (.cells (stA x y z) 226)
 have B1 : Kp c nb rb w (w.alloc (.cells (stA x y z) 226)) := (Kp.refl c nb rb w).alloc _
 have hin := h.in
 have hlow := h.low
 obtain ⟨y1, y2, y3, rfl⟩ := SlR.form d _ _ hy
 obtain ⟨z1, z2, z3, rfl⟩ := SlR.form d _ _ hz
 have e1 : s.stmt (Ck.block d) (x, ty, tz) = s.use x.name 0 := by simp [Ck.stmt, hw]
 rw [e1]
 clear e1
 have a_put : (x.word == [112, 117, 116]) = false := by rw [hw]; rfl
 have a_evict : (x.word == [101, 118, 105, 99, 116]) = true := by rw [hw]; rfl
 have a_cool : (x.word == [99, 111, 111, 108]) = false := by rw [hw]; rfl
 have a_shift : (x.word == [115, 104, 105, 102, 116]) = false := by rw [hw]; rfl
 have a_inc : (x.word == [105, 110, 99]) = false := by rw [hw]; rfl
 have a_dec : (x.word == [100, 101, 99]) = false := by rw [hw]; rfl
 have a_if : (x.word == [105, 102]) = false := by rw [hw]; rfl
 have a_repeat : (x.word == [114, 101, 112, 101, 97, 116]) = false := by rw [hw]; rfl
 clear hw
 go_enter Tryz.func123, Tryz.ntmps123
 go_wp2_with fail
 refine (cuse_any h1 x.name 0 hx.1).mono ?_
 rintro e w2 ⟨rfl, h2, K2⟩
 go_wp2_with fail
 exact end0 rfl rfl ⟨rfl, h2, B1.trans K2⟩
theorem cstmt_cool {d : Nat} (_HB : CBlk d) {w : World} {lo c nb rb : Nat} {E : Nat -> Value} {s : Ck} (h : CkAt w lo c nb rb E s) (x : St) (y z : Value) (ty tz : BT d) (hy : SlR d w (fun g => g < lo) y ty) (hz : SlR d w (fun g => g < lo) z tz) (hx : x.small) (_hsy : smallB d ty) (_hsz : smallB d tz) (hw : x.word = [99, 111, 111, 108]) :
  Calls Tryz.prog 123 #[ptr c, .agg (stA x y z)] w fun e w' => OutC w lo c nb rb E (s.stmt (Ck.block d) (x, ty, tz)) e w' := by
 have h1 := h.box (.cells (stA x y z) 226)
 have B1 : Kp c nb rb w (w.alloc (.cells (stA x y z) 226)) := (Kp.refl c nb rb w).alloc _
 have hin := h.in
 have hlow := h.low
 obtain ⟨y1, y2, y3, rfl⟩ := SlR.form d _ _ hy
 obtain ⟨z1, z2, z3, rfl⟩ := SlR.form d _ _ hz
 have e1 : s.stmt (Ck.block d) (x, ty, tz) = s.use x.name 0 := by simp [Ck.stmt, hw]
 rw [e1]
 clear e1
 have a_put : (x.word == [112, 117, 116]) = false := by rw [hw]; rfl
 have a_evict : (x.word == [101, 118, 105, 99, 116]) = false := by rw [hw]; rfl
 have a_cool : (x.word == [99, 111, 111, 108]) = true := by rw [hw]; rfl
 have a_shift : (x.word == [115, 104, 105, 102, 116]) = false := by rw [hw]; rfl
 have a_inc : (x.word == [105, 110, 99]) = false := by rw [hw]; rfl
 have a_dec : (x.word == [100, 101, 99]) = false := by rw [hw]; rfl
 have a_if : (x.word == [105, 102]) = false := by rw [hw]; rfl
 have a_repeat : (x.word == [114, 101, 112, 101, 97, 116]) = false := by rw [hw]; rfl
 clear hw
 go_enter Tryz.func123, Tryz.ntmps123
 go_wp2_with fail
 refine (cuse_any h1 x.name 0 hx.1).mono ?_
 rintro e w2 ⟨rfl, h2, K2⟩
 go_wp2_with fail
 exact end0 rfl rfl ⟨rfl, h2, B1.trans K2⟩
theorem cstmt_inc {d : Nat} (_HB : CBlk d) {w : World} {lo c nb rb : Nat} {E : Nat -> Value} {s : Ck} (h : CkAt w lo c nb rb E s) (x : St) (y z : Value) (ty tz : BT d) (hy : SlR d w (fun g => g < lo) y ty) (hz : SlR d w (fun g => g < lo) z tz) (hx : x.small) (_hsy : smallB d ty) (_hsz : smallB d tz) (hw : x.word = [105, 110, 99]) :
  Calls Tryz.prog 123 #[ptr c, .agg (stA x y z)] w fun e w' => OutC w lo c nb rb E (s.stmt (Ck.block d) (x, ty, tz)) e w' := by
 have h1 := h.box (.cells (stA x y z) 226)
 have B1 : Kp c nb rb w (w.alloc (.cells (stA x y z) 226)) := (Kp.refl c nb rb w).alloc _
 have hin := h.in
 have hlow := h.low
 obtain ⟨y1, y2, y3, rfl⟩ := SlR.form d _ _ hy
 obtain ⟨z1, z2, z3, rfl⟩ := SlR.form d _ _ hz
 have e1 : s.stmt (Ck.block d) (x, ty, tz) = s.use x.name 1 := by simp [Ck.stmt, hw]
 rw [e1]
 clear e1
 have a_put : (x.word == [112, 117, 116]) = false := by rw [hw]; rfl
 have a_evict : (x.word == [101, 118, 105, 99, 116]) = false := by rw [hw]; rfl
 have a_cool : (x.word == [99, 111, 111, 108]) = false := by rw [hw]; rfl
 have a_shift : (x.word == [115, 104, 105, 102, 116]) = false := by rw [hw]; rfl
 have a_inc : (x.word == [105, 110, 99]) = true := by rw [hw]; rfl
 have a_dec : (x.word == [100, 101, 99]) = false := by rw [hw]; rfl
 have a_if : (x.word == [105, 102]) = false := by rw [hw]; rfl
 have a_repeat : (x.word == [114, 101, 112, 101, 97, 116]) = false := by rw [hw]; rfl
 clear hw
 go_enter Tryz.func123, Tryz.ntmps123
 go_wp2_with fail
 refine (cuse_any h1 x.name 1 hx.1).mono ?_
 rintro e w2 ⟨rfl, h2, K2⟩
 go_wp2_with fail
 exact end0 rfl rfl ⟨rfl, h2, B1.trans K2⟩
theorem cstmt_dec {d : Nat} (_HB : CBlk d) {w : World} {lo c nb rb : Nat} {E : Nat -> Value} {s : Ck} (h : CkAt w lo c nb rb E s) (x : St) (y z : Value) (ty tz : BT d) (hy : SlR d w (fun g => g < lo) y ty) (hz : SlR d w (fun g => g < lo) z tz) (hx : x.small) (_hsy : smallB d ty) (_hsz : smallB d tz) (hw : x.word = [100, 101, 99]) :
  Calls Tryz.prog 123 #[ptr c, .agg (stA x y z)] w fun e w' => OutC w lo c nb rb E (s.stmt (Ck.block d) (x, ty, tz)) e w' := by
 have h1 := h.box (.cells (stA x y z) 226)
 have B1 : Kp c nb rb w (w.alloc (.cells (stA x y z) 226)) := (Kp.refl c nb rb w).alloc _
 have hin := h.in
 have hlow := h.low
 obtain ⟨y1, y2, y3, rfl⟩ := SlR.form d _ _ hy
 obtain ⟨z1, z2, z3, rfl⟩ := SlR.form d _ _ hz
 have e1 : s.stmt (Ck.block d) (x, ty, tz) = s.use x.name 1 := by simp [Ck.stmt, hw]
 rw [e1]
 clear e1
 have a_put : (x.word == [112, 117, 116]) = false := by rw [hw]; rfl
 have a_evict : (x.word == [101, 118, 105, 99, 116]) = false := by rw [hw]; rfl
 have a_cool : (x.word == [99, 111, 111, 108]) = false := by rw [hw]; rfl
 have a_shift : (x.word == [115, 104, 105, 102, 116]) = false := by rw [hw]; rfl
 have a_inc : (x.word == [105, 110, 99]) = false := by rw [hw]; rfl
 have a_dec : (x.word == [100, 101, 99]) = true := by rw [hw]; rfl
 have a_if : (x.word == [105, 102]) = false := by rw [hw]; rfl
 have a_repeat : (x.word == [114, 101, 112, 101, 97, 116]) = false := by rw [hw]; rfl
 clear hw
 go_enter Tryz.func123, Tryz.ntmps123
 go_wp2_with fail
 refine (cuse_any h1 x.name 1 hx.1).mono ?_
 rintro e w2 ⟨rfl, h2, K2⟩
 go_wp2_with fail
 exact end0 rfl rfl ⟨rfl, h2, B1.trans K2⟩
theorem cstmt_shift {d : Nat} (_HB : CBlk d) {w : World} {lo c nb rb : Nat} {E : Nat -> Value} {s : Ck} (h : CkAt w lo c nb rb E s) (x : St) (y z : Value) (ty tz : BT d) (hy : SlR d w (fun g => g < lo) y ty) (hz : SlR d w (fun g => g < lo) z tz) (hx : x.small) (_hsy : smallB d ty) (_hsz : smallB d tz) (hw : x.word = [115, 104, 105, 102, 116]) :
  Calls Tryz.prog 123 #[ptr c, .agg (stA x y z)] w fun e w' => OutC w lo c nb rb E (s.stmt (Ck.block d) (x, ty, tz)) e w' := by
 have h1 := h.box (.cells (stA x y z) 226)
 have B1 : Kp c nb rb w (w.alloc (.cells (stA x y z) 226)) := (Kp.refl c nb rb w).alloc _
 have hin := h.in
 have hlow := h.low
 obtain ⟨y1, y2, y3, rfl⟩ := SlR.form d _ _ hy
 obtain ⟨z1, z2, z3, rfl⟩ := SlR.form d _ _ hz
 have e1 : s.stmt (Ck.block d) (x, ty, tz) = (s.use x.name 0).use x.to 0 := by simp [Ck.stmt, hw]
 rw [e1]
 clear e1
 have a_put : (x.word == [112, 117, 116]) = false := by rw [hw]; rfl
 have a_evict : (x.word == [101, 118, 105, 99, 116]) = false := by rw [hw]; rfl
 have a_cool : (x.word == [99, 111, 111, 108]) = false := by rw [hw]; rfl
 have a_shift : (x.word == [115, 104, 105, 102, 116]) = true := by rw [hw]; rfl
 have a_inc : (x.word == [105, 110, 99]) = false := by rw [hw]; rfl
 have a_dec : (x.word == [100, 101, 99]) = false := by rw [hw]; rfl
 have a_if : (x.word == [105, 102]) = false := by rw [hw]; rfl
 have a_repeat : (x.word == [114, 101, 112, 101, 97, 116]) = false := by rw [hw]; rfl
 clear hw
 go_enter Tryz.func123, Tryz.ntmps123
 go_wp2_with fail
 refine (cuse_any h1 x.name 0 hx.1).mono ?_
 rintro e w2 ⟨rfl, h2, K2⟩
 have hb : w2.heap[w.heap.size]? = some (.cells (stA x (.slice y1 y2 y3) (.slice z1 z2 z3)) 226) := (K2.block _ (by simp) (by omega) (by omega) (by omega)).trans (heap_new rfl)
 have q3 : w2.cell? ⟨w.heap.size, 3, none⟩ = some (S x.to.1) := by simp [World.cell?, hb, S]
 have q4 : w2.cell? ⟨w.heap.size, 4, none⟩ = some (.int .i64 x.to.2) := by simp [World.cell?, hb]
 go_wp2_with fail
 refine (cuse_any h2 x.to 0 hx.2.1).mono ?_
 rintro e w3 ⟨rfl, h3, K3⟩
 go_wp2_with fail
 exact end0 rfl rfl ⟨rfl, h3, (B1.trans K2).trans K3⟩
theorem cstmt_if {d : Nat} (HB : CBlk d) {w : World} {lo c nb rb : Nat} {E : Nat -> Value} {s : Ck} (h : CkAt w lo c nb rb E s) (x : St) (y z : Value) (ty tz : BT d) (hy : SlR d w (fun g => g < lo) y ty) (hz : SlR d w (fun g => g < lo) z tz) (hx : x.small) (hsy : smallB d ty) (hsz : smallB d tz) (hw : x.word = [105, 102]) :
  Calls Tryz.prog 123 #[ptr c, .agg (stA x y z)] w fun e w' => OutC w lo c nb rb E (s.stmt (Ck.block d) (x, ty, tz)) e w' := by
 have h1 := h.box (.cells (stA x y z) 226)
 have B1 : Kp c nb rb w (w.alloc (.cells (stA x y z) 226)) := (Kp.refl c nb rb w).alloc _
 have hin := h.in
 have hlow := h.low
 obtain ⟨y1, y2, y3, rfl⟩ := SlR.form d _ _ hy
 obtain ⟨z1, z2, z3, rfl⟩ := SlR.form d _ _ hz
 have e1 : s.stmt (Ck.block d) (x, ty, tz) = ((s.cond x.cond).block d ty).block d tz := by simp [Ck.stmt, hw]
 rw [e1]
 clear e1
 have a_put : (x.word == [112, 117, 116]) = false := by rw [hw]; rfl
 have a_evict : (x.word == [101, 118, 105, 99, 116]) = false := by rw [hw]; rfl
 have a_cool : (x.word == [99, 111, 111, 108]) = false := by rw [hw]; rfl
 have a_shift : (x.word == [115, 104, 105, 102, 116]) = false := by rw [hw]; rfl
 have a_inc : (x.word == [105, 110, 99]) = false := by rw [hw]; rfl
 have a_dec : (x.word == [100, 101, 99]) = false := by rw [hw]; rfl
 have a_if : (x.word == [105, 102]) = true := by rw [hw]; rfl
 have a_repeat : (x.word == [114, 101, 112, 101, 97, 116]) = false := by rw [hw]; rfl
 clear hw
 go_enter Tryz.func123, Tryz.ntmps123
 go_wp2_with fail
 refine (ccond_any h1 x.cond hx.2.2).mono ?_
 rintro e w2 ⟨rfl, h2, K2⟩
 have hb2 : w2.heap[w.heap.size]? = some (.cells (stA x (.slice y1 y2 y3) (.slice z1 z2 z3)) 226) := (K2.block _ (by first | (simp; done) | (have := K2.size; simp at this; omega) | (have := K2.size; have := K3.size; simp at this; omega)) (by omega) (by omega) (by omega)).trans (heap_new rfl)
 have q2_22 : w2.cell? ⟨w.heap.size, 22, none⟩ = some (.slice y1 y2 y3) := by simp [World.cell?, hb2]
 have hy2 := SlR.kp (B1.trans K2) hlow.2.1 hlow.2.2.1 hlow.2.2.2.1 hy
 go_wp2_with fail
 refine (HB _ _ _ _ _ _ _ _ _ h2 hy2 hsy).mono ?_
 rintro e w3 ⟨rfl, h3, K3⟩
 have hb3 : w3.heap[w.heap.size]? = some (.cells (stA x (.slice y1 y2 y3) (.slice z1 z2 z3)) 226) := (K3.block _ (by first | (simp; done) | (have := K2.size; simp at this; omega) | (have := K2.size; have := K3.size; simp at this; omega)) (by omega) (by omega) (by omega)).trans (hb2)
 have q3_24 : w3.cell? ⟨w.heap.size, 24, none⟩ = some (.slice z1 z2 z3) := by simp [World.cell?, hb3]
 have hz3 := SlR.kp ((B1.trans K2).trans K3) hlow.2.1 hlow.2.2.1 hlow.2.2.2.1 hz
 go_wp2_with fail
 refine (HB _ _ _ _ _ _ _ _ _ h3 hz3 hsz).mono ?_
 rintro e w4 ⟨rfl, h4, K4⟩
 go_wp2_with fail
 exact end0 rfl rfl ⟨rfl, h4, ((B1.trans K2).trans K3).trans K4⟩
theorem cstmt_repeat {d : Nat} (HB : CBlk d) {w : World} {lo c nb rb : Nat} {E : Nat -> Value} {s : Ck} (h : CkAt w lo c nb rb E s) (x : St) (y z : Value) (ty tz : BT d) (hy : SlR d w (fun g => g < lo) y ty) (hz : SlR d w (fun g => g < lo) z tz) (hx : x.small) (hsy : smallB d ty) (_hsz : smallB d tz) (hw : x.word = [114, 101, 112, 101, 97, 116]) :
  Calls Tryz.prog 123 #[ptr c, .agg (stA x y z)] w fun e w' => OutC w lo c nb rb E (s.stmt (Ck.block d) (x, ty, tz)) e w' := by
 have h1 := h.box (.cells (stA x y z) 226)
 have B1 : Kp c nb rb w (w.alloc (.cells (stA x y z) 226)) := (Kp.refl c nb rb w).alloc _
 have hin := h.in
 have hlow := h.low
 obtain ⟨y1, y2, y3, rfl⟩ := SlR.form d _ _ hy
 obtain ⟨z1, z2, z3, rfl⟩ := SlR.form d _ _ hz
 have e1 : s.stmt (Ck.block d) (x, ty, tz) = ((s.bound x.times.1 x.times.2 50).cond x.cond).block d ty := by simp [Ck.stmt, hw]
 rw [e1]
 clear e1
 have a_put : (x.word == [112, 117, 116]) = false := by rw [hw]; rfl
 have a_evict : (x.word == [101, 118, 105, 99, 116]) = false := by rw [hw]; rfl
 have a_cool : (x.word == [99, 111, 111, 108]) = false := by rw [hw]; rfl
 have a_shift : (x.word == [115, 104, 105, 102, 116]) = false := by rw [hw]; rfl
 have a_inc : (x.word == [105, 110, 99]) = false := by rw [hw]; rfl
 have a_dec : (x.word == [100, 101, 99]) = false := by rw [hw]; rfl
 have a_if : (x.word == [105, 102]) = false := by rw [hw]; rfl
 have a_repeat : (x.word == [114, 101, 112, 101, 97, 116]) = true := by rw [hw]; rfl
 clear hw
 go_enter Tryz.func123, Tryz.ntmps123
 go_wp2_with fail
 refine (cbound_any h1 x.times.1 x.times.2 50).mono ?_
 rintro e w2 ⟨rfl, h2, K2⟩
 have hb2 : w2.heap[w.heap.size]? = some (.cells (stA x (.slice y1 y2 y3) (.slice z1 z2 z3)) 226) := (K2.block _ (by first | (simp; done) | (have := K2.size; simp at this; omega) | (have := K2.size; have := K3.size; simp at this; omega)) (by omega) (by omega) (by omega)).trans (heap_new rfl)
 have q2_8 : w2.cell? ⟨w.heap.size, 8, none⟩ = some (.bool x.cond.neg) := by simp [World.cell?, hb2]
 have q2_9 : w2.cell? ⟨w.heap.size, 9, none⟩ = some (S x.cond.word) := by simp [World.cell?, hb2, S]
 have q2_10 : w2.cell? ⟨w.heap.size, 10, none⟩ = some (S x.cond.queue.1) := by simp [World.cell?, hb2, S]
 have q2_11 : w2.cell? ⟨w.heap.size, 11, none⟩ = some (.int .i64 x.cond.queue.2) := by simp [World.cell?, hb2]
 have q2_12 : w2.cell? ⟨w.heap.size, 12, none⟩ = some (.int .i64 x.cond.left.kind) := by simp [World.cell?, hb2]
 have q2_13 : w2.cell? ⟨w.heap.size, 13, none⟩ = some (S x.cond.left.name.1) := by simp [World.cell?, hb2, S]
 have q2_14 : w2.cell? ⟨w.heap.size, 14, none⟩ = some (.int .i64 x.cond.left.name.2) := by simp [World.cell?, hb2]
 have q2_15 : w2.cell? ⟨w.heap.size, 15, none⟩ = some (.int .i64 x.cond.left.num.1) := by simp [World.cell?, hb2]
 have q2_16 : w2.cell? ⟨w.heap.size, 16, none⟩ = some (.int .i64 x.cond.left.num.2) := by simp [World.cell?, hb2]
 have q2_17 : w2.cell? ⟨w.heap.size, 17, none⟩ = some (.int .i64 x.cond.right.kind) := by simp [World.cell?, hb2]
 have q2_18 : w2.cell? ⟨w.heap.size, 18, none⟩ = some (S x.cond.right.name.1) := by simp [World.cell?, hb2, S]
 have q2_19 : w2.cell? ⟨w.heap.size, 19, none⟩ = some (.int .i64 x.cond.right.name.2) := by simp [World.cell?, hb2]
 have q2_20 : w2.cell? ⟨w.heap.size, 20, none⟩ = some (.int .i64 x.cond.right.num.1) := by simp [World.cell?, hb2]
 have q2_21 : w2.cell? ⟨w.heap.size, 21, none⟩ = some (.int .i64 x.cond.right.num.2) := by simp [World.cell?, hb2]
 go_wp2_with fail
 refine (ccond_any h2 x.cond hx.2.2).mono ?_
 rintro e w3 ⟨rfl, h3, K3⟩
 have hb3 : w3.heap[w.heap.size]? = some (.cells (stA x (.slice y1 y2 y3) (.slice z1 z2 z3)) 226) := (K3.block _ (by first | (simp; done) | (have := K2.size; simp at this; omega) | (have := K2.size; have := K3.size; simp at this; omega)) (by omega) (by omega) (by omega)).trans (hb2)
 have q3_22 : w3.cell? ⟨w.heap.size, 22, none⟩ = some (.slice y1 y2 y3) := by simp [World.cell?, hb3]
 have hy3 := SlR.kp ((B1.trans K2).trans K3) hlow.2.1 hlow.2.2.1 hlow.2.2.2.1 hy
 go_wp2_with fail
 refine (HB _ _ _ _ _ _ _ _ _ h3 hy3 hsy).mono ?_
 rintro e w4 ⟨rfl, h4, K4⟩
 go_wp2_with fail
 exact end0 rfl rfl ⟨rfl, h4, ((B1.trans K2).trans K3).trans K4⟩
theorem cstmt_any {d : Nat} (HB : CBlk d) {w : World} {lo c nb rb : Nat} {E : Nat -> Value} {s : Ck} (h : CkAt w lo c nb rb E s) (x : St) (y z : Value) (ty tz : BT d) (hy : SlR d w (fun g => g < lo) y ty) (hz : SlR d w (fun g => g < lo) z tz) (hx : x.small) (hsy : smallB d ty) (hsz : smallB d tz) :
  Calls Tryz.prog 123 #[ptr c, .agg (stA x y z)] w fun e w' => OutC w lo c nb rb E (s.stmt (Ck.block d) (x, ty, tz)) e w' := by
 by_cases w_put : x.word = [112, 117, 116]
 ·exact cstmt_put HB h x y z ty tz hy hz hx hsy hsz w_put
 by_cases w_evict : x.word = [101, 118, 105, 99, 116]
 ·exact cstmt_evict HB h x y z ty tz hy hz hx hsy hsz w_evict
 by_cases w_cool : x.word = [99, 111, 111, 108]
 ·exact cstmt_cool HB h x y z ty tz hy hz hx hsy hsz w_cool
 by_cases w_shift : x.word = [115, 104, 105, 102, 116]
 ·exact cstmt_shift HB h x y z ty tz hy hz hx hsy hsz w_shift
 by_cases w_inc : x.word = [105, 110, 99]
 ·exact cstmt_inc HB h x y z ty tz hy hz hx hsy hsz w_inc
 by_cases w_dec : x.word = [100, 101, 99]
 ·exact cstmt_dec HB h x y z ty tz hy hz hx hsy hsz w_dec
 by_cases w_if : x.word = [105, 102]
 ·exact cstmt_if HB h x y z ty tz hy hz hx hsy hsz w_if
 by_cases w_repeat : x.word = [114, 101, 112, 101, 97, 116]
 ·exact cstmt_repeat HB h x y z ty tz hy hz hx hsy hsz w_repeat
 have h1 := h.box (.cells (stA x y z) 226)
 have B1 : Kp c nb rb w (w.alloc (.cells (stA x y z) 226)) := (Kp.refl c nb rb w).alloc _
 obtain ⟨y1, y2, y3, rfl⟩ := SlR.form d _ _ hy
 obtain ⟨z1, z2, z3, rfl⟩ := SlR.form d _ _ hz
 have e1 : s.stmt (Ck.block d) (x, ty, tz) = s := by simp [Ck.stmt, w_put, w_evict, w_cool, w_shift, w_inc, w_dec, w_if, w_repeat]
 rw [e1]
 clear e1
 have a_put : (x.word == [112, 117, 116]) = false := by simp [w_put]
 have a_evict : (x.word == [101, 118, 105, 99, 116]) = false := by simp [w_evict]
 have a_cool : (x.word == [99, 111, 111, 108]) = false := by simp [w_cool]
 have a_shift : (x.word == [115, 104, 105, 102, 116]) = false := by simp [w_shift]
 have a_inc : (x.word == [105, 110, 99]) = false := by simp [w_inc]
 have a_dec : (x.word == [100, 101, 99]) = false := by simp [w_dec]
 have a_if : (x.word == [105, 102]) = false := by simp [w_if]
 have a_repeat : (x.word == [114, 101, 112, 101, 97, 116]) = false := by simp [w_repeat]
 clear w_put w_evict w_cool w_shift w_inc w_dec w_if w_repeat
 go_enter Tryz.func123, Tryz.ntmps123
 go_wp2_with fail
 exact end0 rfl rfl ⟨rfl, h1, B1⟩
theorem cblk_zero : CBlk 0 := by
 intro w lo c nb rb E s v x h hv _
 have hv : v = nilV := hv
 subst hv
 go_enter Tryz.func95, Tryz.ntmps95
 go_wp2_with fail
 go_loopg [8] 0 (fun f i wr => wr = w /\ i = .int .i64 0)
 case atStart => exact ⟨rfl, rfl⟩
 case round =>
  obtain ⟨rfl, rfl⟩ := hrel
  go_wp2_with fail
  exact end0 rfl rfl ⟨rfl, h, Kp.refl _ _ _ _⟩
theorem flatR_at : ∀ (rows : List (St × Value × Value)) (k : Nat) (r : St × Value × Value), rows[k]? = some r -> ∀ j u, (stA r.1 r.2.1 r.2.2).toList[j]? = some u -> (flatR rows)[k * 25 + j]? = some u := by
 intro rows
 induction rows with
 | nil => intro k r h; simp at h
 | cons q qs ih =>
  intro k r h j u hu
  have hj : j < 25 := by
   have := (List.getElem?_eq_some_iff.1 hu).1
   simpa using this
  cases k with
  | zero =>
   simp at h
   subst h
   simp only [flatR, List.flatMap_cons, Nat.zero_mul, Nat.zero_add]
   rw [List.getElem?_append_left (by simpa using hj)]
   exact hu
  | succ k =>
   simp only [flatR, List.flatMap_cons]
   rw [List.getElem?_append_right (by simp; omega)]
   have := ih k r (by simpa using h) j u hu
   simp only [flatR] at this
   rw [<- this]
   congr 1
   simp
   omega
theorem RelRows.at {β : Type} {P : Value -> β -> Prop} : ∀ (rs : List (St × Value × Value)) (xs : List (St × β × β)), RelRows P rs xs -> ∀ k, k < rs.length -> ∃ st y z ty tz, rs[k]? = some (st, y, z) /\ xs[k]? = some (st, ty, tz) /\ xs.drop k = (st, ty, tz) :: xs.drop (k + 1) /\ P y ty /\ P z tz
 | [], [], _, k, h => by simp at h
 | (st, y, z) :: rs, (st', ty, tz) :: xs, ⟨a, b, c, d⟩, 0, _ => ⟨st, y, z, ty, tz, rfl, by simp; exact a.symm, by simp; exact a.symm, b, c⟩
 | (st, y, z) :: rs, (st', ty, tz) :: xs, ⟨a, b, c, d⟩, k + 1, h => by
  obtain ⟨s1, y1, z1, t1, t2, h1, h2, h3, h4⟩ := RelRows.at rs xs d k (by simpa using h)
  exact ⟨s1, y1, z1, t1, t2, by simpa using h1, by simpa using h2, by simpa using h3, h4⟩
theorem smallL.at {β : Type} {P : β -> Prop} : ∀ (xs : List (St × β × β)), smallL P xs -> ∀ (k : Nat) (r : St × β × β), xs[k]? = some r -> r.1.small /\ P r.2.1 /\ P r.2.2
 | [], _, k, r, h => by simp at h
 | q :: xs, ⟨a, b, c, d⟩, 0, r, h => by simp at h; subst h; exact ⟨a, b, c⟩
 | q :: xs, ⟨a, b, c, d⟩, k + 1, r, h => smallL.at xs d k r (by simpa using h)
theorem store_in {w1 : World} {ops : Array Oper} {rest : List Oper} {o : Oper} {a : Act} {Q : Exit -> Act -> World -> Prop} (hgd : o.guard = none) (T : TypeId) (x y : Operand) (ho : o.op = .store T x y)
  (A : Array Value) {Z' : Array Value} (hx : a.eval x = .pointer (some ⟨w1.heap.size, 0, none⟩)) (hy : a.eval y = .agg A) (hi : (Tryz.prog.info? T).map (·.size) = some A.size) (hs : Z'.size = A.size) (h1 : A.all (·.oneCell') = true)
  (h : ∀ W', Below w1.heap.size w1 W' -> W'.heap[w1.heap.size]? = some (.cells A T) -> w1.heap.size < W'.heap.size -> wpList Tryz.prog ops Q rest (a.put o.dst undef) W') :
  wpList Tryz.prog ops Q (o :: rest) a (w1.alloc (.cells Z' T)) :=
 wpList_store_row hgd T x y ho w1.heap.size A hx hy T Z' (heap_new rfl) hi hs h1 (h _ ⟨rfl, rfl, rfl, by simp [World.setRow], fun k hk => (setRow_other _ _ _ _ (by omega)).trans (Below.heap_alloc _ _ _ hk)⟩ (setRow_heap _ _ _ _ _ _ (heap_new rfl)) (by simp [World.setRow]))
theorem cblk_succ {d : Nat} (HB : CBlk d) : CBlk (d + 1) := by
 intro w lo c nb rb E s v x h hv hsm
 obtain ⟨rows, hrel0, hown, hN⟩ := hv
 have hlow := h.low
 have hin := h.in
 have hlen : Hid (rows.length = List.length x) := RelRows.len _ _ hrel0
 generalize hs : s.block (d + 1) x = s'
 have HS : Hid (s' = List.foldl (fun s r => s.stmt (Ck.block d) r) s x) := hs.symm
 clear hs
 obtain ⟨va, vk, vc, rfl⟩ := ownsRow_form2 hown
 have hvk : vk = rows.length := by
  rcases hown.2 with ⟨h1, h2⟩ | ⟨g, cap, cur, h1, _⟩
  ·simp at h1; omega
  ·simp at h1; omega
 subst hvk
 have hmax : rows.length <= maxLen := by
  rcases hown.2 with ⟨h1, h2⟩ | ⟨g, cap, cur, h1, _, _, h2, h3, _⟩
  ·omega
  ·omega
 have hmax : rows.length <= 9223372036854775807 := hmax
 go_enter Tryz.func95, Tryz.ntmps95
 go_wp2_with fail
 go_loopg [8] rows.length (fun f i wr => ∃ (k : Nat) (sk : Ck), k + f = rows.length /\ i = .int .i64 k /\ CkAt wr lo c nb rb E sk /\ Kp c nb rb w wr /\ Hid (s' = List.foldl (fun s r => s.stmt (Ck.block d) r) sk (List.drop k x)))
 case atStart => exact ⟨0, s, by omega, rfl, h, Kp.refl _ _ _ _, HS⟩
 case round =>
  obtain ⟨k, sk, hk, rfl, h1, K1, HK⟩ := hrel
  by_cases hlt : k < rows.length
  ·obtain ⟨st, y, z, ty, tz, r1, r2, r3, r4, r5⟩ := RelRows.at _ _ hrel0 k hlt
   obtain ⟨y1, y2, y3, rfl⟩ := SlR.form d _ _ r4
   obtain ⟨z1, z2, z3, rfl⟩ := SlR.form d _ _ r5
   have y4 := SlR.kp K1 hlow.2.1 hlow.2.2.1 hlow.2.2.2.1 r4
   have z4 := SlR.kp K1 hlow.2.1 hlow.2.2.1 hlow.2.2.2.1 r5
   obtain ⟨m1, m2, m3⟩ := smallL.at _ hsm k _ r2
   have hg : ∃ g, va = some ⟨g, 0, none⟩ := by
    rcases hown.2 with ⟨h1, h2⟩ | ⟨g, cap, cur, h1, _⟩
    ·omega
    ·simp at h1; exact ⟨g, h1.1⟩
   obtain ⟨g, rfl⟩ := hg
   have hgl : g < lo := hN g rfl
   have hix : ∀ W : World, (Instr.indexAt 159 (.slice (some ⟨g, 0, none⟩) rows.length vc) (.int .i64 k)).run Tryz.prog W = .ok (.pointer (some ⟨g, k * 25, none⟩)) W := by
    intro W
    rw [run_indexAt_slice (h := by kernel_rfl), if_pos (by omega)]
    have : (sizeOf (Tryz.prog.elem 159)).run Tryz.prog W = .ok 25 W := by kernel_rfl
    rw [this]
    simp [Result.andThen, Addr.add]
    omega
   have hown1 : wr.ownsRow 0 226 25 (.slice (some ⟨g, 0, none⟩) rows.length vc) rows.length (flatR rows) := ownsRow_move hown (fun q hq hl => by simp [Value.ownBlock] at hq; subst hq; exact K1.block _ hl (by omega) (by omega) (by omega))
   have hrg : wr.rangeAt g (k * 25) (stA st (.slice y1 y2 y3) (.slice z1 z2 z3)).toList := fun j u hu => by
    have hj : j < 25 := by have := (List.getElem?_eq_some_iff.1 hu).1; simpa using this
    rw [hown1.cellAt _ (by have : k + 1 <= rows.length := hlt; omega)]
    exact flatR_at rows k _ r1 j u hu
   go_upto_region 2 with fail
   refine wp_region_lit ?_
   iterate 3 go_step
   refine wpList_load_mid rfl 226 (.tmp 10) rfl g (k * 25) rfl (stA st (.slice y1 y2 y3) (.slice z1 z2 z3)).toList _ hrg Tryz.underlying226 rfl (by kernel_rfl) ?_
   iterate 3 go_step
   refine store_in rfl 226 (.tmp 5) (.tmp 11) rfl (stA st (.slice y1 y2 y3) (.slice z1 z2 z3)) rfl rfl (by kernel_rfl) rfl (by simp [Value.oneCell']) ?_
   intro w2 B2 hb2 hz2
   have h2 := h1.grow B2
   have K2 : Kp c nb rb wr w2 := ⟨B2.os, B2.tape, B2.output, B2.size, fun k hk _ _ _ => B2.block k hk⟩
   have y5 := SlR.kp K2 hlow.2.1 hlow.2.2.1 hlow.2.2.2.1 y4
   have z5 := SlR.kp K2 hlow.2.1 hlow.2.2.1 hlow.2.2.2.1 z4
   go_upto_region 3 with fail
   refine wp_region_lit ?_
   iterate 3 go_step
   refine wpList_load_row rfl 226 (.tmp 5) rfl wr.heap.size rfl 226 _ _ _ hb2 Tryz.underlying226 rfl (by kernel_rfl) ?_
   go_wp2_with fail
   refine (cstmt_any HB h2 st _ _ ty tz y5 z5 m1 m2 m3).mono ?_
   rintro e w3 ⟨rfl, h3, K3⟩
   go_wp2_with fail
   go_roundg (gk - 1)
   case measure => omega
   case rel =>
    refine ⟨k + 1, sk.stmt (Ck.block d) (st, ty, tz), by omega, ?_, h3, (K1.trans K2).trans K3, ?_⟩
    ·simp
    ·show _ = _
     rw [HK.out, r3]
     rfl
  ·have e0 : List.drop k x = [] := List.drop_eq_nil_iff.2 (by have := hlen.out; omega)
   have e1 : s' = sk := by rw [HK.out, e0]; rfl
   subst e1
   go_wp2_with fail
   exact end0 rfl rfl ⟨rfl, h1, K1⟩
theorem cblk_all : ∀ d, CBlk d
 | 0 => cblk_zero
 | d + 1 => cblk_succ (cblk_all d)
def Ck.declare (s : Ck) (n : NP) (k : Nat) : Ck := match look n.1 s.names with
 | some _ => s.fault 3 n.2
 | none => if s.names.length = 8 then s.fault 8 n.2 else { s with names := (n.1, k) :: s.names }
theorem CkAt.apart {w : World} {lo c nb rb : Nat} {E : Nat -> Value} {s : Ck} (h : CkAt w lo c nb rb E s) (hd : nb ≠ rb) {w' : World} (hg : w.grownBy w' (some nb)) {m : List (List UInt8 × Nat)} (hm : MapR w' 214 nb m.length m) (h8 : m.length <= 8) : CkAt w' lo c nb rb E { s with names := m } /\ Kp c nb rb w w' := by
 obtain ⟨v, hc, hf⟩ := h.cell
 obtain ⟨n, hn, hr⟩ := h.rules
 have hne := h.ne
 have hin := h.in
 have hlow := h.low
 have K : ∀ k, k < w.heap.size -> k ≠ nb -> w'.heap[k]? = w.heap[k]? := fun k hk hh => hg.block k hk (by simpa using hh)
 refine ⟨⟨⟨v, (K _ hin.1 hne.1).trans hc, FirstR.move hf fun f x hx => K _ (Array.getElem?_eq_some_iff.1 hx).1 ?_⟩, hm, ⟨n, hn, hr.move (K _ hin.2.2 hd.symm)⟩, fun i h1 h2 => ?_, ⟨hlow.1, hlow.2.1, hlow.2.2.1, hlow.2.2.2.1, Nat.le_trans hlow.2.2.2.2 hg.size⟩, ⟨h8, h.few.2⟩⟩, hg.os, hg.tape, hg.output, hg.size, fun k hk _ h2 _ => K k hk h2⟩
 ·rintro rfl
  obtain ⟨D, ⟨es, k, h1, _⟩, _⟩ := h.names
  rw [hx] at h1
  simp at h1
 ·have := h.gl i h1 h2
  rw [<- this]
  unfold World.cell?
  rw [K i (by omega) (by omega)]
theorem cdeclare_any {w : World} {lo c nb rb : Nat} {E : Nat -> Value} {s : Ck} (h : CkAt w lo c nb rb E s) (hd : nb ≠ rb) (n : NP) (k : Nat) (hn : n.1.length <= 700) (hk : k <= 3000) :
  Calls Tryz.prog 92 #[ptr c, .agg #[S n.1, .int .i64 n.2], .int .i64 k] w fun e w' => OutC w lo c nb rb E (s.declare n k) e w' := by
 have h1 := (h.box (.cells #[S n.1, .int .i64 n.2] 116)).drew
 have B1 : Kp c nb rb w (w.alloc (.cells #[S n.1, .int .i64 n.2] 116)).drew := ((Kp.refl c nb rb w).alloc _).drew
 obtain ⟨c0, c1, c2, cf⟩ := h1.cells
 have hg := h1.names.get_ok u80 u121 (z121 _) n.1 hn
 have g3 := h1.gl 3 (by omega) (by omega)
 have g4 := h1.gl 8 (by omega) (by omega)
 have hlen := fun ty => h1.names.len u80 ty
 generalize hs : s.declare n k = s'
 have HS : Hid (s.declare n k = s') := hs
 clear hs
 cases hl : look n.1 s.names with
 | some d =>
  rw [hl] at hg
  have e1 : s' = s.fault 3 n.2 := by rw [<- HS.out]; simp [Ck.declare, hl]
  clear HS
  subst e1
  go_enter Tryz.func92, Tryz.ntmps92
  go_wp2_with fail
  go_region
  all_goals go_wp2_with fail
  all_goals (refine (cfault_any h1 3 n.2).mono ?_; rintro e w' ⟨rfl, h2, h3⟩)
  all_goals go_wp2_with fail
  all_goals exact end0 rfl rfl ⟨rfl, h2, B1.trans h3⟩
 | none =>
  rw [hl] at hg
  by_cases hd8 : s.names.length = 8
  ·have e1 : s' = s.fault 8 n.2 := by rw [<- HS.out]; simp [Ck.declare, hl, hd8]
   clear HS
   subst e1
   go_enter Tryz.func92, Tryz.ntmps92
   go_wp2_with fail
   go_region
   all_goals go_wp2_with fail
   all_goals (refine (cfault_any h1 8 n.2).mono ?_; rintro e w' ⟨rfl, h2, h3⟩)
   all_goals go_wp2_with fail
   all_goals exact end0 rfl rfl ⟨rfl, h2, B1.trans h3⟩
  ·have e1 : s' = { s with names := (n.1, k) :: s.names } := by rw [<- HS.out]; simp [Ck.declare, hl, hd8]
   clear HS
   subst e1
   have hfew := h.few
   obtain ⟨w2, hput, hm2, hgr, hsz⟩ := h1.drew.names.put u80 u121 (by omega) n.1 hn k hk
   rw [hl] at hm2
   obtain ⟨h2, K2⟩ := h1.drew.apart hd hgr (m := (n.1, k) :: s.names) hm2 (by simp; omega)
   obtain ⟨d0, d1, d2, df⟩ := h1.drew.cells
   go_enter Tryz.func92, Tryz.ntmps92
   go_wp2_with fail
   go_region
   all_goals go_wp2_with fail
   all_goals go_region
   all_goals go_wp2_with fail
   all_goals exact end0 rfl rfl ⟨rfl, h2, B1.drew.trans K2⟩
def Ck.decl (s : Ck) (d : Dc) : Ck :=
 if d.word = [113, 117, 101, 117, 101] \/ d.word = [103, 104, 111, 115, 116] then (s.declare d.name 0).bound d.num.1 d.num.2 50
 else if d.word = [118, 97, 114] then (s.declare d.name 1).bound d.num.1 d.num.2 99
 else if d.word = [102, 114, 101, 113] then
  let s1 : Ck := { s with freqs := s.freqs + 1 }
  (if s1.freqs > 1 then s1.fault 3 d.pos else s1).bound d.num.1 d.num.2 99
 else s
theorem CkAt.freq {w : World} {lo c nb rb : Nat} {E : Nat -> Value} {s : Ck} (h : CkAt w lo c nb rb E s) (hfq : s.freqs < 1000) : CkAt (w.setCell ⟨c, 1, none⟩ (.int .i64 ((s.freqs + 1 : Nat) : Int))) lo c nb rb E { s with freqs := s.freqs + 1 } /\ Kp c nb rb w (w.setCell ⟨c, 1, none⟩ (.int .i64 ((s.freqs + 1 : Nat) : Int))) := by
 obtain ⟨v, hc, hf⟩ := h.cell
 obtain ⟨n, hn, hr⟩ := h.rules
 have hne := h.ne
 have hin := h.in
 have hlow := h.low
 have K : ∀ k, k ≠ c -> (w.setCell ⟨c, 1, none⟩ (.int .i64 ((s.freqs + 1 : Nat) : Int))).heap[k]? = w.heap[k]? := fun k hh => Below.heap_setCell _ _ _ _ hh
 have hz : (w.setCell ⟨c, 1, none⟩ (.int .i64 ((s.freqs + 1 : Nat) : Int))).heap.size = w.heap.size := by simp [World.setCell]
 refine ⟨⟨⟨v, (heap_setCell_same _ _ _ _ _ _ hc).trans rfl, FirstR.move hf fun f x hx => K _ ?_⟩, h.names.move (K _ hne.1.symm), ⟨n, hn, hr.move (K _ hne.2.symm)⟩, fun i h1 h2 => ?_, ⟨hlow.1, hlow.2.1, hlow.2.2.1, hlow.2.2.2.1, by rw [hz]; exact hlow.2.2.2.2⟩, ⟨h.few.1, h.few.2.1, by simp; omega⟩⟩, rfl, rfl, rfl, by rw [hz]; exact Nat.le_refl _, fun k _ h1 _ _ => K k h1⟩
 ·rintro rfl
  rw [hx] at hc
  simp at hc
 ·have := h.gl i h1 h2
  rw [<- this]
  unfold World.cell?
  rw [K i (by omega)]
theorem cdecl_queue {w : World} {lo c nb rb : Nat} {E : Nat -> Value} {s : Ck} (h : CkAt w lo c nb rb E s) (hd : nb ≠ rb) (x : Dc) (hn : x.name.1.length <= 700) (_hfq : s.freqs < 1000) (hw : x.word = [113, 117, 101, 117, 101]) :
  Calls Tryz.prog 61 #[ptr c, .agg (dcA x)] w fun e w' => OutC w lo c nb rb E (s.decl x) e w' := by
 have h1 := h.box (.cells (dcA x) 120)
 have B1 : Kp c nb rb w (w.alloc (.cells (dcA x) 120)) := (Kp.refl c nb rb w).alloc _
 have hin := h.in
 have e1 : s.decl x = (s.declare x.name 0).bound x.num.1 x.num.2 50 := by simp [Ck.decl, hw]
 rw [e1]
 clear e1
 have a_queue : (x.word == [113, 117, 101, 117, 101]) = true := by rw [hw]; rfl
 have a_ghost : (x.word == [103, 104, 111, 115, 116]) = false := by rw [hw]; rfl
 have a_var : (x.word == [118, 97, 114]) = false := by rw [hw]; rfl
 have a_freq : (x.word == [102, 114, 101, 113]) = false := by rw [hw]; rfl
 clear hw
 go_enter Tryz.func61, Tryz.ntmps61
 go_wp2_with fail
 refine (cdeclare_any h1 hd x.name 0 hn (by omega)).mono ?_
 rintro e w2 ⟨rfl, h2, K2⟩
 have hb2 : w2.heap[w.heap.size]? = some (.cells (dcA x) 120) := (K2.block _ (by first | (simp; done) | (have := K2.size; simp at this; omega)) (by omega) (by omega) (by omega)).trans (heap_new rfl)
 have q24 : w2.cell? ⟨w.heap.size, 4, none⟩ = some (.int .i64 x.num.1) := by simp [World.cell?, hb2]
 have q25 : w2.cell? ⟨w.heap.size, 5, none⟩ = some (.int .i64 x.num.2) := by simp [World.cell?, hb2]
 go_wp2_with fail
 refine (cbound_any h2 x.num.1 x.num.2 50).mono ?_
 rintro e w3 ⟨rfl, h3, K3⟩
 go_wp2_with fail
 exact end0 rfl rfl ⟨rfl, h3, (B1.trans K2).trans K3⟩
theorem cdecl_ghost {w : World} {lo c nb rb : Nat} {E : Nat -> Value} {s : Ck} (h : CkAt w lo c nb rb E s) (hd : nb ≠ rb) (x : Dc) (hn : x.name.1.length <= 700) (_hfq : s.freqs < 1000) (hw : x.word = [103, 104, 111, 115, 116]) :
  Calls Tryz.prog 61 #[ptr c, .agg (dcA x)] w fun e w' => OutC w lo c nb rb E (s.decl x) e w' := by
 have h1 := h.box (.cells (dcA x) 120)
 have B1 : Kp c nb rb w (w.alloc (.cells (dcA x) 120)) := (Kp.refl c nb rb w).alloc _
 have hin := h.in
 have e1 : s.decl x = (s.declare x.name 0).bound x.num.1 x.num.2 50 := by simp [Ck.decl, hw]
 rw [e1]
 clear e1
 have a_queue : (x.word == [113, 117, 101, 117, 101]) = false := by rw [hw]; rfl
 have a_ghost : (x.word == [103, 104, 111, 115, 116]) = true := by rw [hw]; rfl
 have a_var : (x.word == [118, 97, 114]) = false := by rw [hw]; rfl
 have a_freq : (x.word == [102, 114, 101, 113]) = false := by rw [hw]; rfl
 clear hw
 go_enter Tryz.func61, Tryz.ntmps61
 go_wp2_with fail
 refine (cdeclare_any h1 hd x.name 0 hn (by omega)).mono ?_
 rintro e w2 ⟨rfl, h2, K2⟩
 have hb2 : w2.heap[w.heap.size]? = some (.cells (dcA x) 120) := (K2.block _ (by first | (simp; done) | (have := K2.size; simp at this; omega)) (by omega) (by omega) (by omega)).trans (heap_new rfl)
 have q24 : w2.cell? ⟨w.heap.size, 4, none⟩ = some (.int .i64 x.num.1) := by simp [World.cell?, hb2]
 have q25 : w2.cell? ⟨w.heap.size, 5, none⟩ = some (.int .i64 x.num.2) := by simp [World.cell?, hb2]
 go_wp2_with fail
 refine (cbound_any h2 x.num.1 x.num.2 50).mono ?_
 rintro e w3 ⟨rfl, h3, K3⟩
 go_wp2_with fail
 exact end0 rfl rfl ⟨rfl, h3, (B1.trans K2).trans K3⟩
theorem cdecl_var {w : World} {lo c nb rb : Nat} {E : Nat -> Value} {s : Ck} (h : CkAt w lo c nb rb E s) (hd : nb ≠ rb) (x : Dc) (hn : x.name.1.length <= 700) (_hfq : s.freqs < 1000) (hw : x.word = [118, 97, 114]) :
  Calls Tryz.prog 61 #[ptr c, .agg (dcA x)] w fun e w' => OutC w lo c nb rb E (s.decl x) e w' := by
 have h1 := h.box (.cells (dcA x) 120)
 have B1 : Kp c nb rb w (w.alloc (.cells (dcA x) 120)) := (Kp.refl c nb rb w).alloc _
 have hin := h.in
 have e1 : s.decl x = (s.declare x.name 1).bound x.num.1 x.num.2 99 := by simp [Ck.decl, hw]
 rw [e1]
 clear e1
 have a_queue : (x.word == [113, 117, 101, 117, 101]) = false := by rw [hw]; rfl
 have a_ghost : (x.word == [103, 104, 111, 115, 116]) = false := by rw [hw]; rfl
 have a_var : (x.word == [118, 97, 114]) = true := by rw [hw]; rfl
 have a_freq : (x.word == [102, 114, 101, 113]) = false := by rw [hw]; rfl
 clear hw
 go_enter Tryz.func61, Tryz.ntmps61
 go_wp2_with fail
 refine (cdeclare_any h1 hd x.name 1 hn (by omega)).mono ?_
 rintro e w2 ⟨rfl, h2, K2⟩
 have hb2 : w2.heap[w.heap.size]? = some (.cells (dcA x) 120) := (K2.block _ (by first | (simp; done) | (have := K2.size; simp at this; omega)) (by omega) (by omega) (by omega)).trans (heap_new rfl)
 have q24 : w2.cell? ⟨w.heap.size, 4, none⟩ = some (.int .i64 x.num.1) := by simp [World.cell?, hb2]
 have q25 : w2.cell? ⟨w.heap.size, 5, none⟩ = some (.int .i64 x.num.2) := by simp [World.cell?, hb2]
 go_wp2_with fail
 refine (cbound_any h2 x.num.1 x.num.2 99).mono ?_
 rintro e w3 ⟨rfl, h3, K3⟩
 go_wp2_with fail
 exact end0 rfl rfl ⟨rfl, h3, (B1.trans K2).trans K3⟩
theorem cdecl_freq {w : World} {lo c nb rb : Nat} {E : Nat -> Value} {s : Ck} (h : CkAt w lo c nb rb E s) (_hd : nb ≠ rb) (x : Dc) (_hn : x.name.1.length <= 700) (hfq : s.freqs < 1000) (hw : x.word = [102, 114, 101, 113]) :
  Calls Tryz.prog 61 #[ptr c, .agg (dcA x)] w fun e w' => OutC w lo c nb rb E (s.decl x) e w' := by
 have h1 := h.box (.cells (dcA x) 120)
 have B1 : Kp c nb rb w (w.alloc (.cells (dcA x) 120)) := (Kp.refl c nb rb w).alloc _
 have hin := h.in
 have a_queue : (x.word == [113, 117, 101, 117, 101]) = false := by rw [hw]; rfl
 have a_ghost : (x.word == [103, 104, 111, 115, 116]) = false := by rw [hw]; rfl
 have a_var : (x.word == [118, 97, 114]) = false := by rw [hw]; rfl
 have a_freq : (x.word == [102, 114, 101, 113]) = true := by rw [hw]; rfl
 have h0 := h.freq hfq
 have e2 : ((s.freqs + 1 : Nat) : Int) = (s.freqs : Int) + 1 := by omega
 rw [e2] at h0
 obtain ⟨h2, K2⟩ := h0
 have h2 := h2.box (.cells (dcA x) 120)
 have K2 := K2.alloc (.cells (dcA x) 120)
 have hb : ((w.setCell ⟨c, 1, none⟩ (.int .i64 ((s.freqs : Int) + 1))).alloc (.cells (dcA x) 120)).heap[w.heap.size]? = some (.cells (dcA x) 120) := heap_new (by simp [World.setCell])
 have z2 : w.heap.size < ((w.setCell ⟨c, 1, none⟩ (.int .i64 ((s.freqs : Int) + 1))).alloc (.cells (dcA x) 120)).heap.size := by simp [World.setCell]
 obtain ⟨c0, c1, c2, cf⟩ := h1.cells
 by_cases hm : s.freqs + 1 > 1
 ·have e1 : s.decl x = (({ s with freqs := s.freqs + 1 } : Ck).fault 3 x.pos).bound x.num.1 x.num.2 99 := by
   simp only [Ck.decl, hw]; rw [if_neg (by decide), if_neg (by decide), if_pos trivial, if_pos hm]
  rw [e1]
  clear e1 hw
  go_enter Tryz.func61, Tryz.ntmps61
  go_upto_region 11 with fail
  generalize ((w.setCell ⟨c, 1, none⟩ (.int .i64 ((s.freqs : Int) + 1))).alloc (.cells (dcA x) 120)) = w2 at *
  obtain ⟨d0, d1, d2, df⟩ := h2.cells
  have g3 := h2.gl 3 (by omega) (by omega)
  have q1 : w2.cell? ⟨w.heap.size, 1, none⟩ = some (.int .i64 x.pos) := by simp [World.cell?, hb]
  go_wp2_with fail
  refine (cfault_any h2 3 x.pos).mono ?_
  rintro e w3 ⟨rfl, h3, K3⟩
  have hb3 : w3.heap[w.heap.size]? = some (.cells (dcA x) 120) := (K3.block _ z2 (by omega) (by omega) (by omega)).trans hb
  have q4 : w3.cell? ⟨w.heap.size, 4, none⟩ = some (.int .i64 x.num.1) := by simp [World.cell?, hb3]
  have q5 : w3.cell? ⟨w.heap.size, 5, none⟩ = some (.int .i64 x.num.2) := by simp [World.cell?, hb3]
  go_wp2_with fail
  refine (cbound_any h3 x.num.1 x.num.2 99).mono ?_
  rintro e w4 ⟨rfl, h4, K4⟩
  go_wp2_with fail
  exact end0 rfl rfl ⟨rfl, h4, (K2.trans K3).trans K4⟩
 ·have e1 : s.decl x = ({ s with freqs := s.freqs + 1 } : Ck).bound x.num.1 x.num.2 99 := by
   simp only [Ck.decl, hw]; rw [if_neg (by decide), if_neg (by decide), if_pos trivial, if_neg hm]
  rw [e1]
  clear e1 hw
  go_enter Tryz.func61, Tryz.ntmps61
  go_upto_region 11 with fail
  generalize ((w.setCell ⟨c, 1, none⟩ (.int .i64 ((s.freqs : Int) + 1))).alloc (.cells (dcA x) 120)) = w2 at *
  obtain ⟨d0, d1, d2, df⟩ := h2.cells
  have q4 : w2.cell? ⟨w.heap.size, 4, none⟩ = some (.int .i64 x.num.1) := by simp [World.cell?, hb]
  have q5 : w2.cell? ⟨w.heap.size, 5, none⟩ = some (.int .i64 x.num.2) := by simp [World.cell?, hb]
  go_wp2_with fail
  refine (cbound_any h2 x.num.1 x.num.2 99).mono ?_
  rintro e w4 ⟨rfl, h4, K4⟩
  go_wp2_with fail
  exact end0 rfl rfl ⟨rfl, h4, K2.trans K4⟩
theorem cdecl_any {w : World} {lo c nb rb : Nat} {E : Nat -> Value} {s : Ck} (h : CkAt w lo c nb rb E s) (hd : nb ≠ rb) (x : Dc) (hn : x.name.1.length <= 700) (hfq : s.freqs < 1000) :
  Calls Tryz.prog 61 #[ptr c, .agg (dcA x)] w fun e w' => OutC w lo c nb rb E (s.decl x) e w' := by
 have h1 := h.box (.cells (dcA x) 120)
 have B1 : Kp c nb rb w (w.alloc (.cells (dcA x) 120)) := (Kp.refl c nb rb w).alloc _
 have hin := h.in
 by_cases w_queue : x.word = [113, 117, 101, 117, 101]
 ·exact cdecl_queue h hd x hn hfq w_queue
 by_cases w_ghost : x.word = [103, 104, 111, 115, 116]
 ·exact cdecl_ghost h hd x hn hfq w_ghost
 by_cases w_var : x.word = [118, 97, 114]
 ·exact cdecl_var h hd x hn hfq w_var
 by_cases w_freq : x.word = [102, 114, 101, 113]
 ·exact cdecl_freq h hd x hn hfq w_freq
 have e1 : s.decl x = s := by simp [Ck.decl, w_queue, w_ghost, w_var, w_freq]
 rw [e1]
 clear e1
 have a_queue : (x.word == [113, 117, 101, 117, 101]) = false := by simp [w_queue]
 have a_ghost : (x.word == [103, 104, 111, 115, 116]) = false := by simp [w_ghost]
 have a_var : (x.word == [118, 97, 114]) = false := by simp [w_var]
 have a_freq : (x.word == [102, 114, 101, 113]) = false := by simp [w_freq]
 clear w_queue w_ghost w_var w_freq
 go_enter Tryz.func61, Tryz.ntmps61
 go_wp2_with fail
 exact end0 rfl rfl ⟨rfl, h1, B1⟩
def Ck.count (s : Ck) (n : NP) : Ck := { s with rules := (n.1, (look n.1 s.rules).getD 0 + 1) :: s.rules }
def Ck.rule1 (s : Ck) (p : Nat) (n : NP) : Ck := if (look n.1 s.rules).getD 0 + 1 > 1 then (s.count n).fault 7 p else s.count n
def Ck.rule2 (s : Ck) (n : NP) : Ck := if n.1 = [109, 105, 115, 115] then s else s.use n 0
def Ck.rule (s : Ck) (r : Nat × NP × BT 8) : Ck := ((s.rule1 r.1 r.2.1).rule2 r.2.1).block 8 r.2.2
theorem CkAt.apartR {w : World} {lo c nb rb : Nat} {E : Nat -> Value} {s : Ck} (h : CkAt w lo c nb rb E s) (hd : nb ≠ rb) {w' : World} (hg : w.grownBy w' (some rb)) {m : List (List UInt8 × Nat)} {n' : Nat} (hn' : n' <= m.length) (hm : MapR w' 3 rb n' m) (h8 : m.length <= 1000) : CkAt w' lo c nb rb E { s with rules := m } /\ Kp c nb rb w w' := by
 obtain ⟨v, hc, hf⟩ := h.cell
 have hne := h.ne
 have hin := h.in
 have hlow := h.low
 have K : ∀ k, k < w.heap.size -> k ≠ rb -> w'.heap[k]? = w.heap[k]? := fun k hk hh => hg.block k hk (by simpa using hh)
 refine ⟨⟨⟨v, (K _ hin.1 hne.2).trans hc, FirstR.move hf fun f x hx => K _ (Array.getElem?_eq_some_iff.1 hx).1 ?_⟩, h.names.move (K _ hin.2.1 hd), ⟨n', hn', hm⟩, fun i h1 h2 => ?_, ⟨hlow.1, hlow.2.1, hlow.2.2.1, hlow.2.2.2.1, Nat.le_trans hlow.2.2.2.2 hg.size⟩, ⟨h.few.1, h8, h.few.2.2⟩⟩, hg.os, hg.tape, hg.output, hg.size, fun k hk _ _ h3 => K k hk h3⟩
 ·rintro rfl
  obtain ⟨n, _, D, ⟨es, k, h1, _⟩, _⟩ := h.rules
  rw [hx] at h1
  simp at h1
 ·have := h.gl i h1 h2
  rw [<- this]
  unfold World.cell?
  rw [K i (by omega) (by omega)]
theorem crule_any {w : World} {lo c nb rb : Nat} {E : Nat -> Value} {s : Ck} (h : CkAt w lo c nb rb E s) (hd : nb ≠ rb) (p : Nat) (n : NP) (v : Value) (x : BT 8) (hn : n.1.length <= 700) (hx : SlR 8 w (fun g => g < lo) v x) (hsm : smallB 8 x) (hl : s.rules.length < 1000) (hc : (look n.1 s.rules).getD 0 < 1000) :
  Calls Tryz.prog 62 #[ptr c, .agg (ruA p n v)] w fun e w' => OutC w lo c nb rb E (s.rule (p, n, x)) e w' := by
 obtain ⟨v1, v2, v3, rfl⟩ := SlR.form 8 _ _ hx
 have h1 := (h.box (.cells (ruA p n (.slice v1 v2 v3)) 161)).drew
 have B1 : Kp c nb rb w (w.alloc (.cells (ruA p n (.slice v1 v2 v3)) 161)).drew := ((Kp.refl c nb rb w).alloc _).drew
 obtain ⟨c0, c1, c2, cf⟩ := h1.cells
 obtain ⟨m, hm, hr⟩ := h1.rules
 have hget := hr.get u81 u3 (z3 _) n.1 hn
 have hput := hr.put u81 u3 (by omega) n.1 hn ((look n.1 s.rules).getD 0 + 1) (by omega)
 obtain ⟨w2, hrun, hm2, hgr, hsz⟩ := hput
 obtain ⟨h2, K2⟩ := h1.apartR hd hgr (m := (n.1, (look n.1 s.rules).getD 0 + 1) :: s.rules) (by simp; split <;> omega) hm2 (by simp; omega)
 have hin := h.in
 have hlow := h.low
 have hb2 : w2.heap[w.heap.size]? = some (.cells (ruA p n (.slice v1 v2 v3)) 161) := (K2.block _ (by show _ < (w.alloc _).heap.size; simp) (by omega) (by omega) (by omega)).trans (heap_new (w := w) rfl)
 have e2 : (((look n.1 s.rules).getD 0 + 1 : Nat) : Int) = ((look n.1 s.rules).getD 0 : Int) + 1 := by omega
 rw [e2] at hrun
 have z2 : w.heap.size < w2.heap.size := (Array.getElem?_eq_some_iff.1 hb2).1
 generalize hs : s.rule (p, n, x) = s'
 have HS : ((s.rule1 p n).rule2 n).block 8 x = s' := hs
 clear hs
 have h2 : CkAt w2 lo c nb rb E (s.count n) := h2
 have h3 := h2.drew
 obtain ⟨d0, d1, d2, df⟩ := h3.cells
 obtain ⟨m3, hm3, hr3⟩ := h3.rules
 have hget3 := hr3.get u81 u3 (z3 _) n.1 hn
 have lk : look n.1 (s.count n).rules = some ((look n.1 s.rules).getD 0 + 1) := by simp [Ck.count, look_cons]
 rw [lk] at hget3
 have g6 := h3.gl 7 (by omega) (by omega)
 have q0 : w2.drew.cell? ⟨w.heap.size, 0, none⟩ = some (.int .i64 p) := by simp [World.cell?, show w2.drew.heap[w.heap.size]? = _ from hb2]
 have q1 : w2.drew.cell? ⟨w.heap.size, 1, none⟩ = some (S n.1) := by simp [World.cell?, show w2.drew.heap[w.heap.size]? = _ from hb2, S]
 have q2 : w2.drew.cell? ⟨w.heap.size, 2, none⟩ = some (.int .i64 n.2) := by simp [World.cell?, show w2.drew.heap[w.heap.size]? = _ from hb2]
 have q3 : w2.drew.cell? ⟨w.heap.size, 3, none⟩ = some (.slice v1 v2 v3) := by simp [World.cell?, show w2.drew.heap[w.heap.size]? = _ from hb2]
 have K3 : Kp c nb rb w w2.drew := (B1.trans K2).drew
 by_cases hcn : (look n.1 s.rules).getD 0 + 1 > 1
 ·rw [show s.rule1 p n = (s.count n).fault 7 p from if_pos hcn] at HS
  have HS : Hid ((((s.count n).fault 7 p).rule2 n).block 8 x = s') := HS
  go_enter Tryz.func62, Tryz.ntmps62
  go_wp2_with fail
  go_region
  all_goals go_wp2_with fail
  go_region
  go_wp2_with fail
  refine (cfault_any h3 7 p).mono ?_
  rintro e w4 ⟨rfl, h4, K4⟩
  have hb4 : w4.heap[w.heap.size]? = some (.cells (ruA p n (.slice v1 v2 v3)) 161) := (K4.block _ z2 (by omega) (by omega) (by omega)).trans hb2
  have z4 : w.heap.size < w4.heap.size := (Array.getElem?_eq_some_iff.1 hb4).1
  replace HS := HS.out
  clear q0 q1 q2 q3
  by_cases hmi : n.1 = [109, 105, 115, 115]
  ·rw [show ((s.count n).fault 7 p).rule2 n = (s.count n).fault 7 p from if_pos hmi] at HS
   have a1 : (n.1 == [109, 105, 115, 115]) = true := by simp [hmi]
   clear hmi
   subst HS
   have q0 : w4.cell? ⟨w.heap.size, 0, none⟩ = some (.int .i64 p) := by simp [World.cell?, hb4]
   have q1 : w4.cell? ⟨w.heap.size, 1, none⟩ = some (S n.1) := by simp [World.cell?, hb4, S]
   have q2 : w4.cell? ⟨w.heap.size, 2, none⟩ = some (.int .i64 n.2) := by simp [World.cell?, hb4]
   have q3 : w4.cell? ⟨w.heap.size, 3, none⟩ = some (.slice v1 v2 v3) := by simp [World.cell?, hb4]
   go_wp2_with fail
   refine (cblk_all 8 _ _ _ _ _ _ _ _ _ h4 (SlR.kp (K3.trans K4) hlow.2.1 hlow.2.2.1 hlow.2.2.2.1 hx) hsm).mono ?_
   rintro e w9 ⟨rfl, h9, K9⟩
   go_wp2_with fail
   exact end0 rfl rfl ⟨rfl, h9, (K3.trans K4).trans K9⟩
  ·rw [show ((s.count n).fault 7 p).rule2 n = ((s.count n).fault 7 p).use n 0 from if_neg hmi] at HS
   have a1 : (n.1 == [109, 105, 115, 115]) = false := by simp [hmi]
   clear hmi
   subst HS
   have q0 : w4.cell? ⟨w.heap.size, 0, none⟩ = some (.int .i64 p) := by simp [World.cell?, hb4]
   have q1 : w4.cell? ⟨w.heap.size, 1, none⟩ = some (S n.1) := by simp [World.cell?, hb4, S]
   have q2 : w4.cell? ⟨w.heap.size, 2, none⟩ = some (.int .i64 n.2) := by simp [World.cell?, hb4]
   have q3 : w4.cell? ⟨w.heap.size, 3, none⟩ = some (.slice v1 v2 v3) := by simp [World.cell?, hb4]
   go_wp2_with fail
   refine (cuse_any h4 n 0 hn).mono ?_
   rintro e w5 ⟨rfl, h5, K5⟩
   have hb5 : w5.heap[w.heap.size]? = some (.cells (ruA p n (.slice v1 v2 v3)) 161) := (K5.block _ z4 (by omega) (by omega) (by omega)).trans hb4
   have q35 : w5.cell? ⟨w.heap.size, 3, none⟩ = some (.slice v1 v2 v3) := by simp [World.cell?, hb5]
   go_wp2_with fail
   refine (cblk_all 8 _ _ _ _ _ _ _ _ _ h5 (SlR.kp ((K3.trans K4).trans K5) hlow.2.1 hlow.2.2.1 hlow.2.2.2.1 hx) hsm).mono ?_
   rintro e w9 ⟨rfl, h9, K9⟩
   go_wp2_with fail
   exact end0 rfl rfl ⟨rfl, h9, ((K3.trans K4).trans K5).trans K9⟩
 ·rw [show s.rule1 p n = s.count n from if_neg hcn] at HS
  clear q0 q1 q2 q3
  have hbd : w2.drew.heap[w.heap.size]? = some (.cells (ruA p n (.slice v1 v2 v3)) 161) := hb2
  have zd : w.heap.size < w2.drew.heap.size := z2
  by_cases hmi : n.1 = [109, 105, 115, 115]
  ·rw [show (s.count n).rule2 n = s.count n from if_pos hmi] at HS
   have a1 : (n.1 == [109, 105, 115, 115]) = true := by simp [hmi]
   clear hmi
   subst HS
   have q0 : w2.drew.cell? ⟨w.heap.size, 0, none⟩ = some (.int .i64 p) := by simp [World.cell?, hbd]
   have q1 : w2.drew.cell? ⟨w.heap.size, 1, none⟩ = some (S n.1) := by simp [World.cell?, hbd, S]
   have q2 : w2.drew.cell? ⟨w.heap.size, 2, none⟩ = some (.int .i64 n.2) := by simp [World.cell?, hbd]
   have q3 : w2.drew.cell? ⟨w.heap.size, 3, none⟩ = some (.slice v1 v2 v3) := by simp [World.cell?, hbd]
   go_enter Tryz.func62, Tryz.ntmps62
   go_wp2_with fail
   go_region
   all_goals go_wp2_with fail
   go_region
   go_wp2_with fail
   refine (cblk_all 8 _ _ _ _ _ _ _ _ _ h3 (SlR.kp (K3) hlow.2.1 hlow.2.2.1 hlow.2.2.2.1 hx) hsm).mono ?_
   rintro e w9 ⟨rfl, h9, K9⟩
   go_wp2_with fail
   exact end0 rfl rfl ⟨rfl, h9, (K3).trans K9⟩
  ·rw [show (s.count n).rule2 n = (s.count n).use n 0 from if_neg hmi] at HS
   have a1 : (n.1 == [109, 105, 115, 115]) = false := by simp [hmi]
   clear hmi
   subst HS
   have q0 : w2.drew.cell? ⟨w.heap.size, 0, none⟩ = some (.int .i64 p) := by simp [World.cell?, hbd]
   have q1 : w2.drew.cell? ⟨w.heap.size, 1, none⟩ = some (S n.1) := by simp [World.cell?, hbd, S]
   have q2 : w2.drew.cell? ⟨w.heap.size, 2, none⟩ = some (.int .i64 n.2) := by simp [World.cell?, hbd]
   have q3 : w2.drew.cell? ⟨w.heap.size, 3, none⟩ = some (.slice v1 v2 v3) := by simp [World.cell?, hbd]
   go_enter Tryz.func62, Tryz.ntmps62
   go_wp2_with fail
   go_region
   all_goals go_wp2_with fail
   go_region
   go_wp2_with fail
   refine (cuse_any h3 n 0 hn).mono ?_
   rintro e w5 ⟨rfl, h5, K5⟩
   have hb5 : w5.heap[w.heap.size]? = some (.cells (ruA p n (.slice v1 v2 v3)) 161) := (K5.block _ zd (by omega) (by omega) (by omega)).trans hbd
   have q35 : w5.cell? ⟨w.heap.size, 3, none⟩ = some (.slice v1 v2 v3) := by simp [World.cell?, hb5]
   go_wp2_with fail
   refine (cblk_all 8 _ _ _ _ _ _ _ _ _ h5 (SlR.kp ((K3).trans K5) hlow.2.1 hlow.2.2.1 hlow.2.2.2.1 hx) hsm).mono ?_
   rintro e w9 ⟨rfl, h9, K9⟩
   go_wp2_with fail
   exact end0 rfl rfl ⟨rfl, h9, ((K3).trans K5).trans K9⟩
def ck0 : Ck := ⟨[], 0, [], none⟩
def missS (s : Ck) : Ck := if (look [109, 105, 115, 115] s.rules).getD 0 = 0 then s.fault 9 0 else s
def checkS (ds : List Dc) (rs : List (Nat × NP × BT 8)) : Ck := missS (rs.foldl Ck.rule (ds.foldl Ck.decl ck0))
def OutK (w : World) (E : Nat -> Value) (s : Ck) (e : Ending) (w' : World) : Prop :=
 ∃ v, e = .returned v /\ FirstR w' w.heap.size E v s.first /\ Below w.heap.size w w'
theorem flat_at {α : Type} (f : α -> List Value) (L : Nat) (hL : ∀ a, (f a).length = L) : ∀ (xs : List α) (k : Nat) (a : α), xs[k]? = some a -> ∀ (j : Nat) (u : Value), (f a)[j]? = some u -> (xs.flatMap f)[k * L + j]? = some u := by
 intro xs
 induction xs with
 | nil => intro k a h; simp at h
 | cons q qs ih =>
  intro k a h j u hu
  have hj : j < L := by rw [<- hL a]; exact (List.getElem?_eq_some_iff.1 hu).1
  cases k with
  | zero =>
   simp at h
   subst h
   simp only [List.flatMap_cons, Nat.zero_mul, Nat.zero_add]
   rw [List.getElem?_append_left (by rw [hL]; exact hj)]
   exact hu
  | succ k =>
   simp only [List.flatMap_cons]
   have e : (k + 1) * L + j = (f q).length + (k * L + j) := by rw [hL, Nat.succ_mul]; omega
   rw [e, List.getElem?_append_right (by omega), Nat.add_sub_cancel_left]
   exact ih k a (by simpa using h) j u hu
theorem fault_fr (s : Ck) (i p : Nat) : (s.fault i p).freqs = s.freqs /\ (s.fault i p).rules = s.rules := by unfold Ck.fault; split <;> exact ⟨rfl, rfl⟩
theorem bound_fr (s : Ck) (v p m : Nat) : (s.bound v p m).freqs = s.freqs /\ (s.bound v p m).rules = s.rules := by unfold Ck.bound; split; exact fault_fr _ _ _; exact ⟨rfl, rfl⟩
theorem declare_fr (s : Ck) (n : NP) (k : Nat) : (s.declare n k).freqs = s.freqs /\ (s.declare n k).rules = s.rules := by
 unfold Ck.declare
 split
 ·exact fault_fr _ _ _
 ·split
  ·exact fault_fr _ _ _
  ·exact ⟨rfl, rfl⟩
theorem decl_fr (s : Ck) (d : Dc) : (s.decl d).freqs <= s.freqs + 1 /\ (s.decl d).rules = s.rules := by
 unfold Ck.decl
 split
 ·rw [(bound_fr _ _ _ _).1, (bound_fr _ _ _ _).2, (declare_fr _ _ _).1, (declare_fr _ _ _).2]; exact ⟨by omega, rfl⟩
 ·split
  ·rw [(bound_fr _ _ _ _).1, (bound_fr _ _ _ _).2, (declare_fr _ _ _).1, (declare_fr _ _ _).2]; exact ⟨by omega, rfl⟩
  ·split
   ·rw [(bound_fr _ _ _ _).1, (bound_fr _ _ _ _).2]
    split
    ·rw [(fault_fr _ _ _).1, (fault_fr _ _ _).2]; exact ⟨Nat.le_refl _, rfl⟩
    ·exact ⟨Nat.le_refl _, rfl⟩
   ·exact ⟨by omega, rfl⟩
theorem use_ru (s : Ck) (n : NP) (k : Nat) : (s.use n k).rules = s.rules := by
 unfold Ck.use
 split
 ·exact (fault_fr _ _ _).2
 ·split
  ·rfl
  ·exact (fault_fr _ _ _).2
theorem value_ru (s : Ck) (v : Vl) : (s.value v).rules = s.rules := by
 unfold Ck.value
 split
 ·exact use_ru _ _ _
 ·split
  ·exact use_ru _ _ _
  ·rfl
theorem cond_ru (s : Ck) (x : Cd) : (s.cond x).rules = s.rules := by
 unfold Ck.cond
 split
 ·rw [value_ru, value_ru]
 ·exact use_ru _ _ _
theorem stmt_ru {β : Type} (blk : Ck -> β -> Ck) (hb : ∀ s x, (blk s x).rules = s.rules) (s : Ck) (r : St × β × β) : (s.stmt blk r).rules = s.rules := by
 unfold Ck.stmt
 split
 ·exact use_ru _ _ _
 ·split
  ·rw [use_ru, use_ru]
  ·split
   ·exact use_ru _ _ _
   ·split
    ·rw [hb, hb, cond_ru]
    ·split
     ·rw [hb, cond_ru, (bound_fr _ _ _ _).2]
     ·rfl
theorem block_ru : ∀ (d : Nat) (s : Ck) (x : BT d), (s.block d x).rules = s.rules
 | 0, _, _ => rfl
 | d + 1, s, x => by
  have : ∀ (xs : List (St × BT d × BT d)) (s : Ck), (List.foldl (fun s r => s.stmt (Ck.block d) r) s xs).rules = s.rules := by
   intro xs
   induction xs with
   | nil => intro s; rfl
   | cons r rs ih => intro s; rw [List.foldl_cons, ih, stmt_ru _ (fun s x => block_ru d s x)]
  exact this x s
theorem rule_ru (s : Ck) (r : Nat × NP × BT 8) : (s.rule r).rules = (r.2.1.1, (look r.2.1.1 s.rules).getD 0 + 1) :: s.rules := by
 unfold Ck.rule
 rw [block_ru]
 have e1 : (s.rule1 r.1 r.2.1).rules = (r.2.1.1, (look r.2.1.1 s.rules).getD 0 + 1) :: s.rules := by
  unfold Ck.rule1
  split
  ·rw [(fault_fr _ _ _).2]; rfl
  ·rfl
 unfold Ck.rule2
 split
 ·exact e1
 ·rw [use_ru]; exact e1
theorem RelU.len {P : Value -> BT 8 -> Prop} : ∀ (rs : List (Nat × NP × Value)) (xs : List (Nat × NP × BT 8)), RelU P rs xs -> rs.length = xs.length
 | [], [], _ => rfl
 | _ :: rs, _ :: xs, ⟨_, _, _, d⟩ => by simp [RelU.len rs xs d]
theorem RelU.at {P : Value -> BT 8 -> Prop} : ∀ (rs : List (Nat × NP × Value)) (xs : List (Nat × NP × BT 8)), RelU P rs xs -> ∀ k, k < rs.length -> ∃ p n v x, rs[k]? = some (p, n, v) /\ (p, n, x) ∈ xs /\ xs.drop k = (p, n, x) :: xs.drop (k + 1) /\ P v x
 | [], [], _, k, h => by simp at h
 | (p, n, v) :: rs, (p', n', x) :: xs, ⟨a, b, c, d⟩, 0, _ => ⟨p, n, v, x, rfl, by have a : p = p' := a; have b : n = n' := b; subst a b; simp, by have a : p = p' := a; have b : n = n' := b; subst a b; simp, c⟩
 | _ :: rs, _ :: xs, ⟨_, _, _, d⟩, k + 1, h => by
  obtain ⟨p, n, v, x, h1, h2, h3, h4⟩ := RelU.at rs xs d k (by simpa using h)
  exact ⟨p, n, v, x, by simpa using h1, List.mem_cons_of_mem _ h2, by simpa using h3, h4⟩
theorem check_any {w : World} (n : Nat) (vd vr : Value) (ds : List Dc) (rows : List (Nat × NP × Value)) (rs : List (Nat × NP × BT 8)) (E : Nat -> Value)
  (hP : w.heap[n]? = some (.cells #[vd, vr] 114)) (hod : w.ownsRow (n + 1) 120 6 vd ds.length (flatD ds)) (hou : w.ownsRow (n + 1) 161 4 vr rows.length (flatU rows)) (hrel0 : RelU (SlR 8 w (fun g => n + 1 <= g)) rows rs)
  (gl : ∀ i, 2 < i -> i < 10 -> w.cell? ⟨i, 0, none⟩ = some (.iface 278 (E i))) (hlo : 10 < w.heap.size)
  (hd7 : ∀ d ∈ ds, d.name.1.length <= 700) (hr7 : ∀ r ∈ rs, r.2.1.1.length <= 700 /\ smallB 8 r.2.2) (hdn : ds.length <= 900) (hrn : rs.length <= 900) :
  Calls Tryz.prog 42 #[ptr n] w fun e w' => OutK w E (checkS ds rs) e w' := by
 have hmm := @run_makeMap Tryz.prog
 generalize hs : checkS ds rs = s'
 have HS : Hid (checkS ds rs = s') := hs
 clear hs
 have p0 : w.cell? ⟨n, 0, none⟩ = some vd := by simp [World.cell?, hP]
 have p1 : w.cell? ⟨n, 1, none⟩ = some vr := by simp [World.cell?, hP]
 obtain ⟨da, dk, dc, rfl⟩ := ownsRow_form2 hod
 obtain ⟨ra, rk, rc, rfl⟩ := ownsRow_form2 hou
 go_enter Tryz.func42, Tryz.ntmps42
 go_upto_region 2 with fail
 have h1 : CkAt (((w.alloc (.map #[] 0)).alloc (.map #[] 0)).alloc (.cells #[.map (some w.heap.size), .int .i64 0, .map (some (w.heap.size + 1)), .nilIface] 157)) w.heap.size (w.heap.size + 1 + 1) w.heap.size (w.heap.size + 1) E ck0 := by
  refine ⟨⟨.nilIface, heap_new (by simp), rfl⟩, ?_, ⟨0, Nat.le_refl _, ?_⟩, fun i h1 h2 => ?_, ?_, ?_⟩
  ·exact (MapR.made w _).move (by rw [Below.heap_alloc _ _ _ (by simp; omega), Below.heap_alloc _ _ _ (by simp)])
  ·have := MapR.made (w.alloc (.map #[] 0)) 3
   rw [show (w.alloc (.map #[] 0)).heap.size = w.heap.size + 1 by simp] at this
   exact this.move (by rw [Below.heap_alloc _ _ _ (by simp)])
  ·rw [<- gl i h1 h2]
   unfold World.cell?
   rw [Below.heap_alloc _ _ _ (by simp; omega), Below.heap_alloc _ _ _ (by simp; omega), Below.heap_alloc _ _ _ (by show i < _; omega)]
  ·simp; omega
  ·simp [ck0]
 have B1 : Below w.heap.size w (((w.alloc (.map #[] 0)).alloc (.map #[] 0)).alloc (.cells #[.map (some w.heap.size), .int .i64 0, .map (some (w.heap.size + 1)), .nilIface] 157)) := (((Below.refl _ w).alloc (Nat.le_refl _) _).alloc (by simp) _).alloc (by simp; omega) _
 have z1 : w.heap.size + 2 < (((w.alloc (.map #[] 0)).alloc (.map #[] 0)).alloc (.cells #[.map (some w.heap.size), .int .i64 0, .map (some (w.heap.size + 1)), .nilIface] 157)).heap.size := by simp
 generalize (((w.alloc (.map #[] 0)).alloc (.map #[] 0)).alloc (.cells #[.map (some w.heap.size), .int .i64 0, .map (some (w.heap.size + 1)), .nilIface] 157)) = w1 at *
 have hlt : n < w.heap.size := (Array.getElem?_eq_some_iff.1 hP).1
 have P1 : w1.heap[n]? = some (.cells #[.slice da dk dc, .slice ra rk rc] 114) := (B1.block _ hlt).trans hP
 have p10 : w1.cell? ⟨n, 0, none⟩ = some (.slice da dk dc) := by simp [World.cell?, P1]
 have p11 : w1.cell? ⟨n, 1, none⟩ = some (.slice ra rk rc) := by simp [World.cell?, P1]
 have hne : w.heap.size ≠ w.heap.size + 1 := by omega
 clear p0 p1 gl
 generalize hcc : w.heap.size + 1 + 1 = c at *
 generalize hrb : w.heap.size + 1 = rb at *
 generalize hnb : w.heap.size = nb at *
 have hdk : dk = ds.length := by
  rcases hod.2 with ⟨h1, h2⟩ | ⟨g, cap, cur, h1, _⟩
  ·simp at h1; omega
  ·simp at h1; omega
 have hrk : rk = rows.length := by
  rcases hou.2 with ⟨h1, h2⟩ | ⟨g, cap, cur, h1, _⟩
  ·simp at h1; omega
  ·simp at h1; omega
 subst hdk hrk
 go_wp2_with fail
 go_loopg [17] ds.length (fun f i wr => ∃ (k : Nat) (sk : Ck), k + f = ds.length /\ i = .int .i64 k /\ CkAt wr nb c nb rb E sk /\ Below nb w wr /\ Hid (s' = missS (rs.foldl Ck.rule ((ds.drop k).foldl Ck.decl sk))) /\ sk.freqs <= k /\ sk.rules = [])
 case atStart => exact ⟨0, ck0, by omega, rfl, h1, B1, HS.out.symm, Nat.le_refl _, rfl⟩
 case round =>
  obtain ⟨k, sk, hk, rfl, h2, B2, HK, hfq, hrl⟩ := hrel
  have P2 : wr.heap[n]? = some (.cells #[.slice da ds.length dc, .slice ra rows.length rc] 114) := (B2.block _ (by omega)).trans hP
  have p20 : wr.cell? ⟨n, 0, none⟩ = some (.slice da ds.length dc) := by simp [World.cell?, P2]
  have p21 : wr.cell? ⟨n, 1, none⟩ = some (.slice ra rows.length rc) := by simp [World.cell?, P2]
  clear p10 p11 P1 h1 B1
  by_cases hlt1 : k < ds.length
  ·obtain ⟨x, hx⟩ : ∃ x, ds[k]? = some x := ⟨_, List.getElem?_eq_getElem hlt1⟩
   have hdr : ds.drop k = x :: ds.drop (k + 1) := by
    rw [List.drop_eq_getElem_cons hlt1]
    rw [List.getElem?_eq_getElem hlt1] at hx
    simp at hx
    rw [hx]
   have hx7 := hd7 x (List.mem_of_getElem? hx)
   have hg : ∃ g, da = some ⟨g, 0, none⟩ := by
    rcases hod.2 with ⟨h1, h2⟩ | ⟨g, cap, cur, h1, _⟩
    ·omega
    ·simp at h1; exact ⟨g, h1.1⟩
   obtain ⟨g, rfl⟩ := hg
   have hgl : g < nb := by have := (hod.lt g rfl).2; omega
   have hix : ∀ W : World, (Instr.indexAt 111 (.slice (some ⟨g, 0, none⟩) ds.length dc) (.int .i64 k)).run Tryz.prog W = .ok (.pointer (some ⟨g, k * 6, none⟩)) W := by
    intro W
    rw [run_indexAt_slice (h := by kernel_rfl), if_pos (by omega)]
    have : (sizeOf (Tryz.prog.elem 111)).run Tryz.prog W = .ok 6 W := by kernel_rfl
    rw [this]
    simp [Result.andThen, Addr.add]
    omega
   have hown1 : wr.ownsRow (n + 1) 120 6 (.slice (some ⟨g, 0, none⟩) ds.length dc) ds.length (flatD ds) := ownsRow_moveB hod (fun q hq hl => by simp [Value.ownBlock] at hq; subst hq; exact B2.block _ (by omega))
   have hrg : wr.rangeAt g (k * 6) (dcA x).toList := fun j u hu => by
    have hj : j < 6 := by have := (List.getElem?_eq_some_iff.1 hu).1; simpa using this
    rw [hown1.cellAt _ (by have : k + 1 <= ds.length := hlt1; omega)]
    exact flat_at (fun d => (dcA d).toList) 6 (fun _ => rfl) ds k _ hx j u hu
   go_upto_region 4 with fail
   refine wp_region_lit ?_
   iterate 3 go_step
   refine wpList_load_mid rfl 120 (.tmp 19) rfl g (k * 6) rfl (dcA x).toList _ hrg Tryz.underlying120 rfl (by kernel_rfl) ?_
   iterate 3 go_step
   refine store_in rfl 120 (.tmp 5) (.tmp 20) rfl (dcA x) rfl rfl (by kernel_rfl) rfl (by simp [Value.oneCell']) ?_
   intro w2 BB2 hb2 hz2
   have h3 := h2.grow BB2
   go_upto_region 5 with fail
   refine wp_region_lit ?_
   iterate 3 go_step
   refine wpList_load_row rfl 120 (.tmp 5) rfl wr.heap.size rfl 120 _ _ _ hb2 Tryz.underlying120 rfl (by kernel_rfl) ?_
   go_wp2_with fail
   refine (cdecl_any h3 (by omega) x hx7 (by omega)).mono ?_
   rintro e w3 ⟨rfl, h4, K4⟩
   go_wp2_with fail
   go_roundg (gk - 1)
   case measure => omega
   case rel =>
    have l3 := h3.low
    refine ⟨k + 1, sk.decl x, by omega, by simp, h4, (B2.trans (BB2.mono h2.low.2.2.2.2)).trans (K4.below l3.2.2.2.2 l3.2.1 l3.2.2.1 l3.2.2.2.1), ?_, by have := (decl_fr sk x).1; omega, by rw [(decl_fr sk x).2]; exact hrl⟩
    show _ = _
    rw [HK.out, hdr]
    rfl
  ·have e0 : ds.drop k = [] := List.drop_eq_nil_iff.2 (by omega)
   have HK : Hid (s' = missS (rs.foldl Ck.rule sk)) := by show _ = _; rw [HK.out, e0]; rfl
   clear hfq e0
   have hlen : Hid (rows.length = rs.length) := RelU.len _ _ hrel0
   go_wp2_with fail
   go_loopg [30] rows.length (fun f i wr => ∃ (k : Nat) (sk : Ck), k + f = rows.length /\ i = .int .i64 k /\ CkAt wr nb c nb rb E sk /\ Below nb w wr /\ Hid (s' = missS ((rs.drop k).foldl Ck.rule sk)) /\ sk.rules.length <= k /\ ∀ key, (look key sk.rules).getD 0 <= k)
   case atStart => exact ⟨0, sk, by omega, rfl, h2, B2, HK, by rw [hrl]; exact Nat.le_refl _, fun key => by rw [hrl]; exact Nat.le_refl _⟩
   case round =>
    obtain ⟨k2, sk2, hk2, rfl, h5, B5, HK5, hrl5, hcn5⟩ := hrel
    clear P2 p20 p21 h2 B2 HK
    by_cases hlt2 : k2 < rows.length
    ·obtain ⟨p, nm, v, x, r1, r2, r3, r4⟩ := RelU.at _ _ hrel0 k2 hlt2
     obtain ⟨y1, y2, y3, rfl⟩ := SlR.form 8 _ _ r4
     have r5 : SlR 8 wr (fun g => g < nb) (.slice y1 y2 y3) x := SlR.move 8 (fun g hg _ => B5.block g hg) _ _ (SlR.mono 8 (fun g hg => by have := hg.2; omega) _ _ (SlR.there 8 _ _ r4))
     obtain ⟨m1, m2⟩ := hr7 _ r2
     have hg : ∃ g, ra = some ⟨g, 0, none⟩ := by
      rcases hou.2 with ⟨h1, h2⟩ | ⟨g, cap, cur, h1, _⟩
      ·omega
      ·simp at h1; exact ⟨g, h1.1⟩
     obtain ⟨g, rfl⟩ := hg
     have hgl : g < nb := by have := (hou.lt g rfl).2; omega
     have hix : ∀ W : World, (Instr.indexAt 112 (.slice (some ⟨g, 0, none⟩) rows.length rc) (.int .i64 k2)).run Tryz.prog W = .ok (.pointer (some ⟨g, k2 * 4, none⟩)) W := by
      intro W
      rw [run_indexAt_slice (h := by kernel_rfl), if_pos (by omega)]
      have : (sizeOf (Tryz.prog.elem 112)).run Tryz.prog W = .ok 4 W := by kernel_rfl
      rw [this]
      simp [Result.andThen, Addr.add]
      omega
     have hown1 : wr.ownsRow (n + 1) 161 4 (.slice (some ⟨g, 0, none⟩) rows.length rc) rows.length (flatU rows) := ownsRow_moveB hou (fun q hq hl => by simp [Value.ownBlock] at hq; subst hq; exact B5.block _ (by omega))
     have hrg : wr.rangeAt g (k2 * 4) (ruA p nm (.slice y1 y2 y3)).toList := fun j u hu => by
      have hj : j < 4 := by have := (List.getElem?_eq_some_iff.1 hu).1; simpa using this
      rw [hown1.cellAt _ (by have : k2 + 1 <= rows.length := hlt2; omega)]
      exact flat_at (fun r : Nat × NP × Value => (ruA r.1 r.2.1 r.2.2).toList) 4 (fun _ => rfl) rows k2 _ r1 j u hu
     have hrn2 : rows.length <= 900 := by have := hlen.out; omega
     go_upto_region 9 with fail
     refine wp_region_lit ?_
     iterate 3 go_step
     refine wpList_load_mid rfl 161 (.tmp 32) rfl g (k2 * 4) rfl (ruA p nm (.slice y1 y2 y3)).toList _ hrg Tryz.underlying161 rfl (by kernel_rfl) ?_
     iterate 3 go_step
     refine store_in rfl 161 (.tmp 7) (.tmp 33) rfl (ruA p nm (.slice y1 y2 y3)) rfl rfl (by kernel_rfl) rfl (by simp [Value.oneCell']) ?_
     intro w2 BB2 hb2 hz2
     have h6 := h5.grow BB2
     have l5 := h5.low
     have l6 := h6.low
     have r6 : SlR 8 w2 (fun g => g < nb) (.slice y1 y2 y3) x := SlR.move 8 (fun g hg _ => BB2.block g (by omega)) _ _ r5
     go_upto_region 10 with fail
     refine wp_region_lit ?_
     iterate 3 go_step
     refine wpList_load_row rfl 161 (.tmp 7) rfl wr.heap.size rfl 161 _ _ _ hb2 Tryz.underlying161 rfl (by kernel_rfl) ?_
     go_wp2_with fail
     refine (crule_any h6 (by omega) p nm _ x m1 r6 m2 (by omega) (by have := hcn5 nm.1; omega)).mono ?_
     rintro e w3 ⟨rfl, h7, K7⟩
     go_wp2_with fail
     go_roundg (gk - 1)
     case measure => omega
     case rel =>
      refine ⟨k2 + 1, sk2.rule (p, nm, x), by omega, by simp, h7, (B5.trans (BB2.mono l5.2.2.2.2)).trans (K7.below l6.2.2.2.2 l6.2.1 l6.2.2.1 l6.2.2.2.1), ?_, by rw [rule_ru]; simp; omega, fun key => ?_⟩
      ·show _ = _
       rw [HK5.out, r3]
       rfl
      ·rw [rule_ru, look_cons]
       have := hcn5 nm.1
       have := hcn5 key
       split
       ·simp; omega
       ·omega
    ·have e0 : rs.drop k2 = [] := List.drop_eq_nil_iff.2 (by have := hlen.out; omega)
     have HK6 : Hid (s' = missS sk2) := by show _ = _; rw [HK5.out, e0]; rfl
     obtain ⟨d0, d1, d2, df⟩ := h5.cells
     obtain ⟨m3, hm3, hr3⟩ := h5.rules
     have hget := hr3.get u81 u3 (z3 _) [109, 105, 115, 115] (by decide)
     have g8 := h5.gl 9 (by omega) (by omega)
     by_cases hz : (look [109, 105, 115, 115] sk2.rules).getD 0 = 0
     ·have e1 : s' = sk2.fault 9 0 := by rw [HK6.out]; exact if_pos hz
      rw [hz] at hget
      clear hz HK5 HK6 HS
      subst e1
      go_wp2_with fail
      refine (cfault_any h5 9 0).mono ?_
      rintro e w6 ⟨rfl, h6, K6⟩
      have l5 := h5.low
      obtain ⟨v, hc, hf⟩ := h6.cell
      have d3 : w6.cell? ⟨c, 3, none⟩ = some v := by simp [World.cell?, hc]
      go_wp2_with fail
      go_ret
      subst hnb
      exact ⟨v, rfl, hf, B5.trans (K6.below l5.2.2.2.2 l5.2.1 l5.2.2.1 l5.2.2.2.1)⟩
     ·have e1 : s' = sk2 := by rw [HK6.out]; exact if_neg hz
      have hz' : ¬ (((look [109, 105, 115, 115] sk2.rules).getD 0 : Nat) : Int) = 0 := by omega
      clear HK5 HK6 HS
      subst e1
      obtain ⟨v, hc, hf⟩ := h5.cell
      have d3 : wr.cell? ⟨c, 3, none⟩ = some v := by simp [World.cell?, hc]
      go_wp2_with fail
      go_ret
      subst hnb
      exact ⟨v, rfl, hf, B5⟩
def Tk (l : List UInt8) (t : Tok) : Prop := t.pos + t.txt.length <= l.length
theorem Tk.nx {l : List UInt8} {t : Tok} (h : Tk l t) : Tk l (nx l t) := nx_ok l _ h
def Gd {α : Type} (l : List UInt8) (P : α -> Prop) (r : PR α) : Prop := ∀ x t', r = .ok (x, t') -> P x /\ Tk l t'
theorem Gd.bind {α β : Type} {l : List UInt8} {P : α -> Prop} {Q : β -> Prop} {r : PR α} {f : α -> Tok -> PR β} (h : Gd l P r) (k : ∀ x t, P x -> Tk l t -> Gd l Q (f x t)) : Gd l Q (bindR r f) := by
 intro y t' e
 cases r with
 | error q => simp [bindR] at e
 | ok p => exact k p.1 p.2 (h p.1 p.2 rfl).1 (h p.1 p.2 rfl).2 y t' e
theorem Gd.ok {α : Type} {l : List UInt8} {P : α -> Prop} {x : α} {t : Tok} (hx : P x) (ht : Tk l t) : Gd l P (.ok (x, t)) := by
 intro y t' e
 simp only [Except.ok.injEq, Prod.mk.injEq] at e
 obtain ⟨rfl, rfl⟩ := e
 exact ⟨hx, ht⟩
theorem Gd.err {α : Type} {l : List UInt8} {P : α -> Prop} {e : Bool × Nat} : Gd l P (.error e) := by intro y t' e; simp at e
theorem Gd.ite {α : Type} {l : List UInt8} {P : α -> Prop} {c : Prop} [Decidable c] {a b : PR α} (ha : c -> Gd l P a) (hb : ¬ c -> Gd l P b) : Gd l P (if c then a else b) := by
 by_cases h : c
 ·rw [if_pos h]; exact ha h
 ·rw [if_neg h]; exact hb h
def sm (l : List UInt8) (n : NP) : Prop := n.1.length <= l.length
def smV (l : List UInt8) (v : Vl) : Prop := sm l v.name
def smC (l : List UInt8) (c : Cd) : Prop := sm l c.queue /\ smV l c.left /\ smV l c.right
def smS (l : List UInt8) (s : St) : Prop := sm l s.name /\ sm l s.to /\ smC l s.cond
theorem sm_np {l : List UInt8} {t : Tok} (h : Tk l t) : sm l (np t) := by unfold Tk at h; show t.txt.length <= l.length; omega
theorem sm_nil (l : List UInt8) (p : Nat) : sm l ([], p) := Nat.zero_le _
theorem gd_name {l : List UInt8} {t : Tok} (h : Tk l t) : Gd l (sm l) (nameS l t) := Gd.ite (fun _ => Gd.ok (sm_np h) h.nx) (fun _ => Gd.err)
theorem gd_need {l s : List UInt8} {t : Tok} (h : Tk l t) : Gd l (fun _ => True) (needS s l t) := Gd.ite (fun _ => Gd.ok trivial h.nx) (fun _ => Gd.err)
theorem gd_num {l : List UInt8} {t : Tok} (h : Tk l t) : Gd l (fun _ => True) (numS l t) := Gd.ite (fun _ => Gd.ok trivial h.nx) (fun _ => Gd.err)
theorem gd_value {l : List UInt8} {t : Tok} (h : Tk l t) : Gd l (smV l) (valueS l t) :=
 Gd.ite (fun _ => Gd.ite (fun _ => Gd.ok (sm_np h.nx) h.nx.nx) (fun _ => Gd.err)) (fun _ => Gd.ite (fun _ => Gd.ok (sm_nil _ _) h.nx) (fun _ => Gd.ite (fun _ => Gd.ok (sm_np h) h.nx) (fun _ => Gd.ite (fun _ => Gd.ok (sm_nil _ _) h.nx) (fun _ => Gd.err))))
theorem tk_nots {l : List UInt8} : ∀ (f : Nat) (n : Bool) (t : Tok), Tk l t -> Tk l (notsS l f n t).2
 | 0, _, _, h => h
 | f + 1, n, t, h => by
  unfold notsS
  split
  ·exact tk_nots f _ _ h.nx
  ·exact h
theorem gd_condT {l : List UInt8} {n : Bool} {t : Tok} (h : Tk l t) : Gd l (smC l) (condT l n t) := by
 unfold condT
 refine Gd.ite (fun _ => Gd.ite (fun _ => Gd.ok ⟨sm_np h.nx, sm_nil _ _, sm_nil _ _⟩ h.nx.nx) (fun _ => Gd.err)) (fun _ => ?_)
 have h1 := gd_value h
 cases e1 : valueS l t with
 | error q => exact Gd.err
 | ok p =>
  obtain ⟨a, t1⟩ := p
  have h2 := h1 a t1 e1
  refine Gd.ite (fun _ => ?_) (fun _ => Gd.err)
  have h3 := gd_value h2.2.nx
  cases e2 : valueS l (nx l t1) with
  | error q => exact Gd.err
  | ok p =>
   obtain ⟨c, t2⟩ := p
   have h4 := h3 c t2 e2
   exact Gd.ok ⟨sm_nil _ _, h2.1, h4.1⟩ h4.2
theorem gd_cond {l : List UInt8} {t : Tok} (h : Tk l t) : Gd l (smC l) (condS l t) := gd_condT (tk_nots _ _ _ h)
theorem smC0 (l : List UInt8) : smC l cd0 := ⟨sm_nil _ _, sm_nil _ _, sm_nil _ _⟩
theorem tk_tail {l : List UInt8} {t : Tok} (h : Tk l t) : Tk l (tailS l t).2 := by unfold tailS; split; exact h.nx; exact h
theorem gd_semi {l : List UInt8} {s : St} {t : Tok} (hs : smS l s) (h : Tk l t) : Gd l (smS l) (semi l s t) := Gd.ite (fun _ => Gd.ok hs h.nx) (fun _ => Gd.err)
theorem gd_plain {l : List UInt8} {t : Tok} (h : Tk l t) : Gd l (smS l) (plainS l t) :=
 Gd.ite (fun _ => (gd_name h.nx).bind fun _n _t2 hn h2 => gd_semi ⟨hn, sm_nil _ _, smC0 l⟩ (tk_tail h2)) fun _ =>
 Gd.ite (fun _ => (gd_name h.nx).bind fun _n _t2 hn h2 => (gd_name h2).bind fun _m _t3 hm h3 => gd_semi ⟨hn, hm, smC0 l⟩ (tk_tail h3)) fun _ =>
 Gd.ite (fun _ => (gd_name h.nx).bind fun _n _t2 hn h2 => gd_semi ⟨hn, sm_nil _ _, smC0 l⟩ h2) fun _ =>
 Gd.ite (fun _ => gd_semi ⟨sm_nil _ _, sm_nil _ _, smC0 l⟩ h.nx) fun _ => Gd.err
def smR {β : Type} (l : List UInt8) (P : β -> Prop) (r : St × β × β) : Prop := smS l r.1 /\ P r.2.1 /\ P r.2.2
theorem gd_if {β : Type} {l : List UInt8} {P : β -> Prop} {blk : Tok -> PR β} {z : β} (hz : P z) (hb : ∀ t, Tk l t -> Gd l P (blk t)) {t : Tok} (h : Tk l t) : Gd l (smR l P) (ifS blk z l t) :=
 (gd_cond h.nx).bind fun _c t1 hc h1 => (hb t1 h1).bind fun _x _t2 hx h2 =>
  Gd.ite (fun _ => (hb _ h2.nx).bind fun _y _t3 hy h3 => Gd.ok ⟨⟨sm_nil _ _, sm_nil _ _, hc⟩, hx, hy⟩ h3) (fun _ => Gd.ok ⟨⟨sm_nil _ _, sm_nil _ _, hc⟩, hx, hz⟩ h2)
theorem gd_rep {β : Type} {l : List UInt8} {P : β -> Prop} {blk : Nat -> Tok -> PR β} {z : β} (hz : P z) (hb : ∀ n t, Tk l t -> Gd l P (blk n t)) {lo : Nat} {t : Tok} (h : Tk l t) : Gd l (smR l P) (repS blk z l lo t) :=
 Gd.ite (fun _ => Gd.err) fun _ => (gd_num h.nx).bind fun _n _t1 _ h1 => (gd_need h1).bind fun _ _t2 _ h2 => (gd_cond h2).bind fun _c t3 hc h3 => (hb _ t3 h3).bind fun _x _t4 hx h4 =>
  Gd.ok ⟨⟨sm_nil _ _, sm_nil _ _, hc⟩, hx, hz⟩ h4
theorem gd_stmt {β : Type} {l : List UInt8} {P : β -> Prop} {blk : Nat -> Tok -> PR β} {z : β} (hz : P z) (hb : ∀ n t, Tk l t -> Gd l P (blk n t)) {lo : Nat} {t : Tok} (h : Tk l t) : Gd l (smR l P) (stmtS blk z l lo t) :=
 Gd.ite (fun _ => gd_if hz (hb lo) h) fun _ => Gd.ite (fun _ => gd_rep hz hb h) fun _ => (gd_plain h).bind fun _s _t1 hs h1 => Gd.ok ⟨hs, hz, hz⟩ h1
theorem gd_stmts {α : Type} {l : List UInt8} {P : α -> Prop} {stm : Tok -> PR α} (hs : ∀ t, Tk l t -> Gd l P (stm t)) : ∀ (f : Nat) (t : Tok), Tk l t -> Gd l (fun xs => ∀ x ∈ xs, P x) (stmtsS stm l f t)
 | 0, _, _ => Gd.err
 | f + 1, t, h => by
  unfold stmtsS
  refine Gd.ite (fun _ => Gd.ok (by simp) h.nx) fun _ => (hs t h).bind fun x t1 hx h1 => (gd_stmts hs f t1 h1).bind fun xs t2 hxs h2 => Gd.ok ?_ h2
  intro y hy
  rcases List.mem_cons.1 hy with rfl | hy
  ·exact hx
  ·exact hxs y hy
theorem smallL_of {β : Type} {l : List UInt8} {P : β -> Prop} (hl : l.length <= 700) : ∀ (xs : List (St × β × β)), (∀ x ∈ xs, smR l P x) -> smallL P xs
 | [], _ => trivial
 | r :: rs, h => by
  obtain ⟨h1, h2, h3⟩ := h r (by simp)
  unfold smS smC smV sm at h1
  exact ⟨⟨by omega, by omega, by unfold Cd.small; omega⟩, h2, h3, smallL_of hl rs (fun x hx => h x (by simp [hx]))⟩
theorem smallB_nil : ∀ d, smallB d (BTnil d)
 | 0 => trivial
 | _ + 1 => trivial
theorem gd_block {l : List UInt8} (hl : l.length <= 700) : ∀ (d lo : Nat) (t : Tok), Tk l t -> Gd l (smallB d) (blockS l d lo t)
 | 0, _, _, _ => by unfold blockS; exact Gd.ite (fun _ => Gd.err) (fun _ => Gd.err)
 | d + 1, lo, t, h => by
  unfold blockS
  refine Gd.ite (fun _ => ?_) (fun _ => Gd.err)
  intro x t' e
  obtain ⟨h1, h2⟩ := gd_stmts (fun t ht => gd_stmt (smallB_nil d) (fun n t ht => gd_block hl d n t ht) ht) _ _ h.nx x t' e
  exact ⟨smallL_of hl x h1, h2⟩
theorem gd_decl {l : List UInt8} {t : Tok} (h : Tk l t) : Gd l (fun d => sm l d.name) (declS l t) :=
 Gd.ite (fun _ => (gd_num h.nx).bind fun _n _t1 _ h1 => (gd_need h1).bind fun _ _t2 _ h2 => Gd.ok (sm_nil _ _) h2) fun _ =>
  (gd_name h.nx).bind fun _m _t1 hm h1 => (gd_num h1).bind fun _n _t2 _ h2 => (gd_need h2).bind fun _ _t3 _ h3 => Gd.ok hm h3
theorem gd_rule {l : List UInt8} (hl : l.length <= 700) {t : Tok} (h : Tk l t) : Gd l (fun r => sm l r.2.1 /\ smallB 8 r.2.2) (ruleS l t) :=
 Gd.bind (P := sm l) (Gd.ite (fun _ => Gd.ok (sm_np h.nx) h.nx.nx) (fun _ => gd_name h.nx)) fun _n t1 hn h1 => (gd_block hl 8 0 t1 h1).bind fun _x _t2 hx h2 => Gd.ok ⟨hn, hx⟩ h2
theorem gd_decls {l : List UInt8} : ∀ (f : Nat) (t : Tok), Tk l t -> Gd l (fun ds => (∀ d ∈ ds, sm l d.name) /\ ds.length <= f) (declsS l f t)
 | 0, _, _ => Gd.err
 | f + 1, t, h => by
  unfold declsS
  refine Gd.ite (fun _ => (gd_decl h).bind fun d t1 hd h1 => (gd_decls f t1 h1).bind fun ds t2 hds h2 => Gd.ok ⟨?_, ?_⟩ h2) (fun _ => Gd.ok (by simp) h)
  ·intro y hy
   rcases List.mem_cons.1 hy with rfl | hy
   ·exact hd
   ·exact hds.1 y hy
  ·have := hds.2; simp; omega
theorem gd_rules {l : List UInt8} (hl : l.length <= 700) : ∀ (f : Nat) (t : Tok), Tk l t -> Gd l (fun rs => (∀ r ∈ rs, sm l r.2.1 /\ smallB 8 r.2.2) /\ rs.length <= f) (rulesS l f t)
 | 0, _, _ => Gd.err
 | f + 1, t, h => by
  unfold rulesS
  refine Gd.ite (fun _ => (gd_rule hl h).bind fun d t1 hd h1 => (gd_rules hl f t1 h1).bind fun ds t2 hds h2 => Gd.ok ⟨?_, ?_⟩ h2) (fun _ => Gd.ok (by simp) h)
  ·intro y hy
   rcases List.mem_cons.1 hy with rfl | hy
   ·exact hd
   ·exact hds.1 y hy
  ·have := hds.2; simp; omega
theorem gd_policy {l : List UInt8} (hl : l.length <= 700) {t : Tok} (h : Tk l t) : Gd l (fun p => (∀ d ∈ p.1, d.name.1.length <= 700) /\ (∀ r ∈ p.2, r.2.1.1.length <= 700 /\ smallB 8 r.2.2) /\ p.1.length <= 900 /\ p.2.length <= 900) (policyS l t) :=
 (gd_decls _ t h).bind fun ds t1 hds h1 => (gd_rules hl _ t1 h1).bind fun rs t2 hrs h2 =>
  Gd.ite (fun _ => Gd.ok ⟨fun d hd => Nat.le_trans (hds.1 d hd) hl, fun r hr => ⟨Nat.le_trans (hrs.1 r hr).1 hl, (hrs.1 r hr).2⟩, by have := hds.2; show ds.length <= 900; omega, by have := hrs.2; show rs.length <= 900; omega⟩ h2.nx) (fun _ => Gd.err)
def readS (l : List UInt8) : Except (Nat × Nat) (List Dc × List (Nat × NP × BT 8)) :=
 if l.length > 700 then .error (1, 0)
 else match policyS l (tokAt l 0) with
  | .error (q, p) => .error (if q then 2 else 13, p)
  | .ok (x, _) => match (checkS x.1 x.2).first with
   | some e => .error e
   | none => .ok x
def OutD (w : World) (E : Nat -> Value) (r : Except (Nat × Nat) (List Dc × List (Nat × NP × BT 8))) (e : Ending) (w' : World) : Prop :=
 match r with
 | .ok x => ∃ n vd vr rows, e = .returned (.tuple #[ptr n, .nilIface]) /\ Below w.heap.size w w' /\ w.heap.size <= n /\ w'.heap[n]? = some (.cells #[vd, vr] 114) /\ w'.ownsRow (n + 1) 120 6 vd x.1.length (flatD x.1) /\ w'.ownsRow (n + 1) 161 4 vr rows.length (flatU rows) /\ RelU (SlR 8 w' (fun g => n + 1 <= g)) rows x.2
 | .error (i, p) => ∃ f, e = .returned (.tuple #[.pointer none, .iface 96 (.pointer (some ⟨f, 0, none⟩))]) /\ Below w.heap.size w w' /\ w.heap.size <= f /\ w'.heap[f]? = some (.cells #[.iface 278 (E i), .int .i64 p] 98)
theorem bdrw {lo : Nat} {a w : World} (h : Below lo a w) : Below lo a w.drew := ⟨h.os, h.tape, h.output, h.size, h.block⟩
theorem read_any (l : List UInt8) (w : World) (E : Nat -> Value) (gl : ∀ i, i < 10 \/ i = 13 -> w.cell? ⟨i, 0, none⟩ = some (.iface 278 (E i))) :
  Calls Tryz.prog 30 #[S l] w fun e w' => OutD w E (readS l) e w' := by
 have g0 := gl 1 (by decide)
 have g1 := gl 2 (by decide)
 have g10 := gl 13 (by decide)
 generalize hr : readS l = r
 have HR : Hid (readS l = r) := hr
 clear hr
 by_cases hl : l.length > 700
 ·have e1 : r = .error (1, 0) := by rw [<- HR.out]; unfold readS; rw [if_pos hl]
  clear HR
  subst e1
  go_enter Tryz.func30, Tryz.ntmps30
  go_wp2_with fail
  go_region
  all_goals go_wp2_with fail
  all_goals exact bodyPost_ret (v := .tuple #[.pointer none, .iface 96 (.pointer (some ⟨w.heap.size, 0, none⟩))]) (by simp [results, Tryz.results30, go_sem]) rfl ⟨w.heap.size, rfl, bdrw ((Below.refl _ w).alloc (Nat.le_refl _) _), Nat.le_refl _, heap_new rfl⟩
 ·have HP := parse_any l w (E 13) (E 2) (by omega) g10 g1
  have hG := gd_policy (l := l) (by omega) (t := tokAt l 0) (nx_ok l 0 (Nat.zero_le _))
  have HR : Hid (r = match policyS l (tokAt l 0) with
   | .error (q, p) => .error (if q then 2 else 13, p)
   | .ok (x, _) => match (checkS x.1 x.2).first with
    | some e => .error e
    | none => .ok x) := by show _ = _; rw [<- HR.out]; unfold readS; rw [if_neg hl]
  generalize policyS l (tokAt l 0) = pr at *
  go_enter Tryz.func30, Tryz.ntmps30
  go_wp2_with fail
  refine HP.mono ?_
  clear HP
  rcases pr with ⟨q, p⟩ | ⟨x, t'⟩
  ·rintro e w1 ⟨f, rfl, B1, hf, hF⟩
   go_wp2_with fail
   have e1 : r = .error (if q = true then 2 else 13, p) := HR.out
   subst e1
   refine bodyPost_ret (v := .tuple #[.pointer none, .iface 96 (.pointer (some ⟨f, 0, none⟩))]) (by simp [results, Tryz.results30, go_sem]) rfl ⟨f, rfl, B1, hf, ?_⟩
   rw [hF]
   cases q <;> rfl
  ·rintro e w1 ⟨n, vd, vr, rows, rfl, B1, hn, hP, hod, hou, hrel⟩
   obtain ⟨⟨q1, q2, q3, q4⟩, _⟩ := hG x t' rfl
   have gl1 : ∀ i, 2 < i -> i < 10 -> w1.cell? ⟨i, 0, none⟩ = some (.iface 278 (E i)) := fun i h1 h2 => (B1.cell (p := ⟨i, 0, none⟩) (cell_lt (gl i (Or.inl (by omega))))).trans (gl i (Or.inl (by omega)))
   have z10 : 13 < w.heap.size := cell_lt g10
   have z1 := B1.size
   have HR : Hid (r = match (checkS x.1 x.2).first with
    | some e => .error e
    | none => .ok x) := HR
   have HC := check_any n vd vr x.1 rows x.2 E hP hod hou hrel gl1 (by omega) q1 q2 q3 q4
   generalize checkS x.1 x.2 = sc at *
   go_wp2_with fail
   refine HC.mono ?_
   clear HC
   rintro e w2 ⟨v, rfl, hv, B2⟩
   cases hf : sc.first with
   | none =>
    rw [hf] at hv HR
    have hv : v = .nilIface := hv
    have e1 : r = .ok x := HR.out
    subst hv e1
    go_wp2_with fail
    refine bodyPost_ret (v := .tuple #[ptr n, .nilIface]) (by simp [results, Tryz.results30, go_sem]) rfl ⟨n, vd, vr, rows, rfl, B1.trans (B2.mono z1), hn, (B2.block _ (Array.getElem?_eq_some_iff.1 hP).1).trans hP, ownsRow_moveB hod (fun g _ hl => B2.block g hl), ownsRow_moveB hou (fun g _ hl => B2.block g hl), ?_⟩
    exact RelU.mono (fun v x h => SlR.move 8 (fun g _ hl => B2.block g hl) v x h) _ _ hrel
   | some ip =>
    rw [hf] at hv HR
    obtain ⟨i, p⟩ := ip
    obtain ⟨f, rfl, hlo, hF⟩ := hv
    have e1 : r = .error (i, p) := HR.out
    subst e1
    go_wp2_with fail
    exact bodyPost_ret (v := .tuple #[.pointer none, .iface 96 (.pointer (some ⟨f, 0, none⟩))]) (by simp [results, Tryz.results30, go_sem]) rfl ⟨f, rfl, B1.trans (B2.mono z1), by omega, hF⟩
end Go.Proofs.YtfddoieakfpagabGreatDoor
