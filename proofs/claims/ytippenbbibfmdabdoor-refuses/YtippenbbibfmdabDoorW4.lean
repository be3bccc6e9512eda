import Derived.Test.YtippenbbibfmdabDoorW3
import Derived.Deep.RegionWith
import Derived.BigRegion
namespace Go.Proofs.YtippenbbibfmdabDoor
open Go.RowKit

/-- All blocks but b are as they were; more may have come. -/
structure But (b : Nat) (w w' : World) : Prop where
  os : w'.os = w.os
  tape : w'.tape = w.tape
  output : w'.output = w.output
  size : w.heap.size ≤ w'.heap.size
  block : ∀ k, k < w.heap.size → k ≠ b → w'.heap[k]? = w.heap[k]?

theorem But.refl (b : Nat) (w : World) : But b w w := ⟨rfl, rfl, rfl, Nat.le_refl _, fun _ _ _ => rfl⟩
theorem But.trans {b : Nat} {x y z : World} (h : But b x y) (k : But b y z) : But b x z :=
  ⟨k.os.trans h.os, k.tape.trans h.tape, k.output.trans h.output, Nat.le_trans h.size k.size, fun i hi hn => (k.block i (Nat.lt_of_lt_of_le hi h.size) hn).trans (h.block i hi hn)⟩
theorem But.of_below {b : Nat} {w w' : World} (h : Below w.heap.size w w') : But b w w' :=
  ⟨h.os, h.tape, h.output, h.size, fun i hi _ => h.block i hi⟩
theorem But.drew {b : Nat} {a w : World} (h : But b a w) : But b a w.drew := ⟨h.os, h.tape, h.output, h.size, h.block⟩
theorem But.alloc {b : Nat} {a w : World} (h : But b a w) (o : Obj) : But b a (w.alloc o) :=
  h.trans ⟨rfl, rfl, rfl, by simp, fun k hk _ => Below.heap_alloc _ _ _ hk⟩
theorem But.setCell {b : Nat} {a w : World} (h : But b a w) {p : Addr} (hp : a.heap.size ≤ p.block ∨ p.block = b) (u : Value) : But b a (w.setCell p u) :=
  ⟨h.os, h.tape, h.output, by have := h.size; simpa [World.setCell] using this, fun k hk hn => by
    rw [Below.heap_setCell _ _ _ _ (by rcases hp with hp | hp <;> omega)]; exact h.block k hk hn⟩

def rdObj (l : List UInt8) (t : Tok) (bl lo : Nat) : Obj :=
  .cells #[.string ⟨l.toArray⟩, .int .i64 t.kind, .string ⟨t.txt.toArray⟩, .int .i64 t.pos, .int .i64 bl, .int .i64 lo] 56

/-- The reader lies in block b. -/
def At (w : World) (b : Nat) (l : List UInt8) (t : Tok) (bl lo : Nat) : Prop := w.heap[b]? = some (rdObj l t bl lo)

theorem At.lt {w : World} {b : Nat} {l : List UInt8} {t : Tok} {bl lo : Nat} (h : At w b l t bl lo) : b < w.heap.size := by
  unfold At at h
  exact (Array.getElem?_eq_some_iff.1 h).1

theorem At.cells {w : World} {b : Nat} {l : List UInt8} {t : Tok} {bl lo : Nat} (h : At w b l t bl lo) :
    w.cell? ⟨b, 0, none⟩ = some (.string ⟨l.toArray⟩) ∧ w.cell? ⟨b, 1, none⟩ = some (.int .i64 t.kind) ∧ w.cell? ⟨b, 2, none⟩ = some (.string ⟨t.txt.toArray⟩) ∧
    w.cell? ⟨b, 3, none⟩ = some (.int .i64 t.pos) ∧ w.cell? ⟨b, 4, none⟩ = some (.int .i64 bl) ∧ w.cell? ⟨b, 5, none⟩ = some (.int .i64 lo) := by
  unfold At rdObj at h
  simp [World.cell?, h]

theorem At.frozen {w : World} {b : Nat} {l : List UInt8} {t : Tok} {bl lo : Nat} (h : At w b l t bl lo) (i : Nat) : w.frozen? ⟨b, i, none⟩ = false := by
  unfold At rdObj at h
  simp [World.frozen?, h]

theorem At.keep {w w' : World} {b : Nat} {l : List UInt8} {t : Tok} {bl lo : Nat} (h : At w b l t bl lo) (hb : Below w.heap.size w w') : At w' b l t bl lo := by
  unfold At at *
  rw [hb.block b (At.lt h)]; exact h

theorem At.drew {w : World} {b : Nat} {l : List UInt8} {t : Tok} {bl lo : Nat} (h : At w b l t bl lo) : At w.drew b l t bl lo := h
theorem At.alloc {w : World} {b : Nat} {l : List UInt8} {t : Tok} {bl lo : Nat} (h : At w b l t bl lo) (o : Obj) : At (w.alloc o) b l t bl lo := by
  unfold At at *
  rw [Below.heap_alloc _ _ _ (At.lt h)]; exact h
theorem At.setOther {w : World} {b : Nat} {l : List UInt8} {t : Tok} {bl lo : Nat} (h : At w b l t bl lo) (p : Addr) (u : Value) (hp : b ≠ p.block) : At (w.setCell p u) b l t bl lo := by
  unfold At at *
  rw [Below.heap_setCell _ _ _ _ hp]; exact h
theorem heap_new {w : World} {o : Obj} {n : Nat} (h : n = w.heap.size) : (w.alloc o).heap[n]? = some o := by
  subst h; show (w.heap.push _)[w.heap.size]? = _; simp
theorem heap_setCell_same (w : World) (b o : Nat) (u : Value) (c : Array Value) (e : TypeId) (h : w.heap[b]? = some (.cells c e)) :
    (w.setCell ⟨b, o, none⟩ u).heap[b]? = some (.cells (c.setIfInBounds o u) e) := by
  simp only [World.setCell, Array.getElem?_modify, h]
  simp

theorem At.put {w : World} {b : Nat} {l : List UInt8} {t : Tok} {bl lo : Nat} (h : At w b l t bl lo) (t' : Tok) :
    At (((w.setCell ⟨b, 1, none⟩ (.int .i64 t'.kind)).setCell ⟨b, 2, none⟩ (.string ⟨t'.txt.toArray⟩)).setCell ⟨b, 3, none⟩ (.int .i64 t'.pos)) b l t' bl lo := by
  unfold At rdObj at *
  rw [heap_setCell_same _ b 3 _ _ _ (heap_setCell_same _ b 2 _ _ _ (heap_setCell_same _ b 1 _ _ _ h))]
  rfl
theorem At.putB {w : World} {b : Nat} {l : List UInt8} {t : Tok} {bl lo : Nat} (h : At w b l t bl lo) (bl' : Nat) : At (w.setCell ⟨b, 4, none⟩ (.int .i64 bl')) b l t bl' lo := by
  unfold At rdObj at *
  rw [heap_setCell_same _ b 4 _ _ _ h]
  rfl
theorem At.putL {w : World} {b : Nat} {l : List UInt8} {t : Tok} {bl lo : Nat} (h : At w b l t bl lo) (lo' : Nat) : At (w.setCell ⟨b, 5, none⟩ (.int .i64 lo')) b l t bl lo' := by
  unfold At rdObj at *
  rw [heap_setCell_same _ b 5 _ _ _ h]
  rfl

set_option maxHeartbeats 400000 in
theorem leave_any (w : World) (b : Nat) (l : List UInt8) (t : Tok) (bl lo : Nat) (u : TypeId) (a : Value) (h : At w b l t bl lo) :
    Calls Tryd.prog 53 #[.pointer (some ⟨b, 0, none⟩), .iface u a] w fun e w' =>
      e = .panicked [{ v := .iface 42 (.pointer (some ⟨w.heap.size, 0, none⟩)), recovered := false }] ∧ w' = w.alloc (.cells #[.iface u a, .int .i64 t.pos] 44) := by
  obtain ⟨c0, c1, c2, c3, c4, c5⟩ := h.cells
  go_enter Tryd.func53, Tryd.ntmps53
  go_wp2
  exact ⟨rfl, rfl, rfl⟩

theorem nx_ok (l : List UInt8) (i : Nat) (h : i ≤ l.length) : (tokAt l i).pos + (tokAt l i).txt.length ≤ l.length := by
  have h1 := skip_le l i h
  by_cases hs : skip l i < l.length
  · have hL := tokAt_word l i hs
    have hD := tokAt_dig l i hs
    have hS := tokAt_sgn l i hs
    have hN := tokAt_none l i hs
    have ha := tw_le letU (l.drop (skip l i))
    have hb := tw_le digU (l.drop (skip l i))
    simp only [List.length_drop] at ha hb
    generalize tokAt l i = t at *
    generalize skip l i = j at *
    cases e1 : letU l[j] with
    | true => rw [hL e1]; unfold wordT; split <;> (try split) <;> simp <;> omega
    | false =>
    cases e2 : digU l[j] with
    | true => rw [hD e1 e2]; unfold digT; split <;> simp <;> omega
    | false =>
    cases e3 : sgnU l[j] with
    | true => rw [hS e1 e2 e3]; simp; omega
    | false => rw [hN e1 e2 e3]; simp; omega
  · rw [tokAt_end l i hs]; simpa using h1

def nx (l : List UInt8) (t : Tok) : Tok := tokAt l (t.pos + t.txt.length)

set_option maxHeartbeats 800000 in
theorem step_any (w : World) (b : Nat) (l : List UInt8) (t : Tok) (bl lo : Nat) (h : At w b l t bl lo) (hl : l.length ≤ 700) (ht : t.pos + t.txt.length ≤ l.length) :
    Calls Tryd.prog 47 #[.pointer (some ⟨b, 0, none⟩)] w fun e w' => e = .returned (tokV t) ∧ At w' b l (nx l t) bl lo ∧ But b w w' := by
  obtain ⟨c0, c1, c2, c3, c4, c5⟩ := h.cells
  have hf := h.frozen
  have hlt := h.lt
  go_enter Tryd.func47, Tryd.ntmps47
  go_wp2
  have e1 : IntKind.i64.wrap ((t.pos : Int) + (t.txt.length : Int)) = ((t.pos + t.txt.length : Nat) : Int) := by rw [IntKind.wrap_i64]; omega
  go_region_with (go_at_call 16; refine (tokenAt_any _ _ _ hl ht).mono ?_; rintro e w1 ⟨rfl, hb1⟩; have hA1 := ((h.alloc _).alloc _).drew.keep hb1; obtain ⟨d0, d1, d2, d3, d4, d5⟩ := hA1.cells; have hf1 := hA1.frozen; have g1 := fun o => hb1.cell (p := ⟨w.heap.size, o, none⟩) (by simp; omega); have g2 := fun o => hb1.cell (p := ⟨w.heap.size + 1, o, none⟩) (by simp); have g3 := fun o => hb1.frozen (p := ⟨w.heap.size, o, none⟩) (by simp; omega))
  all_goals go_wp2
  all_goals
    refine bodyPost_ret (v := tokV t) (by simp [results, Tryd.results47, go_sem, g1]) rfl ⟨rfl, ?_, ?_⟩
    · exact (((hA1.put (tokAt l (t.pos + t.txt.length))).setOther _ _ (by simp; omega)).setOther _ _ (by simp; omega)).setOther _ _ (by simp; omega)
    · exact (((((((((But.refl b w).alloc _).alloc _).drew.trans (But.of_below hb1)).setCell (Or.inr rfl) _).setCell (Or.inr rfl) _).setCell (Or.inr rfl) _).setCell (Or.inl (Nat.le_refl _)) _).setCell (Or.inl (Nat.le_refl _)) _).setCell (Or.inl (Nat.le_refl _)) _
end Go.Proofs.YtippenbbibfmdabDoor
