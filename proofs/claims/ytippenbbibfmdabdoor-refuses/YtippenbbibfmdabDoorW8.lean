import Derived.Test.YtippenbbibfmdabDoorW7
namespace Go.Proofs.YtippenbbibfmdabDoor
open Go.RowKit

structure St where
  word : List UInt8
  name : NP
  to : NP
  tail : Bool
  times : Nat × Nat
  cond : Cd
  other : Bool

abbrev cd0 : Cd := ⟨false, [], ([], 0), vl0, vl0⟩
abbrev stW (s : List UInt8) : St := ⟨s, ([], 0), ([], 0), false, (0, 0), cd0, false⟩
abbrev nilV : Value := .slice none 0 0
abbrev stA (s : St) (x y : Value) : Array Value := #[.string ⟨s.word.toArray⟩, .string ⟨s.name.1.toArray⟩, .int .i64 s.name.2, .string ⟨s.to.1.toArray⟩, .int .i64 s.to.2, .bool s.tail, .int .i64 s.times.1, .int .i64 s.times.2, .bool s.cond.neg, .string ⟨s.cond.word.toArray⟩, .string ⟨s.cond.queue.1.toArray⟩, .int .i64 s.cond.queue.2, .int .i64 s.cond.left.kind, .string ⟨s.cond.left.name.1.toArray⟩, .int .i64 s.cond.left.name.2, .int .i64 s.cond.left.num.1, .int .i64 s.cond.left.num.2, .int .i64 s.cond.right.kind, .string ⟨s.cond.right.name.1.toArray⟩, .int .i64 s.cond.right.name.2, .int .i64 s.cond.right.num.1, .int .i64 s.cond.right.num.2, x, .bool s.other, y]

def tailS (l : List UInt8) (t : Tok) : Bool × Tok := if t.txt = [116, 97, 105, 108] then (true, nx l t) else (false, t)
def semi (l : List UInt8) (s : St) (t : Tok) : PR St := if t.txt = [59] then .ok (s, nx l t) else .error (false, t.pos)
def bindR {α β : Type} (r : PR α) (f : α → Tok → PR β) : PR β :=
  match r with
  | .error e => .error e
  | .ok (x, t) => f x t

def oneB (s : List UInt8) : Bool := s == [101, 118, 105, 99, 116] || s == [105, 110, 99] || s == [100, 101, 99] || s == [99, 111, 111, 108]
def zeroB (s : List UInt8) : Bool := s == [100, 114, 111, 112] || s == [98, 117, 109, 112]

def plainS (l : List UInt8) (t : Tok) : PR St :=
  if t.txt = [112, 117, 116] then bindR (nameS l (nx l t)) fun n t2 => semi l { stW t.txt with name := n, tail := (tailS l t2).1 } (tailS l t2).2
  else if t.txt = [115, 104, 105, 102, 116] then bindR (nameS l (nx l t)) fun n t2 => bindR (nameS l t2) fun m t3 => semi l { stW t.txt with name := n, to := m, tail := (tailS l t3).1 } (tailS l t3).2
  else if oneB t.txt = true then bindR (nameS l (nx l t)) fun n t2 => semi l { stW t.txt with name := n } t2
  else if zeroB t.txt = true then semi l (stW t.txt) (nx l t)
  else .error (false, t.pos)

theorem take_any {w : World} {b : Nat} {l : List UInt8} {t : Tok} {bl lo : Nat} {X Y : Value} (s : List UInt8) (h : Rw w b l t bl lo X Y) :
    Calls Tryd.prog 56 #[ptr b, S s] w fun e w' => e = .returned (.bool (decide (t.txt = s))) ∧ RB w w' b l (if t.txt = s then nx l t else t) bl lo X Y := by
  by_cases hs : t.txt = s
  · refine (take_yes s h hs).mono ?_
    rintro e w' ⟨rfl, hr⟩
    rw [if_pos hs]; exact ⟨by simp [hs], hr⟩
  · refine (take_no s h hs).mono ?_
    rintro e w' ⟨rfl, rfl⟩
    rw [if_neg hs]; exact ⟨by simp [hs], RB.refl h⟩

theorem tail_any {w : World} {b : Nat} {l : List UInt8} {t : Tok} {bl lo : Nat} {X Y : Value} (h : Rw w b l t bl lo X Y) :
    Calls Tryd.prog 56 #[ptr b, .string { data := #[116, 97, 105, 108] }] w fun e w' => e = .returned (.bool (tailS l t).1) ∧ RB w w' b l (tailS l t).2 bl lo X Y := by
  refine (take_any [116, 97, 105, 108] h).mono ?_
  rintro e w' ⟨rfl, hr⟩
  unfold tailS
  by_cases hs : t.txt = [116, 97, 105, 108]
  · rw [if_pos hs] at hr ⊢; exact ⟨by simp [hs], hr⟩
  · rw [if_neg hs] at hr ⊢; exact ⟨by simp [hs], hr⟩

theorem store_new {w : World} {b : Nat} {l : List UInt8} {t : Tok} {bl lo : Nat} {X Y : Value} (hr : Rw w b l t bl lo X Y) {ops : Array Oper} {rest : List Oper} {o : Oper} {a : Act} {Q : Exit → Act → World → Prop} (hgd : o.guard = none) (T : TypeId) (x y : Operand) (ho : o.op = .store T x y)
    (A : Array Value) {Z Z' : Array Value} (hx : a.eval x = .pointer (some ⟨w.heap.size + 1, 0, none⟩)) (hy : a.eval y = .agg A) (hi : (Tryd.prog.info? T).map (·.size) = some A.size) (hs : Z'.size = A.size) (h1 : A.all (·.oneCell') = true)
    (h : ∀ W', RB w W' b l t bl lo X Y → W'.heap[w.heap.size]? = some (.cells Z T) → W'.heap[w.heap.size + 1]? = some (.cells A T) → wpList Tryd.prog ops Q rest (a.put o.dst undef) W') :
    wpList Tryd.prog ops Q (o :: rest) a ((w.alloc (.cells Z T)).alloc (.cells Z' T)) := by
  refine wpList_store_row hgd T x y ho (w.heap.size + 1) A hx hy T Z' (heap_new (by simp)) hi hs h1 (h _ ?_ ?_ ?_)
  · exact RB.setRow (((RB.refl hr).alloc _).alloc _) (by omega) _
  · exact (setRow_other _ _ _ _ (by omega)).trans ((Below.heap_alloc _ _ _ (by simp)).trans (heap_new rfl))
  · exact setRow_heap _ _ _ _ _ _ (heap_new (by simp))

theorem two_allocs {w : World} {b : Nat} {l : List UInt8} {t : Tok} {bl lo : Nat} {X Y : Value} (h : Rw w b l t bl lo X Y) (A B : Array Value) (T U : TypeId) :
    RB w ((w.alloc (.cells A T)).alloc (.cells B U)) b l t bl lo X Y ∧ ((w.alloc (.cells A T)).alloc (.cells B U)).heap[w.heap.size]? = some (.cells A T) ∧ ((w.alloc (.cells A T)).alloc (.cells B U)).heap[w.heap.size + 1]? = some (.cells B U) :=
  ⟨((RB.refl h).alloc _).alloc _, by rw [Below.heap_alloc _ _ _ (by simp)]; exact heap_new rfl, heap_new (by simp)⟩

theorem name_any {w : World} {b : Nat} {l : List UInt8} {t : Tok} {bl lo : Nat} {X Y : Value} (h : Rw w b l t bl lo X Y) :
    Calls Tryd.prog 48 #[ptr b] w fun e w' => Out w b l bl lo X Y (fun n : NP => .agg #[.string ⟨n.1.toArray⟩, .int .i64 n.2]) (nameS l t) e w' := by
  unfold nameS
  by_cases hs : t.kind = 2
  · rw [if_pos hs]; exact name_yes h hs
  · rw [if_neg hs]; exact name_no h hs
theorem name_ok {w : World} {b : Nat} {l : List UInt8} {t : Tok} {bl lo : Nat} {X Y : Value} {x : NP} {t' : Tok} (h : Rw w b l t bl lo X Y) (hv : nameS l t = .ok (x, t')) :
    Calls Tryd.prog 48 #[ptr b] w fun e w' => e = .returned (.agg #[.string ⟨x.1.toArray⟩, .int .i64 x.2]) ∧ RB w w' b l t' bl lo X Y := by
  refine (name_any h).mono fun e w' H => ?_
  rw [hv] at H; exact H
theorem name_er {w : World} {b : Nat} {l : List UInt8} {t : Tok} {bl lo : Nat} {X Y : Value} {d : Bool} {p : Nat} (h : Rw w b l t bl lo X Y) (hv : nameS l t = .error (d, p)) :
    Calls Tryd.prog 48 #[ptr b] w fun e w' => Flt w b (if d then Y else X) p e w' := by
  refine (name_any h).mono fun e w' H => ?_
  rw [hv] at H; exact H

set_option maxRecDepth 20000 in
set_option maxHeartbeats 2000000 in
theorem plain_put {w : World} {b : Nat} {l : List UInt8} {t : Tok} {bl lo : Nat} {X Y : Value} (h : Rw w b l t bl lo X Y) (hw : t.txt = [112, 117, 116]) :
    Calls Tryd.prog 62 #[ptr b] w fun e w' => Out w b l bl lo X Y (fun s => .agg (stA s nilV nilV)) (plainS l t) e w' := by
  have hgt := h.gt
  have HQ : Hid (plainS l t = bindR (nameS l (nx l t)) fun n t2 => semi l { stW t.txt with name := n, tail := (tailS l t2).1 } (tailS l t2).2) := by
    show _ = _
    unfold plainS; rw [if_pos hw]
  generalize plainS l t = r at *
  obtain ⟨c0, c1, c2, c3, c4, c5⟩ := h.rd.cells
  have b1 : (t.txt == [112, 117, 116]) = true := by simp [hw]
  clear hw
  go_enter Tryd.func62, Tryd.ntmps62
  go_upto_region 1 with fail
  refine wp_region_lit ?_
  iterate 21 go_step
  refine store_new h rfl 136 (.tmp 3) (.tmp 9) rfl (stA (stW t.txt) nilV nilV) rfl rfl (by kernel_rfl) rfl (by simp [Value.oneCell']) ?_
  intro W0 h0 hO0 hC0
  obtain ⟨cc, cf⟩ := blk_cells hC0
  go_wp2_with fail
  refine (step_r h0.r).mono ?_
  rintro e w1 ⟨rfl, R1⟩
  have H1 := h0.trans R1
  have z0 : w.heap.size + 1 < W0.heap.size := (Array.getElem?_eq_some_iff.1 hC0).1
  have z1 := R1.k.size
  have hO1 := (R1.k.block w.heap.size (by omega) (by omega)).trans hO0
  have hC1 := (R1.k.block (w.heap.size + 1) (by omega) (by omega)).trans hC0
  clear h0 R1 c0 c1 c2 c3 c4 c5 cc cf hO0 hC0
  obtain ⟨cc, cf⟩ := blk_cells hC1
  go_wp2_with fail
  cases hn : nameS l (nx l t) with
  | error q =>
    obtain ⟨d, pp⟩ := q
    refine (name_er H1.r hn).mono ?_
    rintro e we h3
    obtain ⟨f, rfl, h2⟩ := h3.from H1.k
    clear h3
    have HE : Hid (r = .error (d, pp)) := by show _ = _; rw [HQ.out, hn]; rfl
    clear HQ hn cc cf
    go_wp2_with fail
    rw [HE.out]
    exact ⟨rfl, f, rfl, h2⟩
  | ok q =>
    obtain ⟨n, t2⟩ := q
    refine (name_ok H1.r hn).mono ?_
    rintro e w2 ⟨rfl, R2⟩
    have H2 := H1.trans R2
    have z2 := R2.k.size
    have hO2 := (R2.k.block w.heap.size (by omega) (by omega)).trans hO1
    have hC2 := (R2.k.block (w.heap.size + 1) (by omega) (by omega)).trans hC1
    replace HQ : Hid (r = semi l { stW t.txt with name := n, tail := (tailS l t2).1 } (tailS l t2).2) := by show _ = _; rw [HQ.out, hn]; rfl
    clear hn cc cf R2 hO1 hC1
    obtain ⟨cc, cf⟩ := blk_cells hC2
    go_wp2_with fail
    refine (tail_any (l := l) (t := t2) (bl := bl) (lo := lo) (X := X) (Y := Y) (RB.r (w0 := w) (by repeat (first | refine RB.set ?_ (by first | exact Nat.le_refl _ | omega | (simp; omega)) _ _ | refine RB.alloc ?_ _ | refine RB.drew ?_ | exact H2)))).mono ?_
    generalize htl : tailS l t2 = tl at *
    obtain ⟨tb, t3⟩ := tl
    clear htl
    rintro e w3 ⟨rfl, R3⟩
    have H3 := RB.trans (w0 := w) (t := t2) (bl := bl) (lo := lo) (by repeat (first | refine RB.set ?_ (by first | exact Nat.le_refl _ | omega | (simp; omega)) _ _ | refine RB.alloc ?_ _ | refine RB.drew ?_ | exact H2)) R3
    have z3 := R3.k.size
    simp [World.setCell] at z3
    have hO3 := (R3.k.block w.heap.size (by simp [World.setCell]; omega) (by omega)).trans ((Below.heap_setCell _ _ _ _ (by first | (simp; done) | (simp; omega))).trans ((Below.heap_setCell _ _ _ _ (by first | (simp; done) | (simp; omega))).trans hO2))
    have hC3 : w3.heap[w.heap.size + 1]? = some (.cells (stA { stW t.txt with name := n } nilV nilV) 136) := (R3.k.block (w.heap.size + 1) (by simp [World.setCell]; omega) (by omega)).trans ((heap_setCell_same _ _ _ _ _ _ (heap_setCell_same _ _ _ _ _ _ hC2)).trans rfl)
    replace HQ : Hid (r = semi l { stW t.txt with name := n, tail := tb } t3) := HQ
    clear cc cf R3 hO2 hC2
    obtain ⟨cc, cf⟩ := blk_cells hC3
    go_wp2_with fail
    by_cases hsm : t3.txt = [59]
    · refine (need_yes (l := l) (t := t3) (bl := bl) (lo := lo) (X := X) (Y := Y) [59] (RB.r (w0 := w) (by repeat (first | refine RB.set ?_ (by first | exact Nat.le_refl _ | omega | (simp; omega)) _ _ | refine RB.alloc ?_ _ | refine RB.drew ?_ | exact H3))) hsm).mono ?_
      rintro e w4 ⟨rfl, R4⟩
      have H4 := RB.trans (w0 := w) (t := t3) (bl := bl) (lo := lo) (by repeat (first | refine RB.set ?_ (by first | exact Nat.le_refl _ | omega | (simp; omega)) _ _ | refine RB.alloc ?_ _ | refine RB.drew ?_ | exact H3)) R4
      have z4 := R4.k.size
      simp [World.setCell] at z4
      have hO4 := (R4.k.block w.heap.size (by simp [World.setCell]; omega) (by omega)).trans ((Below.heap_setCell _ _ _ _ (by first | (simp; done) | (simp; omega))).trans hO3)
      have hC4 : w4.heap[w.heap.size + 1]? = some (.cells (stA { stW t.txt with name := n, tail := tb } nilV nilV) 136) := (R4.k.block (w.heap.size + 1) (by simp [World.setCell]; omega) (by omega)).trans ((heap_setCell_same _ _ _ _ _ _ hC3).trans rfl)
      have HE : Hid (r = .ok ({ stW t.txt with name := n, tail := tb }, nx l t3)) := by show _ = _; rw [HQ.out]; unfold semi; rw [if_pos hsm]
      clear cc cf R4 hO3 hC3 HQ
      go_upto_region 23 with fail
      refine wp_region_lit ?_
      refine wpList_load_row rfl 136 (.tmp 3) rfl (w.heap.size + 1) rfl 136 (stA { stW t.txt with name := n, tail := tb } nilV nilV) (0, 0) _ (hC4) Tryd.underlying136 rfl (by kernel_rfl) ?_
      refine wpList_store_row rfl 136 (.tmp 2) (.tmp 55) rfl (w.heap.size) (stA { stW t.txt with name := n, tail := tb } nilV nilV) rfl rfl 136 (stA (stW []) nilV nilV) (hO4) (by kernel_rfl) rfl (by simp [Value.oneCell']) ?_
      go_wp2_with fail
      rw [HE.out]
      refine ⟨rfl, _, res_cell Tryd.results62 _ _ w.heap.size _ 136 _ rfl (setRow_heap _ _ _ _ _ _ hO4) Tryd.underlying136 rfl (by kernel_rfl), ?_, ?_⟩
      · rfl
      · refine RB.setRow ?_ (Nat.le_refl _) _; repeat (first | refine RB.set ?_ (by first | exact Nat.le_refl _ | omega | (simp; omega)) _ _ | refine RB.alloc ?_ _ | refine RB.drew ?_ | exact H4)
    · refine (need_no (l := l) (t := t3) (bl := bl) (lo := lo) (X := X) (Y := Y) [59] (RB.r (w0 := w) (by repeat (first | refine RB.set ?_ (by first | exact Nat.le_refl _ | omega | (simp; omega)) _ _ | refine RB.alloc ?_ _ | refine RB.drew ?_ | exact H3))) hsm).mono ?_
      rintro e we h3
      obtain ⟨f, rfl, h2⟩ := h3.from (RB.k (w0 := w) (l := l) (t := t3) (bl := bl) (lo := lo) (X := X) (Y := Y) (by repeat (first | refine RB.set ?_ (by first | exact Nat.le_refl _ | omega | (simp; omega)) _ _ | refine RB.alloc ?_ _ | refine RB.drew ?_ | exact H3)))
      have HE : Hid (r = .error (false, t3.pos)) := by show _ = _; rw [HQ.out]; unfold semi; rw [if_neg hsm]
      clear h3 cc cf HQ
      go_wp2_with fail
      rw [HE.out]
      exact ⟨rfl, f, rfl, h2⟩
end Go.Proofs.YtippenbbibfmdabDoor
