import Derived.Test.YtippenbbibfmdabDoorW8
namespace Go.Proofs.YtippenbbibfmdabDoor
open Go.RowKit

set_option maxRecDepth 20000 in
set_option maxHeartbeats 2000000 in
theorem plain_shift {w : World} {b : Nat} {l : List UInt8} {t : Tok} {bl lo : Nat} {X Y : Value} (h : Rw w b l t bl lo X Y) (hw : t.txt = [115, 104, 105, 102, 116]) :
    Calls Tryd.prog 62 #[ptr b] w fun e w' => Out w b l bl lo X Y (fun s => .agg (stA s nilV nilV)) (plainS l t) e w' := by
  have hgt := h.gt
  have HQ : Hid (plainS l t = bindR (nameS l (nx l t)) fun n t2 => bindR (nameS l t2) fun m t3 => semi l { stW t.txt with name := n, to := m, tail := (tailS l t3).1 } (tailS l t3).2) := by
    show _ = _
    unfold plainS; rw [if_neg (by rw [hw]; decide), if_pos hw]
  generalize plainS l t = r at *
  obtain ⟨c0, c1, c2, c3, c4, c5⟩ := h.rd.cells
  have b1 : (t.txt == [112, 117, 116]) = false := by rw [hw]; decide
  have b2 : (t.txt == [115, 104, 105, 102, 116]) = true := by rw [hw]; decide
  clear hw
  go_enter Tryd.func62, Tryd.ntmps62
  go_upto_region 1 with fail
  refine wp_region_lit ?_
  iterate 21 go_step
  refine store_new h rfl 136 (.tmp 3) (.tmp 9) rfl (stA (stW t.txt) nilV nilV) rfl rfl (by kernel_rfl) rfl (by simp [Value.oneCell']) ?_
  intro W0 h0 hO0 hC0
  have z0 : w.heap.size + 1 < W0.heap.size := (Array.getElem?_eq_some_iff.1 hC0).1
  clear c0 c1 c2 c3 c4 c5
  obtain ⟨cc, cf⟩ := blk_cells hC0
  go_wp2_with fail
  refine (step_r h0.r).mono ?_
  rintro e w1 ⟨rfl, R1⟩
  have H1 := RB.trans (w0 := w) (t := t) (bl := bl) (lo := lo) (by repeat (first | refine RB.set ?_ (by first | exact Nat.le_refl _ | omega | (simp; omega)) _ _ | refine RB.alloc ?_ _ | refine RB.drew ?_ | exact h0)) R1
  have hO1 := (R1.k.block w.heap.size (by first | omega | (simp [World.setCell]; omega)) (by omega)).trans hO0
  have hC1 : w1.heap[w.heap.size + 1]? = some (.cells (stA (stW t.txt) nilV nilV) 136) := (R1.k.block (w.heap.size + 1) (by first | omega | (simp [World.setCell]; omega)) (by omega)).trans (hC0.trans rfl)
  have z1 : w.heap.size + 1 < w1.heap.size := (Array.getElem?_eq_some_iff.1 hC1).1
  clear R1 cc cf hO0 hC0
  obtain ⟨cc, cf⟩ := blk_cells hC1
  go_wp2_with fail
  cases hn : nameS l (nx l t) with
  | error q =>
    obtain ⟨d, pp⟩ := q
    refine (name_er H1.r hn).mono ?_
    rintro e we h3
    obtain ⟨f, rfl, h2⟩ := h3.from H1.k
    have HE : Hid (r = .error (d, pp)) := by show _ = _; rw [HQ.out, hn]; rfl
    clear h3 HQ hn cc cf
    go_wp2_with fail
    rw [HE.out]
    exact ⟨rfl, f, rfl, h2⟩
  | ok q =>
    obtain ⟨n, t2⟩ := q
    refine (name_ok H1.r hn).mono ?_
    rintro e w2 ⟨rfl, R2⟩
    replace HQ : Hid (r = bindR (nameS l t2) fun m t3 => semi l { stW t.txt with name := n, to := m, tail := (tailS l t3).1 } (tailS l t3).2) := by show _ = _; rw [HQ.out, hn]; rfl
    clear hn
    have H2 := RB.trans (w0 := w) (t := nx l t) (bl := bl) (lo := lo) (by repeat (first | refine RB.set ?_ (by first | exact Nat.le_refl _ | omega | (simp; omega)) _ _ | refine RB.alloc ?_ _ | refine RB.drew ?_ | exact H1)) R2
    have hO2 := (R2.k.block w.heap.size (by first | omega | (simp [World.setCell]; omega)) (by omega)).trans hO1
    have hC2 : w2.heap[w.heap.size + 1]? = some (.cells (stA (stW t.txt) nilV nilV) 136) := (R2.k.block (w.heap.size + 1) (by first | omega | (simp [World.setCell]; omega)) (by omega)).trans (hC1.trans rfl)
    have z2 : w.heap.size + 1 < w2.heap.size := (Array.getElem?_eq_some_iff.1 hC2).1
    clear R2 cc cf hO1 hC1
    obtain ⟨cc, cf⟩ := blk_cells hC2
    go_wp2_with fail
    cases hn : nameS l t2 with
    | error q =>
      obtain ⟨d, pp⟩ := q
      refine (name_er (l := l) (t := t2) (bl := bl) (lo := lo) (X := X) (Y := Y) (RB.r (w0 := w) (l := l) (t := t2) (bl := bl) (lo := lo) (X := X) (Y := Y) (by repeat (first | refine RB.set ?_ (by first | exact Nat.le_refl _ | omega | (simp; omega)) _ _ | refine RB.alloc ?_ _ | refine RB.drew ?_ | exact H2))) hn).mono ?_
      rintro e we h3
      obtain ⟨f, rfl, h2⟩ := h3.from (RB.k (w0 := w) (l := l) (t := t2) (bl := bl) (lo := lo) (X := X) (Y := Y) (by repeat (first | refine RB.set ?_ (by first | exact Nat.le_refl _ | omega | (simp; omega)) _ _ | refine RB.alloc ?_ _ | refine RB.drew ?_ | exact H2)))
      have HE : Hid (r = .error (d, pp)) := by show _ = _; rw [HQ.out, hn]; rfl
      clear h3 HQ hn cc cf
      go_wp2_with fail
      rw [HE.out]
      exact ⟨rfl, f, rfl, h2⟩
    | ok q =>
      obtain ⟨m, t3⟩ := q
      refine (name_ok (l := l) (t := t2) (bl := bl) (lo := lo) (X := X) (Y := Y) (RB.r (w0 := w) (l := l) (t := t2) (bl := bl) (lo := lo) (X := X) (Y := Y) (by repeat (first | refine RB.set ?_ (by first | exact Nat.le_refl _ | omega | (simp; omega)) _ _ | refine RB.alloc ?_ _ | refine RB.drew ?_ | exact H2))) hn).mono ?_
      rintro e w3 ⟨rfl, R3⟩
      replace HQ : Hid (r = semi l { stW t.txt with name := n, to := m, tail := (tailS l t3).1 } (tailS l t3).2) := by show _ = _; rw [HQ.out, hn]; rfl
      clear hn
      have H3 := RB.trans (w0 := w) (t := t2) (bl := bl) (lo := lo) (by repeat (first | refine RB.set ?_ (by first | exact Nat.le_refl _ | omega | (simp; omega)) _ _ | refine RB.alloc ?_ _ | refine RB.drew ?_ | exact H2)) R3
      have hO3 := (R3.k.block w.heap.size (by first | omega | (simp [World.setCell]; omega)) (by omega)).trans ((Below.heap_setCell _ _ _ _ (by first | (simp; done) | (simp; omega))).trans ((Below.heap_setCell _ _ _ _ (by first | (simp; done) | (simp; omega))).trans hO2))
      have hC3 : w3.heap[w.heap.size + 1]? = some (.cells (stA { stW t.txt with name := n } nilV nilV) 136) := (R3.k.block (w.heap.size + 1) (by first | omega | (simp [World.setCell]; omega)) (by omega)).trans ((heap_setCell_same _ _ _ _ _ _ (heap_setCell_same _ _ _ _ _ _ hC2)).trans rfl)
      have z3 : w.heap.size + 1 < w3.heap.size := (Array.getElem?_eq_some_iff.1 hC3).1
      clear R3 cc cf hO2 hC2
      obtain ⟨cc, cf⟩ := blk_cells hC3
      go_wp2_with fail
      refine (tail_any (l := l) (t := t3) (bl := bl) (lo := lo) (X := X) (Y := Y) (RB.r (w0 := w) (l := l) (t := t3) (bl := bl) (lo := lo) (X := X) (Y := Y) (by repeat (first | refine RB.set ?_ (by first | exact Nat.le_refl _ | omega | (simp; omega)) _ _ | refine RB.alloc ?_ _ | refine RB.drew ?_ | exact H3)))).mono ?_
      generalize htl : tailS l t3 = tl at *
      obtain ⟨tb, t4⟩ := tl
      clear htl
      rintro e w4 ⟨rfl, R4⟩
      replace HQ : Hid (r = semi l { stW t.txt with name := n, to := m, tail := tb } t4) := HQ
      have H4 := RB.trans (w0 := w) (t := t3) (bl := bl) (lo := lo) (by repeat (first | refine RB.set ?_ (by first | exact Nat.le_refl _ | omega | (simp; omega)) _ _ | refine RB.alloc ?_ _ | refine RB.drew ?_ | exact H3)) R4
      have hO4 := (R4.k.block w.heap.size (by first | omega | (simp [World.setCell]; omega)) (by omega)).trans ((Below.heap_setCell _ _ _ _ (by first | (simp; done) | (simp; omega))).trans ((Below.heap_setCell _ _ _ _ (by first | (simp; done) | (simp; omega))).trans hO3))
      have hC4 : w4.heap[w.heap.size + 1]? = some (.cells (stA { stW t.txt with name := n, to := m } nilV nilV) 136) := (R4.k.block (w.heap.size + 1) (by first | omega | (simp [World.setCell]; omega)) (by omega)).trans ((heap_setCell_same _ _ _ _ _ _ (heap_setCell_same _ _ _ _ _ _ hC3)).trans rfl)
      have z4 : w.heap.size + 1 < w4.heap.size := (Array.getElem?_eq_some_iff.1 hC4).1
      clear R4 cc cf hO3 hC3
      obtain ⟨cc, cf⟩ := blk_cells hC4
      go_wp2_with fail
      by_cases hsm : (t4).txt = [59]
      · refine (need_yes (l := l) (t := t4) (bl := bl) (lo := lo) (X := X) (Y := Y) [59] (RB.r (w0 := w) (l := l) (t := t4) (bl := bl) (lo := lo) (X := X) (Y := Y) (by repeat (first | refine RB.set ?_ (by first | exact Nat.le_refl _ | omega | (simp; omega)) _ _ | refine RB.alloc ?_ _ | refine RB.drew ?_ | exact H4))) hsm).mono ?_
        rintro e we ⟨rfl, Re⟩
        have He := RB.trans (w0 := w) (t := t4) (bl := bl) (lo := lo) (by repeat (first | refine RB.set ?_ (by first | exact Nat.le_refl _ | omega | (simp; omega)) _ _ | refine RB.alloc ?_ _ | refine RB.drew ?_ | exact H4)) Re
        have hOe := (Re.k.block w.heap.size (by first | omega | (simp [World.setCell]; omega)) (by omega)).trans ((Below.heap_setCell _ _ _ _ (by first | (simp; done) | (simp; omega))).trans hO4)
        have hCe : we.heap[w.heap.size + 1]? = some (.cells (stA ({ stW t.txt with name := n, to := m, tail := tb }) nilV nilV) 136) := (Re.k.block (w.heap.size + 1) (by first | omega | (simp [World.setCell]; omega)) (by omega)).trans ((heap_setCell_same _ _ _ _ _ _ hC4).trans rfl)
        have HE : Hid (r = .ok ({ stW t.txt with name := n, to := m, tail := tb }, nx l (t4))) := by show _ = _; rw [HQ.out]; unfold semi; rw [if_pos hsm]
        clear cc cf Re hO4 hC4 HQ
        go_upto_region 23 with fail
        refine wp_region_lit ?_
        refine wpList_load_row rfl 136 (.tmp 3) rfl (w.heap.size + 1) rfl 136 (stA ({ stW t.txt with name := n, to := m, tail := tb }) nilV nilV) (0, 0) _ (hCe) Tryd.underlying136 rfl (by kernel_rfl) ?_
        refine wpList_store_row rfl 136 (.tmp 2) (.tmp 55) rfl (w.heap.size) (stA ({ stW t.txt with name := n, to := m, tail := tb }) nilV nilV) rfl rfl 136 (stA (stW []) nilV nilV) (hOe) (by kernel_rfl) rfl (by simp [Value.oneCell']) ?_
        go_wp2_with fail
        rw [HE.out]
        refine ⟨rfl, _, res_cell Tryd.results62 _ _ w.heap.size _ 136 _ rfl (setRow_heap _ _ _ _ _ _ hOe) Tryd.underlying136 rfl (by kernel_rfl), ?_, ?_⟩
        · rfl
        · refine RB.setRow ?_ (Nat.le_refl _) _; repeat (first | refine RB.set ?_ (by first | exact Nat.le_refl _ | omega | (simp; omega)) _ _ | refine RB.alloc ?_ _ | refine RB.drew ?_ | exact He)
      · refine (need_no (l := l) (t := t4) (bl := bl) (lo := lo) (X := X) (Y := Y) [59] (RB.r (w0 := w) (l := l) (t := t4) (bl := bl) (lo := lo) (X := X) (Y := Y) (by repeat (first | refine RB.set ?_ (by first | exact Nat.le_refl _ | omega | (simp; omega)) _ _ | refine RB.alloc ?_ _ | refine RB.drew ?_ | exact H4))) hsm).mono ?_
        rintro e we h3
        obtain ⟨f, rfl, h2⟩ := h3.from (RB.k (w0 := w) (l := l) (t := t4) (bl := bl) (lo := lo) (X := X) (Y := Y) (by repeat (first | refine RB.set ?_ (by first | exact Nat.le_refl _ | omega | (simp; omega)) _ _ | refine RB.alloc ?_ _ | refine RB.drew ?_ | exact H4)))
        have HE : Hid (r = .error (false, (t4).pos)) := by show _ = _; rw [HQ.out]; unfold semi; rw [if_neg hsm]
        clear h3 cc cf HQ
        go_wp2_with fail
        rw [HE.out]
        exact ⟨rfl, f, rfl, h2⟩

theorem one_cases (s : List UInt8) (h1 : ¬ s = [112, 117, 116]) (h2 : ¬ s = [115, 104, 105, 102, 116]) (h : oneB s = true) :
    (s == [112, 117, 116]) = false ∧ (s == [115, 104, 105, 102, 116]) = false ∧ ((s == [101, 118, 105, 99, 116]) = true ∨ ((s == [101, 118, 105, 99, 116]) = false ∧ (s == [105, 110, 99]) = true) ∨ ((s == [101, 118, 105, 99, 116]) = false ∧ (s == [105, 110, 99]) = false ∧ (s == [100, 101, 99]) = true) ∨ ((s == [101, 118, 105, 99, 116]) = false ∧ (s == [105, 110, 99]) = false ∧ (s == [100, 101, 99]) = false ∧ (s == [99, 111, 111, 108]) = true)) := by
  refine ⟨by simpa using h1, by simpa using h2, ?_⟩
  simp only [oneB, Bool.or_eq_true, beq_iff_eq] at h
  rcases h with ((e | e) | e) | e <;> rw [e] <;> decide

set_option maxRecDepth 20000 in
set_option maxHeartbeats 2000000 in
theorem plain_one {w : World} {b : Nat} {l : List UInt8} {t : Tok} {bl lo : Nat} {X Y : Value} (h : Rw w b l t bl lo X Y) (hw1 : ¬ t.txt = [112, 117, 116]) (hw2 : ¬ t.txt = [115, 104, 105, 102, 116]) (hw : oneB t.txt = true) :
    Calls Tryd.prog 62 #[ptr b] w fun e w' => Out w b l bl lo X Y (fun s => .agg (stA s nilV nilV)) (plainS l t) e w' := by
  have hgt := h.gt
  have HQ : Hid (plainS l t = bindR (nameS l (nx l t)) fun n t2 => semi l { stW t.txt with name := n } t2) := by
    show _ = _
    unfold plainS; rw [if_neg hw1, if_neg hw2, if_pos hw]
  generalize plainS l t = r at *
  obtain ⟨c0, c1, c2, c3, c4, c5⟩ := h.rd.cells
  obtain ⟨b1, b2, hb⟩ := one_cases t.txt hw1 hw2 hw
  clear hw hw1 hw2
  rcases hb with b3 | ⟨b3, b4⟩ | ⟨b3, b4, b5⟩ | ⟨b3, b4, b5, b6⟩
  all_goals
    go_enter Tryd.func62, Tryd.ntmps62
    go_upto_region 1 with fail
    refine wp_region_lit ?_
    iterate 21 go_step
    refine store_new h rfl 136 (.tmp 3) (.tmp 9) rfl (stA (stW t.txt) nilV nilV) rfl rfl (by kernel_rfl) rfl (by simp [Value.oneCell']) ?_
    intro W0 h0 hO0 hC0
    have z0 : w.heap.size + 1 < W0.heap.size := (Array.getElem?_eq_some_iff.1 hC0).1
    clear c0 c1 c2 c3 c4 c5
    obtain ⟨cc, cf⟩ := blk_cells hC0
    go_wp2_with fail
    refine (step_r h0.r).mono ?_
    rintro e w1 ⟨rfl, R1⟩
    have H1 := RB.trans (w0 := w) (t := t) (bl := bl) (lo := lo) (by repeat (first | refine RB.set ?_ (by first | exact Nat.le_refl _ | omega | (simp; omega)) _ _ | refine RB.alloc ?_ _ | refine RB.drew ?_ | exact h0)) R1
    have hO1 := (R1.k.block w.heap.size (by first | omega | (simp [World.setCell]; omega)) (by omega)).trans hO0
    have hC1 : w1.heap[w.heap.size + 1]? = some (.cells (stA (stW t.txt) nilV nilV) 136) := (R1.k.block (w.heap.size + 1) (by first | omega | (simp [World.setCell]; omega)) (by omega)).trans (hC0.trans rfl)
    have z1 : w.heap.size + 1 < w1.heap.size := (Array.getElem?_eq_some_iff.1 hC1).1
    clear R1 cc cf hO0 hC0
    obtain ⟨cc, cf⟩ := blk_cells hC1
    go_wp2_with fail
    cases hn : nameS l (nx l t) with
    | error q =>
      obtain ⟨d, pp⟩ := q
      refine (name_er H1.r hn).mono ?_
      rintro e we h3
      obtain ⟨f, rfl, h2⟩ := h3.from H1.k
      have HE : Hid (r = .error (d, pp)) := by show _ = _; rw [HQ.out, hn]; rfl
      clear h3 HQ hn cc cf
      go_wp2_with fail
      rw [HE.out]
      exact ⟨rfl, f, rfl, h2⟩
    | ok q =>
      obtain ⟨n, t2⟩ := q
      refine (name_ok H1.r hn).mono ?_
      rintro e w2 ⟨rfl, R2⟩
      replace HQ : Hid (r = semi l { stW t.txt with name := n } t2) := by show _ = _; rw [HQ.out, hn]; rfl
      clear hn
      have H2 := RB.trans (w0 := w) (t := nx l t) (bl := bl) (lo := lo) (by repeat (first | refine RB.set ?_ (by first | exact Nat.le_refl _ | omega | (simp; omega)) _ _ | refine RB.alloc ?_ _ | refine RB.drew ?_ | exact H1)) R2
      have hO2 := (R2.k.block w.heap.size (by first | omega | (simp [World.setCell]; omega)) (by omega)).trans hO1
      have hC2 : w2.heap[w.heap.size + 1]? = some (.cells (stA (stW t.txt) nilV nilV) 136) := (R2.k.block (w.heap.size + 1) (by first | omega | (simp [World.setCell]; omega)) (by omega)).trans (hC1.trans rfl)
      have z2 : w.heap.size + 1 < w2.heap.size := (Array.getElem?_eq_some_iff.1 hC2).1
      clear R2 cc cf hO1 hC1
      obtain ⟨cc, cf⟩ := blk_cells hC2
      go_wp2_with fail
      by_cases hsm : (t2).txt = [59]
      · refine (need_yes (l := l) (t := t2) (bl := bl) (lo := lo) (X := X) (Y := Y) [59] (RB.r (w0 := w) (l := l) (t := t2) (bl := bl) (lo := lo) (X := X) (Y := Y) (by repeat (first | refine RB.set ?_ (by first | exact Nat.le_refl _ | omega | (simp; omega)) _ _ | refine RB.alloc ?_ _ | refine RB.drew ?_ | exact H2))) hsm).mono ?_
        rintro e we ⟨rfl, Re⟩
        have He := RB.trans (w0 := w) (t := t2) (bl := bl) (lo := lo) (by repeat (first | refine RB.set ?_ (by first | exact Nat.le_refl _ | omega | (simp; omega)) _ _ | refine RB.alloc ?_ _ | refine RB.drew ?_ | exact H2)) Re
        have hOe := (Re.k.block w.heap.size (by first | omega | (simp [World.setCell]; omega)) (by omega)).trans ((Below.heap_setCell _ _ _ _ (by first | (simp; done) | (simp; omega))).trans ((Below.heap_setCell _ _ _ _ (by first | (simp; done) | (simp; omega))).trans hO2))
        have hCe : we.heap[w.heap.size + 1]? = some (.cells (stA ({ stW t.txt with name := n }) nilV nilV) 136) := (Re.k.block (w.heap.size + 1) (by first | omega | (simp [World.setCell]; omega)) (by omega)).trans ((heap_setCell_same _ _ _ _ _ _ (heap_setCell_same _ _ _ _ _ _ hC2)).trans rfl)
        have HE : Hid (r = .ok ({ stW t.txt with name := n }, nx l (t2))) := by show _ = _; rw [HQ.out]; unfold semi; rw [if_pos hsm]
        clear cc cf Re hO2 hC2 HQ
        go_upto_region 23 with fail
        refine wp_region_lit ?_
        refine wpList_load_row rfl 136 (.tmp 3) rfl (w.heap.size + 1) rfl 136 (stA ({ stW t.txt with name := n }) nilV nilV) (0, 0) _ (hCe) Tryd.underlying136 rfl (by kernel_rfl) ?_
        refine wpList_store_row rfl 136 (.tmp 2) (.tmp 55) rfl (w.heap.size) (stA ({ stW t.txt with name := n }) nilV nilV) rfl rfl 136 (stA (stW []) nilV nilV) (hOe) (by kernel_rfl) rfl (by simp [Value.oneCell']) ?_
        go_wp2_with fail
        rw [HE.out]
        refine ⟨rfl, _, res_cell Tryd.results62 _ _ w.heap.size _ 136 _ rfl (setRow_heap _ _ _ _ _ _ hOe) Tryd.underlying136 rfl (by kernel_rfl), ?_, ?_⟩
        · rfl
        · refine RB.setRow ?_ (Nat.le_refl _) _; repeat (first | refine RB.set ?_ (by first | exact Nat.le_refl _ | omega | (simp; omega)) _ _ | refine RB.alloc ?_ _ | refine RB.drew ?_ | exact He)
      · refine (need_no (l := l) (t := t2) (bl := bl) (lo := lo) (X := X) (Y := Y) [59] (RB.r (w0 := w) (l := l) (t := t2) (bl := bl) (lo := lo) (X := X) (Y := Y) (by repeat (first | refine RB.set ?_ (by first | exact Nat.le_refl _ | omega | (simp; omega)) _ _ | refine RB.alloc ?_ _ | refine RB.drew ?_ | exact H2))) hsm).mono ?_
        rintro e we h3
        obtain ⟨f, rfl, h2⟩ := h3.from (RB.k (w0 := w) (l := l) (t := t2) (bl := bl) (lo := lo) (X := X) (Y := Y) (by repeat (first | refine RB.set ?_ (by first | exact Nat.le_refl _ | omega | (simp; omega)) _ _ | refine RB.alloc ?_ _ | refine RB.drew ?_ | exact H2)))
        have HE : Hid (r = .error (false, (t2).pos)) := by show _ = _; rw [HQ.out]; unfold semi; rw [if_neg hsm]
        clear h3 cc cf HQ
        go_wp2_with fail
        rw [HE.out]
        exact ⟨rfl, f, rfl, h2⟩

theorem zero_cases (s : List UInt8) (h1 : ¬ s = [112, 117, 116]) (h2 : ¬ s = [115, 104, 105, 102, 116]) (h3 : ¬ oneB s = true) (h : zeroB s = true) :
    (s == [112, 117, 116]) = false ∧ (s == [115, 104, 105, 102, 116]) = false ∧ (s == [101, 118, 105, 99, 116]) = false ∧ (s == [105, 110, 99]) = false ∧ (s == [100, 101, 99]) = false ∧ (s == [99, 111, 111, 108]) = false ∧ ((s == [100, 114, 111, 112]) = true ∨ ((s == [100, 114, 111, 112]) = false ∧ (s == [98, 117, 109, 112]) = true)) := by
  simp only [oneB, Bool.or_eq_true, beq_iff_eq, not_or] at h3
  refine ⟨by simpa using h1, by simpa using h2, by simpa using h3.1.1.1, by simpa using h3.1.1.2, by simpa using h3.1.2, by simpa using h3.2, ?_⟩
  simp only [zeroB, Bool.or_eq_true, beq_iff_eq] at h
  rcases h with e | e <;> rw [e] <;> decide

set_option maxRecDepth 20000 in
set_option maxHeartbeats 2000000 in
theorem plain_zero {w : World} {b : Nat} {l : List UInt8} {t : Tok} {bl lo : Nat} {X Y : Value} (h : Rw w b l t bl lo X Y) (hw1 : ¬ t.txt = [112, 117, 116]) (hw2 : ¬ t.txt = [115, 104, 105, 102, 116]) (hw3 : ¬ oneB t.txt = true) (hw : zeroB t.txt = true) :
    Calls Tryd.prog 62 #[ptr b] w fun e w' => Out w b l bl lo X Y (fun s => .agg (stA s nilV nilV)) (plainS l t) e w' := by
  have hgt := h.gt
  have HQ : Hid (plainS l t = semi l (stW t.txt) (nx l t)) := by
    show _ = _
    unfold plainS; rw [if_neg hw1, if_neg hw2, if_neg hw3, if_pos hw]
  generalize plainS l t = r at *
  obtain ⟨c0, c1, c2, c3, c4, c5⟩ := h.rd.cells
  obtain ⟨b1, b2, b3, b4, b5, b6, hb⟩ := zero_cases t.txt hw1 hw2 hw3 hw
  clear hw hw1 hw2 hw3
  rcases hb with b7 | ⟨b7, b8⟩
  all_goals
    go_enter Tryd.func62, Tryd.ntmps62
    go_upto_region 1 with fail
    refine wp_region_lit ?_
    iterate 21 go_step
    refine store_new h rfl 136 (.tmp 3) (.tmp 9) rfl (stA (stW t.txt) nilV nilV) rfl rfl (by kernel_rfl) rfl (by simp [Value.oneCell']) ?_
    intro W0 h0 hO0 hC0
    have z0 : w.heap.size + 1 < W0.heap.size := (Array.getElem?_eq_some_iff.1 hC0).1
    clear c0 c1 c2 c3 c4 c5
    obtain ⟨cc, cf⟩ := blk_cells hC0
    go_wp2_with fail
    refine (step_r h0.r).mono ?_
    rintro e w1 ⟨rfl, R1⟩
    have H1 := RB.trans (w0 := w) (t := t) (bl := bl) (lo := lo) (by repeat (first | refine RB.set ?_ (by first | exact Nat.le_refl _ | omega | (simp; omega)) _ _ | refine RB.alloc ?_ _ | refine RB.drew ?_ | exact h0)) R1
    have hO1 := (R1.k.block w.heap.size (by first | omega | (simp [World.setCell]; omega)) (by omega)).trans hO0
    have hC1 : w1.heap[w.heap.size + 1]? = some (.cells (stA (stW t.txt) nilV nilV) 136) := (R1.k.block (w.heap.size + 1) (by first | omega | (simp [World.setCell]; omega)) (by omega)).trans (hC0.trans rfl)
    have z1 : w.heap.size + 1 < w1.heap.size := (Array.getElem?_eq_some_iff.1 hC1).1
    clear R1 cc cf hO0 hC0
    obtain ⟨cc, cf⟩ := blk_cells hC1
    go_wp2_with fail
    by_cases hsm : (nx l t).txt = [59]
    · refine (need_yes (l := l) (t := nx l t) (bl := bl) (lo := lo) (X := X) (Y := Y) [59] (RB.r (w0 := w) (l := l) (t := nx l t) (bl := bl) (lo := lo) (X := X) (Y := Y) (by repeat (first | refine RB.set ?_ (by first | exact Nat.le_refl _ | omega | (simp; omega)) _ _ | refine RB.alloc ?_ _ | refine RB.drew ?_ | exact H1))) hsm).mono ?_
      rintro e we ⟨rfl, Re⟩
      have He := RB.trans (w0 := w) (t := nx l t) (bl := bl) (lo := lo) (by repeat (first | refine RB.set ?_ (by first | exact Nat.le_refl _ | omega | (simp; omega)) _ _ | refine RB.alloc ?_ _ | refine RB.drew ?_ | exact H1)) Re
      have hOe := (Re.k.block w.heap.size (by first | omega | (simp [World.setCell]; omega)) (by omega)).trans hO1
      have hCe : we.heap[w.heap.size + 1]? = some (.cells (stA (stW t.txt) nilV nilV) 136) := (Re.k.block (w.heap.size + 1) (by first | omega | (simp [World.setCell]; omega)) (by omega)).trans (hC1.trans rfl)
      have HE : Hid (r = .ok (stW t.txt, nx l (nx l t))) := by show _ = _; rw [HQ.out]; unfold semi; rw [if_pos hsm]
      clear cc cf Re hO1 hC1 HQ
      go_upto_region 23 with fail
      refine wp_region_lit ?_
      refine wpList_load_row rfl 136 (.tmp 3) rfl (w.heap.size + 1) rfl 136 (stA (stW t.txt) nilV nilV) (0, 0) _ (hCe) Tryd.underlying136 rfl (by kernel_rfl) ?_
      refine wpList_store_row rfl 136 (.tmp 2) (.tmp 55) rfl (w.heap.size) (stA (stW t.txt) nilV nilV) rfl rfl 136 (stA (stW []) nilV nilV) (hOe) (by kernel_rfl) rfl (by simp [Value.oneCell']) ?_
      go_wp2_with fail
      rw [HE.out]
      refine ⟨rfl, _, res_cell Tryd.results62 _ _ w.heap.size _ 136 _ rfl (setRow_heap _ _ _ _ _ _ hOe) Tryd.underlying136 rfl (by kernel_rfl), ?_, ?_⟩
      · rfl
      · refine RB.setRow ?_ (Nat.le_refl _) _; repeat (first | refine RB.set ?_ (by first | exact Nat.le_refl _ | omega | (simp; omega)) _ _ | refine RB.alloc ?_ _ | refine RB.drew ?_ | exact He)
    · refine (need_no (l := l) (t := nx l t) (bl := bl) (lo := lo) (X := X) (Y := Y) [59] (RB.r (w0 := w) (l := l) (t := nx l t) (bl := bl) (lo := lo) (X := X) (Y := Y) (by repeat (first | refine RB.set ?_ (by first | exact Nat.le_refl _ | omega | (simp; omega)) _ _ | refine RB.alloc ?_ _ | refine RB.drew ?_ | exact H1))) hsm).mono ?_
      rintro e we h3
      obtain ⟨f, rfl, h2⟩ := h3.from (RB.k (w0 := w) (l := l) (t := nx l t) (bl := bl) (lo := lo) (X := X) (Y := Y) (by repeat (first | refine RB.set ?_ (by first | exact Nat.le_refl _ | omega | (simp; omega)) _ _ | refine RB.alloc ?_ _ | refine RB.drew ?_ | exact H1)))
      have HE : Hid (r = .error (false, (nx l t).pos)) := by show _ = _; rw [HQ.out]; unfold semi; rw [if_neg hsm]
      clear h3 cc cf HQ
      go_wp2_with fail
      rw [HE.out]
      exact ⟨rfl, f, rfl, h2⟩

theorem none_cases (s : List UInt8) (h1 : ¬ s = [112, 117, 116]) (h2 : ¬ s = [115, 104, 105, 102, 116]) (h3 : ¬ oneB s = true) (h : ¬ zeroB s = true) :
    (s == [112, 117, 116]) = false ∧ (s == [115, 104, 105, 102, 116]) = false ∧ (s == [101, 118, 105, 99, 116]) = false ∧ (s == [105, 110, 99]) = false ∧ (s == [100, 101, 99]) = false ∧ (s == [99, 111, 111, 108]) = false ∧ (s == [100, 114, 111, 112]) = false ∧ (s == [98, 117, 109, 112]) = false := by
  simp only [oneB, Bool.or_eq_true, beq_iff_eq, not_or] at h3
  simp only [zeroB, Bool.or_eq_true, beq_iff_eq, not_or] at h
  exact ⟨by simpa using h1, by simpa using h2, by simpa using h3.1.1.1, by simpa using h3.1.1.2, by simpa using h3.1.2, by simpa using h3.2, by simpa using h.1, by simpa using h.2⟩

set_option maxRecDepth 20000 in
set_option maxHeartbeats 2000000 in
theorem plain_none {w : World} {b : Nat} {l : List UInt8} {t : Tok} {bl lo : Nat} {X Y : Value} (h : Rw w b l t bl lo X Y) (hw1 : ¬ t.txt = [112, 117, 116]) (hw2 : ¬ t.txt = [115, 104, 105, 102, 116]) (hw3 : ¬ oneB t.txt = true) (hw : ¬ zeroB t.txt = true) :
    Calls Tryd.prog 62 #[ptr b] w fun e w' => Out w b l bl lo X Y (fun s => .agg (stA s nilV nilV)) (plainS l t) e w' := by
  have hgt := h.gt
  have HQ : Hid (plainS l t = .error (false, t.pos)) := by
    show _ = _
    unfold plainS; rw [if_neg hw1, if_neg hw2, if_neg hw3, if_neg hw]
  generalize plainS l t = r at *
  obtain ⟨c0, c1, c2, c3, c4, c5⟩ := h.rd.cells
  obtain ⟨b1, b2, b3, b4, b5, b6, b7, b8⟩ := none_cases t.txt hw1 hw2 hw3 hw
  clear hw hw1 hw2 hw3
  go_enter Tryd.func62, Tryd.ntmps62
  go_upto_region 1 with fail
  refine wp_region_lit ?_
  iterate 21 go_step
  refine store_new h rfl 136 (.tmp 3) (.tmp 9) rfl (stA (stW t.txt) nilV nilV) rfl rfl (by kernel_rfl) rfl (by simp [Value.oneCell']) ?_
  intro W0 h0 hO0 hC0
  obtain ⟨cc, cf⟩ := blk_cells hC0
  have hg := h0.r.syn
  clear c0 c1 c2 c3 c4 c5
  go_wp2_with fail
  refine (leave_r X h0.r).mono ?_
  rintro e we h3
  obtain ⟨f, rfl, h2⟩ := h3.from h0.k
  clear h3 cc cf hg
  go_wp2_with fail
  rw [HQ.out]
  exact ⟨rfl, f, rfl, h2⟩

theorem plain_any {w : World} {b : Nat} {l : List UInt8} {t : Tok} {bl lo : Nat} {X Y : Value} (h : Rw w b l t bl lo X Y) :
    Calls Tryd.prog 62 #[ptr b] w fun e w' => Out w b l bl lo X Y (fun s => .agg (stA s nilV nilV)) (plainS l t) e w' := by
  by_cases h1 : t.txt = [112, 117, 116]
  · exact plain_put h h1
  · by_cases h2 : t.txt = [115, 104, 105, 102, 116]
    · exact plain_shift h h2
    · by_cases h3 : oneB t.txt = true
      · exact plain_one h h1 h2 h3
      · by_cases h4 : zeroB t.txt = true
        · exact plain_zero h h1 h2 h3 h4
        · exact plain_none h h1 h2 h3 h4
end Go.Proofs.YtippenbbibfmdabDoor
