import Derived.Test.YtippenbbibfmdabDoorW14
namespace Go.Proofs.YtippenbbibfmdabDoor
open Go.RowKit

structure Dc where
  word : List UInt8
  pos : Nat
  name : NP
  num : Nat × Nat

abbrev dcA (d : Dc) : Array Value := #[.string ⟨d.word.toArray⟩, .int .i64 d.pos, .string ⟨d.name.1.toArray⟩, .int .i64 d.name.2, .int .i64 d.num.1, .int .i64 d.num.2]

def declS (l : List UInt8) (t : Tok) : PR Dc :=
  if t.txt = [102, 114, 101, 113] then bindR (numS l (nx l t)) fun n t1 => bindR (needS [59] l t1) fun _ t2 => .ok (⟨t.txt, t.pos, ([], 0), n⟩, t2)
  else bindR (nameS l (nx l t)) fun m t1 => bindR (numS l t1) fun n t2 => bindR (needS [59] l t2) fun _ t3 => .ok (⟨t.txt, t.pos, m, n⟩, t3)

set_option maxRecDepth 20000 in
set_option maxHeartbeats 2000000 in
theorem decl_any {w : World} {b : Nat} {l : List UInt8} {t : Tok} {bl lo : Nat} {X Y : Value} (h : Rw w b l t bl lo X Y) :
    Calls Tryd.prog 36 #[ptr b] w fun e w' => Out w b l bl lo X Y (fun d => .agg (dcA d)) (declS l t) e w' := by
  have hgt := h.gt
  by_cases hw : t.txt = [102, 114, 101, 113]
  · have HQ : Hid (declS l t = bindR (numS l (nx l t)) fun n t1 => bindR (needS [59] l t1) fun _ t2 => .ok (⟨t.txt, t.pos, ([], 0), n⟩, t2)) := by
      show _ = _
      unfold declS; rw [if_pos hw]
    generalize declS l t = r at *
    have b1 : (t.txt != [102, 114, 101, 113]) = false := by simp [hw]
    have b2 : (t.txt == [102, 114, 101, 113]) = true := by simp [hw]
    clear hw
    go_enter Tryd.func36, Tryd.ntmps36
    go_wp2_with fail
    refine (step_r (h.alloc _)).mono ?_
    rintro e w1 ⟨rfl, R1⟩
    have H1 := ((RB.refl h).alloc _).trans R1
    have hO1 := (R1.k.block w.heap.size (by simp) (by omega)).trans (heap_new rfl)
    have z1 : w.heap.size < w1.heap.size := (Array.getElem?_eq_some_iff.1 hO1).1
    have hM : w.heap.size < w1.heap.size + 1 := by omega
    clear R1
    go_wp2_with fail
    cases hn : numS l (nx l t) with
    | error q =>
      obtain ⟨qd, pp⟩ := q
      refine (number_er (l := l) (t := nx l t) (bl := bl) (lo := lo) (X := X) (Y := Y) (RB.r (w0 := w) (l := l) (t := nx l t) (bl := bl) (lo := lo) (X := X) (Y := Y) (by repeat (first | refine RB.set ?_ (by first | exact Nat.le_refl _ | omega | (simp; omega)) _ _ | refine RB.alloc ?_ _ | refine RB.drew ?_ | exact H1))) hn).mono ?_
      rintro e we h3
      obtain ⟨f, rfl, h2⟩ := h3.from (RB.k (w0 := w) (l := l) (t := nx l t) (bl := bl) (lo := lo) (X := X) (Y := Y) (by repeat (first | refine RB.set ?_ (by first | exact Nat.le_refl _ | omega | (simp; omega)) _ _ | refine RB.alloc ?_ _ | refine RB.drew ?_ | exact H1)))
      have HE : Hid (r = .error (qd, pp)) := by show _ = _; rw [HQ.out, hn]; rfl
      clear h3 HQ hn
      go_wp2_with fail
      rw [HE.out]
      exact ⟨rfl, f, rfl, h2⟩
    | ok q =>
      obtain ⟨n, t1⟩ := q
      refine (number_ok (l := l) (t := nx l t) (bl := bl) (lo := lo) (X := X) (Y := Y) (RB.r (w0 := w) (l := l) (t := nx l t) (bl := bl) (lo := lo) (X := X) (Y := Y) (by repeat (first | refine RB.set ?_ (by first | exact Nat.le_refl _ | omega | (simp; omega)) _ _ | refine RB.alloc ?_ _ | refine RB.drew ?_ | exact H1))) hn).mono ?_
      rintro e w2 ⟨rfl, R2⟩
      replace HQ : Hid (r = bindR (needS [59] l t1) fun _ t2 => .ok (⟨t.txt, t.pos, ([], 0), n⟩, t2)) := by show _ = _; rw [HQ.out, hn]; rfl
      clear hn
      have H2 := RB.trans (w0 := w) (t := nx l t) (bl := bl) (lo := lo) (by repeat (first | refine RB.set ?_ (by first | exact Nat.le_refl _ | omega | (simp; omega)) _ _ | refine RB.alloc ?_ _ | refine RB.drew ?_ | exact H1)) R2
      have hO2 := (R2.k.block w.heap.size (by first | omega | (simp; omega) | (simp [World.setCell]; omega)) (by omega)).trans ((Below.heap_alloc _ _ _ (by simp; omega)).trans ((Below.heap_alloc _ _ _ z1).trans hO1))
      have hC2 : w2.heap[w1.heap.size + 1]? = some (.cells (dcA ⟨t.txt, t.pos, ([], 0), (0, 0)⟩) 73) := (R2.k.block (w1.heap.size + 1) (by simp) (by omega)).trans (heap_new (by simp))
      clear R2 H1 hO1
      generalize w1.heap.size + 1 = M at *
      have z2 : M < w2.heap.size := (Array.getElem?_eq_some_iff.1 hC2).1
      obtain ⟨cc, cf⟩ := blk_cells hC2
      go_wp2_with fail
      by_cases hsm : (t1).txt = [59]
      · refine (need_yes (l := l) (t := t1) (bl := bl) (lo := lo) (X := X) (Y := Y) [59] (RB.r (w0 := w) (l := l) (t := t1) (bl := bl) (lo := lo) (X := X) (Y := Y) (by repeat (first | refine RB.set ?_ (by first | exact Nat.le_refl _ | omega | (simp; omega)) _ _ | refine RB.alloc ?_ _ | refine RB.drew ?_ | exact H2))) hsm).mono ?_
        rintro e we ⟨rfl, Re⟩
        have He := RB.trans (w0 := w) (t := t1) (bl := bl) (lo := lo) (by repeat (first | refine RB.set ?_ (by first | exact Nat.le_refl _ | omega | (simp; omega)) _ _ | refine RB.alloc ?_ _ | refine RB.drew ?_ | exact H2)) Re
        have hOe := (Re.k.block w.heap.size (by first | omega | (simp; omega) | (simp [World.setCell]; omega)) (by omega)).trans ((Below.heap_setCell _ _ _ _ (by first | (simp; done) | (simp; omega))).trans ((Below.heap_setCell _ _ _ _ (by first | (simp; done) | (simp; omega))).trans hO2))
        have hCe : we.heap[M]? = some (.cells (dcA ⟨t.txt, t.pos, ([], 0), n⟩) 73) := (Re.k.block M (by first | omega | (simp; omega) | (simp [World.setCell]; omega)) (by omega)).trans ((heap_setCell_same _ _ _ _ _ _ (heap_setCell_same _ _ _ _ _ _ hC2)).trans rfl)
        have HE : Hid (r = .ok (⟨t.txt, t.pos, ([], 0), n⟩, nx l (t1))) := by show _ = _; rw [HQ.out]; unfold needS; rw [if_pos hsm]; rfl
        clear cc cf Re hO2 hC2 HQ
        go_upto_region 7 with fail
        refine wp_region_lit ?_
        refine wpList_load_row rfl 73 (.tmp 4) rfl (M) rfl 73 (dcA ⟨t.txt, t.pos, ([], 0), n⟩) (0, 0) _ (hCe) Tryd.underlying73 rfl (by kernel_rfl) ?_
        refine wpList_store_row rfl 73 (.tmp 2) (.tmp 23) rfl (w.heap.size) (dcA ⟨t.txt, t.pos, ([], 0), n⟩) rfl rfl 73 (dcA ⟨[], 0, ([], 0), (0, 0)⟩) (hOe) (by kernel_rfl) rfl (by simp [Value.oneCell']) ?_
        go_wp2_with fail
        rw [HE.out]
        refine ⟨rfl, _, res_cell Tryd.results36 _ _ w.heap.size _ 73 _ rfl (setRow_heap _ _ _ _ _ _ hOe) Tryd.underlying73 rfl (by kernel_rfl), ?_, ?_⟩
        · rfl
        · refine RB.setRow ?_ (Nat.le_refl _) _; repeat (first | refine RB.set ?_ (by first | exact Nat.le_refl _ | omega | (simp; omega)) _ _ | refine RB.alloc ?_ _ | refine RB.drew ?_ | exact He)
      · refine (need_no (l := l) (t := t1) (bl := bl) (lo := lo) (X := X) (Y := Y) [59] (RB.r (w0 := w) (l := l) (t := t1) (bl := bl) (lo := lo) (X := X) (Y := Y) (by repeat (first | refine RB.set ?_ (by first | exact Nat.le_refl _ | omega | (simp; omega)) _ _ | refine RB.alloc ?_ _ | refine RB.drew ?_ | exact H2))) hsm).mono ?_
        rintro e we h3
        obtain ⟨f, rfl, h2⟩ := h3.from (RB.k (w0 := w) (l := l) (t := t1) (bl := bl) (lo := lo) (X := X) (Y := Y) (by repeat (first | refine RB.set ?_ (by first | exact Nat.le_refl _ | omega | (simp; omega)) _ _ | refine RB.alloc ?_ _ | refine RB.drew ?_ | exact H2)))
        have HE : Hid (r = .error (false, (t1).pos)) := by show _ = _; rw [HQ.out]; unfold needS; rw [if_neg hsm]; rfl
        clear h3 cc cf HQ
        go_wp2_with fail
        rw [HE.out]
        exact ⟨rfl, f, rfl, h2⟩
  · have HQ : Hid (declS l t = bindR (nameS l (nx l t)) fun m t1 => bindR (numS l t1) fun n t2 => bindR (needS [59] l t2) fun _ t3 => .ok (⟨t.txt, t.pos, m, n⟩, t3)) := by
      show _ = _
      unfold declS; rw [if_neg hw]
    generalize declS l t = r at *
    have b1 : (t.txt != [102, 114, 101, 113]) = true := by simpa using hw
    have b2 : (t.txt == [102, 114, 101, 113]) = false := by simpa using hw
    clear hw
    go_enter Tryd.func36, Tryd.ntmps36
    go_wp2_with fail
    refine (step_r (h.alloc _)).mono ?_
    rintro e w1 ⟨rfl, R1⟩
    have H1 := ((RB.refl h).alloc _).trans R1
    have hO1 := (R1.k.block w.heap.size (by simp) (by omega)).trans (heap_new rfl)
    have z1 : w.heap.size < w1.heap.size := (Array.getElem?_eq_some_iff.1 hO1).1
    have hM : w.heap.size < w1.heap.size + 1 := by omega
    clear R1
    go_wp2_with fail
    cases hm : nameS l (nx l t) with
    | error q =>
      obtain ⟨qd, pp⟩ := q
      refine (name_er (l := l) (t := nx l t) (bl := bl) (lo := lo) (X := X) (Y := Y) (RB.r (w0 := w) (l := l) (t := nx l t) (bl := bl) (lo := lo) (X := X) (Y := Y) (by repeat (first | refine RB.set ?_ (by first | exact Nat.le_refl _ | omega | (simp; omega)) _ _ | refine RB.alloc ?_ _ | refine RB.drew ?_ | exact H1))) hm).mono ?_
      rintro e we h3
      obtain ⟨f, rfl, h2⟩ := h3.from (RB.k (w0 := w) (l := l) (t := nx l t) (bl := bl) (lo := lo) (X := X) (Y := Y) (by repeat (first | refine RB.set ?_ (by first | exact Nat.le_refl _ | omega | (simp; omega)) _ _ | refine RB.alloc ?_ _ | refine RB.drew ?_ | exact H1)))
      have HE : Hid (r = .error (qd, pp)) := by show _ = _; rw [HQ.out, hm]; rfl
      clear h3 HQ hm
      go_wp2_with fail
      rw [HE.out]
      exact ⟨rfl, f, rfl, h2⟩
    | ok q =>
      obtain ⟨m, t1⟩ := q
      refine (name_ok (l := l) (t := nx l t) (bl := bl) (lo := lo) (X := X) (Y := Y) (RB.r (w0 := w) (l := l) (t := nx l t) (bl := bl) (lo := lo) (X := X) (Y := Y) (by repeat (first | refine RB.set ?_ (by first | exact Nat.le_refl _ | omega | (simp; omega)) _ _ | refine RB.alloc ?_ _ | refine RB.drew ?_ | exact H1))) hm).mono ?_
      rintro e w2 ⟨rfl, R2⟩
      replace HQ : Hid (r = bindR (numS l t1) fun n t2 => bindR (needS [59] l t2) fun _ t3 => .ok (⟨t.txt, t.pos, m, n⟩, t3)) := by show _ = _; rw [HQ.out, hm]; rfl
      clear hm
      have H2 := RB.trans (w0 := w) (t := nx l t) (bl := bl) (lo := lo) (by repeat (first | refine RB.set ?_ (by first | exact Nat.le_refl _ | omega | (simp; omega)) _ _ | refine RB.alloc ?_ _ | refine RB.drew ?_ | exact H1)) R2
      have hO2 := (R2.k.block w.heap.size (by first | omega | (simp; omega) | (simp [World.setCell]; omega)) (by omega)).trans ((Below.heap_alloc _ _ _ (by simp; omega)).trans ((Below.heap_alloc _ _ _ z1).trans hO1))
      have hC2 : w2.heap[w1.heap.size + 1]? = some (.cells (dcA ⟨t.txt, t.pos, ([], 0), (0, 0)⟩) 73) := (R2.k.block (w1.heap.size + 1) (by simp) (by omega)).trans (heap_new (by simp))
      clear R2 H1 hO1
      generalize w1.heap.size + 1 = M at *
      have z2 : M < w2.heap.size := (Array.getElem?_eq_some_iff.1 hC2).1
      obtain ⟨cc, cf⟩ := blk_cells hC2
      go_wp2_with fail
      cases hn : numS l t1 with
      | error q =>
        obtain ⟨qd, pp⟩ := q
        refine (number_er (l := l) (t := t1) (bl := bl) (lo := lo) (X := X) (Y := Y) (RB.r (w0 := w) (l := l) (t := t1) (bl := bl) (lo := lo) (X := X) (Y := Y) (by repeat (first | refine RB.set ?_ (by first | exact Nat.le_refl _ | omega | (simp; omega)) _ _ | refine RB.alloc ?_ _ | refine RB.drew ?_ | exact H2))) hn).mono ?_
        rintro e we h3
        obtain ⟨f, rfl, h2⟩ := h3.from (RB.k (w0 := w) (l := l) (t := t1) (bl := bl) (lo := lo) (X := X) (Y := Y) (by repeat (first | refine RB.set ?_ (by first | exact Nat.le_refl _ | omega | (simp; omega)) _ _ | refine RB.alloc ?_ _ | refine RB.drew ?_ | exact H2)))
        have HE : Hid (r = .error (qd, pp)) := by show _ = _; rw [HQ.out, hn]; rfl
        clear h3 HQ hn cc cf
        go_wp2_with fail
        rw [HE.out]
        exact ⟨rfl, f, rfl, h2⟩
      | ok q =>
        obtain ⟨n, t2⟩ := q
        refine (number_ok (l := l) (t := t1) (bl := bl) (lo := lo) (X := X) (Y := Y) (RB.r (w0 := w) (l := l) (t := t1) (bl := bl) (lo := lo) (X := X) (Y := Y) (by repeat (first | refine RB.set ?_ (by first | exact Nat.le_refl _ | omega | (simp; omega)) _ _ | refine RB.alloc ?_ _ | refine RB.drew ?_ | exact H2))) hn).mono ?_
        rintro e w3 ⟨rfl, R3⟩
        replace HQ : Hid (r = bindR (needS [59] l t2) fun _ t3 => .ok (⟨t.txt, t.pos, m, n⟩, t3)) := by show _ = _; rw [HQ.out, hn]; rfl
        clear hn
        have H3 := RB.trans (w0 := w) (t := t1) (bl := bl) (lo := lo) (by repeat (first | refine RB.set ?_ (by first | exact Nat.le_refl _ | omega | (simp; omega)) _ _ | refine RB.alloc ?_ _ | refine RB.drew ?_ | exact H2)) R3
        have hO3 := (R3.k.block w.heap.size (by simp [World.setCell]; omega) (by omega)).trans ((Below.heap_setCell _ _ _ _ (by first | (simp; done) | (simp; omega))).trans ((Below.heap_setCell _ _ _ _ (by first | (simp; done) | (simp; omega))).trans hO2))
        have hC3 : w3.heap[M]? = some (.cells (dcA ⟨t.txt, t.pos, m, (0, 0)⟩) 73) := (R3.k.block M (by simp [World.setCell]; omega) (by omega)).trans ((heap_setCell_same _ _ _ _ _ _ (heap_setCell_same _ _ _ _ _ _ hC2)).trans rfl)
        have z3 : M < w3.heap.size := (Array.getElem?_eq_some_iff.1 hC3).1
        clear R3 H2 hO2 hC2 cc cf
        obtain ⟨cc, cf⟩ := blk_cells hC3
        go_wp2_with fail
        by_cases hsm : (t2).txt = [59]
        · refine (need_yes (l := l) (t := t2) (bl := bl) (lo := lo) (X := X) (Y := Y) [59] (RB.r (w0 := w) (l := l) (t := t2) (bl := bl) (lo := lo) (X := X) (Y := Y) (by repeat (first | refine RB.set ?_ (by first | exact Nat.le_refl _ | omega | (simp; omega)) _ _ | refine RB.alloc ?_ _ | refine RB.drew ?_ | exact H3))) hsm).mono ?_
          rintro e we ⟨rfl, Re⟩
          have He := RB.trans (w0 := w) (t := t2) (bl := bl) (lo := lo) (by repeat (first | refine RB.set ?_ (by first | exact Nat.le_refl _ | omega | (simp; omega)) _ _ | refine RB.alloc ?_ _ | refine RB.drew ?_ | exact H3)) Re
          have hOe := (Re.k.block w.heap.size (by first | omega | (simp; omega) | (simp [World.setCell]; omega)) (by omega)).trans ((Below.heap_setCell _ _ _ _ (by first | (simp; done) | (simp; omega))).trans ((Below.heap_setCell _ _ _ _ (by first | (simp; done) | (simp; omega))).trans hO3))
          have hCe : we.heap[M]? = some (.cells (dcA ⟨t.txt, t.pos, m, n⟩) 73) := (Re.k.block M (by first | omega | (simp; omega) | (simp [World.setCell]; omega)) (by omega)).trans ((heap_setCell_same _ _ _ _ _ _ (heap_setCell_same _ _ _ _ _ _ hC3)).trans rfl)
          have HE : Hid (r = .ok (⟨t.txt, t.pos, m, n⟩, nx l (t2))) := by show _ = _; rw [HQ.out]; unfold needS; rw [if_pos hsm]; rfl
          clear cc cf Re hO3 hC3 HQ
          go_upto_region 7 with fail
          refine wp_region_lit ?_
          refine wpList_load_row rfl 73 (.tmp 4) rfl (M) rfl 73 (dcA ⟨t.txt, t.pos, m, n⟩) (0, 0) _ (hCe) Tryd.underlying73 rfl (by kernel_rfl) ?_
          refine wpList_store_row rfl 73 (.tmp 2) (.tmp 23) rfl (w.heap.size) (dcA ⟨t.txt, t.pos, m, n⟩) rfl rfl 73 (dcA ⟨[], 0, ([], 0), (0, 0)⟩) (hOe) (by kernel_rfl) rfl (by simp [Value.oneCell']) ?_
          go_wp2_with fail
          rw [HE.out]
          refine ⟨rfl, _, res_cell Tryd.results36 _ _ w.heap.size _ 73 _ rfl (setRow_heap _ _ _ _ _ _ hOe) Tryd.underlying73 rfl (by kernel_rfl), ?_, ?_⟩
          · rfl
          · refine RB.setRow ?_ (Nat.le_refl _) _; repeat (first | refine RB.set ?_ (by first | exact Nat.le_refl _ | omega | (simp; omega)) _ _ | refine RB.alloc ?_ _ | refine RB.drew ?_ | exact He)
        · refine (need_no (l := l) (t := t2) (bl := bl) (lo := lo) (X := X) (Y := Y) [59] (RB.r (w0 := w) (l := l) (t := t2) (bl := bl) (lo := lo) (X := X) (Y := Y) (by repeat (first | refine RB.set ?_ (by first | exact Nat.le_refl _ | omega | (simp; omega)) _ _ | refine RB.alloc ?_ _ | refine RB.drew ?_ | exact H3))) hsm).mono ?_
          rintro e we h3
          obtain ⟨f, rfl, h2⟩ := h3.from (RB.k (w0 := w) (l := l) (t := t2) (bl := bl) (lo := lo) (X := X) (Y := Y) (by repeat (first | refine RB.set ?_ (by first | exact Nat.le_refl _ | omega | (simp; omega)) _ _ | refine RB.alloc ?_ _ | refine RB.drew ?_ | exact H3)))
          have HE : Hid (r = .error (false, (t2).pos)) := by show _ = _; rw [HQ.out]; unfold needS; rw [if_neg hsm]; rfl
          clear h3 cc cf HQ
          go_wp2_with fail
          rw [HE.out]
          exact ⟨rfl, f, rfl, h2⟩

end Go.Proofs.YtippenbbibfmdabDoor
