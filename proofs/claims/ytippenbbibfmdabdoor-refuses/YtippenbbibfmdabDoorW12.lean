import Derived.Test.YtippenbbibfmdabDoorW11
namespace Go.Proofs.YtippenbbibfmdabDoor
open Go.RowKit

theorem number_any {w : World} {b : Nat} {l : List UInt8} {t : Tok} {bl lo : Nat} {X Y : Value} (h : Rw w b l t bl lo X Y) :
    Calls Tryd.prog 49 #[ptr b] w fun e w' => Out w b l bl lo X Y (fun n : Nat × Nat => .agg #[.int .i64 n.1, .int .i64 n.2]) (numS l t) e w' := by
  unfold numS
  by_cases hs : t.kind = 3
  · rw [if_pos hs]; exact number_yes h hs
  · rw [if_neg hs]; exact number_no h hs
theorem number_ok {w : World} {b : Nat} {l : List UInt8} {t : Tok} {bl lo : Nat} {X Y : Value} {x : Nat × Nat} {t' : Tok} (h : Rw w b l t bl lo X Y) (hv : numS l t = .ok (x, t')) :
    Calls Tryd.prog 49 #[ptr b] w fun e w' => e = .returned (.agg #[.int .i64 x.1, .int .i64 x.2]) ∧ RB w w' b l t' bl lo X Y := by
  refine (number_any h).mono fun e w' H => ?_
  rw [hv] at H; exact H
theorem number_er {w : World} {b : Nat} {l : List UInt8} {t : Tok} {bl lo : Nat} {X Y : Value} {d : Bool} {p : Nat} (h : Rw w b l t bl lo X Y) (hv : numS l t = .error (d, p)) :
    Calls Tryd.prog 49 #[ptr b] w fun e w' => Flt w b (if d then Y else X) p e w' := by
  refine (number_any h).mono fun e w' H => ?_
  rw [hv] at H; exact H

set_option maxRecDepth 20000 in
set_option maxHeartbeats 2000000 in
theorem rep_any {d : Nat} (hB : BlkC d) {w : World} {b : Nat} {l : List UInt8} {t : Tok} {bl lo : Nat} {X Y : Value} (h : Rw w b l t bl lo X Y) (h8 : bl + d = 8) (hlo : lo ≤ 2) :
    Calls Tryd.prog 61 #[ptr b] w fun e w' => OutS w b l bl lo X Y (repS (blockS l d) (BTnil d) l lo t) e w' := by
  have hgt := h.gt
  have HQ : Hid (repS (blockS l d) (BTnil d) l lo t = if lo = 2 then .error (true, t.pos)
  else bindR (numS l (nx l t)) fun n t1 => bindR (needS [119, 104, 105, 108, 101] l t1) fun _ t2 => bindR (condS l t2) fun c t3 => bindR (blockS l d (lo + 1) t3) fun x t4 =>
    .ok (({ stW t.txt with times := n, cond := c }, x, BTnil d), t4)) := rfl
  generalize repS (blockS l d) (BTnil d) l lo t = r at *
  have hfl := fld1
  obtain ⟨c0, c1, c2, c3, c4, c5⟩ := h.rd.cells
  by_cases h2 : lo = 2
  · have HE : Hid (r = .error (true, t.pos)) := by show _ = _; rw [HQ.out, if_pos h2]
    have b1 : ((lo : Int) == 2) = true := by rw [beq_iff_eq]; omega
    clear HQ
    have hg := h.deep
    have hg1 : 1 < w.heap.size := hgt.2.1
    go_enter Tryd.func61, Tryd.ntmps61
    go_wp2_with fail
    refine (leave_r Y (h.alloc _)).mono ?_
    rintro e we h3
    obtain ⟨f, rfl, hf2⟩ := h3.from ((But.refl b w).alloc _)
    clear h3 hg hg1
    go_wp2_with fail
    rw [HE.out]
    exact ⟨rfl, f, rfl, hf2⟩
  · replace HQ : Hid (r = bindR (numS l (nx l t)) fun n t1 => bindR (needS [119, 104, 105, 108, 101] l t1) fun _ t2 => bindR (condS l t2) fun c t3 => bindR (blockS l d (lo + 1) t3) fun x t4 =>
      .ok (({ stW t.txt with times := n, cond := c }, x, BTnil d), t4)) := by show _ = _; rw [HQ.out, if_neg h2]
    have b1 : ((lo : Int) == 2) = false := by rw [beq_eq_false_iff_ne]; omega
    go_enter Tryd.func61, Tryd.ntmps61
    go_upto_region 3 with fail
    refine wp_region_lit ?_
    go_wp2_with fail
    refine (step_r (h.alloc _)).mono ?_
    rintro e w1 ⟨rfl, R1⟩
    have H1 := ((RB.refl h).alloc _).trans R1
    have hO1 := (R1.k.block w.heap.size (by simp) (by omega)).trans (heap_new rfl)
    clear R1 c0 c1 c2 c3 c4 c5
    dsimp only
    iterate 10 go_step
    refine store_new2 H1 rfl 136 (.tmp 3) (.tmp 15) rfl (stA (stW t.txt) nilV nilV) hO1 rfl rfl (by kernel_rfl) rfl (by simp [Value.oneCell']) ?_
    have hM : w.heap.size < w1.heap.size := (Array.getElem?_eq_some_iff.1 hO1).1
    clear H1 hO1
    generalize w1.heap.size = M at *
    clear w1
    intro W0 h0 hO0 hC0 hsz
    have z0 : M < W0.heap.size := by omega
    obtain ⟨cc, cf⟩ := blk_cells hC0
    go_wp2_with fail
    cases hc : numS l (nx l t) with
    | error q =>
      obtain ⟨qd, pp⟩ := q
      refine (number_er h0.r hc).mono ?_
      rintro e we h3
      obtain ⟨f, rfl, h2⟩ := h3.from (RB.k (w0 := w) (l := l) (t := nx l t) (bl := bl) (lo := lo) (X := X) (Y := Y) (by repeat (first | refine RB.set ?_ (by first | exact Nat.le_refl _ | omega | (simp; omega)) _ _ | refine RB.alloc ?_ _ | refine RB.drew ?_ | exact h0)))
      have HE : Hid (r = .error (qd, pp)) := by show _ = _; rw [HQ.out, hc]; rfl
      clear h3 HQ hc cc cf
      go_wp2_with fail
      rw [HE.out]
      exact ⟨rfl, f, rfl, ‹_›⟩
    | ok q =>
      obtain ⟨n, t1⟩ := q
      refine (number_ok h0.r hc).mono ?_
      rintro e w2 ⟨rfl, R2⟩
      replace HQ : Hid (r = bindR (needS [119, 104, 105, 108, 101] l t1) fun _ t2 => bindR (condS l t2) fun c t3 => bindR (blockS l d (lo + 1) t3) fun x t4 => .ok (({ stW t.txt with times := n, cond := c }, x, BTnil d), t4)) := by show _ = _; rw [HQ.out, hc]; rfl
      clear hc
      have H2 := RB.trans (w0 := w) (t := nx l t) (bl := bl) (lo := lo) (by repeat (first | refine RB.set ?_ (by first | exact Nat.le_refl _ | omega | (simp; omega)) _ _ | refine RB.alloc ?_ _ | refine RB.drew ?_ | exact h0)) R2
      have hO2 := (R2.k.block w.heap.size (by first | omega | (simp [World.setCell]; omega)) (by omega)).trans hO0
      have hC2 : w2.heap[M]? = some (.cells (stA (stW t.txt) nilV nilV) 136) := (R2.k.block M (by first | omega | (simp [World.setCell]; omega)) (by omega)).trans (hC0.trans rfl)
      have z2 : M < w2.heap.size := (Array.getElem?_eq_some_iff.1 hC2).1
      clear cc cf hO0 hC0
      obtain ⟨cc, cf⟩ := blk_cells hC2
      clear R2
      go_wp2_with fail
      by_cases hw : t1.txt = [119, 104, 105, 108, 101]
      · refine (need_yes (l := l) (t := t1) (bl := bl) (lo := lo) (X := X) (Y := Y) [119, 104, 105, 108, 101] (RB.r (w0 := w) (l := l) (t := t1) (bl := bl) (lo := lo) (X := X) (Y := Y) (by repeat (first | refine RB.set ?_ (by first | exact Nat.le_refl _ | omega | (simp; omega)) _ _ | refine RB.alloc ?_ _ | refine RB.drew ?_ | exact H2))) hw).mono ?_
        rintro e w3 ⟨rfl, R3⟩
        replace HQ : Hid (r = bindR (condS l (nx l t1)) fun c t3 => bindR (blockS l d (lo + 1) t3) fun x t4 => .ok (({ stW t.txt with times := n, cond := c }, x, BTnil d), t4)) := by show _ = _; rw [HQ.out]; unfold needS; rw [if_pos hw]; rfl
        have H3 := RB.trans (w0 := w) (t := t1) (bl := bl) (lo := lo) (by repeat (first | refine RB.set ?_ (by first | exact Nat.le_refl _ | omega | (simp; omega)) _ _ | refine RB.alloc ?_ _ | refine RB.drew ?_ | exact H2)) R3
        have hO3 := (R3.k.block w.heap.size (by first | omega | (simp [World.setCell]; omega)) (by omega)).trans ((Below.heap_setCell _ _ _ _ (by first | (simp; done) | (simp; omega))).trans ((Below.heap_setCell _ _ _ _ (by first | (simp; done) | (simp; omega))).trans hO2))
        have hC3 : w3.heap[M]? = some (.cells (stA { stW t.txt with times := n } nilV nilV) 136) := (R3.k.block M (by first | omega | (simp [World.setCell]; omega)) (by omega)).trans ((heap_setCell_same _ _ _ _ _ _ (heap_setCell_same _ _ _ _ _ _ hC2)).trans rfl)
        have z3 : M < w3.heap.size := (Array.getElem?_eq_some_iff.1 hC3).1
        clear cc cf hO2 hC2
        obtain ⟨cc, cf⟩ := blk_cells hC3
        clear R3
        go_wp2_with fail
        cases hc : condS l (nx l t1) with
        | error q =>
          obtain ⟨qd, pp⟩ := q
          refine (cond_er H3.r hc).mono ?_
          rintro e we h3
          obtain ⟨f, rfl, h2⟩ := h3.from (RB.k (w0 := w) (l := l) (t := nx l t1) (bl := bl) (lo := lo) (X := X) (Y := Y) (by repeat (first | refine RB.set ?_ (by first | exact Nat.le_refl _ | omega | (simp; omega)) _ _ | refine RB.alloc ?_ _ | refine RB.drew ?_ | exact H3)))
          have HE : Hid (r = .error (qd, pp)) := by show _ = _; rw [HQ.out, hc]; rfl
          clear h3 HQ hc cc cf
          go_wp2_with fail
          rw [HE.out]
          exact ⟨rfl, f, rfl, ‹_›⟩
        | ok q =>
          obtain ⟨c, t3⟩ := q
          refine (cond_ok H3.r hc).mono ?_
          rintro e w4 ⟨rfl, R4⟩
          replace HQ : Hid (r = bindR (blockS l d (lo + 1) t3) fun x t4 => .ok (({ stW t.txt with times := n, cond := c }, x, BTnil d), t4)) := by show _ = _; rw [HQ.out, hc]; rfl
          clear hc
          have H4 := RB.trans (w0 := w) (t := nx l t1) (bl := bl) (lo := lo) (by repeat (first | refine RB.set ?_ (by first | exact Nat.le_refl _ | omega | (simp; omega)) _ _ | refine RB.alloc ?_ _ | refine RB.drew ?_ | exact H3)) R4
          have hO4 := (R4.k.block w.heap.size (by first | omega | (simp [World.setCell]; omega)) (by omega)).trans hO3
          have hC4 : w4.heap[M]? = some (.cells (stA { stW t.txt with times := n } nilV nilV) 136) := (R4.k.block M (by first | omega | (simp [World.setCell]; omega)) (by omega)).trans (hC3.trans rfl)
          have z4 : M < w4.heap.size := (Array.getElem?_eq_some_iff.1 hC4).1
          clear cc cf hO3 hC3
          obtain ⟨cc, cf⟩ := blk_cells hC4
          clear R4 cc cf
          dsimp only
          iterate 4 go_step
          refine store_mid H4 rfl 134 (.tmp 23) (.tmp 22) rfl M 8 (cdA c) (stA { stW t.txt with times := n } nilV nilV) (stA { stW t.txt with times := n, cond := c } nilV nilV) 136 hO4 hC4 hM rfl rfl (by simp) rfl (by kernel_rfl) (by simp [Value.oneCell']) ?_
          clear H4 hO4 hC4
          intro w5 H5 hO5 hC5 hsz5 hoth
          have z5 : M < w5.heap.size := by omega
          clear z4 hsz5 hoth
          obtain ⟨c0, c1, c2, c3, c4, c5⟩ := H5.r.rd.cells
          have cfz := H5.r.rd.frozen
          go_wp2_with fail
          have H5' : RB w (w5.setCell ⟨b, 5, none⟩ (.int .i64 ((lo : Int) + 1))) b l t3 bl (lo + 1) X Y := H5.putL (lo + 1)
          have hO5' : (w5.setCell ⟨b, 5, none⟩ (.int .i64 ((lo : Int) + 1))).heap[w.heap.size]? = _ := (Below.heap_setCell _ _ _ _ (by simp; omega)).trans hO5
          have hC5' : (w5.setCell ⟨b, 5, none⟩ (.int .i64 ((lo : Int) + 1))).heap[M]? = _ := (Below.heap_setCell _ _ _ _ (by simp; omega)).trans hC5
          have z5' : M < (w5.setCell ⟨b, 5, none⟩ (.int .i64 ((lo : Int) + 1))).heap.size := by simpa [World.setCell] using z5
          clear c0 c1 c2 c3 c4 c5 cfz H5 hO5 hC5 z5
          generalize w5.setCell ⟨b, 5, none⟩ (.int .i64 ((lo : Int) + 1)) = w6 at *
          cases hx : blockS l d (lo + 1) t3 with
          | error q =>
            obtain ⟨qd, pp⟩ := q
            refine (blk_er hB H5'.r h8 (by omega) hx).mono ?_
            rintro e we h3
            obtain ⟨f, rfl, hf2⟩ := h3.from H5'.k
            have HE : Hid (r = .error (qd, pp)) := by show _ = _; rw [HQ.out, hx]; rfl
            clear h3 HQ hx
            go_wp2_with fail
            rw [HE.out]
            exact ⟨rfl, f, rfl, hf2⟩
          | ok q =>
            obtain ⟨x, t4⟩ := q
            refine (blk_ok hB H5'.r h8 (by omega) hx).mono ?_
            rintro e w7 ⟨v, rfl, R7, S7⟩
            replace S7 : SlR d w7 (fun g => M + 1 ≤ g) v x := SlR.up (by omega) S7
            obtain ⟨va, vn, vc, rfl⟩ := SlR.form d _ _ S7
            have HE : Hid (r = .ok (({ stW t.txt with times := n, cond := c }, x, BTnil d), t4)) := by show _ = _; rw [HQ.out, hx]; rfl
            have H7 := H5'.trans R7
            have hO7 := (R7.k.block w.heap.size (by omega) (by omega)).trans hO5'
            have hC7 := (R7.k.block M (by omega) (by omega)).trans hC5'
            have z7 : M < w7.heap.size := (Array.getElem?_eq_some_iff.1 hC7).1
            clear hx HQ R7 H5' hO5' hC5' z5'
            obtain ⟨cc, cf⟩ := blk_cells hC7
            obtain ⟨c0, c1, c2, c3, c4, c5⟩ := H7.r.rd.cells
            have cfz := H7.r.rd.frozen
            have hMb : b ≠ M := by omega
            go_upto_region 10 with fail
            have H8 : RB w ((w7.setCell ⟨M, 22, none⟩ (.slice va vn vc)).setCell ⟨b, 5, none⟩ (.int .i64 (lo : Int))) b l t4 bl lo X Y := (H7.set (by omega) _ _).putL lo
            have hO8 : ((w7.setCell ⟨M, 22, none⟩ (.slice va vn vc)).setCell ⟨b, 5, none⟩ (.int .i64 (lo : Int))).heap[w.heap.size]? = _ := ((Below.heap_setCell _ _ _ _ (by first | (simp; done) | (simp; omega))).trans ((Below.heap_setCell _ _ _ _ (by first | (simp; done) | (simp; omega))).trans hO7))
            have hC8 : ((w7.setCell ⟨M, 22, none⟩ (.slice va vn vc)).setCell ⟨b, 5, none⟩ (.int .i64 (lo : Int))).heap[M]? = some (.cells (stA { stW t.txt with times := n, cond := c } (.slice va vn vc) nilV) 136) := (Below.heap_setCell _ _ _ _ (by simp; omega)).trans ((heap_setCell_same _ _ _ _ _ _ hC7).trans rfl)
            have S8 : SlR d ((w7.setCell ⟨M, 22, none⟩ (.slice va vn vc)).setCell ⟨b, 5, none⟩ (.int .i64 (lo : Int))) (fun g => M + 1 ≤ g) (.slice va vn vc) x := SlR.set (by omega) (SlR.set (by omega) S7)
            clear c0 c1 c2 c3 c4 c5 cfz cc cf H7 hO7 hC7 S7 z7
            generalize (w7.setCell ⟨M, 22, none⟩ (.slice va vn vc)).setCell ⟨b, 5, none⟩ (.int .i64 (lo : Int)) = w8 at *
            refine wp_region_lit ?_
            refine wpList_load_row rfl 136 (.tmp 3) rfl (M) rfl 136 (stA { stW t.txt with times := n, cond := c } (.slice va vn vc) nilV) (0, 0) _ (hC8) Tryd.underlying136 rfl (by kernel_rfl) ?_
            refine wpList_store_row rfl 136 (.tmp 2) (.tmp 41) rfl (w.heap.size) (stA { stW t.txt with times := n, cond := c } (.slice va vn vc) nilV) rfl rfl 136 (stA (stW []) nilV nilV) (hO8) (by kernel_rfl) rfl (by simp [Value.oneCell']) ?_
            go_wp2_with fail
            rw [HE.out]
            refine ⟨rfl, _, res_cell Tryd.results61 _ _ w.heap.size _ 136 _ rfl (setRow_heap _ _ _ _ _ _ hO8) Tryd.underlying136 rfl (by kernel_rfl), .slice va vn vc, nilV, rfl, ?_, SlR.up (by omega) (SlR.row (by omega) S8), SlR.nil d _ _⟩
            refine RB.setRow ?_ (Nat.le_refl _) _; repeat (first | refine RB.set ?_ (by first | exact Nat.le_refl _ | omega | (simp; omega)) _ _ | refine RB.alloc ?_ _ | refine RB.drew ?_ | exact H8)
      · skip
        refine (need_no (l := l) (t := t1) (bl := bl) (lo := lo) (X := X) (Y := Y) [119, 104, 105, 108, 101] (RB.r (w0 := w) (l := l) (t := t1) (bl := bl) (lo := lo) (X := X) (Y := Y) (by repeat (first | refine RB.set ?_ (by first | exact Nat.le_refl _ | omega | (simp; omega)) _ _ | refine RB.alloc ?_ _ | refine RB.drew ?_ | exact H2))) hw).mono ?_
        rintro e we h3
        obtain ⟨f, rfl, h2⟩ := h3.from (RB.k (w0 := w) (l := l) (t := t1) (bl := bl) (lo := lo) (X := X) (Y := Y) (by repeat (first | refine RB.set ?_ (by first | exact Nat.le_refl _ | omega | (simp; omega)) _ _ | refine RB.alloc ?_ _ | refine RB.drew ?_ | exact H2)))
        have HE : Hid (r = .error (false, t1.pos)) := by show _ = _; rw [HQ.out]; unfold needS; rw [if_neg hw]; rfl
        clear h3 HQ cc cf
        go_wp2_with fail
        rw [HE.out]
        exact ⟨rfl, f, rfl, ‹_›⟩

theorem if_ok {d : Nat} (hB : BlkC d) {w : World} {b : Nat} {l : List UInt8} {t : Tok} {bl lo : Nat} {X Y : Value} {x : St × BT d × BT d} {t' : Tok} (h : Rw w b l t bl lo X Y) (h8 : bl + d = 8) (hlo : lo ≤ 2) (hv : ifS (blockS l d lo) (BTnil d) l t = .ok (x, t')) :
    Calls Tryd.prog 60 #[ptr b] w fun e w' => ∃ v1 v2, e = .returned (.agg (stA x.1 v1 v2)) ∧ RB w w' b l t' bl lo X Y ∧ SlR d w' (fun g => w.heap.size ≤ g) v1 x.2.1 ∧ SlR d w' (fun g => w.heap.size ≤ g) v2 x.2.2 := by
  refine (if_any hB h h8 hlo).mono fun e w' H => ?_
  rw [hv] at H; exact H
theorem if_er {d : Nat} (hB : BlkC d) {w : World} {b : Nat} {l : List UInt8} {t : Tok} {bl lo : Nat} {X Y : Value} {q : Bool} {p : Nat} (h : Rw w b l t bl lo X Y) (h8 : bl + d = 8) (hlo : lo ≤ 2) (hv : ifS (blockS l d lo) (BTnil d) l t = .error (q, p)) :
    Calls Tryd.prog 60 #[ptr b] w fun e w' => Flt w b (if q then Y else X) p e w' := by
  refine (if_any hB h h8 hlo).mono fun e w' H => ?_
  rw [hv] at H; exact H
theorem rep_ok {d : Nat} (hB : BlkC d) {w : World} {b : Nat} {l : List UInt8} {t : Tok} {bl lo : Nat} {X Y : Value} {x : St × BT d × BT d} {t' : Tok} (h : Rw w b l t bl lo X Y) (h8 : bl + d = 8) (hlo : lo ≤ 2) (hv : repS (blockS l d) (BTnil d) l lo t = .ok (x, t')) :
    Calls Tryd.prog 61 #[ptr b] w fun e w' => ∃ v1 v2, e = .returned (.agg (stA x.1 v1 v2)) ∧ RB w w' b l t' bl lo X Y ∧ SlR d w' (fun g => w.heap.size ≤ g) v1 x.2.1 ∧ SlR d w' (fun g => w.heap.size ≤ g) v2 x.2.2 := by
  refine (rep_any hB h h8 hlo).mono fun e w' H => ?_
  rw [hv] at H; exact H
theorem rep_er {d : Nat} (hB : BlkC d) {w : World} {b : Nat} {l : List UInt8} {t : Tok} {bl lo : Nat} {X Y : Value} {q : Bool} {p : Nat} (h : Rw w b l t bl lo X Y) (h8 : bl + d = 8) (hlo : lo ≤ 2) (hv : repS (blockS l d) (BTnil d) l lo t = .error (q, p)) :
    Calls Tryd.prog 61 #[ptr b] w fun e w' => Flt w b (if q then Y else X) p e w' := by
  refine (rep_any hB h h8 hlo).mono fun e w' H => ?_
  rw [hv] at H; exact H
theorem plain_ok {w : World} {b : Nat} {l : List UInt8} {t : Tok} {bl lo : Nat} {X Y : Value} {x : St} {t' : Tok} (h : Rw w b l t bl lo X Y) (hv : plainS l t = .ok (x, t')) :
    Calls Tryd.prog 62 #[ptr b] w fun e w' => e = .returned (.agg (stA x nilV nilV)) ∧ RB w w' b l t' bl lo X Y := by
  refine (plain_any h).mono fun e w' H => ?_
  rw [hv] at H; exact H
theorem plain_er {w : World} {b : Nat} {l : List UInt8} {t : Tok} {bl lo : Nat} {X Y : Value} {q : Bool} {p : Nat} (h : Rw w b l t bl lo X Y) (hv : plainS l t = .error (q, p)) :
    Calls Tryd.prog 62 #[ptr b] w fun e w' => Flt w b (if q then Y else X) p e w' := by
  refine (plain_any h).mono fun e w' H => ?_
  rw [hv] at H; exact H

set_option maxRecDepth 20000 in
set_option maxHeartbeats 2000000 in
theorem stmt_any {d : Nat} (hB : BlkC d) {w : World} {b : Nat} {l : List UInt8} {t : Tok} {bl lo : Nat} {X Y : Value} (h : Rw w b l t bl lo X Y) (h8 : bl + d = 8) (hlo : lo ≤ 2) :
    Calls Tryd.prog 57 #[ptr b] w fun e w' => OutS w b l bl lo X Y (stmtS (blockS l d) (BTnil d) l lo t) e w' := by
  have hgt := h.gt
  have HQ : Hid (stmtS (blockS l d) (BTnil d) l lo t = if t.txt = [105, 102] then ifS (blockS l d lo) (BTnil d) l t else if t.txt = [114, 101, 112, 101, 97, 116] then repS (blockS l d) (BTnil d) l lo t else bindR (plainS l t) fun s t1 => .ok ((s, BTnil d, BTnil d), t1)) := rfl
  generalize stmtS (blockS l d) (BTnil d) l lo t = r at *
  obtain ⟨c0, c1, c2, c3, c4, c5⟩ := h.rd.cells
  by_cases hi : t.txt = [105, 102]
  · have b1 : (t.txt == [105, 102]) = true := by simp [hi]
    replace HQ : Hid (r = ifS (blockS l d lo) (BTnil d) l t) := by show _ = _; rw [HQ.out, if_pos hi]
    clear hi
    go_enter Tryd.func57, Tryd.ntmps57
    go_wp2_with fail
    cases hv : ifS (blockS l d lo) (BTnil d) l t with
    | error q =>
      obtain ⟨qd, pp⟩ := q
      refine (if_er hB (h.alloc _) h8 hlo hv).mono ?_
      rintro e we h3
      obtain ⟨f, rfl, hf2⟩ := h3.from ((But.refl b w).alloc _)
      have HE : Hid (r = .error (qd, pp)) := by show _ = _; rw [HQ.out, hv]
      clear h3 HQ hv
      go_wp2_with fail
      rw [HE.out]
      exact ⟨rfl, f, rfl, hf2⟩
    | ok q =>
      obtain ⟨x, t1⟩ := q
      refine (if_ok hB (h.alloc _) h8 hlo hv).mono ?_
      rintro e w1 ⟨v1, v2, rfl, R1, S1, S2⟩
      replace S1 : SlR d w1 (fun g => w.heap.size + 1 ≤ g) v1 x.2.1 := SlR.up (by simp) S1
      replace S2 : SlR d w1 (fun g => w.heap.size + 1 ≤ g) v2 x.2.2 := SlR.up (by simp) S2
      obtain ⟨va, vn, vc, rfl⟩ := SlR.form d _ _ S1
      obtain ⟨ua, un, uc, rfl⟩ := SlR.form d _ _ S2
      have H1 := ((RB.refl h).alloc _).trans R1
      have hO1 := (R1.k.block w.heap.size (by simp) (by omega)).trans (heap_new rfl)
      have HE : Hid (r = .ok (x, t1)) := by show _ = _; rw [HQ.out, hv]
      clear R1 HQ hv
      dsimp only
      iterate 1 go_step
      refine wpList_store_row rfl 136 (.tmp 2) (.tmp 11) rfl (w.heap.size) (stA x.1 (.slice va vn vc) (.slice ua un uc)) rfl rfl 136 (stA (stW []) nilV nilV) (hO1) (by kernel_rfl) rfl (by simp [Value.oneCell']) ?_
      go_wp2_with fail
      rw [HE.out]
      refine ⟨rfl, _, res_cell Tryd.results57 _ _ w.heap.size _ 136 _ rfl (setRow_heap _ _ _ _ _ _ hO1) Tryd.underlying136 rfl (by kernel_rfl), .slice va vn vc, .slice ua un uc, rfl, ?_, SlR.up (by omega) (SlR.row (by omega) S1), SlR.up (by omega) (SlR.row (by omega) S2)⟩
      refine RB.setRow ?_ (Nat.le_refl _) _; repeat (first | refine RB.set ?_ (by first | exact Nat.le_refl _ | omega | (simp; omega)) _ _ | refine RB.alloc ?_ _ | refine RB.drew ?_ | exact H1)
  · have b1 : (t.txt == [105, 102]) = false := by simpa using hi
    by_cases hj : t.txt = [114, 101, 112, 101, 97, 116]
    · have b2 : (t.txt == [114, 101, 112, 101, 97, 116]) = true := by simp [hj]
      replace HQ : Hid (r = repS (blockS l d) (BTnil d) l lo t) := by show _ = _; rw [HQ.out, if_neg hi, if_pos hj]
      clear hi hj
      go_enter Tryd.func57, Tryd.ntmps57
      go_wp2_with fail
      cases hv : repS (blockS l d) (BTnil d) l lo t with
      | error q =>
        obtain ⟨qd, pp⟩ := q
        refine (rep_er hB (h.alloc _) h8 hlo hv).mono ?_
        rintro e we h3
        obtain ⟨f, rfl, hf2⟩ := h3.from ((But.refl b w).alloc _)
        have HE : Hid (r = .error (qd, pp)) := by show _ = _; rw [HQ.out, hv]
        clear h3 HQ hv
        go_wp2_with fail
        rw [HE.out]
        exact ⟨rfl, f, rfl, hf2⟩
      | ok q =>
        obtain ⟨x, t1⟩ := q
        refine (rep_ok hB (h.alloc _) h8 hlo hv).mono ?_
        rintro e w1 ⟨v1, v2, rfl, R1, S1, S2⟩
        replace S1 : SlR d w1 (fun g => w.heap.size + 1 ≤ g) v1 x.2.1 := SlR.up (by simp) S1
        replace S2 : SlR d w1 (fun g => w.heap.size + 1 ≤ g) v2 x.2.2 := SlR.up (by simp) S2
        obtain ⟨va, vn, vc, rfl⟩ := SlR.form d _ _ S1
        obtain ⟨ua, un, uc, rfl⟩ := SlR.form d _ _ S2
        have H1 := ((RB.refl h).alloc _).trans R1
        have hO1 := (R1.k.block w.heap.size (by simp) (by omega)).trans (heap_new rfl)
        have HE : Hid (r = .ok (x, t1)) := by show _ = _; rw [HQ.out, hv]
        clear R1 HQ hv
        dsimp only
        iterate 1 go_step
        refine wpList_store_row rfl 136 (.tmp 2) (.tmp 15) rfl (w.heap.size) (stA x.1 (.slice va vn vc) (.slice ua un uc)) rfl rfl 136 (stA (stW []) nilV nilV) (hO1) (by kernel_rfl) rfl (by simp [Value.oneCell']) ?_
        go_wp2_with fail
        rw [HE.out]
        refine ⟨rfl, _, res_cell Tryd.results57 _ _ w.heap.size _ 136 _ rfl (setRow_heap _ _ _ _ _ _ hO1) Tryd.underlying136 rfl (by kernel_rfl), .slice va vn vc, .slice ua un uc, rfl, ?_, SlR.up (by omega) (SlR.row (by omega) S1), SlR.up (by omega) (SlR.row (by omega) S2)⟩
        refine RB.setRow ?_ (Nat.le_refl _) _; repeat (first | refine RB.set ?_ (by first | exact Nat.le_refl _ | omega | (simp; omega)) _ _ | refine RB.alloc ?_ _ | refine RB.drew ?_ | exact H1)
    · have b2 : (t.txt == [114, 101, 112, 101, 97, 116]) = false := by simpa using hj
      replace HQ : Hid (r = bindR (plainS l t) fun s t1 => .ok ((s, BTnil d, BTnil d), t1)) := by show _ = _; rw [HQ.out, if_neg hi, if_neg hj]
      clear hi hj
      go_enter Tryd.func57, Tryd.ntmps57
      go_wp2_with fail
      cases hv : plainS l t with
      | error q =>
        obtain ⟨qd, pp⟩ := q
        refine (plain_er (h.alloc _) hv).mono ?_
        rintro e we h3
        obtain ⟨f, rfl, hf2⟩ := h3.from ((But.refl b w).alloc _)
        have HE : Hid (r = .error (qd, pp)) := by show _ = _; rw [HQ.out, hv]; rfl
        clear h3 HQ hv
        go_wp2_with fail
        rw [HE.out]
        exact ⟨rfl, f, rfl, hf2⟩
      | ok q =>
        obtain ⟨x, t1⟩ := q
        refine (plain_ok (h.alloc _) hv).mono ?_
        rintro e w1 ⟨rfl, R1⟩
        have S1 : SlR d w1 (fun g => w.heap.size + 1 ≤ g) nilV (BTnil d) := SlR.nil d _ _
        have S2 := S1
        have H1 := ((RB.refl h).alloc _).trans R1
        have hO1 := (R1.k.block w.heap.size (by simp) (by omega)).trans (heap_new rfl)
        have HE : Hid (r = .ok ((x, BTnil d, BTnil d), t1)) := by show _ = _; rw [HQ.out, hv]; rfl
        clear R1 HQ hv
        dsimp only
        iterate 1 go_step
        refine wpList_store_row rfl 136 (.tmp 2) (.tmp 17) rfl (w.heap.size) (stA x nilV nilV) rfl rfl 136 (stA (stW []) nilV nilV) (hO1) (by kernel_rfl) rfl (by simp [Value.oneCell']) ?_
        go_wp2_with fail
        rw [HE.out]
        refine ⟨rfl, _, res_cell Tryd.results57 _ _ w.heap.size _ 136 _ rfl (setRow_heap _ _ _ _ _ _ hO1) Tryd.underlying136 rfl (by kernel_rfl), nilV, nilV, rfl, ?_, SlR.up (by omega) (SlR.row (by omega) S1), SlR.up (by omega) (SlR.row (by omega) S2)⟩
        refine RB.setRow ?_ (Nat.le_refl _) _; repeat (first | refine RB.set ?_ (by first | exact Nat.le_refl _ | omega | (simp; omega)) _ _ | refine RB.alloc ?_ _ | refine RB.drew ?_ | exact H1)

theorem stmt_ok {d : Nat} (hB : BlkC d) {w : World} {b : Nat} {l : List UInt8} {t : Tok} {bl lo : Nat} {X Y : Value} {x : St × BT d × BT d} {t' : Tok} (h : Rw w b l t bl lo X Y) (h8 : bl + d = 8) (hlo : lo ≤ 2) (hv : stmtS (blockS l d) (BTnil d) l lo t = .ok (x, t')) :
    Calls Tryd.prog 57 #[ptr b] w fun e w' => ∃ v1 v2, e = .returned (.agg (stA x.1 v1 v2)) ∧ RB w w' b l t' bl lo X Y ∧ SlR d w' (fun g => w.heap.size ≤ g) v1 x.2.1 ∧ SlR d w' (fun g => w.heap.size ≤ g) v2 x.2.2 := by
  refine (stmt_any hB h h8 hlo).mono fun e w' H => ?_
  rw [hv] at H; exact H
theorem stmt_er {d : Nat} (hB : BlkC d) {w : World} {b : Nat} {l : List UInt8} {t : Tok} {bl lo : Nat} {X Y : Value} {q : Bool} {p : Nat} (h : Rw w b l t bl lo X Y) (h8 : bl + d = 8) (hlo : lo ≤ 2) (hv : stmtS (blockS l d) (BTnil d) l lo t = .error (q, p)) :
    Calls Tryd.prog 57 #[ptr b] w fun e w' => Flt w b (if q then Y else X) p e w' := by
  refine (stmt_any hB h h8 hlo).mono fun e w' H => ?_
  rw [hv] at H; exact H
end Go.Proofs.YtippenbbibfmdabDoor
