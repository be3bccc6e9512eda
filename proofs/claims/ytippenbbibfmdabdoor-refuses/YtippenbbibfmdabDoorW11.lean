import Derived.Test.YtippenbbibfmdabDoorW10
import Derived.Deep.MidRow
namespace Go.Proofs.YtippenbbibfmdabDoor
open Go.RowKit

theorem store_new2 {w : World} {b : Nat} {l : List UInt8} {t : Tok} {bl lo : Nat} {X Y : Value} {w1 : World} (hr : RB w w1 b l t bl lo X Y) {ops : Array Oper} {rest : List Oper} {o : Oper} {a : Act} {Q : Exit → Act → World → Prop} (hgd : o.guard = none) (T : TypeId) (x y : Operand) (ho : o.op = .store T x y)
    (A : Array Value) {Z Z' : Array Value} (hZ : w1.heap[w.heap.size]? = some (.cells Z T)) (hx : a.eval x = .pointer (some ⟨w1.heap.size, 0, none⟩)) (hy : a.eval y = .agg A) (hi : (Tryd.prog.info? T).map (·.size) = some A.size) (hs : Z'.size = A.size) (h1 : A.all (·.oneCell') = true)
    (h : ∀ W', RB w W' b l t bl lo X Y → W'.heap[w.heap.size]? = some (.cells Z T) → W'.heap[w1.heap.size]? = some (.cells A T) → W'.heap.size = w1.heap.size + 1 → wpList Tryd.prog ops Q rest (a.put o.dst undef) W') :
    wpList Tryd.prog ops Q (o :: rest) a (w1.alloc (.cells Z' T)) := by
  have hlt : w.heap.size < w1.heap.size := (Array.getElem?_eq_some_iff.1 hZ).1
  refine wpList_store_row hgd T x y ho w1.heap.size A hx hy T Z' (heap_new rfl) hi hs h1 (h _ ?_ ?_ ?_ (by simp [World.setRow]))
  · exact RB.setRow (hr.alloc _) (by omega) _
  · exact (setRow_other _ _ _ _ (by omega)).trans ((Below.heap_alloc _ _ _ hlt).trans hZ)
  · exact setRow_heap _ _ _ _ _ _ (heap_new rfl)

theorem RB.setCells {w0 : World} {b : Nat} {l : List UInt8} {t : Tok} {bl lo : Nat} {X Y : Value} {n : Nat} (hn : w0.heap.size ≤ n) : ∀ (vs : List Value) (o : Nat) (w : World), RB w0 w b l t bl lo X Y → RB w0 (w.setCells n o vs) b l t bl lo X Y
  | [], _, _, h => h
  | v :: vs, o, _w, h => RB.setCells hn vs (o + 1) _ (h.set hn o v)
theorem setCells_other (n : Nat) {g : Nat} (hg : g ≠ n) : ∀ (vs : List Value) (o : Nat) (w : World), (w.setCells n o vs).heap[g]? = w.heap[g]?
  | [], _, _ => rfl
  | _v :: vs, o, _w => (setCells_other n hg vs (o + 1) _).trans (Below.heap_setCell _ _ _ _ hg)
theorem setCells_size (n : Nat) : ∀ (vs : List Value) (o : Nat) (w : World), (w.setCells n o vs).heap.size = w.heap.size
  | [], _, _ => rfl
  | v :: vs, o, w => (setCells_size n vs (o + 1) _).trans (by simp [World.setCell])
theorem setCells_heap (n : Nat) (T : TypeId) : ∀ (vs : List Value) (o : Nat) (w : World) (C : Array Value), w.heap[n]? = some (.cells C T) → o + vs.length ≤ C.size →
    (w.setCells n o vs).heap[n]? = some (.cells (C.toList.take o ++ vs ++ C.toList.drop (o + vs.length)).toArray T)
  | [], o, w, C, h, _ => by
    show w.heap[n]? = _
    rw [h]; simp
  | v :: vs, o, w, C, h, hs => by
    simp only [List.length_cons] at hs
    have h2 := heap_setCell_same w n o v C T h
    have := setCells_heap n T vs (o + 1) (w.setCell ⟨n, o, none⟩ v) (C.setIfInBounds o v) h2 (by simp; omega)
    show ((w.setCell ⟨n, o, none⟩ v).setCells n (o + 1) vs).heap[n]? = _
    rw [this]
    simp only [Array.toList_setIfInBounds]
    congr 3
    have e1 : (C.toList.set o v).take (o + 1) = C.toList.take o ++ [v] := by
      rw [List.take_add_one, List.take_set_of_le (Nat.le_refl _)]
      simp [show o < C.size by omega]
    have e2 : (C.toList.set o v).drop (o + 1 + vs.length) = C.toList.drop (o + (vs.length + 1)) := by
      rw [List.drop_set_of_lt (by omega)]; congr 1; omega
    rw [e1, e2, List.length_cons]
    simp

theorem store_mid {w : World} {b : Nat} {l : List UInt8} {t : Tok} {bl lo : Nat} {X Y : Value} {w1 : World} (hr : RB w w1 b l t bl lo X Y) {ops : Array Oper} {rest : List Oper} {o : Oper} {a : Act} {Q : Exit → Act → World → Prop} (hgd : o.guard = none) (ty : TypeId) (x y : Operand) (ho : o.op = .store ty x y)
    (M k : Nat) (A C C' : Array Value) (T : TypeId) {Z : Obj} (hZ : w1.heap[w.heap.size]? = some Z) (hC : w1.heap[M]? = some (.cells C T)) (hM : w.heap.size < M) (hx : a.eval x = .pointer (some ⟨M, k, none⟩)) (hy : a.eval y = .agg A)
    (hk : k + A.size ≤ C.size) (hC' : C'.toList = C.toList.take k ++ A.toList ++ C.toList.drop (k + A.size)) (hi : (Tryd.prog.info? ty).map (·.size) = some A.size) (h1 : A.all (·.oneCell') = true)
    (h : ∀ W', RB w W' b l t bl lo X Y → W'.heap[w.heap.size]? = some Z → W'.heap[M]? = some (.cells C' T) → W'.heap.size = w1.heap.size → (∀ g, g ≠ M → W'.heap[g]? = w1.heap[g]?) → wpList Tryd.prog ops Q rest (a.put o.dst undef) W') :
    wpList Tryd.prog ops Q (o :: rest) a w1 := by
  have hth : w1.there M k A.size := fun j hj => by
    constructor
    · rw [(blk_cells hC).1, Array.getElem?_eq_getElem (by omega)]; rfl
    · exact (blk_cells hC).2 _
  refine wpList_store_mid hgd ty x y ho M k A hx hy hth hi h1 (h _ (RB.setCells (by omega) _ _ _ hr) ((setCells_other M (by omega) _ _ _).trans hZ) ?_ (setCells_size _ _ _ _) (fun g hg => setCells_other M hg _ _ _))
  rw [setCells_heap M T A.toList k w1 C hC (by simpa using hk)]
  have e : C' = (C.toList.take k ++ A.toList ++ C.toList.drop (k + A.toList.length)).toArray := by
    apply Array.toList_inj.1; rw [hC']; simp
  rw [e]

set_option maxRecDepth 20000 in
set_option maxHeartbeats 2000000 in
theorem if_any {d : Nat} (hB : BlkC d) {w : World} {b : Nat} {l : List UInt8} {t : Tok} {bl lo : Nat} {X Y : Value} (h : Rw w b l t bl lo X Y) (h8 : bl + d = 8) (hlo : lo ≤ 2) :
    Calls Tryd.prog 60 #[ptr b] w fun e w' => OutS w b l bl lo X Y (ifS (blockS l d lo) (BTnil d) l t) e w' := by
  have hgt := h.gt
  have HQ : Hid (ifS (blockS l d lo) (BTnil d) l t = bindR (condS l (nx l t)) fun c t1 => bindR (blockS l d lo t1) fun x t2 =>
    if t2.txt = [101, 108, 115, 101] then bindR (blockS l d lo (nx l t2)) fun y t3 => .ok (({ stW t.txt with cond := c, other := true }, x, y), t3)
    else .ok (({ stW t.txt with cond := c }, x, BTnil d), t2)) := rfl
  generalize ifS (blockS l d lo) (BTnil d) l t = r at *
  have hfl := fld1
  go_enter Tryd.func60, Tryd.ntmps60
  go_upto_region 1 with fail
  refine wp_region_lit ?_
  go_wp2_with fail
  refine (step_r (h.alloc _)).mono ?_
  rintro e w1 ⟨rfl, R1⟩
  have H1 := ((RB.refl h).alloc _).trans R1
  have hO1 := (R1.k.block w.heap.size (by simp) (by omega)).trans (heap_new rfl)
  clear R1
  dsimp only

  iterate 10 go_step
  refine store_new2 H1 rfl 136 (.tmp 3) (.tmp 7) rfl (stA (stW t.txt) nilV nilV) hO1 rfl rfl (by kernel_rfl) rfl (by simp [Value.oneCell']) ?_
  have hM : w.heap.size < w1.heap.size := (Array.getElem?_eq_some_iff.1 hO1).1
  clear H1 hO1
  generalize w1.heap.size = M at *
  clear w1
  intro W0 h0 hO0 hC0 hsz
  have z0 : M < W0.heap.size := by omega
  obtain ⟨cc, cf⟩ := blk_cells hC0
  go_wp2_with fail
  cases hc : condS l (nx l t) with
  | error q =>
    obtain ⟨qd, pp⟩ := q
    refine (cond_er h0.r hc).mono ?_
    rintro e we h3
    obtain ⟨f, rfl, h2⟩ := h3.from (RB.k (w0 := w) (l := l) (t := nx l t) (bl := bl) (lo := lo) (X := X) (Y := Y) (by repeat (first | refine RB.set ?_ (by first | exact Nat.le_refl _ | omega | (simp; omega)) _ _ | refine RB.alloc ?_ _ | refine RB.drew ?_ | exact h0)))
    have HE : Hid (r = .error (qd, pp)) := by show _ = _; rw [HQ.out, hc]; rfl
    clear h3 HQ hc cc cf
    go_wp2_with fail
    rw [HE.out]
    exact ⟨rfl, f, rfl, h2⟩
  | ok q =>
    obtain ⟨c, t1⟩ := q
    refine (cond_ok h0.r hc).mono ?_
    rintro e w2 ⟨rfl, R2⟩
    replace HQ : Hid (r = bindR (blockS l d lo t1) fun x t2 => if t2.txt = [101, 108, 115, 101] then bindR (blockS l d lo (nx l t2)) fun y t3 => .ok (({ stW t.txt with cond := c, other := true }, x, y), t3) else .ok (({ stW t.txt with cond := c }, x, BTnil d), t2)) := by show _ = _; rw [HQ.out, hc]; rfl
    clear hc
    have H2 := RB.trans (w0 := w) (t := nx l t) (bl := bl) (lo := lo) (by repeat (first | refine RB.set ?_ (by first | exact Nat.le_refl _ | omega | (simp; omega)) _ _ | refine RB.alloc ?_ _ | refine RB.drew ?_ | exact h0)) R2
    have hO2 := (R2.k.block w.heap.size (by first | omega | (simp [World.setCell]; omega)) (by omega)).trans hO0
    have hC2 : w2.heap[M]? = some (.cells (stA (stW t.txt) nilV nilV) 136) := (R2.k.block M (by first | omega | (simp [World.setCell]; omega)) (by omega)).trans (hC0.trans rfl)
    have z2 : M < w2.heap.size := (Array.getElem?_eq_some_iff.1 hC2).1
    clear cc cf hO0 hC0
    obtain ⟨cc, cf⟩ := blk_cells hC2
    clear R2 cc cf
    dsimp only
    iterate 4 go_step
    refine store_mid H2 rfl 134 (.tmp 10) (.tmp 9) rfl M 8 (cdA c) (stA (stW t.txt) nilV nilV) (stA { stW t.txt with cond := c } nilV nilV) 136 hO2 hC2 hM rfl rfl (by simp) rfl (by kernel_rfl) (by simp [Value.oneCell']) ?_
    clear H2 hO2 hC2
    intro w3 H3 hO3 hC3 hsz3 hoth
    have z3 : M < w3.heap.size := by omega
    clear z2 hsz3 hoth
    obtain ⟨cc, cf⟩ := blk_cells hC3
    go_wp2_with fail
    cases hx : blockS l d lo t1 with
    | error q =>
      obtain ⟨qd, pp⟩ := q
      refine (blk_er hB H3.r h8 hlo hx).mono ?_
      rintro e we h3
      obtain ⟨f, rfl, h2⟩ := h3.from (RB.k (w0 := w) (l := l) (t := t1) (bl := bl) (lo := lo) (X := X) (Y := Y) (by repeat (first | refine RB.set ?_ (by first | exact Nat.le_refl _ | omega | (simp; omega)) _ _ | refine RB.alloc ?_ _ | refine RB.drew ?_ | exact H3)))
      have HE : Hid (r = .error (qd, pp)) := by show _ = _; rw [HQ.out, hx]; rfl
      clear h3 HQ hx cc cf
      go_wp2_with fail
      rw [HE.out]
      exact ⟨rfl, f, rfl, h2⟩
    | ok q =>
      obtain ⟨x, t2⟩ := q
      refine (blk_ok hB H3.r h8 hlo hx).mono ?_
      rintro e w4 ⟨v, rfl, R4, S4⟩
      replace S4 : SlR d w4 (fun g => M + 1 ≤ g) v x := SlR.up (by omega) S4
      obtain ⟨va, vn, vc, rfl⟩ := SlR.form d _ _ S4
      replace HQ : Hid (r = if t2.txt = [101, 108, 115, 101] then bindR (blockS l d lo (nx l t2)) fun y t3 => .ok (({ stW t.txt with cond := c, other := true }, x, y), t3) else .ok (({ stW t.txt with cond := c }, x, BTnil d), t2)) := by show _ = _; rw [HQ.out, hx]; rfl
      clear hx
      have H4 := RB.trans (w0 := w) (t := t1) (bl := bl) (lo := lo) (by repeat (first | refine RB.set ?_ (by first | exact Nat.le_refl _ | omega | (simp; omega)) _ _ | refine RB.alloc ?_ _ | refine RB.drew ?_ | exact H3)) R4
      have hO4 := (R4.k.block w.heap.size (by first | omega | (simp [World.setCell]; omega)) (by omega)).trans hO3
      have hC4 : w4.heap[M]? = some (.cells (stA { stW t.txt with cond := c } nilV nilV) 136) := (R4.k.block M (by first | omega | (simp [World.setCell]; omega)) (by omega)).trans (hC3.trans rfl)
      have z4 : M < w4.heap.size := (Array.getElem?_eq_some_iff.1 hC4).1
      clear cc cf hO3 hC3
      obtain ⟨cc, cf⟩ := blk_cells hC4
      clear R4
      go_wp2_with fail
      refine (take_any (l := l) (t := t2) (bl := bl) (lo := lo) (X := X) (Y := Y) [101, 108, 115, 101] (RB.r (w0 := w) (l := l) (t := t2) (bl := bl) (lo := lo) (X := X) (Y := Y) (by repeat (first | refine RB.set ?_ (by first | exact Nat.le_refl _ | omega | (simp; omega)) _ _ | refine RB.alloc ?_ _ | refine RB.drew ?_ | exact H4)))).mono ?_
      rintro e w5 ⟨rfl, R5⟩
      have S5 := SlR.keep R5.k (by omega) (SlR.set (n := M) (o := 22) (u := .slice va vn vc) (by omega) S4)
      have H5 := RB.trans (w0 := w) (t := t2) (bl := bl) (lo := lo) (by repeat (first | refine RB.set ?_ (by first | exact Nat.le_refl _ | omega | (simp; omega)) _ _ | refine RB.alloc ?_ _ | refine RB.drew ?_ | exact H4)) R5
      have hO5 := (R5.k.block w.heap.size (by first | omega | (simp [World.setCell]; omega)) (by omega)).trans ((Below.heap_setCell _ _ _ _ (by first | (simp; done) | (simp; omega))).trans hO4)
      have hC5 : w5.heap[M]? = some (.cells (stA { stW t.txt with cond := c } (.slice va vn vc) nilV) 136) := (R5.k.block M (by first | omega | (simp [World.setCell]; omega)) (by omega)).trans ((heap_setCell_same _ _ _ _ _ _ hC4).trans rfl)
      have z5 : M < w5.heap.size := (Array.getElem?_eq_some_iff.1 hC5).1
      clear cc cf hO4 hC4
      obtain ⟨cc, cf⟩ := blk_cells hC5
      clear R5 S4
      by_cases he : t2.txt = [101, 108, 115, 101]
      · rw [if_pos he] at H5
        have hd : decide (t2.txt = [101, 108, 115, 101]) = true := by simp [he]
        go_wp2_with fail
        cases hy : blockS l d lo (nx l t2) with
        | error q =>
          obtain ⟨qd, pp⟩ := q
          refine (blk_er (l := l) (t := nx l t2) (bl := bl) (lo := lo) (X := X) (Y := Y) hB (RB.r (w0 := w) (l := l) (t := nx l t2) (bl := bl) (lo := lo) (X := X) (Y := Y) (by repeat (first | refine RB.set ?_ (by first | exact Nat.le_refl _ | omega | (simp; omega)) _ _ | refine RB.alloc ?_ _ | refine RB.drew ?_ | exact H5))) h8 hlo hy).mono ?_
          rintro e we h3
          obtain ⟨f, rfl, h2⟩ := h3.from (RB.k (w0 := w) (l := l) (t := nx l t2) (bl := bl) (lo := lo) (X := X) (Y := Y) (by repeat (first | refine RB.set ?_ (by first | exact Nat.le_refl _ | omega | (simp; omega)) _ _ | refine RB.alloc ?_ _ | refine RB.drew ?_ | exact H5)))
          have HE : Hid (r = .error (qd, pp)) := by show _ = _; rw [HQ.out, if_pos he, hy]; rfl
          clear h3 HQ hy cc cf
          go_wp2_with fail
          rw [HE.out]
          exact ⟨rfl, f, rfl, h2⟩
        | ok q =>
          obtain ⟨y, t3⟩ := q
          refine (blk_ok (l := l) (t := nx l t2) (bl := bl) (lo := lo) (X := X) (Y := Y) hB (RB.r (w0 := w) (l := l) (t := nx l t2) (bl := bl) (lo := lo) (X := X) (Y := Y) (by repeat (first | refine RB.set ?_ (by first | exact Nat.le_refl _ | omega | (simp; omega)) _ _ | refine RB.alloc ?_ _ | refine RB.drew ?_ | exact H5))) h8 hlo hy).mono ?_
          rintro e w6 ⟨u, rfl, R6, S6⟩
          replace S6 : SlR d w6 (fun g => M + 1 ≤ g) u y := SlR.up (by simp [World.setCell]; omega) S6
          obtain ⟨ua, un, uc, rfl⟩ := SlR.form d _ _ S6
          have S7 := SlR.keep R6.k (by omega) (SlR.set (n := M) (o := 23) (u := .bool true) (by omega) S5)
          have HE : Hid (r = .ok (({ stW t.txt with cond := c, other := true }, x, y), t3)) := by show _ = _; rw [HQ.out, if_pos he, hy]; rfl
          clear hy HQ hd
          have H6 := RB.trans (w0 := w) (t := nx l t2) (bl := bl) (lo := lo) (by repeat (first | refine RB.set ?_ (by first | exact Nat.le_refl _ | omega | (simp; omega)) _ _ | refine RB.alloc ?_ _ | refine RB.drew ?_ | exact H5)) R6
          have hO6 := (R6.k.block w.heap.size (by first | omega | (simp [World.setCell]; omega)) (by omega)).trans ((Below.heap_setCell _ _ _ _ (by first | (simp; done) | (simp; omega))).trans hO5)
          have hC6 : w6.heap[M]? = some (.cells (stA { stW t.txt with cond := c, other := true } (.slice va vn vc) nilV) 136) := (R6.k.block M (by first | omega | (simp [World.setCell]; omega)) (by omega)).trans ((heap_setCell_same _ _ _ _ _ _ hC5).trans rfl)
          have z6 : M < w6.heap.size := (Array.getElem?_eq_some_iff.1 hC6).1
          clear cc cf hO5 hC5
          obtain ⟨cc, cf⟩ := blk_cells hC6
          clear R6 S5
          go_upto_region 7 with fail
          refine wp_region_lit ?_
          refine wpList_load_row rfl 136 (.tmp 3) rfl (M) rfl 136 (stA { stW t.txt with cond := c, other := true } (.slice va vn vc) (.slice ua un uc)) (0, 0) _ ((heap_setCell_same _ _ _ _ _ _ hC6).trans rfl) Tryd.underlying136 rfl (by kernel_rfl) ?_
          refine wpList_store_row rfl 136 (.tmp 2) (.tmp 22) rfl (w.heap.size) (stA { stW t.txt with cond := c, other := true } (.slice va vn vc) (.slice ua un uc)) rfl rfl 136 (stA (stW []) nilV nilV) (((Below.heap_setCell _ _ _ _ (by first | (simp; done) | (simp; omega))).trans hO6)) (by kernel_rfl) rfl (by simp [Value.oneCell']) ?_
          go_wp2_with fail
          rw [HE.out]
          refine ⟨rfl, _, res_cell Tryd.results60 _ _ w.heap.size _ 136 _ rfl (setRow_heap _ _ _ _ _ _ ((Below.heap_setCell _ _ _ _ (by first | (simp; done) | (simp; omega))).trans hO6)) Tryd.underlying136 rfl (by kernel_rfl), .slice va vn vc, .slice ua un uc, rfl, ?_, SlR.up (by omega) (SlR.row (by omega) (SlR.set (n := M) (by omega) S7)), SlR.up (by omega) (SlR.row (by omega) (SlR.set (n := M) (by omega) S6))⟩
          refine RB.setRow ?_ (Nat.le_refl _) _; repeat (first | refine RB.set ?_ (by first | exact Nat.le_refl _ | omega | (simp; omega)) _ _ | refine RB.alloc ?_ _ | refine RB.drew ?_ | exact H6)
      · rw [if_neg he] at H5
        have hd : decide (t2.txt = [101, 108, 115, 101]) = false := by simp [he]
        have HE : Hid (r = .ok (({ stW t.txt with cond := c }, x, BTnil d), t2)) := by show _ = _; rw [HQ.out, if_neg he]
        clear HQ
        go_upto_region 7 with fail
        refine wp_region_lit ?_
        refine wpList_load_row rfl 136 (.tmp 3) rfl (M) rfl 136 (stA { stW t.txt with cond := c } (.slice va vn vc) nilV) (0, 0) _ ((heap_setCell_same _ _ _ _ _ _ hC5).trans rfl) Tryd.underlying136 rfl (by kernel_rfl) ?_
        refine wpList_store_row rfl 136 (.tmp 2) (.tmp 22) rfl (w.heap.size) (stA { stW t.txt with cond := c } (.slice va vn vc) nilV) rfl rfl 136 (stA (stW []) nilV nilV) (((Below.heap_setCell _ _ _ _ (by first | (simp; done) | (simp; omega))).trans hO5)) (by kernel_rfl) rfl (by simp [Value.oneCell']) ?_
        go_wp2_with fail
        rw [HE.out]
        refine ⟨rfl, _, res_cell Tryd.results60 _ _ w.heap.size _ 136 _ rfl (setRow_heap _ _ _ _ _ _ ((Below.heap_setCell _ _ _ _ (by first | (simp; done) | (simp; omega))).trans hO5)) Tryd.underlying136 rfl (by kernel_rfl), .slice va vn vc, nilV, rfl, ?_, SlR.up (by omega) (SlR.row (by omega) (SlR.set (n := M) (by omega) S5)), SlR.nil d _ _⟩
        refine RB.setRow ?_ (Nat.le_refl _) _; repeat (first | refine RB.set ?_ (by first | exact Nat.le_refl _ | omega | (simp; omega)) _ _ | refine RB.alloc ?_ _ | refine RB.drew ?_ | exact H5)
end Go.Proofs.YtippenbbibfmdabDoor
