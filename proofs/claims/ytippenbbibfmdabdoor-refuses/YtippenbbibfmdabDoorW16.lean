import Derived.Test.YtippenbbibfmdabDoorW15
namespace Go.Proofs.YtippenbbibfmdabDoor
open Go.RowKit

def eventS (l : List UInt8) (t : Tok) : PR NP := if t.txt = [109, 105, 115, 115] then .ok (np t, nx l t) else nameS l t
def ruleS (l : List UInt8) (t : Tok) : PR (Nat × NP × BT 8) := bindR (eventS l (nx l t)) fun n t1 => bindR (blockS l 8 0 t1) fun x t2 => .ok ((t.pos, n, x), t2)
abbrev ruA (p : Nat) (n : NP) (v : Value) : Array Value := #[.int .i64 p, .string ⟨n.1.toArray⟩, .int .i64 n.2, v]

theorem event_any {w : World} {b : Nat} {l : List UInt8} {t : Tok} {bl lo : Nat} {X Y : Value} (h : Rw w b l t bl lo X Y) :
    Calls Tryd.prog 51 #[ptr b] w fun e w' => Out w b l bl lo X Y (fun n : NP => .agg #[.string ⟨n.1.toArray⟩, .int .i64 n.2]) (eventS l t) e w' := by
  unfold eventS
  by_cases hs : t.txt = [109, 105, 115, 115]
  · rw [if_pos hs]; exact event_miss h hs
  · rw [if_neg hs]; unfold nameS
    by_cases hk : t.kind = 2
    · rw [if_pos hk]; exact event_name h hs hk
    · rw [if_neg hk]; exact event_no h hs hk
theorem event_ok {w : World} {b : Nat} {l : List UInt8} {t : Tok} {bl lo : Nat} {X Y : Value} {x : NP} {t' : Tok} (h : Rw w b l t bl lo X Y) (hv : eventS l t = .ok (x, t')) :
    Calls Tryd.prog 51 #[ptr b] w fun e w' => e = .returned (.agg #[.string ⟨x.1.toArray⟩, .int .i64 x.2]) ∧ RB w w' b l t' bl lo X Y := by
  refine (event_any h).mono fun e w' H => ?_
  rw [hv] at H; exact H
theorem event_er {w : World} {b : Nat} {l : List UInt8} {t : Tok} {bl lo : Nat} {X Y : Value} {d : Bool} {p : Nat} (h : Rw w b l t bl lo X Y) (hv : eventS l t = .error (d, p)) :
    Calls Tryd.prog 51 #[ptr b] w fun e w' => Flt w b (if d then Y else X) p e w' := by
  refine (event_any h).mono fun e w' H => ?_
  rw [hv] at H; exact H

def OutU (w : World) (b : Nat) (l : List UInt8) (X Y : Value) (r : PR (Nat × NP × BT 8)) (e : Ending) (w' : World) : Prop :=
  match r with
  | .ok (x, t') => ∃ v, e = .returned (.agg (ruA x.1 x.2.1 v)) ∧ RB w w' b l t' 0 0 X Y ∧ SlR 8 w' (fun g => w.heap.size ≤ g) v x.2.2
  | .error (q, p) => Flt w b (if q then Y else X) p e w'

set_option maxRecDepth 20000 in
set_option maxHeartbeats 2000000 in
theorem rule_any {w : World} {b : Nat} {l : List UInt8} {t : Tok} {X Y : Value} (h : Rw w b l t 0 0 X Y) :
    Calls Tryd.prog 37 #[ptr b] w fun e w' => OutU w b l X Y (ruleS l t) e w' := by
  have hgt := h.gt
  have HQ : Hid (ruleS l t = bindR (eventS l (nx l t)) fun n t1 => bindR (blockS l 8 0 t1) fun x t2 => .ok ((t.pos, n, x), t2)) := rfl
  generalize ruleS l t = r at *
  have hfl := fld2
  go_enter Tryd.func37, Tryd.ntmps37
  go_wp2_with fail
  refine (step_r (h.alloc _)).mono ?_
  rintro e w1 ⟨rfl, R1⟩
  have H1 := ((RB.refl h).alloc _).trans R1
  have hO1 := (R1.k.block w.heap.size (by simp) (by omega)).trans (heap_new rfl)
  have z1 : w.heap.size < w1.heap.size := (Array.getElem?_eq_some_iff.1 hO1).1
  clear R1
  go_wp2_with fail
  cases hn : eventS l (nx l t) with
  | error q =>
    obtain ⟨qd, pp⟩ := q
    refine (event_er (H1.alloc _).r hn).mono ?_
    rintro e we h3
    obtain ⟨f, rfl, h2⟩ := h3.from (H1.alloc _).k
    have HE : Hid (r = .error (qd, pp)) := by show _ = _; rw [HQ.out, hn]; rfl
    clear h3 HQ hn
    go_wp2_with fail
    rw [HE.out]
    exact ⟨rfl, f, rfl, h2⟩
  | ok q =>
    obtain ⟨n, t1⟩ := q
    refine (event_ok (H1.alloc _).r hn).mono ?_
    rintro e w2 ⟨rfl, R2⟩
    replace HQ : Hid (r = bindR (blockS l 8 0 t1) fun x t2 => .ok ((t.pos, n, x), t2)) := by show _ = _; rw [HQ.out, hn]; rfl
    have H2 := (H1.alloc _).trans R2
    have hO2 := (R2.k.block w.heap.size (by simp; omega) (by omega)).trans ((Below.heap_alloc _ _ _ z1).trans hO1)
    have hC2 : w2.heap[w1.heap.size]? = some (.cells (ruA t.pos ([], 0) nilV) 77) := (R2.k.block w1.heap.size (by simp) (by omega)).trans (heap_new rfl)
    clear hn R2 H1 hO1
    generalize w1.heap.size = M at *
    have z2 : M < w2.heap.size := (Array.getElem?_eq_some_iff.1 hC2).1
    obtain ⟨cc, cf⟩ := blk_cells hC2
    go_wp2_with fail
    have H3 : RB w ((w2.setCell ⟨M, 1, none⟩ (.string ⟨n.1.toArray⟩)).setCell ⟨M, 2, none⟩ (.int .i64 n.2)) b l t1 0 0 X Y := (H2.set (by omega) _ _).set (by omega) _ _
    cases hx : blockS l 8 0 t1 with
    | error q =>
      obtain ⟨qd, pp⟩ := q
      refine (blk_er (blk_all 8) H3.r rfl (by omega) hx).mono ?_
      rintro e we h3
      obtain ⟨f, rfl, h2⟩ := h3.from H3.k
      have HE : Hid (r = .error (qd, pp)) := by show _ = _; rw [HQ.out, hx]; rfl
      clear h3 HQ hx cc cf
      go_wp2_with fail
      rw [HE.out]
      exact ⟨rfl, f, rfl, h2⟩
    | ok q =>
      obtain ⟨x, t2⟩ := q
      refine (blk_ok (blk_all 8) H3.r rfl (by omega) hx).mono ?_
      rintro e w4 ⟨v, rfl, R4, S4⟩
      replace S4 : SlR 8 w4 (fun g => M + 1 ≤ g) v x := SlR.up (by simp [World.setCell]; omega) S4
      obtain ⟨va, vn, vc, rfl⟩ := SlR.form 8 _ _ S4
      have HE : Hid (r = .ok ((t.pos, n, x), t2)) := by show _ = _; rw [HQ.out, hx]; rfl
      have H4 := H3.trans R4
      have hO4 := (R4.k.block w.heap.size (by simp [World.setCell]; omega) (by omega)).trans ((Below.heap_setCell _ _ _ _ (by first | (simp; done) | (simp; omega))).trans ((Below.heap_setCell _ _ _ _ (by first | (simp; done) | (simp; omega))).trans hO2))
      have hC4 : w4.heap[M]? = some (.cells (ruA t.pos n nilV) 77) := (R4.k.block M (by simp [World.setCell]; omega) (by omega)).trans ((heap_setCell_same _ _ _ _ _ _ (heap_setCell_same _ _ _ _ _ _ hC2)).trans rfl)
      clear hx HQ R4 H2 H3 hO2 hC2 cc cf
      obtain ⟨cc, cf⟩ := blk_cells hC4
      go_upto_region 4 with fail
      refine wp_region_lit ?_
      refine wpList_load_row rfl 77 (.tmp 3) rfl (M) rfl 77 (ruA t.pos n (.slice va vn vc)) (0, 0) _ ((heap_setCell_same _ _ _ _ _ _ hC4).trans rfl) Tryd.underlying77 rfl (by kernel_rfl) ?_
      refine wpList_store_row rfl 77 (.tmp 2) (.tmp 14) rfl (w.heap.size) (ruA t.pos n (.slice va vn vc)) rfl rfl 77 (ruA 0 ([], 0) nilV) (((Below.heap_setCell _ _ _ _ (by first | (simp; done) | (simp; omega))).trans hO4)) (by kernel_rfl) rfl (by simp [Value.oneCell']) ?_
      go_wp2_with fail
      rw [HE.out]
      refine ⟨rfl, _, res_cell Tryd.results37 _ _ w.heap.size _ 77 _ rfl (setRow_heap _ _ _ _ _ _ ((Below.heap_setCell _ _ _ _ (by first | (simp; done) | (simp; omega))).trans hO4)) Tryd.underlying77 rfl (by kernel_rfl), .slice va vn vc, rfl, ?_, SlR.up (by omega) (SlR.row (by omega) (SlR.set (n := M) (by omega) S4))⟩
      refine RB.setRow ?_ (Nat.le_refl _) _; repeat (first | refine RB.set ?_ (by first | exact Nat.le_refl _ | omega | (simp; omega)) _ _ | refine RB.alloc ?_ _ | refine RB.drew ?_ | exact H4)

theorem rule_ok {w : World} {b : Nat} {l : List UInt8} {t : Tok} {X Y : Value} {x : Nat × NP × BT 8} {t' : Tok} (h : Rw w b l t 0 0 X Y) (hv : ruleS l t = .ok (x, t')) :
    Calls Tryd.prog 37 #[ptr b] w fun e w' => ∃ v, e = .returned (.agg (ruA x.1 x.2.1 v)) ∧ RB w w' b l t' 0 0 X Y ∧ SlR 8 w' (fun g => w.heap.size ≤ g) v x.2.2 := by
  refine (rule_any h).mono fun e w' H => ?_
  rw [hv] at H; exact H
theorem rule_er {w : World} {b : Nat} {l : List UInt8} {t : Tok} {X Y : Value} {q : Bool} {p : Nat} (h : Rw w b l t 0 0 X Y) (hv : ruleS l t = .error (q, p)) :
    Calls Tryd.prog 37 #[ptr b] w fun e w' => Flt w b (if q then Y else X) p e w' := by
  refine (rule_any h).mono fun e w' H => ?_
  rw [hv] at H; exact H
theorem decl_ok {w : World} {b : Nat} {l : List UInt8} {t : Tok} {bl lo : Nat} {X Y : Value} {x : Dc} {t' : Tok} (h : Rw w b l t bl lo X Y) (hv : declS l t = .ok (x, t')) :
    Calls Tryd.prog 36 #[ptr b] w fun e w' => e = .returned (.agg (dcA x)) ∧ RB w w' b l t' bl lo X Y := by
  refine (decl_any h).mono fun e w' H => ?_
  rw [hv] at H; exact H
theorem decl_er {w : World} {b : Nat} {l : List UInt8} {t : Tok} {bl lo : Nat} {X Y : Value} {d : Bool} {p : Nat} (h : Rw w b l t bl lo X Y) (hv : declS l t = .error (d, p)) :
    Calls Tryd.prog 36 #[ptr b] w fun e w' => Flt w b (if d then Y else X) p e w' := by
  refine (decl_any h).mono fun e w' H => ?_
  rw [hv] at H; exact H
end Go.Proofs.YtippenbbibfmdabDoor
