import Derived.Test.YtippenbbibfmdabDoorW6b
import Derived.Deep.LoopGhost
import Derived.Deep.DeepMust
import Derived.Deep.Cut
namespace Go.Proofs.YtippenbbibfmdabDoor
open Go.RowKit

structure Cd where
  neg : Bool
  word : List UInt8
  queue : NP
  left : Vl
  right : Vl

abbrev vl0 : Vl := ⟨0, ([], 0), (0, 0)⟩
abbrev cdL (c : Cd) : List Value := [.bool c.neg, .string ⟨c.word.toArray⟩, .string ⟨c.queue.1.toArray⟩, .int .i64 c.queue.2, .int .i64 c.left.kind, .string ⟨c.left.name.1.toArray⟩, .int .i64 c.left.name.2, .int .i64 c.left.num.1, .int .i64 c.left.num.2, .int .i64 c.right.kind, .string ⟨c.right.name.1.toArray⟩, .int .i64 c.right.name.2, .int .i64 c.right.num.1, .int .i64 c.right.num.2]
abbrev cdA (c : Cd) : Array Value := #[.bool c.neg, .string ⟨c.word.toArray⟩, .string ⟨c.queue.1.toArray⟩, .int .i64 c.queue.2, .int .i64 c.left.kind, .string ⟨c.left.name.1.toArray⟩, .int .i64 c.left.name.2, .int .i64 c.left.num.1, .int .i64 c.left.num.2, .int .i64 c.right.kind, .string ⟨c.right.name.1.toArray⟩, .int .i64 c.right.name.2, .int .i64 c.right.num.1, .int .i64 c.right.num.2]
abbrev cdV (c : Cd) : Value := .agg #[.bool c.neg, .string ⟨c.word.toArray⟩, .string ⟨c.queue.1.toArray⟩, .int .i64 c.queue.2, .int .i64 c.left.kind, .string ⟨c.left.name.1.toArray⟩, .int .i64 c.left.name.2, .int .i64 c.left.num.1, .int .i64 c.left.num.2, .int .i64 c.right.kind, .string ⟨c.right.name.1.toArray⟩, .int .i64 c.right.name.2, .int .i64 c.right.num.1, .int .i64 c.right.num.2]

def notsS (l : List UInt8) : Nat → Bool → Tok → Bool × Tok
  | 0, n, t => (n, t)
  | f + 1, n, t => if t.txt = [110, 111, 116] then notsS l f (!n) (nx l t) else (n, t)

def condT (l : List UInt8) (n : Bool) (t : Tok) : PR Cd :=
  if t.txt = [102, 117, 108, 108] ∨ t.txt = [101, 109, 112, 116, 121] ∨ t.txt = [119, 97, 114, 109] then
    (if (nx l t).kind = 2 then .ok (⟨n, t.txt, np (nx l t), vl0, vl0⟩, nx l (nx l t)) else .error (false, (nx l t).pos))
  else match valueS l t with
    | .error e => .error e
    | .ok (a, t1) => if t1.txt = [60] then
        (match valueS l (nx l t1) with
         | .error e => .error e
         | .ok (c, t2) => .ok (⟨n, t1.txt, ([], 0), a, c⟩, t2))
        else .error (false, t1.pos)

def condS (l : List UInt8) (t : Tok) : PR Cd := condT l (notsS l (l.length + 1) false t).1 (notsS l (l.length + 1) false t).2

theorem fld1 (k : Int) (s : ByteArray) (p : Int) (w : World) : (Instr.field 54 (.agg #[.int .i64 k, .string s, .int .i64 p]) 1).run Tryd.prog w = .ok (.string s) w := by kernel_rfl
theorem fld2 (k : Int) (s : ByteArray) (p : Int) (w : World) : (Instr.field 54 (.agg #[.int .i64 k, .string s, .int .i64 p]) 2).run Tryd.prog w = .ok (.int .i64 p) w := by kernel_rfl

theorem blk_cells {w : World} {n : Nat} {c : Array Value} {e : TypeId} (h : w.heap[n]? = some (.cells c e)) : (∀ o, w.cell? ⟨n, o, none⟩ = c[o]?) ∧ ∀ o, w.frozen? ⟨n, o, none⟩ = false := by
  constructor <;> intro o <;> simp [World.cell?, World.frozen?, h]

theorem tok_pos_ge (l : List UInt8) (i : Nat) : i ≤ (tokAt l i).pos := by
  have hg := skip_ge l i
  by_cases hs : skip l i < l.length
  · have hL := tokAt_word l i hs
    have hD := tokAt_dig l i hs
    have hS := tokAt_sgn l i hs
    have hN := tokAt_none l i hs
    generalize tokAt l i = t at *
    generalize skip l i = j at *
    cases e1 : letU l[j] with
    | true => rw [hL e1]; unfold wordT; split <;> (try split) <;> exact hg
    | false =>
    cases e2 : digU l[j] with
    | true => rw [hD e1 e2]; unfold digT; split <;> exact hg
    | false =>
    cases e3 : sgnU l[j] with
    | true => rw [hS e1 e2 e3]; exact hg
    | false => rw [hN e1 e2 e3]; exact hg
  · rw [tokAt_end l i hs]; exact hg
theorem nx_pos (l : List UInt8) (t : Tok) : t.pos + t.txt.length ≤ (nx l t).pos := tok_pos_ge l _

theorem value_ok {w : World} {b : Nat} {l : List UInt8} {t : Tok} {bl lo : Nat} {X Y : Value} {x : Vl} {t' : Tok} (h : Rw w b l t bl lo X Y) (hv : valueS l t = .ok (x, t')) :
    Calls Tryd.prog 65 #[ptr b] w fun e w' => e = .returned (vlV x) ∧ RB w w' b l t' bl lo X Y := by
  refine (value_any h).mono fun e w' H => ?_
  rw [hv] at H; exact H
theorem value_er {w : World} {b : Nat} {l : List UInt8} {t : Tok} {bl lo : Nat} {X Y : Value} {d : Bool} {p : Nat} (h : Rw w b l t bl lo X Y) (hv : valueS l t = .error (d, p)) :
    Calls Tryd.prog 65 #[ptr b] w fun e w' => Flt w b (if d then Y else X) p e w' := by
  refine (value_any h).mono fun e w' H => ?_
  rw [hv] at H; exact H

set_option maxRecDepth 20000 in
set_option maxHeartbeats 4000000 in
theorem cond_any {w : World} {b : Nat} {l : List UInt8} {t : Tok} {bl lo : Nat} {X Y : Value} (h : Rw w b l t bl lo X Y) :
    Calls Tryd.prog 64 #[ptr b] w fun e w' => Out w b l bl lo X Y cdV (condS l t) e w' := by
  have hgt := h.gt
  unfold condS
  generalize hp : notsS l (l.length + 1) false t = p
  have HP : Hid (notsS l (l.length + 1) false t = p) := hp
  clear hp
  generalize hq : condT l p.1 p.2 = r
  have HQ : Hid (condT l p.1 p.2 = r) := hq
  clear hq
  go_enter Tryd.func64, Tryd.ntmps64
  go_wp2_with fail
  go_loopg [] (l.length + 1) (fun f wr => ∃ n t1, Hid (notsS l f n t1 = p) ∧ l.length + 1 ≤ f + t1.pos ∧ RB w wr b l t1 bl lo X Y ∧ wr.heap[w.heap.size]? = some (.cells #[.bool false, .string ⟨#[]⟩, .string ⟨#[]⟩, .int .i64 0, .int .i64 0, .string ⟨#[]⟩, .int .i64 0, .int .i64 0, .int .i64 0, .int .i64 0, .string ⟨#[]⟩, .int .i64 0, .int .i64 0, .int .i64 0] 134) ∧ wr.heap[w.heap.size + 1]? = some (.cells #[.bool n, .string ⟨#[]⟩, .string ⟨#[]⟩, .int .i64 0, .int .i64 0, .string ⟨#[]⟩, .int .i64 0, .int .i64 0, .int .i64 0, .int .i64 0, .string ⟨#[]⟩, .int .i64 0, .int .i64 0, .int .i64 0] 134))
  case atStart =>
    refine ⟨false, t, HP, by omega, ((RB.refl h).alloc _).alloc _, ?_, heap_new (by simp)⟩
    rw [Below.heap_alloc _ _ _ (by simp)]; exact heap_new rfl
  case round =>
    obtain ⟨n, t1, HN, hf, hR, hO, hC⟩ := hrel
    obtain ⟨oc, of⟩ := blk_cells hO
    obtain ⟨cc, cf⟩ := blk_cells hC
    have hlo : w.heap.size + 1 < wr.heap.size := (Array.getElem?_eq_some_iff.1 hC).1
    have hpos := hR.r.bnd
    cases gk with
    | zero => exfalso; omega
    | succ k =>
    by_cases hnot : t1.txt = [110, 111, 116]
    · have HS : Hid (notsS l k (!n) (nx l t1) = p) := by
        have := HN.out; unfold notsS at this; rwa [if_pos hnot] at this
      have hnp := nx_pos l t1
      have h3 : t1.txt.length = 3 := by rw [hnot]; rfl
      clear HN
      go_wp2_with (go_at_call_of 56 (Value.string { data := #[110, 111, 116] }); refine (take_yes [110, 111, 116] hR.r hnot).mono ?_; rintro e w1 ⟨rfl, hr⟩; obtain ⟨pc, pf⟩ := hr.k.loc (w.heap.size) (by first | omega | (simp; done) | (simp; omega)) (by omega); have pb := hr.k.block (w.heap.size) (by first | omega | (simp; done) | (simp; omega)) (by omega); have pz : w.heap.size < w1.heap.size := Nat.lt_of_lt_of_le (by first | omega | (simp; done) | (simp; omega)) hr.k.size; obtain ⟨pC, pF⟩ := hr.k.loc (w.heap.size + 1) (by first | omega | (simp; done) | (simp; omega)) (by omega); have pB := hr.k.block (w.heap.size + 1) (by first | omega | (simp; done) | (simp; omega)) (by omega); have pZ : w.heap.size + 1 < w1.heap.size := Nat.lt_of_lt_of_le (by first | omega | (simp; done) | (simp; omega)) hr.k.size)
      go_roundg k
      case measure => omega
      case rel =>
        have H0 := hR.trans hr
        refine ⟨!n, nx l t1, HS, by omega, H0.set (by omega) _ _, ?_, ?_⟩
        · exact ((Below.heap_setCell _ _ _ _ (by simp)).trans (hr.k.block _ (by omega) (by omega))).trans hO
        · exact (heap_setCell_same _ _ _ _ _ _ ((hr.k.block _ (by omega) (by omega)).trans hC)).trans rfl
    · have e : (n, t1) = p := by
        have := HN.out; unfold notsS at this; rwa [if_neg hnot] at this
      clear HN HP
      subst e
      replace HQ : Hid (condT l n t1 = r) := HQ
      obtain ⟨d0, d1, d2, d3, d4, d5⟩ := hR.r.rd.cells
      have HW : Hid (condT l n t1 = r) := HQ
      by_cases hw : t1.txt = [102, 117, 108, 108] ∨ t1.txt = [101, 109, 112, 116, 121] ∨ t1.txt = [119, 97, 114, 109]
      · have hfl := fld1
        by_cases hk2 : (nx l t1).kind = 2
        · have HE : Hid (r = .ok (⟨n, t1.txt, np (nx l t1), vl0, vl0⟩, nx l (nx l t1))) := by
            show _ = _
            rw [← HQ.out]; unfold condT; rw [if_pos hw, if_pos hk2]
          have hb : ((t1.txt == [102, 117, 108, 108]) = true) ∨ ((t1.txt == [102, 117, 108, 108]) = false ∧ (t1.txt == [101, 109, 112, 116, 121]) = true) ∨ ((t1.txt == [102, 117, 108, 108]) = false ∧ (t1.txt == [101, 109, 112, 116, 121]) = false ∧ (t1.txt == [119, 97, 114, 109]) = true) := by
            rcases hw with e | e | e <;> rw [e] <;> decide
          clear HQ HW hw
          rcases hb with b1 | ⟨b1, b2⟩ | ⟨b1, b2, b3⟩
          all_goals
            go_wp2_with (first | (go_at_call_of 56 (Value.string { data := #[110, 111, 116] }); refine (take_no [110, 111, 116] hR.r hnot).mono ?_; rintro e w' ⟨rfl, rfl⟩))
            refine (step_r hR.r).mono ?_
            rintro e w1 ⟨rfl, R1⟩
            have H1 := hR.trans R1
            have hO1 := (R1.k.block w.heap.size (by omega) (by omega)).trans hO
            have hC1 := (R1.k.block (w.heap.size + 1) (by omega) (by omega)).trans hC
            have z1 := R1.k.size
            clear oc of cc cf d0 d1 d2 d3 d4 d5 hO hC
            obtain ⟨cc, cf⟩ := blk_cells hC1
            go_wp2_with fail
            refine (name_yes (l := l) (t := nx l t1) (bl := bl) (lo := lo) (X := X) (Y := Y) (RB.r (w0 := w) (by repeat (first | refine RB.set ?_ (by first | exact Nat.le_refl _ | omega | (simp; omega)) _ _ | refine RB.alloc ?_ _ | refine RB.drew ?_ | exact H1))) hk2).mono ?_
            rintro e w2 ⟨rfl, R2⟩
            have H2 := RB.trans (w0 := w) (t := nx l t1) (bl := bl) (lo := lo) (by repeat (first | refine RB.set ?_ (by first | exact Nat.le_refl _ | omega | (simp; omega)) _ _ | refine RB.alloc ?_ _ | refine RB.drew ?_ | exact H1)) R2
            have hO2 := (R2.k.block w.heap.size (by simp [World.setCell]; omega) (by omega)).trans ((Below.heap_setCell _ _ _ _ (by first | (simp; done) | (simp; omega))).trans hO1)
            have hC2 : w2.heap[w.heap.size + 1]? = some (.cells (cdA ⟨n, t1.txt, ([], 0), vl0, vl0⟩) 134) := (R2.k.block (w.heap.size + 1) (by simp [World.setCell]; omega) (by omega)).trans ((heap_setCell_same _ _ _ _ _ _ hC1).trans rfl)
            clear cc cf
            obtain ⟨cc, cf⟩ := blk_cells hC2
            go_upto_region 14 with fail
            refine wp_region_lit ?_
            refine wpList_load_row rfl 134 (.tmp 3) rfl (w.heap.size + 1) rfl 134 (cdA ⟨n, t1.txt, np (nx l t1), vl0, vl0⟩) (0, 0) _ ((heap_setCell_same _ _ _ _ _ _ (heap_setCell_same _ _ _ _ _ _ hC2)).trans rfl) Tryd.underlying134 rfl (by kernel_rfl) ?_
            refine wpList_store_row rfl 134 (.tmp 2) (.tmp 41) rfl (w.heap.size) (cdA ⟨n, t1.txt, np (nx l t1), vl0, vl0⟩) rfl rfl 134 (cdA ⟨false, [], ([], 0), vl0, vl0⟩) (((Below.heap_setCell _ _ _ _ (by first | (simp; done) | (simp; omega))).trans ((Below.heap_setCell _ _ _ _ (by first | (simp; done) | (simp; omega))).trans hO2))) (by kernel_rfl) rfl (by simp [Value.oneCell']) ?_
            go_wp2_with fail
            rw [HE.out]
            refine ⟨rfl, _, res_cell Tryd.results64 _ _ w.heap.size _ 134 _ rfl (setRow_heap _ _ _ _ _ _ ((Below.heap_setCell _ _ _ _ (by first | (simp; done) | (simp; omega))).trans ((Below.heap_setCell _ _ _ _ (by first | (simp; done) | (simp; omega))).trans hO2))) Tryd.underlying134 rfl (by kernel_rfl), ?_, ?_⟩
            · rfl
            · refine RB.setRow ?_ (Nat.le_refl _) _; repeat (first | refine RB.set ?_ (by first | exact Nat.le_refl _ | omega | (simp; omega)) _ _ | refine RB.alloc ?_ _ | refine RB.drew ?_ | exact H2)
        · have HE : Hid (r = .error (false, (nx l t1).pos)) := by
            show _ = _
            rw [← HQ.out]; unfold condT; rw [if_pos hw, if_neg hk2]
          have hb : ((t1.txt == [102, 117, 108, 108]) = true) ∨ ((t1.txt == [102, 117, 108, 108]) = false ∧ (t1.txt == [101, 109, 112, 116, 121]) = true) ∨ ((t1.txt == [102, 117, 108, 108]) = false ∧ (t1.txt == [101, 109, 112, 116, 121]) = false ∧ (t1.txt == [119, 97, 114, 109]) = true) := by
            rcases hw with e | e | e <;> rw [e] <;> decide
          clear HQ HW hw
          rcases hb with b1 | ⟨b1, b2⟩ | ⟨b1, b2, b3⟩
          all_goals
            go_wp2_with (first | (go_at_call_of 56 (Value.string { data := #[110, 111, 116] }); refine (take_no [110, 111, 116] hR.r hnot).mono ?_; rintro e w' ⟨rfl, rfl⟩))
            refine (step_r hR.r).mono ?_
            rintro e w1 ⟨rfl, R1⟩
            have H1 := hR.trans R1
            have hO1 := (R1.k.block w.heap.size (by omega) (by omega)).trans hO
            have hC1 := (R1.k.block (w.heap.size + 1) (by omega) (by omega)).trans hC
            have z1 := R1.k.size
            clear oc of cc cf d0 d1 d2 d3 d4 d5 hO hC
            obtain ⟨cc, cf⟩ := blk_cells hC1
            go_wp2_with fail
            refine (name_no (l := l) (t := nx l t1) (bl := bl) (lo := lo) (X := X) (Y := Y) (RB.r (w0 := w) (by repeat (first | refine RB.set ?_ (by first | exact Nat.le_refl _ | omega | (simp; omega)) _ _ | refine RB.alloc ?_ _ | refine RB.drew ?_ | exact H1))) hk2).mono ?_
            rintro e we h3
            obtain ⟨f, rfl, h2⟩ := h3.from (RB.k (w0 := w) (l := l) (t := nx l t1) (bl := bl) (lo := lo) (X := X) (Y := Y) (by repeat (first | refine RB.set ?_ (by first | exact Nat.le_refl _ | omega | (simp; omega)) _ _ | refine RB.alloc ?_ _ | refine RB.drew ?_ | exact H1)))
            clear h3 cc cf
            go_wp2_with fail
            rw [HE.out]
            exact ⟨rfl, f, rfl, h2⟩
      · have b1 : (t1.txt == [102, 117, 108, 108]) = false := by simp only [not_or] at hw; simpa using hw.1
        have b2 : (t1.txt == [101, 109, 112, 116, 121]) = false := by simp only [not_or] at hw; simpa using hw.2.1
        have b3 : (t1.txt == [119, 97, 114, 109]) = false := by simp only [not_or] at hw; simpa using hw.2.2
        clear HW
        cases hv : valueS l t1 with
        | error q =>
          obtain ⟨d, pp⟩ := q
          have HE : Hid (r = .error (d, pp)) := by
            show _ = _
            rw [← HQ.out]; unfold condT; rw [if_neg hw, hv]
          have HV : Hid (valueS l t1 = .error (d, pp)) := hv
          clear HQ hv hw
          go_wp2_with (first | (go_at_call_of 56 (Value.string { data := #[110, 111, 116] }); refine (take_no [110, 111, 116] hR.r hnot).mono ?_; rintro e w' ⟨rfl, rfl⟩))
          refine (value_er hR.r HV.out).mono ?_
          rintro e we h3
          obtain ⟨f, rfl, h2⟩ := h3.from hR.k
          clear h3 cc cf oc of
          go_wp2_with fail
          rw [HE.out]
          exact ⟨rfl, f, rfl, h2⟩
        | ok q =>
          obtain ⟨va, t2⟩ := q
          have HV : Hid (valueS l t1 = .ok (va, t2)) := hv
          by_cases hlt : t2.txt = [60]
          · cases hv2 : valueS l (nx l t2) with
            | error q =>
              obtain ⟨d, pp⟩ := q
              have HE : Hid (r = .error (d, pp)) := by
                show _ = _
                rw [← HQ.out]; unfold condT; rw [if_neg hw, hv]; simp only [hlt, if_true, hv2]
              have HV2 : Hid (valueS l (nx l t2) = .error (d, pp)) := hv2
              clear HQ hv hv2 hw
              go_wp2_with (first | (go_at_call_of 56 (Value.string { data := #[110, 111, 116] }); refine (take_no [110, 111, 116] hR.r hnot).mono ?_; rintro e w' ⟨rfl, rfl⟩))
              refine (value_ok hR.r HV.out).mono ?_
              rintro e w1 ⟨rfl, R1⟩
              have H1 := hR.trans R1
              have hO1 := (R1.k.block w.heap.size (by omega) (by omega)).trans hO
              have hC1 := (R1.k.block (w.heap.size + 1) (by omega) (by omega)).trans hC
              have z1 := R1.k.size
              obtain ⟨f0, f1, f2, f3, f4, f5⟩ := H1.r.rd.cells
              clear oc of cc cf d0 d1 d2 d3 d4 d5 b1 b2 b3 hO hC
              obtain ⟨cc, cf⟩ := blk_cells hC1
              go_wp2_with fail
              refine (need_yes (l := l) (t := t2) (bl := bl) (lo := lo) (X := X) (Y := Y) [60] (RB.r (w0 := w) (by repeat (first | refine RB.set ?_ (by first | exact Nat.le_refl _ | omega | (simp; omega)) _ _ | refine RB.alloc ?_ _ | refine RB.drew ?_ | exact H1))) hlt).mono ?_
              rintro e w2 ⟨rfl, R2⟩
              have H2 := RB.trans (w0 := w) (t := t2) (bl := bl) (lo := lo) (by repeat (first | refine RB.set ?_ (by first | exact Nat.le_refl _ | omega | (simp; omega)) _ _ | refine RB.alloc ?_ _ | refine RB.drew ?_ | exact H1)) R2
              have hO2 := (R2.k.block w.heap.size (by simp [World.setCell]; omega) (by omega)).trans ((Below.heap_setCell _ _ _ _ (by first | (simp; done) | (simp; omega))).trans ((Below.heap_setCell _ _ _ _ (by first | (simp; done) | (simp; omega))).trans ((Below.heap_setCell _ _ _ _ (by first | (simp; done) | (simp; omega))).trans ((Below.heap_setCell _ _ _ _ (by first | (simp; done) | (simp; omega))).trans ((Below.heap_setCell _ _ _ _ (by first | (simp; done) | (simp; omega))).trans ((Below.heap_setCell _ _ _ _ (by first | (simp; done) | (simp; omega))).trans hO1))))))
              have hC2 : w2.heap[w.heap.size + 1]? = some (.cells (cdA ⟨n, t2.txt, ([], 0), va, vl0⟩) 134) := (R2.k.block (w.heap.size + 1) (by simp [World.setCell]; omega) (by omega)).trans ((heap_setCell_same _ _ _ _ _ _ (heap_setCell_same _ _ _ _ _ _ (heap_setCell_same _ _ _ _ _ _ (heap_setCell_same _ _ _ _ _ _ (heap_setCell_same _ _ _ _ _ _ (heap_setCell_same _ _ _ _ _ _ hC1)))))).trans (by simp [hlt, vl0]))
              have z2 := R2.k.size
              clear cc cf f0 f1 f2 f3 f4 f5
              go_wp2_with fail
              refine (value_er H2.r HV2.out).mono ?_
              rintro e we h3
              obtain ⟨f, rfl, h2⟩ := h3.from H2.k
              clear h3
              go_wp2_with fail
              rw [HE.out]
              exact ⟨rfl, f, rfl, h2⟩
            | ok q =>
              obtain ⟨vb, t3⟩ := q
              have HE : Hid (r = .ok (⟨n, t2.txt, ([], 0), va, vb⟩, t3)) := by
                show _ = _
                rw [← HQ.out]; unfold condT; rw [if_neg hw, hv]; simp only [hlt, if_true, hv2]
              have HV2 : Hid (valueS l (nx l t2) = .ok (vb, t3)) := hv2
              clear HQ hv hv2 hw
              go_wp2_with (first | (go_at_call_of 56 (Value.string { data := #[110, 111, 116] }); refine (take_no [110, 111, 116] hR.r hnot).mono ?_; rintro e w' ⟨rfl, rfl⟩))
              refine (value_ok hR.r HV.out).mono ?_
              rintro e w1 ⟨rfl, R1⟩
              have H1 := hR.trans R1
              have hO1 := (R1.k.block w.heap.size (by omega) (by omega)).trans hO
              have hC1 := (R1.k.block (w.heap.size + 1) (by omega) (by omega)).trans hC
              have z1 := R1.k.size
              obtain ⟨f0, f1, f2, f3, f4, f5⟩ := H1.r.rd.cells
              clear oc of cc cf d0 d1 d2 d3 d4 d5 b1 b2 b3 hO hC
              obtain ⟨cc, cf⟩ := blk_cells hC1
              go_wp2_with fail
              refine (need_yes (l := l) (t := t2) (bl := bl) (lo := lo) (X := X) (Y := Y) [60] (RB.r (w0 := w) (by repeat (first | refine RB.set ?_ (by first | exact Nat.le_refl _ | omega | (simp; omega)) _ _ | refine RB.alloc ?_ _ | refine RB.drew ?_ | exact H1))) hlt).mono ?_
              rintro e w2 ⟨rfl, R2⟩
              have H2 := RB.trans (w0 := w) (t := t2) (bl := bl) (lo := lo) (by repeat (first | refine RB.set ?_ (by first | exact Nat.le_refl _ | omega | (simp; omega)) _ _ | refine RB.alloc ?_ _ | refine RB.drew ?_ | exact H1)) R2
              have hO2 := (R2.k.block w.heap.size (by simp [World.setCell]; omega) (by omega)).trans ((Below.heap_setCell _ _ _ _ (by first | (simp; done) | (simp; omega))).trans ((Below.heap_setCell _ _ _ _ (by first | (simp; done) | (simp; omega))).trans ((Below.heap_setCell _ _ _ _ (by first | (simp; done) | (simp; omega))).trans ((Below.heap_setCell _ _ _ _ (by first | (simp; done) | (simp; omega))).trans ((Below.heap_setCell _ _ _ _ (by first | (simp; done) | (simp; omega))).trans ((Below.heap_setCell _ _ _ _ (by first | (simp; done) | (simp; omega))).trans hO1))))))
              have hC2 : w2.heap[w.heap.size + 1]? = some (.cells (cdA ⟨n, t2.txt, ([], 0), va, vl0⟩) 134) := (R2.k.block (w.heap.size + 1) (by simp [World.setCell]; omega) (by omega)).trans ((heap_setCell_same _ _ _ _ _ _ (heap_setCell_same _ _ _ _ _ _ (heap_setCell_same _ _ _ _ _ _ (heap_setCell_same _ _ _ _ _ _ (heap_setCell_same _ _ _ _ _ _ (heap_setCell_same _ _ _ _ _ _ hC1)))))).trans (by simp [hlt, vl0]))
              have z2 := R2.k.size
              clear cc cf f0 f1 f2 f3 f4 f5
              go_wp2_with fail
              refine (value_ok H2.r HV2.out).mono ?_
              rintro e w3 ⟨rfl, R3⟩
              have H3 := H2.trans R3
              simp [World.setCell] at z2
              have hO3 := (R3.k.block w.heap.size (by omega) (by omega)).trans hO2
              have hC3 := (R3.k.block (w.heap.size + 1) (by omega) (by omega)).trans hC2
              obtain ⟨cc, cf⟩ := blk_cells hC3
              go_upto_region 14 with fail
              refine wp_region_lit ?_
              refine wpList_load_row rfl 134 (.tmp 3) rfl (w.heap.size + 1) rfl 134 (cdA ⟨n, t2.txt, ([], 0), va, vb⟩) (0, 0) _ ((heap_setCell_same _ _ _ _ _ _ (heap_setCell_same _ _ _ _ _ _ (heap_setCell_same _ _ _ _ _ _ (heap_setCell_same _ _ _ _ _ _ (heap_setCell_same _ _ _ _ _ _ hC3))))).trans rfl) Tryd.underlying134 rfl (by kernel_rfl) ?_
              refine wpList_store_row rfl 134 (.tmp 2) (.tmp 41) rfl (w.heap.size) (cdA ⟨n, t2.txt, ([], 0), va, vb⟩) rfl rfl 134 (cdA ⟨false, [], ([], 0), vl0, vl0⟩) (((Below.heap_setCell _ _ _ _ (by first | (simp; done) | (simp; omega))).trans ((Below.heap_setCell _ _ _ _ (by first | (simp; done) | (simp; omega))).trans ((Below.heap_setCell _ _ _ _ (by first | (simp; done) | (simp; omega))).trans ((Below.heap_setCell _ _ _ _ (by first | (simp; done) | (simp; omega))).trans ((Below.heap_setCell _ _ _ _ (by first | (simp; done) | (simp; omega))).trans hO3)))))) (by kernel_rfl) rfl (by simp [Value.oneCell']) ?_
              go_wp2_with fail
              rw [HE.out]
              refine ⟨rfl, _, res_cell Tryd.results64 _ _ w.heap.size _ 134 _ rfl (setRow_heap _ _ _ _ _ _ ((Below.heap_setCell _ _ _ _ (by first | (simp; done) | (simp; omega))).trans ((Below.heap_setCell _ _ _ _ (by first | (simp; done) | (simp; omega))).trans ((Below.heap_setCell _ _ _ _ (by first | (simp; done) | (simp; omega))).trans ((Below.heap_setCell _ _ _ _ (by first | (simp; done) | (simp; omega))).trans ((Below.heap_setCell _ _ _ _ (by first | (simp; done) | (simp; omega))).trans hO3)))))) Tryd.underlying134 rfl (by kernel_rfl), ?_, ?_⟩
              · simp [hlt]
              · refine RB.setRow ?_ (Nat.le_refl _) _; repeat (first | refine RB.set ?_ (by first | exact Nat.le_refl _ | omega | (simp; omega)) _ _ | refine RB.alloc ?_ _ | refine RB.drew ?_ | exact H3)
          · have HE : Hid (r = .error (false, t2.pos)) := by
              show _ = _
              rw [← HQ.out]; unfold condT; rw [if_neg hw, hv]; simp only [hlt, if_false]
            clear HQ hv hw
            go_wp2_with (first | (go_at_call_of 56 (Value.string { data := #[110, 111, 116] }); refine (take_no [110, 111, 116] hR.r hnot).mono ?_; rintro e w' ⟨rfl, rfl⟩))
            refine (value_ok hR.r HV.out).mono ?_
            rintro e w1 ⟨rfl, R1⟩
            have H1 := hR.trans R1
            have hO1 := (R1.k.block w.heap.size (by omega) (by omega)).trans hO
            have hC1 := (R1.k.block (w.heap.size + 1) (by omega) (by omega)).trans hC
            have z1 := R1.k.size
            obtain ⟨f0, f1, f2, f3, f4, f5⟩ := H1.r.rd.cells
            clear oc of cc cf d0 d1 d2 d3 d4 d5 b1 b2 b3 hO hC
            obtain ⟨cc, cf⟩ := blk_cells hC1
            go_wp2_with fail
            refine (need_no (l := l) (t := t2) (bl := bl) (lo := lo) (X := X) (Y := Y) [60] (RB.r (w0 := w) (by repeat (first | refine RB.set ?_ (by first | exact Nat.le_refl _ | omega | (simp; omega)) _ _ | refine RB.alloc ?_ _ | refine RB.drew ?_ | exact H1))) hlt).mono ?_
            rintro e we h3
            obtain ⟨f, rfl, h2⟩ := h3.from (RB.k (w0 := w) (l := l) (t := t2) (bl := bl) (lo := lo) (X := X) (Y := Y) (by repeat (first | refine RB.set ?_ (by first | exact Nat.le_refl _ | omega | (simp; omega)) _ _ | refine RB.alloc ?_ _ | refine RB.drew ?_ | exact H1)))
            clear h3 cc cf
            go_wp2_with fail
            rw [HE.out]
            exact ⟨rfl, f, rfl, h2⟩

theorem cond_ok {w : World} {b : Nat} {l : List UInt8} {t : Tok} {bl lo : Nat} {X Y : Value} {x : Cd} {t' : Tok} (h : Rw w b l t bl lo X Y) (hv : condS l t = .ok (x, t')) :
    Calls Tryd.prog 64 #[ptr b] w fun e w' => e = .returned (cdV x) ∧ RB w w' b l t' bl lo X Y := by
  refine (cond_any h).mono fun e w' H => ?_
  rw [hv] at H; exact H
theorem cond_er {w : World} {b : Nat} {l : List UInt8} {t : Tok} {bl lo : Nat} {X Y : Value} {d : Bool} {p : Nat} (h : Rw w b l t bl lo X Y) (hv : condS l t = .error (d, p)) :
    Calls Tryd.prog 64 #[ptr b] w fun e w' => Flt w b (if d then Y else X) p e w' := by
  refine (cond_any h).mono fun e w' H => ?_
  rw [hv] at H; exact H
end Go.Proofs.YtippenbbibfmdabDoor
