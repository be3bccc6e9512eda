import Derived.Test.YtippenbbibfmdabDoorW4
namespace Go.Proofs.YtippenbbibfmdabDoor
open Go.RowKit

abbrev ptr (b : Nat) : Value := .pointer (some ⟨b, 0, none⟩)
abbrev PR (α : Type) := Except (Bool × Nat) (α × Tok)

structure Rw (w : World) (b : Nat) (l : List UInt8) (t : Tok) (bl lo : Nat) (X Y : Value) : Prop where
  rd : At w b l t bl lo
  syn : w.cell? ⟨10, 0, none⟩ = some (.iface 143 X)
  deep : w.cell? ⟨1, 0, none⟩ = some (.iface 143 Y)
  nsyn : b ≠ 10
  ndeep : b ≠ 1
  len : l.length ≤ 700
  tk : ∃ i, i ≤ l.length ∧ t = tokAt l i

theorem But.cell {b : Nat} {w w' : World} (h : But b w w') {k o : Nat} {v : Value} (hc : w.cell? ⟨k, o, none⟩ = some v) (hk : k ≠ b) : w'.cell? ⟨k, o, none⟩ = some v := by
  have hlt : k < w.heap.size := by
    by_cases e : k < w.heap.size
    · exact e
    · exfalso; unfold World.cell? at hc; simp [Array.getElem?_eq_none (Nat.le_of_not_lt e)] at hc
  rw [← hc]
  exact World.cell?_of_block (w := w) (h.block k hlt hk)

theorem Rw.keep {w w' : World} {b : Nat} {l : List UInt8} {t t' : Tok} {bl lo bl' lo' : Nat} {X Y : Value} (h : Rw w b l t bl lo X Y) (hb : But b w w') (ha : At w' b l t' bl' lo') (ht : ∃ i, i ≤ l.length ∧ t' = tokAt l i) : Rw w' b l t' bl' lo' X Y :=
  ⟨ha, hb.cell h.syn (Ne.symm h.nsyn), hb.cell h.deep (Ne.symm h.ndeep), h.nsyn, h.ndeep, h.len, ht⟩
theorem Rw.bnd {w : World} {b : Nat} {l : List UInt8} {t : Tok} {bl lo : Nat} {X Y : Value} (h : Rw w b l t bl lo X Y) : t.pos + t.txt.length ≤ l.length := by
  obtain ⟨i, hi, rfl⟩ := h.tk; exact nx_ok l i hi
theorem Rw.nxt {w : World} {b : Nat} {l : List UInt8} {t : Tok} {bl lo : Nat} {X Y : Value} (h : Rw w b l t bl lo X Y) : ∃ i, i ≤ l.length ∧ nx l t = tokAt l i := ⟨_, h.bnd, rfl⟩
theorem Rw.alloc {w : World} {b : Nat} {l : List UInt8} {t : Tok} {bl lo : Nat} {X Y : Value} (h : Rw w b l t bl lo X Y) (o : Obj) : Rw (w.alloc o) b l t bl lo X Y := h.keep ((But.refl b w).alloc o) (h.rd.alloc o) h.tk
theorem Rw.drew {w : World} {b : Nat} {l : List UInt8} {t : Tok} {bl lo : Nat} {X Y : Value} (h : Rw w b l t bl lo X Y) : Rw w.drew b l t bl lo X Y := h.keep (But.refl b w).drew h.rd.drew h.tk
theorem Rw.set {w : World} {b : Nat} {l : List UInt8} {t : Tok} {bl lo : Nat} {X Y : Value} (h : Rw w b l t bl lo X Y) {n o : Nat} (hn : n ≠ b) (hs : n ≠ 10) (hd : n ≠ 1) (u : Value) : Rw (w.setCell ⟨n, o, none⟩ u) b l t bl lo X Y :=
  ⟨h.rd.setOther _ _ (Ne.symm hn), (World.cell?_of_block (w := w) (Below.heap_setCell w _ u 10 (Ne.symm hs))).trans h.syn, (World.cell?_of_block (w := w) (Below.heap_setCell w _ u 1 (Ne.symm hd))).trans h.deep, h.nsyn, h.ndeep, h.len, h.tk⟩
theorem Rw.gt {w : World} {b : Nat} {l : List UInt8} {t : Tok} {bl lo : Nat} {X Y : Value} (h : Rw w b l t bl lo X Y) : 10 < w.heap.size ∧ 1 < w.heap.size ∧ b < w.heap.size := by
  refine ⟨?_, ?_, h.rd.lt⟩
  · by_cases e : 10 < w.heap.size
    · exact e
    · exfalso; have hc := h.syn; unfold World.cell? at hc; simp [Array.getElem?_eq_none (Nat.le_of_not_lt e)] at hc
  · by_cases e : 1 < w.heap.size
    · exact e
    · exfalso; have hc := h.deep; unfold World.cell? at hc; simp [Array.getElem?_eq_none (Nat.le_of_not_lt e)] at hc

theorem But.loc {b : Nat} {W w1 : World} (hb : But b W w1) (n : Nat) (hn : n < W.heap.size) (hne : n ≠ b) :
    (∀ o, w1.cell? ⟨n, o, none⟩ = W.cell? ⟨n, o, none⟩) ∧ (∀ o, w1.frozen? ⟨n, o, none⟩ = W.frozen? ⟨n, o, none⟩) :=
  ⟨fun o => World.cell?_of_block (w := W) (a := ⟨n, o, none⟩) (hb.block n hn hne), fun o => World.frozen?_of_block (w := W) (a := ⟨n, o, none⟩) (hb.block n hn hne)⟩

/-- The reader as it stands in w, and all else as it was in w0. -/
structure RB (w0 w : World) (b : Nat) (l : List UInt8) (t : Tok) (bl lo : Nat) (X Y : Value) : Prop where
  r : Rw w b l t bl lo X Y
  k : But b w0 w
  z : 10 < w0.heap.size ∧ 1 < w0.heap.size ∧ b < w0.heap.size

theorem RB.refl {w : World} {b : Nat} {l : List UInt8} {t : Tok} {bl lo : Nat} {X Y : Value} (h : Rw w b l t bl lo X Y) : RB w w b l t bl lo X Y := ⟨h, But.refl b w, h.gt⟩
theorem RB.alloc {w0 w : World} {b : Nat} {l : List UInt8} {t : Tok} {bl lo : Nat} {X Y : Value} (h : RB w0 w b l t bl lo X Y) (o : Obj) : RB w0 (w.alloc o) b l t bl lo X Y := ⟨h.r.alloc o, h.k.alloc o, h.z⟩
theorem RB.drew {w0 w : World} {b : Nat} {l : List UInt8} {t : Tok} {bl lo : Nat} {X Y : Value} (h : RB w0 w b l t bl lo X Y) : RB w0 w.drew b l t bl lo X Y := ⟨h.r.drew, h.k.drew, h.z⟩
theorem RB.set {w0 w : World} {b : Nat} {l : List UInt8} {t : Tok} {bl lo : Nat} {X Y : Value} (h : RB w0 w b l t bl lo X Y) {n : Nat} (hn : w0.heap.size ≤ n) (o : Nat) (u : Value) : RB w0 (w.setCell ⟨n, o, none⟩ u) b l t bl lo X Y :=
  ⟨h.r.set (by have := h.z; omega) (by have := h.z; omega) (by have := h.z; omega) u, h.k.setCell (Or.inl hn) u, h.z⟩
theorem RB.trans {w0 w w' : World} {b : Nat} {l : List UInt8} {t t' : Tok} {bl lo bl' lo' : Nat} {X Y : Value} (h : RB w0 w b l t bl lo X Y) (h' : RB w w' b l t' bl' lo' X Y) : RB w0 w' b l t' bl' lo' X Y :=
  ⟨h'.r, h.k.trans h'.k, h.z⟩
theorem RB.putB {w0 w : World} {b : Nat} {l : List UInt8} {t : Tok} {bl lo : Nat} {X Y : Value} (h : RB w0 w b l t bl lo X Y) (bl' : Nat) : RB w0 (w.setCell ⟨b, 4, none⟩ (.int .i64 bl')) b l t bl' lo X Y :=
  ⟨h.r.keep ((But.refl b w).setCell (Or.inr rfl) _) (h.r.rd.putB bl') h.r.tk, h.k.setCell (Or.inr rfl) _, h.z⟩
theorem RB.putL {w0 w : World} {b : Nat} {l : List UInt8} {t : Tok} {bl lo : Nat} {X Y : Value} (h : RB w0 w b l t bl lo X Y) (lo' : Nat) : RB w0 (w.setCell ⟨b, 5, none⟩ (.int .i64 lo')) b l t bl lo' X Y :=
  ⟨h.r.keep ((But.refl b w).setCell (Or.inr rfl) _) (h.r.rd.putL lo') h.r.tk, h.k.setCell (Or.inr rfl) _, h.z⟩

theorem step_r {w : World} {b : Nat} {l : List UInt8} {t : Tok} {bl lo : Nat} {X Y : Value} (h : Rw w b l t bl lo X Y) :
    Calls Tryd.prog 47 #[ptr b] w fun e w' => e = .returned (tokV t) ∧ RB w w' b l (nx l t) bl lo X Y :=
  (step_any w b l t bl lo h.rd h.len h.bnd).mono fun _ _ ⟨e, ha, hb⟩ => ⟨e, h.keep hb ha h.nxt, hb, h.gt⟩

/-- It left by a panic with a fault. -/
def Flt (w : World) (b : Nat) (Z : Value) (p : Nat) (e : Ending) (w' : World) : Prop :=
  ∃ f, e = .panicked [{ v := .iface 42 (.pointer (some ⟨f, 0, none⟩)), recovered := false }] ∧ w'.heap[f]? = some (.cells #[.iface 143 Z, .int .i64 p] 44) ∧ w.heap.size ≤ f ∧ But b w w'

theorem Flt.from {w0 w : World} {b : Nat} {Z : Value} {p : Nat} {e : Ending} {w' : World} (h : Flt w b Z p e w') (hb : But b w0 w) : Flt w0 b Z p e w' := by
  obtain ⟨f, h1, h2, h3, h4⟩ := h
  exact ⟨f, h1, h2, Nat.le_trans hb.size h3, hb.trans h4⟩

theorem leave_r {w : World} {b : Nat} {l : List UInt8} {t : Tok} {bl lo : Nat} {X Y : Value} (Z : Value) (h : Rw w b l t bl lo X Y) :
    Calls Tryd.prog 53 #[ptr b, .iface 143 Z] w fun e w' => Flt w b Z t.pos e w' := by
  refine (leave_any w b l t bl lo _ _ h.rd).mono ?_
  rintro e w' ⟨rfl, rfl⟩
  exact ⟨w.heap.size, rfl, heap_new rfl, Nat.le_refl _, (But.refl b w).alloc _⟩

set_option maxHeartbeats 400000 in
theorem take_yes {w : World} {b : Nat} {l : List UInt8} {t : Tok} {bl lo : Nat} {X Y : Value} (s : List UInt8) (h : Rw w b l t bl lo X Y) (hs : t.txt = s) :
    Calls Tryd.prog 56 #[ptr b, S s] w fun e w' => e = .returned (.bool true) ∧ RB w w' b l (nx l t) bl lo X Y := by
  subst hs
  obtain ⟨c0, c1, c2, c3, c4, c5⟩ := h.rd.cells
  go_enter Tryd.func56, Tryd.ntmps56
  go_wp2_with (go_at_call 47; refine (step_r h).mono ?_; rintro e w1 ⟨rfl, hr⟩)
  go_ret
  exact ⟨rfl, hr⟩

set_option maxHeartbeats 400000 in
theorem take_no {w : World} {b : Nat} {l : List UInt8} {t : Tok} {bl lo : Nat} {X Y : Value} (s : List UInt8) (h : Rw w b l t bl lo X Y) (hs : ¬ t.txt = s) :
    Calls Tryd.prog 56 #[ptr b, S s] w fun e w' => e = .returned (.bool false) ∧ w' = w := by
  obtain ⟨c0, c1, c2, c3, c4, c5⟩ := h.rd.cells
  have hq : (t.txt == s) = false := by simpa using hs
  have hq2 : (t.txt != s) = true := by simpa using hs
  go_enter Tryd.func56, Tryd.ntmps56
  go_wp2_with fail
  go_ret
  exact ⟨rfl, rfl⟩

set_option maxHeartbeats 400000 in
theorem need_yes {w : World} {b : Nat} {l : List UInt8} {t : Tok} {bl lo : Nat} {X Y : Value} (s : List UInt8) (h : Rw w b l t bl lo X Y) (hs : t.txt = s) :
    Calls Tryd.prog 50 #[ptr b, S s] w fun e w' => e = .returned (.tuple #[]) ∧ RB w w' b l (nx l t) bl lo X Y := by
  go_enter Tryd.func50, Tryd.ntmps50
  go_wp2_with (go_at_call 56; refine (take_yes s h hs).mono ?_; rintro e w1 ⟨rfl, hr⟩)
  go_end0
  exact ⟨rfl, hr⟩

set_option maxHeartbeats 400000 in
theorem need_no {w : World} {b : Nat} {l : List UInt8} {t : Tok} {bl lo : Nat} {X Y : Value} (s : List UInt8) (h : Rw w b l t bl lo X Y) (hs : ¬ t.txt = s) :
    Calls Tryd.prog 50 #[ptr b, S s] w fun e w' => Flt w b X t.pos e w' := by
  have hg := h.syn
  go_enter Tryd.func50, Tryd.ntmps50
  go_wp2_with (first | (go_at_call 56; refine (take_no s h hs).mono ?_; rintro e w1 ⟨rfl, rfl⟩) | (go_at_call 53; refine (leave_r X h).mono ?_; rintro e w1 ⟨f, rfl, h2⟩))
  exact ⟨rfl, f, rfl, h2⟩

set_option maxHeartbeats 400000 in
theorem needKind_yes {w : World} {b : Nat} {l : List UInt8} {t : Tok} {bl lo : Nat} {X Y : Value} (k : Nat) (h : Rw w b l t bl lo X Y) (hs : t.kind = k) :
    Calls Tryd.prog 38 #[ptr b, .int .i64 k] w fun e w' => e = .returned (tokV t) ∧ RB w w' b l (nx l t) bl lo X Y := by
  subst hs
  obtain ⟨c0, c1, c2, c3, c4, c5⟩ := h.rd.cells
  have hgt := h.gt
  go_enter Tryd.func38, Tryd.ntmps38
  go_wp2_with (go_at_call 47; refine (step_r (h.alloc _)).mono ?_; rintro e w1 ⟨rfl, hr⟩; obtain ⟨g1, g2⟩ := hr.k.loc w.heap.size (by simp) (by omega))
  exact bodyPost_ret (v := tokV t) (by simp [results, Tryd.results38, go_sem, g1]) rfl ⟨rfl, ((((RB.refl h).alloc _).trans hr).set (Nat.le_refl _) _ _ |>.set (Nat.le_refl _) _ _).set (Nat.le_refl _) _ _⟩

set_option maxHeartbeats 400000 in
theorem needKind_no {w : World} {b : Nat} {l : List UInt8} {t : Tok} {bl lo : Nat} {X Y : Value} (k : Nat) (h : Rw w b l t bl lo X Y) (hs : ¬ t.kind = k) :
    Calls Tryd.prog 38 #[ptr b, .int .i64 k] w fun e w' => Flt w b X t.pos e w' := by
  obtain ⟨c0, c1, c2, c3, c4, c5⟩ := h.rd.cells
  have hgt := h.gt
  have hg := (h.alloc (.cells #[Value.int IntKind.i64 0, Value.string { data := #[] }, Value.int IntKind.i64 0] 54)).syn
  have hq : ((t.kind : Int) == (k : Int)) = false := by rw [beq_eq_false_iff_ne]; omega
  have hq2 : ((t.kind : Int) != (k : Int)) = true := by rw [bne_iff_ne]; omega
  go_enter Tryd.func38, Tryd.ntmps38
  go_wp2_with (go_at_call 53; refine (leave_r X (h.alloc _)).mono ?_; rintro e w1 h3; obtain ⟨f, rfl, h2⟩ := h3.from ((But.refl b w).alloc _); clear h3)
  exact ⟨rfl, f, rfl, h2⟩

abbrev nameV (t : Tok) : Value := .agg #[.string ⟨t.txt.toArray⟩, .int .i64 t.pos]

set_option maxHeartbeats 400000 in
theorem name_yes {w : World} {b : Nat} {l : List UInt8} {t : Tok} {bl lo : Nat} {X Y : Value} (h : Rw w b l t bl lo X Y) (hs : t.kind = 2) :
    Calls Tryd.prog 48 #[ptr b] w fun e w' => e = .returned (nameV t) ∧ RB w w' b l (nx l t) bl lo X Y := by
  have hgt := h.gt
  go_enter Tryd.func48, Tryd.ntmps48
  go_wp2_with (go_at_call 38; refine (needKind_yes 2 (h.alloc _) hs).mono ?_; rintro e w1 ⟨rfl, hr⟩; obtain ⟨g1, g2⟩ := hr.k.loc w.heap.size (by simp) (by omega); have hz : w.heap.size < w1.heap.size := by have := hr.k.size; simp at this; omega)
  exact bodyPost_ret (v := nameV t) (by simp [results, Tryd.results48, go_sem, g1, hz]) rfl ⟨rfl, by
    have H0 := ((RB.refl h).alloc _).trans hr
    repeat (first | exact H0 | refine RB.alloc ?_ _ | refine RB.set ?_ (Nat.le_refl _) _ _ | refine RB.drew ?_)⟩

set_option maxHeartbeats 400000 in
theorem name_no {w : World} {b : Nat} {l : List UInt8} {t : Tok} {bl lo : Nat} {X Y : Value} (h : Rw w b l t bl lo X Y) (hs : ¬ t.kind = 2) :
    Calls Tryd.prog 48 #[ptr b] w fun e w' => Flt w b X t.pos e w' := by
  go_enter Tryd.func48, Tryd.ntmps48
  go_wp2_with (go_at_call 38; refine (needKind_no 2 (h.alloc _) hs).mono ?_; rintro e w1 h3; obtain ⟨f, rfl, h2⟩ := h3.from ((But.refl b w).alloc _); clear h3)
  exact ⟨rfl, f, rfl, h2⟩

def numL : List UInt8 → Nat → Nat
  | [], n => n
  | c :: r, n => numL r (n * 10 + (c.toNat - 48))

abbrev numV (t : Tok) : Value := .agg #[.int .i64 (numL t.txt 0 : Nat), .int .i64 t.pos]

set_option maxHeartbeats 400000 in
theorem number_no {w : World} {b : Nat} {l : List UInt8} {t : Tok} {bl lo : Nat} {X Y : Value} (h : Rw w b l t bl lo X Y) (hs : ¬ t.kind = 3) :
    Calls Tryd.prog 49 #[ptr b] w fun e w' => Flt w b X t.pos e w' := by
  go_enter Tryd.func49, Tryd.ntmps49
  go_wp2_with (go_at_call 38; refine (needKind_no 3 (h.alloc _) hs).mono ?_; rintro e w1 h3; obtain ⟨f, rfl, h2⟩ := h3.from ((But.refl b w).alloc _); clear h3)
  exact ⟨rfl, f, rfl, h2⟩

theorem tk3 (l : List UInt8) (i : Nat) (_h : i ≤ l.length) (hk : (tokAt l i).kind = 3) : (tokAt l i).txt.length ≤ 3 ∧ ∀ c ∈ (tokAt l i).txt, digU c = true := by
  by_cases hs : skip l i < l.length
  · have hL := tokAt_word l i hs
    have hD := tokAt_dig l i hs
    have hS := tokAt_sgn l i hs
    have hN := tokAt_none l i hs
    generalize tokAt l i = t at *
    generalize skip l i = j at *
    cases e1 : letU l[j] with
    | true => rw [hL e1] at hk ⊢; exfalso; revert hk; unfold wordT; split <;> (try split) <;> simp
    | false =>
    cases e2 : digU l[j] with
    | true =>
      rw [hD e1 e2] at hk ⊢
      unfold digT at *
      split at hk
      · simp at hk
      · rename_i hn
        rw [if_neg hn]
        exact ⟨by simpa using hn, fun c hc => List.all_eq_true.1 List.all_takeWhile c hc⟩
    | false =>
    cases e3 : sgnU l[j] with
    | true => rw [hS e1 e2 e3] at hk; simp at hk
    | false => rw [hN e1 e2 e3] at hk; simp at hk
  · rw [tokAt_end l i hs] at hk; simp at hk

theorem numL_snoc : ∀ (x : List UInt8) (c : UInt8) (n : Nat), numL (x ++ [c]) n = numL x n * 10 + (c.toNat - 48)
  | [], _, _ => rfl
  | _ :: x, c, _ => numL_snoc x c _
theorem digU_bd (c : UInt8) (h : digU c = true) : 48 ≤ c.toNat ∧ c.toNat ≤ 57 := by
  simp [digU, digitB] at h; omega
theorem numL_lt : ∀ (x : List UInt8) (n : Nat), (∀ c ∈ x, digU c = true) → numL x n < (n + 1) * 10 ^ x.length
  | [], n, _ => by simp [numL]
  | c :: x, n, h => by
    have hc := digU_bd c (h c (by simp))
    have := numL_lt x (n * 10 + (c.toNat - 48)) (fun d hd => h d (by simp [hd]))
    simp only [numL, List.length_cons]
    refine Nat.lt_of_lt_of_le this ?_
    rw [Nat.pow_succ, ← Nat.mul_assoc, Nat.mul_right_comm]
    apply Nat.mul_le_mul_right
    omega
theorem num_bd (x : List UInt8) (h : ∀ c ∈ x, digU c = true) (hl : x.length ≤ 3) : numL x 0 ≤ 999 := by
  have := numL_lt x 0 h
  have h2 : 10 ^ x.length ≤ 10 ^ 3 := Nat.pow_le_pow_right (by omega) hl
  omega
theorem num_take (x : List UInt8) (k : Nat) (hk : k < x.length) : numL (x.take (k + 1)) 0 = numL (x.take k) 0 * 10 + (x[k].toNat - 48) := by
  rw [List.take_succ_eq_append_getElem hk, numL_snoc]

set_option maxHeartbeats 800000 in
theorem number_yes {w : World} {b : Nat} {l : List UInt8} {t : Tok} {bl lo : Nat} {X Y : Value} (h : Rw w b l t bl lo X Y) (hs : t.kind = 3) :
    Calls Tryd.prog 49 #[ptr b] w fun e w' => e = .returned (numV t) ∧ RB w w' b l (nx l t) bl lo X Y := by
  have hgt := h.gt
  have htk : t.txt.length ≤ 3 ∧ ∀ c ∈ t.txt, digU c = true := by obtain ⟨i, hi, rfl⟩ := h.tk; exact tk3 l i hi hs
  obtain ⟨hl3, hdig⟩ := htk
  have HD : Hid (∀ c ∈ t.txt, digU c = true) := hdig
  clear hdig
  go_enter Tryd.func49, Tryd.ntmps49
  go_wp2_with (go_at_call 38; refine (needKind_yes 3 (h.alloc _) hs).mono ?_; rintro e w1 ⟨rfl, hr⟩; obtain ⟨g1, g2⟩ := hr.k.loc w.heap.size (by simp) (by omega); have hz : w.heap.size < w1.heap.size := by have := hr.k.size; simp at this; omega)
  have H0 := ((RB.refl h).alloc _).trans hr
  have hnb := num_bd t.txt HD.out hl3
  go_loopw [14] (fun i wr => ∃ k : Nat, k ≤ t.txt.length ∧ i = .int .i64 k ∧ RB w wr b l (nx l t) bl lo X Y ∧ wr.heap[w1.heap.size]? = some (.cells #[.int .i64 3, .string ⟨t.txt.toArray⟩, .int .i64 t.pos] 54) ∧ wr.heap[w1.heap.size + 1]? = some (.cells #[.int .i64 (numL (t.txt.take k) 0 : Nat), .int .i64 t.pos] 71) ∧ wr.heap[w.heap.size]? = some (.cells #[.int .i64 0, .int .i64 0] 71)) (fun i _ => 10 - (intOf i).toNat)
  case atStart =>
    refine ⟨0, Nat.zero_le _, rfl, ?_, ?_, ?_, ?_⟩
    · repeat (first | exact H0 | refine RB.alloc ?_ _)
    · rw [Below.heap_alloc _ _ _ (by simp)]; exact heap_new rfl
    · exact heap_new (by simp)
    · rw [Below.heap_alloc _ _ _ (by simp; omega), Below.heap_alloc _ _ _ (by omega), hr.k.block _ (by simp) (by omega)]; exact heap_new rfl
  case round =>
    obtain ⟨k, hk, rfl, hR, hT, hN, hO⟩ := hrel
    have t0 : wr.cell? ⟨w1.heap.size, 1, none⟩ = some (.string ⟨t.txt.toArray⟩) := by simp [World.cell?, hT]
    have n0 : wr.cell? ⟨w1.heap.size + 1, 0, none⟩ = some (.int .i64 (numL (t.txt.take k) 0 : Nat)) := by simp [World.cell?, hN]
    have n1 : wr.cell? ⟨w1.heap.size + 1, 1, none⟩ = some (.int .i64 t.pos) := by simp [World.cell?, hN]
    have nf : ∀ o, wr.frozen? ⟨w1.heap.size + 1, o, none⟩ = false := by intro o; simp [World.frozen?, hN]
    have o0 : wr.cell? ⟨w.heap.size, 0, none⟩ = some (.int .i64 0) := by simp [World.cell?, hO]
    have o1 : wr.cell? ⟨w.heap.size, 1, none⟩ = some (.int .i64 0) := by simp [World.cell?, hO]
    have of : ∀ o, wr.frozen? ⟨w.heap.size, o, none⟩ = false := by intro o; simp [World.frozen?, hO]
    by_cases hlt : k < t.txt.length
    · have hg := bget t.txt k hlt
      have hdb := digU_bd t.txt[k] (HD.out _ (List.getElem_mem _))
      have HS : Hid (numL (t.txt.take (k + 1)) 0 = numL (t.txt.take k) 0 * 10 + (t.txt[k].toNat - 48)) := num_take _ _ hlt
      have hkb := num_bd (t.txt.take k) (fun c hc => HD.out c (List.mem_of_mem_take hc)) (by simp; omega)
      have a1 : IntKind.i64.wrap ((numL (t.txt.take k) 0 : Int) * 10) = (numL (t.txt.take k) 0 : Int) * 10 := by rw [IntKind.wrap_i64]; omega
      have a2 : IntKind.u8.wrap ((t.txt[k].toNat : Int) - 48) = (t.txt[k].toNat : Int) - 48 := by rw [IntKind.wrap_u8]; omega
      have a3 : IntKind.i64.wrap ((t.txt[k].toNat : Int) - 48) = (t.txt[k].toNat : Int) - 48 := by rw [IntKind.wrap_i64]; omega
      have a4 : IntKind.i64.wrap ((numL (t.txt.take k) 0 : Int) * 10 + ((t.txt[k].toNat : Int) - 48)) = (numL (t.txt.take k) 0 : Int) * 10 + ((t.txt[k].toNat : Int) - 48) := by rw [IntKind.wrap_i64]; omega
      go_wp2_with fail
      go_region
      all_goals go_wp2_with fail
      go_roundw
      case rel =>
        have hv : ((numL (t.txt.take k) 0 : Int) * 10 + ((t.txt[k].toNat : Int) - 48)) = ((numL (t.txt.take (k + 1)) 0 : Nat) : Int) := by rw [HS.out]; omega
        rw [hv]
        refine ⟨k + 1, by omega, by go_num, (hR.set (by omega) _ _).drew, ?_, ?_, ?_⟩
        · exact (Below.heap_setCell _ _ _ _ (by simp)).trans hT
        · exact (heap_setCell_same _ _ _ _ _ _ hN).trans rfl
        · exact (Below.heap_setCell _ _ _ _ (by simp; omega)).trans hO
      case measure => simp [intOf]; omega
    · go_wp2_with fail
      have e : k = t.txt.length := by omega
      refine bodyPost_ret (v := .agg #[.int .i64 (numL (t.txt.take k) 0 : Nat), .int .i64 t.pos]) (by simp [results, Tryd.results49, go_sem, o0, o1]) rfl ⟨?_, (hR.set (Nat.le_refl _) _ _).set (Nat.le_refl _) _ _⟩
      rw [e, List.take_length]

set_option maxHeartbeats 400000 in
theorem event_miss {w : World} {b : Nat} {l : List UInt8} {t : Tok} {bl lo : Nat} {X Y : Value} (h : Rw w b l t bl lo X Y) (hs : t.txt = [109, 105, 115, 115]) :
    Calls Tryd.prog 51 #[ptr b] w fun e w' => e = .returned (nameV t) ∧ RB w w' b l (nx l t) bl lo X Y := by
  obtain ⟨c0, c1, c2, c3, c4, c5⟩ := h.rd.cells
  have hgt := h.gt
  go_enter Tryd.func51, Tryd.ntmps51
  go_wp2_with (go_at_call 56; refine (take_yes [109, 105, 115, 115] (h.alloc _) hs).mono ?_; rintro e w1 ⟨rfl, hr⟩; obtain ⟨g1, g2⟩ := hr.k.loc w.heap.size (by simp) (by omega); have hz : w.heap.size < w1.heap.size := by have := hr.k.size; simp at this; omega)
  have H0 := ((RB.refl h).alloc _).trans hr
  refine bodyPost_ret (v := nameV t) (by simp [results, Tryd.results51, go_sem, g1, hs]) rfl ⟨rfl, ?_⟩
  repeat (first | exact H0 | refine RB.alloc ?_ _ | refine RB.set ?_ (Nat.le_refl _) _ _ | refine RB.drew ?_)

set_option maxHeartbeats 400000 in
theorem event_name {w : World} {b : Nat} {l : List UInt8} {t : Tok} {bl lo : Nat} {X Y : Value} (h : Rw w b l t bl lo X Y) (hs : ¬ t.txt = [109, 105, 115, 115]) (hk : t.kind = 2) :
    Calls Tryd.prog 51 #[ptr b] w fun e w' => e = .returned (nameV t) ∧ RB w w' b l (nx l t) bl lo X Y := by
  obtain ⟨c0, c1, c2, c3, c4, c5⟩ := h.rd.cells
  have hgt := h.gt
  go_enter Tryd.func51, Tryd.ntmps51
  go_wp2_with (first | (go_at_call 56; refine (take_no [109, 105, 115, 115] (h.alloc _) hs).mono ?_; rintro e w1 ⟨rfl, rfl⟩) | (go_at_call 48; refine (name_yes (h.alloc _) hk).mono ?_; rintro e w1 ⟨rfl, hr⟩; obtain ⟨g1, g2⟩ := hr.k.loc w.heap.size (by simp) (by omega); have hz : w.heap.size < w1.heap.size := by have := hr.k.size; simp at this; omega))
  have H0 := ((RB.refl h).alloc _).trans hr
  refine bodyPost_ret (v := nameV t) (by simp [results, Tryd.results51, go_sem, g1]) rfl ⟨rfl, ?_⟩
  repeat (first | exact H0 | refine RB.alloc ?_ _ | refine RB.set ?_ (Nat.le_refl _) _ _ | refine RB.drew ?_)

set_option maxHeartbeats 400000 in
theorem event_no {w : World} {b : Nat} {l : List UInt8} {t : Tok} {bl lo : Nat} {X Y : Value} (h : Rw w b l t bl lo X Y) (hs : ¬ t.txt = [109, 105, 115, 115]) (hk : ¬ t.kind = 2) :
    Calls Tryd.prog 51 #[ptr b] w fun e w' => Flt w b X t.pos e w' := by
  obtain ⟨c0, c1, c2, c3, c4, c5⟩ := h.rd.cells
  have hgt := h.gt
  go_enter Tryd.func51, Tryd.ntmps51
  go_wp2_with (first | (go_at_call 56; refine (take_no [109, 105, 115, 115] (h.alloc _) hs).mono ?_; rintro e w1 ⟨rfl, rfl⟩) | (go_at_call 48; refine (name_no (h.alloc _) hk).mono ?_; rintro e w1 h3; obtain ⟨f, rfl, h2⟩ := h3.from ((But.refl b w).alloc _); clear h3))
  exact ⟨rfl, f, rfl, h2⟩

def declB (s : List UInt8) : Bool := s == [113, 117, 101, 117, 101] || s == [103, 104, 111, 115, 116] || s == [118, 97, 114] || s == [102, 114, 101, 113]

set_option maxHeartbeats 400000 in
theorem isDecl_any {w : World} {b : Nat} {l : List UInt8} {t : Tok} {bl lo : Nat} {X Y : Value} (h : Rw w b l t bl lo X Y) :
    Calls Tryd.prog 35 #[ptr b] w fun e w' => e = .returned (.bool (declB t.txt)) ∧ w' = w := by
  obtain ⟨c0, c1, c2, c3, c4, c5⟩ := h.rd.cells
  clear h
  go_enter Tryd.func35, Tryd.ntmps35
  go_wp2
  all_goals first | (exfalso; simp_all; done) | skip
  all_goals go_ret
  all_goals refine ⟨?_, rfl⟩
  all_goals (simp_all [declB]; done)
end Go.Proofs.YtippenbbibfmdabDoor
