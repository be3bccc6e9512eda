import Derived.Test.YtippenbbibfmdabDoorW5
namespace Go.Proofs.YtippenbbibfmdabDoor
open Go.RowKit

abbrev NP := List UInt8 × Nat

structure Vl where
  kind : Nat
  name : NP
  num : Nat × Nat

def np (t : Tok) : NP := (t.txt, t.pos)
abbrev vlV (v : Vl) : Value := .agg #[.int .i64 v.kind, .string ⟨v.name.1.toArray⟩, .int .i64 v.name.2, .int .i64 v.num.1, .int .i64 v.num.2]

def nameS (l : List UInt8) (t : Tok) : PR NP := if t.kind = 2 then .ok (np t, nx l t) else .error (false, t.pos)
def needS (s : List UInt8) (l : List UInt8) (t : Tok) : PR Unit := if t.txt = s then .ok ((), nx l t) else .error (false, t.pos)
def numS (l : List UInt8) (t : Tok) : PR (Nat × Nat) := if t.kind = 3 then .ok ((numL t.txt 0, t.pos), nx l t) else .error (false, t.pos)

def valueS (l : List UInt8) (t : Tok) : PR Vl :=
  if t.txt = [108, 101, 110] then (if (nx l t).kind = 2 then .ok (⟨2, np (nx l t), (0, 0)⟩, nx l (nx l t)) else .error (false, (nx l t).pos))
  else if t.txt = [102, 114, 101, 113] then .ok (⟨3, ([], 0), (0, 0)⟩, nx l t)
  else if t.kind = 2 then .ok (⟨1, np t, (0, 0)⟩, nx l t)
  else if t.kind = 3 then .ok (⟨0, ([], 0), (numL t.txt 0, t.pos)⟩, nx l t)
  else .error (false, t.pos)

def Out {α : Type} (w : World) (b : Nat) (l : List UInt8) (bl lo : Nat) (X Y : Value) (enc : α → Value) (r : PR α) (e : Ending) (w' : World) : Prop :=
  match r with
  | .ok (x, t') => e = .returned (enc x) ∧ RB w w' b l t' bl lo X Y
  | .error (d, p) => Flt w b (if d then Y else X) p e w'

set_option maxHeartbeats 800000 in
theorem value_any {w : World} {b : Nat} {l : List UInt8} {t : Tok} {bl lo : Nat} {X Y : Value} (h : Rw w b l t bl lo X Y) :
    Calls Tryd.prog 65 #[ptr b] w fun e w' => Out w b l bl lo X Y vlV (valueS l t) e w' := by
  have hgt := h.gt
  obtain ⟨c0, c1, c2, c3, c4, c5⟩ := h.rd.cells
  unfold valueS
  by_cases h1 : t.txt = [108, 101, 110]
  · rw [if_pos h1]
    by_cases h2 : (nx l t).kind = 2
    · rw [if_pos h2]
      go_enter Tryd.func65, Tryd.ntmps65
      go_wp2_with (first | (go_at_call_of 56 (Value.string { data := #[108, 101, 110] }); refine (take_yes [108, 101, 110] (h.alloc _) h1).mono ?_; rintro e w1 ⟨rfl, hr⟩; obtain ⟨pc, pf⟩ := hr.k.loc (w.heap.size) (by first | omega | (simp; done) | (simp; omega)) (by omega); have pb := hr.k.block (w.heap.size) (by first | omega | (simp; done) | (simp; omega)) (by omega); have pz : w.heap.size < w1.heap.size := Nat.lt_of_lt_of_le (by first | omega | (simp; done) | (simp; omega)) hr.k.size) | (go_at_call 48; refine (name_yes hr.r h2).mono ?_; rintro e w2 ⟨rfl, hr2⟩; obtain ⟨qc, qf⟩ := hr2.k.loc (w.heap.size) (by first | omega | (simp; done) | (simp; omega)) (by omega); have qb := hr2.k.block (w.heap.size) (by first | omega | (simp; done) | (simp; omega)) (by omega); have qz : w.heap.size < w2.heap.size := Nat.lt_of_lt_of_le (by first | omega | (simp; done) | (simp; omega)) hr2.k.size))
      have H0 := (((RB.refl h).alloc _).trans hr).trans hr2
      refine bodyPost_ret (v := vlV ⟨2, np (nx l t), (0, 0)⟩) (by simp [results, Tryd.results65, go_sem, qc, pc, np]) rfl ⟨rfl, ?_⟩
      repeat (first | refine RB.set ?_ (by first | exact Nat.le_refl _ | omega | (simp; omega)) _ _ | refine RB.alloc ?_ _ | refine RB.drew ?_ | exact H0)
    · rw [if_neg h2]
      go_enter Tryd.func65, Tryd.ntmps65
      go_wp2_with (first | (go_at_call_of 56 (Value.string { data := #[108, 101, 110] }); refine (take_yes [108, 101, 110] (h.alloc _) h1).mono ?_; rintro e w1 ⟨rfl, hr⟩; obtain ⟨pc, pf⟩ := hr.k.loc (w.heap.size) (by first | omega | (simp; done) | (simp; omega)) (by omega); have pb := hr.k.block (w.heap.size) (by first | omega | (simp; done) | (simp; omega)) (by omega); have pz : w.heap.size < w1.heap.size := Nat.lt_of_lt_of_le (by first | omega | (simp; done) | (simp; omega)) hr.k.size) | (go_at_call 48; refine (name_no hr.r h2).mono ?_; rintro e we h3; obtain ⟨f, rfl, h2⟩ := h3.from (((RB.refl h).alloc _).trans hr).k; clear h3))
      exact ⟨rfl, f, rfl, h2⟩
  · rw [if_neg h1]
    by_cases h2 : t.txt = [102, 114, 101, 113]
    · rw [if_pos h2]
      go_enter Tryd.func65, Tryd.ntmps65
      go_wp2_with (first | (go_at_call_of 56 (Value.string { data := #[108, 101, 110] }); refine (take_no [108, 101, 110] (h.alloc _) h1).mono ?_; rintro e w' ⟨rfl, rfl⟩) | (go_at_call_of 56 (Value.string { data := #[102, 114, 101, 113] }); refine (take_yes [102, 114, 101, 113] (h.alloc _) h2).mono ?_; rintro e w1 ⟨rfl, hr⟩; obtain ⟨pc, pf⟩ := hr.k.loc (w.heap.size) (by first | omega | (simp; done) | (simp; omega)) (by omega); have pb := hr.k.block (w.heap.size) (by first | omega | (simp; done) | (simp; omega)) (by omega); have pz : w.heap.size < w1.heap.size := Nat.lt_of_lt_of_le (by first | omega | (simp; done) | (simp; omega)) hr.k.size))
      have H0 := ((RB.refl h).alloc _).trans hr
      refine bodyPost_ret (v := vlV ⟨3, ([], 0), (0, 0)⟩) (by simp [results, Tryd.results65, go_sem, pc]) rfl ⟨rfl, ?_⟩
      repeat (first | refine RB.set ?_ (by first | exact Nat.le_refl _ | omega | (simp; omega)) _ _ | refine RB.alloc ?_ _ | refine RB.drew ?_ | exact H0)
    · rw [if_neg h2]
      by_cases h3 : t.kind = 2
      · rw [if_pos h3]
        go_enter Tryd.func65, Tryd.ntmps65
        go_wp2_with (first | (go_at_call_of 56 (Value.string { data := #[108, 101, 110] }); refine (take_no [108, 101, 110] (h.alloc _) h1).mono ?_; rintro e w' ⟨rfl, rfl⟩) | (go_at_call_of 56 (Value.string { data := #[102, 114, 101, 113] }); refine (take_no [102, 114, 101, 113] (h.alloc _) h2).mono ?_; rintro e w' ⟨rfl, rfl⟩) | (go_at_call 48; refine (name_yes (h.alloc _) h3).mono ?_; rintro e w2 ⟨rfl, hr⟩; obtain ⟨pc, pf⟩ := hr.k.loc (w.heap.size) (by first | omega | (simp; done) | (simp; omega)) (by omega); have pb := hr.k.block (w.heap.size) (by first | omega | (simp; done) | (simp; omega)) (by omega); have pz : w.heap.size < w2.heap.size := Nat.lt_of_lt_of_le (by first | omega | (simp; done) | (simp; omega)) hr.k.size))
        have H0 := ((RB.refl h).alloc _).trans hr
        refine bodyPost_ret (v := vlV ⟨1, np t, (0, 0)⟩) (by simp [results, Tryd.results65, go_sem, pc, np]) rfl ⟨rfl, ?_⟩
        repeat (first | refine RB.set ?_ (by first | exact Nat.le_refl _ | omega | (simp; omega)) _ _ | refine RB.alloc ?_ _ | refine RB.drew ?_ | exact H0)
      · rw [if_neg h3]
        have hq : ((t.kind : Int) == 2) = false := by rw [beq_eq_false_iff_ne]; omega
        by_cases h4 : t.kind = 3
        · rw [if_pos h4]
          go_enter Tryd.func65, Tryd.ntmps65
          go_wp2_with (first | (go_at_call_of 56 (Value.string { data := #[108, 101, 110] }); refine (take_no [108, 101, 110] (h.alloc _) h1).mono ?_; rintro e w' ⟨rfl, rfl⟩) | (go_at_call_of 56 (Value.string { data := #[102, 114, 101, 113] }); refine (take_no [102, 114, 101, 113] (h.alloc _) h2).mono ?_; rintro e w' ⟨rfl, rfl⟩) | (go_at_call 49; refine (number_yes (h.alloc _) h4).mono ?_; rintro e w2 ⟨rfl, hr⟩; obtain ⟨pc, pf⟩ := hr.k.loc (w.heap.size) (by first | omega | (simp; done) | (simp; omega)) (by omega); have pb := hr.k.block (w.heap.size) (by first | omega | (simp; done) | (simp; omega)) (by omega); have pz : w.heap.size < w2.heap.size := Nat.lt_of_lt_of_le (by first | omega | (simp; done) | (simp; omega)) hr.k.size))
          have H0 := ((RB.refl h).alloc _).trans hr
          refine bodyPost_ret (v := vlV ⟨0, ([], 0), (numL t.txt 0, t.pos)⟩) (by simp [results, Tryd.results65, go_sem, pc]) rfl ⟨rfl, ?_⟩
          repeat (first | refine RB.set ?_ (by first | exact Nat.le_refl _ | omega | (simp; omega)) _ _ | refine RB.alloc ?_ _ | refine RB.drew ?_ | exact H0)
        · rw [if_neg h4]
          go_enter Tryd.func65, Tryd.ntmps65
          go_wp2_with (first | (go_at_call_of 56 (Value.string { data := #[108, 101, 110] }); refine (take_no [108, 101, 110] (h.alloc _) h1).mono ?_; rintro e w' ⟨rfl, rfl⟩) | (go_at_call_of 56 (Value.string { data := #[102, 114, 101, 113] }); refine (take_no [102, 114, 101, 113] (h.alloc _) h2).mono ?_; rintro e w' ⟨rfl, rfl⟩) | (go_at_call 49; refine (number_no (h.alloc _) h4).mono ?_; rintro e we h3; obtain ⟨f, rfl, h2⟩ := h3.from ((But.refl b w).alloc _); clear h3))
          exact ⟨rfl, f, rfl, h2⟩
end Go.Proofs.YtippenbbibfmdabDoor
