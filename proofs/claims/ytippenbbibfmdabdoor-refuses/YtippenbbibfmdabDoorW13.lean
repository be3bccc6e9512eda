import Derived.Test.YtippenbbibfmdabDoorW12
namespace Go.Proofs.YtippenbbibfmdabDoor
open Go.RowKit

theorem bindR_ok {α β : Type} {r : PR α} {f : α → Tok → PR β} {y : β} {t' : Tok} (h : bindR r f = .ok (y, t')) : ∃ x t1, r = .ok (x, t1) ∧ f x t1 = .ok (y, t') := by
  unfold bindR at h
  split at h
  · cases h
  · exact ⟨_, _, rfl, h⟩

theorem nx_mono (l : List UInt8) (t : Tok) : t.pos ≤ (nx l t).pos := Nat.le_trans (Nat.le_add_right _ _) (nx_pos l t)
theorem nx_one (l : List UInt8) (t : Tok) (s : List UInt8) (h : t.txt = s) (hs : 1 ≤ s.length) : t.pos + 1 ≤ (nx l t).pos := by
  have := nx_pos l t; rw [h] at this; omega

theorem name_m {l : List UInt8} {t t' : Tok} {x : NP} (h : nameS l t = .ok (x, t')) : t.pos ≤ t'.pos := by
  unfold nameS at h; split at h
  · cases h; exact nx_mono l t
  · cases h
theorem num_m {l : List UInt8} {t t' : Tok} {x : Nat × Nat} (h : numS l t = .ok (x, t')) : t.pos ≤ t'.pos := by
  unfold numS at h; split at h
  · cases h; exact nx_mono l t
  · cases h
theorem need_m {s l : List UInt8} {t t' : Tok} {x : Unit} (h : needS s l t = .ok (x, t')) : t.pos ≤ t'.pos := by
  unfold needS at h; split at h
  · cases h; exact nx_mono l t
  · cases h
theorem semi_m {l : List UInt8} {t t' : Tok} {s x : St} (h : semi l s t = .ok (x, t')) : t.pos ≤ t'.pos := by
  unfold semi at h; split at h
  · cases h; exact nx_mono l t
  · cases h
theorem tail_m (l : List UInt8) (t : Tok) : t.pos ≤ (tailS l t).2.pos := by
  unfold tailS; split
  · exact nx_mono l t
  · exact Nat.le_refl _
theorem value_m {l : List UInt8} {t t' : Tok} {x : Vl} (h : valueS l t = .ok (x, t')) : t.pos ≤ t'.pos := by
  have a := nx_mono l t
  have c := nx_mono l (nx l t)
  unfold valueS at h
  split at h
  · split at h
    · cases h; omega
    · cases h
  · split at h
    · cases h; exact a
    · split at h
      · cases h; exact a
      · split at h
        · cases h; exact a
        · cases h
theorem nots_m (l : List UInt8) : ∀ (f : Nat) (n : Bool) (t : Tok), t.pos ≤ (notsS l f n t).2.pos
  | 0, _, _ => Nat.le_refl _
  | f + 1, n, t => by
    unfold notsS; split
    · exact Nat.le_trans (nx_mono l t) (nots_m l f _ _)
    · exact Nat.le_refl _
theorem cond_m {l : List UInt8} {t t' : Tok} {x : Cd} (h : condS l t = .ok (x, t')) : t.pos ≤ t'.pos := by
  unfold condS at h
  have hn := nots_m l (l.length + 1) false t
  generalize notsS l (l.length + 1) false t = p at *
  refine Nat.le_trans hn ?_
  unfold condT at h
  split at h
  · split at h
    · cases h; exact Nat.le_trans (nx_mono l _) (nx_mono l _)
    · cases h
  · split at h
    · cases h
    · rename_i hv
      have h1 := value_m hv
      split at h
      · split at h
        · cases h
        · rename_i hv2
          have h2 := value_m hv2
          have h3 := nx_mono l
          cases h
          exact Nat.le_trans h1 (Nat.le_trans (nx_mono l _) h2)
      · cases h
theorem plain_m {l : List UInt8} {t t' : Tok} {x : St} (h : plainS l t = .ok (x, t')) : t.pos + 1 ≤ t'.pos := by
  unfold plainS at h
  split at h
  · rename_i hw
    have h0 := nx_one l t _ hw (by decide)
    obtain ⟨n, t1, h1, h2⟩ := bindR_ok h
    have := name_m h1; have := semi_m h2; have := tail_m l t1; omega
  · split at h
    · rename_i hw
      have h0 := nx_one l t _ hw (by decide)
      obtain ⟨n, t1, h1, h2⟩ := bindR_ok h
      obtain ⟨m, t2, h3, h4⟩ := bindR_ok h2
      have := name_m h1; have := name_m h3; have := semi_m h4; have := tail_m l t2; omega
    · split at h
      · rename_i hw
        have h0 : t.pos + 1 ≤ (nx l t).pos := by
          simp only [oneB, Bool.or_eq_true, beq_iff_eq] at hw
          rcases hw with ((e | e) | e) | e <;> exact nx_one l t _ e (by decide)
        obtain ⟨n, t1, h1, h2⟩ := bindR_ok h
        have := name_m h1; have := semi_m h2; omega
      · split at h
        · rename_i hw
          have h0 : t.pos + 1 ≤ (nx l t).pos := by
            simp only [zeroB, Bool.or_eq_true, beq_iff_eq] at hw
            rcases hw with e | e <;> exact nx_one l t _ e (by decide)
          have := semi_m h; omega
        · cases h
theorem stmt_m {β : Type} {blk : Nat → Tok → PR β} {z : β} {l : List UInt8} {lo : Nat} (hb : ∀ lo t x t', blk lo t = .ok (x, t') → t.pos ≤ t'.pos) {t t' : Tok} {x : St × β × β} (h : stmtS blk z l lo t = .ok (x, t')) : t.pos + 1 ≤ t'.pos := by
  unfold stmtS at h
  split at h
  · rename_i hw
    have h0 := nx_one l t _ hw (by decide)
    unfold ifS at h
    obtain ⟨c, t1, h1, h⟩ := bindR_ok h
    obtain ⟨x1, t2, h2, h⟩ := bindR_ok h
    have := cond_m h1; have := hb _ _ _ _ h2
    split at h
    · obtain ⟨y, t3, h3, h⟩ := bindR_ok h
      have := hb _ _ _ _ h3; have := nx_mono l t2
      cases h; omega
    · cases h; omega
  · split at h
    · rename_i hw
      have h0 := nx_one l t _ hw (by decide)
      unfold repS at h
      split at h
      · cases h
      · obtain ⟨n, t1, h1, h⟩ := bindR_ok h
        obtain ⟨_, t2, h2, h⟩ := bindR_ok h
        obtain ⟨c, t3, h3, h⟩ := bindR_ok h
        obtain ⟨y, t4, h4, h⟩ := bindR_ok h
        have := num_m h1; have := need_m h2; have := cond_m h3; have := hb _ _ _ _ h4
        cases h; omega
    · obtain ⟨s, t1, h1, h⟩ := bindR_ok h
      have := plain_m h1
      cases h; omega
theorem stmts_m {α : Type} {stm : Tok → PR α} {l : List UInt8} (hs : ∀ t x t', stm t = .ok (x, t') → t.pos ≤ t'.pos) : ∀ (f : Nat) (t t' : Tok) (xs : List α), stmtsS stm l f t = .ok (xs, t') → t.pos ≤ t'.pos
  | 0, _, _, _, h => by cases h
  | f + 1, t, t', xs, h => by
    unfold stmtsS at h
    split at h
    · cases h; exact nx_mono l t
    · obtain ⟨x, t1, h1, h⟩ := bindR_ok h
      obtain ⟨ys, t2, h2, h⟩ := bindR_ok h
      have := hs _ _ _ h1; have := stmts_m hs f t1 t2 ys h2
      cases h; omega
theorem blockS_yes (l : List UInt8) (d lo : Nat) (t : Tok) (h : t.txt = [123]) : @Eq (PR (List (St × BT d × BT d))) (blockS l (d + 1) lo t) (stmtsS (stmtS (blockS l d) (BTnil d) l lo) l (l.length + 1) (nx l t)) := by
  unfold blockS; exact if_pos h
theorem blockS_no (l : List UInt8) (d lo : Nat) (t : Tok) (h : ¬ t.txt = [123]) : @Eq (PR (List (St × BT d × BT d))) (blockS l (d + 1) lo t) (.error (false, t.pos)) := by
  unfold blockS; exact if_neg h
theorem block_m {l : List UInt8} : ∀ (d lo : Nat) (t : Tok) (x : BT d) (t' : Tok), blockS l d lo t = .ok (x, t') → t.pos ≤ t'.pos
  | 0, _, _, _, _, h => by unfold blockS at h; split at h <;> cases h
  | d + 1, lo, t, x, t', h => by
    by_cases hc : t.txt = [123]
    · have e := (blockS_yes l d lo t hc).symm.trans h
      have := stmts_m (fun t x t' h => by have := stmt_m (fun lo t x t' => block_m d lo t x t') h; omega) _ _ _ _ e
      exact Nat.le_trans (nx_mono l t) this
    · have e := (blockS_no l d lo t hc).symm.trans h
      cases e
end Go.Proofs.YtippenbbibfmdabDoor
