import Derived.Test.YtippenbbibfmdabDoorW34
import Derived.Test.YtippenbbibfmdabDoorW37c
namespace Go.Proofs.YtippenbbibfmdabDoor
open Go.RowKit

/-- The faults that are noted are sentinels of the checker's. -/
def Rg (s : Ck) : Prop := ∀ e, s.first = some e → 1 < e.1 ∧ e.1 < 9
theorem Rg.fault {s : Ck} (h : Rg s) (i p : Nat) (h1 : 1 < i) (h2 : i < 9) : Rg (s.fault i p) := by
  unfold Ck.fault
  cases hf : s.first with
  | none => intro e he; simp at he; subst he; exact ⟨h1, h2⟩
  | some q => exact h
theorem Rg.ite {c : Prop} [Decidable c] {a b : Ck} (ha : Rg a) (hb : Rg b) : Rg (if c then a else b) := by by_cases h : c <;> simp [h, ha, hb]
theorem Rg.use {s : Ck} (h : Rg s) (n : NP) (k : Nat) : Rg (s.use n k) := by
  unfold Ck.use
  cases look n.1 s.names with
  | none => exact h.fault _ _ (by decide) (by decide)
  | some d => exact Rg.ite h (h.fault _ _ (by decide) (by decide))
theorem Rg.bound {s : Ck} (h : Rg s) (v p m : Nat) : Rg (s.bound v p m) := Rg.ite (h.fault _ _ (by decide) (by decide)) h
theorem Rg.value {s : Ck} (h : Rg s) (v : Vl) : Rg (s.value v) := Rg.ite (h.use _ _) (Rg.ite (h.use _ _) h)
theorem Rg.cond {s : Ck} (h : Rg s) (x : Cd) : Rg (s.cond x) := Rg.ite ((h.value _).value _) (h.use _ _)
theorem Rg.stmt {β : Type} {blk : Ck → β → Ck} (hb : ∀ s x, Rg s → Rg (blk s x)) {s : Ck} (h : Rg s) (r : St × β × β) : Rg (s.stmt blk r) :=
  Rg.ite (h.use _ _) (Rg.ite ((h.use _ _).use _ _) (Rg.ite (h.use _ _) (Rg.ite (hb _ _ (hb _ _ (h.cond _))) (Rg.ite (hb _ _ ((h.bound _ _ _).cond _)) h))))
theorem Rg.fold {α : Type} {f : Ck → α → Ck} (hf : ∀ s x, Rg s → Rg (f s x)) : ∀ (l : List α) (s : Ck), Rg s → Rg (l.foldl f s)
  | [], _, h => h
  | x :: l, s, h => Rg.fold hf l _ (hf s x h)
theorem Rg.block : ∀ (d : Nat) (s : Ck) (x : BT d), Rg s → Rg (s.block d x)
  | 0, _, _, h => h
  | d + 1, s, x, h => Rg.fold (fun _s r h => Rg.stmt (fun s x h => Rg.block d s x h) h r) x s h
theorem Rg.declare {s : Ck} (h : Rg s) (n : NP) (k : Nat) : Rg (s.declare n k) := by
  unfold Ck.declare
  cases look n.1 s.names with
  | some d => exact h.fault _ _ (by decide) (by decide)
  | none => exact Rg.ite (h.fault _ _ (by decide) (by decide)) h
theorem Rg.decl {s : Ck} (h : Rg s) (d : Dc) : Rg (s.decl d) := by
  unfold Ck.decl
  refine Rg.ite ((h.declare _ _).bound _ _ _) (Rg.ite ((h.declare _ _).bound _ _ _) (Rg.ite ?_ h))
  refine Rg.bound ?_ _ _ _
  first
    | exact Rg.ite (Rg.fault h _ _ (by decide) (by decide)) h
    | exact Rg.ite (Rg.fault (s := { s with freqs := s.freqs + 1 }) h _ _ (by decide) (by decide)) h
theorem Rg.rule {s : Ck} (h : Rg s) (r : Nat × NP × BT 8) : Rg (s.rule r) := by
  unfold Ck.rule
  refine Rg.block 8 _ _ ?_
  have h1 : Rg (s.rule1 r.1 r.2.1) := Rg.ite (Rg.fault (s := s.count r.2.1) h _ _ (by decide) (by decide)) h
  exact Rg.ite h1 (h1.use _ _)
theorem rg_check (ds : List Dc) (rs : List (Nat × NP × BT 8)) : Rg (checkS ds rs) := by
  have h0 : Rg ck0 := by intro e he; simp [ck0] at he
  have h1 := Rg.fold (f := Ck.rule) (fun s r h => h.rule r) rs _ (Rg.fold (f := Ck.decl) (fun s d h => h.decl d) ds _ h0)
  exact Rg.ite (h1.fault _ _ (by decide) (by decide)) h1

theorem readS_err {l : List UInt8} {i p : Nat} (h : readS l = .error (i, p)) : i < 11 ∧ i ≠ 9 := by
  unfold readS at h
  by_cases hl : l.length > 700
  · rw [if_pos hl] at h
    simp only [Except.error.injEq, Prod.mk.injEq] at h
    obtain ⟨rfl, rfl⟩ := h
    decide
  · rw [if_neg hl] at h
    cases hp : policyS l (tokAt l 0) with
    | error q =>
      obtain ⟨q, p'⟩ := q
      rw [hp] at h
      simp only [Except.error.injEq, Prod.mk.injEq] at h
      obtain ⟨rfl, rfl⟩ := h
      cases q <;> decide
    | ok x =>
      obtain ⟨x, t⟩ := x
      rw [hp] at h
      cases hc : (checkS x.1 x.2).first with
      | none => simp [hc] at h
      | some e =>
        simp only [hc, Except.error.injEq] at h
        subst h
        have := rg_check x.1 x.2 _ hc
        simp at this
        omega

/-- The ten sentinels in memory: a pointer each, no two the same. -/
structure Sent (w : World) (A : Nat → Addr) : Prop where
  g : ∀ i, i < 11 → i ≠ 9 → w.cell? ⟨i, 0, none⟩ = some (.iface 143 (.pointer (some (A i))))
  b : ∀ i, i < 11 → i ≠ 9 → ∃ c t, w.heap[(A i).block]? = some (.cells c t (0, 0))
  n : ∀ i j, i < 11 → i ≠ 9 → j < 11 → j ≠ 9 → A i = A j → i = j
  e : w.cell? ⟨9, 0, none⟩ = some (.iface 105 (.agg #[.pointer (some ⟨12, 35, none⟩)]))
theorem Sent.move {w w' : World} {A : Nat → Addr} (h : Sent w A) (hb : Below w.heap.size w w') : Sent w' A := by
  refine ⟨fun i h1 h2 => (hb.cell (p := ⟨i, 0, none⟩) (cell_lt (h.g i h1 h2))).trans (h.g i h1 h2), fun i h1 h2 => ?_, h.n, (hb.cell (p := ⟨9, 0, none⟩) (cell_lt h.e)).trans h.e⟩
  obtain ⟨c, t, hc⟩ := h.b i h1 h2
  exact ⟨c, t, (hb.block _ (Array.getElem?_eq_some_iff.1 hc).1).trans hc⟩

theorem is_idx {w : World} {A : Nat → Addr} (S : Sent w A) (f i j : Nat) (i1 : i < 11) (i2 : i ≠ 9) (j1 : j < 11) (j2 : j ≠ 9) (hf : w.cell? ⟨f, 0, none⟩ = some (.iface 143 (.pointer (some (A i))))) :
    Calls Tryd.prog 12 #[.iface 42 (.pointer (some ⟨f, 0, none⟩)), .iface 143 (.pointer (some (A j)))] w fun e w' => e = .returned (.bool (decide (i = j))) ∧ w' = w := by
  by_cases h : i = j
  · subst h
    simp only [decide_true]
    exact is_same f _ w hf
  · simp only [h, decide_false]
    obtain ⟨ca, ta, ha⟩ := S.b i i1 i2
    obtain ⟨cb, tb, hb⟩ := S.b j j1 j2
    exact is_other f _ _ ca cb ta tb w hf (fun e => h (S.n i j i1 i2 j1 j2 e)) ha hb

/-- The number of a sentinel. -/
def enoS (i : Nat) : Nat := if i = 0 then 1 else if i = 1 then 3 else if i = 2 then 4 else if i = 3 then 5 else if i = 4 then 6 else if i = 5 then 7 else if i = 6 then 8 else if i = 7 then 9 else if i = 8 then 10 else 2
end Go.Proofs.YtippenbbibfmdabDoor
