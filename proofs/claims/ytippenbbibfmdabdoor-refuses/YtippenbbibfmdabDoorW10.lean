import Derived.Test.YtippenbbibfmdabDoorW9
import Derived.Maps.AppendAt
namespace Go.Proofs.YtippenbbibfmdabDoor
open Go.RowKit

def BT : Nat → Type
  | 0 => Unit
  | d + 1 => List (St × BT d × BT d)
def BTnil : (d : Nat) → BT d
  | 0 => ()
  | _ + 1 => []

def RelRows {β : Type} (P : Value → β → Prop) : List (St × Value × Value) → List (St × β × β) → Prop
  | [], [] => True
  | r :: rs, x :: xs => r.1 = x.1 ∧ P r.2.1 x.2.1 ∧ P r.2.2 x.2.2 ∧ RelRows P rs xs
  | _, _ => False

def flatR (rows : List (St × Value × Value)) : List Value := rows.flatMap fun r => (stA r.1 r.2.1 r.2.2).toList

def SlR : (d : Nat) → World → (Nat → Prop) → Value → BT d → Prop
  | 0, _, _, v, _ => v = nilV
  | d + 1, w, N, v, xs => ∃ rows, RelRows (SlR d w N) rows xs ∧ w.ownsRow 0 136 25 v rows.length (flatR rows) ∧ ∀ g, v.ownBlock = some g → N g

theorem RelRows.mono {β : Type} {P Q : Value → β → Prop} (h : ∀ v x, P v x → Q v x) : ∀ (rs : List (St × Value × Value)) (xs : List (St × β × β)), RelRows P rs xs → RelRows Q rs xs
  | [], [], _ => trivial
  | _ :: rs, _ :: xs, ⟨a, b, c, d⟩ => ⟨a, h _ _ b, h _ _ c, RelRows.mono h rs xs d⟩
theorem RelRows.snoc {β : Type} {P : Value → β → Prop} (r : St × Value × Value) (x : St × β × β) (h1 : r.1 = x.1) (h2 : P r.2.1 x.2.1) (h3 : P r.2.2 x.2.2) :
    ∀ (rs : List (St × Value × Value)) (xs : List (St × β × β)), RelRows P rs xs → RelRows P (rs ++ [r]) (xs ++ [x])
  | [], [], _ => ⟨h1, h2, h3, trivial⟩
  | _ :: rs, _ :: xs, ⟨a, b, c, d⟩ => ⟨a, b, c, RelRows.snoc r x h1 h2 h3 rs xs d⟩
theorem RelRows.len {β : Type} {P : Value → β → Prop} : ∀ (rs : List (St × Value × Value)) (xs : List (St × β × β)), RelRows P rs xs → rs.length = xs.length
  | [], [], _ => rfl
  | _ :: rs, _ :: xs, ⟨_, _, _, d⟩ => by simp [RelRows.len rs xs d]

theorem SlR.mono : ∀ (d : Nat) {w : World} {N N' : Nat → Prop} (_ : ∀ g, N g → N' g) (v : Value) (x : BT d), SlR d w N v x → SlR d w N' v x
  | 0, _, _, _, _, _, _, h => h
  | d + 1, _, _, _, hN, _, _, ⟨rows, h1, h2, h3⟩ => ⟨rows, RelRows.mono (fun v x h => SlR.mono d hN v x h) _ _ h1, h2, fun g hg => hN g (h3 g hg)⟩

theorem ownsRow_move {w w' : World} {e : TypeId} {size n : Nat} {v : Value} {xs : List Value} (h : w.ownsRow 0 e size v n xs) (hb : ∀ g, v.ownBlock = some g → g < w.heap.size → w'.heap[g]? = w.heap[g]?) : w'.ownsRow 0 e size v n xs := by
  refine ⟨h.1, ?_⟩
  rcases h.2 with h0 | ⟨g, cap, cur, hv, hg, hh, r⟩
  · exact Or.inl h0
  · exact Or.inr ⟨g, cap, cur, hv, hg, by rw [hb g (by rw [hv]; rfl) (Array.getElem?_eq_some_iff.1 hh).1]; exact hh, r⟩

/-- A tree lies where it lay, where the blocks that it may go through are as they were. -/
theorem SlR.move : ∀ (d : Nat) {w w' : World} {N : Nat → Prop} (_ : ∀ g, N g → g < w.heap.size → w'.heap[g]? = w.heap[g]?) (v : Value) (x : BT d), SlR d w N v x → SlR d w' N v x
  | 0, _, _, _, _, _, _, h => h
  | d + 1, _, _, _, hb, _, _, ⟨rows, h1, h2, h3⟩ => ⟨rows, RelRows.mono (fun v x h => SlR.move d hb v x h) _ _ h1, ownsRow_move h2 (fun g hg hl => hb g (h3 g hg) hl), h3⟩

/-- The blocks that a tree goes through are there. -/
theorem SlR.there : ∀ (d : Nat) {w : World} {N : Nat → Prop} (v : Value) (x : BT d), SlR d w N v x → SlR d w (fun g => N g ∧ g < w.heap.size) v x
  | 0, _, _, _, _, h => h
  | d + 1, _, _, _, _, ⟨rows, h1, h2, h3⟩ => ⟨rows, RelRows.mono (fun v x h => SlR.there d v x h) _ _ h1, h2, fun g hg => ⟨h3 g hg, (h2.lt g hg).2⟩⟩

theorem SlR.nil : ∀ (d : Nat) (w : World) (N : Nat → Prop), SlR d w N nilV (BTnil d)
  | 0, _, _ => rfl
  | _ + 1, w, _ => ⟨[], trivial, World.ownsRow_nil w 0 _ 25, fun g hg => by simp [Value.ownBlock] at hg⟩

theorem SlR.form : ∀ (d : Nat) {w : World} {N : Nat → Prop} (v : Value) (x : BT d), SlR d w N v x → ∃ a n c, v = .slice a n c
  | 0, _, _, _, _, h => ⟨none, 0, 0, h⟩
  | _ + 1, _, _, _, _, ⟨_, _, h2, _⟩ => by
    rcases h2.2 with ⟨h, _⟩ | ⟨g, cap, cur, h, _⟩
    · exact ⟨_, _, _, h⟩
    · exact ⟨_, _, _, h⟩

/-- Behind a call that left all blocks but the reader's. -/
theorem SlR.keep {d : Nat} {w w' : World} {b lo : Nat} (hb : But b w w') (hlo : b < lo) {v : Value} {x : BT d} (h : SlR d w (fun g => lo ≤ g) v x) : SlR d w' (fun g => lo ≤ g) v x :=
  SlR.move d (fun g hg hl => hb.block g hl (by omega)) v x h
theorem SlR.set {d : Nat} {w : World} {lo n o : Nat} {u : Value} (hn : n < lo) {v : Value} {x : BT d} (h : SlR d w (fun g => lo ≤ g) v x) : SlR d (w.setCell ⟨n, o, none⟩ u) (fun g => lo ≤ g) v x :=
  SlR.move d (fun g hg _ => Below.heap_setCell _ _ _ _ (by show g ≠ n; omega)) v x h
theorem SlR.row {d : Nat} {w : World} {lo n : Nat} {cs : Array Value} (hn : n < lo) {v : Value} {x : BT d} (h : SlR d w (fun g => lo ≤ g) v x) : SlR d (w.setRow n cs) (fun g => lo ≤ g) v x :=
  SlR.move d (fun g hg _ => setRow_other _ _ _ _ (by omega)) v x h
theorem SlR.al {d : Nat} {w : World} {lo : Nat} {ob : Obj} {v : Value} {x : BT d} (h : SlR d w (fun g => lo ≤ g) v x) : SlR d (w.alloc ob) (fun g => lo ≤ g) v x :=
  SlR.move d (fun _g _ hl => Below.heap_alloc _ _ _ hl) v x h
theorem SlR.up {d : Nat} {w : World} {lo lo' : Nat} (hl : lo' ≤ lo) {v : Value} {x : BT d} (h : SlR d w (fun g => lo ≤ g) v x) : SlR d w (fun g => lo' ≤ g) v x :=
  SlR.mono d (fun g (hg : lo ≤ g) => Nat.le_trans hl hg) v x h

def ifS {β : Type} (blk : Tok → PR β) (z : β) (l : List UInt8) (t : Tok) : PR (St × β × β) :=
  bindR (condS l (nx l t)) fun c t1 => bindR (blk t1) fun x t2 =>
    if t2.txt = [101, 108, 115, 101] then bindR (blk (nx l t2)) fun y t3 => .ok (({ stW t.txt with cond := c, other := true }, x, y), t3)
    else .ok (({ stW t.txt with cond := c }, x, z), t2)
def repS {β : Type} (blk : Nat → Tok → PR β) (z : β) (l : List UInt8) (lo : Nat) (t : Tok) : PR (St × β × β) :=
  if lo = 2 then .error (true, t.pos)
  else bindR (numS l (nx l t)) fun n t1 => bindR (needS [119, 104, 105, 108, 101] l t1) fun _ t2 => bindR (condS l t2) fun c t3 => bindR (blk (lo + 1) t3) fun x t4 =>
    .ok (({ stW t.txt with times := n, cond := c }, x, z), t4)
def stmtS {β : Type} (blk : Nat → Tok → PR β) (z : β) (l : List UInt8) (lo : Nat) (t : Tok) : PR (St × β × β) :=
  if t.txt = [105, 102] then ifS (blk lo) z l t
  else if t.txt = [114, 101, 112, 101, 97, 116] then repS blk z l lo t
  else bindR (plainS l t) fun s t1 => .ok ((s, z, z), t1)
def stmtsS {α : Type} (stm : Tok → PR α) (l : List UInt8) : Nat → Tok → PR (List α)
  | 0, t => .error (false, t.pos)
  | f + 1, t => if t.txt = [125] then .ok ([], nx l t) else bindR (stm t) fun x t1 => bindR (stmtsS stm l f t1) fun xs t2 => .ok (x :: xs, t2)
def blockS (l : List UInt8) : (d : Nat) → Nat → Tok → PR (BT d)
  | 0, _, t => if t.txt = [123] then .error (true, t.pos) else .error (false, t.pos)
  | d + 1, lo, t => if t.txt = [123] then stmtsS (stmtS (blockS l d) (BTnil d) l lo) l (l.length + 1) (nx l t) else .error (false, t.pos)

def OutB {d : Nat} (w : World) (b : Nat) (l : List UInt8) (bl lo : Nat) (X Y : Value) (r : PR (BT d)) (e : Ending) (w' : World) : Prop :=
  match r with
  | .ok (x, t') => ∃ v, e = .returned v ∧ RB w w' b l t' bl lo X Y ∧ SlR d w' (fun g => w.heap.size ≤ g) v x
  | .error (q, p) => Flt w b (if q then Y else X) p e w'
def OutS {d : Nat} (w : World) (b : Nat) (l : List UInt8) (bl lo : Nat) (X Y : Value) (r : PR (St × BT d × BT d)) (e : Ending) (w' : World) : Prop :=
  match r with
  | .ok (x, t') => ∃ v1 v2, e = .returned (.agg (stA x.1 v1 v2)) ∧ RB w w' b l t' bl lo X Y ∧ SlR d w' (fun g => w.heap.size ≤ g) v1 x.2.1 ∧ SlR d w' (fun g => w.heap.size ≤ g) v2 x.2.2
  | .error (q, p) => Flt w b (if q then Y else X) p e w'

def BlkC (d : Nat) : Prop := ∀ (w : World) (b : Nat) (l : List UInt8) (t : Tok) (bl lo : Nat) (X Y : Value), Rw w b l t bl lo X Y → bl + d = 8 → lo ≤ 2 →
  Calls Tryd.prog 52 #[ptr b] w fun e w' => OutB w b l bl lo X Y (blockS l d lo t) e w'

theorem blk_ok {d : Nat} (hB : BlkC d) {w : World} {b : Nat} {l : List UInt8} {t : Tok} {bl lo : Nat} {X Y : Value} {x : BT d} {t' : Tok} (h : Rw w b l t bl lo X Y) (h8 : bl + d = 8) (hlo : lo ≤ 2) (hv : blockS l d lo t = .ok (x, t')) :
    Calls Tryd.prog 52 #[ptr b] w fun e w' => ∃ v, e = .returned v ∧ RB w w' b l t' bl lo X Y ∧ SlR d w' (fun g => w.heap.size ≤ g) v x := by
  refine (hB w b l t bl lo X Y h h8 hlo).mono fun e w' H => ?_
  rw [hv] at H; exact H
theorem blk_er {d : Nat} (hB : BlkC d) {w : World} {b : Nat} {l : List UInt8} {t : Tok} {bl lo : Nat} {X Y : Value} {q : Bool} {p : Nat} (h : Rw w b l t bl lo X Y) (h8 : bl + d = 8) (hlo : lo ≤ 2) (hv : blockS l d lo t = .error (q, p)) :
    Calls Tryd.prog 52 #[ptr b] w fun e w' => Flt w b (if q then Y else X) p e w' := by
  refine (hB w b l t bl lo X Y h h8 hlo).mono fun e w' H => ?_
  rw [hv] at H; exact H
end Go.Proofs.YtippenbbibfmdabDoor
