import Derived.Maps.AppendAt
import Derived.Deep.MidRow
import Derived.Deep.RegionLaw
import Derived.RegionDies
import Derived.Defers
import Derived.Recover
import Derived.Test.YtfddoieakfpagabGreatDoorGA
namespace Go.Proofs.YtfddoieakfpagabGreatDoor
set_option maxHeartbeats 4000000
set_option maxRecDepth 20000
open Go.RowKit
def BT : Nat -> Type
 | 0 => Unit
 | d + 1 => List (St × BT d × BT d)
def BTnil : (d : Nat) -> BT d
 | 0 => ()
 | _ + 1 => []
def RelRows {β : Type} (P : Value -> β -> Prop) : List (St × Value × Value) -> List (St × β × β) -> Prop
 | [], [] => True
 | r :: rs, x :: xs => r.1 = x.1 /\ P r.2.1 x.2.1 /\ P r.2.2 x.2.2 /\ RelRows P rs xs
 | _, _ => False
def flatR (rows : List (St × Value × Value)) : List Value := rows.flatMap fun r => (stA r.1 r.2.1 r.2.2).toList
def SlR : (d : Nat) -> World -> (Nat -> Prop) -> Value -> BT d -> Prop
 | 0, _, _, v, _ => v = nilV
 | d + 1, w, N, v, xs => ∃ rows, RelRows (SlR d w N) rows xs /\ w.ownsRow 0 226 25 v rows.length (flatR rows) /\ ∀ g, v.ownBlock = some g -> N g
theorem RelRows.mono {β : Type} {P Q : Value -> β -> Prop} (h : ∀ v x, P v x -> Q v x) : ∀ (rs : List (St × Value × Value)) (xs : List (St × β × β)), RelRows P rs xs -> RelRows Q rs xs
 | [], [], _ => trivial
 | _ :: rs, _ :: xs, ⟨a, b, c, d⟩ => ⟨a, h _ _ b, h _ _ c, RelRows.mono h rs xs d⟩
theorem RelRows.snoc {β : Type} {P : Value -> β -> Prop} (r : St × Value × Value) (x : St × β × β) (h1 : r.1 = x.1) (h2 : P r.2.1 x.2.1) (h3 : P r.2.2 x.2.2) :
  ∀ (rs : List (St × Value × Value)) (xs : List (St × β × β)), RelRows P rs xs -> RelRows P (rs ++ [r]) (xs ++ [x])
 | [], [], _ => ⟨h1, h2, h3, trivial⟩
 | _ :: rs, _ :: xs, ⟨a, b, c, d⟩ => ⟨a, b, c, RelRows.snoc r x h1 h2 h3 rs xs d⟩
theorem RelRows.len {β : Type} {P : Value -> β -> Prop} : ∀ (rs : List (St × Value × Value)) (xs : List (St × β × β)), RelRows P rs xs -> rs.length = xs.length
 | [], [], _ => rfl
 | _ :: rs, _ :: xs, ⟨_, _, _, d⟩ => by simp [RelRows.len rs xs d]
theorem SlR.mono : ∀ (d : Nat) {w : World} {N N' : Nat -> Prop} (_ : ∀ g, N g -> N' g) (v : Value) (x : BT d), SlR d w N v x -> SlR d w N' v x
 | 0, _, _, _, _, _, _, h => h
 | d + 1, _, _, _, hN, _, _, ⟨rows, h1, h2, h3⟩ => ⟨rows, RelRows.mono (fun v x h => SlR.mono d hN v x h) _ _ h1, h2, fun g hg => hN g (h3 g hg)⟩
theorem ownsRow_move {w w' : World} {e : TypeId} {size n : Nat} {v : Value} {xs : List Value} (h : w.ownsRow 0 e size v n xs) (hb : ∀ g, v.ownBlock = some g -> g < w.heap.size -> w'.heap[g]? = w.heap[g]?) : w'.ownsRow 0 e size v n xs := by
 refine ⟨h.1, ?_⟩
 rcases h.2 with h0 | ⟨g, cap, cur, hv, hg, hh, r⟩
 ·exact Or.inl h0
 ·exact Or.inr ⟨g, cap, cur, hv, hg, by rw [hb g (by rw [hv]; rfl) (Array.getElem?_eq_some_iff.1 hh).1]; exact hh, r⟩
theorem SlR.move : ∀ (d : Nat) {w w' : World} {N : Nat -> Prop} (_ : ∀ g, N g -> g < w.heap.size -> w'.heap[g]? = w.heap[g]?) (v : Value) (x : BT d), SlR d w N v x -> SlR d w' N v x
 | 0, _, _, _, _, _, _, h => h
 | d + 1, _, _, _, hb, _, _, ⟨rows, h1, h2, h3⟩ => ⟨rows, RelRows.mono (fun v x h => SlR.move d hb v x h) _ _ h1, ownsRow_move h2 (fun g hg hl => hb g (h3 g hg) hl), h3⟩
theorem SlR.there : ∀ (d : Nat) {w : World} {N : Nat -> Prop} (v : Value) (x : BT d), SlR d w N v x -> SlR d w (fun g => N g /\ g < w.heap.size) v x
 | 0, _, _, _, _, h => h
 | d + 1, _, _, _, _, ⟨rows, h1, h2, h3⟩ => ⟨rows, RelRows.mono (fun v x h => SlR.there d v x h) _ _ h1, h2, fun g hg => ⟨h3 g hg, (h2.lt g hg).2⟩⟩
theorem SlR.nil : ∀ (d : Nat) (w : World) (N : Nat -> Prop), SlR d w N nilV (BTnil d)
 | 0, _, _ => rfl
 | _ + 1, w, _ => ⟨[], trivial, World.ownsRow_nil w 0 _ 25, fun g hg => by simp [Value.ownBlock] at hg⟩
theorem SlR.form : ∀ (d : Nat) {w : World} {N : Nat -> Prop} (v : Value) (x : BT d), SlR d w N v x -> ∃ a n c, v = .slice a n c
 | 0, _, _, _, _, h => ⟨none, 0, 0, h⟩
 | _ + 1, _, _, _, _, ⟨_, _, h2, _⟩ => by
  rcases h2.2 with ⟨h, _⟩ | ⟨g, cap, cur, h, _⟩
  ·exact ⟨_, _, _, h⟩
  ·exact ⟨_, _, _, h⟩
theorem SlR.keep {d : Nat} {w w' : World} {b lo : Nat} (hb : But b w w') (hlo : b < lo) {v : Value} {x : BT d} (h : SlR d w (fun g => lo <= g) v x) : SlR d w' (fun g => lo <= g) v x :=
 SlR.move d (fun g hg hl => hb.block g hl (by omega)) v x h
theorem SlR.set {d : Nat} {w : World} {lo n o : Nat} {u : Value} (hn : n < lo) {v : Value} {x : BT d} (h : SlR d w (fun g => lo <= g) v x) : SlR d (w.setCell ⟨n, o, none⟩ u) (fun g => lo <= g) v x :=
 SlR.move d (fun g hg _ => Below.heap_setCell _ _ _ _ (by show g ≠ n; omega)) v x h
theorem SlR.row {d : Nat} {w : World} {lo n : Nat} {cs : Array Value} (hn : n < lo) {v : Value} {x : BT d} (h : SlR d w (fun g => lo <= g) v x) : SlR d (w.setRow n cs) (fun g => lo <= g) v x :=
 SlR.move d (fun g hg _ => setRow_other _ _ _ _ (by omega)) v x h
theorem SlR.al {d : Nat} {w : World} {lo : Nat} {ob : Obj} {v : Value} {x : BT d} (h : SlR d w (fun g => lo <= g) v x) : SlR d (w.alloc ob) (fun g => lo <= g) v x :=
 SlR.move d (fun _g _ hl => Below.heap_alloc _ _ _ hl) v x h
theorem SlR.up {d : Nat} {w : World} {lo lo' : Nat} (hl : lo' <= lo) {v : Value} {x : BT d} (h : SlR d w (fun g => lo <= g) v x) : SlR d w (fun g => lo' <= g) v x :=
 SlR.mono d (fun g (hg : lo <= g) => Nat.le_trans hl hg) v x h
def ifS {β : Type} (blk : Tok -> PR β) (z : β) (l : List UInt8) (t : Tok) : PR (St × β × β) :=
 bindR (condS l (nx l t)) fun c t1 => bindR (blk t1) fun x t2 =>
  if t2.txt = [101, 108, 115, 101] then bindR (blk (nx l t2)) fun y t3 => .ok (({ stW t.txt with cond := c, other := true }, x, y), t3)
  else .ok (({ stW t.txt with cond := c }, x, z), t2)
def repS {β : Type} (blk : Nat -> Tok -> PR β) (z : β) (l : List UInt8) (lo : Nat) (t : Tok) : PR (St × β × β) :=
 if lo = 2 then .error (true, t.pos)
 else bindR (numS l (nx l t)) fun n t1 => bindR (needS [119, 104, 105, 108, 101] l t1) fun _ t2 => bindR (condS l t2) fun c t3 => bindR (blk (lo + 1) t3) fun x t4 =>
  .ok (({ stW t.txt with times := n, cond := c }, x, z), t4)
def stmtS {β : Type} (blk : Nat -> Tok -> PR β) (z : β) (l : List UInt8) (lo : Nat) (t : Tok) : PR (St × β × β) :=
 if t.txt = [105, 102] then ifS (blk lo) z l t
 else if t.txt = [114, 101, 112, 101, 97, 116] then repS blk z l lo t
 else bindR (plainS l t) fun s t1 => .ok ((s, z, z), t1)
def stmtsS {α : Type} (stm : Tok -> PR α) (l : List UInt8) : Nat -> Tok -> PR (List α)
 | 0, t => .error (false, t.pos)
 | f + 1, t => if t.txt = [125] then .ok ([], nx l t) else bindR (stm t) fun x t1 => bindR (stmtsS stm l f t1) fun xs t2 => .ok (x :: xs, t2)
def blockS (l : List UInt8) : (d : Nat) -> Nat -> Tok -> PR (BT d)
 | 0, _, t => if t.txt = [123] then .error (true, t.pos) else .error (false, t.pos)
 | d + 1, lo, t => if t.txt = [123] then stmtsS (stmtS (blockS l d) (BTnil d) l lo) l (l.length + 1) (nx l t) else .error (false, t.pos)
def OutB {d : Nat} (w : World) (b : Nat) (l : List UInt8) (bl lo : Nat) (X Y : Value) (r : PR (BT d)) (e : Ending) (w' : World) : Prop :=
 match r with
 | .ok (x, t') => ∃ v, e = .returned v /\ RB w w' b l t' bl lo X Y /\ SlR d w' (fun g => w.heap.size <= g) v x
 | .error (q, p) => Flt w b (if q then Y else X) p e w'
def OutS {d : Nat} (w : World) (b : Nat) (l : List UInt8) (bl lo : Nat) (X Y : Value) (r : PR (St × BT d × BT d)) (e : Ending) (w' : World) : Prop :=
 match r with
 | .ok (x, t') => ∃ v1 v2, e = .returned (.agg (stA x.1 v1 v2)) /\ RB w w' b l t' bl lo X Y /\ SlR d w' (fun g => w.heap.size <= g) v1 x.2.1 /\ SlR d w' (fun g => w.heap.size <= g) v2 x.2.2
 | .error (q, p) => Flt w b (if q then Y else X) p e w'
def BlkC (d : Nat) : Prop := ∀ (w : World) (b : Nat) (l : List UInt8) (t : Tok) (bl lo : Nat) (X Y : Value), Rw w b l t bl lo X Y -> bl + d = 8 -> lo <= 2 ->
 Calls Tryz.prog 121 #[ptr b] w fun e w' => OutB w b l bl lo X Y (blockS l d lo t) e w'
theorem blk_ok {d : Nat} (hB : BlkC d) {w : World} {b : Nat} {l : List UInt8} {t : Tok} {bl lo : Nat} {X Y : Value} {x : BT d} {t' : Tok} (h : Rw w b l t bl lo X Y) (h8 : bl + d = 8) (hlo : lo <= 2) (hv : blockS l d lo t = .ok (x, t')) :
  Calls Tryz.prog 121 #[ptr b] w fun e w' => ∃ v, e = .returned v /\ RB w w' b l t' bl lo X Y /\ SlR d w' (fun g => w.heap.size <= g) v x := by
 refine (hB w b l t bl lo X Y h h8 hlo).mono fun e w' H => ?_
 rw [hv] at H; exact H
theorem blk_er {d : Nat} (hB : BlkC d) {w : World} {b : Nat} {l : List UInt8} {t : Tok} {bl lo : Nat} {X Y : Value} {q : Bool} {p : Nat} (h : Rw w b l t bl lo X Y) (h8 : bl + d = 8) (hlo : lo <= 2) (hv : blockS l d lo t = .error (q, p)) :
  Calls Tryz.prog 121 #[ptr b] w fun e w' => Flt w b (if q then Y else X) p e w' := by
 refine (hB w b l t bl lo X Y h h8 hlo).mono fun e w' H => ?_
 rw [hv] at H; exact H
theorem store_new2 {w : World} {b : Nat} {l : List UInt8} {t : Tok} {bl lo : Nat} {X Y : Value} {w1 : World} (hr : RB w w1 b l t bl lo X Y) {ops : Array Oper} {rest : List Oper} {o : Oper} {a : Act} {Q : Exit -> Act -> World -> Prop} (hgd : o.guard = none) (T : TypeId) (x y : Operand) (ho : o.op = .store T x y)
  (A : Array Value) {Z Z' : Array Value} (hZ : w1.heap[w.heap.size]? = some (.cells Z T)) (hx : a.eval x = .pointer (some ⟨w1.heap.size, 0, none⟩)) (hy : a.eval y = .agg A) (hi : (Tryz.prog.info? T).map (·.size) = some A.size) (hs : Z'.size = A.size) (h1 : A.all (·.oneCell') = true)
  (h : ∀ W', RB w W' b l t bl lo X Y -> W'.heap[w.heap.size]? = some (.cells Z T) -> W'.heap[w1.heap.size]? = some (.cells A T) -> W'.heap.size = w1.heap.size + 1 -> wpList Tryz.prog ops Q rest (a.put o.dst undef) W') :
  wpList Tryz.prog ops Q (o :: rest) a (w1.alloc (.cells Z' T)) := by
 have hlt : w.heap.size < w1.heap.size := (Array.getElem?_eq_some_iff.1 hZ).1
 refine wpList_store_row hgd T x y ho w1.heap.size A hx hy T Z' (heap_new rfl) hi hs h1 (h _ ?_ ?_ ?_ (by simp [World.setRow]))
 ·exact RB.setRow (hr.alloc _) (by omega) _
 ·exact (setRow_other _ _ _ _ (by omega)).trans ((Below.heap_alloc _ _ _ hlt).trans hZ)
 ·exact setRow_heap _ _ _ _ _ _ (heap_new rfl)
theorem RB.setCells {w0 : World} {b : Nat} {l : List UInt8} {t : Tok} {bl lo : Nat} {X Y : Value} {n : Nat} (hn : w0.heap.size <= n) : ∀ (vs : List Value) (o : Nat) (w : World), RB w0 w b l t bl lo X Y -> RB w0 (w.setCells n o vs) b l t bl lo X Y
 | [], _, _, h => h
 | v :: vs, o, _w, h => RB.setCells hn vs (o + 1) _ (h.set hn o v)
theorem setCells_other (n : Nat) {g : Nat} (hg : g ≠ n) : ∀ (vs : List Value) (o : Nat) (w : World), (w.setCells n o vs).heap[g]? = w.heap[g]?
 | [], _, _ => rfl
 | _v :: vs, o, _w => (setCells_other n hg vs (o + 1) _).trans (Below.heap_setCell _ _ _ _ hg)
theorem setCells_size (n : Nat) : ∀ (vs : List Value) (o : Nat) (w : World), (w.setCells n o vs).heap.size = w.heap.size
 | [], _, _ => rfl
 | v :: vs, o, w => (setCells_size n vs (o + 1) _).trans (by simp [World.setCell])
theorem setCells_heap (n : Nat) (T : TypeId) : ∀ (vs : List Value) (o : Nat) (w : World) (C : Array Value), w.heap[n]? = some (.cells C T) -> o + vs.length <= C.size ->
  (w.setCells n o vs).heap[n]? = some (.cells (C.toList.take o ++ vs ++ C.toList.drop (o + vs.length)).toArray T)
 | [], o, w, C, h, _ => by
  show w.heap[n]? = _
  rw [h]; simp
 | v :: vs, o, w, C, h, hs => by
  simp only [List.length_cons] at hs
  have h2 := heap_setCell_same w n o v C T h
  have := setCells_heap n T vs (o + 1) (w.setCell ⟨n, o, none⟩ v) (C.setIfInBounds o v) h2 (by simp; omega)
  show ((w.setCell ⟨n, o, none⟩ v).setCells n (o + 1) vs).heap[n]? = _
  rw [this]
  simp only [Array.toList_setIfInBounds]
  congr 3
  have e1 : (C.toList.set o v).take (o + 1) = C.toList.take o ++ [v] := by
   rw [List.take_add_one, List.take_set_of_le (Nat.le_refl _)]
   simp [show o < C.size by omega]
  have e2 : (C.toList.set o v).drop (o + 1 + vs.length) = C.toList.drop (o + (vs.length + 1)) := by
   rw [List.drop_set_of_lt (by omega)]; congr 1; omega
  rw [e1, e2, List.length_cons]
  simp
theorem store_mid {w : World} {b : Nat} {l : List UInt8} {t : Tok} {bl lo : Nat} {X Y : Value} {w1 : World} (hr : RB w w1 b l t bl lo X Y) {ops : Array Oper} {rest : List Oper} {o : Oper} {a : Act} {Q : Exit -> Act -> World -> Prop} (hgd : o.guard = none) (ty : TypeId) (x y : Operand) (ho : o.op = .store ty x y)
  (M k : Nat) (A C C' : Array Value) (T : TypeId) {Z : Obj} (hZ : w1.heap[w.heap.size]? = some Z) (hC : w1.heap[M]? = some (.cells C T)) (hM : w.heap.size < M) (hx : a.eval x = .pointer (some ⟨M, k, none⟩)) (hy : a.eval y = .agg A)
  (hk : k + A.size <= C.size) (hC' : C'.toList = C.toList.take k ++ A.toList ++ C.toList.drop (k + A.size)) (hi : (Tryz.prog.info? ty).map (·.size) = some A.size) (h1 : A.all (·.oneCell') = true)
  (h : ∀ W', RB w W' b l t bl lo X Y -> W'.heap[w.heap.size]? = some Z -> W'.heap[M]? = some (.cells C' T) -> W'.heap.size = w1.heap.size -> (∀ g, g ≠ M -> W'.heap[g]? = w1.heap[g]?) -> wpList Tryz.prog ops Q rest (a.put o.dst undef) W') :
  wpList Tryz.prog ops Q (o :: rest) a w1 := by
 have hth : w1.there M k A.size := fun j hj => by
  constructor
  ·rw [(blk_cells hC).1, Array.getElem?_eq_getElem (by omega)]; rfl
  ·exact (blk_cells hC).2 _
 refine wpList_store_mid hgd ty x y ho M k A hx hy hth hi h1 (h _ (RB.setCells (by omega) _ _ _ hr) ((setCells_other M (by omega) _ _ _).trans hZ) ?_ (setCells_size _ _ _ _) (fun g hg => setCells_other M hg _ _ _))
 rw [setCells_heap M T A.toList k w1 C hC (by simpa using hk)]
 have e : C' = (C.toList.take k ++ A.toList ++ C.toList.drop (k + A.toList.length)).toArray := by
  apply Array.toList_inj.1; rw [hC']; simp
 rw [e]
theorem if_any {d : Nat} (hB : BlkC d) {w : World} {b : Nat} {l : List UInt8} {t : Tok} {bl lo : Nat} {X Y : Value} (h : Rw w b l t bl lo X Y) (h8 : bl + d = 8) (hlo : lo <= 2) :
  Calls Tryz.prog 150 #[ptr b] w fun e w' => OutS w b l bl lo X Y (ifS (blockS l d lo) (BTnil d) l t) e w' := by
 have hgt := h.gt
 have HQ : Hid (ifS (blockS l d lo) (BTnil d) l t = bindR (condS l (nx l t)) fun c t1 => bindR (blockS l d lo t1) fun x t2 =>
  if t2.txt = [101, 108, 115, 101] then bindR (blockS l d lo (nx l t2)) fun y t3 => .ok (({ stW t.txt with cond := c, other := true }, x, y), t3)
  else .ok (({ stW t.txt with cond := c }, x, BTnil d), t2)) := rfl
 generalize ifS (blockS l d lo) (BTnil d) l t = r at *
 have hfl := fld1
 go_enter Tryz.func150, Tryz.ntmps150
 go_upto_region 1 with fail
 refine wp_region_lit ?_
 go_wp2_with fail
 refine (step_r (h.alloc _)).mono ?_
 rintro e w1 ⟨rfl, R1⟩
 have H1 := ((RB.refl h).alloc _).trans R1
 have hO1 := (R1.k.block w.heap.size (by simp) (by omega)).trans (heap_new rfl)
 clear R1
 dsimp only
 iterate 10 go_step
 refine store_new2 H1 rfl 226 (.tmp 3) (.tmp 7) rfl (stA (stW t.txt) nilV nilV) hO1 rfl rfl (by kernel_rfl) rfl (by simp [Value.oneCell']) ?_
 have hM : w.heap.size < w1.heap.size := (Array.getElem?_eq_some_iff.1 hO1).1
 clear H1 hO1
 generalize w1.heap.size = M at *
 clear w1
 intro W0 h0 hO0 hC0 hsz
 have z0 : M < W0.heap.size := by omega
 obtain ⟨cc, cf⟩ := blk_cells hC0
 go_wp2_with fail
 cases hc : condS l (nx l t) with
 | error q =>
  obtain ⟨qd, pp⟩ := q
  refine (cond_er h0.r hc).mono ?_
  rintro e we h3
  obtain ⟨f, rfl, h2⟩ := h3.from (RB.k (w0 := w) (l := l) (t := nx l t) (bl := bl) (lo := lo) (X := X) (Y := Y) (by repeat (first | refine RB.set ?_ (by first | exact Nat.le_refl _ | omega | (simp; omega)) _ _ | refine RB.alloc ?_ _ | refine RB.drew ?_ | exact h0)))
  have HE : Hid (r = .error (qd, pp)) := by show _ = _; rw [HQ.out, hc]; rfl
  clear h3 HQ hc cc cf
  go_wp2_with fail
  rw [HE.out]
  exact ⟨rfl, f, rfl, h2⟩
 | ok q =>
  obtain ⟨c, t1⟩ := q
  refine (cond_ok h0.r hc).mono ?_
  rintro e w2 ⟨rfl, R2⟩
  replace HQ : Hid (r = bindR (blockS l d lo t1) fun x t2 => if t2.txt = [101, 108, 115, 101] then bindR (blockS l d lo (nx l t2)) fun y t3 => .ok (({ stW t.txt with cond := c, other := true }, x, y), t3) else .ok (({ stW t.txt with cond := c }, x, BTnil d), t2)) := by show _ = _; rw [HQ.out, hc]; rfl
  clear hc
  have H2 := RB.trans (w0 := w) (t := nx l t) (bl := bl) (lo := lo) (by repeat (first | refine RB.set ?_ (by first | exact Nat.le_refl _ | omega | (simp; omega)) _ _ | refine RB.alloc ?_ _ | refine RB.drew ?_ | exact h0)) R2
  have hO2 := (R2.k.block w.heap.size (by first | omega | (simp [World.setCell]; omega)) (by omega)).trans hO0
  have hC2 : w2.heap[M]? = some (.cells (stA (stW t.txt) nilV nilV) 226) := (R2.k.block M (by first | omega | (simp [World.setCell]; omega)) (by omega)).trans (hC0.trans rfl)
  have z2 : M < w2.heap.size := (Array.getElem?_eq_some_iff.1 hC2).1
  clear cc cf hO0 hC0
  obtain ⟨cc, cf⟩ := blk_cells hC2
  clear R2 cc cf
  dsimp only
  iterate 4 go_step
  refine store_mid H2 rfl 224 (.tmp 10) (.tmp 9) rfl M 8 (cdA c) (stA (stW t.txt) nilV nilV) (stA { stW t.txt with cond := c } nilV nilV) 226 hO2 hC2 hM rfl rfl (by simp) rfl (by kernel_rfl) (by simp [Value.oneCell']) ?_
  clear H2 hO2 hC2
  intro w3 H3 hO3 hC3 hsz3 hoth
  have z3 : M < w3.heap.size := by omega
  clear z2 hsz3 hoth
  obtain ⟨cc, cf⟩ := blk_cells hC3
  go_wp2_with fail
  cases hx : blockS l d lo t1 with
  | error q =>
   obtain ⟨qd, pp⟩ := q
   refine (blk_er hB H3.r h8 hlo hx).mono ?_
   rintro e we h3
   obtain ⟨f, rfl, h2⟩ := h3.from (RB.k (w0 := w) (l := l) (t := t1) (bl := bl) (lo := lo) (X := X) (Y := Y) (by repeat (first | refine RB.set ?_ (by first | exact Nat.le_refl _ | omega | (simp; omega)) _ _ | refine RB.alloc ?_ _ | refine RB.drew ?_ | exact H3)))
   have HE : Hid (r = .error (qd, pp)) := by show _ = _; rw [HQ.out, hx]; rfl
   clear h3 HQ hx cc cf
   go_wp2_with fail
   rw [HE.out]
   exact ⟨rfl, f, rfl, h2⟩
  | ok q =>
   obtain ⟨x, t2⟩ := q
   refine (blk_ok hB H3.r h8 hlo hx).mono ?_
   rintro e w4 ⟨v, rfl, R4, S4⟩
   replace S4 : SlR d w4 (fun g => M + 1 <= g) v x := SlR.up (by omega) S4
   obtain ⟨va, vn, vc, rfl⟩ := SlR.form d _ _ S4
   replace HQ : Hid (r = if t2.txt = [101, 108, 115, 101] then bindR (blockS l d lo (nx l t2)) fun y t3 => .ok (({ stW t.txt with cond := c, other := true }, x, y), t3) else .ok (({ stW t.txt with cond := c }, x, BTnil d), t2)) := by show _ = _; rw [HQ.out, hx]; rfl
   clear hx
   have H4 := RB.trans (w0 := w) (t := t1) (bl := bl) (lo := lo) (by repeat (first | refine RB.set ?_ (by first | exact Nat.le_refl _ | omega | (simp; omega)) _ _ | refine RB.alloc ?_ _ | refine RB.drew ?_ | exact H3)) R4
   have hO4 := (R4.k.block w.heap.size (by first | omega | (simp [World.setCell]; omega)) (by omega)).trans hO3
   have hC4 : w4.heap[M]? = some (.cells (stA { stW t.txt with cond := c } nilV nilV) 226) := (R4.k.block M (by first | omega | (simp [World.setCell]; omega)) (by omega)).trans (hC3.trans rfl)
   have z4 : M < w4.heap.size := (Array.getElem?_eq_some_iff.1 hC4).1
   clear cc cf hO3 hC3
   obtain ⟨cc, cf⟩ := blk_cells hC4
   clear R4
   go_wp2_with fail
   refine (take_any (l := l) (t := t2) (bl := bl) (lo := lo) (X := X) (Y := Y) [101, 108, 115, 101] (RB.r (w0 := w) (l := l) (t := t2) (bl := bl) (lo := lo) (X := X) (Y := Y) (by repeat (first | refine RB.set ?_ (by first | exact Nat.le_refl _ | omega | (simp; omega)) _ _ | refine RB.alloc ?_ _ | refine RB.drew ?_ | exact H4)))).mono ?_
   rintro e w5 ⟨rfl, R5⟩
   have S5 := SlR.keep R5.k (by omega) (SlR.set (n := M) (o := 22) (u := .slice va vn vc) (by omega) S4)
   have H5 := RB.trans (w0 := w) (t := t2) (bl := bl) (lo := lo) (by repeat (first | refine RB.set ?_ (by first | exact Nat.le_refl _ | omega | (simp; omega)) _ _ | refine RB.alloc ?_ _ | refine RB.drew ?_ | exact H4)) R5
   have hO5 := (R5.k.block w.heap.size (by first | omega | (simp [World.setCell]; omega)) (by omega)).trans ((Below.heap_setCell _ _ _ _ (by first | (simp; done) | (simp; omega))).trans hO4)
   have hC5 : w5.heap[M]? = some (.cells (stA { stW t.txt with cond := c } (.slice va vn vc) nilV) 226) := (R5.k.block M (by first | omega | (simp [World.setCell]; omega)) (by omega)).trans ((heap_setCell_same _ _ _ _ _ _ hC4).trans rfl)
   have z5 : M < w5.heap.size := (Array.getElem?_eq_some_iff.1 hC5).1
   clear cc cf hO4 hC4
   obtain ⟨cc, cf⟩ := blk_cells hC5
   clear R5 S4
   by_cases he : t2.txt = [101, 108, 115, 101]
   ·rw [if_pos he] at H5
    have hd : decide (t2.txt = [101, 108, 115, 101]) = true := by simp [he]
    go_wp2_with fail
    cases hy : blockS l d lo (nx l t2) with
    | error q =>
     obtain ⟨qd, pp⟩ := q
     refine (blk_er (l := l) (t := nx l t2) (bl := bl) (lo := lo) (X := X) (Y := Y) hB (RB.r (w0 := w) (l := l) (t := nx l t2) (bl := bl) (lo := lo) (X := X) (Y := Y) (by repeat (first | refine RB.set ?_ (by first | exact Nat.le_refl _ | omega | (simp; omega)) _ _ | refine RB.alloc ?_ _ | refine RB.drew ?_ | exact H5))) h8 hlo hy).mono ?_
     rintro e we h3
     obtain ⟨f, rfl, h2⟩ := h3.from (RB.k (w0 := w) (l := l) (t := nx l t2) (bl := bl) (lo := lo) (X := X) (Y := Y) (by repeat (first | refine RB.set ?_ (by first | exact Nat.le_refl _ | omega | (simp; omega)) _ _ | refine RB.alloc ?_ _ | refine RB.drew ?_ | exact H5)))
     have HE : Hid (r = .error (qd, pp)) := by show _ = _; rw [HQ.out, if_pos he, hy]; rfl
     clear h3 HQ hy cc cf
     go_wp2_with fail
     rw [HE.out]
     exact ⟨rfl, f, rfl, h2⟩
    | ok q =>
     obtain ⟨y, t3⟩ := q
     refine (blk_ok (l := l) (t := nx l t2) (bl := bl) (lo := lo) (X := X) (Y := Y) hB (RB.r (w0 := w) (l := l) (t := nx l t2) (bl := bl) (lo := lo) (X := X) (Y := Y) (by repeat (first | refine RB.set ?_ (by first | exact Nat.le_refl _ | omega | (simp; omega)) _ _ | refine RB.alloc ?_ _ | refine RB.drew ?_ | exact H5))) h8 hlo hy).mono ?_
     rintro e w6 ⟨u, rfl, R6, S6⟩
     replace S6 : SlR d w6 (fun g => M + 1 <= g) u y := SlR.up (by simp [World.setCell]; omega) S6
     obtain ⟨ua, un, uc, rfl⟩ := SlR.form d _ _ S6
     have S7 := SlR.keep R6.k (by omega) (SlR.set (n := M) (o := 23) (u := .bool true) (by omega) S5)
     have HE : Hid (r = .ok (({ stW t.txt with cond := c, other := true }, x, y), t3)) := by show _ = _; rw [HQ.out, if_pos he, hy]; rfl
     clear hy HQ hd
     have H6 := RB.trans (w0 := w) (t := nx l t2) (bl := bl) (lo := lo) (by repeat (first | refine RB.set ?_ (by first | exact Nat.le_refl _ | omega | (simp; omega)) _ _ | refine RB.alloc ?_ _ | refine RB.drew ?_ | exact H5)) R6
     have hO6 := (R6.k.block w.heap.size (by first | omega | (simp [World.setCell]; omega)) (by omega)).trans ((Below.heap_setCell _ _ _ _ (by first | (simp; done) | (simp; omega))).trans hO5)
     have hC6 : w6.heap[M]? = some (.cells (stA { stW t.txt with cond := c, other := true } (.slice va vn vc) nilV) 226) := (R6.k.block M (by first | omega | (simp [World.setCell]; omega)) (by omega)).trans ((heap_setCell_same _ _ _ _ _ _ hC5).trans rfl)
     have z6 : M < w6.heap.size := (Array.getElem?_eq_some_iff.1 hC6).1
     clear cc cf hO5 hC5
     obtain ⟨cc, cf⟩ := blk_cells hC6
     clear R6 S5
     go_upto_region 7 with fail
     refine wp_region_lit ?_
     refine wpList_load_row rfl 226 (.tmp 3) rfl (M) rfl 226 (stA { stW t.txt with cond := c, other := true } (.slice va vn vc) (.slice ua un uc)) (0, 0) _ ((heap_setCell_same _ _ _ _ _ _ hC6).trans rfl) Tryz.underlying226 rfl (by kernel_rfl) ?_
     refine wpList_store_row rfl 226 (.tmp 2) (.tmp 22) rfl (w.heap.size) (stA { stW t.txt with cond := c, other := true } (.slice va vn vc) (.slice ua un uc)) rfl rfl 226 (stA (stW []) nilV nilV) (((Below.heap_setCell _ _ _ _ (by first | (simp; done) | (simp; omega))).trans hO6)) (by kernel_rfl) rfl (by simp [Value.oneCell']) ?_
     go_wp2_with fail
     rw [HE.out]
     refine ⟨rfl, _, res_cell Tryz.results150 _ _ w.heap.size _ 226 _ rfl (setRow_heap _ _ _ _ _ _ ((Below.heap_setCell _ _ _ _ (by first | (simp; done) | (simp; omega))).trans hO6)) Tryz.underlying226 rfl (by kernel_rfl), .slice va vn vc, .slice ua un uc, rfl, ?_, SlR.up (by omega) (SlR.row (by omega) (SlR.set (n := M) (by omega) S7)), SlR.up (by omega) (SlR.row (by omega) (SlR.set (n := M) (by omega) S6))⟩
     refine RB.setRow ?_ (Nat.le_refl _) _; repeat (first | refine RB.set ?_ (by first | exact Nat.le_refl _ | omega | (simp; omega)) _ _ | refine RB.alloc ?_ _ | refine RB.drew ?_ | exact H6)
   ·rw [if_neg he] at H5
    have hd : decide (t2.txt = [101, 108, 115, 101]) = false := by simp [he]
    have HE : Hid (r = .ok (({ stW t.txt with cond := c }, x, BTnil d), t2)) := by show _ = _; rw [HQ.out, if_neg he]
    clear HQ
    go_upto_region 7 with fail
    refine wp_region_lit ?_
    refine wpList_load_row rfl 226 (.tmp 3) rfl (M) rfl 226 (stA { stW t.txt with cond := c } (.slice va vn vc) nilV) (0, 0) _ ((heap_setCell_same _ _ _ _ _ _ hC5).trans rfl) Tryz.underlying226 rfl (by kernel_rfl) ?_
    refine wpList_store_row rfl 226 (.tmp 2) (.tmp 22) rfl (w.heap.size) (stA { stW t.txt with cond := c } (.slice va vn vc) nilV) rfl rfl 226 (stA (stW []) nilV nilV) (((Below.heap_setCell _ _ _ _ (by first | (simp; done) | (simp; omega))).trans hO5)) (by kernel_rfl) rfl (by simp [Value.oneCell']) ?_
    go_wp2_with fail
    rw [HE.out]
    refine ⟨rfl, _, res_cell Tryz.results150 _ _ w.heap.size _ 226 _ rfl (setRow_heap _ _ _ _ _ _ ((Below.heap_setCell _ _ _ _ (by first | (simp; done) | (simp; omega))).trans hO5)) Tryz.underlying226 rfl (by kernel_rfl), .slice va vn vc, nilV, rfl, ?_, SlR.up (by omega) (SlR.row (by omega) (SlR.set (n := M) (by omega) S5)), SlR.nil d _ _⟩
    refine RB.setRow ?_ (Nat.le_refl _) _; repeat (first | refine RB.set ?_ (by first | exact Nat.le_refl _ | omega | (simp; omega)) _ _ | refine RB.alloc ?_ _ | refine RB.drew ?_ | exact H5)
theorem number_any {w : World} {b : Nat} {l : List UInt8} {t : Tok} {bl lo : Nat} {X Y : Value} (h : Rw w b l t bl lo X Y) :
  Calls Tryz.prog 118 #[ptr b] w fun e w' => Out w b l bl lo X Y (fun n : Nat × Nat => .agg #[.int .i64 n.1, .int .i64 n.2]) (numS l t) e w' := by
 unfold numS
 by_cases hs : t.kind = 3
 ·rw [if_pos hs]; exact number_yes h hs
 ·rw [if_neg hs]; exact number_no h hs
theorem number_ok {w : World} {b : Nat} {l : List UInt8} {t : Tok} {bl lo : Nat} {X Y : Value} {x : Nat × Nat} {t' : Tok} (h : Rw w b l t bl lo X Y) (hv : numS l t = .ok (x, t')) :
  Calls Tryz.prog 118 #[ptr b] w fun e w' => e = .returned (.agg #[.int .i64 x.1, .int .i64 x.2]) /\ RB w w' b l t' bl lo X Y := by
 refine (number_any h).mono fun e w' H => ?_
 rw [hv] at H; exact H
theorem number_er {w : World} {b : Nat} {l : List UInt8} {t : Tok} {bl lo : Nat} {X Y : Value} {d : Bool} {p : Nat} (h : Rw w b l t bl lo X Y) (hv : numS l t = .error (d, p)) :
  Calls Tryz.prog 118 #[ptr b] w fun e w' => Flt w b (if d then Y else X) p e w' := by
 refine (number_any h).mono fun e w' H => ?_
 rw [hv] at H; exact H
theorem rep_any {d : Nat} (hB : BlkC d) {w : World} {b : Nat} {l : List UInt8} {t : Tok} {bl lo : Nat} {X Y : Value} (h : Rw w b l t bl lo X Y) (h8 : bl + d = 8) (hlo : lo <= 2) :
  Calls Tryz.prog 151 #[ptr b] w fun e w' => OutS w b l bl lo X Y (repS (blockS l d) (BTnil d) l lo t) e w' := by
 have hgt := h.gt
 have HQ : Hid (repS (blockS l d) (BTnil d) l lo t = if lo = 2 then .error (true, t.pos)
 else bindR (numS l (nx l t)) fun n t1 => bindR (needS [119, 104, 105, 108, 101] l t1) fun _ t2 => bindR (condS l t2) fun c t3 => bindR (blockS l d (lo + 1) t3) fun x t4 =>
  .ok (({ stW t.txt with times := n, cond := c }, x, BTnil d), t4)) := rfl
 generalize repS (blockS l d) (BTnil d) l lo t = r at *
 have hfl := fld1
 obtain ⟨c0, c1, c2, c3, c4, c5⟩ := h.rd.cells
 by_cases h2 : lo = 2
 ·have HE : Hid (r = .error (true, t.pos)) := by show _ = _; rw [HQ.out, if_pos h2]
  have b1 : ((lo : Int) == 2) = true := by rw [beq_iff_eq]; omega
  clear HQ
  have hg := h.deep
  have hg1 : 2 < w.heap.size := hgt.2.1
  go_enter Tryz.func151, Tryz.ntmps151
  go_wp2_with fail
  refine (leave_r Y (h.alloc _)).mono ?_
  rintro e we h3
  obtain ⟨f, rfl, hf2⟩ := h3.from ((But.refl b w).alloc _)
  clear h3 hg hg1
  go_wp2_with fail
  rw [HE.out]
  exact ⟨rfl, f, rfl, hf2⟩
 ·replace HQ : Hid (r = bindR (numS l (nx l t)) fun n t1 => bindR (needS [119, 104, 105, 108, 101] l t1) fun _ t2 => bindR (condS l t2) fun c t3 => bindR (blockS l d (lo + 1) t3) fun x t4 =>
   .ok (({ stW t.txt with times := n, cond := c }, x, BTnil d), t4)) := by show _ = _; rw [HQ.out, if_neg h2]
  have b1 : ((lo : Int) == 2) = false := by rw [beq_eq_false_iff_ne]; omega
  go_enter Tryz.func151, Tryz.ntmps151
  go_upto_region 3 with fail
  refine wp_region_lit ?_
  go_wp2_with fail
  refine (step_r (h.alloc _)).mono ?_
  rintro e w1 ⟨rfl, R1⟩
  have H1 := ((RB.refl h).alloc _).trans R1
  have hO1 := (R1.k.block w.heap.size (by simp) (by omega)).trans (heap_new rfl)
  clear R1 c0 c1 c2 c3 c4 c5
  dsimp only
  iterate 10 go_step
  refine store_new2 H1 rfl 226 (.tmp 3) (.tmp 15) rfl (stA (stW t.txt) nilV nilV) hO1 rfl rfl (by kernel_rfl) rfl (by simp [Value.oneCell']) ?_
  have hM : w.heap.size < w1.heap.size := (Array.getElem?_eq_some_iff.1 hO1).1
  clear H1 hO1
  generalize w1.heap.size = M at *
  clear w1
  intro W0 h0 hO0 hC0 hsz
  have z0 : M < W0.heap.size := by omega
  obtain ⟨cc, cf⟩ := blk_cells hC0
  go_wp2_with fail
  cases hc : numS l (nx l t) with
  | error q =>
   obtain ⟨qd, pp⟩ := q
   refine (number_er h0.r hc).mono ?_
   rintro e we h3
   obtain ⟨f, rfl, h2⟩ := h3.from (RB.k (w0 := w) (l := l) (t := nx l t) (bl := bl) (lo := lo) (X := X) (Y := Y) (by repeat (first | refine RB.set ?_ (by first | exact Nat.le_refl _ | omega | (simp; omega)) _ _ | refine RB.alloc ?_ _ | refine RB.drew ?_ | exact h0)))
   have HE : Hid (r = .error (qd, pp)) := by show _ = _; rw [HQ.out, hc]; rfl
   clear h3 HQ hc cc cf
   go_wp2_with fail
   rw [HE.out]
   exact ⟨rfl, f, rfl, ‹_›⟩
  | ok q =>
   obtain ⟨n, t1⟩ := q
   refine (number_ok h0.r hc).mono ?_
   rintro e w2 ⟨rfl, R2⟩
   replace HQ : Hid (r = bindR (needS [119, 104, 105, 108, 101] l t1) fun _ t2 => bindR (condS l t2) fun c t3 => bindR (blockS l d (lo + 1) t3) fun x t4 => .ok (({ stW t.txt with times := n, cond := c }, x, BTnil d), t4)) := by show _ = _; rw [HQ.out, hc]; rfl
   clear hc
   have H2 := RB.trans (w0 := w) (t := nx l t) (bl := bl) (lo := lo) (by repeat (first | refine RB.set ?_ (by first | exact Nat.le_refl _ | omega | (simp; omega)) _ _ | refine RB.alloc ?_ _ | refine RB.drew ?_ | exact h0)) R2
   have hO2 := (R2.k.block w.heap.size (by first | omega | (simp [World.setCell]; omega)) (by omega)).trans hO0
   have hC2 : w2.heap[M]? = some (.cells (stA (stW t.txt) nilV nilV) 226) := (R2.k.block M (by first | omega | (simp [World.setCell]; omega)) (by omega)).trans (hC0.trans rfl)
   have z2 : M < w2.heap.size := (Array.getElem?_eq_some_iff.1 hC2).1
   clear cc cf hO0 hC0
   obtain ⟨cc, cf⟩ := blk_cells hC2
   clear R2
   go_wp2_with fail
   by_cases hw : t1.txt = [119, 104, 105, 108, 101]
   ·refine (need_yes (l := l) (t := t1) (bl := bl) (lo := lo) (X := X) (Y := Y) [119, 104, 105, 108, 101] (RB.r (w0 := w) (l := l) (t := t1) (bl := bl) (lo := lo) (X := X) (Y := Y) (by repeat (first | refine RB.set ?_ (by first | exact Nat.le_refl _ | omega | (simp; omega)) _ _ | refine RB.alloc ?_ _ | refine RB.drew ?_ | exact H2))) hw).mono ?_
    rintro e w3 ⟨rfl, R3⟩
    replace HQ : Hid (r = bindR (condS l (nx l t1)) fun c t3 => bindR (blockS l d (lo + 1) t3) fun x t4 => .ok (({ stW t.txt with times := n, cond := c }, x, BTnil d), t4)) := by show _ = _; rw [HQ.out]; unfold needS; rw [if_pos hw]; rfl
    have H3 := RB.trans (w0 := w) (t := t1) (bl := bl) (lo := lo) (by repeat (first | refine RB.set ?_ (by first | exact Nat.le_refl _ | omega | (simp; omega)) _ _ | refine RB.alloc ?_ _ | refine RB.drew ?_ | exact H2)) R3
    have hO3 := (R3.k.block w.heap.size (by first | omega | (simp [World.setCell]; omega)) (by omega)).trans ((Below.heap_setCell _ _ _ _ (by first | (simp; done) | (simp; omega))).trans ((Below.heap_setCell _ _ _ _ (by first | (simp; done) | (simp; omega))).trans hO2))
    have hC3 : w3.heap[M]? = some (.cells (stA { stW t.txt with times := n } nilV nilV) 226) := (R3.k.block M (by first | omega | (simp [World.setCell]; omega)) (by omega)).trans ((heap_setCell_same _ _ _ _ _ _ (heap_setCell_same _ _ _ _ _ _ hC2)).trans rfl)
    have z3 : M < w3.heap.size := (Array.getElem?_eq_some_iff.1 hC3).1
    clear cc cf hO2 hC2
    obtain ⟨cc, cf⟩ := blk_cells hC3
    clear R3
    go_wp2_with fail
    cases hc : condS l (nx l t1) with
    | error q =>
     obtain ⟨qd, pp⟩ := q
     refine (cond_er H3.r hc).mono ?_
     rintro e we h3
     obtain ⟨f, rfl, h2⟩ := h3.from (RB.k (w0 := w) (l := l) (t := nx l t1) (bl := bl) (lo := lo) (X := X) (Y := Y) (by repeat (first | refine RB.set ?_ (by first | exact Nat.le_refl _ | omega | (simp; omega)) _ _ | refine RB.alloc ?_ _ | refine RB.drew ?_ | exact H3)))
     have HE : Hid (r = .error (qd, pp)) := by show _ = _; rw [HQ.out, hc]; rfl
     clear h3 HQ hc cc cf
     go_wp2_with fail
     rw [HE.out]
     exact ⟨rfl, f, rfl, ‹_›⟩
    | ok q =>
     obtain ⟨c, t3⟩ := q
     refine (cond_ok H3.r hc).mono ?_
     rintro e w4 ⟨rfl, R4⟩
     replace HQ : Hid (r = bindR (blockS l d (lo + 1) t3) fun x t4 => .ok (({ stW t.txt with times := n, cond := c }, x, BTnil d), t4)) := by show _ = _; rw [HQ.out, hc]; rfl
     clear hc
     have H4 := RB.trans (w0 := w) (t := nx l t1) (bl := bl) (lo := lo) (by repeat (first | refine RB.set ?_ (by first | exact Nat.le_refl _ | omega | (simp; omega)) _ _ | refine RB.alloc ?_ _ | refine RB.drew ?_ | exact H3)) R4
     have hO4 := (R4.k.block w.heap.size (by first | omega | (simp [World.setCell]; omega)) (by omega)).trans hO3
     have hC4 : w4.heap[M]? = some (.cells (stA { stW t.txt with times := n } nilV nilV) 226) := (R4.k.block M (by first | omega | (simp [World.setCell]; omega)) (by omega)).trans (hC3.trans rfl)
     have z4 : M < w4.heap.size := (Array.getElem?_eq_some_iff.1 hC4).1
     clear cc cf hO3 hC3
     obtain ⟨cc, cf⟩ := blk_cells hC4
     clear R4 cc cf
     dsimp only
     iterate 4 go_step
     refine store_mid H4 rfl 224 (.tmp 23) (.tmp 22) rfl M 8 (cdA c) (stA { stW t.txt with times := n } nilV nilV) (stA { stW t.txt with times := n, cond := c } nilV nilV) 226 hO4 hC4 hM rfl rfl (by simp) rfl (by kernel_rfl) (by simp [Value.oneCell']) ?_
     clear H4 hO4 hC4
     intro w5 H5 hO5 hC5 hsz5 hoth
     have z5 : M < w5.heap.size := by omega
     clear z4 hsz5 hoth
     obtain ⟨c0, c1, c2, c3, c4, c5⟩ := H5.r.rd.cells
     have cfz := H5.r.rd.frozen
     go_wp2_with fail
     have H5' : RB w (w5.setCell ⟨b, 5, none⟩ (.int .i64 ((lo : Int) + 1))) b l t3 bl (lo + 1) X Y := H5.putL (lo + 1)
     have hO5' : (w5.setCell ⟨b, 5, none⟩ (.int .i64 ((lo : Int) + 1))).heap[w.heap.size]? = _ := (Below.heap_setCell _ _ _ _ (by simp; omega)).trans hO5
     have hC5' : (w5.setCell ⟨b, 5, none⟩ (.int .i64 ((lo : Int) + 1))).heap[M]? = _ := (Below.heap_setCell _ _ _ _ (by simp; omega)).trans hC5
     have z5' : M < (w5.setCell ⟨b, 5, none⟩ (.int .i64 ((lo : Int) + 1))).heap.size := by simpa [World.setCell] using z5
     clear c0 c1 c2 c3 c4 c5 cfz H5 hO5 hC5 z5
     generalize w5.setCell ⟨b, 5, none⟩ (.int .i64 ((lo : Int) + 1)) = w6 at *
     cases hx : blockS l d (lo + 1) t3 with
     | error q =>
      obtain ⟨qd, pp⟩ := q
      refine (blk_er hB H5'.r h8 (by omega) hx).mono ?_
      rintro e we h3
      obtain ⟨f, rfl, hf2⟩ := h3.from H5'.k
      have HE : Hid (r = .error (qd, pp)) := by show _ = _; rw [HQ.out, hx]; rfl
      clear h3 HQ hx
      go_wp2_with fail
      rw [HE.out]
      exact ⟨rfl, f, rfl, hf2⟩
     | ok q =>
      obtain ⟨x, t4⟩ := q
      refine (blk_ok hB H5'.r h8 (by omega) hx).mono ?_
      rintro e w7 ⟨v, rfl, R7, S7⟩
      replace S7 : SlR d w7 (fun g => M + 1 <= g) v x := SlR.up (by omega) S7
      obtain ⟨va, vn, vc, rfl⟩ := SlR.form d _ _ S7
      have HE : Hid (r = .ok (({ stW t.txt with times := n, cond := c }, x, BTnil d), t4)) := by show _ = _; rw [HQ.out, hx]; rfl
      have H7 := H5'.trans R7
      have hO7 := (R7.k.block w.heap.size (by omega) (by omega)).trans hO5'
      have hC7 := (R7.k.block M (by omega) (by omega)).trans hC5'
      have z7 : M < w7.heap.size := (Array.getElem?_eq_some_iff.1 hC7).1
      clear hx HQ R7 H5' hO5' hC5' z5'
      obtain ⟨cc, cf⟩ := blk_cells hC7
      obtain ⟨c0, c1, c2, c3, c4, c5⟩ := H7.r.rd.cells
      have cfz := H7.r.rd.frozen
      have hMb : b ≠ M := by omega
      go_upto_region 10 with fail
      have H8 : RB w ((w7.setCell ⟨M, 22, none⟩ (.slice va vn vc)).setCell ⟨b, 5, none⟩ (.int .i64 (lo : Int))) b l t4 bl lo X Y := (H7.set (by omega) _ _).putL lo
      have hO8 : ((w7.setCell ⟨M, 22, none⟩ (.slice va vn vc)).setCell ⟨b, 5, none⟩ (.int .i64 (lo : Int))).heap[w.heap.size]? = _ := ((Below.heap_setCell _ _ _ _ (by first | (simp; done) | (simp; omega))).trans ((Below.heap_setCell _ _ _ _ (by first | (simp; done) | (simp; omega))).trans hO7))
      have hC8 : ((w7.setCell ⟨M, 22, none⟩ (.slice va vn vc)).setCell ⟨b, 5, none⟩ (.int .i64 (lo : Int))).heap[M]? = some (.cells (stA { stW t.txt with times := n, cond := c } (.slice va vn vc) nilV) 226) := (Below.heap_setCell _ _ _ _ (by simp; omega)).trans ((heap_setCell_same _ _ _ _ _ _ hC7).trans rfl)
      have S8 : SlR d ((w7.setCell ⟨M, 22, none⟩ (.slice va vn vc)).setCell ⟨b, 5, none⟩ (.int .i64 (lo : Int))) (fun g => M + 1 <= g) (.slice va vn vc) x := SlR.set (by omega) (SlR.set (by omega) S7)
      clear c0 c1 c2 c3 c4 c5 cfz cc cf H7 hO7 hC7 S7 z7
      generalize (w7.setCell ⟨M, 22, none⟩ (.slice va vn vc)).setCell ⟨b, 5, none⟩ (.int .i64 (lo : Int)) = w8 at *
      refine wp_region_lit ?_
      refine wpList_load_row rfl 226 (.tmp 3) rfl (M) rfl 226 (stA { stW t.txt with times := n, cond := c } (.slice va vn vc) nilV) (0, 0) _ (hC8) Tryz.underlying226 rfl (by kernel_rfl) ?_
      refine wpList_store_row rfl 226 (.tmp 2) (.tmp 41) rfl (w.heap.size) (stA { stW t.txt with times := n, cond := c } (.slice va vn vc) nilV) rfl rfl 226 (stA (stW []) nilV nilV) (hO8) (by kernel_rfl) rfl (by simp [Value.oneCell']) ?_
      go_wp2_with fail
      rw [HE.out]
      refine ⟨rfl, _, res_cell Tryz.results151 _ _ w.heap.size _ 226 _ rfl (setRow_heap _ _ _ _ _ _ hO8) Tryz.underlying226 rfl (by kernel_rfl), .slice va vn vc, nilV, rfl, ?_, SlR.up (by omega) (SlR.row (by omega) S8), SlR.nil d _ _⟩
      refine RB.setRow ?_ (Nat.le_refl _) _; repeat (first | refine RB.set ?_ (by first | exact Nat.le_refl _ | omega | (simp; omega)) _ _ | refine RB.alloc ?_ _ | refine RB.drew ?_ | exact H8)
   ·skip
    refine (need_no (l := l) (t := t1) (bl := bl) (lo := lo) (X := X) (Y := Y) [119, 104, 105, 108, 101] (RB.r (w0 := w) (l := l) (t := t1) (bl := bl) (lo := lo) (X := X) (Y := Y) (by repeat (first | refine RB.set ?_ (by first | exact Nat.le_refl _ | omega | (simp; omega)) _ _ | refine RB.alloc ?_ _ | refine RB.drew ?_ | exact H2))) hw).mono ?_
    rintro e we h3
    obtain ⟨f, rfl, h2⟩ := h3.from (RB.k (w0 := w) (l := l) (t := t1) (bl := bl) (lo := lo) (X := X) (Y := Y) (by repeat (first | refine RB.set ?_ (by first | exact Nat.le_refl _ | omega | (simp; omega)) _ _ | refine RB.alloc ?_ _ | refine RB.drew ?_ | exact H2)))
    have HE : Hid (r = .error (false, t1.pos)) := by show _ = _; rw [HQ.out]; unfold needS; rw [if_neg hw]; rfl
    clear h3 HQ cc cf
    go_wp2_with fail
    rw [HE.out]
    exact ⟨rfl, f, rfl, ‹_›⟩
theorem if_ok {d : Nat} (hB : BlkC d) {w : World} {b : Nat} {l : List UInt8} {t : Tok} {bl lo : Nat} {X Y : Value} {x : St × BT d × BT d} {t' : Tok} (h : Rw w b l t bl lo X Y) (h8 : bl + d = 8) (hlo : lo <= 2) (hv : ifS (blockS l d lo) (BTnil d) l t = .ok (x, t')) :
  Calls Tryz.prog 150 #[ptr b] w fun e w' => ∃ v1 v2, e = .returned (.agg (stA x.1 v1 v2)) /\ RB w w' b l t' bl lo X Y /\ SlR d w' (fun g => w.heap.size <= g) v1 x.2.1 /\ SlR d w' (fun g => w.heap.size <= g) v2 x.2.2 := by
 refine (if_any hB h h8 hlo).mono fun e w' H => ?_
 rw [hv] at H; exact H
theorem if_er {d : Nat} (hB : BlkC d) {w : World} {b : Nat} {l : List UInt8} {t : Tok} {bl lo : Nat} {X Y : Value} {q : Bool} {p : Nat} (h : Rw w b l t bl lo X Y) (h8 : bl + d = 8) (hlo : lo <= 2) (hv : ifS (blockS l d lo) (BTnil d) l t = .error (q, p)) :
  Calls Tryz.prog 150 #[ptr b] w fun e w' => Flt w b (if q then Y else X) p e w' := by
 refine (if_any hB h h8 hlo).mono fun e w' H => ?_
 rw [hv] at H; exact H
theorem rep_ok {d : Nat} (hB : BlkC d) {w : World} {b : Nat} {l : List UInt8} {t : Tok} {bl lo : Nat} {X Y : Value} {x : St × BT d × BT d} {t' : Tok} (h : Rw w b l t bl lo X Y) (h8 : bl + d = 8) (hlo : lo <= 2) (hv : repS (blockS l d) (BTnil d) l lo t = .ok (x, t')) :
  Calls Tryz.prog 151 #[ptr b] w fun e w' => ∃ v1 v2, e = .returned (.agg (stA x.1 v1 v2)) /\ RB w w' b l t' bl lo X Y /\ SlR d w' (fun g => w.heap.size <= g) v1 x.2.1 /\ SlR d w' (fun g => w.heap.size <= g) v2 x.2.2 := by
 refine (rep_any hB h h8 hlo).mono fun e w' H => ?_
 rw [hv] at H; exact H
theorem rep_er {d : Nat} (hB : BlkC d) {w : World} {b : Nat} {l : List UInt8} {t : Tok} {bl lo : Nat} {X Y : Value} {q : Bool} {p : Nat} (h : Rw w b l t bl lo X Y) (h8 : bl + d = 8) (hlo : lo <= 2) (hv : repS (blockS l d) (BTnil d) l lo t = .error (q, p)) :
  Calls Tryz.prog 151 #[ptr b] w fun e w' => Flt w b (if q then Y else X) p e w' := by
 refine (rep_any hB h h8 hlo).mono fun e w' H => ?_
 rw [hv] at H; exact H
theorem plain_ok {w : World} {b : Nat} {l : List UInt8} {t : Tok} {bl lo : Nat} {X Y : Value} {x : St} {t' : Tok} (h : Rw w b l t bl lo X Y) (hv : plainS l t = .ok (x, t')) :
  Calls Tryz.prog 152 #[ptr b] w fun e w' => e = .returned (.agg (stA x nilV nilV)) /\ RB w w' b l t' bl lo X Y := by
 refine (plain_any h).mono fun e w' H => ?_
 rw [hv] at H; exact H
theorem plain_er {w : World} {b : Nat} {l : List UInt8} {t : Tok} {bl lo : Nat} {X Y : Value} {q : Bool} {p : Nat} (h : Rw w b l t bl lo X Y) (hv : plainS l t = .error (q, p)) :
  Calls Tryz.prog 152 #[ptr b] w fun e w' => Flt w b (if q then Y else X) p e w' := by
 refine (plain_any h).mono fun e w' H => ?_
 rw [hv] at H; exact H
theorem stmt_any {d : Nat} (hB : BlkC d) {w : World} {b : Nat} {l : List UInt8} {t : Tok} {bl lo : Nat} {X Y : Value} (h : Rw w b l t bl lo X Y) (h8 : bl + d = 8) (hlo : lo <= 2) :
  Calls Tryz.prog 140 #[ptr b] w fun e w' => OutS w b l bl lo X Y (stmtS (blockS l d) (BTnil d) l lo t) e w' := by
 have hgt := h.gt
 have HQ : Hid (stmtS (blockS l d) (BTnil d) l lo t = if t.txt = [105, 102] then ifS (blockS l d lo) (BTnil d) l t else if t.txt = [114, 101, 112, 101, 97, 116] then repS (blockS l d) (BTnil d) l lo t else bindR (plainS l t) fun s t1 => .ok ((s, BTnil d, BTnil d), t1)) := rfl
 generalize stmtS (blockS l d) (BTnil d) l lo t = r at *
 obtain ⟨c0, c1, c2, c3, c4, c5⟩ := h.rd.cells
 by_cases hi : t.txt = [105, 102]
 ·have b1 : (t.txt == [105, 102]) = true := by simp [hi]
  replace HQ : Hid (r = ifS (blockS l d lo) (BTnil d) l t) := by show _ = _; rw [HQ.out, if_pos hi]
  clear hi
  go_enter Tryz.func140, Tryz.ntmps140
  go_wp2_with fail
  cases hv : ifS (blockS l d lo) (BTnil d) l t with
  | error q =>
   obtain ⟨qd, pp⟩ := q
   refine (if_er hB (h.alloc _) h8 hlo hv).mono ?_
   rintro e we h3
   obtain ⟨f, rfl, hf2⟩ := h3.from ((But.refl b w).alloc _)
   have HE : Hid (r = .error (qd, pp)) := by show _ = _; rw [HQ.out, hv]
   clear h3 HQ hv
   go_wp2_with fail
   rw [HE.out]
   exact ⟨rfl, f, rfl, hf2⟩
  | ok q =>
   obtain ⟨x, t1⟩ := q
   refine (if_ok hB (h.alloc _) h8 hlo hv).mono ?_
   rintro e w1 ⟨v1, v2, rfl, R1, S1, S2⟩
   replace S1 : SlR d w1 (fun g => w.heap.size + 1 <= g) v1 x.2.1 := SlR.up (by simp) S1
   replace S2 : SlR d w1 (fun g => w.heap.size + 1 <= g) v2 x.2.2 := SlR.up (by simp) S2
   obtain ⟨va, vn, vc, rfl⟩ := SlR.form d _ _ S1
   obtain ⟨ua, un, uc, rfl⟩ := SlR.form d _ _ S2
   have H1 := ((RB.refl h).alloc _).trans R1
   have hO1 := (R1.k.block w.heap.size (by simp) (by omega)).trans (heap_new rfl)
   have HE : Hid (r = .ok (x, t1)) := by show _ = _; rw [HQ.out, hv]
   clear R1 HQ hv
   dsimp only
   iterate 1 go_step
   refine wpList_store_row rfl 226 (.tmp 2) (.tmp 11) rfl (w.heap.size) (stA x.1 (.slice va vn vc) (.slice ua un uc)) rfl rfl 226 (stA (stW []) nilV nilV) (hO1) (by kernel_rfl) rfl (by simp [Value.oneCell']) ?_
   go_wp2_with fail
   rw [HE.out]
   refine ⟨rfl, _, res_cell Tryz.results140 _ _ w.heap.size _ 226 _ rfl (setRow_heap _ _ _ _ _ _ hO1) Tryz.underlying226 rfl (by kernel_rfl), .slice va vn vc, .slice ua un uc, rfl, ?_, SlR.up (by omega) (SlR.row (by omega) S1), SlR.up (by omega) (SlR.row (by omega) S2)⟩
   refine RB.setRow ?_ (Nat.le_refl _) _; repeat (first | refine RB.set ?_ (by first | exact Nat.le_refl _ | omega | (simp; omega)) _ _ | refine RB.alloc ?_ _ | refine RB.drew ?_ | exact H1)
 ·have b1 : (t.txt == [105, 102]) = false := by simpa using hi
  by_cases hj : t.txt = [114, 101, 112, 101, 97, 116]
  ·have b2 : (t.txt == [114, 101, 112, 101, 97, 116]) = true := by simp [hj]
   replace HQ : Hid (r = repS (blockS l d) (BTnil d) l lo t) := by show _ = _; rw [HQ.out, if_neg hi, if_pos hj]
   clear hi hj
   go_enter Tryz.func140, Tryz.ntmps140
   go_wp2_with fail
   cases hv : repS (blockS l d) (BTnil d) l lo t with
   | error q =>
    obtain ⟨qd, pp⟩ := q
    refine (rep_er hB (h.alloc _) h8 hlo hv).mono ?_
    rintro e we h3
    obtain ⟨f, rfl, hf2⟩ := h3.from ((But.refl b w).alloc _)
    have HE : Hid (r = .error (qd, pp)) := by show _ = _; rw [HQ.out, hv]
    clear h3 HQ hv
    go_wp2_with fail
    rw [HE.out]
    exact ⟨rfl, f, rfl, hf2⟩
   | ok q =>
    obtain ⟨x, t1⟩ := q
    refine (rep_ok hB (h.alloc _) h8 hlo hv).mono ?_
    rintro e w1 ⟨v1, v2, rfl, R1, S1, S2⟩
    replace S1 : SlR d w1 (fun g => w.heap.size + 1 <= g) v1 x.2.1 := SlR.up (by simp) S1
    replace S2 : SlR d w1 (fun g => w.heap.size + 1 <= g) v2 x.2.2 := SlR.up (by simp) S2
    obtain ⟨va, vn, vc, rfl⟩ := SlR.form d _ _ S1
    obtain ⟨ua, un, uc, rfl⟩ := SlR.form d _ _ S2
    have H1 := ((RB.refl h).alloc _).trans R1
    have hO1 := (R1.k.block w.heap.size (by simp) (by omega)).trans (heap_new rfl)
    have HE : Hid (r = .ok (x, t1)) := by show _ = _; rw [HQ.out, hv]
    clear R1 HQ hv
    dsimp only
    iterate 1 go_step
    refine wpList_store_row rfl 226 (.tmp 2) (.tmp 15) rfl (w.heap.size) (stA x.1 (.slice va vn vc) (.slice ua un uc)) rfl rfl 226 (stA (stW []) nilV nilV) (hO1) (by kernel_rfl) rfl (by simp [Value.oneCell']) ?_
    go_wp2_with fail
    rw [HE.out]
    refine ⟨rfl, _, res_cell Tryz.results140 _ _ w.heap.size _ 226 _ rfl (setRow_heap _ _ _ _ _ _ hO1) Tryz.underlying226 rfl (by kernel_rfl), .slice va vn vc, .slice ua un uc, rfl, ?_, SlR.up (by omega) (SlR.row (by omega) S1), SlR.up (by omega) (SlR.row (by omega) S2)⟩
    refine RB.setRow ?_ (Nat.le_refl _) _; repeat (first | refine RB.set ?_ (by first | exact Nat.le_refl _ | omega | (simp; omega)) _ _ | refine RB.alloc ?_ _ | refine RB.drew ?_ | exact H1)
  ·have b2 : (t.txt == [114, 101, 112, 101, 97, 116]) = false := by simpa using hj
   replace HQ : Hid (r = bindR (plainS l t) fun s t1 => .ok ((s, BTnil d, BTnil d), t1)) := by show _ = _; rw [HQ.out, if_neg hi, if_neg hj]
   clear hi hj
   go_enter Tryz.func140, Tryz.ntmps140
   go_wp2_with fail
   cases hv : plainS l t with
   | error q =>
    obtain ⟨qd, pp⟩ := q
    refine (plain_er (h.alloc _) hv).mono ?_
    rintro e we h3
    obtain ⟨f, rfl, hf2⟩ := h3.from ((But.refl b w).alloc _)
    have HE : Hid (r = .error (qd, pp)) := by show _ = _; rw [HQ.out, hv]; rfl
    clear h3 HQ hv
    go_wp2_with fail
    rw [HE.out]
    exact ⟨rfl, f, rfl, hf2⟩
   | ok q =>
    obtain ⟨x, t1⟩ := q
    refine (plain_ok (h.alloc _) hv).mono ?_
    rintro e w1 ⟨rfl, R1⟩
    have S1 : SlR d w1 (fun g => w.heap.size + 1 <= g) nilV (BTnil d) := SlR.nil d _ _
    have S2 := S1
    have H1 := ((RB.refl h).alloc _).trans R1
    have hO1 := (R1.k.block w.heap.size (by simp) (by omega)).trans (heap_new rfl)
    have HE : Hid (r = .ok ((x, BTnil d, BTnil d), t1)) := by show _ = _; rw [HQ.out, hv]; rfl
    clear R1 HQ hv
    dsimp only
    iterate 1 go_step
    refine wpList_store_row rfl 226 (.tmp 2) (.tmp 17) rfl (w.heap.size) (stA x nilV nilV) rfl rfl 226 (stA (stW []) nilV nilV) (hO1) (by kernel_rfl) rfl (by simp [Value.oneCell']) ?_
    go_wp2_with fail
    rw [HE.out]
    refine ⟨rfl, _, res_cell Tryz.results140 _ _ w.heap.size _ 226 _ rfl (setRow_heap _ _ _ _ _ _ hO1) Tryz.underlying226 rfl (by kernel_rfl), nilV, nilV, rfl, ?_, SlR.up (by omega) (SlR.row (by omega) S1), SlR.up (by omega) (SlR.row (by omega) S2)⟩
    refine RB.setRow ?_ (Nat.le_refl _) _; repeat (first | refine RB.set ?_ (by first | exact Nat.le_refl _ | omega | (simp; omega)) _ _ | refine RB.alloc ?_ _ | refine RB.drew ?_ | exact H1)
theorem stmt_ok {d : Nat} (hB : BlkC d) {w : World} {b : Nat} {l : List UInt8} {t : Tok} {bl lo : Nat} {X Y : Value} {x : St × BT d × BT d} {t' : Tok} (h : Rw w b l t bl lo X Y) (h8 : bl + d = 8) (hlo : lo <= 2) (hv : stmtS (blockS l d) (BTnil d) l lo t = .ok (x, t')) :
  Calls Tryz.prog 140 #[ptr b] w fun e w' => ∃ v1 v2, e = .returned (.agg (stA x.1 v1 v2)) /\ RB w w' b l t' bl lo X Y /\ SlR d w' (fun g => w.heap.size <= g) v1 x.2.1 /\ SlR d w' (fun g => w.heap.size <= g) v2 x.2.2 := by
 refine (stmt_any hB h h8 hlo).mono fun e w' H => ?_
 rw [hv] at H; exact H
theorem stmt_er {d : Nat} (hB : BlkC d) {w : World} {b : Nat} {l : List UInt8} {t : Tok} {bl lo : Nat} {X Y : Value} {q : Bool} {p : Nat} (h : Rw w b l t bl lo X Y) (h8 : bl + d = 8) (hlo : lo <= 2) (hv : stmtS (blockS l d) (BTnil d) l lo t = .error (q, p)) :
  Calls Tryz.prog 140 #[ptr b] w fun e w' => Flt w b (if q then Y else X) p e w' := by
 refine (stmt_any hB h h8 hlo).mono fun e w' H => ?_
 rw [hv] at H; exact H
theorem bindR_ok {α β : Type} {r : PR α} {f : α -> Tok -> PR β} {y : β} {t' : Tok} (h : bindR r f = .ok (y, t')) : ∃ x t1, r = .ok (x, t1) /\ f x t1 = .ok (y, t') := by
 unfold bindR at h
 split at h
 ·cases h
 ·exact ⟨_, _, rfl, h⟩
theorem nx_mono (l : List UInt8) (t : Tok) : t.pos <= (nx l t).pos := Nat.le_trans (Nat.le_add_right _ _) (nx_pos l t)
theorem nx_one (l : List UInt8) (t : Tok) (s : List UInt8) (h : t.txt = s) (hs : 1 <= s.length) : t.pos + 1 <= (nx l t).pos := by
 have := nx_pos l t; rw [h] at this; omega
theorem name_m {l : List UInt8} {t t' : Tok} {x : NP} (h : nameS l t = .ok (x, t')) : t.pos <= t'.pos := by
 unfold nameS at h; split at h
 ·cases h; exact nx_mono l t
 ·cases h
theorem num_m {l : List UInt8} {t t' : Tok} {x : Nat × Nat} (h : numS l t = .ok (x, t')) : t.pos <= t'.pos := by
 unfold numS at h; split at h
 ·cases h; exact nx_mono l t
 ·cases h
theorem need_m {s l : List UInt8} {t t' : Tok} {x : Unit} (h : needS s l t = .ok (x, t')) : t.pos <= t'.pos := by
 unfold needS at h; split at h
 ·cases h; exact nx_mono l t
 ·cases h
theorem semi_m {l : List UInt8} {t t' : Tok} {s x : St} (h : semi l s t = .ok (x, t')) : t.pos <= t'.pos := by
 unfold semi at h; split at h
 ·cases h; exact nx_mono l t
 ·cases h
theorem tail_m (l : List UInt8) (t : Tok) : t.pos <= (tailS l t).2.pos := by
 unfold tailS; split
 ·exact nx_mono l t
 ·exact Nat.le_refl _
theorem value_m {l : List UInt8} {t t' : Tok} {x : Vl} (h : valueS l t = .ok (x, t')) : t.pos <= t'.pos := by
 have a := nx_mono l t
 have c := nx_mono l (nx l t)
 unfold valueS at h
 split at h
 ·split at h
  ·cases h; omega
  ·cases h
 ·split at h
  ·cases h; exact a
  ·split at h
   ·cases h; exact a
   ·split at h
    ·cases h; exact a
    ·cases h
theorem nots_m (l : List UInt8) : ∀ (f : Nat) (n : Bool) (t : Tok), t.pos <= (notsS l f n t).2.pos
 | 0, _, _ => Nat.le_refl _
 | f + 1, n, t => by
  unfold notsS; split
  ·exact Nat.le_trans (nx_mono l t) (nots_m l f _ _)
  ·exact Nat.le_refl _
theorem cond_m {l : List UInt8} {t t' : Tok} {x : Cd} (h : condS l t = .ok (x, t')) : t.pos <= t'.pos := by
 unfold condS at h
 have hn := nots_m l (l.length + 1) false t
 generalize notsS l (l.length + 1) false t = p at *
 refine Nat.le_trans hn ?_
 unfold condT at h
 split at h
 ·split at h
  ·cases h; exact Nat.le_trans (nx_mono l _) (nx_mono l _)
  ·cases h
 ·split at h
  ·cases h
  ·rename_i hv
   have h1 := value_m hv
   split at h
   ·split at h
    ·cases h
    ·rename_i hv2
     have h2 := value_m hv2
     have h3 := nx_mono l
     cases h
     exact Nat.le_trans h1 (Nat.le_trans (nx_mono l _) h2)
   ·cases h
theorem plain_m {l : List UInt8} {t t' : Tok} {x : St} (h : plainS l t = .ok (x, t')) : t.pos + 1 <= t'.pos := by
 unfold plainS at h
 split at h
 ·rename_i hw
  have h0 := nx_one l t _ hw (by decide)
  obtain ⟨n, t1, h1, h2⟩ := bindR_ok h
  have := name_m h1; have := semi_m h2; have := tail_m l t1; omega
 ·split at h
  ·rename_i hw
   have h0 := nx_one l t _ hw (by decide)
   obtain ⟨n, t1, h1, h2⟩ := bindR_ok h
   obtain ⟨m, t2, h3, h4⟩ := bindR_ok h2
   have := name_m h1; have := name_m h3; have := semi_m h4; have := tail_m l t2; omega
  ·split at h
   ·rename_i hw
    have h0 : t.pos + 1 <= (nx l t).pos := by
     simp only [oneB, Bool.or_eq_true, beq_iff_eq] at hw
     rcases hw with ((e | e) | e) | e <;> exact nx_one l t _ e (by decide)
    obtain ⟨n, t1, h1, h2⟩ := bindR_ok h
    have := name_m h1; have := semi_m h2; omega
   ·split at h
    ·rename_i hw
     have h0 : t.pos + 1 <= (nx l t).pos := by
      simp only [zeroB, Bool.or_eq_true, beq_iff_eq] at hw
      rcases hw with e | e <;> exact nx_one l t _ e (by decide)
     have := semi_m h; omega
    ·cases h
theorem stmt_m {β : Type} {blk : Nat -> Tok -> PR β} {z : β} {l : List UInt8} {lo : Nat} (hb : ∀ lo t x t', blk lo t = .ok (x, t') -> t.pos <= t'.pos) {t t' : Tok} {x : St × β × β} (h : stmtS blk z l lo t = .ok (x, t')) : t.pos + 1 <= t'.pos := by
 unfold stmtS at h
 split at h
 ·rename_i hw
  have h0 := nx_one l t _ hw (by decide)
  unfold ifS at h
  obtain ⟨c, t1, h1, h⟩ := bindR_ok h
  obtain ⟨x1, t2, h2, h⟩ := bindR_ok h
  have := cond_m h1; have := hb _ _ _ _ h2
  split at h
  ·obtain ⟨y, t3, h3, h⟩ := bindR_ok h
   have := hb _ _ _ _ h3; have := nx_mono l t2
   cases h; omega
  ·cases h; omega
 ·split at h
  ·rename_i hw
   have h0 := nx_one l t _ hw (by decide)
   unfold repS at h
   split at h
   ·cases h
   ·obtain ⟨n, t1, h1, h⟩ := bindR_ok h
    obtain ⟨_, t2, h2, h⟩ := bindR_ok h
    obtain ⟨c, t3, h3, h⟩ := bindR_ok h
    obtain ⟨y, t4, h4, h⟩ := bindR_ok h
    have := num_m h1; have := need_m h2; have := cond_m h3; have := hb _ _ _ _ h4
    cases h; omega
  ·obtain ⟨s, t1, h1, h⟩ := bindR_ok h
   have := plain_m h1
   cases h; omega
theorem stmts_m {α : Type} {stm : Tok -> PR α} {l : List UInt8} (hs : ∀ t x t', stm t = .ok (x, t') -> t.pos <= t'.pos) : ∀ (f : Nat) (t t' : Tok) (xs : List α), stmtsS stm l f t = .ok (xs, t') -> t.pos <= t'.pos
 | 0, _, _, _, h => by cases h
 | f + 1, t, t', xs, h => by
  unfold stmtsS at h
  split at h
  ·cases h; exact nx_mono l t
  ·obtain ⟨x, t1, h1, h⟩ := bindR_ok h
   obtain ⟨ys, t2, h2, h⟩ := bindR_ok h
   have := hs _ _ _ h1; have := stmts_m hs f t1 t2 ys h2
   cases h; omega
theorem blockS_yes (l : List UInt8) (d lo : Nat) (t : Tok) (h : t.txt = [123]) : @Eq (PR (List (St × BT d × BT d))) (blockS l (d + 1) lo t) (stmtsS (stmtS (blockS l d) (BTnil d) l lo) l (l.length + 1) (nx l t)) := by
 unfold blockS; exact if_pos h
theorem blockS_no (l : List UInt8) (d lo : Nat) (t : Tok) (h : ¬ t.txt = [123]) : @Eq (PR (List (St × BT d × BT d))) (blockS l (d + 1) lo t) (.error (false, t.pos)) := by
 unfold blockS; exact if_neg h
theorem block_m {l : List UInt8} : ∀ (d lo : Nat) (t : Tok) (x : BT d) (t' : Tok), blockS l d lo t = .ok (x, t') -> t.pos <= t'.pos
 | 0, _, _, _, _, h => by unfold blockS at h; split at h <;> cases h
 | d + 1, lo, t, x, t', h => by
  by_cases hc : t.txt = [123]
  ·have e := (blockS_yes l d lo t hc).symm.trans h
   have := stmts_m (fun t x t' h => by have := stmt_m (fun lo t x t' => block_m d lo t x t') h; omega) _ _ _ _ e
   exact Nat.le_trans (nx_mono l t) this
  ·have e := (blockS_no l d lo t hc).symm.trans h
   cases e
theorem blk_zero : BlkC 0 := by
 intro w b l t bl lo X Y h h8 hlo
 have hgt := h.gt
 obtain ⟨c0, c1, c2, c3, c4, c5⟩ := h.rd.cells
 by_cases hb : t.txt = [123]
 ·have HE : Hid (blockS l 0 lo t = .error (true, t.pos)) := by show _ = _; unfold blockS; rw [if_pos hb]
  generalize blockS l 0 lo t = r at *
  have b1 : (t.txt == [123]) = true := by simp [hb]
  have b2 : ((bl : Int) == 8) = true := by rw [beq_iff_eq]; omega
  have hg := h.deep
  clear hb
  go_enter Tryz.func121, Tryz.ntmps121
  go_wp2_with fail
  refine (leave_r Y h).mono ?_
  rintro e we ⟨f, rfl, hf2⟩
  go_wp2_with fail
  rw [HE.out]
  exact ⟨rfl, f, rfl, hf2⟩
 ·have HE : Hid (blockS l 0 lo t = .error (false, t.pos)) := by show _ = _; unfold blockS; rw [if_neg hb]
  generalize blockS l 0 lo t = r at *
  have b1 : (t.txt == [123]) = false := by simpa using hb
  go_enter Tryz.func121, Tryz.ntmps121
  go_wp2_with fail
  refine (need_no [123] h hb).mono ?_
  rintro e we ⟨f, rfl, hf2⟩
  go_wp2_with fail
  rw [HE.out]
  exact ⟨rfl, f, rfl, hf2⟩
theorem ownsRow_zero {w : World} {base : Nat} {e : TypeId} {size n : Nat} {v : Value} {xs : List Value} (h : w.ownsRow base e size v n xs) : w.ownsRow 0 e size v n xs := by
 refine ⟨h.1, ?_⟩
 rcases h.2 with h0 | ⟨g, cap, cur, hv, hg, r⟩
 ·exact Or.inl h0
 ·exact Or.inr ⟨g, cap, cur, hv, Nat.zero_le _, r⟩
theorem bindR_assoc {α β γ : Type} (r : PR α) (f : α -> Tok -> PR β) (g : β -> Tok -> PR γ) : bindR (bindR r f) g = bindR r fun x t => bindR (f x t) g := by
 unfold bindR; cases r with
 | error e => rfl
 | ok q => rfl
theorem ownsRow_moveB {w w' : World} {base : Nat} {e : TypeId} {size n : Nat} {v : Value} {xs : List Value} (h : w.ownsRow base e size v n xs) (hb : ∀ g, v.ownBlock = some g -> g < w.heap.size -> w'.heap[g]? = w.heap[g]?) : w'.ownsRow base e size v n xs := by
 refine ⟨h.1, ?_⟩
 rcases h.2 with h0 | ⟨g, cap, cur, hv, hg, hh, r⟩
 ·exact Or.inl h0
 ·exact Or.inr ⟨g, cap, cur, hv, hg, by rw [hb g (by rw [hv]; rfl) (Array.getElem?_eq_some_iff.1 hh).1]; exact hh, r⟩
theorem RB.grown {w0 w w' : World} {b : Nat} {l : List UInt8} {t : Tok} {bl lo : Nat} {X Y : Value} (h : RB w0 w b l t bl lo X Y) {row : Option Nat} (hg : w.grownBy w' row) (hr : ∀ k, row = some k -> w0.heap.size <= k) : RB w0 w' b l t bl lo X Y := by
 have hz := h.z
 have hk := h.k.size
 have hbl : ∀ k, k < w0.heap.size -> w'.heap[k]? = w.heap[k]? := fun k hlt => hg.block k (by omega) (fun e => by have := hr k e.symm; omega)
 refine ⟨⟨?_, ?_, ?_, h.r.nsyn, h.r.ndeep, h.r.len, h.r.tk⟩, ⟨hg.os.trans h.k.os, hg.tape.trans h.k.tape, hg.output.trans h.k.output, Nat.le_trans hk hg.size, fun k hlt hn => (hbl k hlt).trans (h.k.block k hlt hn)⟩, h.z⟩
 ·exact (hbl b hz.2.2).trans h.r.rd
 ·exact (World.cell?_of_block (w := w) (hbl _ hz.1)).trans h.r.syn
 ·exact (World.cell?_of_block (w := w) (hbl _ hz.2.1)).trans h.r.deep
theorem row_cells (w : World) (A : Array Value) (T : TypeId) : ∀ j u, A.toList[j]? = some u -> (w.alloc (.cells A T)).cell? ((⟨w.heap.size, 0, none⟩ : Addr).add j) = some u := by
 intro j u hj
 have hadd : (⟨w.heap.size, 0, none⟩ : Addr).add j = ⟨w.heap.size, j, none⟩ := by unfold Addr.add; split <;> simp_all
 rw [hadd, cell_of_row _ _ j A T (0, 0) (heap_new rfl)]
 simpa using hj
theorem stA_one (s : St) (a : Option Addr) (n c : Nat) (a' : Option Addr) (n' c' : Nat) : ∀ u ∈ (stA s (.slice a n c) (.slice a' n' c')).toList, u.oneCell' = true := by
 have h : (stA s (.slice a n c) (.slice a' n' c')).toList.all (·.oneCell') = true := by simp [Value.oneCell']
 exact fun u hu => List.all_eq_true.1 h u hu
theorem info_st : (Tryz.prog.info? 226).map (fun i => (i.zero, i.size, i.bytes)) = some (some (.agg (stA (stW []) nilV nilV)), 25, 288) := by kernel_rfl
theorem flatR_snoc (rows : List (St × Value × Value)) (r : St × Value × Value) : flatR (rows ++ [r]) = flatR rows ++ (stA r.1 r.2.1 r.2.2).toList := by
 simp [flatR]
theorem blk_succ (d : Nat) (ih : BlkC d) : BlkC (d + 1) := by
 intro w b l t bl lo X Y h h8 hlo
 have hgt := h.gt
 obtain ⟨c0, c1, c2, c3, c4, c5⟩ := h.rd.cells
 by_cases hb : t.txt = [123]
 ·have HQ : Hid (@Eq (PR (List (St × BT d × BT d))) (blockS l (d + 1) lo t) (stmtsS (stmtS (blockS l d) (BTnil d) l lo) l (l.length + 1) (nx l t))) := blockS_yes l d lo t hb
  generalize blockS l (d + 1) lo t = r at *
  have b1 : (t.txt == [123]) = true := by simp [hb]
  have b2 : ((bl : Int) == 8) = false := by rw [beq_eq_false_iff_ne]; omega
  have hbl : bl < 8 := by omega
  go_enter Tryz.func121, Tryz.ntmps121
  go_wp2_with fail
  refine (need_yes [123] h hb).mono ?_
  rintro e w1 ⟨rfl, R1⟩
  clear b1 b2 c0 c1 c2 c3 c4 c5 hb
  obtain ⟨c0, c1, c2, c3, c4, c5⟩ := R1.r.rd.cells
  have cfz := R1.r.rd.frozen
  go_wp2_with fail
  have H1 : RB w (w1.setCell ⟨b, 4, none⟩ (.int .i64 ((bl : Int) + 1))) b l (nx l t) (bl + 1) lo X Y := R1.putB (bl + 1)
  clear c0 c1 c2 c3 c4 c5 cfz
  generalize w1.setCell ⟨b, 4, none⟩ (.int .i64 ((bl : Int) + 1)) = w2 at *
  clear R1
  go_loopg [3] (l.length + 1) (fun f v wr => ∃ (rows : List (St × Value × Value)) (done : List (St × BT d × BT d)) (t1 : Tok), Hid (@Eq (PR (List (St × BT d × BT d))) r (bindR (stmtsS (stmtS (blockS l d) (BTnil d) l lo) l f t1) fun ys t' => .ok (done ++ ys, t'))) /\ l.length + 1 <= f + t1.pos /\ rows.length + f <= l.length + 1 /\ RB w wr b l t1 (bl + 1) lo X Y /\ RelRows (SlR d wr (fun g => w.heap.size <= g /\ v.ownBlock ≠ some g)) rows done /\ wr.ownsRow w.heap.size 226 25 v rows.length (flatR rows))
  case atStart =>
   refine ⟨[], [], nx l t, ?_, by omega, by simp, H1, trivial, World.ownsRow_nil _ _ _ _⟩
   show _ = _
   refine HQ.out.trans ?_
   unfold bindR
   split <;> rename_i h <;> simp [h]
  case round =>
   obtain ⟨rows, done, t1, HR, hf, hn, hR, hrel, hown⟩ := hrel
   have hpos := hR.r.bnd
   have hlen := hR.r.len
   cases gk with
   | zero => exfalso; omega
   | succ k =>
   by_cases hr : t1.txt = [125]
   ·go_wp2_with (go_at_call 139; refine (take_yes [125] hR.r hr).mono ?_; rintro e w3 ⟨rfl, R3⟩; obtain ⟨c0, c1, c2, c3, c4, c5⟩ := R3.r.rd.cells; have cfz := R3.r.rd.frozen)
    have HE : Hid (@Eq (PR (List (St × BT d × BT d))) r (.ok (done, nx l t1))) := by
     show _ = _
     refine HR.out.trans ?_
     unfold stmtsS; rw [if_pos hr]; simp [bindR]
    clear c0 c1 c2 c3 c4 c5 cfz
    go_ret
    rw [HE.out]
    refine ⟨u3, rfl, (hR.trans R3).putB bl, rows, ?_, ?_, fun g hg => (hown.lt g hg).1⟩
    ·refine RelRows.mono (fun v x hv => ?_) _ _ hrel
     refine SlR.mono d (fun g (hg : w.heap.size <= g /\ u3.ownBlock ≠ some g) => hg.1) v x (SlR.move d (fun g hg hl => ?_) v x hv)
     exact (Below.heap_setCell _ _ _ _ (by show g ≠ b; omega)).trans (R3.k.block g hl (by omega))
    ·refine ownsRow_move (ownsRow_zero hown) (fun g hg hl => ?_)
     have := (hown.lt g hg).1
     exact (Below.heap_setCell _ _ _ _ (by show g ≠ b; omega)).trans (R3.k.block g hl (by omega))
   ·go_wp2_with fail
    refine (take_no [125] hR.r hr).mono ?_
    rintro e w3 ⟨rfl, rfl⟩
    go_wp2_with fail
    cases hv : stmtS (blockS l d) (BTnil d) l lo t1 with
    | error q =>
     obtain ⟨qd, pp⟩ := q
     refine (stmt_er ih hR.r (by omega) hlo hv).mono ?_
     rintro e we h3
     obtain ⟨f, rfl, hf2⟩ := h3.from hR.k
     have HE : Hid (@Eq (PR (List (St × BT d × BT d))) r (.error (qd, pp))) := by
      show _ = _
      refine HR.out.trans ?_
      unfold stmtsS; rw [if_neg hr, hv]; rfl
     clear h3 HQ hv
     go_wp2_with fail
     rw [HE.out]
     exact ⟨rfl, f, rfl, hf2⟩
    | ok q =>
     obtain ⟨x, t2⟩ := q
     refine (stmt_ok ih hR.r (by omega) hlo hv).mono ?_
     rintro e w4 ⟨v1, v2, rfl, R4, S1, S2⟩
     obtain ⟨va, vn, vc, rfl⟩ := SlR.form d _ _ S1
     obtain ⟨ua, un, uc, rfl⟩ := SlR.form d _ _ S2
     have hadv := stmt_m (fun lo t x t' => block_m d lo t x t') hv
     have HS : Hid (@Eq (PR (List (St × BT d × BT d))) r (bindR (stmtsS (stmtS (blockS l d) (BTnil d) l lo) l k t2) fun ys t' => .ok ((done ++ [x]) ++ ys, t'))) := by
      show _ = _
      refine HR.out.trans ?_
      conv => lhs; unfold stmtsS
      rw [if_neg hr, hv]
      show bindR (bindR (stmtsS (stmtS (blockS l d) (BTnil d) l lo) l k t2) _) _ = _
      rw [bindR_assoc]
      simp only [bindR, List.append_assoc, List.singleton_append]
     have z3 := R4.k.size
     have zw := hR.k.size
     have how4 : w4.ownsRow w.heap.size 226 25 u3 rows.length (flatR rows) := ownsRow_moveB hown (fun g hg hl => R4.k.block g hl (by have := (hown.lt g hg).1; omega))
     have hold : RelRows (SlR d w4 (fun g => w.heap.size <= g /\ g < w3.heap.size /\ u3.ownBlock ≠ some g)) rows done := by
      refine RelRows.mono (fun v x hv => ?_) _ _ hrel
      refine SlR.move d (fun g hg hl => R4.k.block g (by omega) (by omega)) v x ?_
      exact SlR.mono d (fun g hg => ⟨hg.1.1, hg.2, hg.1.2⟩) v x (SlR.there d v x hv)
     have hlt3 : ∀ g, u3.ownBlock = some g -> w.heap.size <= g /\ g < w3.heap.size := fun g hg => hown.lt g hg
     have H4 := hR.trans R4
     clear HR hv hrel hown hR R4 HQ H1
     dsimp only
     iterate 4 go_step
     obtain ⟨i0, hi, hz0, hz1, hz2⟩ := info_parts info_st
     refine wpList_append_own_at (P := Tryz.prog) _ rfl (.tmp 32) (.tmp 35) 159 rfl w.heap.size 226 i0 (.agg (stA (stW []) nilV nilV)) 25 288 Tryz.underlying159 hi hz0 hz1 hz2 rfl (by decide) u3 rows.length (flatR rows) rfl (ownsRow_moveB how4 (fun g hg hl => Below.heap_alloc _ _ _ hl)) ⟨w4.heap.size, 0, none⟩ 1 1 (stA x.1 (.slice va vn vc) (.slice ua un uc)).toList rfl rfl (row_cells _ _ _) (stA_one _ _ _ _ _ _ _) (by simp only [maxLen]; omega) (by omega) (by simp; omega) ?_
     intro v' w5 hown5 hgrow hnil hat
     go_wp2_with fail
     go_roundg k
     case measure => omega
     case rel =>
      have hag : ∀ g, g < w4.heap.size -> u3.ownBlock ≠ some g -> w5.heap[g]? = w4.heap[g]? := fun g hl hne => (hgrow.block g (by simp; omega) (fun e => hne e.symm)).trans (Below.heap_alloc _ _ _ hl)
      have hvn : ∀ g, g < w4.heap.size -> u3.ownBlock ≠ some g -> v'.ownBlock ≠ some g := fun g hl hne e => by
       rcases hat with h1 | h1
       ·exact hne (h1.symm.trans e)
       ·rw [h1] at e; simp at e; omega
      refine ⟨rows ++ [(x.1, .slice va vn vc, .slice ua un uc)], done ++ [x], t2, HS, by omega, by simp; omega, (H4.alloc _).grown hgrow (fun g hg => (hlt3 g hg).1), ?_, ?_⟩
      ·refine RelRows.snoc (x.1, .slice va vn vc, .slice ua un uc) x rfl ?_ ?_ rows done ?_
       ·refine SlR.mono d (fun g hg => ⟨by omega, hvn g hg.2 (fun e => by have := hlt3 g e; omega)⟩) _ _ (SlR.move d (fun g hg hl => hag g hl (fun e => by have := hlt3 g e; omega)) _ _ (SlR.there d _ _ S1))
       ·refine SlR.mono d (fun g hg => ⟨by omega, hvn g hg.2 (fun e => by have := hlt3 g e; omega)⟩) _ _ (SlR.move d (fun g hg hl => hag g hl (fun e => by have := hlt3 g e; omega)) _ _ (SlR.there d _ _ S2))
       ·refine RelRows.mono (fun v x hv => ?_) _ _ hold
        exact SlR.mono d (fun g hg => ⟨hg.1, hvn g (by omega) hg.2.2⟩) v x (SlR.move d (fun g hg hl => hag g hl hg.2.2) v x hv)
      ·rw [flatR_snoc]; simpa using hown5
 ·have HE : Hid (@Eq (PR (List (St × BT d × BT d))) (blockS l (d + 1) lo t) (.error (false, t.pos))) := blockS_no l d lo t hb
  generalize blockS l (d + 1) lo t = r at *
  have b1 : (t.txt == [123]) = false := by simpa using hb
  go_enter Tryz.func121, Tryz.ntmps121
  go_wp2_with fail
  refine (need_no [123] h hb).mono ?_
  rintro e we ⟨f, rfl, hf2⟩
  go_wp2_with fail
  rw [HE.out]
  exact ⟨rfl, f, rfl, hf2⟩
theorem blk_all : ∀ d, BlkC d
 | 0 => blk_zero
 | d + 1 => blk_succ d (blk_all d)
structure Dc where
 word : List UInt8
 pos : Nat
 name : NP
 num : Nat × Nat
abbrev dcA (d : Dc) : Array Value := #[.string ⟨d.word.toArray⟩, .int .i64 d.pos, .string ⟨d.name.1.toArray⟩, .int .i64 d.name.2, .int .i64 d.num.1, .int .i64 d.num.2]
def declS (l : List UInt8) (t : Tok) : PR Dc :=
 if t.txt = [102, 114, 101, 113] then bindR (numS l (nx l t)) fun n t1 => bindR (needS [59] l t1) fun _ t2 => .ok (⟨t.txt, t.pos, ([], 0), n⟩, t2)
 else bindR (nameS l (nx l t)) fun m t1 => bindR (numS l t1) fun n t2 => bindR (needS [59] l t2) fun _ t3 => .ok (⟨t.txt, t.pos, m, n⟩, t3)
theorem decl_any {w : World} {b : Nat} {l : List UInt8} {t : Tok} {bl lo : Nat} {X Y : Value} (h : Rw w b l t bl lo X Y) :
  Calls Tryz.prog 89 #[ptr b] w fun e w' => Out w b l bl lo X Y (fun d => .agg (dcA d)) (declS l t) e w' := by
 have hgt := h.gt
 by_cases hw : t.txt = [102, 114, 101, 113]
 ·have HQ : Hid (declS l t = bindR (numS l (nx l t)) fun n t1 => bindR (needS [59] l t1) fun _ t2 => .ok (⟨t.txt, t.pos, ([], 0), n⟩, t2)) := by
   show _ = _
   unfold declS; rw [if_pos hw]
  generalize declS l t = r at *
  have b1 : (t.txt != [102, 114, 101, 113]) = false := by simp [hw]
  have b2 : (t.txt == [102, 114, 101, 113]) = true := by simp [hw]
  clear hw
  go_enter Tryz.func89, Tryz.ntmps89
  go_wp2_with fail
  refine (step_r (h.alloc _)).mono ?_
  rintro e w1 ⟨rfl, R1⟩
  have H1 := ((RB.refl h).alloc _).trans R1
  have hO1 := (R1.k.block w.heap.size (by simp) (by omega)).trans (heap_new rfl)
  have z1 : w.heap.size < w1.heap.size := (Array.getElem?_eq_some_iff.1 hO1).1
  have hM : w.heap.size < w1.heap.size + 1 := by omega
  clear R1
  go_wp2_with fail
  cases hn : numS l (nx l t) with
  | error q =>
   obtain ⟨qd, pp⟩ := q
   refine (number_er (l := l) (t := nx l t) (bl := bl) (lo := lo) (X := X) (Y := Y) (RB.r (w0 := w) (l := l) (t := nx l t) (bl := bl) (lo := lo) (X := X) (Y := Y) (by repeat (first | refine RB.set ?_ (by first | exact Nat.le_refl _ | omega | (simp; omega)) _ _ | refine RB.alloc ?_ _ | refine RB.drew ?_ | exact H1))) hn).mono ?_
   rintro e we h3
   obtain ⟨f, rfl, h2⟩ := h3.from (RB.k (w0 := w) (l := l) (t := nx l t) (bl := bl) (lo := lo) (X := X) (Y := Y) (by repeat (first | refine RB.set ?_ (by first | exact Nat.le_refl _ | omega | (simp; omega)) _ _ | refine RB.alloc ?_ _ | refine RB.drew ?_ | exact H1)))
   have HE : Hid (r = .error (qd, pp)) := by show _ = _; rw [HQ.out, hn]; rfl
   clear h3 HQ hn
   go_wp2_with fail
   rw [HE.out]
   exact ⟨rfl, f, rfl, h2⟩
  | ok q =>
   obtain ⟨n, t1⟩ := q
   refine (number_ok (l := l) (t := nx l t) (bl := bl) (lo := lo) (X := X) (Y := Y) (RB.r (w0 := w) (l := l) (t := nx l t) (bl := bl) (lo := lo) (X := X) (Y := Y) (by repeat (first | refine RB.set ?_ (by first | exact Nat.le_refl _ | omega | (simp; omega)) _ _ | refine RB.alloc ?_ _ | refine RB.drew ?_ | exact H1))) hn).mono ?_
   rintro e w2 ⟨rfl, R2⟩
   replace HQ : Hid (r = bindR (needS [59] l t1) fun _ t2 => .ok (⟨t.txt, t.pos, ([], 0), n⟩, t2)) := by show _ = _; rw [HQ.out, hn]; rfl
   clear hn
   have H2 := RB.trans (w0 := w) (t := nx l t) (bl := bl) (lo := lo) (by repeat (first | refine RB.set ?_ (by first | exact Nat.le_refl _ | omega | (simp; omega)) _ _ | refine RB.alloc ?_ _ | refine RB.drew ?_ | exact H1)) R2
   have hO2 := (R2.k.block w.heap.size (by first | omega | (simp; omega) | (simp [World.setCell]; omega)) (by omega)).trans ((Below.heap_alloc _ _ _ (by simp; omega)).trans ((Below.heap_alloc _ _ _ z1).trans hO1))
   have hC2 : w2.heap[w1.heap.size + 1]? = some (.cells (dcA ⟨t.txt, t.pos, ([], 0), (0, 0)⟩) 120) := (R2.k.block (w1.heap.size + 1) (by simp) (by omega)).trans (heap_new (by simp))
   clear R2 H1 hO1
   generalize w1.heap.size + 1 = M at *
   have z2 : M < w2.heap.size := (Array.getElem?_eq_some_iff.1 hC2).1
   obtain ⟨cc, cf⟩ := blk_cells hC2
   go_wp2_with fail
   by_cases hsm : (t1).txt = [59]
   ·refine (need_yes (l := l) (t := t1) (bl := bl) (lo := lo) (X := X) (Y := Y) [59] (RB.r (w0 := w) (l := l) (t := t1) (bl := bl) (lo := lo) (X := X) (Y := Y) (by repeat (first | refine RB.set ?_ (by first | exact Nat.le_refl _ | omega | (simp; omega)) _ _ | refine RB.alloc ?_ _ | refine RB.drew ?_ | exact H2))) hsm).mono ?_
    rintro e we ⟨rfl, Re⟩
    have He := RB.trans (w0 := w) (t := t1) (bl := bl) (lo := lo) (by repeat (first | refine RB.set ?_ (by first | exact Nat.le_refl _ | omega | (simp; omega)) _ _ | refine RB.alloc ?_ _ | refine RB.drew ?_ | exact H2)) Re
    have hOe := (Re.k.block w.heap.size (by first | omega | (simp; omega) | (simp [World.setCell]; omega)) (by omega)).trans ((Below.heap_setCell _ _ _ _ (by first | (simp; done) | (simp; omega))).trans ((Below.heap_setCell _ _ _ _ (by first | (simp; done) | (simp; omega))).trans hO2))
    have hCe : we.heap[M]? = some (.cells (dcA ⟨t.txt, t.pos, ([], 0), n⟩) 120) := (Re.k.block M (by first | omega | (simp; omega) | (simp [World.setCell]; omega)) (by omega)).trans ((heap_setCell_same _ _ _ _ _ _ (heap_setCell_same _ _ _ _ _ _ hC2)).trans rfl)
    have HE : Hid (r = .ok (⟨t.txt, t.pos, ([], 0), n⟩, nx l (t1))) := by show _ = _; rw [HQ.out]; unfold needS; rw [if_pos hsm]; rfl
    clear cc cf Re hO2 hC2 HQ
    go_upto_region 7 with fail
    refine wp_region_lit ?_
    refine wpList_load_row rfl 120 (.tmp 4) rfl (M) rfl 120 (dcA ⟨t.txt, t.pos, ([], 0), n⟩) (0, 0) _ (hCe) Tryz.underlying120 rfl (by kernel_rfl) ?_
    refine wpList_store_row rfl 120 (.tmp 2) (.tmp 23) rfl (w.heap.size) (dcA ⟨t.txt, t.pos, ([], 0), n⟩) rfl rfl 120 (dcA ⟨[], 0, ([], 0), (0, 0)⟩) (hOe) (by kernel_rfl) rfl (by simp [Value.oneCell']) ?_
    go_wp2_with fail
    rw [HE.out]
    refine ⟨rfl, _, res_cell Tryz.results89 _ _ w.heap.size _ 120 _ rfl (setRow_heap _ _ _ _ _ _ hOe) Tryz.underlying120 rfl (by kernel_rfl), ?_, ?_⟩
    ·rfl
    ·refine RB.setRow ?_ (Nat.le_refl _) _; repeat (first | refine RB.set ?_ (by first | exact Nat.le_refl _ | omega | (simp; omega)) _ _ | refine RB.alloc ?_ _ | refine RB.drew ?_ | exact He)
   ·refine (need_no (l := l) (t := t1) (bl := bl) (lo := lo) (X := X) (Y := Y) [59] (RB.r (w0 := w) (l := l) (t := t1) (bl := bl) (lo := lo) (X := X) (Y := Y) (by repeat (first | refine RB.set ?_ (by first | exact Nat.le_refl _ | omega | (simp; omega)) _ _ | refine RB.alloc ?_ _ | refine RB.drew ?_ | exact H2))) hsm).mono ?_
    rintro e we h3
    obtain ⟨f, rfl, h2⟩ := h3.from (RB.k (w0 := w) (l := l) (t := t1) (bl := bl) (lo := lo) (X := X) (Y := Y) (by repeat (first | refine RB.set ?_ (by first | exact Nat.le_refl _ | omega | (simp; omega)) _ _ | refine RB.alloc ?_ _ | refine RB.drew ?_ | exact H2)))
    have HE : Hid (r = .error (false, (t1).pos)) := by show _ = _; rw [HQ.out]; unfold needS; rw [if_neg hsm]; rfl
    clear h3 cc cf HQ
    go_wp2_with fail
    rw [HE.out]
    exact ⟨rfl, f, rfl, h2⟩
 ·have HQ : Hid (declS l t = bindR (nameS l (nx l t)) fun m t1 => bindR (numS l t1) fun n t2 => bindR (needS [59] l t2) fun _ t3 => .ok (⟨t.txt, t.pos, m, n⟩, t3)) := by
   show _ = _
   unfold declS; rw [if_neg hw]
  generalize declS l t = r at *
  have b1 : (t.txt != [102, 114, 101, 113]) = true := by simpa using hw
  have b2 : (t.txt == [102, 114, 101, 113]) = false := by simpa using hw
  clear hw
  go_enter Tryz.func89, Tryz.ntmps89
  go_wp2_with fail
  refine (step_r (h.alloc _)).mono ?_
  rintro e w1 ⟨rfl, R1⟩
  have H1 := ((RB.refl h).alloc _).trans R1
  have hO1 := (R1.k.block w.heap.size (by simp) (by omega)).trans (heap_new rfl)
  have z1 : w.heap.size < w1.heap.size := (Array.getElem?_eq_some_iff.1 hO1).1
  have hM : w.heap.size < w1.heap.size + 1 := by omega
  clear R1
  go_wp2_with fail
  cases hm : nameS l (nx l t) with
  | error q =>
   obtain ⟨qd, pp⟩ := q
   refine (name_er (l := l) (t := nx l t) (bl := bl) (lo := lo) (X := X) (Y := Y) (RB.r (w0 := w) (l := l) (t := nx l t) (bl := bl) (lo := lo) (X := X) (Y := Y) (by repeat (first | refine RB.set ?_ (by first | exact Nat.le_refl _ | omega | (simp; omega)) _ _ | refine RB.alloc ?_ _ | refine RB.drew ?_ | exact H1))) hm).mono ?_
   rintro e we h3
   obtain ⟨f, rfl, h2⟩ := h3.from (RB.k (w0 := w) (l := l) (t := nx l t) (bl := bl) (lo := lo) (X := X) (Y := Y) (by repeat (first | refine RB.set ?_ (by first | exact Nat.le_refl _ | omega | (simp; omega)) _ _ | refine RB.alloc ?_ _ | refine RB.drew ?_ | exact H1)))
   have HE : Hid (r = .error (qd, pp)) := by show _ = _; rw [HQ.out, hm]; rfl
   clear h3 HQ hm
   go_wp2_with fail
   rw [HE.out]
   exact ⟨rfl, f, rfl, h2⟩
  | ok q =>
   obtain ⟨m, t1⟩ := q
   refine (name_ok (l := l) (t := nx l t) (bl := bl) (lo := lo) (X := X) (Y := Y) (RB.r (w0 := w) (l := l) (t := nx l t) (bl := bl) (lo := lo) (X := X) (Y := Y) (by repeat (first | refine RB.set ?_ (by first | exact Nat.le_refl _ | omega | (simp; omega)) _ _ | refine RB.alloc ?_ _ | refine RB.drew ?_ | exact H1))) hm).mono ?_
   rintro e w2 ⟨rfl, R2⟩
   replace HQ : Hid (r = bindR (numS l t1) fun n t2 => bindR (needS [59] l t2) fun _ t3 => .ok (⟨t.txt, t.pos, m, n⟩, t3)) := by show _ = _; rw [HQ.out, hm]; rfl
   clear hm
   have H2 := RB.trans (w0 := w) (t := nx l t) (bl := bl) (lo := lo) (by repeat (first | refine RB.set ?_ (by first | exact Nat.le_refl _ | omega | (simp; omega)) _ _ | refine RB.alloc ?_ _ | refine RB.drew ?_ | exact H1)) R2
   have hO2 := (R2.k.block w.heap.size (by first | omega | (simp; omega) | (simp [World.setCell]; omega)) (by omega)).trans ((Below.heap_alloc _ _ _ (by simp; omega)).trans ((Below.heap_alloc _ _ _ z1).trans hO1))
   have hC2 : w2.heap[w1.heap.size + 1]? = some (.cells (dcA ⟨t.txt, t.pos, ([], 0), (0, 0)⟩) 120) := (R2.k.block (w1.heap.size + 1) (by simp) (by omega)).trans (heap_new (by simp))
   clear R2 H1 hO1
   generalize w1.heap.size + 1 = M at *
   have z2 : M < w2.heap.size := (Array.getElem?_eq_some_iff.1 hC2).1
   obtain ⟨cc, cf⟩ := blk_cells hC2
   go_wp2_with fail
   cases hn : numS l t1 with
   | error q =>
    obtain ⟨qd, pp⟩ := q
    refine (number_er (l := l) (t := t1) (bl := bl) (lo := lo) (X := X) (Y := Y) (RB.r (w0 := w) (l := l) (t := t1) (bl := bl) (lo := lo) (X := X) (Y := Y) (by repeat (first | refine RB.set ?_ (by first | exact Nat.le_refl _ | omega | (simp; omega)) _ _ | refine RB.alloc ?_ _ | refine RB.drew ?_ | exact H2))) hn).mono ?_
    rintro e we h3
    obtain ⟨f, rfl, h2⟩ := h3.from (RB.k (w0 := w) (l := l) (t := t1) (bl := bl) (lo := lo) (X := X) (Y := Y) (by repeat (first | refine RB.set ?_ (by first | exact Nat.le_refl _ | omega | (simp; omega)) _ _ | refine RB.alloc ?_ _ | refine RB.drew ?_ | exact H2)))
    have HE : Hid (r = .error (qd, pp)) := by show _ = _; rw [HQ.out, hn]; rfl
    clear h3 HQ hn cc cf
    go_wp2_with fail
    rw [HE.out]
    exact ⟨rfl, f, rfl, h2⟩
   | ok q =>
    obtain ⟨n, t2⟩ := q
    refine (number_ok (l := l) (t := t1) (bl := bl) (lo := lo) (X := X) (Y := Y) (RB.r (w0 := w) (l := l) (t := t1) (bl := bl) (lo := lo) (X := X) (Y := Y) (by repeat (first | refine RB.set ?_ (by first | exact Nat.le_refl _ | omega | (simp; omega)) _ _ | refine RB.alloc ?_ _ | refine RB.drew ?_ | exact H2))) hn).mono ?_
    rintro e w3 ⟨rfl, R3⟩
    replace HQ : Hid (r = bindR (needS [59] l t2) fun _ t3 => .ok (⟨t.txt, t.pos, m, n⟩, t3)) := by show _ = _; rw [HQ.out, hn]; rfl
    clear hn
    have H3 := RB.trans (w0 := w) (t := t1) (bl := bl) (lo := lo) (by repeat (first | refine RB.set ?_ (by first | exact Nat.le_refl _ | omega | (simp; omega)) _ _ | refine RB.alloc ?_ _ | refine RB.drew ?_ | exact H2)) R3
    have hO3 := (R3.k.block w.heap.size (by simp [World.setCell]; omega) (by omega)).trans ((Below.heap_setCell _ _ _ _ (by first | (simp; done) | (simp; omega))).trans ((Below.heap_setCell _ _ _ _ (by first | (simp; done) | (simp; omega))).trans hO2))
    have hC3 : w3.heap[M]? = some (.cells (dcA ⟨t.txt, t.pos, m, (0, 0)⟩) 120) := (R3.k.block M (by simp [World.setCell]; omega) (by omega)).trans ((heap_setCell_same _ _ _ _ _ _ (heap_setCell_same _ _ _ _ _ _ hC2)).trans rfl)
    have z3 : M < w3.heap.size := (Array.getElem?_eq_some_iff.1 hC3).1
    clear R3 H2 hO2 hC2 cc cf
    obtain ⟨cc, cf⟩ := blk_cells hC3
    go_wp2_with fail
    by_cases hsm : (t2).txt = [59]
    ·refine (need_yes (l := l) (t := t2) (bl := bl) (lo := lo) (X := X) (Y := Y) [59] (RB.r (w0 := w) (l := l) (t := t2) (bl := bl) (lo := lo) (X := X) (Y := Y) (by repeat (first | refine RB.set ?_ (by first | exact Nat.le_refl _ | omega | (simp; omega)) _ _ | refine RB.alloc ?_ _ | refine RB.drew ?_ | exact H3))) hsm).mono ?_
     rintro e we ⟨rfl, Re⟩
     have He := RB.trans (w0 := w) (t := t2) (bl := bl) (lo := lo) (by repeat (first | refine RB.set ?_ (by first | exact Nat.le_refl _ | omega | (simp; omega)) _ _ | refine RB.alloc ?_ _ | refine RB.drew ?_ | exact H3)) Re
     have hOe := (Re.k.block w.heap.size (by first | omega | (simp; omega) | (simp [World.setCell]; omega)) (by omega)).trans ((Below.heap_setCell _ _ _ _ (by first | (simp; done) | (simp; omega))).trans ((Below.heap_setCell _ _ _ _ (by first | (simp; done) | (simp; omega))).trans hO3))
     have hCe : we.heap[M]? = some (.cells (dcA ⟨t.txt, t.pos, m, n⟩) 120) := (Re.k.block M (by first | omega | (simp; omega) | (simp [World.setCell]; omega)) (by omega)).trans ((heap_setCell_same _ _ _ _ _ _ (heap_setCell_same _ _ _ _ _ _ hC3)).trans rfl)
     have HE : Hid (r = .ok (⟨t.txt, t.pos, m, n⟩, nx l (t2))) := by show _ = _; rw [HQ.out]; unfold needS; rw [if_pos hsm]; rfl
     clear cc cf Re hO3 hC3 HQ
     go_upto_region 7 with fail
     refine wp_region_lit ?_
     refine wpList_load_row rfl 120 (.tmp 4) rfl (M) rfl 120 (dcA ⟨t.txt, t.pos, m, n⟩) (0, 0) _ (hCe) Tryz.underlying120 rfl (by kernel_rfl) ?_
     refine wpList_store_row rfl 120 (.tmp 2) (.tmp 23) rfl (w.heap.size) (dcA ⟨t.txt, t.pos, m, n⟩) rfl rfl 120 (dcA ⟨[], 0, ([], 0), (0, 0)⟩) (hOe) (by kernel_rfl) rfl (by simp [Value.oneCell']) ?_
     go_wp2_with fail
     rw [HE.out]
     refine ⟨rfl, _, res_cell Tryz.results89 _ _ w.heap.size _ 120 _ rfl (setRow_heap _ _ _ _ _ _ hOe) Tryz.underlying120 rfl (by kernel_rfl), ?_, ?_⟩
     ·rfl
     ·refine RB.setRow ?_ (Nat.le_refl _) _; repeat (first | refine RB.set ?_ (by first | exact Nat.le_refl _ | omega | (simp; omega)) _ _ | refine RB.alloc ?_ _ | refine RB.drew ?_ | exact He)
    ·refine (need_no (l := l) (t := t2) (bl := bl) (lo := lo) (X := X) (Y := Y) [59] (RB.r (w0 := w) (l := l) (t := t2) (bl := bl) (lo := lo) (X := X) (Y := Y) (by repeat (first | refine RB.set ?_ (by first | exact Nat.le_refl _ | omega | (simp; omega)) _ _ | refine RB.alloc ?_ _ | refine RB.drew ?_ | exact H3))) hsm).mono ?_
     rintro e we h3
     obtain ⟨f, rfl, h2⟩ := h3.from (RB.k (w0 := w) (l := l) (t := t2) (bl := bl) (lo := lo) (X := X) (Y := Y) (by repeat (first | refine RB.set ?_ (by first | exact Nat.le_refl _ | omega | (simp; omega)) _ _ | refine RB.alloc ?_ _ | refine RB.drew ?_ | exact H3)))
     have HE : Hid (r = .error (false, (t2).pos)) := by show _ = _; rw [HQ.out]; unfold needS; rw [if_neg hsm]; rfl
     clear h3 cc cf HQ
     go_wp2_with fail
     rw [HE.out]
     exact ⟨rfl, f, rfl, h2⟩
def eventS (l : List UInt8) (t : Tok) : PR NP := if t.txt = [109, 105, 115, 115] then .ok (np t, nx l t) else nameS l t
def ruleS (l : List UInt8) (t : Tok) : PR (Nat × NP × BT 8) := bindR (eventS l (nx l t)) fun n t1 => bindR (blockS l 8 0 t1) fun x t2 => .ok ((t.pos, n, x), t2)
abbrev ruA (p : Nat) (n : NP) (v : Value) : Array Value := #[.int .i64 p, .string ⟨n.1.toArray⟩, .int .i64 n.2, v]
theorem event_any {w : World} {b : Nat} {l : List UInt8} {t : Tok} {bl lo : Nat} {X Y : Value} (h : Rw w b l t bl lo X Y) :
  Calls Tryz.prog 120 #[ptr b] w fun e w' => Out w b l bl lo X Y (fun n : NP => .agg #[.string ⟨n.1.toArray⟩, .int .i64 n.2]) (eventS l t) e w' := by
 unfold eventS
 by_cases hs : t.txt = [109, 105, 115, 115]
 ·rw [if_pos hs]; exact event_miss h hs
 ·rw [if_neg hs]; unfold nameS
  by_cases hk : t.kind = 2
  ·rw [if_pos hk]; exact event_name h hs hk
  ·rw [if_neg hk]; exact event_no h hs hk
theorem event_ok {w : World} {b : Nat} {l : List UInt8} {t : Tok} {bl lo : Nat} {X Y : Value} {x : NP} {t' : Tok} (h : Rw w b l t bl lo X Y) (hv : eventS l t = .ok (x, t')) :
  Calls Tryz.prog 120 #[ptr b] w fun e w' => e = .returned (.agg #[.string ⟨x.1.toArray⟩, .int .i64 x.2]) /\ RB w w' b l t' bl lo X Y := by
 refine (event_any h).mono fun e w' H => ?_
 rw [hv] at H; exact H
theorem event_er {w : World} {b : Nat} {l : List UInt8} {t : Tok} {bl lo : Nat} {X Y : Value} {d : Bool} {p : Nat} (h : Rw w b l t bl lo X Y) (hv : eventS l t = .error (d, p)) :
  Calls Tryz.prog 120 #[ptr b] w fun e w' => Flt w b (if d then Y else X) p e w' := by
 refine (event_any h).mono fun e w' H => ?_
 rw [hv] at H; exact H
def OutU (w : World) (b : Nat) (l : List UInt8) (X Y : Value) (r : PR (Nat × NP × BT 8)) (e : Ending) (w' : World) : Prop :=
 match r with
 | .ok (x, t') => ∃ v, e = .returned (.agg (ruA x.1 x.2.1 v)) /\ RB w w' b l t' 0 0 X Y /\ SlR 8 w' (fun g => w.heap.size <= g) v x.2.2
 | .error (q, p) => Flt w b (if q then Y else X) p e w'
theorem rule_any {w : World} {b : Nat} {l : List UInt8} {t : Tok} {X Y : Value} (h : Rw w b l t 0 0 X Y) :
  Calls Tryz.prog 90 #[ptr b] w fun e w' => OutU w b l X Y (ruleS l t) e w' := by
 have hgt := h.gt
 have HQ : Hid (ruleS l t = bindR (eventS l (nx l t)) fun n t1 => bindR (blockS l 8 0 t1) fun x t2 => .ok ((t.pos, n, x), t2)) := rfl
 generalize ruleS l t = r at *
 have hfl := fld2
 go_enter Tryz.func90, Tryz.ntmps90
 go_wp2_with fail
 refine (step_r (h.alloc _)).mono ?_
 rintro e w1 ⟨rfl, R1⟩
 have H1 := ((RB.refl h).alloc _).trans R1
 have hO1 := (R1.k.block w.heap.size (by simp) (by omega)).trans (heap_new rfl)
 have z1 : w.heap.size < w1.heap.size := (Array.getElem?_eq_some_iff.1 hO1).1
 clear R1
 go_wp2_with fail
 cases hn : eventS l (nx l t) with
 | error q =>
  obtain ⟨qd, pp⟩ := q
  refine (event_er (H1.alloc _).r hn).mono ?_
  rintro e we h3
  obtain ⟨f, rfl, h2⟩ := h3.from (H1.alloc _).k
  have HE : Hid (r = .error (qd, pp)) := by show _ = _; rw [HQ.out, hn]; rfl
  clear h3 HQ hn
  go_wp2_with fail
  rw [HE.out]
  exact ⟨rfl, f, rfl, h2⟩
 | ok q =>
  obtain ⟨n, t1⟩ := q
  refine (event_ok (H1.alloc _).r hn).mono ?_
  rintro e w2 ⟨rfl, R2⟩
  replace HQ : Hid (r = bindR (blockS l 8 0 t1) fun x t2 => .ok ((t.pos, n, x), t2)) := by show _ = _; rw [HQ.out, hn]; rfl
  have H2 := (H1.alloc _).trans R2
  have hO2 := (R2.k.block w.heap.size (by simp; omega) (by omega)).trans ((Below.heap_alloc _ _ _ z1).trans hO1)
  have hC2 : w2.heap[w1.heap.size]? = some (.cells (ruA t.pos ([], 0) nilV) 161) := (R2.k.block w1.heap.size (by simp) (by omega)).trans (heap_new rfl)
  clear hn R2 H1 hO1
  generalize w1.heap.size = M at *
  have z2 : M < w2.heap.size := (Array.getElem?_eq_some_iff.1 hC2).1
  obtain ⟨cc, cf⟩ := blk_cells hC2
  go_wp2_with fail
  have H3 : RB w ((w2.setCell ⟨M, 1, none⟩ (.string ⟨n.1.toArray⟩)).setCell ⟨M, 2, none⟩ (.int .i64 n.2)) b l t1 0 0 X Y := (H2.set (by omega) _ _).set (by omega) _ _
  cases hx : blockS l 8 0 t1 with
  | error q =>
   obtain ⟨qd, pp⟩ := q
   refine (blk_er (blk_all 8) H3.r rfl (by omega) hx).mono ?_
   rintro e we h3
   obtain ⟨f, rfl, h2⟩ := h3.from H3.k
   have HE : Hid (r = .error (qd, pp)) := by show _ = _; rw [HQ.out, hx]; rfl
   clear h3 HQ hx cc cf
   go_wp2_with fail
   rw [HE.out]
   exact ⟨rfl, f, rfl, h2⟩
  | ok q =>
   obtain ⟨x, t2⟩ := q
   refine (blk_ok (blk_all 8) H3.r rfl (by omega) hx).mono ?_
   rintro e w4 ⟨v, rfl, R4, S4⟩
   replace S4 : SlR 8 w4 (fun g => M + 1 <= g) v x := SlR.up (by simp [World.setCell]; omega) S4
   obtain ⟨va, vn, vc, rfl⟩ := SlR.form 8 _ _ S4
   have HE : Hid (r = .ok ((t.pos, n, x), t2)) := by show _ = _; rw [HQ.out, hx]; rfl
   have H4 := H3.trans R4
   have hO4 := (R4.k.block w.heap.size (by simp [World.setCell]; omega) (by omega)).trans ((Below.heap_setCell _ _ _ _ (by first | (simp; done) | (simp; omega))).trans ((Below.heap_setCell _ _ _ _ (by first | (simp; done) | (simp; omega))).trans hO2))
   have hC4 : w4.heap[M]? = some (.cells (ruA t.pos n nilV) 161) := (R4.k.block M (by simp [World.setCell]; omega) (by omega)).trans ((heap_setCell_same _ _ _ _ _ _ (heap_setCell_same _ _ _ _ _ _ hC2)).trans rfl)
   clear hx HQ R4 H2 H3 hO2 hC2 cc cf
   obtain ⟨cc, cf⟩ := blk_cells hC4
   go_upto_region 4 with fail
   refine wp_region_lit ?_
   refine wpList_load_row rfl 161 (.tmp 3) rfl (M) rfl 161 (ruA t.pos n (.slice va vn vc)) (0, 0) _ ((heap_setCell_same _ _ _ _ _ _ hC4).trans rfl) Tryz.underlying161 rfl (by kernel_rfl) ?_
   refine wpList_store_row rfl 161 (.tmp 2) (.tmp 14) rfl (w.heap.size) (ruA t.pos n (.slice va vn vc)) rfl rfl 161 (ruA 0 ([], 0) nilV) (((Below.heap_setCell _ _ _ _ (by first | (simp; done) | (simp; omega))).trans hO4)) (by kernel_rfl) rfl (by simp [Value.oneCell']) ?_
   go_wp2_with fail
   rw [HE.out]
   refine ⟨rfl, _, res_cell Tryz.results90 _ _ w.heap.size _ 161 _ rfl (setRow_heap _ _ _ _ _ _ ((Below.heap_setCell _ _ _ _ (by first | (simp; done) | (simp; omega))).trans hO4)) Tryz.underlying161 rfl (by kernel_rfl), .slice va vn vc, rfl, ?_, SlR.up (by omega) (SlR.row (by omega) (SlR.set (n := M) (by omega) S4))⟩
   refine RB.setRow ?_ (Nat.le_refl _) _; repeat (first | refine RB.set ?_ (by first | exact Nat.le_refl _ | omega | (simp; omega)) _ _ | refine RB.alloc ?_ _ | refine RB.drew ?_ | exact H4)
theorem rule_ok {w : World} {b : Nat} {l : List UInt8} {t : Tok} {X Y : Value} {x : Nat × NP × BT 8} {t' : Tok} (h : Rw w b l t 0 0 X Y) (hv : ruleS l t = .ok (x, t')) :
  Calls Tryz.prog 90 #[ptr b] w fun e w' => ∃ v, e = .returned (.agg (ruA x.1 x.2.1 v)) /\ RB w w' b l t' 0 0 X Y /\ SlR 8 w' (fun g => w.heap.size <= g) v x.2.2 := by
 refine (rule_any h).mono fun e w' H => ?_
 rw [hv] at H; exact H
theorem rule_er {w : World} {b : Nat} {l : List UInt8} {t : Tok} {X Y : Value} {q : Bool} {p : Nat} (h : Rw w b l t 0 0 X Y) (hv : ruleS l t = .error (q, p)) :
  Calls Tryz.prog 90 #[ptr b] w fun e w' => Flt w b (if q then Y else X) p e w' := by
 refine (rule_any h).mono fun e w' H => ?_
 rw [hv] at H; exact H
theorem decl_ok {w : World} {b : Nat} {l : List UInt8} {t : Tok} {bl lo : Nat} {X Y : Value} {x : Dc} {t' : Tok} (h : Rw w b l t bl lo X Y) (hv : declS l t = .ok (x, t')) :
  Calls Tryz.prog 89 #[ptr b] w fun e w' => e = .returned (.agg (dcA x)) /\ RB w w' b l t' bl lo X Y := by
 refine (decl_any h).mono fun e w' H => ?_
 rw [hv] at H; exact H
theorem decl_er {w : World} {b : Nat} {l : List UInt8} {t : Tok} {bl lo : Nat} {X Y : Value} {d : Bool} {p : Nat} (h : Rw w b l t bl lo X Y) (hv : declS l t = .error (d, p)) :
  Calls Tryz.prog 89 #[ptr b] w fun e w' => Flt w b (if d then Y else X) p e w' := by
 refine (decl_any h).mono fun e w' H => ?_
 rw [hv] at H; exact H
theorem step_append_own {P : Program} {ops : Array Oper} {o : Oper} {a : Act} {w : World} {K : Act -> World -> Prop} {Q : Exit -> Act -> World -> Prop} {E : Prop}
  (hg : o.guard = none) (s x : Operand) (t : TypeId) (hop : o.op = Op.call { callee := Callee.builtin Builtin.append, args := #[s, x], argTypes := #[t, t] })
  (base : Nat) (e : TypeId) (i : TypeInfo) (z : Value) (size bytes : Nat) (ht : P.underlying t = some (.slice e)) (hi : P.info? e = some i) (hz : i.zero = some z)
  (hsize : i.size = size) (hby : i.bytes = bytes) (hzs : z.cells.size = size) (hsz : 0 < size)
  (v : Value) (n : Nat) (xs : List Value) (hs : a.eval s = v) (hown : w.ownsRow base e size v n xs)
  (ad : Addr) (m c : Nat) (news : List Value) (hx : a.eval x = .slice (some ad) m c) (hl : news.length = m * size) (hnews : ∀ j u, news[j]? = some u -> w.cell? (ad.add j) = some u) (h1 : ∀ u ∈ news, u.oneCell' = true)
  (h63 : n + m <= maxLen) (hbytes : (n + m) * bytes <= 140737488355328) (hbase : base <= w.heap.size)
  (h : ∀ v' w', w'.ownsRow base e size v' (n + m) (xs ++ news) -> w.grownBy w' v.ownBlock -> (v'.ownBlock = v.ownBlock \/ v'.ownBlock = some w.heap.size) -> K (a.put o.dst v') w') :
  if Region.wanted o (yielded ops a.tmps) = true then Oper.wp P o a w K Q else E := by
 have hw : Region.wanted o (yielded ops a.tmps) = true := by simp [Region.wanted, hg]
 rw [if_pos hw]
 obtain ⟨v', w', hr, h2, h3, _, h5⟩ := run_append_own_at (P := P) w base t o.type e i z size bytes ht hi hz hsize hby hzs hsz v n xs hown ad m c news hl hnews h1 h63 hbytes hbase
 unfold Oper.wp execOp
 simp only [hop, resolve, invoke, builtin, Sem.run_bind, Sem.run_pure, Result.andThen_ok, List.map_toArray, List.map_cons, List.map_nil, hs, hx, hr]
 exact h v' w' h2 h3 h5
theorem wanted_pos {P : Program} {ops : Array Oper} {o : Oper} {a : Act} {w : World} {K : Act -> World -> Prop} {Q : Exit -> Act -> World -> Prop} {E : Prop} (hg : o.guard = none) (h : Oper.wp P o a w K Q) : if Region.wanted o (yielded ops a.tmps) = true then Oper.wp P o a w K Q else E := by
 rw [if_pos (by simp [Region.wanted, hg])]; exact h
def flatD (ds : List Dc) : List Value := ds.flatMap fun d => (dcA d).toList
theorem flatD_snoc (ds : List Dc) (d : Dc) : flatD (ds ++ [d]) = flatD ds ++ (dcA d).toList := by simp [flatD]
theorem info_dc : (Tryz.prog.info? 120).map (fun i => (i.zero, i.size, i.bytes)) = some (some (.agg (dcA ⟨[], 0, ([], 0), (0, 0)⟩)), 6, 64) := by kernel_rfl
theorem dcA_one (d : Dc) : ∀ u ∈ (dcA d).toList, u.oneCell' = true := by
 have h : (dcA d).toList.all (·.oneCell') = true := by simp [Value.oneCell']
 exact fun u hu => List.all_eq_true.1 h u hu
theorem ownsRow_form2 {w : World} {base : Nat} {e : TypeId} {size n : Nat} {v : Value} {xs : List Value} (h : w.ownsRow base e size v n xs) : ∃ a k c, v = .slice a k c := by
 rcases h.2 with ⟨h, _⟩ | ⟨g, cap, cur, h, _⟩
 ·exact ⟨_, _, _, h⟩
 ·exact ⟨_, _, _, h⟩
def declsS (l : List UInt8) : Nat -> Tok -> PR (List Dc)
 | 0, t => .error (false, t.pos)
 | f + 1, t => if declB t.txt = true then bindR (declS l t) fun d t1 => bindR (declsS l f t1) fun ds t2 => .ok (d :: ds, t2) else .ok ([], t)
def rulesS (l : List UInt8) : Nat -> Tok -> PR (List (Nat × NP × BT 8))
 | 0, t => .error (false, t.pos)
 | f + 1, t => if t.txt = [111, 110] then bindR (ruleS l t) fun d t1 => bindR (rulesS l f t1) fun ds t2 => .ok (d :: ds, t2) else .ok ([], t)
def endS (l : List UInt8) (ds : List Dc) (rs : List (Nat × NP × BT 8)) (t : Tok) : PR (List Dc × List (Nat × NP × BT 8)) := if t.kind = 1 then .ok ((ds, rs), nx l t) else .error (false, t.pos)
def policyS (l : List UInt8) (t : Tok) : PR (List Dc × List (Nat × NP × BT 8)) :=
 bindR (declsS l (l.length + 1) t) fun ds t1 => bindR (rulesS l (l.length + 1) t1) fun rs t2 => endS l ds rs t2
def RelU (P : Value -> BT 8 -> Prop) : List (Nat × NP × Value) -> List (Nat × NP × BT 8) -> Prop
 | [], [] => True
 | r :: rs, x :: xs => r.1 = x.1 /\ r.2.1 = x.2.1 /\ P r.2.2 x.2.2 /\ RelU P rs xs
 | _, _ => False
theorem RelU.mono {P Q : Value -> BT 8 -> Prop} (h : ∀ v x, P v x -> Q v x) : ∀ (rs : List (Nat × NP × Value)) (xs : List (Nat × NP × BT 8)), RelU P rs xs -> RelU Q rs xs
 | [], [], _ => trivial
 | _ :: rs, _ :: xs, ⟨a, b, c, d⟩ => ⟨a, b, h _ _ c, RelU.mono h rs xs d⟩
theorem RelU.snoc {P : Value -> BT 8 -> Prop} (r : Nat × NP × Value) (x : Nat × NP × BT 8) (h1 : r.1 = x.1) (h2 : r.2.1 = x.2.1) (h3 : P r.2.2 x.2.2) :
  ∀ (rs : List (Nat × NP × Value)) (xs : List (Nat × NP × BT 8)), RelU P rs xs -> RelU P (rs ++ [r]) (xs ++ [x])
 | [], [], _ => ⟨h1, h2, h3, trivial⟩
 | _ :: rs, _ :: xs, ⟨a, b, c, d⟩ => ⟨a, b, c, RelU.snoc r x h1 h2 h3 rs xs d⟩
def flatU (rows : List (Nat × NP × Value)) : List Value := rows.flatMap fun r => (ruA r.1 r.2.1 r.2.2).toList
theorem flatU_snoc (rows : List (Nat × NP × Value)) (r : Nat × NP × Value) : flatU (rows ++ [r]) = flatU rows ++ (ruA r.1 r.2.1 r.2.2).toList := by simp [flatU]
theorem info_ru : (Tryz.prog.info? 161).map (fun i => (i.zero, i.size, i.bytes)) = some (some (.agg (ruA 0 ([], 0) nilV)), 4, 56) := by kernel_rfl
theorem ruA_one (p : Nat) (n : NP) (a : Option Addr) (k c : Nat) : ∀ u ∈ (ruA p n (.slice a k c)).toList, u.oneCell' = true := by
 have h : (ruA p n (.slice a k c)).toList.all (·.oneCell') = true := by simp [Value.oneCell']
 exact fun u hu => List.all_eq_true.1 h u hu
theorem rule_m {l : List UInt8} {t t' : Tok} {x : Nat × NP × BT 8} (hd : t.txt = [111, 110]) (h : ruleS l t = .ok (x, t')) : t.pos + 1 <= t'.pos := by
 have h0 := nx_one l t _ hd (by decide)
 unfold ruleS at h
 obtain ⟨n, t1, h1, h⟩ := bindR_ok h
 obtain ⟨y, t2, h2, h⟩ := bindR_ok h
 have a1 : (nx l t).pos <= t1.pos := by
  unfold eventS at h1; split at h1
  ·cases h1; exact nx_mono l _
  ·exact name_m h1
 have := block_m _ _ _ _ _ h2
 cases h; omega
def OutP (w : World) (b : Nat) (l : List UInt8) (X Y : Value) (r : PR (List Dc × List (Nat × NP × BT 8))) (e : Ending) (w' : World) : Prop :=
 match r with
 | .ok (x, t') => ∃ vd vr rows, e = .returned (ptr w.heap.size) /\ RB w w' b l t' 0 0 X Y /\ w'.heap[w.heap.size]? = some (.cells #[vd, vr] 114) /\ w'.ownsRow (w.heap.size + 1) 120 6 vd x.1.length (flatD x.1) /\ w'.ownsRow (w.heap.size + 1) 161 4 vr rows.length (flatU rows) /\ RelU (SlR 8 w' (fun g => w.heap.size + 1 <= g)) rows x.2
 | .error (q, p) => Flt w b (if q then Y else X) p e w'
theorem decl_m {l : List UInt8} {t t' : Tok} {x : Dc} (hd : declB t.txt = true) (h : declS l t = .ok (x, t')) : t.pos + 1 <= t'.pos := by
 have h0 : t.pos + 1 <= (nx l t).pos := by
  simp only [declB, Bool.or_eq_true, beq_iff_eq] at hd
  rcases hd with ((e | e) | e) | e <;> exact nx_one l t _ e (by decide)
 unfold declS at h
 split at h
 ·obtain ⟨n, t1, h1, h⟩ := bindR_ok h
  obtain ⟨_, t2, h2, h⟩ := bindR_ok h
  have := num_m h1; have := need_m h2; cases h; omega
 ·obtain ⟨m, t1, h1, h⟩ := bindR_ok h
  obtain ⟨n, t2, h2, h⟩ := bindR_ok h
  obtain ⟨_, t3, h3, h⟩ := bindR_ok h
  have := name_m h1; have := num_m h2; have := need_m h3; cases h; omega
theorem policy_any {w : World} {b : Nat} {l : List UInt8} {t : Tok} {X Y : Value} (h : Rw w b l t 0 0 X Y) :
  Calls Tryz.prog 60 #[ptr b] w fun e w' => OutP w b l X Y (policyS l t) e w' := by
 have hgt := h.gt
 have HQ : Hid (policyS l t = bindR (declsS l (l.length + 1) t) fun ds t1 => bindR (rulesS l (l.length + 1) t1) fun rs t2 => endS l ds rs t2) := rfl
 generalize policyS l t = r at *
 go_enter Tryz.func60, Tryz.ntmps60
 go_wp2_with fail
 go_loopg [] (l.length + 1) (fun f wr => ∃ (done : List Dc) (t1 : Tok) (v : Value), Hid (r = bindR (declsS l f t1) fun ys t' => bindR (rulesS l (l.length + 1) t') fun rs t2 => endS l (done ++ ys) rs t2) /\ l.length + 1 <= f + t1.pos /\ done.length + f <= l.length + 1 /\ RB w wr b l t1 0 0 X Y /\ wr.heap[w.heap.size]? = some (.cells #[v, nilV] 114) /\ wr.ownsRow (w.heap.size + 1) 120 6 v done.length (flatD done))
 case atStart =>
  exact ⟨[], t, nilV, HQ, by omega, by simp, (RB.refl h).alloc _, heap_new rfl, World.ownsRow_nil _ _ _ _⟩
 case round =>
  obtain ⟨done, t1, v, HR, hf, hn, hR, hP, hown⟩ := hrel
  have hpos := hR.r.bnd
  have hlen := hR.r.len
  cases gk with
  | zero => exfalso; omega
  | succ k =>
  have zP : w.heap.size < wr.heap.size := (Array.getElem?_eq_some_iff.1 hP).1
  obtain ⟨va, vk, vc, rfl⟩ := ownsRow_form2 hown
  by_cases hd : declB t1.txt = true
  ·cases hv : declS l t1 with
   | error q =>
    obtain ⟨qd, pp⟩ := q
    have HE : Hid (r = .error (qd, pp)) := by
     show _ = _
     rw [HR.out]
     conv => lhs; unfold declsS
     rw [if_pos hd, hv]; rfl
    have HV : Hid (declS l t1 = .error (qd, pp)) := hv
    clear hv HR
    obtain ⟨cp, cpf⟩ := blk_cells hP
    go_wp2_with (go_at_call 88; refine (isDecl_any hR.r).mono ?_; rintro e w' ⟨rfl, rfl⟩)
    go_region_dies
    all_goals
     refine (decl_er hR.drew.r HV.out).mono ?_
     rintro e we h3
     obtain ⟨f, rfl, hf2⟩ := h3.from hR.drew.k
     clear h3
     refine ⟨rfl, ?_⟩
     rw [HE.out]
     exact ⟨f, rfl, hf2⟩
   | ok q =>
    obtain ⟨x, t2⟩ := q
    have hadv := decl_m hd hv
    have HS : Hid (r = bindR (declsS l k t2) fun ys t' => bindR (rulesS l (l.length + 1) t') fun rs t2 => endS l ((done ++ [x]) ++ ys) rs t2) := by
     show _ = _
     rw [HR.out]
     conv => lhs; unfold declsS
     rw [if_pos hd, hv]
     show bindR (bindR (declsS l k t2) _) _ = _
     rw [bindR_assoc]
     simp only [bindR, List.append_assoc, List.singleton_append]
    have HV : Hid (declS l t1 = .ok (x, t2)) := hv
    clear hv HR
    obtain ⟨cp, cpf⟩ := blk_cells hP
    go_wp2_with (go_at_call 88; refine (isDecl_any hR.r).mono ?_; rintro e w' ⟨rfl, rfl⟩)
    obtain ⟨i0, hi, hz0, hz1, hz2⟩ := info_parts info_dc
    have hbd : done.length + 1 <= maxLen := by simp only [maxLen]; omega
    have hby : (done.length + 1) * 64 <= 140737488355328 := by omega
    go_region_law (first
     | (refine step_append_own rfl (.tmp 12) (.tmp 15) 111 rfl (w.heap.size + 1) 120 i0 (.agg (dcA ⟨[], 0, ([], 0), (0, 0)⟩)) 6 64 Tryz.underlying111 hi hz0 hz1 hz2 rfl (by decide) (.slice va vk vc) done.length (flatD done) (by simp [Act.eval]) how4 ⟨w4.heap.size, 0, none⟩ 1 1 (dcA x).toList (by simp [Act.eval]) rfl (row_cells _ _ _) (dcA_one _) hbd hby hz4 ?_; intro v' w6 hown6 hgrow hat; obtain ⟨ya, yk, yc, rfl⟩ := ownsRow_form2 hown6; have hP6 := (hgrow.block w.heap.size hzz hrow).trans hP5; obtain ⟨cq, cqf⟩ := blk_cells hP6)
     | (refine wanted_pos rfl ?_; go_simp; go_at_call 89; go_must (refine (decl_ok hR.drew.r HV.out).mono ?_; rintro e w4 ⟨rfl, R4⟩; have H4 := hR.drew.trans R4; have hP4 := (R4.k.block w.heap.size zP (by omega)).trans hP; have z4 := R4.k.size; have how4 := ownsRow_moveB (w' := w4.alloc (.cells (dcA x) 120)) hown (fun g hg hl => (Below.heap_alloc _ _ _ (Nat.lt_of_lt_of_le hl z4)).trans (R4.k.block g hl (by have := (hown.lt g hg).1; omega))); have z5 : w'.heap.size <= w4.heap.size := z4; have z6 : w.heap.size < w4.heap.size := Nat.lt_of_lt_of_le zP z4; have hz4 : w.heap.size + 1 <= (w4.alloc (.cells (dcA x) 120)).heap.size := (by first | omega | (simp; done) | (simp; omega)); have hP5 : (w4.alloc (.cells (dcA x) 120)).heap[w.heap.size]? = _ := (Below.heap_alloc _ _ _ (Nat.lt_of_lt_of_le zP z4)).trans hP4; have hzz : w.heap.size < (w4.alloc (.cells (dcA x) 120)).heap.size := hz4; have hrow : some w.heap.size ≠ (Value.slice va vk vc).ownBlock := (fun e => by have := (hown.lt _ e.symm).1; omega); obtain ⟨cp4, cpf4⟩ := blk_cells hP4)))
    all_goals
     go_wp2_with fail
     go_roundg k
     case measure => omega
     case rel =>
      refine ⟨done ++ [x], t2, .slice ya yk yc, HS, by omega, by simp; omega, (((H4.alloc _).grown hgrow (fun g hg => by have := (hown.lt g hg).1; omega)).set (Nat.le_refl _) _ _), (heap_setCell_same _ _ _ _ _ _ hP6).trans rfl, ?_⟩
      rw [flatD_snoc, List.length_append]
      refine ownsRow_moveB hown6 (fun g hg _ => Below.heap_setCell _ _ _ _ ?_)
      have := (hown6.lt g hg).1
      show g ≠ w.heap.size
      omega
  ·have hdf : declB t1.txt = false := by simpa using hd
   have HS : Hid (r = bindR (rulesS l (l.length + 1) t1) fun rs t2 => endS l done rs t2) := by
    show _ = _
    rw [HR.out]
    conv => lhs; unfold declsS
    rw [if_neg hd]
    simp [bindR]
   clear HR hd HQ
   go_wp2_with (go_at_call 88; refine (isDecl_any hR.r).mono ?_; rintro e w' ⟨rfl, rfl⟩)
   go_loopg [] (l.length + 1) (fun f wr => ∃ (rows : List (Nat × NP × Value)) (rs : List (Nat × NP × BT 8)) (t2 : Tok) (v : Value), Hid (r = bindR (rulesS l f t2) fun ys t' => endS l done (rs ++ ys) t') /\ l.length + 1 <= f + t2.pos /\ rows.length + f <= l.length + 1 /\ RB w wr b l t2 0 0 X Y /\ wr.heap[w.heap.size]? = some (.cells #[.slice va vk vc, v] 114) /\ wr.ownsRow (w.heap.size + 1) 120 6 (.slice va vk vc) done.length (flatD done) /\ wr.ownsRow (w.heap.size + 1) 161 4 v rows.length (flatU rows) /\ RelU (SlR 8 wr (fun g => w.heap.size + 1 <= g /\ v.ownBlock ≠ some g)) rows rs /\ (∀ g, (Value.slice va vk vc).ownBlock = some g -> v.ownBlock ≠ some g))
   case atStart =>
    exact ⟨[], [], t1, nilV, HS, by omega, by simp, hR, hP, hown, World.ownsRow_nil _ _ _ _, trivial, fun g _ e => by simp [Value.ownBlock] at e⟩
   case round =>
    obtain ⟨rows, rs, t2, v, HR, hf2, hn2, hR2, hP2, hown2, hownv, hrelv, hav⟩ := hrel
    have hpos2 := hR2.r.bnd
    cases gk with
    | zero => exfalso; omega
    | succ k2 =>
    have zP2 : w.heap.size < wr.heap.size := (Array.getElem?_eq_some_iff.1 hP2).1
    obtain ⟨ba, bk, bc, rfl⟩ := ownsRow_form2 hownv
    obtain ⟨c0, c1, c2, c3, c4, c5⟩ := hR2.r.rd.cells
    by_cases ho : t2.txt = [111, 110]
    ·have b1 : (t2.txt == [111, 110]) = true := by simp [ho]
     cases hv : ruleS l t2 with
     | error q =>
      obtain ⟨qd, pp⟩ := q
      have HE : Hid (r = .error (qd, pp)) := by
       show _ = _
       rw [HR.out]
       conv => lhs; unfold rulesS
       rw [if_pos ho, hv]; rfl
      have HV : Hid (ruleS l t2 = .error (qd, pp)) := hv
      clear hv HR ho
      obtain ⟨cp, cpf⟩ := blk_cells hP2
      go_wp2_with fail
      go_region_dies
      all_goals
       refine (rule_er hR2.drew.r HV.out).mono ?_
       rintro e we h3
       obtain ⟨f, rfl, hg2⟩ := h3.from hR2.drew.k
       clear h3
       refine ⟨rfl, ?_⟩
       rw [HE.out]
       exact ⟨f, rfl, hg2⟩
     | ok q =>
      obtain ⟨x, t3⟩ := q
      have hadv := rule_m ho hv
      have HT : Hid (r = bindR (rulesS l k2 t3) fun ys t' => endS l done ((rs ++ [x]) ++ ys) t') := by
       show _ = _
       rw [HR.out]
       conv => lhs; unfold rulesS
       rw [if_pos ho, hv]
       show bindR (bindR (rulesS l k2 t3) _) _ = _
       rw [bindR_assoc]
       simp only [bindR, List.append_assoc, List.singleton_append]
      have HV : Hid (ruleS l t2 = .ok (x, t3)) := hv
      clear hv HR ho
      obtain ⟨cp, cpf⟩ := blk_cells hP2
      go_wp2_with fail
      clear c0 c1 c2 c3 c4 c5 b1
      obtain ⟨i0, hi, hz0, hz1, hz2⟩ := info_parts info_ru
      have hbd : rows.length + 1 <= maxLen := by simp only [maxLen]; omega
      have hby : (rows.length + 1) * 56 <= 140737488355328 := by omega
      go_region_law (first
       | (refine step_append_own rfl (.tmp 29) (.tmp 32) 112 rfl (w.heap.size + 1) 161 i0 (.agg (ruA 0 ([], 0) nilV)) 4 56 Tryz.underlying112 hi hz0 hz1 hz2 rfl (by decide) (.slice ba bk bc) rows.length (flatU rows) (by simp [Act.eval]) how4 ⟨w4.heap.size, 0, none⟩ 1 1 (ruA x.1 x.2.1 (.slice ua uk uc)).toList (by simp [Act.eval]) rfl (row_cells _ _ _) (ruA_one _ _ _ _ _) hbd hby hz4 ?_; intro v' w6 hown6 hgrow hat; obtain ⟨ya, yk, yc, rfl⟩ := ownsRow_form2 hown6; have hP6 := (hgrow.block w.heap.size hzz hrow).trans hP5; obtain ⟨cq, cqf⟩ := blk_cells hP6)
       | (refine wanted_pos rfl ?_; go_simp; go_at_call 90; go_must (refine (rule_ok hR2.drew.r HV.out).mono ?_; rintro e w4 ⟨u, rfl, R4, S4⟩; obtain ⟨ua, uk, uc, rfl⟩ := SlR.form 8 _ _ S4; have H4 := hR2.drew.trans R4; have hP4 := (R4.k.block w.heap.size zP2 (by omega)).trans hP2; have z4 := R4.k.size; have how4 := ownsRow_moveB (w' := w4.alloc (.cells (ruA x.1 x.2.1 (.slice ua uk uc)) 161)) hownv (fun g hg hl => (Below.heap_alloc _ _ _ (Nat.lt_of_lt_of_le hl z4)).trans (R4.k.block g hl (by have := (hownv.lt g hg).1; omega))); have z5 : wr.heap.size <= w4.heap.size := z4; have z6 : w.heap.size < w4.heap.size := Nat.lt_of_lt_of_le zP2 z4; have hz4 : w.heap.size + 1 <= (w4.alloc (.cells (ruA x.1 x.2.1 (.slice ua uk uc)) 161)).heap.size := (by first | omega | (simp; done) | (simp; omega)); have hP5 : (w4.alloc (.cells (ruA x.1 x.2.1 (.slice ua uk uc)) 161)).heap[w.heap.size]? = _ := (Below.heap_alloc _ _ _ z6).trans hP4; have hzz : w.heap.size < (w4.alloc (.cells (ruA x.1 x.2.1 (.slice ua uk uc)) 161)).heap.size := hz4; have hrow : some w.heap.size ≠ (Value.slice ba bk bc).ownBlock := (fun e => by have := (hownv.lt _ e.symm).1; omega); obtain ⟨cp4, cpf4⟩ := blk_cells hP4)))
      all_goals
       go_wp2_with fail
       go_roundg k2
       case measure => omega
       case rel =>
        have hlt3 : ∀ g, (Value.slice ba bk bc).ownBlock = some g -> w.heap.size + 1 <= g /\ g < wr.heap.size := fun g hg => hownv.lt g hg
        have hag : ∀ g, g < w4.heap.size -> (Value.slice ba bk bc).ownBlock ≠ some g -> g ≠ w.heap.size -> (w6.setCell ⟨w.heap.size, 1, none⟩ (.slice ya yk yc)).heap[g]? = w4.heap[g]? := fun g hl hne hp => (Below.heap_setCell _ _ _ _ hp).trans ((hgrow.block g (by simp; omega) (fun e => hne e.symm)).trans (Below.heap_alloc _ _ _ hl))
        have hvn : ∀ g, g < w4.heap.size -> (Value.slice ba bk bc).ownBlock ≠ some g -> (Value.slice ya yk yc).ownBlock ≠ some g := fun g hl hne e => by
         rcases hat with h1 | h1
         ·exact hne (h1.symm.trans e)
         ·rw [h1] at e; simp at e; omega
        refine ⟨rows ++ [(x.1, x.2.1, .slice ua uk uc)], rs ++ [x], t3, .slice ya yk yc, HT, by omega, by simp; omega, (((H4.alloc _).grown hgrow (fun g hg => by have := hlt3 g hg; omega)).set (Nat.le_refl _) _ _), (heap_setCell_same _ _ _ _ _ _ hP6).trans rfl, ?_, ?_, ?_, ?_⟩
        ·refine ownsRow_moveB hown2 (fun g hg hl => ?_)
         have h1 := (hown2.lt g hg).1
         exact (hag g (by omega) (hav g hg) (by omega)).trans (R4.k.block g hl (by omega))
        ·rw [flatU_snoc, List.length_append]
         refine ownsRow_moveB hown6 (fun g hg _ => Below.heap_setCell _ _ _ _ ?_)
         have := (hown6.lt g hg).1
         show g ≠ w.heap.size
         omega
        ·refine RelU.snoc (x.1, x.2.1, .slice ua uk uc) x rfl rfl ?_ rows rs ?_
         ·exact SlR.mono 8 (fun g hg => ⟨by have : wr.heap.size <= g := hg.1; omega, hvn g hg.2 (fun e => by have := hlt3 g e; have : wr.heap.size <= g := hg.1; omega)⟩) _ _ (SlR.move 8 (fun g hg hl => hag g hl (fun e => by have := hlt3 g e; have : wr.heap.size <= g := hg.1; omega) (by have : wr.heap.size <= g := hg.1; omega)) _ _ (SlR.there 8 _ _ S4))
         ·refine RelU.mono (fun v x hv => ?_) _ _ hrelv
          have h1 : SlR 8 wr (fun g => (w.heap.size + 1 <= g /\ (Value.slice ba bk bc).ownBlock ≠ some g) /\ g < wr.heap.size) v x := SlR.there 8 v x hv
          have h2 := SlR.move (w' := w6.setCell ⟨w.heap.size, 1, none⟩ (.slice ya yk yc)) 8 (fun g hg hl => (hag g (by omega) hg.1.2 (by omega)).trans (R4.k.block g hl (by omega))) v x h1
          exact SlR.mono 8 (fun g hg => ⟨hg.1.1, hvn g (by omega) hg.1.2⟩) v x h2
        ·intro g hg
         exact hvn g (by have := (hown2.lt g hg).2; omega) (hav g hg)
    ·have b1 : (t2.txt == [111, 110]) = false := by simpa using ho
     have HT : Hid (r = endS l done rs t2) := by
      show _ = _
      rw [HR.out]
      conv => lhs; unfold rulesS
      rw [if_neg ho]
      simp [bindR]
     clear HR ho
     go_wp2_with fail
     by_cases hk : t2.kind = 1
     ·refine (needKind_yes 1 hR2.r hk).mono ?_
      rintro e w4 ⟨rfl, R4⟩
      have HE : Hid (r = .ok ((done, rs), nx l t2)) := by show _ = _; rw [HT.out]; unfold endS; rw [if_pos hk]
      clear HT hk c0 c1 c2 c3 c4 c5
      go_wp2_with fail
      go_ret
      rw [HE.out]
      refine ⟨.slice va vk vc, .slice ba bk bc, rows, rfl, hR2.trans R4, (R4.k.block _ zP2 (by omega)).trans hP2, ?_, ?_, ?_⟩
      ·exact ownsRow_moveB hown2 (fun g hg hl => R4.k.block g hl (by have := (hown2.lt g hg).1; omega))
      ·exact ownsRow_moveB hownv (fun g hg hl => R4.k.block g hl (by have := (hownv.lt g hg).1; omega))
      ·refine RelU.mono (fun v x hv => ?_) _ _ hrelv
       exact SlR.mono 8 (fun g hg => hg.1) v x (SlR.move 8 (fun g hg hl => R4.k.block g hl (by omega)) v x hv)
     ·refine (needKind_no 1 hR2.r hk).mono ?_
      rintro e we h3
      obtain ⟨f, rfl, hg2⟩ := h3.from hR2.k
      have HE : Hid (r = .error (false, t2.pos)) := by show _ = _; rw [HT.out]; unfold endS; rw [if_neg hk]
      clear h3 HT c0 c1 c2 c3 c4 c5
      go_wp2_with fail
      rw [HE.out]
      exact ⟨rfl, f, rfl, hg2⟩
theorem clos_fault {w : World} (np ne f : Nat) (older : List PanicEntry) (hp : w.cell? ⟨np, 0, none⟩ = some (.pointer none)) (he : w.cell? ⟨ne, 0, none⟩ = some .nilIface) (hpf : w.frozen? ⟨np, 0, none⟩ = false) (hef : w.frozen? ⟨ne, 0, none⟩ = false) (hne : np ≠ ne) :
  CallsD Tryz.prog 57 #[.pointer (some ⟨np, 0, none⟩), .pointer (some ⟨ne, 0, none⟩)] (.panicking ({ v := .iface 96 (.pointer (some ⟨f, 0, none⟩)), recovered := false } :: older)) w fun e u' w' =>
   u' = .panicking ({ v := .iface 96 (.pointer (some ⟨f, 0, none⟩)), recovered := true } :: older) /\ e = .returned (.tuple #[]) /\ w' = (w.setCell ⟨np, 0, none⟩ (.pointer none)).setCell ⟨ne, 0, none⟩ (.iface 96 (.pointer (some ⟨f, 0, none⟩))) := by
 have hta : ∀ w, (Instr.typeAssert (.iface 96 (.pointer (some ⟨f, 0, none⟩))) 20 96 true).run Tryz.prog w = .ok (.tuple #[.pointer (some ⟨f, 0, none⟩), .bool true]) w := by intro w; kernel_rfl
 refine callsD_of_wpS Tryz.func57 rfl fun c₀ cs hu => ?_
 apply wpS_seq
 apply wpS_region
 simp [wpOpsS, go_sem, recoverD, hu, Tryz.ntmps57, Exit.thenS]
 apply wpS_seq
 apply wpS_seq
 apply wpS_region
 simp [wpOpsS, go_sem, Exit.thenS]
 refine wpS_cond (t := false) (by simp [Act.eval, Array.replicate]) ?_
 simp only [Bool.false_eq_true, if_false]
 refine wpS_of_wp (wp_skip ?_)
 simp only [Exit.thenS]
 apply wpS_seq
 apply wpS_region
 simp [wpOpsS, go_sem, Exit.thenS, Array.replicate, hta]
 apply wpS_seq
 apply wpS_seq
 apply wpS_region
 simp [wpOpsS, go_sem, Exit.thenS]
 refine wpS_cond (t := false) (by simp [Act.eval]) ?_
 simp only [Bool.false_eq_true, if_false]
 refine wpS_of_wp (wp_skip ?_)
 simp only [Exit.thenS]
 apply wpS_region
 simp [wpOpsS, go_sem, hp, he, hpf, hef]
 simp [bodyPostS, results, Tryz.results57]
theorem clos_idle {w : World} (p q : Value) :
  CallsD Tryz.prog 57 #[p, q] .returning w fun e u' w' => e = .returned (.tuple #[]) /\ u' = .returning /\ w' = w := by
 refine callsD_of_wpS Tryz.func57 rfl fun c₀ cs hu => ?_
 apply wpS_seq
 apply wpS_region
 simp [wpOpsS, go_sem, recoverD, hu, Tryz.ntmps57, Exit.thenS]
 apply wpS_seq
 apply wpS_seq
 apply wpS_region
 simp [wpOpsS, go_sem, Exit.thenS]
 refine wpS_cond (t := true) (by simp [Act.eval, Array.replicate]) ?_
 simp only [if_true]
 refine wpS_of_wp (wp_ret ?_)
 cases c₀
 simp_all [Exit.thenS, bodyPostS, results, Tryz.results57]
end Go.Proofs.YtfddoieakfpagabGreatDoor
