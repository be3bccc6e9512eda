import Derived.Deep.DeepCutAuto
import Derived.BigRegion
import Derived.Shelf.SlMaps.Clone
import Derived.Test.YtfddoieakfpagabGreatDoorHC
import Derived.Test.YtfddoieakfpagabGreatDoorHA
namespace Go.Proofs.YtfddoieakfpagabGreatDoor
set_option maxHeartbeats 8000000
set_option maxRecDepth 20000
section
open Go.RowKit Go.ChangeMaps Go.MapKept Go.WideShapes
def lookN (k : Nat) : List (Nat × Nat) -> Option Nat
 | [] => none
 | p :: r => if p.1 = k then some p.2 else lookN k r
def dropN (k : Nat) (m : List (Nat × Nat)) : List (Nat × Nat) := m.filter fun p => !(p.1 == k)
theorem lookN_drop_same (k : Nat) : ∀ m, lookN k (dropN k m) = none
 | [] => rfl
 | p :: m => by
  have ih := lookN_drop_same k m
  unfold dropN at ih ⊢
  rw [List.filter_cons]
  split
  ·rename_i h
   have : p.1 ≠ k := by simpa using h
   unfold lookN
   rw [if_neg this]
   exact ih
  ·exact ih
theorem lookN_drop_other {k x : Nat} (hne : x ≠ k) : ∀ m, lookN x (dropN k m) = lookN x m
 | [] => rfl
 | p :: m => by
  have ih := lookN_drop_other hne m
  unfold dropN at ih ⊢
  rw [List.filter_cons]
  split
  ·unfold lookN
   rw [ih]
  ·rename_i h
   have : p.1 = k := by simpa using h
   rw [ih]
   conv => rhs; unfold lookN
   rw [if_neg (by omega)]
theorem kU : Maps.Keyed Tryz.prog 27 := Maps.int_keyed (q := .u64) (by kernel_rfl)
theorem uU : Tryz.prog.underlying 135 = some (.map 27 3) := by kernel_rfl
theorem wf_U (k : Nat) (hk : k < 18446744073709551616) : (Lit.int .u64 (k : Int)).wf = true := by simp [Lit.wf, IntKind.min, IntKind.max, IntKind.bits, IntKind.signed]; omega
theorem key_U (k : Nat) (hk : k < 18446744073709551616) : keyOf Tryz.prog 27 (.int .u64 k) = some (.int .u64 k) := Maps.keyOf_int_mk (P := Tryz.prog) (k := 27) (q := .u64) (by kernel_rfl) (wf_U k hk)
theorem lit_ne {x k : Nat} (h : x ≠ k) : Lit.int .u64 (x : Int) ≠ Lit.int .u64 (k : Int) := fun e => h (by injection e with _ e; omega)
def MapK (w : World) (b c : Nat) (m : List (Nat × Nat)) : Prop :=
 ∃ D : DataW Unit, w.ownsMap Tryz.prog 27 (plainElem Tryz.prog 3) b c D /\ Maps.size D = c /\ (∀ k : Nat, Maps.has D (.int .u64 (k : Int)) = (lookN k m).isSome) /\ (∀ k : Nat, D.atKey (.int .u64 (k : Int)) (.lit (.int .i64 0)) = .lit (.int .i64 (((lookN k m).getD 0 : Nat) : Int)))
theorem MapK.lt {w : World} {b c : Nat} {m : List (Nat × Nat)} (h : MapK w b c m) : b < w.heap.size := by
 obtain ⟨D, h, _⟩ := h
 exact h.lt
theorem MapK.move {w w' : World} {b c : Nat} {m : List (Nat × Nat)} (h : MapK w b c m) {b' : Nat} (hb : w'.heap[b']? = w.heap[b]?) : MapK w' b' c m := by
 obtain ⟨D, ⟨es, clock, h1, h2⟩, h3⟩ := h
 exact ⟨D, ⟨es, clock, hb.trans h1, h2⟩, h3⟩
theorem MapK.obj {w : World} {b c : Nat} {m : List (Nat × Nat)} (h : MapK w b c m) : ∃ es clock, w.heap[b]? = some (.map es clock) := by
 obtain ⟨D, ⟨es, clock, h1, _⟩, _⟩ := h
 exact ⟨es, clock, h1⟩
theorem MapK.none {w : World} {b : Nat} (h : w.heap[b]? = some (.map #[] 0)) : MapK w b 0 [] := by
 have h0 := World.ownsMap_made (H := Unit) w Tryz.prog 27 (plainElem Tryz.prog 3)
 obtain ⟨es, clock, h1, h2⟩ := h0
 have e : (w.alloc (.map #[] 0)).heap[w.heap.size]? = some (.map #[] 0) := heap_new rfl
 rw [e] at h1
 exact ⟨.map [], ⟨#[], 0, h, by cases h1; exact h2⟩, rfl, fun _ => rfl, fun _ => rfl⟩
theorem MapK.get_ok {w : World} {b c : Nat} {m : List (Nat × Nat)} (h : MapK w b c m) (k : Nat) (hk : k < 18446744073709551616) :
  (Instr.lookup 135 (.map (some b)) (.int .u64 k) true).run Tryz.prog w = .ok (.tuple #[.int .i64 (((lookN k m).getD 0 : Nat) : Int), .bool (lookN k m).isSome]) w := by
 obtain ⟨D, ho, _, h1, h2⟩ := h
 obtain ⟨v, ps, hrun, hv⟩ := ho.look_ok kU uU (z3 w) (plainElem_int u3 (by decide)) (key_U k hk)
 obtain ⟨a, rfl, hc, _⟩ := plainElem_int_inv u3 hv
 rw [hrun, h1]
 rw [h2] at hc
 simp at hc
 rw [<- hc.1]
theorem MapK.put {w : World} {b c : Nat} {m : List (Nat × Nat)} (h : MapK w b c m) (hc : c <= 100000) (k : Nat) (hk : k < 18446744073709551616) (v : Nat) (hv : v <= 1000000) :
  ∃ w', (Instr.mapUpdate 135 (.map (some b)) (.int .u64 k) (.int .i64 v)).run Tryz.prog w = .ok () w' /\ MapK w' b (if (lookN k m).isSome then c else c + 1) ((k, v) :: m) /\ w.grownBy w' (some b) /\ w'.heap.size = w.heap.size := by
 obtain ⟨D, ho, h0, h1, h2⟩ := h
 obtain ⟨w', hrun, ho', ht'⟩ := ho.store kU uU (by simp [maxLen]; omega) (key_U k hk) (plainElem_int (H := Unit) u3 (a := (v : Int)) (by simp [Lit.wf, IntKind.min, IntKind.max, IntKind.bits, IntKind.signed]; omega))
 have hs : Maps.size (D.put (.int .u64 (k : Int)) (.lit (.int .i64 v))) = if (lookN k m).isSome then c else c + 1 := by rw [Maps.size_put (ho.tidy kU), h1, h0]
 refine ⟨w', hrun, ⟨D.put (.int .u64 (k : Int)) (.lit (.int .i64 v)), ?_, hs, ?_, ?_⟩, ht'.grown, ?_⟩
 ·have := tight ho'
  rw [hs] at this
  exact this
 ·intro x
  unfold lookN
  by_cases e : k = x
  ·subst e; rw [Maps.has_put_same (k := .int .u64 (k : Int)) ho.isMap trivial]; simp
  ·rw [Maps.has_put_other (lit_ne (fun h => e h.symm)), h1, if_neg e]
 ·intro x
  unfold lookN
  by_cases e : k = x
  ·subst e; rw [Maps.atKey_put_same (k := .int .u64 (k : Int)) ho.isMap trivial]; simp
  ·rw [Maps.atKey_put_other (lit_ne (fun h => e h.symm)), h2, if_neg e]
 ·obtain ⟨es, clock, es', clock', hb, rfl⟩ := ht'
  simp [setBlock]
theorem MapK.del {w : World} {b c : Nat} {m : List (Nat × Nat)} (h : MapK w b c m) (k : Nat) (hk : k < 18446744073709551616) (ty : TypeId) :
  ∃ w', (Builtin.delete_ #[135, 27] ty #[.map (some b), .int .u64 k]).run Tryz.prog w = .ok (.tuple #[]) w' /\ MapK w' b (c - (if (lookN k m).isSome then 1 else 0)) (dropN k m) /\ w.grownBy w' (some b) /\ w'.heap.size = w.heap.size := by
 obtain ⟨D, ho, h0, h1, h2⟩ := h
 obtain ⟨w', hrun, ho', ht'⟩ := ho.drop kU uU (key_U k hk) ty
 have hs : Maps.size (D.del (.int .u64 (k : Int))) = c - (if (lookN k m).isSome then 1 else 0) := by
  have := Maps.size_del (k := .int .u64 (k : Int)) (ho.tidy kU)
  rw [h1, h0] at this
  omega
 refine ⟨w', hrun, ⟨D.del (.int .u64 (k : Int)), ?_, hs, ?_, ?_⟩, ht'.grown, ?_⟩
 ·have := tight ho'
  rw [hs] at this
  exact this
 ·intro x
  by_cases e : k = x
  ·subst e; rw [Maps.has_del_same, lookN_drop_same]; rfl
  ·rw [Maps.has_del_other (lit_ne (fun h => e h.symm)), h1, lookN_drop_other (fun h => e h.symm)]
 ·intro x
  by_cases e : k = x
  ·subst e; rw [Maps.atKey_del_same, lookN_drop_same]; rfl
  ·rw [Maps.atKey_del_other (lit_ne (fun h => e h.symm)), h2, lookN_drop_other (fun h => e h.symm)]
 ·obtain ⟨es, clock, es', clock', hb, rfl⟩ := ht'
  simp [setBlock]
theorem own_set {w : World} {lo size n : Nat} {e : TypeId} {v : Value} {xs : List Value} (h : w.ownsRow lo e size v n xs) {g o : Nat} (hg : v.ownBlock = some g) (_ho : o < n * size) (u : Value) : (w.setCell ⟨g, o, none⟩ u).ownsRow lo e size v n (xs.set o u) := by
 obtain ⟨hl, hc⟩ := h
 rcases hc with ⟨h1, h2⟩ | ⟨g', cap, cur, h1, h2, h3, h4, h5, h6, h7⟩
 ·rw [h1] at hg; cases hg
 ·have : g' = g := by rw [h1] at hg; simpa [Value.ownBlock] using hg
  subst this
  refine ⟨by rw [List.length_set]; exact hl, Or.inr ⟨g', cap, cur.setIfInBounds o u, h1, h2, heap_setCell_same _ _ _ _ _ _ h3, h4, h5, by simpa using h6, ?_⟩⟩
  rw [<- h7, Array.toList_setIfInBounds, List.take_set]
theorem flat_mod {α : Type} (F : α -> List Value) (s : Nat) (hF : ∀ a, (F a).length = s) (f : α -> α) (o : Nat) (u : Value) (ho : o < s) (h : ∀ x, F (f x) = (F x).set o u) : ∀ (l : List α) (k : Nat), k < l.length -> (l.modify k f).flatMap F = (l.flatMap F).set (k * s + o) u
 | [], _, hk => by simp at hk
 | a :: l, 0, _ => by
  rw [List.modify_zero_cons, List.flatMap_cons, List.flatMap_cons, List.set_append_left _ _ (by rw [hF]; omega), h]
  simp
 | a :: l, k + 1, hk => by
  have ih := flat_mod F s hF f o u ho h l k (by simpa using hk)
  rw [List.modify_succ_cons, List.flatMap_cons, List.flatMap_cons, ih, List.set_append_right _ _ (by rw [hF, Nat.succ_mul]; omega)]
  congr 2
  rw [hF, Nat.succ_mul]
  omega
theorem flatN_len (l : List Nd) : (flatN l).length = l.length * 5 := by
 induction l with
 | nil => rfl
 | cons s l ih => simp only [flatN, List.flatMap_cons, List.length_append, List.length_cons] at ih ⊢; rw [ih]; simp; omega
theorem flatQ_len (l : List (Nat × Nat)) : (flatQ l).length = l.length * 2 := by
 induction l with
 | nil => rfl
 | cons s l ih => simp only [flatQ, List.flatMap_cons, List.length_append, List.length_cons] at ih ⊢; rw [ih]; simp; omega
structure Ar where
 nodes : List Nd
 free : Int
 wh : List (Nat × Nat)
 wn : Nat
 qs : List (Nat × Nat)
structure Aw (w : World) (lo ab mp : Nat) (x y : Value) (A : Ar) : Prop where
 at' : w.heap[ab]? = some (.cells #[x, .int .i64 A.free, .map (some mp), y] 138)
 wh : MapK w mp A.wn A.wh
 nd : w.ownsRow lo 133 5 x A.nodes.length (flatN A.nodes)
 qu : w.ownsRow lo 179 2 y A.qs.length (flatQ A.qs)
 sep : ∀ g, x.ownBlock = some g -> y.ownBlock ≠ some g
 off : ∀ g, x.ownBlock = some g \/ y.ownBlock = some g -> g ≠ ab /\ g ≠ mp
 ne : ab ≠ mp
 low : lo <= ab /\ lo <= mp
def AMine (ab mp : Nat) (x y : Value) (k : Nat) : Prop := k = ab \/ k = mp \/ x.ownBlock = some k \/ y.ownBlock = some k
structure AF (ab mp : Nat) (x y x' y' : Value) (w w' : World) : Prop where
 os : w'.os = w.os
 tape : w'.tape = w.tape
 output : w'.output = w.output
 size : w.heap.size <= w'.heap.size
 block : ∀ k, k < w.heap.size -> ¬ AMine ab mp x y k -> w'.heap[k]? = w.heap[k]?
 new : ∀ k, AMine ab mp x' y' k -> AMine ab mp x y k \/ w.heap.size <= k
section
variable {w w' : World} {lo ab mp : Nat} {x y x' y' : Value} {A : Ar}
theorem AF.refl (ab mp : Nat) (x y : Value) (w : World) : AF ab mp x y x y w w := ⟨rfl, rfl, rfl, Nat.le_refl _, fun _ _ _ => rfl, fun _ h => Or.inl h⟩
theorem AF.of (ab mp : Nat) (x y : Value) {w w' : World} (h : Below w.heap.size w w') : AF ab mp x y x y w w' := ⟨h.os, h.tape, h.output, h.size, fun k hk _ => h.block k hk, fun _ h => Or.inl h⟩
theorem AF.drew {ab mp : Nat} {x y x' y' : Value} {w w' : World} (h : AF ab mp x y x' y' w w') : AF ab mp x y x' y' w w'.drew := ⟨h.os, h.tape, h.output, h.size, h.block, h.new⟩
theorem AF.trans {x'' y'' : Value} {a b c : World} (h : AF ab mp x y x' y' a b) (k : AF ab mp x' y' x'' y'' b c) : AF ab mp x y x'' y'' a c :=
 ⟨k.os.trans h.os, k.tape.trans h.tape, k.output.trans h.output, Nat.le_trans h.size k.size, fun i hi hm => (k.block i (Nat.lt_of_lt_of_le hi h.size) (fun hm2 => by
  rcases h.new i hm2 with h3 | h3
  ·exact hm h3
  ·omega)).trans (h.block i hi hm), fun i hm => by
  rcases k.new i hm with h3 | h3
  ·exact h.new i h3
  ·exact Or.inr (Nat.le_trans h.size h3)⟩
theorem Aw.lt (h : Aw w lo ab mp x y A) {k : Nat} (hk : AMine ab mp x y k) : lo <= k /\ k < w.heap.size := by
 have := h.low
 rcases hk with rfl | rfl | hg | hg
 ·exact ⟨this.1, (Array.getElem?_eq_some_iff.1 h.at').1⟩
 ·exact ⟨this.2, h.wh.lt⟩
 ·exact h.nd.lt k hg
 ·exact h.qu.lt k hg
theorem AF.low (h : AF ab mp x y x' y' w w') (ha : Aw w lo ab mp x y A) (hl : lo <= w.heap.size) : Below lo w w' :=
 ⟨h.os, h.tape, h.output, h.size, fun k hk => h.block k (by omega) (fun hm => by have := (ha.lt hm).1; omega)⟩
theorem Aw.keep (h : Aw w lo ab mp x y A) (hb : ∀ k, AMine ab mp x y k -> w'.heap[k]? = w.heap[k]?) : Aw w' lo ab mp x y A :=
 ⟨(hb ab (Or.inl rfl)).trans h.at', h.wh.move (hb mp (Or.inr (Or.inl rfl))), own_mv h.nd (fun g hg _ => hb g (Or.inr (Or.inr (Or.inl hg)))), own_mv h.qu (fun g hg _ => hb g (Or.inr (Or.inr (Or.inr hg)))), h.sep, h.off, h.ne, h.low⟩
theorem Aw.grow (h : Aw w lo ab mp x y A) (hb : Below w.heap.size w w') : Aw w' lo ab mp x y A := h.keep (fun k hk => hb.block k (h.lt hk).2)
theorem Aw.drew (h : Aw w lo ab mp x y A) : Aw w.drew lo ab mp x y A := h.keep (fun _ _ => rfl)
theorem Aw.alloc (h : Aw w lo ab mp x y A) (o : Obj) : Aw (w.alloc o) lo ab mp x y A := h.grow ((Below.refl _ _).alloc (Nat.le_refl _) _)
theorem Aw.node (h : Aw w lo ab mp x y A) {g : Nat} (hg : x.ownBlock = some g) (k o : Nat) (hk : k < A.nodes.length) (ho : o < 5) (u : Value) (f : Nd -> Nd) (hf : ∀ n, (ndA (f n)).toList = (ndA n).toList.set o u) :
  Aw (w.setCell ⟨g, k * 5 + o, none⟩ u) lo ab mp x y { A with nodes := A.nodes.modify k f } /\ AF ab mp x y x y w (w.setCell ⟨g, k * 5 + o, none⟩ u) := by
 have hb : ∀ k', k' ≠ g -> (w.setCell ⟨g, k * 5 + o, none⟩ u).heap[k']? = w.heap[k']? := fun k' hk' => Below.heap_setCell _ _ _ _ hk'
 obtain ⟨n1, n2⟩ := h.off g (Or.inl hg)
 refine ⟨⟨(hb ab (Ne.symm n1)).trans h.at', h.wh.move (hb mp (Ne.symm n2)), ?_, own_mv h.qu (fun q hq _ => hb q (fun e => by subst e; exact h.sep _ hg hq)), h.sep, h.off, h.ne, h.low⟩, ⟨rfl, rfl, rfl, by simp [World.setCell], fun k' _ hm => hb k' (fun e => hm (Or.inr (Or.inr (Or.inl (by rw [e]; exact hg))))), fun _ h => Or.inl h⟩⟩
 have h1 := own_set h.nd hg (o := k * 5 + o) (by omega) u
 have h2 : flatN (A.nodes.modify k f) = (flatN A.nodes).set (k * 5 + o) u := flat_mod (fun n => (ndA n).toList) 5 (fun _ => rfl) f o u ho hf A.nodes k hk
 show World.ownsRow _ _ _ _ _ (A.nodes.modify k f).length (flatN (A.nodes.modify k f))
 rw [h2, List.length_modify]
 exact h1
theorem Aw.queue (h : Aw w lo ab mp x y A) {g : Nat} (hg : y.ownBlock = some g) (k o : Nat) (hk : k < A.qs.length) (ho : o < 2) (u : Value) (f : Nat × Nat -> Nat × Nat) (hf : ∀ n, (qA (f n)).toList = (qA n).toList.set o u) :
  Aw (w.setCell ⟨g, k * 2 + o, none⟩ u) lo ab mp x y { A with qs := A.qs.modify k f } /\ AF ab mp x y x y w (w.setCell ⟨g, k * 2 + o, none⟩ u) := by
 have hb : ∀ k', k' ≠ g -> (w.setCell ⟨g, k * 2 + o, none⟩ u).heap[k']? = w.heap[k']? := fun k' hk' => Below.heap_setCell _ _ _ _ hk'
 obtain ⟨n1, n2⟩ := h.off g (Or.inr hg)
 refine ⟨⟨(hb ab (Ne.symm n1)).trans h.at', h.wh.move (hb mp (Ne.symm n2)), own_mv h.nd (fun q hq _ => hb q (fun e => by subst e; exact h.sep _ hq hg)), ?_, h.sep, h.off, h.ne, h.low⟩, ⟨rfl, rfl, rfl, by simp [World.setCell], fun k' _ hm => hb k' (fun e => hm (Or.inr (Or.inr (Or.inr (by rw [e]; exact hg))))), fun _ h => Or.inl h⟩⟩
 have h1 := own_set h.qu hg (o := k * 2 + o) (by omega) u
 have h2 : flatQ (A.qs.modify k f) = (flatQ A.qs).set (k * 2 + o) u := flat_mod (fun n => (qA n).toList) 2 (fun _ => rfl) f o u ho hf A.qs k hk
 show World.ownsRow _ _ _ _ _ (A.qs.modify k f).length (flatQ (A.qs.modify k f))
 rw [h2, List.length_modify]
 exact h1
theorem row_at {w : World} {lo size n : Nat} {e : TypeId} {v : Value} {xs : List Value} (h : w.ownsRow lo e size v n xs) (hn : 0 < n) : ∃ g cap, v = .slice (some ⟨g, 0, none⟩) n cap /\ v.ownBlock = some g /\ (∀ i, w.frozen? ⟨g, i, none⟩ = false) /\ ∀ i, i < n * size -> w.cell? ⟨g, i, none⟩ = xs[i]? := by
 have h' := h
 rcases h.2 with ⟨_, h2⟩ | ⟨g, cap, cur, h1, _, h3, _⟩
 ·omega
 ·refine ⟨g, cap, h1, by rw [h1]; rfl, fun i => (blk_cl h3).2 i, fun i hi => ?_⟩
  rw [h1] at h'
  exact h'.cellAt i hi
theorem flatN_at {l : List Nd} {k : Nat} {n : Nd} (h : l[k]? = some n) (o : Nat) (u : Value) (hu : (ndA n).toList[o]? = some u) : (flatN l)[k * 5 + o]? = some u := flat_at (fun n => (ndA n).toList) 5 (fun _ => rfl) l k n h o u hu
theorem flatQ_at {l : List (Nat × Nat)} {k : Nat} {n : Nat × Nat} (h : l[k]? = some n) (o : Nat) (u : Value) (hu : (qA n).toList[o]? = some u) : (flatQ l)[k * 2 + o]? = some u := flat_at (fun n => (qA n).toList) 2 (fun _ => rfl) l k n h o u hu
theorem ix_node (g n cap k : Nat) (hk : k < n) : ∀ W : World, (Instr.indexAt 134 (.slice (some ⟨g, 0, none⟩) n cap) (.int .i64 k)).run Tryz.prog W = .ok (.pointer (some ⟨g, k * 5, none⟩)) W := by
 intro W
 rw [run_indexAt_slice (h := by kernel_rfl), if_pos (by omega)]
 have : (sizeOf (Tryz.prog.elem 134)).run Tryz.prog W = .ok 5 W := by kernel_rfl
 rw [this]
 simp [Result.andThen, Addr.add]
 try omega
theorem ix_queue (g n cap k : Nat) (hk : k < n) : ∀ W : World, (Instr.indexAt 136 (.slice (some ⟨g, 0, none⟩) n cap) (.int .i64 k)).run Tryz.prog W = .ok (.pointer (some ⟨g, k * 2, none⟩)) W := by
 intro W
 rw [run_indexAt_slice (h := by kernel_rfl), if_pos (by omega)]
 have : (sizeOf (Tryz.prog.elem 136)).run Tryz.prog W = .ok 2 W := by kernel_rfl
 rw [this]
 simp [Result.andThen, Addr.add]
 try omega
end
end
open Go.RowKit
def Ar.find (A : Ar) (k : Nat) : Option (Nat × Bool) := match lookN k A.wh with
 | none => some (0, false)
 | some n => (A.nodes[n]?).map fun d => (d.queue, true)
def Ar.len (A : Ar) (q : Nat) : Option Nat := (A.qs[q]?).map fun p => p.1
def Ar.full (A : Ar) (q : Nat) : Option Bool := (A.qs[q]?).map fun p => p.1 == p.2
def Ar.tail (A : Ar) (q : Nat) : Option (Nat × Bool) := (A.qs[q]?).bind fun p => if p.1 = 0 then some (0, false) else (A.nodes[q]?).bind fun s => (A.nodes[s.prev]?).map fun d => (d.key, true)
def Ar.freq (A : Ar) (k : Nat) : Option Nat := match lookN k A.wh with
 | none => some 0
 | some n => (A.nodes[n]?).map fun d => d.freq
section
variable {w : World} {lo ab mp : Nat} {x y : Value} {A : Ar}
theorem Aw.nodeAt (h : Aw w lo ab mp x y A) {n : Nat} {d : Nd} (hd : A.nodes[n]? = some d) : ∃ g cap, x = .slice (some ⟨g, 0, none⟩) A.nodes.length cap /\ x.ownBlock = some g /\ n < A.nodes.length /\ (∀ i, w.frozen? ⟨g, i, none⟩ = false) /\ w.cell? ⟨g, n * 5, none⟩ = some (.int .u64 d.key) /\ w.cell? ⟨g, n * 5 + 1, none⟩ = some (.int .i64 d.freq) /\ w.cell? ⟨g, n * 5 + 2, none⟩ = some (.int .i64 d.queue) /\ w.cell? ⟨g, n * 5 + 3, none⟩ = some (.int .i64 d.prev) /\ w.cell? ⟨g, n * 5 + 4, none⟩ = some (.int .i64 d.next) := by
 have hn := (List.getElem?_eq_some_iff.1 hd).1
 obtain ⟨g, cap, h1, h2, h3, h4⟩ := row_at h.nd (by omega)
 refine ⟨g, cap, h1, h2, hn, h3, ?_, ?_, ?_, ?_, ?_⟩
 ·exact (h4 (n * 5 + 0) (by omega)).trans (flatN_at hd 0 _ rfl)
 ·exact (h4 _ (by omega)).trans (flatN_at hd 1 _ rfl)
 ·exact (h4 _ (by omega)).trans (flatN_at hd 2 _ rfl)
 ·exact (h4 _ (by omega)).trans (flatN_at hd 3 _ rfl)
 ·exact (h4 _ (by omega)).trans (flatN_at hd 4 _ rfl)
theorem Aw.queueAt (h : Aw w lo ab mp x y A) {n : Nat} {d : Nat × Nat} (hd : A.qs[n]? = some d) : ∃ g cap, y = .slice (some ⟨g, 0, none⟩) A.qs.length cap /\ y.ownBlock = some g /\ n < A.qs.length /\ (∀ i, w.frozen? ⟨g, i, none⟩ = false) /\ w.cell? ⟨g, n * 2, none⟩ = some (.int .i64 d.1) /\ w.cell? ⟨g, n * 2 + 1, none⟩ = some (.int .i64 d.2) := by
 have hn := (List.getElem?_eq_some_iff.1 hd).1
 obtain ⟨g, cap, h1, h2, h3, h4⟩ := row_at h.qu (by omega)
 refine ⟨g, cap, h1, h2, hn, h3, ?_, ?_⟩
 ·exact (h4 (n * 2 + 0) (by omega)).trans (flatQ_at hd 0 _ rfl)
 ·exact (h4 _ (by omega)).trans (flatQ_at hd 1 _ rfl)
theorem afind_any (h : Aw w lo ab mp x y A) (k : Nat) (hk : k < 18446744073709551616) (q : Nat) (b : Bool) (hq : A.find k = some (q, b)) :
  Calls Tryz.prog 76 #[ptr ab, .int .u64 k] w fun e w' => e = .returned (.tuple #[.int .i64 q, .bool b]) /\ w' = w := by
 have hget := h.wh.get_ok k hk
 obtain ⟨c1, cf1⟩ := blk_cl h.at'
 unfold Ar.find at hq
 cases hl : lookN k A.wh with
 | none =>
  rw [hl] at hq hget
  simp only [Option.some.injEq, Prod.mk.injEq] at hq
  obtain ⟨rfl, rfl⟩ := hq
  simp only [Option.getD_none, Option.isSome_none] at hget
  go_enter Tryz.func76, Tryz.ntmps76
  go_wp2_with fail
  exact bodyPost_ret (v := .tuple #[.int .i64 0, .bool false]) (by simp [results, Tryz.results76, go_sem]) rfl ⟨rfl, rfl⟩
 | some n =>
  rw [hl] at hq hget
  simp only [Option.map_eq_some_iff, Prod.mk.injEq] at hq
  obtain ⟨d, hd, rfl, rfl⟩ := hq
  simp only [Option.getD_some, Option.isSome_some] at hget
  obtain ⟨g, cap, e1, _, hn, _, _, _, k2, _, _⟩ := h.nodeAt hd
  rw [e1] at c1
  have hix := ix_node g A.nodes.length cap n hn
  go_enter Tryz.func76, Tryz.ntmps76
  go_wp2_with fail
  exact bodyPost_ret (v := .tuple #[.int .i64 d.queue, .bool true]) (by simp [results, Tryz.results76, go_sem]) rfl ⟨rfl, rfl⟩
theorem alen_any (h : Aw w lo ab mp x y A) (q r : Nat) (hq : A.len q = some r) :
  Calls Tryz.prog 54 #[ptr ab, .int .i64 q] w fun e w' => e = .returned (.int .i64 r) /\ w' = w := by
 unfold Ar.len at hq
 simp only [Option.map_eq_some_iff] at hq
 obtain ⟨d, hd, rfl⟩ := hq
 obtain ⟨g, cap, e1, _, hn, _, k0, k1⟩ := h.queueAt hd
 obtain ⟨c1, cf1⟩ := blk_cl h.at'
 rw [e1] at c1
 have hix := ix_queue g A.qs.length cap q hn
 go_enter Tryz.func54, Tryz.ntmps54
 go_wp2_with fail
 go_ret
 exact ⟨rfl, rfl⟩
theorem afull_any (h : Aw w lo ab mp x y A) (q : Nat) (r : Bool) (hq : A.full q = some r) :
  Calls Tryz.prog 106 #[ptr ab, .int .i64 q] w fun e w' => e = .returned (.bool r) /\ Below w.heap.size w w' := by
 unfold Ar.full at hq
 simp only [Option.map_eq_some_iff] at hq
 obtain ⟨d, hd, rfl⟩ := hq
 obtain ⟨g, cap, e1, _, hn, _, k0, k1⟩ := h.queueAt hd
 obtain ⟨c1, cf1⟩ := blk_cl h.at'
 rw [e1] at c1
 have hix := ix_queue g A.qs.length cap q hn
 have hb : ((d.1 : Int) == (d.2 : Int)) = (d.1 == d.2) := by
  rw [Bool.eq_iff_iff]
  simp only [beq_iff_eq]
  omega
 have HB : Hid (((d.1 : Int) == (d.2 : Int)) = (d.1 == d.2)) := hb
 clear hb
 go_enter Tryz.func106, Tryz.ntmps106
 go_wp2_with fail
 go_region
 all_goals
  go_wp2_with fail
  go_ret
  exact ⟨by rw [<- HB.out]; rfl, (bdrw (Below.refl _ _))⟩
theorem atail_any (h : Aw w lo ab mp x y A) (q k : Nat) (b : Bool) (hq : A.tail q = some (k, b)) :
  Calls Tryz.prog 107 #[ptr ab, .int .i64 q] w fun e w' => e = .returned (.tuple #[.int .u64 k, .bool b]) /\ Below w.heap.size w w' := by
 unfold Ar.tail at hq
 simp only [Option.bind_eq_some_iff] at hq
 obtain ⟨d, hd, hq⟩ := hq
 obtain ⟨g, cap, e1, _, hn, _, k0, k1⟩ := h.queueAt hd
 obtain ⟨c1, cf1⟩ := blk_cl h.at'
 rw [e1] at c1
 have hix := ix_queue g A.qs.length cap q hn
 by_cases h0 : d.1 = 0
 ·rw [if_pos h0] at hq
  simp only [Option.some.injEq, Prod.mk.injEq] at hq
  obtain ⟨rfl, rfl⟩ := hq
  rw [h0] at k0
  go_enter Tryz.func107, Tryz.ntmps107
  go_wp2_with fail
  exact bodyPost_ret (v := .tuple #[.int .u64 0, .bool false]) (by simp [results, Tryz.results107, go_sem]) rfl ⟨rfl, Below.refl _ _⟩
 ·rw [if_neg h0] at hq
  simp only [Option.bind_eq_some_iff, Option.map_eq_some_iff, Prod.mk.injEq] at hq
  obtain ⟨s, hs, t, ht, rfl, rfl⟩ := hq
  obtain ⟨g2, cap2, e2, _, hn2, _, m0, m1, m2, m3, m4⟩ := h.nodeAt hs
  obtain ⟨g3, cap3, e3, _, hn3, _, l0, l1, l2, l3, l4⟩ := h.nodeAt ht
  have e4 := e2.symm.trans e3
  simp only [Value.slice.injEq, Option.some.injEq, Addr.mk.injEq, and_true, true_and] at e4
  obtain ⟨e4, e5⟩ := e4
  subst e4 e5
  rw [e2] at c1
  have hix2 := ix_node g2 A.nodes.length cap2 q hn2
  have hix3 := ix_node g2 A.nodes.length cap2 s.prev hn3
  have hne : ((d.1 : Int) == 0) = false := by simp; omega
  clear e1 e2 e3
  go_enter Tryz.func107, Tryz.ntmps107
  go_wp2_with fail
  go_region
  all_goals
   go_wp2_with fail
   exact bodyPost_ret (v := .tuple #[.int .u64 t.key, .bool true]) (by simp [results, Tryz.results107, go_sem]) rfl ⟨rfl, (bdrw (Below.refl _ _))⟩
theorem afreq_any (h : Aw w lo ab mp x y A) (k : Nat) (hk : k < 18446744073709551616) (r : Nat) (hq : A.freq k = some r) :
  Calls Tryz.prog 108 #[ptr ab, .int .u64 k] w fun e w' => e = .returned (.int .i64 r) /\ w' = w := by
 have hget := h.wh.get_ok k hk
 obtain ⟨c1, cf1⟩ := blk_cl h.at'
 unfold Ar.freq at hq
 cases hl : lookN k A.wh with
 | none =>
  rw [hl] at hq hget
  simp only [Option.some.injEq] at hq
  subst hq
  simp only [Option.getD_none, Option.isSome_none] at hget
  go_enter Tryz.func108, Tryz.ntmps108
  go_wp2_with fail
  go_ret
  exact ⟨rfl, rfl⟩
 | some n =>
  rw [hl] at hq hget
  simp only [Option.map_eq_some_iff] at hq
  obtain ⟨d, hd, rfl⟩ := hq
  simp only [Option.getD_some, Option.isSome_some] at hget
  obtain ⟨g, cap, e1, _, hn, _, _, k1, _, _, _⟩ := h.nodeAt hd
  rw [e1] at c1
  have hix := ix_node g A.nodes.length cap n hn
  go_enter Tryz.func108, Tryz.ntmps108
  go_wp2_with fail
  go_ret
  exact ⟨rfl, rfl⟩
end
def Ar.setN (A : Ar) (k : Nat) (f : Nd -> Nd) : Ar := { A with nodes := A.nodes.modify k f }
def Ar.setQ (A : Ar) (k : Nat) (f : Nat × Nat -> Nat × Nat) : Ar := { A with qs := A.qs.modify k f }
def Ar.setFreq (A : Ar) (k f : Nat) : Option Ar := match lookN k A.wh with
 | none => some A
 | some n => if n < A.nodes.length then some (A.setN n fun d => { d with freq := f }) else none
def Ar.unlink (A : Ar) (n : Nat) : Option Ar := (A.nodes[n]?).bind fun d => (A.qs[d.queue]?).bind fun p =>
 if 0 <= d.next /\ d.next.toNat < A.nodes.length /\ d.prev < A.nodes.length /\ 1 <= p.1 /\ p.1 <= 100000 then
  some (((A.setN d.prev fun e => { e with next := d.next }).setN d.next.toNat fun e => { e with prev := d.prev }).setQ d.queue fun r => (p.1 - 1, r.2))
 else none
def Ar.next (A : Ar) (q : Nat) (tail : Bool) : Option Int := (A.nodes[q]?).map fun s => if tail then (q : Int) else s.next
def Ar.link (A : Ar) (n q : Nat) (tail : Bool) : Option Ar := (A.next q tail).bind fun nx => (A.nodes[nx.toNat]?).bind fun t => (A.qs[q]?).bind fun p =>
 if 0 <= nx /\ n < A.nodes.length /\ t.prev < A.nodes.length /\ p.1 <= 100000 then
  some ((((((A.setN n fun e => { e with queue := q }).setN n fun e => { e with prev := t.prev }).setN n fun e => { e with next := nx }).setN t.prev fun e => { e with next := n }).setN nx.toNat fun e => { e with prev := n }).setQ q fun r => (p.1 + 1, r.2))
 else none
section
variable {w : World} {lo ab mp : Nat} {x y : Value} {A : Ar}
def OutA (w : World) (lo ab mp : Nat) (x y v : Value) (A : Ar) (e : Ending) (w' : World) : Prop := e = .returned v /\ Aw w' lo ab mp x y A /\ AF ab mp x y x y w w'
theorem asetFreq_any (h : Aw w lo ab mp x y A) (k : Nat) (hk : k < 18446744073709551616) (f : Nat) (B : Ar) (hq : A.setFreq k f = some B) :
  Calls Tryz.prog 137 #[ptr ab, .int .u64 k, .int .i64 f] w (OutA w lo ab mp x y (.tuple #[]) B) := by
 have hget := h.wh.get_ok k hk
 obtain ⟨c1, cf1⟩ := blk_cl h.at'
 unfold Ar.setFreq at hq
 cases hl : lookN k A.wh with
 | none =>
  rw [hl] at hq hget
  simp only [Option.some.injEq] at hq
  subst hq
  simp only [Option.getD_none, Option.isSome_none] at hget
  go_enter Tryz.func137, Tryz.ntmps137
  go_wp2_with fail
  exact bodyPost_end (by simp [results, Tryz.results137, go_sem]) rfl ⟨rfl, h, AF.refl _ _ _ _ _⟩
 | some n =>
  rw [hl] at hq hget
  simp only at hq
  split at hq
  ·rename_i hn
   simp only [Option.some.injEq] at hq
   subst hq
   simp only [Option.getD_some, Option.isSome_some] at hget
   obtain ⟨g, cap, e1, hg, _, hfz, _, k1, _, _, _⟩ := h.nodeAt (List.getElem?_eq_getElem hn)
   obtain ⟨H2, F2⟩ := h.node hg n 1 hn (by decide) (.int .i64 f) (fun d => { d with freq := f }) (fun _ => rfl)
   rw [e1] at c1
   have hix := ix_node g A.nodes.length cap n hn
   go_enter Tryz.func137, Tryz.ntmps137
   go_wp2_with fail
   exact bodyPost_end (by simp [results, Tryz.results137, go_sem]) rfl ⟨rfl, H2, F2⟩
  ·cases hq
def U4 (w : World) (lo ab mp : Nat) (x y : Value) (d : Nd) (A : Ar) (wx : World) : Prop :=
 Aw wx lo ab mp x y A /\ AF ab mp x y x y w wx /\ wx.heap[w.heap.size]? = some (.cells (ndA d) 133) /\ ¬ AMine ab mp x y w.heap.size
theorem AF.at' {x' y' : Value} {w w' : World} (h : AF ab mp x y x' y' w w') {n : Nat} {o : Obj} (hb : w.heap[n]? = some o) (hn : ¬ AMine ab mp x y n) : w'.heap[n]? = some o := (h.block n (Array.getElem?_eq_some_iff.1 hb).1 hn).trans hb
theorem aunlink_any (h : Aw w lo ab mp x y A) (n : Nat) (B : Ar) (hq : A.unlink n = some B) :
  Calls Tryz.prog 79 #[ptr ab, .int .i64 n] w (OutA w lo ab mp x y (.tuple #[]) B) := by
 unfold Ar.unlink at hq
 simp only [Option.bind_eq_some_iff] at hq
 obtain ⟨d, hd, p, hp, hq⟩ := hq
 split at hq
 ·rename_i hc
  obtain ⟨q1, q2, q3, q4, q5⟩ := hc
  simp only [Option.some.injEq] at hq
  obtain ⟨m, hm⟩ : ∃ m : Nat, d.next = (m : Int) := ⟨d.next.toNat, by omega⟩
  have hm' : d.next.toNat = m := by omega
  rw [hm'] at hq q2
  have HQ : Hid (B = ((A.setN d.prev fun e => { e with next := d.next }).setN m fun e => { e with prev := d.prev }).setQ d.queue fun r => (p.1 - 1, r.2)) := hq.symm
  have HM : Hid (d.next = (m : Int)) := hm
  clear hq hm' hm
  obtain ⟨g, cap, e1, hg, hn, hfz, k0, k1, k2, k3, k4⟩ := h.nodeAt hd
  have hix := ix_node g A.nodes.length cap n hn
  obtain ⟨c1, cf1⟩ := blk_cl h.at'
  rw [e1] at c1
  have hrg : w.rangeAt g (n * 5) (ndA d).toList := fun j u hu => by
   have hj : j < 5 := by have := (List.getElem?_eq_some_iff.1 hu).1; simpa using this
   obtain ⟨g', cap', e', _, _, hcell⟩ := row_at h.nd (by omega)
   have : g' = g := by rw [e1] at e'; simp at e'; exact e'.1.symm
   subst this
   exact (hcell _ (by omega)).trans (flatN_at hd j u hu)
  have hnm : ¬ AMine ab mp x y w.heap.size := fun hh => by have := (h.lt hh).2; omega
  go_enter Tryz.func79, Tryz.ntmps79
  go_upto_region 0 with fail
  refine wp_region_lit ?_
  iterate 18 go_step
  refine wpList_load_mid rfl 133 (.tmp 10) rfl g (n * 5) rfl (ndA d).toList _ hrg Tryz.underlying133 rfl (by kernel_rfl) ?_
  iterate 3 go_step
  refine store_in rfl 133 (.tmp 4) (.tmp 11) rfl (ndA d) rfl rfl (by kernel_rfl) rfl (by simp [Value.oneCell']) ?_
  intro w2 BB2 hb2 hz2
  have hd2 : U4 w lo ab mp x y d A w2 := ⟨h.grow BB2, AF.of _ _ _ _ BB2, hb2, hnm⟩
  have hl2 : w.heap.size < w2.heap.size := (Array.getElem?_eq_some_iff.1 hb2).1
  clear BB2 hb2 hz2 c1 cf1 k0 k1 k2 k3 k4 hrg hfz
  go_upto_region 1 with fail
  simp only [Act.put]
  go_cut [] (fun wx => U4 w lo ab mp x y d (A.setN d.prev fun e => { e with next := d.next }) wx)
  case first =>
   obtain ⟨H1, F1, b1, hm1⟩ := hd2
   obtain ⟨g1, cap1, e1', hg1, hn1, hfz1, _, _, _, _, j4⟩ := H1.nodeAt (List.getElem?_eq_getElem q3)
   have : g1 = g /\ cap1 = cap := by rw [e1] at e1'; simp at e1'; exact ⟨e1'.1.symm, e1'.2.symm⟩
   obtain ⟨rfl, rfl⟩ := this
   obtain ⟨c1, cf1⟩ := blk_cl H1.at'
   rw [e1] at c1
   obtain ⟨c2, cf2⟩ := blk_cl b1
   have hix1 := ix_node g1 A.nodes.length cap1 d.prev hn1
   obtain ⟨H2, F2⟩ := H1.node hg1 d.prev 4 hn1 (by decide) (.int .i64 d.next) (fun e => { e with next := d.next }) (fun _ => rfl)
   have b3 := F2.at' b1 hm1
   go_region
   all_goals
    go_wp2_with fail
    go_meet
    exact ⟨H2.drew, (F1.trans F2).drew, b3, hm1⟩
  case rest =>
  have hd2 := hcut
  clear hcut
  have hlen2 : (A.setN d.prev fun e => { e with next := d.next }).nodes.length = A.nodes.length := by simp [Ar.setN]
  have hqs2 : (A.setN d.prev fun e => { e with next := d.next }).qs = A.qs := rfl
  generalize (A.setN d.prev fun e => { e with next := d.next }) = A2 at *
  have q2' : m < A2.nodes.length := by omega
  go_upto_region 2 with fail
  go_cut [] (fun wx => U4 w lo ab mp x y d (A2.setN m fun e => { e with prev := d.prev }) wx)
  case first =>
   obtain ⟨H1, F1, b1, hm1⟩ := hd2
   obtain ⟨g1, cap1, e1', hg1, hn1, hfz1, _, _, _, j3, _⟩ := H1.nodeAt (List.getElem?_eq_getElem q2')
   obtain ⟨c1, cf1⟩ := blk_cl H1.at'
   rw [e1'] at c1
   obtain ⟨c2, cf2⟩ := blk_cl b1
   have hm := HM.out
   have hix1 := ix_node g1 A2.nodes.length cap1 m hn1
   obtain ⟨H2, F2⟩ := H1.node hg1 m 3 hn1 (by decide) (.int .i64 d.prev) (fun e => { e with prev := d.prev }) (fun _ => rfl)
   have b3 := F2.at' b1 hm1
   go_region
   all_goals
    go_wp2_with fail
    go_meet
    exact ⟨H2.drew, (F1.trans F2).drew, b3, hm1⟩
  case rest =>
  have hd2 := hcut
  clear hcut
  have hqs3 : (A2.setN m fun e => { e with prev := d.prev }).qs = A.qs := hqs2
  generalize (A2.setN m fun e => { e with prev := d.prev }) = A3 at *
  have hp3 : A3.qs[d.queue]? = some p := by rw [hqs3]; exact hp
  clear hqs3
  go_upto_region 3 with fail
  obtain ⟨H1, F1, b1, hm1⟩ := hd2
  obtain ⟨g1, cap1, e1', hg1, hn1, hfz1, j0, j1⟩ := H1.queueAt hp3
  obtain ⟨c1, cf1⟩ := blk_cl H1.at'
  rw [e1'] at c1
  obtain ⟨c2, cf2⟩ := blk_cl b1
  have hix1 := ix_queue g1 A3.qs.length cap1 d.queue hn1
  obtain ⟨p1, p2⟩ := p
  obtain ⟨r, rfl⟩ : ∃ r, p1 = r + 1 := ⟨p1 - 1, by simp at q4; omega⟩
  have j0 : _ = some (Value.int .i64 ((r : Int) + 1)) := j0
  obtain ⟨H2, F2⟩ := H1.queue hg1 d.queue 0 hn1 (by decide) (.int .i64 r) (fun u => (r, u.2)) (fun _ => rfl)
  have E2 : Hid ({ A3 with qs := A3.qs.modify d.queue fun u => (r, u.2) } = B) := HQ.out.symm
  have q5 : r + 1 <= 100000 := q5
  clear e1 e1'
  go_region
  all_goals
   go_wp2_with fail
   exact bodyPost_end (by simp [results, Tryz.results79, go_sem]) rfl ⟨rfl, by rw [<- E2.out]; exact H2.drew, (F1.trans F2).drew⟩
 ·cases hq
end
section
variable {w : World} {lo ab mp : Nat} {x y : Value} {A : Ar}
def V5 (w : World) (lo ab mp : Nat) (x y : Value) (A : Ar) (wx : World) : Prop := Aw wx lo ab mp x y A /\ AF ab mp x y x y w wx
theorem alink_any (h : Aw w lo ab mp x y A) (n q : Nat) (tail : Bool) (B : Ar) (hq : A.link n q tail = some B) :
  Calls Tryz.prog 148 #[ptr ab, .int .i64 n, .int .i64 q, .bool tail] w (OutA w lo ab mp x y (.tuple #[]) B) := by
 unfold Ar.link Ar.next at hq
 simp only [Option.bind_eq_some_iff, Option.map_eq_some_iff] at hq
 obtain ⟨nx, ⟨s, hs, hnx⟩, t, ht, p, hp, hq⟩ := hq
 split at hq
 ·rename_i hc
  obtain ⟨q1, q2, q3, q4⟩ := hc
  simp only [Option.some.injEq] at hq
  obtain ⟨m, hm⟩ : ∃ m : Nat, nx = (m : Int) := ⟨nx.toNat, by omega⟩
  subst hm
  simp only [Int.toNat_natCast] at hq ht
  have HQ : Hid (B = _) := hq.symm
  clear hq q1
  have hd2 : V5 w lo ab mp x y A w := ⟨h, AF.refl _ _ _ _ _⟩
  obtain ⟨g, cap, e1, hg, hn, hfz, k0, k1, k2, k3, k4⟩ := h.nodeAt hs
  obtain ⟨g', cap', e1', _, hn', _, _, _, _, l3, _⟩ := h.nodeAt ht
  have : g' = g /\ cap' = cap := by rw [e1] at e1'; simp at e1'; exact ⟨e1'.1.symm, e1'.2.symm⟩
  obtain ⟨rfl, rfl⟩ := this
  obtain ⟨c1, cf1⟩ := blk_cl h.at'
  rw [e1] at c1
  have hix := ix_node g' A.nodes.length cap' q hn
  have hix2 := ix_node g' A.nodes.length cap' m hn'
  go_enter Tryz.func148, Tryz.ntmps148
  go_upto_if 18 with fail
  go_cut [8] (fun v wx => v = .int .i64 m /\ wx = w)
  case first =>
   cases tail
   ·have e : s.next = (m : Int) := by simpa using hnx
    rw [e]
    go_wp2_with fail
    go_meet
    exact ⟨rfl, rfl⟩
   ·have e : (q : Int) = (m : Int) := by simpa using hnx
    have e : q = m := by omega
    subst e
    go_wp2_with fail
    go_meet
    exact ⟨rfl, rfl⟩
  case rest =>
  obtain ⟨rfl, hw⟩ := hcut
  have hw := hw.symm
  subst hw
  go_upto_region 4 with fail
  clear c1 cf1 k0 k1 k2 k3 k4 l3 hfz hix hix2
  go_cut [] (fun wx => V5 w lo ab mp x y (((A.setN n fun e => { e with queue := q }).setN n fun e => { e with prev := t.prev }).setN n fun e => { e with next := (m : Int) }) wx)
  case first =>
   obtain ⟨H1, F1⟩ := hd2
   obtain ⟨g1, cap1, e1', hg1, hn1, hfz1, _, _, j2, j3, j4⟩ := H1.nodeAt (List.getElem?_eq_getElem q2)
   obtain ⟨c1, cf1⟩ := blk_cl H1.at'
   rw [e1'] at c1
   have hix1 := ix_node g1 A.nodes.length cap1 n hn1
   obtain ⟨H2, F2⟩ := H1.node hg1 n 2 hn1 (by decide) (.int .i64 q) (fun e => { e with queue := q }) (fun _ => rfl)
   obtain ⟨H3, F3⟩ := H2.node hg1 n 3 (by simpa using hn1) (by decide) (.int .i64 t.prev) (fun e => { e with prev := t.prev }) (fun _ => rfl)
   obtain ⟨H4, F4⟩ := H3.node hg1 n 4 (by simpa using hn1) (by decide) (.int .i64 m) (fun e => { e with next := (m : Int) }) (fun _ => rfl)
   have FF := (F2.trans F3).trans F4
   clear F2 F3 F4 H2 H3
   have HH : Hid _ := H4
   have HF : Hid _ := FF
   clear H4 FF
   go_region
   all_goals
    go_wp2_with fail
    go_meet
    exact ⟨HH.out.drew, HF.out.drew⟩
  case rest =>
  have hd2 := hcut
  clear hcut
  have hlen2 : (((A.setN n fun e => { e with queue := q }).setN n fun e => { e with prev := t.prev }).setN n fun e => { e with next := (m : Int) }).nodes.length = A.nodes.length := by simp [Ar.setN]
  have hqs2 : (((A.setN n fun e => { e with queue := q }).setN n fun e => { e with prev := t.prev }).setN n fun e => { e with next := (m : Int) }).qs = A.qs := rfl
  generalize (((A.setN n fun e => { e with queue := q }).setN n fun e => { e with prev := t.prev }).setN n fun e => { e with next := (m : Int) }) = A2 at *
  have r3 : t.prev < A2.nodes.length := by omega
  have hp2 : A2.qs[q]? = some p := by rw [hqs2]; exact hp
  have r4 : m < A2.nodes.length := by omega
  clear hlen2 hqs2 e1 e1' hp ht hs q2 q3 hn hn' h hnx
  go_upto_region 5 with fail
  go_cut [] (fun wx => V5 w lo ab mp x y (A2.setN t.prev fun e => { e with next := (n : Int) }) wx)
  case first =>
   obtain ⟨H1, F1⟩ := hd2
   obtain ⟨g1, cap1, e1', hg1, hn1, hfz1, _, _, _, _, j4⟩ := H1.nodeAt (List.getElem?_eq_getElem r3)
   obtain ⟨c1, cf1⟩ := blk_cl H1.at'
   have hix1 := ix_node g1 A2.nodes.length cap1 t.prev hn1
   obtain ⟨H2, F2⟩ := H1.node hg1 t.prev 4 hn1 (by decide) (.int .i64 n) (fun e => { e with next := (n : Int) }) (fun _ => rfl)
   rw [e1'] at c1
   clear e1'
   go_wp2_with fail
   go_meet
   exact ⟨H2, F1.trans F2⟩
  case rest =>
  have hd2 := hcut
  clear hcut
  have hl3 : (A2.setN t.prev fun e => { e with next := (n : Int) }).nodes.length = A2.nodes.length := by simp [Ar.setN]
  have hp3 : (A2.setN t.prev fun e => { e with next := (n : Int) }).qs[q]? = some p := hp2
  generalize (A2.setN t.prev fun e => { e with next := (n : Int) }) = A3 at *
  have r5 : m < A3.nodes.length := by omega
  clear hl3 hp2 r3 r4
  go_upto_region 6 with fail
  go_cut [] (fun wx => V5 w lo ab mp x y (A3.setN m fun e => { e with prev := n }) wx)
  case first =>
   obtain ⟨H1, F1⟩ := hd2
   obtain ⟨g1, cap1, e1', hg1, hn1, hfz1, _, _, _, j3, _⟩ := H1.nodeAt (List.getElem?_eq_getElem r5)
   obtain ⟨c1, cf1⟩ := blk_cl H1.at'
   have hix1 := ix_node g1 A3.nodes.length cap1 m hn1
   obtain ⟨H2, F2⟩ := H1.node hg1 m 3 hn1 (by decide) (.int .i64 n) (fun e => { e with prev := n }) (fun _ => rfl)
   rw [e1'] at c1
   clear e1'
   go_wp2_with fail
   go_meet
   exact ⟨H2, F1.trans F2⟩
  case rest =>
  have hd2 := hcut
  clear hcut
  have hp4 : (A3.setN m fun e => { e with prev := n }).qs[q]? = some p := hp3
  generalize (A3.setN m fun e => { e with prev := n }) = A4 at *
  clear hp3 r5
  go_upto_region 7 with fail
  obtain ⟨H1, F1⟩ := hd2
  obtain ⟨g1, cap1, e1', hg1, hn1, hfz1, j0, j1⟩ := H1.queueAt hp4
  obtain ⟨c1, cf1⟩ := blk_cl H1.at'
  have hix1 := ix_queue g1 A4.qs.length cap1 q hn1
  obtain ⟨p1, p2⟩ := p
  obtain ⟨H2, F2⟩ := H1.queue hg1 q 0 hn1 (by decide) (.int .i64 ((p1 : Int) + 1)) (fun u => (p1 + 1, u.2)) (fun _ => rfl)
  have E2 : Hid ({ A4 with qs := A4.qs.modify q fun u => (p1 + 1, u.2) } = B) := HQ.out.symm
  have q4 : p1 <= 100000 := q4
  rw [e1'] at c1
  clear e1'
  go_wp2_with fail
  exact bodyPost_end (by simp [results, Tryz.results148, go_sem]) rfl ⟨rfl, by rw [<- E2.out]; exact H2, F1.trans F2⟩
 ·cases hq
end
def zeroN (next : Int) : Nd := ⟨0, 0, 0, 0, next⟩
def keyN (k : Nat) : Nd := ⟨k, 0, 0, 0, 0⟩
def Ar.fresh (A : Ar) : Option (Nat × Ar) :=
 if A.nodes.length <= 100000 then
  if A.free = -1 then some (A.nodes.length, { A with nodes := A.nodes ++ [zeroN 0] })
  else if 0 <= A.free then (A.nodes[A.free.toNat]?).map fun d => (A.free.toNat, { A with free := d.next })
  else none
 else none
def Ar.note (A : Ar) (k n : Nat) : Ar := { A with wh := (k, n) :: A.wh, wn := if (lookN k A.wh).isSome then A.wn else A.wn + 1 }
def Ar.add (A : Ar) (k : Nat) : Option (Nat × Ar) := if A.wn <= 100000 then (A.fresh).map fun p => (p.1, (p.2.setN p.1 fun _ => keyN k).note k p.1) else none
theorem mod_mod {α : Type} (f g : α -> α) : ∀ (l : List α) (k : Nat), (l.modify k f).modify k g = l.modify k (fun x => g (f x))
 | [], _ => by simp
 | a :: l, 0 => by simp
 | a :: l, k + 1 => by simp [mod_mod f g l k]
section
variable {w : World} {lo ab mp : Nat} {x y : Value} {A : Ar}
theorem Aw.whole (h : Aw w lo ab mp x y A) {g : Nat} (hg : x.ownBlock = some g) (k : Nat) (hk : k < A.nodes.length) (n : Nd) :
  Aw (w.setCells g (k * 5) (ndA n).toList) lo ab mp x y (A.setN k fun _ => n) /\ AF ab mp x y x y w (w.setCells g (k * 5) (ndA n).toList) := by
 obtain ⟨H1, F1⟩ := h.node hg k 0 hk (by decide) (.int .u64 n.key) (fun d => { d with key := n.key }) (fun _ => rfl)
 obtain ⟨H2, F2⟩ := H1.node hg k 1 (by simpa using hk) (by decide) (.int .i64 n.freq) (fun d => { d with freq := n.freq }) (fun _ => rfl)
 obtain ⟨H3, F3⟩ := H2.node hg k 2 (by simpa using hk) (by decide) (.int .i64 n.queue) (fun d => { d with queue := n.queue }) (fun _ => rfl)
 obtain ⟨H4, F4⟩ := H3.node hg k 3 (by simpa using hk) (by decide) (.int .i64 n.prev) (fun d => { d with prev := n.prev }) (fun _ => rfl)
 obtain ⟨H5, F5⟩ := H4.node hg k 4 (by simpa using hk) (by decide) (.int .i64 n.next) (fun d => { d with next := n.next }) (fun _ => rfl)
 refine ⟨?_, (((F1.trans F2).trans F3).trans F4).trans F5⟩
 simp only [mod_mod] at H5
 exact H5
theorem row_there {w : World} {lo size n : Nat} {e : TypeId} {v : Value} {xs : List Value} (h : w.ownsRow lo e size v n xs) {g : Nat} (hg : v.ownBlock = some g) (o m : Nat) (ho : o + m <= n * size) : w.there g o m := by
 intro j hj
 have hl := h.1
 have hn : 0 < n := by
  rcases Nat.eq_zero_or_pos n with e | e
  ·subst e; simp at ho; omega
  ·exact e
 obtain ⟨g', cap, h1, h2, h3, h4⟩ := row_at h hn
 have : g' = g := by rw [hg] at h2; simpa using h2.symm
 subst this
 refine ⟨?_, h3 _⟩
 rw [h4 _ (by omega), List.getElem?_eq_getElem (by omega)]
 rfl
theorem Aw.noted (h : Aw w lo ab mp x y A) (hn : A.wn <= 100000) (k n : Nat) (hk : k < 18446744073709551616) (hv : n <= 1000000) :
  ∃ w', (Instr.mapUpdate 135 (.map (some mp)) (.int .u64 k) (.int .i64 n)).run Tryz.prog w = .ok () w' /\ Aw w' lo ab mp x y (A.note k n) /\ AF ab mp x y x y w w' := by
 obtain ⟨w', hrun, hm, hg, hs⟩ := h.wh.put hn k hk n hv
 have hb : ∀ j, j < w.heap.size -> j ≠ mp -> w'.heap[j]? = w.heap[j]? := fun j hj hne => hg.block j hj (fun e => hne (by simpa using e))
 exact ⟨w', hrun, ⟨(hb ab (h.lt (Or.inl rfl)).2 h.ne).trans h.at', hm, own_mv h.nd (fun g hgx hl => hb g hl (h.off g (Or.inl hgx)).2), own_mv h.qu (fun g hgx hl => hb g hl (h.off g (Or.inr hgx)).2), h.sep, h.off, h.ne, h.low⟩, ⟨hg.os, hg.tape, hg.output, hg.size, fun j hj hm => hb j hj (fun e => hm (Or.inr (Or.inl e))), fun _ h => Or.inl h⟩⟩
theorem Aw.struck (h : Aw w lo ab mp x y A) (k : Nat) (hk : k < 18446744073709551616) (ty : TypeId) :
  ∃ w', (Builtin.delete_ #[135, 27] ty #[.map (some mp), .int .u64 k]).run Tryz.prog w = .ok (.tuple #[]) w' /\ Aw w' lo ab mp x y { A with wh := dropN k A.wh, wn := A.wn - (if (lookN k A.wh).isSome then 1 else 0) } /\ AF ab mp x y x y w w' := by
 obtain ⟨w', hrun, hm, hg, hs⟩ := h.wh.del k hk ty
 have hb : ∀ j, j < w.heap.size -> j ≠ mp -> w'.heap[j]? = w.heap[j]? := fun j hj hne => hg.block j hj (fun e => hne (by simpa using e))
 exact ⟨w', hrun, ⟨(hb ab (h.lt (Or.inl rfl)).2 h.ne).trans h.at', hm, own_mv h.nd (fun g hgx hl => hb g hl (h.off g (Or.inl hgx)).2), own_mv h.qu (fun g hgx hl => hb g hl (h.off g (Or.inr hgx)).2), h.sep, h.off, h.ne, h.low⟩, ⟨hg.os, hg.tape, hg.output, hg.size, fun j hj hm => hb j hj (fun e => hm (Or.inr (Or.inl e))), fun _ h => Or.inl h⟩⟩
theorem Aw.freed (h : Aw w lo ab mp x y A) (f : Int) : Aw (w.setCell ⟨ab, 1, none⟩ (.int .i64 f)) lo ab mp x y { A with free := f } /\ AF ab mp x y x y w (w.setCell ⟨ab, 1, none⟩ (.int .i64 f)) := by
 have hb : ∀ j, j ≠ ab -> (w.setCell ⟨ab, 1, none⟩ (.int .i64 f)).heap[j]? = w.heap[j]? := fun j hj => Below.heap_setCell _ _ _ _ hj
 exact ⟨⟨(heap_setCell_same _ _ 1 _ _ _ h.at').trans rfl, h.wh.move (hb mp (Ne.symm h.ne)), own_mv h.nd (fun g hg _ => hb g (h.off g (Or.inl hg)).1), own_mv h.qu (fun g hg _ => hb g (h.off g (Or.inr hg)).1), h.sep, h.off, h.ne, h.low⟩, ⟨rfl, rfl, rfl, by simp [World.setCell], fun j _ hm => hb j (fun e => hm (Or.inl e)), fun _ h => Or.inl h⟩⟩
theorem Aw.grown {w' : World} (h : Aw w lo ab mp x y A) (u : Value) (n : Nd) (hg : w.grownBy w' x.ownBlock) (hat : u.ownBlock = x.ownBlock \/ u.ownBlock = some w.heap.size) (hown : w'.ownsRow lo 133 5 u (A.nodes.length + 1) (flatN A.nodes ++ (ndA n).toList)) :
  Aw (w'.setCell ⟨ab, 0, none⟩ u) lo ab mp u y { A with nodes := A.nodes ++ [n] } /\ AF ab mp x y u y w (w'.setCell ⟨ab, 0, none⟩ u) := by
 have l1 := (h.lt (Or.inl rfl)).2
 have l2 := (h.lt (Or.inr (Or.inl rfl))).2
 have hb : ∀ j, j ≠ ab -> (w'.setCell ⟨ab, 0, none⟩ u).heap[j]? = w'.heap[j]? := fun j hj => Below.heap_setCell _ _ _ _ hj
 have hk : ∀ j, j < w.heap.size -> x.ownBlock ≠ some j -> w'.heap[j]? = w.heap[j]? := fun j hj hne => hg.block j hj (fun e => hne e.symm)
 have hu : ∀ g, u.ownBlock = some g -> g ≠ ab /\ g ≠ mp /\ y.ownBlock ≠ some g := fun g hgu => by
  rcases hat with e | e
  ·have e2 := e.symm.trans hgu
   exact ⟨(h.off g (Or.inl e2)).1, (h.off g (Or.inl e2)).2, h.sep g e2⟩
  ·have e3 : w.heap.size = g := by simpa using e.symm.trans hgu
   exact ⟨by omega, by omega, fun e4 => by have := (h.qu.lt g e4).2; omega⟩
 refine ⟨⟨(heap_setCell_same _ _ 0 _ _ _ ((hk ab l1 (fun e => (h.off ab (Or.inl e)).1 rfl)).trans h.at')).trans rfl, h.wh.move ((hb mp (Ne.symm h.ne)).trans (hk mp l2 (fun e => (h.off mp (Or.inl e)).2 rfl))), ?_, own_mv h.qu (fun g hgy hl => (hb g (h.off g (Or.inr hgy)).1).trans (hk g hl (fun e => h.sep g e hgy))), fun g hgu => (hu g hgu).2.2, ?_, h.ne, h.low⟩, ?_⟩
 ·show World.ownsRow _ _ _ _ _ (A.nodes ++ [n]).length (flatN (A.nodes ++ [n]))
  rw [flatN_snoc, List.length_append]
  exact own_mv hown (fun g hgu _ => hb g (hu g hgu).1)
 ·intro g hgo
  rcases hgo with e | e
  ·exact ⟨(hu g e).1, (hu g e).2.1⟩
  ·exact h.off g (Or.inr e)
 ·refine ⟨hg.os, hg.tape, hg.output, by have := hg.size; simpa [World.setCell] using this, fun j hj hm => (hb j (fun e => hm (Or.inl e))).trans (hk j hj (fun e => hm (Or.inr (Or.inr (Or.inl e))))), fun j hj => ?_⟩
  rcases hj with e | e | e | e
  ·exact Or.inl (Or.inl e)
  ·exact Or.inl (Or.inr (Or.inl e))
  ·rcases hat with e2 | e2
   ·exact Or.inl (Or.inr (Or.inr (Or.inl (e2.symm.trans e))))
   ·have : w.heap.size = j := by simpa using e2.symm.trans e
    exact Or.inr (by omega)
  ·exact Or.inl (Or.inr (Or.inr (Or.inr e)))
def OutAB (w : World) (lo ab mp : Nat) (x y v : Value) (A : Ar) (e : Ending) (w' : World) : Prop := e = .returned v /\ ∃ x', Aw w' lo ab mp x' y A /\ AF ab mp x y x' y w w'
theorem aadd_any (h : Aw w lo ab mp x y A) (hlow : lo <= w.heap.size) (k : Nat) (hk : k < 18446744073709551616) (n : Nat) (B : Ar) (hq : A.add k = some (n, B)) :
  Calls Tryz.prog 147 #[ptr ab, .int .u64 k] w (OutAB w lo ab mp x y (.int .i64 n) B) := by
 unfold Ar.add at hq
 split at hq
 ·rename_i hwn
  simp only [Option.map_eq_some_iff, Prod.mk.injEq] at hq
  obtain ⟨⟨n', C⟩, hfr, rfl, rfl⟩ := hq
  have hwn2 : C.wn <= 100000 /\ n' <= 1000000 /\ n' < C.nodes.length := by
   unfold Ar.fresh at hfr
   split at hfr
   ·split at hfr
    ·simp only [Option.some.injEq, Prod.mk.injEq] at hfr
     obtain ⟨rfl, rfl⟩ := hfr
     exact ⟨hwn, by omega, by simp⟩
    ·split at hfr
     ·simp only [Option.map_eq_some_iff, Prod.mk.injEq] at hfr
      obtain ⟨d, hd, rfl, rfl⟩ := hfr
      have := (List.getElem?_eq_some_iff.1 hd).1
      exact ⟨hwn, by omega, this⟩
     ·cases hfr
   ·cases hfr
  obtain ⟨s1, s2, s3⟩ := hwn2
  obtain ⟨c1, cf1⟩ := blk_cl h.at'
  go_enter Tryz.func147, Tryz.ntmps147
  go_upto_if 11 with fail
  go_cut [5] (fun v wx => v = .int .i64 n' /\ ∃ x', Aw wx lo ab mp x' y C /\ AF ab mp x y x' y w wx)
  case first =>
   unfold Ar.fresh at hfr
   split at hfr
   ·rename_i hlen
    split at hfr
    ·rename_i hfree
     simp only [Option.some.injEq, Prod.mk.injEq] at hfr
     obtain ⟨rfl, hC⟩ := hfr
     have HC : Hid (C = { A with nodes := A.nodes ++ [zeroN 0] }) := hC.symm
     clear hC
     obtain ⟨xa, xk, xc, hx⟩ := ownsRow_form2 h.nd
     have hxk : xk = A.nodes.length := by
      have h' := h.nd
      rw [hx] at h'
      rcases h'.2 with ⟨h1, h2⟩ | ⟨g, cap, cur, h1, _⟩
      ·simp at h1; omega
      ·simp at h1; exact h1.2.1
     subst hxk
     have hnd := h.nd
     have hGr := fun (u : Value) (w' : World) => (h.alloc (.cells (ndA (zeroN 0)) 133)).grown (w' := w') u (zeroN 0)
     have F0 := AF.of ab mp x y ((Below.refl w.heap.size w).alloc (Nat.le_refl _) (.cells (ndA (zeroN 0)) 133))
     rw [hx] at c1 hnd
     have hoff : ∀ g, (Value.slice xa A.nodes.length xc).ownBlock = some g -> g ≠ ab := fun g hg => (h.off g (Or.inl (by rw [hx]; exact hg))).1
     have HX : Hid (x = .slice xa A.nodes.length xc) := hx
     clear hx
     have hfb : (A.free == -1) = true := by rw [hfree]; decide
     have hlt := (h.lt (Or.inl rfl)).2
     obtain ⟨i0, hi, hz0, hz1, hz2⟩ := info_parts info_nd
     have hAt := h.at'
     rw [HX.out] at hAt
     clear hfree
     go_upto_region 4 with fail
     refine wp_region_lit ?_
     iterate 21 go_step
     refine wpList_append_own_at _ rfl (.tmp 21) (.tmp 23) 134 rfl lo 133 i0 (.agg (ndA ⟨0, 0, 0, 0, 0⟩)) 5 40 Tryz.underlying134 hi hz0 hz1 hz2 rfl (by decide) (.slice xa A.nodes.length xc) A.nodes.length (flatN A.nodes) (by simp [Act.eval]) (own_mv hnd (fun g _ hl => Below.heap_alloc _ _ _ hl)) ⟨w.heap.size, 0, none⟩ 1 1 (ndA (zeroN 0)).toList (by simp [Act.eval]) rfl (row_cells w (ndA (zeroN 0)) 133) (ndA_one _) (by simp only [maxLen]; omega) (by omega) (by simp; omega) ?_
     intro v' w6 hown6 hgrow _ hat
     obtain ⟨za, zk, zc, rfl⟩ := ownsRow_form2 hown6
     have a6 : w6.heap[ab]? = some (.cells #[.slice xa A.nodes.length xc, .int .i64 A.free, .map (some mp), y] 138) := (hgrow.block _ (by simp; omega) (fun e => hoff ab e.symm rfl)).trans ((Below.heap_alloc _ _ _ hlt).trans hAt)
     obtain ⟨c6, cf6⟩ := blk_cl a6
     obtain ⟨H2, F2⟩ := hGr (.slice za zk zc) w6 (by rw [HX.out]; exact hgrow) (by rw [HX.out]; exact hat) hown6
     clear hGr
     go_wp2_with fail
     go_meet
     exact ⟨rfl, _, by rw [HC.out]; exact H2, F0.trans F2⟩
    ·split at hfr
     ·rename_i hf1 hf2
      simp only [Option.map_eq_some_iff, Prod.mk.injEq] at hfr
      obtain ⟨d, hd, rfl, hC⟩ := hfr
      have HC : Hid (C = { A with free := d.next }) := hC.symm
      clear hC
      obtain ⟨m, hm⟩ : ∃ m : Nat, A.free = (m : Int) := ⟨A.free.toNat, by omega⟩
      have hm' : A.free.toNat = m := by omega
      rw [hm'] at hd
      have hne : (A.free == -1) = false := by simp; omega
      obtain ⟨g, cap, e1, hg, hn, hfz, k0, k1, k2, k3, k4⟩ := h.nodeAt hd
      obtain ⟨H2, F2⟩ := h.freed d.next
      have hix : ∀ W : World, (Instr.indexAt 134 (.slice (some ⟨g, 0, none⟩) A.nodes.length cap) (.int .i64 A.free)).run Tryz.prog W = .ok (.pointer (some ⟨g, m * 5, none⟩)) W := by rw [hm]; exact ix_node g A.nodes.length cap m hn
      rw [e1] at c1
      have HM : Hid (A.free = (A.free.toNat : Int)) := by show _ = _; omega
      clear e1 hm hm'
      go_wp2_with fail
      go_meet
      exact ⟨by rw [<- HM.out], x, by rw [HC.out]; exact H2, F2⟩
     ·cases hfr
   ·cases hfr
  case rest =>
  obtain ⟨rfl, x1, H1, F1⟩ := hcut
  clear hfr c1 cf1 h
  obtain ⟨g, cap, e1, hg, hn, hfz, _, _, _, _, _⟩ := H1.nodeAt (List.getElem?_eq_getElem s3)
  have hth := row_there H1.nd hg (n' * 5) 5 (by omega)
  obtain ⟨H2, F2⟩ := H1.whole hg n' s3 (keyN k)
  obtain ⟨c1, cf1⟩ := blk_cl H1.at'
  have hix := ix_node g C.nodes.length cap n' hn
  rw [e1] at c1
  clear e1
  go_upto_region 6 with fail
  refine wp_region_lit ?_
  iterate 24 go_step
  refine wpList_store_mid rfl 133 (.tmp 45) (.tmp 44) rfl g (n' * 5) (ndA (keyN k)) rfl rfl hth (by kernel_rfl) (by simp [Value.oneCell']) ?_
  obtain ⟨w3, hrun, H3, F3⟩ := H2.noted s1 k n' hk s2
  have F13 := (F1.trans F2).trans F3
  obtain ⟨c2, cf2⟩ := blk_cl H2.at'
  clear c1 cf1 F1 F2 F3 H1 H2
  generalize wc.setCells g (n' * 5) (ndA (keyN k)).toList = w2 at *
  go_wp2_with fail
  go_ret
  exact ⟨rfl, x1, H3, F13⟩
 ·cases hq
end
def Ar.struck (A : Ar) (k : Nat) : Ar := { A with wh := dropN k A.wh, wn := A.wn - (if (lookN k A.wh).isSome then 1 else 0) }
def Ar.spare (A : Ar) (n : Nat) : Ar := { A.setN n (fun _ => zeroN A.free) with free := n }
def Ar.forget (A : Ar) (k : Nat) : Option (Bool × Ar) := match lookN k A.wh with
 | none => some (false, A)
 | some n => (A.unlink n).bind fun B => if n < B.nodes.length then some (true, (B.struck k).spare n) else none
def Ar.move (A : Ar) (k q : Nat) (tail : Bool) : Option (Bool × Ar) := (A.full q).bind fun f => match lookN k A.wh with
 | none => if f then some (false, A) else (A.add k).bind fun p => (p.2.link p.1 q tail).map fun C => (true, C)
 | some n => (A.nodes[n]?).bind fun d => if f && !(d.queue == q) then some (false, A) else (A.unlink n).bind fun B => (B.link n q tail).map fun C => (true, C)
section
variable {w : World} {lo ab mp : Nat} {x y : Value} {A : Ar}
theorem aforget_any (h : Aw w lo ab mp x y A) (k : Nat) (hk : k < 18446744073709551616) (r : Bool) (B : Ar) (hq : A.forget k = some (r, B)) :
  Calls Tryz.prog 53 #[ptr ab, .int .u64 k] w (OutA w lo ab mp x y (.bool r) B) := by
 have hget := h.wh.get_ok k hk
 obtain ⟨c1, cf1⟩ := blk_cl h.at'
 unfold Ar.forget at hq
 cases hl : lookN k A.wh with
 | none =>
  rw [hl] at hq hget
  simp only [Option.some.injEq, Prod.mk.injEq] at hq
  obtain ⟨rfl, rfl⟩ := hq
  simp only [Option.getD_none, Option.isSome_none] at hget
  go_enter Tryz.func53, Tryz.ntmps53
  go_wp2_with fail
  go_ret
  exact ⟨rfl, h, AF.refl _ _ _ _ _⟩
 | some n =>
  rw [hl] at hq hget
  simp only [Option.bind_eq_some_iff] at hq
  obtain ⟨C, hC, hq⟩ := hq
  split at hq
  ·rename_i hn
   simp only [Option.some.injEq, Prod.mk.injEq] at hq
   obtain ⟨rfl, hB⟩ := hq
   have HB : Hid (B = (C.struck k).spare n) := hB.symm
   clear hB
   simp only [Option.getD_some, Option.isSome_some] at hget
   have HU := aunlink_any h n C hC
   go_enter Tryz.func53, Tryz.ntmps53
   go_wp2_with fail
   refine HU.mono ?_
   rintro e w1 ⟨rfl, H1, F1⟩
   clear HU hget c1 cf1 h
   obtain ⟨w2, hrun, H2, F2⟩ := H1.struck k hk 0
   obtain ⟨c1, cf1⟩ := blk_cl H1.at'
   have H2 : Aw w2 lo ab mp x y (C.struck k) := H2
   have hn2 : n < (C.struck k).nodes.length := hn
   have HB : Hid (B = (C.struck k).spare n) := HB
   have F12 := F1.trans F2
   generalize C.struck k = D at *
   clear F1 F2 H1
   go_upto_region 6 with fail
   go_cut [] (fun wx => V5 w lo ab mp x y (D.setN n fun _ => zeroN D.free) wx)
   case first =>
    obtain ⟨g, cap, e1, hg, _, hfz, k0, k1, k2, k3, k4⟩ := H2.nodeAt (List.getElem?_eq_getElem hn2)
    have hth := row_there H2.nd hg (n * 5) 5 (by omega)
    obtain ⟨H3, F3⟩ := H2.whole hg n hn2 (zeroN D.free)
    obtain ⟨c2, cf2⟩ := blk_cl H2.at'
    have hix := ix_node g D.nodes.length cap n hn2
    rw [e1] at c2
    clear e1
    have H3 : Hid _ := H3.drew
    have F3 : Hid _ := (F12.trans F3).drew
    go_region
    all_goals
     go_wp2_with fail
     go_meet
     exact ⟨H3.out, F3.out⟩
   case rest =>
   obtain ⟨H3, F3⟩ := hcut
   obtain ⟨H4, F4⟩ := H3.freed n
   obtain ⟨c3, cf3⟩ := blk_cl H3.at'
   clear c1 cf1 H2 F12
   go_wp2_with fail
   go_ret
   exact ⟨rfl, by rw [HB.out]; exact H4, F3.trans F4⟩
  ·cases hq
theorem amove_any (h : Aw w lo ab mp x y A) (hlow : lo <= w.heap.size) (k : Nat) (hk : k < 18446744073709551616) (q : Nat) (tail : Bool) (r : Bool) (B : Ar) (hq : A.move k q tail = some (r, B)) :
  Calls Tryz.prog 135 #[ptr ab, .int .u64 k, .int .i64 q, .bool tail] w (OutAB w lo ab mp x y (.bool r) B) := by
 have hget := h.wh.get_ok k hk
 obtain ⟨c1, cf1⟩ := blk_cl h.at'
 unfold Ar.move at hq
 simp only [Option.bind_eq_some_iff] at hq
 obtain ⟨f, hf, hq⟩ := hq
 have HF := afull_any h q f hf
 cases hl : lookN k A.wh with
 | none =>
  rw [hl] at hq hget
  simp only [Option.getD_none, Option.isSome_none] at hget hq
  cases f with
  | true =>
   simp only [if_true, Option.some.injEq, Prod.mk.injEq] at hq
   obtain ⟨rfl, rfl⟩ := hq
   go_enter Tryz.func135, Tryz.ntmps135
   go_wp2_with fail
   refine HF.mono ?_
   rintro e w1 ⟨rfl, B1⟩
   go_wp2_with fail
   go_ret
   exact ⟨rfl, x, h.grow B1, AF.of _ _ _ _ B1⟩
  | false =>
   simp only [Bool.false_eq_true, if_false, Option.bind_eq_some_iff, Option.map_eq_some_iff, Prod.mk.injEq] at hq
   obtain ⟨⟨n, C⟩, hC, D, hD, rfl, rfl⟩ := hq
   go_enter Tryz.func135, Tryz.ntmps135
   go_wp2_with fail
   refine HF.mono ?_
   rintro e w1 ⟨rfl, B1⟩
   clear hget c1 cf1 HF
   have z1 := B1.size
   have HA := aadd_any (h.grow B1) (by omega) k hk n C hC
   go_wp2_with fail
   refine HA.mono ?_
   rintro e w2 ⟨rfl, x2, H2, F2⟩
   clear HA
   have HL := alink_any H2 n q tail D hD
   go_wp2_with fail
   refine HL.mono ?_
   rintro e w3 ⟨rfl, H3, F3⟩
   clear HL
   go_wp2_with fail
   go_ret
   exact ⟨rfl, x2, H3, ((AF.of _ _ _ _ B1).trans F2).trans F3⟩
 | some n =>
  rw [hl] at hq hget
  simp only [Option.getD_some, Option.isSome_some] at hget hq
  simp only [Option.bind_eq_some_iff] at hq
  obtain ⟨d, hd, hq⟩ := hq
  have hc : ((d.queue : Int) == (q : Int)) = (d.queue == q) := by
   rw [Bool.eq_iff_iff]
   simp only [beq_iff_eq]
   omega
  by_cases hfull : (f && !(d.queue == q)) = true
  ·rw [if_pos hfull] at hq
   simp only [Option.some.injEq, Prod.mk.injEq] at hq
   obtain ⟨rfl, rfl⟩ := hq
   simp only [Bool.and_eq_true, Bool.not_eq_true'] at hfull
   obtain ⟨rfl, hne⟩ := hfull
   have hne : ((d.queue : Int) == (q : Int)) = false := hc.trans hne
   clear hc
   go_enter Tryz.func135, Tryz.ntmps135
   go_wp2_with fail
   refine HF.mono ?_
   rintro e w1 ⟨rfl, B1⟩
   have H1 := h.grow B1
   obtain ⟨g, cap, e1, hg, hn, hfz, k0, k1, k2, k3, k4⟩ := H1.nodeAt hd
   have hix := ix_node g A.nodes.length cap n hn
   obtain ⟨c2, cf2⟩ := blk_cl H1.at'
   rw [e1] at c2
   clear e1 c1 cf1 hget
   go_wp2_with fail
   go_ret
   exact ⟨rfl, x, h.grow B1, AF.of _ _ _ _ B1⟩
  ·rw [if_neg hfull] at hq
   simp only [Option.bind_eq_some_iff, Option.map_eq_some_iff, Prod.mk.injEq] at hq
   obtain ⟨C, hC, D, hD, rfl, rfl⟩ := hq
   cases f with
   | false =>
    go_enter Tryz.func135, Tryz.ntmps135
    go_wp2_with fail
    refine HF.mono ?_
    rintro e w1 ⟨rfl, B1⟩
    clear hget c1 cf1 HF
    have HA := aunlink_any (h.grow B1) n C hC
    go_wp2_with fail
    refine HA.mono ?_
    rintro e w2 ⟨rfl, H2, F2⟩
    clear HA
    have HL := alink_any H2 n q tail D hD
    go_wp2_with fail
    refine HL.mono ?_
    rintro e w3 ⟨rfl, H3, F3⟩
    clear HL
    go_wp2_with fail
    go_ret
    exact ⟨rfl, x, H3, ((AF.of _ _ _ _ B1).trans F2).trans F3⟩
   | true =>
    have hne : (d.queue == q) = true := by simpa using hfull
    have hne : ((d.queue : Int) == (q : Int)) = true := hc.trans hne
    clear hc hfull
    go_enter Tryz.func135, Tryz.ntmps135
    go_wp2_with fail
    refine HF.mono ?_
    rintro e w1 ⟨rfl, B1⟩
    have H1 := h.grow B1
    obtain ⟨g, cap, e1, hg, hn, hfz, k0, k1, k2, k3, k4⟩ := H1.nodeAt hd
    have hix := ix_node g A.nodes.length cap n hn
    obtain ⟨c2, cf2⟩ := blk_cl H1.at'
    rw [e1] at c2
    clear e1 c1 cf1 hget HF
    have HA := aunlink_any (h.grow B1) n C hC
    go_wp2_with fail
    refine HA.mono ?_
    rintro e w2 ⟨rfl, H2, F2⟩
    clear HA c2 cf2
    have HL := alink_any H2 n q tail D hD
    go_wp2_with fail
    refine HL.mono ?_
    rintro e w3 ⟨rfl, H3, F3⟩
    clear HL
    go_wp2_with fail
    go_ret
    exact ⟨rfl, x, H3, ((AF.of _ _ _ _ B1).trans F2).trans F3⟩
end
theorem flat_one {α : Type} (F : α -> List Value) (h : ∀ a, ∀ u ∈ F a, u.oneCell' = true) (l : List α) : ∀ u ∈ l.flatMap F, u.oneCell' = true := fun u hu => by
 obtain ⟨a, _, ha⟩ := List.mem_flatMap.1 hu
 exact h a u ha
theorem ints_one (l : List Nat) : ∀ u ∈ l.map (fun (n : Nat) => Value.int .i64 n), u.oneCell' = true := fun u hu => by
 obtain ⟨a, _, rfl⟩ := List.mem_map.1 hu
 rfl
theorem clone_nodes {w : World} {lo : Nat} {v : Value} (l : List Nd) (h : w.ownsRow lo 133 5 v l.length (flatN l)) (hl : l.length <= 1000000) :
  Calls Tryz.prog 103 #[v] w fun e w' => ∃ u, e = .returned u /\ w'.ownsRow w.heap.size 133 5 u l.length (flatN l) /\ Below w.heap.size w w' := by
 rcases h.2 with ⟨e1, e2⟩ | ⟨g, cap, cur, e1, _, h3, _⟩
 ·subst e1
  have : l = [] := List.eq_nil_of_length_eq_zero e2
  subst this
  have hq : ∀ W : World, (binOp .eql 134 (.slice none 0 0) (.slice none 0 0)).run Tryz.prog W = .ok (.bool true) W := fun W => by kernel_rfl
  go_enter Tryz.func103, Tryz.ntmps103
  go_wp2_with fail
  go_ret
  exact ⟨_, rfl, World.ownsRow_nil _ _ _ _, Below.refl _ _⟩
 ·subst e1
  obtain ⟨i0, hi, hz0, hz1, hz2⟩ := info_parts info_nd
  have hcell : ∀ j, j < l.length * 5 -> w.cell? ⟨g, j, none⟩ = (flatN l)[j]? := fun j hj => h.cellAt j hj
  have hlen : (flatN l).length = l.length * 5 := h.1
  have hg : g < w.heap.size := (Array.getElem?_eq_some_iff.1 h3).1
  have hown0 : (w.alloc (.cells #[] 133)).ownsRow w.heap.size 133 5 (.slice (some ⟨w.heap.size, 0, none⟩) 0 0) 0 [] := World.ownsRow_lit (base := w.heap.size) (e := 133) (size := 5) w #[] 0 (Nat.le_refl _) (by simp only [maxLen]; omega) rfl
  have hq : ∀ W : World, (binOp .eql 134 (.slice (some ⟨g, 0, none⟩) l.length cap) (.slice none 0 0)).run Tryz.prog W = .ok (.bool false) W := fun W => by kernel_rfl
  go_enter Tryz.func103, Tryz.ntmps103
  go_upto_region 3 with fail
  refine wp_region_lit ?_
  iterate 6 go_step
  refine wpList_append_own_at _ rfl (.tmp 5) (.tmp 6) 134 rfl w.heap.size 133 i0 (.agg (ndA ⟨0, 0, 0, 0, 0⟩)) 5 40 Tryz.underlying134 hi hz0 hz1 hz2 rfl (by decide) (.slice (some ⟨w.heap.size, 0, none⟩) 0 0) 0 [] (by simp [Act.eval]) hown0 ⟨g, 0, none⟩ l.length cap (flatN l) (by simp [Act.eval]) hlen (fun j u hu => by
   have hj : j < l.length * 5 := by have := (List.getElem?_eq_some_iff.1 hu).1; omega
   have e0 : (⟨g, 0, none⟩ : Addr).add j = ⟨g, j, none⟩ := by simp [Addr.add]; omega
   have : (w.alloc (.cells #[] 133)).cell? ⟨g, j, none⟩ = w.cell? ⟨g, j, none⟩ := World.cell?_alloc_lt _ _ ⟨g, j, none⟩ hg
   rw [e0, this, hcell j hj, hu]) (flat_one (fun n => (ndA n).toList) ndA_one l) (by simp only [maxLen]; omega) (by omega) (by simp) ?_
  intro v' w6 hown6 hgrow _ hat
  have B6 : Below w.heap.size w w6 := by
   have h0 := (Below.refl w.heap.size w).alloc (Nat.le_refl _) (.cells #[] 133)
   exact ⟨hgrow.os.trans h0.os, hgrow.tape.trans h0.tape, hgrow.output.trans h0.output, Nat.le_trans h0.size hgrow.size, fun i hi => (hgrow.block i (by simp; omega) (fun e => by simp [Value.ownBlock] at e; omega)).trans (h0.block i hi)⟩
  simp only [Nat.zero_add, List.nil_append] at hown6
  go_wp2_with fail
  go_ret
  exact ⟨_, rfl, hown6, B6⟩
theorem clone_queues {w : World} {lo : Nat} {v : Value} (l : List (Nat × Nat)) (h : w.ownsRow lo 179 2 v l.length (flatQ l)) (hl : l.length <= 1000000) :
  Calls Tryz.prog 105 #[v] w fun e w' => ∃ u, e = .returned u /\ w'.ownsRow w.heap.size 179 2 u l.length (flatQ l) /\ Below w.heap.size w w' := by
 rcases h.2 with ⟨e1, e2⟩ | ⟨g, cap, cur, e1, _, h3, _⟩
 ·subst e1
  have : l = [] := List.eq_nil_of_length_eq_zero e2
  subst this
  have hq : ∀ W : World, (binOp .eql 136 (.slice none 0 0) (.slice none 0 0)).run Tryz.prog W = .ok (.bool true) W := fun W => by kernel_rfl
  go_enter Tryz.func105, Tryz.ntmps105
  go_wp2_with fail
  go_ret
  exact ⟨_, rfl, World.ownsRow_nil _ _ _ _, Below.refl _ _⟩
 ·subst e1
  obtain ⟨i0, hi, hz0, hz1, hz2⟩ := info_parts info_q
  have hcell : ∀ j, j < l.length * 2 -> w.cell? ⟨g, j, none⟩ = (flatQ l)[j]? := fun j hj => h.cellAt j hj
  have hlen : (flatQ l).length = l.length * 2 := h.1
  have hg : g < w.heap.size := (Array.getElem?_eq_some_iff.1 h3).1
  have hown0 : (w.alloc (.cells #[] 179)).ownsRow w.heap.size 179 2 (.slice (some ⟨w.heap.size, 0, none⟩) 0 0) 0 [] := World.ownsRow_lit (base := w.heap.size) (e := 179) (size := 2) w #[] 0 (Nat.le_refl _) (by simp only [maxLen]; omega) rfl
  have hq : ∀ W : World, (binOp .eql 136 (.slice (some ⟨g, 0, none⟩) l.length cap) (.slice none 0 0)).run Tryz.prog W = .ok (.bool false) W := fun W => by kernel_rfl
  go_enter Tryz.func105, Tryz.ntmps105
  go_upto_region 3 with fail
  refine wp_region_lit ?_
  iterate 6 go_step
  refine wpList_append_own_at _ rfl (.tmp 5) (.tmp 6) 136 rfl w.heap.size 179 i0 (.agg (qA (0, 0))) 2 16 Tryz.underlying136 hi hz0 hz1 hz2 rfl (by decide) (.slice (some ⟨w.heap.size, 0, none⟩) 0 0) 0 [] (by simp [Act.eval]) hown0 ⟨g, 0, none⟩ l.length cap (flatQ l) (by simp [Act.eval]) hlen (fun j u hu => by
   have hj : j < l.length * 2 := by have := (List.getElem?_eq_some_iff.1 hu).1; omega
   have e0 : (⟨g, 0, none⟩ : Addr).add j = ⟨g, j, none⟩ := by simp [Addr.add]; omega
   have : (w.alloc (.cells #[] 179)).cell? ⟨g, j, none⟩ = w.cell? ⟨g, j, none⟩ := World.cell?_alloc_lt _ _ ⟨g, j, none⟩ hg
   rw [e0, this, hcell j hj, hu]) (flat_one (fun n => (qA n).toList) qA_one l) (by simp only [maxLen]; omega) (by omega) (by simp) ?_
  intro v' w6 hown6 hgrow _ hat
  have B6 : Below w.heap.size w w6 := by
   have h0 := (Below.refl w.heap.size w).alloc (Nat.le_refl _) (.cells #[] 179)
   exact ⟨hgrow.os.trans h0.os, hgrow.tape.trans h0.tape, hgrow.output.trans h0.output, Nat.le_trans h0.size hgrow.size, fun i hi => (hgrow.block i (by simp; omega) (fun e => by simp [Value.ownBlock] at e; omega)).trans (h0.block i hi)⟩
  simp only [Nat.zero_add, List.nil_append] at hown6
  go_wp2_with fail
  go_ret
  exact ⟨_, rfl, hown6, B6⟩
theorem info_i8 : (Tryz.prog.info? 3).map (fun i => (i.zero, i.size, i.bytes)) = some (some (.int .i64 0), 1, 8) := by kernel_rfl
theorem clone_ints {w : World} {lo : Nat} {v : Value} (l : List Nat) (h : w.ownsRow lo 3 1 v l.length (l.map (fun (n : Nat) => Value.int .i64 n))) (hl : l.length <= 1000000) :
  Calls Tryz.prog 75 #[v] w fun e w' => ∃ u, e = .returned u /\ w'.ownsRow w.heap.size 3 1 u l.length (l.map (fun (n : Nat) => Value.int .i64 n)) /\ Below w.heap.size w w' := by
 rcases h.2 with ⟨e1, e2⟩ | ⟨g, cap, cur, e1, _, h3, _⟩
 ·subst e1
  have : l = [] := List.eq_nil_of_length_eq_zero e2
  subst this
  have hq : ∀ W : World, (binOp .eql 85 (.slice none 0 0) (.slice none 0 0)).run Tryz.prog W = .ok (.bool true) W := fun W => by kernel_rfl
  go_enter Tryz.func75, Tryz.ntmps75
  go_wp2_with fail
  go_ret
  exact ⟨_, rfl, World.ownsRow_nil _ _ _ _, Below.refl _ _⟩
 ·subst e1
  obtain ⟨i0, hi, hz0, hz1, hz2⟩ := info_parts info_i8
  have hcell : ∀ j, j < l.length * 1 -> w.cell? ⟨g, j, none⟩ = (l.map (fun (n : Nat) => Value.int .i64 n))[j]? := fun j hj => h.cellAt j hj
  have hlen : (l.map (fun (n : Nat) => Value.int .i64 n)).length = l.length * 1 := h.1
  have hg : g < w.heap.size := (Array.getElem?_eq_some_iff.1 h3).1
  have hown0 : (w.alloc (.cells #[] 3)).ownsRow w.heap.size 3 1 (.slice (some ⟨w.heap.size, 0, none⟩) 0 0) 0 [] := World.ownsRow_lit (base := w.heap.size) (e := 3) (size := 1) w #[] 0 (Nat.le_refl _) (by simp only [maxLen]; omega) rfl
  have hq : ∀ W : World, (binOp .eql 85 (.slice (some ⟨g, 0, none⟩) l.length cap) (.slice none 0 0)).run Tryz.prog W = .ok (.bool false) W := fun W => by kernel_rfl
  go_enter Tryz.func75, Tryz.ntmps75
  go_upto_region 3 with fail
  refine wp_region_lit ?_
  iterate 6 go_step
  refine wpList_append_own_at _ rfl (.tmp 5) (.tmp 6) 85 rfl w.heap.size 3 i0 (.int .i64 0) 1 8 Tryz.underlying85 hi hz0 hz1 hz2 rfl (by decide) (.slice (some ⟨w.heap.size, 0, none⟩) 0 0) 0 [] (by simp [Act.eval]) hown0 ⟨g, 0, none⟩ l.length cap (l.map (fun (n : Nat) => Value.int .i64 n)) (by simp [Act.eval]) hlen (fun j u hu => by
   have hj : j < l.length * 1 := by have := (List.getElem?_eq_some_iff.1 hu).1; omega
   have e0 : (⟨g, 0, none⟩ : Addr).add j = ⟨g, j, none⟩ := by simp [Addr.add]; omega
   have : (w.alloc (.cells #[] 3)).cell? ⟨g, j, none⟩ = w.cell? ⟨g, j, none⟩ := World.cell?_alloc_lt _ _ ⟨g, j, none⟩ hg
   rw [e0, this, hcell j hj, hu]) (ints_one l) (by simp only [maxLen]; omega) (by omega) (by simp) ?_
  intro v' w6 hown6 hgrow _ hat
  have B6 : Below w.heap.size w w6 := by
   have h0 := (Below.refl w.heap.size w).alloc (Nat.le_refl _) (.cells #[] 3)
   exact ⟨hgrow.os.trans h0.os, hgrow.tape.trans h0.tape, hgrow.output.trans h0.output, Nat.le_trans h0.size hgrow.size, fun i hi => (hgrow.block i (by simp; omega) (fun e => by simp [Value.ownBlock] at e; omega)).trans (h0.block i hi)⟩
  simp only [Nat.zero_add, List.nil_append] at hown6
  go_wp2_with fail
  go_ret
  exact ⟨_, rfl, hown6, B6⟩
theorem clone_map {w : World} {mp c : Nat} {m : List (Nat × Nat)} (h : MapK w mp c m) :
  Calls Tryz.prog 104 #[.map (some mp)] w fun e w' => e = .returned (.map (some w.heap.size)) /\ MapK w' w.heap.size c m /\ Below w.heap.size w w' := by
 obtain ⟨es, clock, hb⟩ := h.obj
 have hq := fun W => run_eql_map_nil_sl (P := Tryz.prog) W 135 _ _ (some mp) uU
 go_enter Tryz.func104, Tryz.ntmps104
 go_wp2
 rw [run_callFunc_extern Tryz.func134 (by kernel_rfl) (by kernel_rfl) (by kernel_rfl) (e := Extern.MapsClone.clone) (by kernel_rfl), run_maps_clone_sl w 135 hb]
 simp only [Result.andThen]
 rw [Oper.upon_value]
 go_wp2
 rw [run_typeAssert_map_sl _ 135 20 _ _ _ uU]
 simp only [Result.andThen]
 rw [Oper.upon_value]
 go_wp2
 go_ret
 refine ⟨rfl, h.move ?_, (Below.refl _ w).alloc (Nat.le_refl _) _⟩
 rw [hb]
 exact heap_new rfl
theorem own_grow {w w' : World} {lo size n : Nat} {e : TypeId} {v : Value} {xs : List Value} (h : w.ownsRow lo e size v n xs) (hb : Below w.heap.size w w') : w'.ownsRow lo e size v n xs := own_mv h (fun g _ hl => hb.block g hl)
theorem mapk_grow {w w' : World} {b c : Nat} {m : List (Nat × Nat)} (h : MapK w b c m) (hb : Below w.heap.size w w') : MapK w' b c m := h.move (hb.block b h.lt)
theorem own_in {w : World} {lo size n : Nat} {e : TypeId} {v : Value} {xs : List Value} (h : w.ownsRow lo e size v n xs) : ∀ g, v.ownBlock = some g -> lo <= g /\ g < w.heap.size := fun g hg => h.lt g hg
theorem own_low {w : World} {lo lo' size n : Nat} {e : TypeId} {v : Value} {xs : List Value} (h : w.ownsRow lo e size v n xs) (hl : lo' <= lo) : w.ownsRow lo' e size v n xs := by
 obtain ⟨h1, h2⟩ := h
 refine ⟨h1, ?_⟩
 rcases h2 with h2 | ⟨g, cap, cur, a, b, c⟩
 ·exact Or.inl h2
 ·exact Or.inr ⟨g, cap, cur, a, by omega, c⟩
section
variable {w : World} {lo ab mp : Nat} {x y : Value} {A : Ar}
theorem Aw.made {W : World} {lo' : Nat} {x' y' : Value} {mp' : Nat} (hx : W.ownsRow lo' 133 5 x' A.nodes.length (flatN A.nodes)) (hy : W.ownsRow lo' 179 2 y' A.qs.length (flatQ A.qs)) (hm : MapK W mp' A.wn A.wh) (h1 : ∀ g, x'.ownBlock = some g -> y'.ownBlock ≠ some g) (h2 : ∀ g, x'.ownBlock = some g \/ y'.ownBlock = some g -> g ≠ mp') (h3 : lo' <= mp') (h4 : lo' <= W.heap.size) :
  Aw (W.alloc (.cells #[x', .int .i64 A.free, .map (some mp'), y'] 138)) lo' W.heap.size mp' x' y' A := by
 have hb := (Below.refl W.heap.size W).alloc (Nat.le_refl _) (.cells #[x', .int .i64 A.free, .map (some mp'), y'] 138)
 refine ⟨heap_new rfl, mapk_grow hm hb, own_grow hx hb, own_grow hy hb, h1, fun g hg => ⟨?_, h2 g hg⟩, ?_, ⟨h4, h3⟩⟩
 ·rcases hg with e | e
  ·have := (hx.lt g e).2; omega
  ·have := (hy.lt g e).2; omega
 ·have := hm.lt; omega
theorem aclone_any (h : Aw w lo ab mp x y A) (hn : A.nodes.length <= 1000000) (hqn : A.qs.length <= 1000000) :
  Calls Tryz.prog 74 #[ptr ab] w fun e w' => ∃ ab' mp' x' y', e = .returned (ptr ab') /\ Aw w' w.heap.size ab' mp' x' y' A /\ Below w.heap.size w w' := by
 have H : Aw w.drew lo ab mp x y A := h.drew
 have BB : Below w.heap.size w w.drew := bdrw (Below.refl _ _)
 have z0 : w.heap.size <= w.drew.heap.size := Nat.le_refl _
 obtain ⟨c0, cf0⟩ := blk_cl H.at'
 go_enter Tryz.func74, Tryz.ntmps74
 go_upto_region 1 with fail
 go_region_law (first
  | (refine wanted_pos rfl ?_; go_simp; go_at_call 103; go_must (refine Calls.mono (clone_nodes A.nodes H.nd hn) ?_; rintro e wa ⟨xn, rfl, hxn, Ba⟩; obtain ⟨xa, xk, xc, rfl⟩ := ownsRow_form2 hxn; have za := Ba.size; have H := H.grow Ba; have BB := BB.trans (Ba.mono BB.size); have hxi := own_in hxn; (try have hyn := own_grow hyn Ba); (try have hmn := mapk_grow hmn Ba); obtain ⟨ca, cfa⟩ := blk_cl H.at'))
  | (refine wanted_pos rfl ?_; go_simp; go_at_call 105; go_must (refine Calls.mono (clone_queues A.qs H.qu hqn) ?_; rintro e wb ⟨yn, rfl, hyn, Bb⟩; obtain ⟨ya, yk, yc, rfl⟩ := ownsRow_form2 hyn; have zb := Bb.size; have H := H.grow Bb; have BB := BB.trans (Bb.mono BB.size); have hyi := own_in hyn; (try have hxn := own_grow hxn Bb); (try have hmn := mapk_grow hmn Bb); obtain ⟨cb, cfb⟩ := blk_cl H.at'))
  | (refine wanted_pos rfl ?_; go_simp; go_at_call 104; go_must (refine Calls.mono (clone_map H.wh) ?_; rintro e wc ⟨rfl, hmn, Bc⟩; have zc := Bc.size; have H := H.grow Bc; have BB := BB.trans (Bc.mono BB.size); have hmi := hmn.lt; (try have hxn := own_grow hxn Bc); (try have hyn := own_grow hyn Bc); obtain ⟨cc, cfc⟩ := blk_cl H.at')))
 all_goals
  go_wp2_with fail
  go_ret
  refine ⟨_, _, _, _, rfl, Aw.made (own_low hxn (by omega)) (own_low hyn (by omega)) hmn (fun g hg hy => by have := hxi g hg; have := hyi g hy; omega) (fun g hg => ?_) (by omega) BB.size, BB.alloc BB.size _⟩
  rcases hg with hg | hg
  ·have := hxi g hg; omega
  ·have := hyi g hg; omega
end
end Go.Proofs.YtfddoieakfpagabGreatDoor
