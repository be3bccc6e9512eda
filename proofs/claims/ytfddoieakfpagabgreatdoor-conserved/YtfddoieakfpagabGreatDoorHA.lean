import Derived.Maps.AppendAt
import Derived.Deep.MidRow
import Derived.Deep.RegionHeldLaw
import Derived.Deep.Quiet
import Derived.Test.YtfddoieakfpagabGreatDoorGA
import Derived.Test.YtfddoieakfpagabGreatDoorGC
namespace Go.Proofs.YtfddoieakfpagabGreatDoor
set_option maxHeartbeats 1000000000
set_option maxRecDepth 20000
open Go.RowKit
theorem own_mv {w w' : World} {base : Nat} {e : TypeId} {size n : Nat} {v : Value} {xs : List Value} (h : w.ownsRow base e size v n xs) (hb : ∀ g, v.ownBlock = some g -> g < w.heap.size -> w'.heap[g]? = w.heap[g]?) : w'.ownsRow base e size v n xs := by
 refine ⟨h.1, ?_⟩
 rcases h.2 with h0 | ⟨g, cap, cur, hv, hg, hh, r⟩
 ·exact Or.inl h0
 ·exact Or.inr ⟨g, cap, cur, hv, hg, by rw [hb g (by rw [hv]; rfl) (Array.getElem?_eq_some_iff.1 hh).1]; exact hh, r⟩
theorem row_cl (w : World) (A : Array Value) (T : TypeId) : ∀ j u, A.toList[j]? = some u -> (w.alloc (.cells A T)).cell? ((⟨w.heap.size, 0, none⟩ : Addr).add j) = some u := by
 intro j u hj
 have hadd : (⟨w.heap.size, 0, none⟩ : Addr).add j = ⟨w.heap.size, j, none⟩ := by unfold Addr.add; split <;> simp_all
 have hn : (w.alloc (.cells A T)).heap[w.heap.size]? = some (.cells A T) := heap_new rfl
 rw [hadd]
 unfold World.cell?
 rw [hn]
 simpa using hj
theorem blk_cl {w : World} {n : Nat} {c : Array Value} {e : TypeId} (h : w.heap[n]? = some (.cells c e)) : (∀ o, w.cell? ⟨n, o, none⟩ = c[o]?) /\ ∀ o, w.frozen? ⟨n, o, none⟩ = false := by
 constructor <;> intro o <;> simp [World.cell?, World.frozen?, h]
theorem cell_l {w : World} {k o : Nat} {v : Value} (hc : w.cell? ⟨k, o, none⟩ = some v) : k < w.heap.size := by
 by_cases e : k < w.heap.size
 ·exact e
 ·exfalso; unfold World.cell? at hc; simp [Array.getElem?_eq_none (Nat.le_of_not_lt e)] at hc
theorem info_pt {P : Program} {t : TypeId} {z : Option Value} {a b : Nat} (h : (P.info? t).map (fun i => (i.zero, i.size, i.bytes)) = some (z, a, b)) : ∃ i, P.info? t = some i /\ i.zero = z /\ i.size = a /\ i.bytes = b := by
 obtain ⟨i, hi, h⟩ := Option.map_eq_some_iff.1 h
 simp only [Prod.mk.injEq] at h
 exact ⟨i, hi, h.1, h.2.1, h.2.2⟩
section
open Go.RowKit Go.ChangeMaps Go.MapKept Go.WideShapes
def lookV {α : Type} (k : List UInt8) : List (List UInt8 × α) -> Option α
 | [] => none
 | p :: r => if p.1 = k then some p.2 else lookV k r
def asIs (u : Value) : Option (DataW Value × List MemPlace) := some (.held u, [])
def MapV (w : World) (b c : Nat) (m : List (List UInt8 × Value)) : Prop :=
 ∃ D : DataW Value, w.ownsMap Tryz.prog 9 asIs b c D /\ (∀ k, Maps.has D (.string k) = (lookV k m).isSome) /\ (∀ k z, D.atKey (.string k) (.held z) = .held ((lookV k m).getD z))
theorem MapV.made (w : World) : MapV (w.alloc (.map #[] 0)) w.heap.size 0 [] := ⟨.map [], World.ownsMap_made w _ _ _, fun _ => rfl, fun _ _ => rfl⟩
theorem MapV.lt {w : World} {b c : Nat} {m : List (List UInt8 × Value)} (h : MapV w b c m) : b < w.heap.size := by
 obtain ⟨D, h, _⟩ := h
 exact h.lt
theorem MapV.move {w w' : World} {b c : Nat} {m : List (List UInt8 × Value)} (h : MapV w b c m) (hb : w'.heap[b]? = w.heap[b]?) : MapV w' b c m := by
 obtain ⟨D, ⟨es, clock, h1, h2⟩, h3⟩ := h
 exact ⟨D, ⟨es, clock, hb.trans h1, h2⟩, h3⟩
theorem MapV.get {w : World} {t e : TypeId} {b c : Nat} {m : List (List UInt8 × Value)} (h : MapV w b c m) (ht : Tryz.prog.underlying t = some (.map 9 e)) {z : Value} (hz : (zeroValue e).run Tryz.prog w = .ok z w) (k : List UInt8) (hk : k.length <= 700) :
  (Instr.lookup t (.map (some b)) (S k) false).run Tryz.prog w = .ok ((lookV k m).getD z) w := by
 obtain ⟨D, ho, h1, h2⟩ := h
 obtain ⟨v, ps, hrun, hv⟩ := ho.lookup k9 ht hz (show asIs z = some (.held z, []) from rfl) (key_S k hk)
 rw [hrun]
 rw [h2] at hv
 simp [asIs] at hv
 rw [<- hv.1]
theorem MapV.put {w : World} {t e : TypeId} {b c : Nat} {m : List (List UInt8 × Value)} (h : MapV w b c m) (ht : Tryz.prog.underlying t = some (.map 9 e)) (hc : c <= 3000) (k : List UInt8) (hk : k.length <= 700) (u : Value) :
  ∃ w', (Instr.mapUpdate t (.map (some b)) (S k) u).run Tryz.prog w = .ok () w' /\ MapV w' b (c + 1) ((k, u) :: m) /\ w.grownBy w' (some b) := by
 obtain ⟨D, ho, h1, h2⟩ := h
 obtain ⟨w', hrun, ho', ht'⟩ := ho.store k9 ht (by simp [maxLen]; omega) (key_S k hk) (show asIs u = some (.held u, []) from rfl)
 refine ⟨w', hrun, ⟨D.put (.string k) (.held u), ho', ?_, ?_⟩, ht'.grown⟩
 ·intro x
  unfold lookV
  by_cases e : k = x
  ·subst e; rw [Maps.has_put_same (k := .string k) ho.isMap trivial]; simp
  ·rw [Maps.has_put_other (by simpa using fun h => e h.symm), h1, if_neg e]
 ·intro x z
  unfold lookV
  by_cases e : k = x
  ·subst e; rw [Maps.atKey_put_same (k := .string k) ho.isMap trivial]; simp
  ·rw [Maps.atKey_put_other (by simpa using fun h => e h.symm), h2, if_neg e]
def RelM {α β : Type} (R : α -> β -> Prop) : List (List UInt8 × α) -> List (List UInt8 × β) -> Prop
 | [], [] => True
 | p :: x, q :: y => p.1 = q.1 /\ R p.2 q.2 /\ RelM R x y
 | _, _ => False
theorem RelM.mono {α β : Type} {R R' : α -> β -> Prop} (h : ∀ a b, R a b -> R' a b) : ∀ {x : List (List UInt8 × α)} {y : List (List UInt8 × β)}, RelM R x y -> RelM R' x y
 | [], [], _ => trivial
 | _ :: _, _ :: _, ⟨h1, h2, h3⟩ => ⟨h1, h _ _ h2, RelM.mono h h3⟩
 | [], _ :: _, h => h.elim
 | _ :: _, [], h => h.elim
theorem RelM.look {α β : Type} {R : α -> β -> Prop} (k : List UInt8) : ∀ {x : List (List UInt8 × α)} {y : List (List UInt8 × β)}, RelM R x y -> (lookV k x = none /\ lookV k y = none) \/ ∃ a b, lookV k x = some a /\ lookV k y = some b /\ R a b
 | [], [], _ => Or.inl ⟨rfl, rfl⟩
 | p :: x, q :: y, ⟨h1, h2, h3⟩ => by
  unfold lookV
  rw [h1]
  by_cases e : q.1 = k
  ·rw [if_pos e, if_pos e]; exact Or.inr ⟨_, _, rfl, rfl, h2⟩
  ·rw [if_neg e, if_neg e]; exact RelM.look k h3
 | [], _ :: _, h => h.elim
 | _ :: _, [], h => h.elim
end
structure Stp where
 kind : Nat
 on : Nat × Nat
 dst : Nat × Nat
 tail : Bool
 neg : Bool
 left : Nat × Nat
 right : Nat × Nat
 loop : Nat
 times : Nat
 target : Nat
def stp0 : Stp := ⟨0, (0, 0), (0, 0), false, false, (0, 0), (0, 0), 0, 0, 0⟩
abbrev spA (s : Stp) : Array Value := #[.int .i64 s.kind, .int .i64 s.on.1, .int .i64 s.on.2, .int .i64 s.dst.1, .int .i64 s.dst.2, .bool s.tail, .bool s.neg, .int .i64 s.left.1, .int .i64 s.left.2, .int .i64 s.right.1, .int .i64 s.right.2, .int .i64 s.loop, .int .i64 s.times, .int .i64 s.target]
def flatP (l : List Stp) : List Value := l.flatMap fun s => (spA s).toList
theorem flatP_snoc (l : List Stp) (s : Stp) : flatP (l ++ [s]) = flatP l ++ (spA s).toList := by simp [flatP]
theorem flatP_len (l : List Stp) : (flatP l).length = l.length * 14 := by
 induction l with
 | nil => rfl
 | cons s l ih => simp only [flatP, List.flatMap_cons, List.length_append, List.length_cons] at ih ⊢; rw [ih]; simp; omega
theorem spA_one (s : Stp) : ∀ u ∈ (spA s).toList, u.oneCell' = true := by
 have h : (spA s).toList.all (·.oneCell') = true := by simp [Value.oneCell']
 exact fun u hu => List.all_eq_true.1 h u hu
theorem info_sp : (Tryz.prog.info? 193).map (fun i => (i.zero, i.size, i.bytes)) = some (some (.agg (spA stp0)), 14, 104) := by kernel_rfl
structure Cc where
 ev : List (List UInt8)
 gh : List Bool
 ro : List Nat
 mo : List Nat
 mf : Nat
 ix : List (List UInt8 × Nat)
 st : List Stp
 lp : Nat
 rt : List (List UInt8 × List Stp)
 vn : List (List UInt8)
def Cc.row (c : Cc) (i : Nat) : List Value := if i = 0 then c.ev.map S else if i = 1 then c.gh.map Value.bool else if i = 2 then c.ro.map (fun (n : Nat) => Value.int .i64 n) else if i = 3 then c.mo.map (fun (n : Nat) => Value.int .i64 n) else if i = 4 then flatP c.st else c.vn.map S
def Cc.num (c : Cc) (i : Nat) : Nat := if i = 0 then c.ev.length else if i = 1 then c.gh.length else if i = 2 then c.ro.length else if i = 3 then c.mo.length else if i = 4 then c.st.length else c.vn.length
def ety (i : Nat) : TypeId := if i = 0 then 9 else if i = 5 then 9 else if i = 1 then 4 else if i = 4 then 193 else 3
def esz (i : Nat) : Nat := if i = 4 then 14 else 1
def Mine (cb ib rb : Nat) (v : Nat -> Value) (k : Nat) : Prop := k = cb \/ k = ib \/ k = rb \/ ∃ i, i < 6 /\ (v i).ownBlock = some k
def Ru (w : World) (lo : Nat) (M : Nat -> Prop) (rb : Nat) (rt : List (List UInt8 × List Stp)) : Prop :=
 ∃ k m, k <= rt.length /\ MapV w rb k m /\ RelM (fun u (st : List Stp) => w.ownsRow lo 193 14 u st.length (flatP st) /\ ∀ g, u.ownBlock = some g -> ¬ M g) m rt
theorem Ru.mv {w w' : World} {lo rb : Nat} {M M' : Nat -> Prop} {rt : List (List UInt8 × List Stp)} (h : Ru w lo M rb rt) (hb : w'.heap[rb]? = w.heap[rb]?) (hg : ∀ g, g < w.heap.size -> ¬ M g -> w'.heap[g]? = w.heap[g]?) (hm : ∀ g, g < w.heap.size -> ¬ M g -> ¬ M' g) : Ru w' lo M' rb rt := by
 obtain ⟨k, m, hk, h1, h2⟩ := h
 refine ⟨k, m, hk, h1.move hb, RelM.mono (fun u st ⟨h3, h4⟩ => ⟨own_mv h3 (fun g hgu hl => hg g hl (h4 g hgu)), fun g hgu => hm g (h3.lt g hgu).2 (h4 g hgu)⟩) h2⟩
structure Cw (w : World) (lo cb ib rb : Nat) (v : Nat -> Value) (c : Cc) : Prop where
 at' : w.heap[cb]? = some (.cells #[v 0, v 1, v 2, v 5, v 3, .int .i64 c.mf, .map (some rb), .map (some ib), v 4, .int .i64 c.lp] 176)
 own : ∀ i, i < 6 -> w.ownsRow lo (ety i) (esz i) (v i) (c.num i) (c.row i)
 sep : ∀ i j, i < 6 -> j < 6 -> i ≠ j -> ∀ g, (v i).ownBlock = some g -> (v j).ownBlock ≠ some g
 off : ∀ i, i < 6 -> ∀ g, (v i).ownBlock = some g -> g ≠ cb /\ g ≠ ib /\ g ≠ rb
 ix : ∃ k, k <= c.ix.length /\ MapR w 3 ib k c.ix
 ru : Ru w lo (Mine cb ib rb v) rb c.rt
 ne : cb ≠ ib /\ cb ≠ rb /\ ib ≠ rb
 low : lo <= cb /\ lo <= ib /\ lo <= rb /\ lo <= w.heap.size
section
variable {w w' : World} {lo cb ib rb : Nat} {v : Nat -> Value} {c : Cc}
theorem Cw.lt (h : Cw w lo cb ib rb v c) : cb < w.heap.size /\ ib < w.heap.size /\ rb < w.heap.size := by
 obtain ⟨k, _, hm⟩ := h.ix
 obtain ⟨k2, D, _, hd, _⟩ := h.ru
 exact ⟨(Array.getElem?_eq_some_iff.1 h.at').1, hm.lt, hd.lt⟩
theorem Cw.grow (h : Cw w lo cb ib rb v c) (hb : Below w.heap.size w w') : Cw w' lo cb ib rb v c := by
 obtain ⟨l1, l2, l3⟩ := h.lt
 refine ⟨(hb.block _ l1).trans h.at', fun i hi => own_mv (h.own i hi) (fun g _ hl => hb.block g hl), h.sep, h.off, ?_, ?_, h.ne, ?_⟩
 ·obtain ⟨k, hk, hm⟩ := h.ix; exact ⟨k, hk, hm.move (hb.block _ l2)⟩
 ·exact h.ru.mv (hb.block _ l3) (fun g hl _ => hb.block g hl) (fun _ _ h => h)
 ·have := h.low; have := hb.size; omega
theorem Cw.drew (h : Cw w lo cb ib rb v c) : Cw w.drew lo cb ib rb v c := h.grow ⟨rfl, rfl, rfl, Nat.le_refl _, fun _ _ => rfl⟩
theorem Cw.alloc (h : Cw w lo cb ib rb v c) (o : Obj) : Cw (w.alloc o) lo cb ib rb v c := h.grow ((Below.refl _ _).alloc (Nat.le_refl _) _)
structure Fr (cb ib rb : Nat) (v v' : Nat -> Value) (w w' : World) : Prop where
 os : w'.os = w.os
 tape : w'.tape = w.tape
 output : w'.output = w.output
 size : w.heap.size <= w'.heap.size
 block : ∀ k, k < w.heap.size -> ¬ Mine cb ib rb v k -> w'.heap[k]? = w.heap[k]?
 new : ∀ k, Mine cb ib rb v' k -> Mine cb ib rb v k \/ w.heap.size <= k
theorem Fr.refl (cb ib rb : Nat) (v : Nat -> Value) (w : World) : Fr cb ib rb v v w w := ⟨rfl, rfl, rfl, Nat.le_refl _, fun _ _ _ => rfl, fun _ h => Or.inl h⟩
theorem Fr.of (cb ib rb : Nat) (v : Nat -> Value) {w w' : World} (h : Below w.heap.size w w') : Fr cb ib rb v v w w' := ⟨h.os, h.tape, h.output, h.size, fun k hk _ => h.block k hk, fun _ h => Or.inl h⟩
theorem Fr.trans {cb ib rb : Nat} {v1 v2 v3 : Nat -> Value} {x y z : World} (h : Fr cb ib rb v1 v2 x y) (k : Fr cb ib rb v2 v3 y z) : Fr cb ib rb v1 v3 x z :=
 ⟨k.os.trans h.os, k.tape.trans h.tape, k.output.trans h.output, Nat.le_trans h.size k.size, fun i hi hm => (k.block i (Nat.lt_of_lt_of_le hi h.size) (fun hm2 => by
  rcases h.new i hm2 with h3 | h3
  ·exact hm h3
  ·omega)).trans (h.block i hi hm), fun i hm => by
  rcases k.new i hm with h3 | h3
  ·exact h.new i h3
  ·exact Or.inr (Nat.le_trans h.size h3)⟩
theorem Fr.at' {cb ib rb : Nat} {v v' : Nat -> Value} {w w' : World} (h : Fr cb ib rb v v' w w') {n : Nat} {o : Obj} (hb : w.heap[n]? = some o) (hn : ¬ Mine cb ib rb v n) : w'.heap[n]? = some o := (h.block n (Array.getElem?_eq_some_iff.1 hb).1 hn).trans hb
theorem Cw.mine_lt (h : Cw w lo cb ib rb v c) {k : Nat} (hk : Mine cb ib rb v k) : lo <= k /\ k < w.heap.size := by
 obtain ⟨l1, l2, l3⟩ := h.lt
 have := h.low
 rcases hk with rfl | rfl | rfl | ⟨i, hi, hg⟩
 ·omega
 ·omega
 ·omega
 ·exact (h.own i hi).lt k hg
theorem Fr.low {cb ib rb : Nat} {v v' : Nat -> Value} {w w' : World} (h : Fr cb ib rb v v' w w') (hc : Cw w lo cb ib rb v c) : Below lo w w' :=
 ⟨h.os, h.tape, h.output, h.size, fun k hk => h.block k (Nat.lt_of_lt_of_le hk hc.low.2.2.2) (fun hm => by have := (hc.mine_lt hm).1; omega)⟩
theorem Cw.put (h : Cw w lo cb ib rb v c) (i : Nat) (hi : i < 6) (u : Value) (c' : Cc) (hg : w.grownBy w' (v i).ownBlock) (hat : u.ownBlock = (v i).ownBlock \/ u.ownBlock = some w.heap.size)
  (hown : w'.ownsRow lo (ety i) (esz i) u (c'.num i) (c'.row i)) (hrest : ∀ j, j < 6 -> j ≠ i -> c'.num j = c.num j /\ c'.row j = c.row j) (hix : c'.ix = c.ix) (hmf : c'.mf = c.mf) (hlp : c'.lp = c.lp) (hnr : c'.rt = c.rt) (o : Nat) (ho : o = if i = 3 then 4 else if i = 4 then 8 else if i = 5 then 3 else i) :
  Cw (w'.setCell ⟨cb, o, none⟩ u) lo cb ib rb (fun j => if j = i then u else v j) c' /\ Fr cb ib rb v (fun j => if j = i then u else v j) w (w'.setCell ⟨cb, o, none⟩ u) := by
 obtain ⟨l1, l2, l3⟩ := h.lt
 have hlow := h.low
 have hoff := h.off i hi
 have hcb : w'.heap[cb]? = _ := (hg.block cb l1 (fun e => (hoff cb e.symm).1 rfl)).trans h.at'
 have hb : ∀ g, g ≠ cb -> (w'.setCell ⟨cb, o, none⟩ u).heap[g]? = w'.heap[g]? := fun g hgc => Below.heap_setCell _ _ _ _ hgc
 have hu : ∀ g, u.ownBlock = some g -> g ≠ cb /\ g ≠ ib /\ g ≠ rb := fun g hgu => by
  rcases hat with e | e
  ·exact hoff g (e.symm.trans hgu)
  ·have : w.heap.size = g := by simpa using e.symm.trans hgu
   omega
 refine ⟨⟨?_, ?_, ?_, ?_, ?_, ?_, h.ne, ?_⟩, ?_⟩
 ·have := heap_setCell_same w' cb o u _ _ hcb
  rw [this, hmf, hlp]
  subst ho
  have h5 : i = 0 \/ i = 1 \/ i = 2 \/ i = 3 \/ i = 4 \/ i = 5 := by omega
  rcases h5 with rfl | rfl | rfl | rfl | rfl | rfl <;> rfl
 ·intro j hj
  by_cases e : j = i
  ·subst e
   simp only [if_pos]
   exact own_mv hown (fun g hgu _ => hb g (hu g hgu).1)
  ·simp only [if_neg e]
   obtain ⟨e1, e2⟩ := hrest j hj e
   rw [e1, e2]
   exact own_mv (h.own j hj) (fun g hgv hl => (hb g (h.off j hj g hgv).1).trans (hg.block g hl (fun ee => h.sep j i hj hi e g hgv ee.symm)))
 ·intro a b ha hb' hab g
  by_cases ea : a = i
  ·subst ea
   have eb : ¬ b = a := fun e => hab e.symm
   simp only [if_pos, if_neg eb]
   intro hgu hgv
   rcases hat with e | e
   ·exact h.sep a b ha hb' hab g (e.symm.trans hgu) hgv
   ·have h1 : w.heap.size = g := by simpa using e.symm.trans hgu
    have h2 := ((h.own b hb').lt g hgv).2
    omega
  ·simp only [if_neg ea]
   by_cases eb : b = i
   ·subst eb
    simp only [if_pos]
    intro hgv hgu
    rcases hat with e | e
    ·exact h.sep a b ha hb' hab g hgv (e.symm.trans hgu)
    ·have h1 : w.heap.size = g := by simpa using e.symm.trans hgu
     have h2 := ((h.own a ha).lt g hgv).2
     omega
   ·simp only [if_neg eb]
    exact h.sep a b ha hb' hab g
 ·intro j hj g
  by_cases e : j = i
  ·simp only [if_pos e]; exact hu g
  ·simp only [if_neg e]; exact h.off j hj g
 ·obtain ⟨k, hk, hm⟩ := h.ix
  refine ⟨k, by rw [hix]; exact hk, ?_⟩
  rw [hix]
  exact hm.move ((hb ib (Ne.symm h.ne.1)).trans (hg.block ib l2 (fun e => (hoff ib e.symm).2.1 rfl)))
 ·rw [hnr]
  refine h.ru.mv ((hb rb (Ne.symm h.ne.2.1)).trans (hg.block rb l3 (fun e => (hoff rb e.symm).2.2 rfl))) (fun k hk hm => (hb k (fun e => hm (Or.inl e))).trans (hg.block k hk (fun e => hm (Or.inr (Or.inr (Or.inr ⟨i, hi, e.symm⟩)))))) ?_
  intro k hk hm hk2
  rcases hk2 with hk2 | hk2 | hk2 | ⟨j, hj, hgj⟩
  ·exact hm (Or.inl hk2)
  ·exact hm (Or.inr (Or.inl hk2))
  ·exact hm (Or.inr (Or.inr (Or.inl hk2)))
  ·by_cases e : j = i
   ·simp only [if_pos e] at hgj
    rcases hat with e2 | e2
    ·exact hm (Or.inr (Or.inr (Or.inr ⟨i, hi, e2.symm.trans hgj⟩)))
    ·have : w.heap.size = k := by simpa using e2.symm.trans hgj
     omega
   ·simp only [if_neg e] at hgj
    exact hm (Or.inr (Or.inr (Or.inr ⟨j, hj, hgj⟩)))
 ·have := hg.size
  simp only [World.setCell, Array.size_modify]
  omega
 ·refine ⟨hg.os, hg.tape, hg.output, by have := hg.size; simpa [World.setCell] using this, fun k hk hm => (hb k (fun e => hm (Or.inl e))).trans (hg.block k hk (fun e => hm (Or.inr (Or.inr (Or.inr ⟨i, hi, e.symm⟩))))), ?_⟩
  intro k hk
  rcases hk with hk | hk | hk | ⟨j, hj, hgj⟩
  ·exact Or.inl (Or.inl hk)
  ·exact Or.inl (Or.inr (Or.inl hk))
  ·exact Or.inl (Or.inr (Or.inr (Or.inl hk)))
  ·by_cases e : j = i
   ·simp only [if_pos e] at hgj
    rcases hat with e2 | e2
    ·exact Or.inl (Or.inr (Or.inr (Or.inr ⟨i, hi, e2.symm.trans hgj⟩)))
    ·have : w.heap.size = k := by simpa using e2.symm.trans hgj
     exact Or.inr (by omega)
   ·simp only [if_neg e] at hgj
    exact Or.inl (Or.inr (Or.inr (Or.inr ⟨j, hj, hgj⟩)))
end
section
variable {w : World} {lo cb ib rb : Nat} {v : Nat -> Value} {c : Cc}
def Cc.add (c : Cc) (s : Stp) : Cc := { c with st := c.st ++ [s] }
def OutM (w : World) (lo cb ib rb : Nat) (v : Nat -> Value) (x : Value) (c : Cc) (e : Ending) (w' : World) : Prop := e = .returned x /\ ∃ v', Cw w' lo cb ib rb v' c /\ Fr cb ib rb v v' w w'
theorem Cw.form (h : Cw w lo cb ib rb v c) (i : Nat) (hi : i < 6) : ∃ a k, v i = .slice a (c.num i) k := by
 rcases (h.own i hi).2 with ⟨h1, h2⟩ | ⟨g, cap, cur, h1, _⟩
 ·exact ⟨none, 0, by rw [h1, h2]⟩
 ·exact ⟨_, _, h1⟩
theorem cadd_any (h : Cw w lo cb ib rb v c) (s : Stp) (hn : c.st.length <= 1000000) :
  Calls Tryz.prog 126 #[ptr cb, .agg (spA s)] w (OutM w lo cb ib rb v (.int .i64 c.st.length) (c.add s)) := by
 have hlow := h.low
 obtain ⟨va, vc, hv4⟩ := h.form 4 (by decide)
 have hv4 : v 4 = .slice va c.st.length vc := hv4
 have h1 := h.alloc (.cells (spA s) 193)
 have b1 : (w.alloc (.cells (spA s) 193)).heap[w.heap.size]? = some (.cells (spA s) 193) := heap_new rfl
 have B1 := (Below.refl w.heap.size w).alloc (Nat.le_refl _) (.cells (spA s) 193)
 go_enter Tryz.func126, Tryz.ntmps126
 go_upto_region 1 with fail
 generalize w.alloc (.cells (spA s) 193) = w1 at *
 have H2 := (h1.alloc (.cells (spA s) 193)).drew
 have B2 : Below w.heap.size w (w1.alloc (.cells (spA s) 193)).drew := bdrw (B1.alloc (by have := B1.size; omega) _)
 have hl2 : lo <= (w1.alloc (.cells (spA s) 193)).drew.heap.size := H2.low.2.2.2
 have hrow := H2.own 4 (by decide)
 have hrow : (w1.alloc (.cells (spA s) 193)).drew.ownsRow lo 193 14 (.slice va c.st.length vc) c.st.length (flatP c.st) := by rw [<- hv4]; exact hrow
 have e1 := h1.at'
 have e2 := H2.at'
 rw [hv4] at e1 e2
 obtain ⟨c1, cf1⟩ := blk_cl e1
 obtain ⟨c2, cf2⟩ := blk_cl b1
 obtain ⟨c3, cf3⟩ := blk_cl e2
 obtain ⟨i0, hi, hz0, hz1, hz2⟩ := info_parts info_sp
 have hbd : c.st.length + 1 <= maxLen := by simp only [maxLen]; omega
 have hby : (c.st.length + 1) * 104 <= 140737488355328 := by omega
 have hrw := fun j u hu => row_cells w1 (spA s) 193 j u hu
 have F2 := Fr.of cb ib rb v B2
 clear B2
 generalize w.heap.size = bx at *
 have hPut := fun (u : Value) (w' : World) => Cw.put (c' := c.add s) (w' := w') H2 4 (by decide) u
 go_region_law (refine step_append_own rfl (.tmp 9) (.tmp 11) 129 rfl lo 193 i0 (.agg (spA stp0)) 14 104 Tryz.underlying129 hi hz0 hz1 hz2 rfl (by decide) (.slice va c.st.length vc) c.st.length (flatP c.st) (by simp [Act.eval]) hrow ⟨w1.heap.size, 0, none⟩ 1 1 (spA s).toList (by simp [Act.eval]) rfl hrw (spA_one _) hbd hby hl2 ?_; intro v' w6 hown6 hgrow hat; have hP6 := (hgrow.block cb (Array.getElem?_eq_some_iff.1 e2).1 (fun e => by rw [<- hv4] at e; exact (h.off 4 (by decide) cb e.symm).1 rfl)).trans e2; obtain ⟨ya, yk, yc, rfl⟩ := ownsRow_form2 hown6; obtain ⟨cq, cqf⟩ := blk_cl hP6)
 all_goals
  have hyk : yk = c.st.length + 1 := by
   rcases hown6.2 with ⟨h1, h2⟩ | ⟨g, cap, cur, h1, _⟩
   ·simp at h1; omega
   ·simp at h1; exact h1.2.1
  subst hyk
  obtain ⟨C7, B7⟩ := hPut (.slice ya (c.st.length + 1) yc) w6 (by rw [hv4]; exact hgrow) (by rw [hv4]; exact hat) (by show w6.ownsRow lo 193 14 _ (c.st ++ [s]).length (flatP (c.st ++ [s])); rw [flatP_snoc, List.length_append]; exact hown6) (fun j hj hne => by
   have h5 : j = 0 \/ j = 1 \/ j = 2 \/ j = 3 \/ j = 5 := by omega
   rcases h5 with rfl | rfl | rfl | rfl | rfl <;> exact ⟨rfl, rfl⟩) rfl rfl rfl rfl 8 rfl
  have e7 := C7.at'
  obtain ⟨c7, cf7⟩ := blk_cl e7
  clear hPut
  go_wp2_with fail
  go_ret
  exact ⟨by simp, _, C7, F2.trans B7⟩
def Cc.land (c : Cc) (n : Nat) : Cc := { c with st := c.st.modify n fun s => { s with target := c.st.length } }
theorem flatP_mod : ∀ (l : List Stp) (n t : Nat), n < l.length -> flatP (l.modify n fun s => { s with target := t }) = (flatP l).set (n * 14 + 13) (.int .i64 t)
 | [], _, _, h => by simp at h
 | s :: l, 0, t, _ => by
  simp only [List.modify_zero_cons, flatP, List.flatMap_cons]
  rw [List.set_append_left _ _ (by simp)]
  rfl
 | s :: l, n + 1, t, h => by
  have ih := flatP_mod l n t (by simpa using h)
  simp only [List.modify_succ_cons, flatP, List.flatMap_cons] at ih ⊢
  rw [ih, List.set_append_right _ _ (by simp; omega)]
  congr 2
  simp; omega
theorem ix_step (g n cap k : Nat) (hk : k < n) : ∀ W : World, (Instr.indexAt 129 (.slice (some ⟨g, 0, none⟩) n cap) (.int .i64 k)).run Tryz.prog W = .ok (.pointer (some ⟨g, k * 14, none⟩)) W := by
 intro W
 rw [run_indexAt_slice (h := by kernel_rfl), if_pos (by omega)]
 have : (sizeOf (Tryz.prog.elem 129)).run Tryz.prog W = .ok 14 W := by kernel_rfl
 rw [this]
 simp [Result.andThen, Addr.add]
 try omega
theorem Cw.cell (h : Cw w lo cb ib rb v c) (i : Nat) (hi : i < 6) (g o : Nat) (u : Value) (c' : Cc) (hg : (v i).ownBlock = some g) (ho : o < c.num i * esz i) (hrow : c'.row i = (c.row i).set o u) (hnum : c'.num i = c.num i)
  (hrest : ∀ j, j < 6 -> j ≠ i -> c'.num j = c.num j /\ c'.row j = c.row j) (hix : c'.ix = c.ix) (hmf : c'.mf = c.mf) (hlp : c'.lp = c.lp) (hnr : c'.rt = c.rt) : Cw (w.setCell ⟨g, o, none⟩ u) lo cb ib rb v c' /\ Fr cb ib rb v v w (w.setCell ⟨g, o, none⟩ u) := by
 obtain ⟨n1, n2, n3⟩ := h.off i hi g hg
 have hb : ∀ k, k ≠ g -> (w.setCell ⟨g, o, none⟩ u).heap[k]? = w.heap[k]? := fun k hk => Below.heap_setCell _ _ _ _ hk
 refine ⟨⟨by rw [hmf, hlp]; exact (hb cb (Ne.symm n1)).trans h.at', ?_, h.sep, h.off, ?_, ?_, h.ne, ?_⟩, ?_⟩
 ·intro j hj
  by_cases e : j = i
  ·subst e
   obtain ⟨hl, hc⟩ := h.own j hj
   rcases hc with ⟨h1, h2⟩ | ⟨g', cap, cur, h1, h2, h3, h4, h5, h6, h7⟩
   ·rw [h1] at hg; cases hg
   ·have : g' = g := by rw [h1] at hg; simpa [Value.ownBlock] using hg
    subst this
    refine ⟨by rw [hrow, hnum, List.length_set]; exact hl, Or.inr ⟨g', cap, cur.setIfInBounds o u, by rw [hnum]; exact h1, h2, heap_setCell_same _ _ _ _ _ _ h3, by rw [hnum]; exact h4, h5, by simpa using h6, ?_⟩⟩
    rw [hrow, hnum, <- h7, Array.toList_setIfInBounds, List.take_set]
  ·obtain ⟨e1, e2⟩ := hrest j hj e
   rw [e1, e2]
   exact own_mv (h.own j hj) (fun k hk _ => hb k (fun ee => by subst ee; exact h.sep j i hj hi e _ hk hg))
 ·obtain ⟨k, hk, hm⟩ := h.ix
  exact ⟨k, by rw [hix]; exact hk, by rw [hix]; exact hm.move (hb ib (Ne.symm n2))⟩
 ·rw [hnr]
  exact h.ru.mv (hb rb (Ne.symm n3)) (fun k _ hm => hb k (fun e => hm (Or.inr (Or.inr (Or.inr ⟨i, hi, by rw [e]; exact hg⟩))))) (fun _ _ h => h)
 ·have := h.low
  simp only [World.setCell, Array.size_modify]
  exact this
 ·exact ⟨rfl, rfl, rfl, by simp [World.setCell], fun k hk hm => hb k (fun e => hm (Or.inr (Or.inr (Or.inr ⟨i, hi, by rw [e]; exact hg⟩)))), fun k hk => Or.inl hk⟩
theorem cland_any (h : Cw w lo cb ib rb v c) (n : Nat) (hn : n < c.st.length) (_hl : c.st.length <= 1000000) :
  Calls Tryz.prog 143 #[ptr cb, .int .i64 n] w (OutM w lo cb ib rb v (.tuple #[]) (c.land n)) := by
 have hown := h.own 4 (by decide)
 have hown : w.ownsRow lo 193 14 (v 4) c.st.length (flatP c.st) := hown
 obtain ⟨g, cap, hv4, hg1, hg2⟩ : ∃ g cap, v 4 = .slice (some ⟨g, 0, none⟩) c.st.length cap /\ lo <= g /\ g < w.heap.size := by
  rcases hown.2 with ⟨_, h2⟩ | ⟨g, cap, cur, h1, h2, h3, _⟩
  ·omega
  ·exact ⟨g, cap, h1, h2, (Array.getElem?_eq_some_iff.1 h3).1⟩
 have e1 := h.at'
 rw [hv4] at e1
 obtain ⟨c1, cf1⟩ := blk_cl e1
 have hix := ix_step g c.st.length cap n hn
 have hcell : w.cell? ⟨g, n * 14 + 13, none⟩ = (flatP c.st)[n * 14 + 13]? := by rw [hv4] at hown; exact hown.cellAt _ (by omega)
 have hlt : n * 14 + 13 < (flatP c.st).length := by rw [flatP_len]; omega
 rw [List.getElem?_eq_getElem hlt] at hcell
 have hfz : w.frozen? ⟨g, n * 14 + 13, none⟩ = false := by
  rcases hown.2 with ⟨_, h2⟩ | ⟨g', cap', cur, h1, h2, h3, _⟩
  ·omega
  ·have : g' = g := by rw [hv4] at h1; simp at h1; exact h1.1.symm
   subst this
   exact (blk_cl h3).2 _
 obtain ⟨C2, B2⟩ := h.cell 4 (by decide) g (n * 14 + 13) (.int .i64 c.st.length) (c.land n) (by rw [hv4]; rfl) (by show _ < c.st.length * 14; omega) (flatP_mod c.st n c.st.length hn) (by show (c.st.modify _ _).length = c.st.length; simp) (fun j hj hne => by
   have h5 : j = 0 \/ j = 1 \/ j = 2 \/ j = 3 \/ j = 5 := by omega
   rcases h5 with rfl | rfl | rfl | rfl | rfl <;> exact ⟨rfl, rfl⟩) rfl rfl rfl rfl
 generalize (flatP c.st)[n * 14 + 13] = old at *
 go_enter Tryz.func143, Tryz.ntmps143
 go_wp2_with fail
 go_region
 all_goals
  go_wp2_with fail
  exact bodyPost_end (by simp [results, Tryz.results143, go_sem]) rfl ⟨rfl, _, C2.drew, ⟨B2.os, B2.tape, B2.output, B2.size, B2.block, B2.new⟩⟩
end
section
variable {w : World} {lo cb ib rb : Nat} {v : Nat -> Value} {c : Cc}
def kindN (x : List UInt8) : Nat := if (x == [112, 117, 116]) = true then 0 else if (x == [101, 118, 105, 99, 116]) = true then 1 else if (x == [115, 104, 105, 102, 116]) = true then 2 else if (x == [100, 114, 111, 112]) = true then 3 else if (x == [105, 110, 99]) = true then 4 else if (x == [100, 101, 99]) = true then 5 else if (x == [98, 117, 109, 112]) = true then 6 else if (x == [99, 111, 111, 108]) = true then 7 else if (x == [102, 117, 108, 108]) = true then 8 else if (x == [101, 109, 112, 116, 121]) = true then 9 else if (x == [119, 97, 114, 109]) = true then 10 else 11
theorem kind_any (x : List UInt8) (w : World) : Calls Tryz.prog 127 #[S x] w fun e w' => e = .returned (.int .i64 (kindN x)) /\ w' = w := by
 generalize hk : kindN x = k
 have HK : Hid (kindN x = k) := hk
 clear hk
 cases h0 : (x == [112, 117, 116]) with
 | true =>
  have e : k = 0 := by rw [<- HK.out]; unfold kindN; rw [if_pos h0]
  subst e
  clear HK
  go_enter Tryz.func127, Tryz.ntmps127
  go_wp2_with fail
  go_ret
  exact ⟨rfl, rfl⟩
 | false =>
 cases h1 : (x == [101, 118, 105, 99, 116]) with
 | true =>
  have e : k = 1 := by rw [<- HK.out]; unfold kindN; rw [if_neg (by rw [h0]; decide), if_pos h1]
  subst e
  clear HK
  go_enter Tryz.func127, Tryz.ntmps127
  go_wp2_with fail
  go_ret
  exact ⟨rfl, rfl⟩
 | false =>
 cases h2 : (x == [115, 104, 105, 102, 116]) with
 | true =>
  have e : k = 2 := by rw [<- HK.out]; unfold kindN; rw [if_neg (by rw [h0]; decide), if_neg (by rw [h1]; decide), if_pos h2]
  subst e
  clear HK
  go_enter Tryz.func127, Tryz.ntmps127
  go_wp2_with fail
  go_ret
  exact ⟨rfl, rfl⟩
 | false =>
 cases h3 : (x == [100, 114, 111, 112]) with
 | true =>
  have e : k = 3 := by rw [<- HK.out]; unfold kindN; rw [if_neg (by rw [h0]; decide), if_neg (by rw [h1]; decide), if_neg (by rw [h2]; decide), if_pos h3]
  subst e
  clear HK
  go_enter Tryz.func127, Tryz.ntmps127
  go_wp2_with fail
  go_ret
  exact ⟨rfl, rfl⟩
 | false =>
 cases h4 : (x == [105, 110, 99]) with
 | true =>
  have e : k = 4 := by rw [<- HK.out]; unfold kindN; rw [if_neg (by rw [h0]; decide), if_neg (by rw [h1]; decide), if_neg (by rw [h2]; decide), if_neg (by rw [h3]; decide), if_pos h4]
  subst e
  clear HK
  go_enter Tryz.func127, Tryz.ntmps127
  go_wp2_with fail
  go_ret
  exact ⟨rfl, rfl⟩
 | false =>
 cases h5 : (x == [100, 101, 99]) with
 | true =>
  have e : k = 5 := by rw [<- HK.out]; unfold kindN; rw [if_neg (by rw [h0]; decide), if_neg (by rw [h1]; decide), if_neg (by rw [h2]; decide), if_neg (by rw [h3]; decide), if_neg (by rw [h4]; decide), if_pos h5]
  subst e
  clear HK
  go_enter Tryz.func127, Tryz.ntmps127
  go_wp2_with fail
  go_ret
  exact ⟨rfl, rfl⟩
 | false =>
 cases h6 : (x == [98, 117, 109, 112]) with
 | true =>
  have e : k = 6 := by rw [<- HK.out]; unfold kindN; rw [if_neg (by rw [h0]; decide), if_neg (by rw [h1]; decide), if_neg (by rw [h2]; decide), if_neg (by rw [h3]; decide), if_neg (by rw [h4]; decide), if_neg (by rw [h5]; decide), if_pos h6]
  subst e
  clear HK
  go_enter Tryz.func127, Tryz.ntmps127
  go_wp2_with fail
  go_ret
  exact ⟨rfl, rfl⟩
 | false =>
 cases h7 : (x == [99, 111, 111, 108]) with
 | true =>
  have e : k = 7 := by rw [<- HK.out]; unfold kindN; rw [if_neg (by rw [h0]; decide), if_neg (by rw [h1]; decide), if_neg (by rw [h2]; decide), if_neg (by rw [h3]; decide), if_neg (by rw [h4]; decide), if_neg (by rw [h5]; decide), if_neg (by rw [h6]; decide), if_pos h7]
  subst e
  clear HK
  go_enter Tryz.func127, Tryz.ntmps127
  go_wp2_with fail
  go_ret
  exact ⟨rfl, rfl⟩
 | false =>
 cases h8 : (x == [102, 117, 108, 108]) with
 | true =>
  have e : k = 8 := by rw [<- HK.out]; unfold kindN; rw [if_neg (by rw [h0]; decide), if_neg (by rw [h1]; decide), if_neg (by rw [h2]; decide), if_neg (by rw [h3]; decide), if_neg (by rw [h4]; decide), if_neg (by rw [h5]; decide), if_neg (by rw [h6]; decide), if_neg (by rw [h7]; decide), if_pos h8]
  subst e
  clear HK
  go_enter Tryz.func127, Tryz.ntmps127
  go_wp2_with fail
  go_ret
  exact ⟨rfl, rfl⟩
 | false =>
 cases h9 : (x == [101, 109, 112, 116, 121]) with
 | true =>
  have e : k = 9 := by rw [<- HK.out]; unfold kindN; rw [if_neg (by rw [h0]; decide), if_neg (by rw [h1]; decide), if_neg (by rw [h2]; decide), if_neg (by rw [h3]; decide), if_neg (by rw [h4]; decide), if_neg (by rw [h5]; decide), if_neg (by rw [h6]; decide), if_neg (by rw [h7]; decide), if_neg (by rw [h8]; decide), if_pos h9]
  subst e
  clear HK
  go_enter Tryz.func127, Tryz.ntmps127
  go_wp2_with fail
  go_ret
  exact ⟨rfl, rfl⟩
 | false =>
 cases h10 : (x == [119, 97, 114, 109]) with
 | true =>
  have e : k = 10 := by rw [<- HK.out]; unfold kindN; rw [if_neg (by rw [h0]; decide), if_neg (by rw [h1]; decide), if_neg (by rw [h2]; decide), if_neg (by rw [h3]; decide), if_neg (by rw [h4]; decide), if_neg (by rw [h5]; decide), if_neg (by rw [h6]; decide), if_neg (by rw [h7]; decide), if_neg (by rw [h8]; decide), if_neg (by rw [h9]; decide), if_pos h10]
  subst e
  clear HK
  go_enter Tryz.func127, Tryz.ntmps127
  go_wp2_with fail
  go_ret
  exact ⟨rfl, rfl⟩
 | false =>
 have e : k = 11 := by rw [<- HK.out]; unfold kindN; rw [if_neg (by rw [h0]; decide), if_neg (by rw [h1]; decide), if_neg (by rw [h2]; decide), if_neg (by rw [h3]; decide), if_neg (by rw [h4]; decide), if_neg (by rw [h5]; decide), if_neg (by rw [h6]; decide), if_neg (by rw [h7]; decide), if_neg (by rw [h8]; decide), if_neg (by rw [h9]; decide), if_neg (by rw [h10]; decide)]
 subst e
 clear HK
 go_enter Tryz.func127, Tryz.ntmps127
 go_wp2_with fail
 go_ret
 exact ⟨rfl, rfl⟩
theorem set2m (w : World) (n : Nat) (c : Array Value) (T : TypeId) (v0 v1 : Value) (h : w.heap[n]? = some (.cells c T)) (hc : c.size = 2) :
  ((w.setCell ⟨n, 0, none⟩ v0).setCell ⟨n, 1, none⟩ v1).heap[n]? = some (.cells #[v0, v1] T) := by
 have := setAll_heap n T [v0, v1] w 0 c h hc
 simpa only [setAll, List.take_zero, List.nil_append, Nat.zero_add, Nat.reduceAdd] using this
def Cc.ref (c : Cc) (n : NP) : Nat × Nat := ((look n.1 c.ix).getD 0, n.2)
theorem cref_any (h : Cw w lo cb ib rb v c) (n : NP) (hn : n.1.length <= 700) :
  Calls Tryz.prog 128 #[ptr cb, .agg #[S n.1, .int .i64 n.2]] w fun e w' => e = .returned (.agg #[.int .i64 (c.ref n).1, .int .i64 (c.ref n).2]) /\ Below w.heap.size w w' := by
 have h2 := ((h.alloc (.cells #[S n.1, .int .i64 n.2] 116)).alloc (.cells #[.int .i64 0, .int .i64 0] 188))
 have b1 : ((w.alloc (.cells #[S n.1, .int .i64 n.2] 116)).alloc (.cells #[.int .i64 0, .int .i64 0] 188)).heap[w.heap.size + 1]? = some (.cells #[.int .i64 0, .int .i64 0] 188) := heap_new (by simp)
 have B1 : Below w.heap.size w ((w.alloc (.cells #[S n.1, .int .i64 n.2] 116)).alloc (.cells #[.int .i64 0, .int .i64 0] 188)).drew := bdrw (((Below.refl _ w).alloc (Nat.le_refl _) _).alloc (by simp) _)
 obtain ⟨c1, cf1⟩ := blk_cl h2.at'
 obtain ⟨kk, _, hm⟩ := h2.drew.ix
 have hg := hm.get u81 u3 (z3 _) n.1 hn
 have e2 : c.ref n = ((look n.1 c.ix).getD 0, n.2) := rfl
 rw [e2]
 generalize (look n.1 c.ix).getD 0 = q at *
 clear e2
 go_enter Tryz.func128, Tryz.ntmps128
 go_wp2_with fail
 go_region
 all_goals
  go_wp2_with fail
  exact bodyPost_cell Tryz.results128 (w.heap.size + 1) _ _ _ rfl rfl (show (World.drew _).heap[w.heap.size + 1]? = some (Obj.cells #[.int .i64 q, .int .i64 n.2] 188) from heap_new (by simp)) Tryz.underlying188 rfl (by kernel_rfl) ⟨rfl, bdrw (((Below.refl _ w).alloc (Nat.le_refl _) _).alloc (by simp) _)⟩
def Cc.opd (c : Cc) (x : Vl) : Nat × Nat := (x.kind, if x.kind = 1 \/ x.kind = 2 then (look x.name.1 c.ix).getD 0 else x.num.1)
theorem copd_any (h : Cw w lo cb ib rb v c) (x : Vl) (hn : x.name.1.length <= 700) :
  Calls Tryz.prog 154 #[ptr cb, vlV x] w fun e w' => e = .returned (.agg #[.int .i64 (c.opd x).1, .int .i64 (c.opd x).2]) /\ Below w.heap.size w w' := by
 obtain ⟨xk, xn, xm⟩ := x
 have hn : xn.1.length <= 700 := hn
 have e2 : Hid (c.opd ⟨xk, xn, xm⟩ = (xk, if xk = 1 \/ xk = 2 then (look xn.1 c.ix).getD 0 else xm.1)) := rfl
 generalize c.opd ⟨xk, xn, xm⟩ = r at *
 by_cases k1 : xk = 1
 ·have hr : r = (1, (look xn.1 c.ix).getD 0) := by rw [e2.out, if_pos (Or.inl k1), k1]
  subst hr k1
  clear e2
  have h2 := ((h.alloc (.cells #[.int .i64 1, S xn.1, .int .i64 xn.2, .int .i64 xm.1, .int .i64 xm.2] 222)).alloc (.cells #[.int .i64 0, .int .i64 0] 191))
  obtain ⟨c1, cf1⟩ := blk_cl h2.at'
  obtain ⟨kk, _, hm⟩ := h2.drew.ix
  have hg := hm.get u81 u3 (z3 _) xn.1 hn
  generalize (look xn.1 c.ix).getD 0 = q at *
  go_enter Tryz.func154, Tryz.ntmps154
  go_wp2_with fail
  go_region
  all_goals
   go_wp2_with fail
   exact bodyPost_cell Tryz.results154 (w.heap.size + 1) _ _ _ rfl rfl (show (World.drew _).heap[w.heap.size + 1]? = some (Obj.cells #[.int .i64 1, .int .i64 q] 191) from heap_new (by simp)) Tryz.underlying191 rfl (by kernel_rfl) ⟨rfl, bdrw (((Below.refl _ w).alloc (Nat.le_refl _) _).alloc (by simp) _)⟩
 by_cases k2 : xk = 2
 ·have hr : r = (2, (look xn.1 c.ix).getD 0) := by rw [e2.out, if_pos (Or.inr k2), k2]
  subst hr k2
  clear e2
  have h2 := ((h.alloc (.cells #[.int .i64 2, S xn.1, .int .i64 xn.2, .int .i64 xm.1, .int .i64 xm.2] 222)).alloc (.cells #[.int .i64 0, .int .i64 0] 191))
  obtain ⟨c1, cf1⟩ := blk_cl h2.at'
  obtain ⟨kk, _, hm⟩ := h2.drew.ix
  have hg := hm.get u81 u3 (z3 _) xn.1 hn
  generalize (look xn.1 c.ix).getD 0 = q at *
  go_enter Tryz.func154, Tryz.ntmps154
  go_wp2_with fail
  go_region
  all_goals
   go_wp2_with fail
   exact bodyPost_cell Tryz.results154 (w.heap.size + 1) _ _ _ rfl rfl (show (World.drew _).heap[w.heap.size + 1]? = some (Obj.cells #[.int .i64 2, .int .i64 q] 191) from heap_new (by simp)) Tryz.underlying191 rfl (by kernel_rfl) ⟨rfl, bdrw (((Below.refl _ w).alloc (Nat.le_refl _) _).alloc (by simp) _)⟩
 have hr : r = (xk, xm.1) := by rw [e2.out, if_neg (by omega)]
 subst hr
 clear e2
 have q1 : ((xk : Int) == 1) = false := by simp; omega
 have q2 : ((xk : Int) == 2) = false := by simp; omega
 clear k1 k2
 go_enter Tryz.func154, Tryz.ntmps154
 go_wp2_with fail
 exact bodyPost_cell Tryz.results154 (w.heap.size + 1) _ _ _ rfl rfl (show (World.alloc _ _).heap[w.heap.size + 1]? = some (Obj.cells #[.int .i64 xk, .int .i64 xm.1] 191) from heap_new (by simp)) Tryz.underlying191 rfl (by kernel_rfl) ⟨rfl, ((Below.refl _ w).alloc (Nat.le_refl _) _).alloc (by simp) _⟩
end
end Go.Proofs.YtfddoieakfpagabGreatDoor
namespace Go
set_option maxHeartbeats 1000000000
set_option maxRecDepth 20000
section
variable {P : Program} {ops : Array Oper} {md : Region.Mode} {C : World -> Prop}
def Region.Back (md : Region.Mode) (ops : Array Oper) : Prop := ∀ i o, ops[i]? = some o -> ∀ e ∈ o.after, Region.binds md e = true -> e.on < i
def Region.Waited (md : Region.Mode) (ops : Array Oper) (z : Nat) : Prop := ∀ i, i < z -> ∃ j o e, ops[j]? = some o /\ i < j /\ j <= z /\ e ∈ o.after /\ Region.binds md e = true /\ e.on = i
def Region.Tail (md : Region.Mode) (ops : Array Oper) (z : Nat) : Prop := ∀ i o, ops[i]? = some o -> z < i -> ∃ e, e ∈ o.after /\ Region.binds md e = true /\ z <= e.on
def upTo (n z : Nat) : Array Bool := ((List.range n).map fun i => decide (i <= z)).toArray
structure RelL (n z : Nat) (l q : Array Bool) : Prop where
 sl : l.size = n
 sq : q.size = n
 low : ∀ i, i < z -> l.getD i true = q.getD i true
 hq : ∀ i, z <= i -> q.getD i true = true
 hl : ∀ i, z <= i -> i < n -> l.getD i true = false
def Region.Closed (md : Region.Mode) (ops : Array Oper) (listed : Array Bool) : Prop := ∀ j o, ops[j]? = some o -> listed.getD j true = true -> ∀ e ∈ o.after, Region.binds md e = true -> listed.getD e.on false = true
theorem getD_both {l : Array Bool} {i : Nat} (h : i < l.size) (x y : Bool) : l.getD i x = l.getD i y := by simp [h]
theorem getD_set_eq {l : Array Bool} {i : Nat} (h : i < l.size) (x : Bool) : (l.setIfInBounds i true).getD i x = true := by simp [h]
theorem getD_set_up {l : Array Bool} {i j : Nat} {x : Bool} (h : l.getD j x = true) : (l.setIfInBounds i true).getD j x = true := by
 by_cases e : i = j
 ·subst e
  by_cases hi : i < l.size
  ·simp [hi]
  ·simp [hi] at h ⊢; exact h
 ·rw [getD_set_ne x e]; exact h
theorem Region.Closed.step {listed : Array Bool} (hc : Region.Closed md ops listed) {i : Nat} (hi : i ∈ Region.ready md ops listed) : Region.Closed md ops (listed.setIfInBounds i true) := by
 intro j o ho hl e he hb
 by_cases e1 : i = j
 ·subst e1
  obtain ⟨_, o', ho', h⟩ := mem_ready.1 hi
  rw [ho] at ho'
  cases ho'
  exact getD_set_up (h e he hb)
 ·rw [getD_set_ne true e1] at hl
  exact getD_set_up (hc j o ho hl e he hb)
theorem Region.all_of_last {listed : Array Bool} {z : Nat} (hs : listed.size = ops.size) (hz : z < ops.size) (hW : Region.Waited md ops z) (hc : Region.Closed md ops listed) (hr : z ∈ Region.ready md ops listed) :
  ∀ (n i : Nat), i < z -> z <= i + n -> listed.getD i true = true
 | 0, i, h1, h2 => by omega
 | n + 1, i, h1, h2 => by
  obtain ⟨j, o, e, ho, hij, hjz', he, hb, rfl⟩ := hW i h1
  by_cases hjz : j = z
  ·subst hjz
   obtain ⟨_, o', ho', h⟩ := mem_ready.1 hr
   rw [ho] at ho'
   cases ho'
   have := h e he hb
   rwa [getD_both (by omega) false true] at this
  ·have h3 := Region.all_of_last hs hz hW hc hr n j (by omega) (by omega)
   have := hc j o ho h3 e he hb
   rwa [getD_both (by omega) false true] at this
theorem Region.some_ready {listed : Array Bool} (hs : listed.size = ops.size) (hB : Region.Back md ops) : ∀ (n z : Nat), z <= n -> z < ops.size -> listed.getD z true = false -> Region.ready md ops listed ≠ []
 | n, z, hn, hz, hl => by
  intro h0
  by_cases hex : ∃ i, i < z /\ listed.getD i true = false
  ·obtain ⟨i, h1, h2⟩ := hex
   match n, hn with
   | 0, hn => omega
   | n + 1, hn => exact Region.some_ready hs hB n i (by omega) (by omega) h2 h0
  ·have : z ∈ Region.ready md ops listed := mem_ready.2 ⟨hl, ops[z], by simp [hz], fun e he hb => by
    have h1 := hB z ops[z] (by simp [hz]) e he hb
    have h2 : listed.getD e.on true = true := by
     cases h3 : listed.getD e.on true with
     | true => rfl
     | false => exact absurd ⟨_, h1, h3⟩ hex
    rwa [getD_both (by omega) true false] at h2⟩
   rw [h0] at this
   cases this
theorem wpAny_over {Q' : Exit -> Act -> World -> Prop} {listed : Array Bool} {a : Act} {w : World} (h : Region.ready md ops listed = []) (hq : Q' .normal a w) : ∀ fuel, wpAny P md ops Q' fuel listed a w
 | 0 => ⟨h, hq⟩
 | fuel + 1 => ⟨fun _ => hq, fun i hi => by rw [h] at hi; cases hi⟩
theorem wpAny_more {Q' : Exit -> Act -> World -> Prop} : ∀ (n : Nat) (listed : Array Bool) (a : Act) (w : World), wpAny P md ops Q' n listed a w -> wpAny P md ops Q' (n + 1) listed a w
 | 0, _, _, _, h => wpAny_over h.1 h.2 1
 | n + 1, _, _, _, h => ⟨h.1, fun i hi => wpOp_mono (fun a w hh => wpAny_more n _ a w hh) (h.2 i hi)⟩
theorem wpAny_more' {Q' : Exit -> Act -> World -> Prop} {n : Nat} {listed : Array Bool} {a : Act} {w : World} (h : wpAny P md ops Q' n listed a w) : ∀ k, wpAny P md ops Q' (k + n) listed a w
 | 0 => by rwa [Nat.zero_add]
 | k + 1 => by rw [Nat.add_right_comm]; exact wpAny_more _ _ _ _ (wpAny_more' h k)
theorem RelL.ready {z : Nat} {l q : Array Bool} (h : RelL ops.size z l q) (hB : Region.Back md ops) (hz : z < ops.size) {i : Nat} (hi : i ∈ Region.ready md ops l) (hlt : i < z) : i ∈ Region.ready md ops q := by
 obtain ⟨h1, o, ho, h2⟩ := mem_ready.1 hi
 refine mem_ready.2 ⟨by rw [<- h.low i hlt]; exact h1, o, ho, fun e he hb => ?_⟩
 have h3 := hB i o ho e he hb
 have h4 := h2 e he hb
 rw [getD_both (by have := h.sl; omega) false true, h.low _ (by omega)] at h4
 rwa [getD_both (by have := h.sq; omega) false true]
theorem RelL.tail {z : Nat} {l q : Array Bool} (h : RelL ops.size z l q) (hT : Region.Tail md ops z) {i : Nat} (hi : i ∈ Region.ready md ops l) : i <= z := by
 obtain ⟨h1, o, ho, h2⟩ := mem_ready.1 hi
 rcases Nat.lt_or_ge z i with h0 | h0
 ·exfalso
  obtain ⟨e, he, hb, hze⟩ := hT i o ho h0
  have h4 := h2 e he hb
  rcases Nat.lt_or_ge e.on ops.size with h5 | h5
  ·rw [getD_both (by have := h.sl; omega) false true, h.hl _ hze h5] at h4
   cases h4
  ·have := h.sl
   simp [show ¬ e.on < l.size by omega] at h4
 ·exact h0
theorem RelL.step {n z : Nat} {l q : Array Bool} (h : RelL n z l q) {i : Nat} (hi : i < z) : RelL n z (l.setIfInBounds i true) (q.setIfInBounds i true) where
 sl := by simpa using h.sl
 sq := by simpa using h.sq
 low := fun j hj => by
  by_cases e : i = j
  ·subst e
   by_cases hn : i < n
   ·rw [getD_set_eq (by have := h.sl; omega), getD_set_eq (by have := h.sq; omega)]
   ·have h1 := h.sl; have h2 := h.sq
    simp [show ¬ i < l.size by omega, show ¬ i < q.size by omega]
  ·rw [getD_set_ne true e, getD_set_ne true e]; exact h.low j hj
 hq := fun j hj => by rw [getD_set_ne true (by omega)]; exact h.hq j hj
 hl := fun j hj hn => by rw [getD_set_ne true (by omega)]; exact h.hl j hj hn
theorem RelL.up {n z : Nat} {l q : Array Bool} (h : RelL n z l q) (hall : ∀ i, i < z -> l.getD i true = true) : l.setIfInBounds z true = upTo n z := by
 apply Array.ext
 ·simp [upTo, h.sl]
 ·intro i h1 h2
  have hn : i < n := by simpa [h.sl] using h1
  have hl := h.sl
  have e1 : (l.setIfInBounds z true).getD i true = (l.setIfInBounds z true)[i] := by simp [show i < l.size by omega]
  rw [<- e1]
  have e2 : (upTo n z)[i] = decide (i <= z) := by simp [upTo]
  rw [e2]
  rcases Nat.lt_trichotomy i z with h3 | h3 | h3
  ·rw [getD_set_ne true (by omega), hall i h3]; simp; omega
  ·subst h3; rw [getD_set_eq (by omega)]; simp
  ·rw [getD_set_ne true (by omega), h.hl i (by omega) hn]; simp; omega
theorem wpAny_of_but {Q : Act -> Prop} {Q' : Exit -> Act -> World -> Prop} {z m : Nat} (hz : ops.size = z + 1 + m) (hB : Region.Back md ops) (hW : Region.Waited md ops z) (hT : Region.Tail md ops z)
  (hQ : ∀ a w, C w -> Q a -> wpOp P ops Q' z (wpAny P md ops Q' m (upTo ops.size z)) a w) : ∀ (fuel : Nat) (listed q : Array Bool) (a : Act) (w : World), RelL ops.size z listed q -> Region.Closed md ops listed -> C w ->
  wpAnyQ P md ops C Q fuel q a -> wpAny P md ops Q' (fuel + m + 1) listed a w := by
 intro fuel
 induction fuel with
 | zero =>
  intro listed q a w hs hc hw h
  refine ⟨fun h0 => absurd h0 (Region.some_ready hs.sl hB _ z (Nat.le_refl _) (by omega) (hs.hl z (Nat.le_refl _) (by omega))), fun i hi => ?_⟩
  by_cases e : i = z
  ·subst e
   rw [hs.up (fun j hj => Region.all_of_last hs.sl (by omega) hW hc hi i j hj (by omega))]
   exact wpOp_mono (fun a' w' hq => wpAny_more' hq 0) (hQ a w hw h.2)
  ·have := hs.ready hB (by omega) hi (by have := hs.tail hT hi; omega)
   rw [h.1] at this
   cases this
 | succ fuel ih =>
  intro listed q a w hs hc hw h
  refine ⟨fun h0 => absurd h0 (Region.some_ready hs.sl hB _ z (Nat.le_refl _) (by omega) (hs.hl z (Nat.le_refl _) (by omega))), fun i hi => ?_⟩
  by_cases e : i = z
  ·subst e
   have hall : ∀ j, j < i -> listed.getD j true = true := fun j hj => Region.all_of_last hs.sl (by omega) hW hc hi i j hj (by omega)
   have hr : Region.ready md ops q = [] := by
    rw [List.eq_nil_iff_forall_not_mem]
    intro j hj
    obtain ⟨h1, o, h2, _⟩ := mem_ready.1 hj
    rcases Nat.lt_or_ge j i with h3 | h3
    ·rw [<- hs.low j h3, hall j h3] at h1; cases h1
    ·rw [hs.hq j h3] at h1; cases h1
   rw [hs.up hall]
   exact wpOp_mono (fun a' w' hq => wpAny_more' hq _) (hQ a w hw (h.1 hr))
  ·have hlt : i < z := by have := hs.tail hT hi; omega
   have := wpOp_of_qOp (Q' := Q') hw (fun a' w' hw' hk => ih (listed.setIfInBounds i true) _ a' w' (hs.step hlt) (hc.step hi) hw' hk) (h.2 i (hs.ready hB (by omega) hi hlt))
   rwa [Nat.add_right_comm fuel 1 m]
theorem wpAnyQ_lex' {Q : Act -> Prop} (hs : Region.noSelect ops = true) : ∀ (l : List Oper) (k : Nat) (listed : Array Bool) (a : Act), (∀ j, j < l.length -> l[j]? = ops[k + j]?) ->
  Region.lexFrom md ops l.length k listed = true -> wpQuiet P ops C Q l a -> wpAnyQ P md ops C Q l.length listed a
 | [], _, _, _, _, hB, h => ⟨by simpa [Region.lexFrom] using hB, h⟩
 | o :: l, k, listed, a, hl, hB, h => by
  have h0 : ops[k]? = some o := by simpa using (hl 0 (by simp)).symm
  simp only [List.length_cons, Region.lexFrom, Bool.and_eq_true] at hB
  obtain ⟨⟨hr, hf⟩, hB'⟩ := hB
  have hst : qOp P ops C k (wpQuiet P ops C Q l) a := by unfold qOp; simp only [h0]; exact h
  obtain ⟨v, hy, hK⟩ := yieldsIn_of_qOp h0 hst
  exact wpAnyQ_first h0 (Region.noSelect_spec hs) l.length listed a (Region.free_spec h0 hf) (by simpa using hr) hy
   (wpAnyQ_lex' hs l (k + 1) _ _ (fun j hj => by have := hl (j + 1) (by simpa using hj); simpa [Nat.add_assoc, Nat.add_comm 1 j] using this) hB' hK)
def Region.butB (md : Region.Mode) (ops : Array Oper) (z m : Nat) : Bool :=
 (ops.size == z + 1 + m) && Region.noSelect ops && Region.lexFrom md ops z 0 (((List.range ops.size).map fun i => decide (z <= i)).toArray) &&
 ((List.range ops.size).all fun i => ((ops[i]?).map (·.after.all fun e => !Region.binds md e || decide (e.on < i))).getD true) &&
 ((List.range z).all fun i => (List.range (z + 1)).any fun j => decide (i < j) && ((ops[j]?).map (·.after.any fun e => Region.binds md e && (e.on == i))).getD false) &&
 ((List.range ops.size).all fun i => decide (i <= z) || ((ops[i]?).map (·.after.any fun e => Region.binds md e && decide (z <= e.on))).getD true)
theorem wp_region_but {id : Nat} {Q : Exit -> Act -> World -> Prop} {a : Act} {w : World} {L : List Oper} (z m : Nat) (hm : P.follows .mixedOrders = true) (hB : Region.butB .any L.toArray z m = true) (hC : C { w with drawn := w.drawn + 1 })
  (h : wpQuiet P L.toArray C (fun a' => ∀ w', C w' -> wpOp P L.toArray Q z (wpAny P .any L.toArray Q m (upTo (z + 1 + m) z)) a' w') (L.take z) a) : (Code.region id L.toArray true).wp P Q a w := by
 generalize hops : L.toArray = ops at *
 simp only [Region.butB, Bool.and_eq_true, beq_iff_eq] at hB
 obtain ⟨⟨⟨⟨⟨hz, hs⟩, hx⟩, hb⟩, hw⟩, ht⟩ := hB
 have hLs : L.length = z + 1 + m := by rw [<- hz, <- hops]; simp
 have HB : Region.Back .any ops := fun i o ho e he hbi => by
  have h1 := List.all_eq_true.1 hb i (by simpa using (Array.getElem?_eq_some_iff.1 ho).1)
  simp only [ho, Option.map_some, Option.getD_some] at h1
  have h2 := Array.all_eq_true'.1 h1 e he
  rw [hbi] at h2
  simpa using h2
 have HW : Region.Waited .any ops z := fun i hi => by
  have h1 := List.all_eq_true.1 hw i (by simpa using hi)
  obtain ⟨j, hj, h2⟩ := List.any_eq_true.1 h1
  simp only [Bool.and_eq_true, decide_eq_true_eq] at h2
  obtain ⟨h3, h4⟩ := h2
  cases ho : ops[j]? with
  | none => simp [ho] at h4
  | some o =>
   simp only [ho, Option.map_some, Option.getD_some] at h4
   obtain ⟨e, he, h5⟩ := Array.any_eq_true'.1 h4
   simp only [Bool.and_eq_true, beq_iff_eq] at h5
   exact ⟨j, o, e, ho, h3, by have := List.mem_range.1 hj; omega, he, h5.1, h5.2⟩
 have HT : Region.Tail .any ops z := fun i o ho hi => by
  have h1 := List.all_eq_true.1 ht i (by simpa using (Array.getElem?_eq_some_iff.1 ho).1)
  simp only [ho, Option.map_some, Option.getD_some, Bool.or_eq_true, decide_eq_true_eq] at h1
  rcases h1 with h1 | h1
  ·omega
  ·obtain ⟨e, he, h5⟩ := Array.any_eq_true'.1 h1
   simp only [Bool.and_eq_true, decide_eq_true_eq] at h5
   exact ⟨e, he, h5.1, h5.2⟩
 refine wp_region_any hm ?_
 have hlen : (L.take z).length = z := by simp [hLs]; omega
 have := wpAny_of_but (C := C) (Q := fun a' => ∀ w', C w' -> wpOp P ops Q z (wpAny P .any ops Q m (upTo (z + 1 + m) z)) a' w') hz HB HW HT (fun a w hw h => by rw [hz]; exact h w hw) z (Array.replicate ops.size false) (((List.range ops.size).map fun i => decide (z <= i)).toArray) a _
  ⟨by simp, by simp, fun i hi => by (have : i < ops.size := by omega); simp [this]; omega, fun i hi => by
    by_cases hi' : i < ops.size
    ·simp [hi']; omega
    ·simp [hi'], fun i hi hn => by simp [hn]⟩ (fun j o ho hj => by
    have := (Array.getElem?_eq_some_iff.1 ho).1
    simp [this] at hj) hC (by
    have h9 := wpAnyQ_lex' (md := .any) (P := P) (C := C) hs (L.take z) 0 (((List.range ops.size).map fun i => decide (z <= i)).toArray) a (fun j hj => by
     rw [<- hops]
     rw [hlen] at hj
     simp [hj]) (by rw [hlen]; exact hx) h
    rwa [hlen] at h9)
 rw [hz]
 rw [hz] at this
 rw [show z + m + 1 = z + 1 + m by omega] at this
 exact this
theorem wpAny_one {Q : Exit -> Act -> World -> Prop} {m k : Nat} {listed : Array Bool} {a : Act} {w : World} (hr : Region.ready md ops listed = [k]) (h : wpOp P ops Q k (wpAny P md ops Q m (listed.setIfInBounds k true)) a w) : wpAny P md ops Q (m + 1) listed a w :=
 ⟨fun h0 => by (rw [hr] at h0; cases h0), fun i hi => by rw [hr] at hi; cases hi with | head => exact h | tail _ h => cases h⟩
theorem quiet_next {Q : Act -> Prop} {a : Act} {o : Oper} {rest : List Oper} {v : Value} (hw : Region.wanted o (yielded ops a.tmps) = true) (h1 : ∀ w, C w -> o.quietAt P a C w v) (h2 : wpQuiet P ops C Q rest (a.put o.dst v)) : wpQuiet P ops C Q (o :: rest) a := by
 unfold wpQuiet
 rw [if_pos hw]
 exact ⟨v, h1, h2⟩
theorem quiet_at {o : Oper} {a : Act} {w : World} {v : Value} {r : Result Next} (h : (execOp a.eval o).run P w = r) (h2 : Oper.quietUpon P C w v r) : o.quietAt P a C w v := by
 unfold Oper.quietAt
 rw [h]
 exact h2
theorem wpOp_now {Q : Exit -> Act -> World -> Prop} {K : Act -> World -> Prop} {a : Act} {w : World} {z : Nat} {o : Oper} (ho : ops[z]? = some o) (hw : Region.wanted o (yielded ops a.tmps) = true) (h : o.wp P a w K Q) : wpOp P ops Q z K a w := by
 unfold wpOp
 simp only [ho, hw, if_true]
 exact .inl h
end
end Go
namespace Go.Proofs.YtfddoieakfpagabGreatDoor
set_option maxHeartbeats 1000000000
set_option maxRecDepth 20000
open Go.RowKit
section
variable {w : World} {lo cb ib rb : Nat} {v : Nat -> Value} {c : Cc}
def Cc.tst (c : Cc) (x : Cd) : Stp := ⟨kindN x.word, c.ref x.queue, (0, 0), false, x.neg, c.opd x.left, c.opd x.right, 0, 0, 0⟩
theorem Below.all {w w' w'' : World} (h : Below w.heap.size w w') (k : Below w'.heap.size w' w'') : Below w.heap.size w w'' := h.trans (k.mono h.size)
theorem cells_keep {bx : Nat} {A : Array Value} {w w' : World} (h : ∀ o, w.cell? ⟨bx, o, none⟩ = A[o]?) (hl : bx < w.heap.size) (hb : Below w.heap.size w w') : ∀ o, w'.cell? ⟨bx, o, none⟩ = A[o]? := fun o => (hb.cell (p := ⟨bx, o, none⟩) hl).trans (h o)
theorem cells_fr {v' : Nat -> Value} {bx : Nat} {A : Array Value} {w w' : World} (h : ∀ o, w.cell? ⟨bx, o, none⟩ = A[o]?) (hl : bx < w.heap.size) (hb : Fr cb ib rb v v' w w') (hm : ¬ Mine cb ib rb v bx) : ∀ o, w'.cell? ⟨bx, o, none⟩ = A[o]? := fun o => (World.cell?_of_block (a := ⟨bx, o, none⟩) (hb.block bx hl hm)).trans (h o)
structure K4 (w1 : World) (lo cb ib rb : Nat) (v : Nat -> Value) (c : Cc) (bx : Nat) (A : Array Value) (W : World) : Prop where
 cw : Cw W lo cb ib rb v c
 cells : ∀ o, W.cell? ⟨bx, o, none⟩ = A[o]?
 lt : bx < W.heap.size
 bl : Below w1.heap.size w1 W
theorem K4.step {w1 W W2 : World} {bx : Nat} {A : Array Value} (h : K4 w1 lo cb ib rb v c bx A W) (hb : Below W.heap.size W W2) : K4 w1 lo cb ib rb v c bx A W2 :=
 ⟨h.cw.grow hb, cells_keep h.cells h.lt hb, Nat.lt_of_lt_of_le h.lt hb.size, Below.all h.bl hb⟩
def OutK4 (w1 : World) (lo cb ib rb : Nat) (v : Nat -> Value) (c : Cc) (bx : Nat) (A : Array Value) (x : Value) (e : Ending) (W : World) : Prop := e = .returned x /\ K4 w1 lo cb ib rb v c bx A W
theorem K4.ref {w1 W : World} {bx : Nat} {A : Array Value} (h : K4 w1 lo cb ib rb v c bx A W) (n : NP) (hn : n.1.length <= 700) :
  Calls Tryz.prog 128 #[ptr cb, .agg #[S n.1, .int .i64 n.2]] W (OutK4 w1 lo cb ib rb v c bx A (.agg #[.int .i64 (c.ref n).1, .int .i64 (c.ref n).2])) :=
 (cref_any h.cw n hn).mono fun _ _ ⟨h1, h2⟩ => ⟨h1, h.step h2⟩
theorem K4.opd {w1 W : World} {bx : Nat} {A : Array Value} (h : K4 w1 lo cb ib rb v c bx A W) (x : Vl) (hn : x.name.1.length <= 700) :
  Calls Tryz.prog 154 #[ptr cb, vlV x] W (OutK4 w1 lo cb ib rb v c bx A (.agg #[.int .i64 (c.opd x).1, .int .i64 (c.opd x).2])) :=
 (copd_any h.cw x hn).mono fun _ _ ⟨h1, h2⟩ => ⟨h1, h.step h2⟩
structure K5 (w1 : World) (lo cb ib rb : Nat) (v : Nat -> Value) (c : Cc) (bx : Nat) (A : Array Value) (W : World) : Prop where
 cells : ∀ o, W.cell? ⟨bx, o, none⟩ = A[o]?
 fin : ∃ v', Cw W lo cb ib rb v' c /\ Fr cb ib rb v v' w1 W
theorem K4.add {w1 W : World} {bx : Nat} {A : Array Value} (h : K4 w1 lo cb ib rb v c bx A W) (s : Stp) (hl : c.st.length <= 1000000) (hm : ¬ Mine cb ib rb v bx) :
  Calls Tryz.prog 126 #[ptr cb, .agg (spA s)] W fun e w' => e = .returned (.int .i64 c.st.length) /\ K5 w1 lo cb ib rb v (c.add s) bx A w' :=
 (cadd_any h.cw s hl).mono fun _ _ ⟨h1, v', h2, h3⟩ => ⟨h1, cells_fr h.cells h.lt h3 hm, v', h2, (Fr.of cb ib rb v h.bl).trans h3⟩
theorem ctest_any (h : Cw w lo cb ib rb v c) (x : Cd) (hx : x.small) (hl : c.st.length <= 1000000) :
  Calls Tryz.prog 142 #[ptr cb, cdV x] w (OutM w lo cb ib rb v (.int .i64 c.st.length) (c.add (c.tst x))) := by
 obtain ⟨hx1, hx2, hx3⟩ := hx
 have hlow := h.low
 have h1 := h.alloc (.cells (cdA x) 224)
 have b1 : (w.alloc (.cells (cdA x) 224)).heap[w.heap.size]? = some (.cells (cdA x) 224) := heap_new rfl
 have B1 := (Below.refl w.heap.size w).alloc (Nat.le_refl _) (.cells (cdA x) 224)
 have hm : ¬ Mine cb ib rb v w.heap.size := fun hm => by have := (h.mine_lt hm).2; omega
 have e1 : c.tst x = ⟨kindN x.word, c.ref x.queue, (0, 0), false, x.neg, c.opd x.left, c.opd x.right, 0, 0, 0⟩ := rfl
 rw [e1]
 clear e1
 go_enter Tryz.func142, Tryz.ntmps142
 go_upto_region 1 with fail
 generalize w.alloc (.cells (cdA x) 224) = w1 at *
 obtain ⟨c1, cf1⟩ := blk_cl b1
 have hl1 : w.heap.size < w1.heap.size := (Array.getElem?_eq_some_iff.1 b1).1
 obtain ⟨xn, xw, xq, ⟨k1, n1, m1⟩, ⟨k2, n2, m2⟩⟩ := x
 obtain ⟨q1, q2⟩ := xq
 obtain ⟨n11, n12⟩ := n1
 obtain ⟨n21, n22⟩ := n2
 obtain ⟨m11, m12⟩ := m1
 obtain ⟨m21, m22⟩ := m2
 have KK : K4 w1 lo cb ib rb v c w.heap.size (cdA ⟨xn, xw, (q1, q2), ⟨k1, (n11, n12), (m11, m12)⟩, ⟨k2, (n21, n22), (m21, m22)⟩⟩) w1.drew := ⟨h1.drew, c1, hl1, bdrw (Below.refl _ _)⟩
 have HR : ∀ {W : World} {A : Array Value}, K4 w1 lo cb ib rb v c w.heap.size A W -> _ := fun {W A} h => K4.ref h (q1, q2) hx1
 have HO1 : ∀ {W : World} {A : Array Value}, K4 w1 lo cb ib rb v c w.heap.size A W -> _ := fun {W A} h => K4.opd h ⟨k1, (n11, n12), (m11, m12)⟩ hx2
 have HO2 : ∀ {W : World} {A : Array Value}, K4 w1 lo cb ib rb v c w.heap.size A W -> _ := fun {W A} h => K4.opd h ⟨k2, (n21, n22), (m21, m22)⟩ hx3
 have HKK := fun W => kind_any xw W
 have HAD := fun (s : Stp) {W : World} {A : Array Value} (h : K4 w1 lo cb ib rb v c w.heap.size A W) => K4.add h s hl hm
 generalize kindN xw = kn at *
 generalize c.ref (q1, q2) = rr at *
 generalize c.opd ⟨k1, (n11, n12), (m11, m12)⟩ = o1 at *
 generalize c.opd ⟨k2, (n21, n22), (m21, m22)⟩ = o2 at *
 obtain ⟨rr1, rr2⟩ := rr
 obtain ⟨o11, o12⟩ := o1
 obtain ⟨o21, o22⟩ := o2
 have FB := Fr.of cb ib rb v B1
 clear b1 cf1 hl1 hx1 hx2 hx3 hlow h1 h B1 hm
 generalize w.heap.size = bx at *
 have HR : Hid (∀ {W : World} {A : Array Value}, K4 w1 lo cb ib rb v c bx A W -> Calls Tryz.prog 128 #[ptr cb, .agg #[S q1, .int .i64 q2]] W (OutK4 w1 lo cb ib rb v c bx A (.agg #[.int .i64 rr1, .int .i64 rr2]))) := fun {W A} h => HR h
 have HO1 : Hid (∀ {W : World} {A : Array Value}, K4 w1 lo cb ib rb v c bx A W -> Calls Tryz.prog 154 #[ptr cb, vlV ⟨k1, (n11, n12), (m11, m12)⟩] W (OutK4 w1 lo cb ib rb v c bx A (.agg #[.int .i64 o11, .int .i64 o12]))) := fun {W A} h => HO1 h
 have HO2 : Hid (∀ {W : World} {A : Array Value}, K4 w1 lo cb ib rb v c bx A W -> Calls Tryz.prog 154 #[ptr cb, vlV ⟨k2, (n21, n22), (m21, m22)⟩] W (OutK4 w1 lo cb ib rb v c bx A (.agg #[.int .i64 o21, .int .i64 o22]))) := fun {W A} h => HO2 h
 have HAD : Hid (∀ {W : World} {A : Array Value}, K4 w1 lo cb ib rb v c bx A W -> Calls Tryz.prog 126 #[ptr cb, .agg (spA ⟨kn, (rr1, rr2), (0, 0), false, xn, (o11, o12), (o21, o22), 0, 0, 0⟩)] W fun e w' => e = .returned (.int .i64 c.st.length) /\ K5 w1 lo cb ib rb v (c.add ⟨kn, (rr1, rr2), (0, 0), false, xn, (o11, o12), (o21, o22), 0, 0, 0⟩) bx A w') := fun {W A} h => HAD _ h
 have HKK : Hid (∀ W : World, Calls Tryz.prog 127 #[S xw] W fun e w' => e = .returned (.int .i64 kn) /\ w' = W) := HKK
 refine wp_region_but (C := K4 w1 lo cb ib rb v c bx (cdA ⟨xn, xw, (q1, q2), ⟨k1, (n11, n12), (m11, m12)⟩, ⟨k2, (n21, n22), (m21, m22)⟩⟩)) 19 1 (by kernel_rfl) (by kernel_rfl) KK ?_
 simp only [List.take]
 apply quiet_next
 case hw => rfl
 case h1 =>
  intro W hW
  have cW := hW.cells
  unfold Oper.quietAt
  go_simp
  refine And.intro rfl ?_
  with_reducible rfl
 apply quiet_next
 case hw => rfl
 case h1 =>
  intro W hW
  have cW := hW.cells
  unfold Oper.quietAt
  go_simp
  refine And.intro rfl ?_
  with_reducible rfl
 apply quiet_next
 case hw => rfl
 case h1 =>
  intro W hW
  have cW := hW.cells
  unfold Oper.quietAt
  go_simp
  refine And.intro rfl ?_
  with_reducible rfl
 apply quiet_next
 case hw => rfl
 case h1 =>
  intro W hW
  have cW := hW.cells
  unfold Oper.quietAt
  go_simp
  refine And.intro rfl ?_
  exact (HKK.out W).mono fun _ _ h => And.intro h.1 (h.2 ▸ hW)
 apply quiet_next
 case hw => rfl
 case h1 =>
  intro W hW
  have cW := hW.cells
  unfold Oper.quietAt
  go_simp
  refine And.intro rfl ?_
  with_reducible rfl
 apply quiet_next
 case hw => rfl
 case h1 =>
  intro W hW
  have cW := hW.cells
  unfold Oper.quietAt
  go_simp
  refine And.intro rfl ?_
  with_reducible rfl
 apply quiet_next
 case hw => rfl
 case h1 =>
  intro W hW
  have cW := hW.cells
  unfold Oper.quietAt
  go_simp
  refine And.intro rfl ?_
  with_reducible rfl
 apply quiet_next
 case hw => rfl
 case h1 =>
  intro W hW
  have cW := hW.cells
  unfold Oper.quietAt
  go_simp
  refine And.intro rfl ?_
  exact HR.out hW
 apply quiet_next
 case hw => rfl
 case h1 =>
  intro W hW
  have cW := hW.cells
  unfold Oper.quietAt
  go_simp
  refine And.intro rfl ?_
  with_reducible rfl
 apply quiet_next
 case hw => rfl
 case h1 =>
  intro W hW
  have cW := hW.cells
  unfold Oper.quietAt
  go_simp
  refine And.intro rfl ?_
  with_reducible rfl
 apply quiet_next
 case hw => rfl
 case h1 =>
  intro W hW
  have cW := hW.cells
  unfold Oper.quietAt
  go_simp
  refine And.intro rfl ?_
  with_reducible rfl
 apply quiet_next
 case hw => rfl
 case h1 =>
  intro W hW
  have cW := hW.cells
  unfold Oper.quietAt
  go_simp
  refine And.intro rfl ?_
  with_reducible rfl
 apply quiet_next
 case hw => rfl
 case h1 =>
  intro W hW
  have cW := hW.cells
  unfold Oper.quietAt
  go_simp
  refine And.intro rfl ?_
  with_reducible rfl
 apply quiet_next
 case hw => rfl
 case h1 =>
  intro W hW
  have cW := hW.cells
  unfold Oper.quietAt
  go_simp
  refine And.intro rfl ?_
  exact HO1.out hW
 apply quiet_next
 case hw => rfl
 case h1 =>
  intro W hW
  have cW := hW.cells
  unfold Oper.quietAt
  go_simp
  refine And.intro rfl ?_
  with_reducible rfl
 apply quiet_next
 case hw => rfl
 case h1 =>
  intro W hW
  have cW := hW.cells
  unfold Oper.quietAt
  go_simp
  refine And.intro rfl ?_
  with_reducible rfl
 apply quiet_next
 case hw => rfl
 case h1 =>
  intro W hW
  have cW := hW.cells
  unfold Oper.quietAt
  go_simp
  refine And.intro rfl ?_
  with_reducible rfl
 apply quiet_next
 case hw => rfl
 case h1 =>
  intro W hW
  have cW := hW.cells
  unfold Oper.quietAt
  go_simp
  refine And.intro rfl ?_
  exact HO2.out hW
 apply quiet_next
 case hw => rfl
 case h1 =>
  intro W hW
  have cW := hW.cells
  unfold Oper.quietAt
  go_simp
  refine And.intro rfl ?_
  with_reducible rfl
 refine wpQuiet_nil ?_
 intro W hW
 refine wpOp_now rfl rfl ?_
 go_simp
 go_at_call 126
 refine Calls.mono (HAD.out hW) ?_
 rintro e w3 ⟨rfl, K3⟩
 go_simp
 refine wpAny_one (k := 20) (by kernel_rfl) ?_
 refine wpOp_now rfl rfl ?_
 go_simp
 refine wpAny_over (by kernel_rfl) ?_ _
 obtain ⟨v3, C3, F3⟩ := K3.fin
 go_wp2_with fail
 go_ret
 exact ⟨rfl, v3, C3, FB.trans F3⟩
end
end Go.Proofs.YtfddoieakfpagabGreatDoor
