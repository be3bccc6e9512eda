import Derived.Test.YtfddoieakfpagabGreatDoorXA
namespace Go.Proofs.YtfddoieakfpagabGreatDoor
set_option maxHeartbeats 4000000
set_option maxRecDepth 20000
open Go.RowKit
section
variable {w : World} {lo wb : Nat} {l : List UInt8} {inl : Bool}
theorem wplain (h : Wt w lo wb l inl) (hlo : lo <= w.heap.size) (x : St) (y1 : Option Addr) (y2 y3 : Nat) (z1 : Option Addr) (z2 z3 : Nat) (hlen : (plnS (l, inl) x).1.length <= 100000000000) : Calls Tryz.prog 133 #[.pointer (some ⟨wb, 0, none⟩), .agg (stA x (.slice y1 y2 y3) (.slice z1 z2 z3))] w (OutWt w lo wb (plnS (l, inl) x)) := by
 have B : Below w.heap.size w (w.alloc (.cells (stA x (.slice y1 y2 y3) (.slice z1 z2 z3)) 226)) := (Below.refl _ w).alloc (Nat.le_refl _) _
 have b1 : (w.alloc (.cells (stA x (.slice y1 y2 y3) (.slice z1 z2 z3)) 226)).heap[w.heap.size]? = some (.cells (stA x (.slice y1 y2 y3) (.slice z1 z2 z3)) 226) := heap_new rfl
 have hl2 := Nat.le_trans (plnS_le2 (l, inl) x) hlen
 have hl1 := Nat.le_trans (plnN_le (plnN (l, inl) x.name.1) (St.to x).1) hl2
 obtain ⟨c1, cf1⟩ := blk_cl b1
 have hA := h.below B
 have hFA : Fw lo wb w _ := Fw.of hlo B
 have lwb := h.lt
 have hnb : w.heap.size ≠ wb := by omega
 have hsA : (w.alloc (.cells (stA x (.slice y1 y2 y3) (.slice z1 z2 z3)) 226)).heap.size = w.heap.size + 1 := by simp
 generalize hwA : w.alloc (.cells (stA x (.slice y1 y2 y3) (.slice z1 z2 z3)) 226) = wA at *
 have B2 : Below wA.heap.size wA (wA.alloc (.cells #[S x.name.1, .int .i64 x.name.2, S (St.to x).1, .int .i64 (St.to x).2] 116)) := (Below.refl _ wA).alloc (Nat.le_refl _) _
 have b2 : (wA.alloc (.cells #[S x.name.1, .int .i64 x.name.2, S (St.to x).1, .int .i64 (St.to x).2] 116)).heap[wA.heap.size]? = some (.cells #[S x.name.1, .int .i64 x.name.2, S (St.to x).1, .int .i64 (St.to x).2] 116) := heap_new rfl
 have b3 := (B2.block w.heap.size (by omega)).trans b1
 have hB := hA.below B2
 have hFB : Fw lo wb w (wA.alloc (.cells #[S x.name.1, .int .i64 x.name.2, S (St.to x).1, .int .i64 (St.to x).2] 116)) := hFA.trans (Fw.of (by omega) B2)
 have hsB : (wA.alloc (.cells #[S x.name.1, .int .i64 x.name.2, S (St.to x).1, .int .i64 (St.to x).2] 116)).heap.size = w.heap.size + 2 := by simp; omega
 rw [hsA] at b2
 go_enter Tryz.func133, Tryz.ntmps133
 go_wp2_with fail
 generalize wA.alloc (.cells #[S x.name.1, .int .i64 x.name.2, S (St.to x).1, .int .i64 (St.to x).2] 116) = wB at *
 have hbx : Hid (∀ W : World, Fw lo wb wB W -> W.heap[w.heap.size]? = some (.cells (stA x (.slice y1 y2 y3) (.slice z1 z2 z3)) 226) /\ W.heap[w.heap.size + 1]? = some (.cells #[S x.name.1, .int .i64 x.name.2, S (St.to x).1, .int .i64 (St.to x).2] 116)) := fun W hW => ⟨hW.box b3 hnb (by decide), hW.box b2 (by omega) (by decide)⟩
 have hl19 : Hid ((plnN (l, inl) x.name.1).1.length <= 100000000000) := hl1
 have hl29 : Hid ((plnN (plnN (l, inl) x.name.1) (St.to x).1).1.length <= 100000000000) := hl2
 have hlen9 : Hid ((plnS (l, inl) x).1.length <= 100000000000) := hlen
 have hB9 : Hid (Wt wB lo wb l inl) := hB
 clear hl1 hl2 hlen hB hA h b1 b2 b3 c1 cf1 B B2 hFA
 go_loopg [12] 2 (fun f v wr => ∃ k : Nat, v = .int .i64 k /\ k + f = 2 /\ Hid (Fw lo wb wB wr /\ Wt wr lo wb (([x.name.1, (St.to x).1].take k).foldl plnN (l, inl)).1 (([x.name.1, (St.to x).1].take k).foldl plnN (l, inl)).2))
 case atStart => exact ⟨0, rfl, by omega, Fw.refl _ _ _, hB9.out⟩
 case round =>
  obtain ⟨k, rfl, hk, HJ⟩ := hrel
  obtain ⟨J1, J2⟩ := HJ.out
  obtain ⟨e1, e2⟩ := hbx.out wr J1
  obtain ⟨c1, cf1⟩ := blk_cl e1
  obtain ⟨c2, cf2⟩ := blk_cl e2
  have hsr := J1.bl.size
  rcases (show k = 0 \/ k = 1 \/ k = 2 by omega) with rfl | rfl | rfl
  ·have ix := ix_nm (w.heap.size + 1) 0 2 2 0 (by omega)
   simp only [List.take_zero, List.foldl_nil] at J2
   have B3 : Below wr.heap.size wr (wr.alloc (.cells #[S x.name.1, .int .i64 x.name.2] 116)) := (Below.refl _ wr).alloc (Nat.le_refl _) _
   have J3 := J2.below B3
   have F3 : Fw lo wb wB _ := J1.trans (Fw.of (by omega) B3)
   have hs3 : (wr.alloc (.cells #[S x.name.1, .int .i64 x.name.2] 116)).heap.size = wr.heap.size + 1 := by simp
   have hfin : Hid (∀ W : World, Fw lo wb wB W -> Wt W lo wb (plnN (l, inl) x.name.1).1 (plnN (l, inl) x.name.1).2 -> (Fw lo wb wB W /\ Wt W lo wb (([x.name.1, (St.to x).1].take (0 + 1)).foldl plnN (l, inl)).1 (([x.name.1, (St.to x).1].take (0 + 1)).foldl plnN (l, inl)).2)) := fun W h1 h2 => ⟨h1, h2⟩
   by_cases hne : x.name.1 = []
   ·have hb : (x.name.1 == ([] : List UInt8)) = true := by simp [hne]
    have hp : Hid (plnN (l, inl) x.name.1 = (l, inl)) := by show _ = _; unfold plnN; rw [if_neg (by simp [hne])]
    have hq := hfin.out _ F3 (by rw [hp.out]; exact J3)
    have hq9 : Hid _ := hq
    clear hq J3 J2 HJ hne
    go_wp2_with fail
    go_roundg 1
    case measure => omega
    case rel => exact ⟨1, by simp, by omega, hq9.out⟩
   ·have hb : (x.name.1 == ([] : List UInt8)) = false := by simpa using hne
    have hp : Hid (plnN (l, inl) x.name.1 = tkS (l, inl) x.name.1) := by show _ = _; unfold plnN; rw [if_pos hne]
    have HT := wtok1 J3 x.name.1 (by have := hl19.out; rw [hp.out] at this; exact this) (by omega)
    rw [hs3] at HT
    clear J3 J2 HJ hne
    go_wp2_with (go_at_call 71; refine HT.mono ?_; rintro r w3 ⟨rfl, q2, q3⟩)
    have hq9 : Hid _ := hfin.out w3 (F3.trans q2) (by rw [hp.out]; exact q3)
    go_roundg 1
    case measure => omega
    case rel => exact ⟨1, by simp, by omega, hq9.out⟩
  ·have ix := ix_nm (w.heap.size + 1) 0 2 2 1 (by omega)
   have J2 : Wt wr lo wb (plnN (l, inl) x.name.1).1 (plnN (l, inl) x.name.1).2 := J2
   have B3 : Below wr.heap.size wr (wr.alloc (.cells #[S (St.to x).1, .int .i64 (St.to x).2] 116)) := (Below.refl _ wr).alloc (Nat.le_refl _) _
   have J3 := J2.below B3
   have F3 : Fw lo wb wB _ := J1.trans (Fw.of (by omega) B3)
   have hs3 : (wr.alloc (.cells #[S (St.to x).1, .int .i64 (St.to x).2] 116)).heap.size = wr.heap.size + 1 := by simp
   have hfin : Hid (∀ W : World, Fw lo wb wB W -> Wt W lo wb (plnN (plnN (l, inl) x.name.1) (St.to x).1).1 (plnN (plnN (l, inl) x.name.1) (St.to x).1).2 -> (Fw lo wb wB W /\ Wt W lo wb (([x.name.1, (St.to x).1].take (1 + 1)).foldl plnN (l, inl)).1 (([x.name.1, (St.to x).1].take (1 + 1)).foldl plnN (l, inl)).2)) := fun W h1 h2 => ⟨h1, h2⟩
   by_cases hne : (St.to x).1 = []
   ·have hb : ((St.to x).1 == ([] : List UInt8)) = true := by simp [hne]
    have hp : Hid (plnN (plnN (l, inl) x.name.1) (St.to x).1 = plnN (l, inl) x.name.1) := by show _ = _; rw [show plnN (plnN (l, inl) x.name.1) (St.to x).1 = if (St.to x).1 ≠ [] then _ else _ from rfl, if_neg (by simp [hne])]
    have hq := hfin.out _ F3 (by rw [hp.out]; exact J3)
    have hq9 : Hid _ := hq
    clear hq J3 J2 HJ hne
    go_wp2_with fail
    go_roundg 0
    case measure => omega
    case rel => exact ⟨2, by simp, by omega, hq9.out⟩
   ·have hb : ((St.to x).1 == ([] : List UInt8)) = false := by simpa using hne
    have hp : Hid (plnN (plnN (l, inl) x.name.1) (St.to x).1 = tkS (plnN (l, inl) x.name.1) (St.to x).1) := by show _ = _; rw [show plnN (plnN (l, inl) x.name.1) (St.to x).1 = if (St.to x).1 ≠ [] then _ else _ from rfl, if_pos hne]
    have HT := wtok1 J3 (St.to x).1 (by have := hl29.out; rw [hp.out] at this; exact this) (by omega)
    rw [hs3] at HT
    clear J3 J2 HJ hne
    go_wp2_with (go_at_call 71; refine HT.mono ?_; rintro r w3 ⟨rfl, q2, q3⟩)
    have hq9 : Hid _ := hfin.out w3 (F3.trans q2) (by rw [hp.out]; exact q3)
    go_roundg 0
    case measure => omega
    case rel => exact ⟨2, by simp, by omega, hq9.out⟩
  ·have J2 : Wt wr lo wb (plnN (plnN (l, inl) x.name.1) (St.to x).1).1 (plnN (plnN (l, inl) x.name.1) (St.to x).1).2 := J2
   have Fr : Fw lo wb w wr := hFB.trans J1
   cases htl : x.tail with
   | true =>
    have hS : Hid (plnS (l, inl) x = tkS (tkS (plnN (plnN (l, inl) x.name.1) (St.to x).1) [116, 97, 105, 108]) [59]) := by show _ = _; unfold plnS; rw [htl]; rfl
    have hl3 := hlen9.out
    rw [hS.out] at hl3
    have HT := wtok1 J2 [116, 97, 105, 108] (Nat.le_trans (tkS_le _ _) hl3) (by omega)
    clear J2 HJ
    go_wp2_with (go_at_call 71; (fail_if_success (have := q2)); refine HT.mono ?_; rintro r w3 ⟨rfl, q2, q3⟩)
    refine (wtok1 q3 [59] hl3 (by have := q2.bl.size; omega)).mono ?_
    rintro r w4 ⟨rfl, q4, q5⟩
    go_wp2_with fail
    exact end0' Tryz.results133 rfl ⟨rfl, (Fr.trans q2).trans q4, by rw [hS.out]; exact q5⟩
   | false =>
    have hS : Hid (plnS (l, inl) x = tkS (plnN (plnN (l, inl) x.name.1) (St.to x).1) [59]) := by show _ = _; unfold plnS; rw [htl]; rfl
    have hl3 := hlen9.out
    rw [hS.out] at hl3
    have HT := wtok1 J2 [59] hl3 (by omega)
    clear J2 HJ
    go_wp2_with (go_at_call 71; refine HT.mono ?_; rintro r w3 ⟨rfl, q2, q3⟩)
    exact end0' Tryz.results133 rfl ⟨rfl, Fr.trans q2, by rw [hS.out]; exact q3⟩
end
def stmT {β : Type} (blk : Ws -> β -> Ws) (s : Ws) (r : St × β × β) : Ws :=
 if r.1.word = [105, 102] then (if r.1.other = true then blk (tkS (blk (conT (tkS s r.1.word) r.1.cond) r.2.1) [101, 108, 115, 101]) r.2.2 else blk (conT (tkS s r.1.word) r.1.cond) r.2.1)
 else if r.1.word = [114, 101, 112, 101, 97, 116] then blk (conT (tksS (tkS s r.1.word) [itoB r.1.times.1, [119, 104, 105, 108, 101]]) r.1.cond) r.2.1
 else plnS (tkS s r.1.word) r.1
def lstT {α : Type} (f : Ws -> α -> Ws) (s : Ws) (xs : List α) : Ws := xs.foldl f s
def blkT : (d : Nat) -> Ws -> BT d -> Ws
 | 0, s, _ => tkS (tkS s [123]) [125]
 | d + 1, s, xs => tkS (lstT (stmT (blkT d)) (tkS s [123]) xs) [125]
theorem stmT_le {β : Type} {blk : Ws -> β -> Ws} (hb : ∀ s x, s.1.length <= (blk s x).1.length) (s : Ws) (r : St × β × β) : s.1.length <= (stmT blk s r).1.length := by
 unfold stmT
 split
 ·split
  ·exact Nat.le_trans (tkS_le _ _) (Nat.le_trans (conT_le _ _) (Nat.le_trans (hb _ _) (Nat.le_trans (tkS_le _ _) (hb _ _))))
  ·exact Nat.le_trans (tkS_le _ _) (Nat.le_trans (conT_le _ _) (hb _ _))
 split
 ·exact Nat.le_trans (tkS_le _ _) (Nat.le_trans (tksS_le _ _) (Nat.le_trans (conT_le _ _) (hb _ _)))
 ·exact Nat.le_trans (tkS_le _ _) (plnS_le _ _)
theorem lstT_le {α : Type} {f : Ws -> α -> Ws} (hf : ∀ s x, s.1.length <= (f s x).1.length) : ∀ (xs : List α) (s : Ws), s.1.length <= (lstT f s xs).1.length
 | [], _s => Nat.le_refl _
 | x :: xs, s => Nat.le_trans (hf s x) (lstT_le hf xs (f s x))
theorem blkT_le : ∀ (d : Nat) (s : Ws) (x : BT d), s.1.length <= (blkT d s x).1.length
 | 0, _s, _ => Nat.le_trans (tkS_le _ _) (tkS_le _ _)
 | d + 1, _s, xs => Nat.le_trans (tkS_le _ _) (Nat.le_trans (lstT_le (fun s x => stmT_le (blkT_le d) s x) xs _) (tkS_le _ _))
def okWS {β : Type} (P : β -> Prop) (r : St × β × β) : Prop := ((r.1.word = [105, 102] \/ r.1.word = [114, 101, 112, 101, 97, 116]) -> okW r.1.cond) /\ r.1.times.1 <= 100000 /\ P r.2.1 /\ P r.2.2
def okWT : (d : Nat) -> BT d -> Prop
 | 0, _ => True
 | d + 1, xs => OkL (okWS (okWT d)) xs
def BlkW (lo wb d : Nat) : Prop := ∀ (w : World) (s : Ws) (v : Value) (x : BT d), Wt w lo wb s.1 s.2 -> Tb lo w -> lo <= w.heap.size -> SlR d w (fun g => g < lo) v x -> okWT d x -> (blkT d s x).1.length <= 100000000000 -> Calls Tryz.prog 72 #[.pointer (some ⟨wb, 0, none⟩), v] w (OutWt w lo wb (blkT d s x))
theorem SlR.low {d lo : Nat} {w w' : World} {v : Value} {x : BT d} (h : SlR d w (fun g => g < lo) v x) (hb : Below lo w w') : SlR d w' (fun g => g < lo) v x := SlR.move d (fun g hg _ => hb.block g hg) v x h
section
variable {w : World} {lo wb : Nat} {l : List UInt8} {inl : Bool}
theorem wbranch {d : Nat} (HB : BlkW lo wb d) (h : Wt w lo wb l inl) (ht : Tb lo w) (hlo : lo <= w.heap.size) (x : St) (y1 : Option Addr) (y2 y3 : Nat) (z1 : Option Addr) (z2 z3 : Nat) (x1 x2 : BT d) (hy : SlR d w (fun g => g < lo) (.slice y1 y2 y3) x1) (hz : SlR d w (fun g => g < lo) (.slice z1 z2 z3) x2) (ho1 : okWT d x1) (ho2 : okWT d x2) (hc : okW x.cond) (s' : Ws) (hs' : s' = if x.other = true then blkT d (tkS (blkT d (conT (l, inl) x.cond) x1) [101, 108, 115, 101]) x2 else blkT d (conT (l, inl) x.cond) x1) (hlen : s'.1.length <= 100000000000) : Calls Tryz.prog 131 #[.pointer (some ⟨wb, 0, none⟩), .agg (stA x (.slice y1 y2 y3) (.slice z1 z2 z3))] w (OutWt w lo wb s') := by
 have B : Below w.heap.size w (w.alloc (.cells (stA x (.slice y1 y2 y3) (.slice z1 z2 z3)) 226)) := (Below.refl _ w).alloc (Nat.le_refl _) _
 have b1 : (w.alloc (.cells (stA x (.slice y1 y2 y3) (.slice z1 z2 z3)) 226)).heap[w.heap.size]? = some (.cells (stA x (.slice y1 y2 y3) (.slice z1 z2 z3)) 226) := heap_new rfl
 have hl2 : (blkT d (conT (l, inl) x.cond) x1).1.length <= 100000000000 := by
  rw [hs'] at hlen
  split at hlen
  ·exact Nat.le_trans (Nat.le_trans (tkS_le _ _) (blkT_le _ _ _)) hlen
  ·exact hlen
 have hl1 := Nat.le_trans (blkT_le d _ x1) hl2
 obtain ⟨c1, cf1⟩ := blk_cl b1
 have hA := h.below B
 have hFA : Fw lo wb w _ := Fw.of hlo B
 have htA := ht.mv (B.mono hlo)
 have lwb := h.lt
 have hnb : w.heap.size ≠ wb := by omega
 have hsA : (w.alloc (.cells (stA x (.slice y1 y2 y3) (.slice z1 z2 z3)) 226)).heap.size = w.heap.size + 1 := by simp
 have HC := wcond hA htA (by omega) x.cond hc hl1
 have hyA := hy.low (B.mono hlo)
 have hzA := hz.low (B.mono hlo)
 generalize hwA : w.alloc (.cells (stA x (.slice y1 y2 y3) (.slice z1 z2 z3)) 226) = wA at *
 have hbx : Hid (∀ W : World, Fw lo wb wA W -> W.heap[w.heap.size]? = some (.cells (stA x (.slice y1 y2 y3) (.slice z1 z2 z3)) 226)) := fun W hW => hW.box b1 hnb (by decide)
 have hlen9 : Hid (s'.1.length <= 100000000000) := hlen
 have hs9 : Hid (s' = if x.other = true then blkT d (tkS (blkT d (conT (l, inl) x.cond) x1) [101, 108, 115, 101]) x2 else blkT d (conT (l, inl) x.cond) x1) := hs'
 have hl29 : Hid ((blkT d (conT (l, inl) x.cond) x1).1.length <= 100000000000) := hl2
 clear hlen hs' hl1 hl2 b1 h hA hy hz B
 go_enter Tryz.func131, Tryz.ntmps131
 go_wp2_with (go_at_call 146; refine HC.mono ?_; rintro r w2 ⟨rfl, q2, q3⟩; obtain ⟨c2, cf2⟩ := blk_cl (hbx.out _ q2))
 have s2 := q2.bl.size
 refine (HB w2 (conT (l, inl) x.cond) _ x1 q3 (htA.fw q2) (by omega) (hyA.low q2.bl) ho1 hl29.out).mono ?_
 rintro r w3 ⟨rfl, p2, p3⟩
 have F3 := q2.trans p2
 have s3 := F3.bl.size
 obtain ⟨c3, cf3⟩ := blk_cl (hbx.out _ F3)
 cases hoth : x.other with
 | false =>
  have hq : Hid (Wt w3 lo wb s'.1 s'.2) := by
   have := hs9.out
   rw [hoth, if_neg (by simp)] at this
   rw [this]
   exact p3
  go_wp2_with fail
  exact end0' Tryz.results131 rfl ⟨rfl, hFA.trans F3, hq.out⟩
 | true =>
  have hS : Hid (s' = blkT d (tkS (blkT d (conT (l, inl) x.cond) x1) [101, 108, 115, 101]) x2) := by
   have := hs9.out
   rw [hoth, if_pos rfl] at this
   exact this
  have hl4 := hlen9.out
  rw [hS.out] at hl4
  go_wp2_with fail
  refine (wtok1 p3 [101, 108, 115, 101] (Nat.le_trans (blkT_le _ _ _) hl4) (by omega)).mono ?_
  rintro r w4 ⟨rfl, u2, u3⟩
  have F4 := F3.trans u2
  have s4 := F4.bl.size
  obtain ⟨c4, cf4⟩ := blk_cl (hbx.out _ F4)
  go_wp2_with fail
  refine (HB w4 (tkS (blkT d (conT (l, inl) x.cond) x1) [101, 108, 115, 101]) _ x2 u3 (htA.fw F4) (by omega) (hzA.low F4.bl) ho2 hl4).mono ?_
  rintro r w5 ⟨rfl, v2, v3⟩
  go_wp2_with fail
  exact end0' Tryz.results131 rfl ⟨rfl, (hFA.trans F4).trans v2, by rw [hS.out]; exact v3⟩
end
section
variable {w : World} {lo wb : Nat} {l : List UInt8} {inl : Bool}
theorem wloop {d : Nat} (HB : BlkW lo wb d) (h : Wt w lo wb l inl) (ht : Tb lo w) (hlo : lo <= w.heap.size) (x : St) (y1 : Option Addr) (y2 y3 : Nat) (z1 : Option Addr) (z2 z3 : Nat) (x1 : BT d) (hy : SlR d w (fun g => g < lo) (.slice y1 y2 y3) x1) (ho1 : okWT d x1) (hc : okW x.cond) (hn : x.times.1 <= 100000) (hlen : (blkT d (conT (tksS (l, inl) [itoB x.times.1, [119, 104, 105, 108, 101]]) x.cond) x1).1.length <= 100000000000) : Calls Tryz.prog 132 #[.pointer (some ⟨wb, 0, none⟩), .agg (stA x (.slice y1 y2 y3) (.slice z1 z2 z3))] w (OutWt w lo wb (blkT d (conT (tksS (l, inl) [itoB x.times.1, [119, 104, 105, 108, 101]]) x.cond) x1)) := by
 have B : Below w.heap.size w (w.alloc (.cells (stA x (.slice y1 y2 y3) (.slice z1 z2 z3)) 226)) := (Below.refl _ w).alloc (Nat.le_refl _) _
 have b1 : (w.alloc (.cells (stA x (.slice y1 y2 y3) (.slice z1 z2 z3)) 226)).heap[w.heap.size]? = some (.cells (stA x (.slice y1 y2 y3) (.slice z1 z2 z3)) 226) := heap_new rfl
 have hl1 := Nat.le_trans (blkT_le d _ x1) hlen
 have hl0 := Nat.le_trans (conT_le _ x.cond) hl1
 obtain ⟨c1, cf1⟩ := blk_cl b1
 have hA := h.below B
 have hFA : Fw lo wb w _ := Fw.of hlo B
 have htA := ht.mv (B.mono hlo)
 have lwb := h.lt
 have hnb : w.heap.size ≠ wb := by omega
 have hsA : (w.alloc (.cells (stA x (.slice y1 y2 y3) (.slice z1 z2 z3)) 226)).heap.size = w.heap.size + 1 := by simp
 have HN := wnum htA (by omega) x.times.1 x.times.2 hn
 have hyA := hy.low (B.mono hlo)
 generalize hwA : w.alloc (.cells (stA x (.slice y1 y2 y3) (.slice z1 z2 z3)) 226) = wA at *
 have hbx : Hid (∀ W : World, Fw lo wb wA W -> W.heap[w.heap.size]? = some (.cells (stA x (.slice y1 y2 y3) (.slice z1 z2 z3)) 226)) := fun W hW => hW.box b1 hnb (by decide)
 have hl09 : Hid ((tksS (l, inl) [itoB x.times.1, [119, 104, 105, 108, 101]]).1.length <= 100000000000) := hl0
 have hl19 : Hid ((conT (tksS (l, inl) [itoB x.times.1, [119, 104, 105, 108, 101]]) x.cond).1.length <= 100000000000) := hl1
 have hlen9 : Hid ((blkT d (conT (tksS (l, inl) [itoB x.times.1, [119, 104, 105, 108, 101]]) x.cond) x1).1.length <= 100000000000) := hlen
 clear hlen hl1 hl0 b1 h hy B
 go_enter Tryz.func132, Tryz.ntmps132
 go_wp2_with (go_at_call 99; refine HN.mono ?_; rintro r w1 ⟨rfl, q1⟩)
 have s1 := q1.size
 have F1 : Fw lo wb wA w1 := Fw.of (by omega) q1
 refine (wtok2 (hA.below q1) (itoB x.times.1) [119, 104, 105, 108, 101] hl09.out (by omega)).mono ?_
 rintro r w2 ⟨rfl, q2, q3⟩
 have F2 := F1.trans q2
 have s2 := F2.bl.size
 obtain ⟨c2, cf2⟩ := blk_cl (hbx.out _ F2)
 go_wp2_with fail
 refine (wcond q3 (htA.fw F2) (by omega) x.cond hc hl19.out).mono ?_
 rintro r w3 ⟨rfl, p2, p3⟩
 have F3 := F2.trans p2
 have s3 := F3.bl.size
 obtain ⟨c3, cf3⟩ := blk_cl (hbx.out _ F3)
 go_wp2_with fail
 refine (HB w3 _ _ x1 p3 (htA.fw F3) (by omega) (hyA.low F3.bl) ho1 hlen9.out).mono ?_
 rintro r w4 ⟨rfl, u2, u3⟩
 go_wp2_with fail
 exact end0' Tryz.results132 rfl ⟨rfl, (hFA.trans F3).trans u2, u3⟩
end
section
variable {w : World} {lo wb : Nat} {l : List UInt8} {inl : Bool}
theorem wstm_if {d : Nat} (HB : BlkW lo wb d) (h : Wt w lo wb l inl) (ht : Tb lo w) (hlo : lo <= w.heap.size) (x : St) (hw : x.word = [105, 102]) (y1 : Option Addr) (y2 y3 : Nat) (z1 : Option Addr) (z2 z3 : Nat) (x1 x2 : BT d) (hy : SlR d w (fun g => g < lo) (.slice y1 y2 y3) x1) (hz : SlR d w (fun g => g < lo) (.slice z1 z2 z3) x2) (ho1 : okWT d x1) (ho2 : okWT d x2) (hc : okW x.cond) (s' : Ws) (hs' : s' = if x.other = true then blkT d (tkS (blkT d (conT (tkS (l, inl) x.word) x.cond) x1) [101, 108, 115, 101]) x2 else blkT d (conT (tkS (l, inl) x.word) x.cond) x1) (hlen : s'.1.length <= 100000000000) (hlt : (tkS (l, inl) x.word).1.length <= s'.1.length) : Calls Tryz.prog 102 #[.pointer (some ⟨wb, 0, none⟩), .agg (stA x (.slice y1 y2 y3) (.slice z1 z2 z3))] w (OutWt w lo wb s') := by
 have B : Below w.heap.size w (w.alloc (.cells (stA x (.slice y1 y2 y3) (.slice z1 z2 z3)) 226)) := (Below.refl _ w).alloc (Nat.le_refl _) _
 have b1 : (w.alloc (.cells (stA x (.slice y1 y2 y3) (.slice z1 z2 z3)) 226)).heap[w.heap.size]? = some (.cells (stA x (.slice y1 y2 y3) (.slice z1 z2 z3)) 226) := heap_new rfl
 obtain ⟨c1, cf1⟩ := blk_cl b1
 have hA := h.below B
 have hFA : Fw lo wb w _ := Fw.of hlo B
 have htA := ht.mv (B.mono hlo)
 have lwb := h.lt
 have hnb : w.heap.size ≠ wb := by omega
 have hsA : (w.alloc (.cells (stA x (.slice y1 y2 y3) (.slice z1 z2 z3)) 226)).heap.size = w.heap.size + 1 := by simp
 have HT := wtok1 hA x.word (Nat.le_trans hlt hlen) (by omega)
 rw [hsA] at HT
 have hyA := hy.low (B.mono hlo)
 have hzA := hz.low (B.mono hlo)
 generalize hwA : w.alloc (.cells (stA x (.slice y1 y2 y3) (.slice z1 z2 z3)) 226) = wA at *
 have hbx : Hid (∀ W : World, Fw lo wb wA W -> W.heap[w.heap.size]? = some (.cells (stA x (.slice y1 y2 y3) (.slice z1 z2 z3)) 226)) := fun W hW => hW.box b1 hnb (by decide)
 have hlen9 : Hid (s'.1.length <= 100000000000) := hlen
 have hs9 : Hid (s' = if x.other = true then blkT d (tkS (blkT d (conT (tkS (l, inl) x.word) x.cond) x1) [101, 108, 115, 101]) x2 else blkT d (conT (tkS (l, inl) x.word) x.cond) x1) := hs'
 have t1 : (x.word == [105, 102]) = true := by simp [hw]
 clear hlen hs' hlt b1 h hA hy hz B hw
 go_enter Tryz.func102, Tryz.ntmps102
 go_upto_region 5 with (go_at_call 71; refine HT.mono ?_; rintro r w2 ⟨rfl, q2, q3⟩; have hb2 := hbx.out _ q2; have c20 := (blk_cl hb2).1 0; have hb29 : Hid (w2.heap[w.heap.size]? = some (.cells (stA x (.slice y1 y2 y3) (.slice z1 z2 z3)) 226)) := hb2; clear hb2)
 have s2 := q2.bl.size
 have HX := wbranch HB q3 (htA.fw q2) (by omega) x y1 y2 y3 z1 z2 z3 x1 x2 (hyA.low q2.bl) (hzA.low q2.bl) ho1 ho2 hc s' hs9.out hlen9.out
 refine wp_region_lit ?_
 iterate 3 go_step
 refine wpList_load_row rfl 226 (.tmp 3) rfl w.heap.size rfl 226 _ _ _ hb29.out Tryz.underlying226 rfl (by kernel_rfl) ?_
 go_wp2_with fail
 refine HX.mono ?_
 rintro r w3 ⟨rfl, p2, p3⟩
 go_wp2_with fail
 exact end0' Tryz.results102 rfl ⟨rfl, (hFA.trans q2).trans p2, p3⟩
end
section
variable {w : World} {lo wb : Nat} {l : List UInt8} {inl : Bool}
theorem wstm_rep {d : Nat} (HB : BlkW lo wb d) (h : Wt w lo wb l inl) (ht : Tb lo w) (hlo : lo <= w.heap.size) (x : St) (hw : x.word = [114, 101, 112, 101, 97, 116]) (y1 : Option Addr) (y2 y3 : Nat) (z1 : Option Addr) (z2 z3 : Nat) (x1 x2 : BT d) (hy : SlR d w (fun g => g < lo) (.slice y1 y2 y3) x1) (hz : SlR d w (fun g => g < lo) (.slice z1 z2 z3) x2) (ho1 : okWT d x1) (_ho2 : okWT d x2) (hc : okW x.cond) (hn : x.times.1 <= 100000) (s' : Ws) (hs' : s' = blkT d (conT (tksS (tkS (l, inl) x.word) [itoB x.times.1, [119, 104, 105, 108, 101]]) x.cond) x1) (hlen : s'.1.length <= 100000000000) (hlt : (tkS (l, inl) x.word).1.length <= s'.1.length) : Calls Tryz.prog 102 #[.pointer (some ⟨wb, 0, none⟩), .agg (stA x (.slice y1 y2 y3) (.slice z1 z2 z3))] w (OutWt w lo wb s') := by
 have B : Below w.heap.size w (w.alloc (.cells (stA x (.slice y1 y2 y3) (.slice z1 z2 z3)) 226)) := (Below.refl _ w).alloc (Nat.le_refl _) _
 have b1 : (w.alloc (.cells (stA x (.slice y1 y2 y3) (.slice z1 z2 z3)) 226)).heap[w.heap.size]? = some (.cells (stA x (.slice y1 y2 y3) (.slice z1 z2 z3)) 226) := heap_new rfl
 obtain ⟨c1, cf1⟩ := blk_cl b1
 have hA := h.below B
 have hFA : Fw lo wb w _ := Fw.of hlo B
 have htA := ht.mv (B.mono hlo)
 have lwb := h.lt
 have hnb : w.heap.size ≠ wb := by omega
 have hsA : (w.alloc (.cells (stA x (.slice y1 y2 y3) (.slice z1 z2 z3)) 226)).heap.size = w.heap.size + 1 := by simp
 have HT := wtok1 hA x.word (Nat.le_trans hlt hlen) (by omega)
 rw [hsA] at HT
 have hyA := hy.low (B.mono hlo)
 have hzA := hz.low (B.mono hlo)
 generalize hwA : w.alloc (.cells (stA x (.slice y1 y2 y3) (.slice z1 z2 z3)) 226) = wA at *
 have hbx : Hid (∀ W : World, Fw lo wb wA W -> W.heap[w.heap.size]? = some (.cells (stA x (.slice y1 y2 y3) (.slice z1 z2 z3)) 226)) := fun W hW => hW.box b1 hnb (by decide)
 have hlen9 : Hid (s'.1.length <= 100000000000) := hlen
 have hs9 : Hid (s' = blkT d (conT (tksS (tkS (l, inl) x.word) [itoB x.times.1, [119, 104, 105, 108, 101]]) x.cond) x1) := hs'
 have t1 : (x.word == [114, 101, 112, 101, 97, 116]) = true := by simp [hw]
 have t2 : (x.word == [105, 102]) = false := by rw [hw]; decide
 clear hlen hs' hlt b1 h hA hy hz B hw
 go_enter Tryz.func102, Tryz.ntmps102
 go_upto_region 7 with (go_at_call 71; refine HT.mono ?_; rintro r w2 ⟨rfl, q2, q3⟩; have hb2 := hbx.out _ q2; have c20 := (blk_cl hb2).1 0; have hb29 : Hid (w2.heap[w.heap.size]? = some (.cells (stA x (.slice y1 y2 y3) (.slice z1 z2 z3)) 226)) := hb2; clear hb2)
 have s2 := q2.bl.size
 have HX := wloop HB q3 (htA.fw q2) (by omega) x y1 y2 y3 z1 z2 z3 x1 (hyA.low q2.bl) ho1 hc hn (by have := hlen9.out; rw [hs9.out] at this; exact this)
 have e9 : blkT d (conT (tksS ((tkS (l, inl) x.word).1, (tkS (l, inl) x.word).2) [itoB x.times.1, [119, 104, 105, 108, 101]]) x.cond) x1 = s' := hs9.out.symm
 rw [e9] at HX
 refine wp_region_lit ?_
 iterate 3 go_step
 refine wpList_load_row rfl 226 (.tmp 3) rfl w.heap.size rfl 226 _ _ _ hb29.out Tryz.underlying226 rfl (by kernel_rfl) ?_
 go_wp2_with fail
 refine HX.mono ?_
 rintro r w3 ⟨rfl, p2, p3⟩
 go_wp2_with fail
 exact end0' Tryz.results102 rfl ⟨rfl, (hFA.trans q2).trans p2, p3⟩
end
section
variable {w : World} {lo wb : Nat} {l : List UInt8} {inl : Bool}
theorem wstm_pl {d : Nat} (_HB : BlkW lo wb d) (h : Wt w lo wb l inl) (ht : Tb lo w) (hlo : lo <= w.heap.size) (x : St) (hw1 : x.word ≠ [105, 102]) (hw2 : x.word ≠ [114, 101, 112, 101, 97, 116]) (y1 : Option Addr) (y2 y3 : Nat) (z1 : Option Addr) (z2 z3 : Nat) (x1 x2 : BT d) (hy : SlR d w (fun g => g < lo) (.slice y1 y2 y3) x1) (hz : SlR d w (fun g => g < lo) (.slice z1 z2 z3) x2) (_ho1 : okWT d x1) (_ho2 : okWT d x2)  (s' : Ws) (hs' : s' = plnS (tkS (l, inl) x.word) x) (hlen : s'.1.length <= 100000000000) (hlt : (tkS (l, inl) x.word).1.length <= s'.1.length) : Calls Tryz.prog 102 #[.pointer (some ⟨wb, 0, none⟩), .agg (stA x (.slice y1 y2 y3) (.slice z1 z2 z3))] w (OutWt w lo wb s') := by
 have B : Below w.heap.size w (w.alloc (.cells (stA x (.slice y1 y2 y3) (.slice z1 z2 z3)) 226)) := (Below.refl _ w).alloc (Nat.le_refl _) _
 have b1 : (w.alloc (.cells (stA x (.slice y1 y2 y3) (.slice z1 z2 z3)) 226)).heap[w.heap.size]? = some (.cells (stA x (.slice y1 y2 y3) (.slice z1 z2 z3)) 226) := heap_new rfl
 obtain ⟨c1, cf1⟩ := blk_cl b1
 have hA := h.below B
 have hFA : Fw lo wb w _ := Fw.of hlo B
 have htA := ht.mv (B.mono hlo)
 have lwb := h.lt
 have hnb : w.heap.size ≠ wb := by omega
 have hsA : (w.alloc (.cells (stA x (.slice y1 y2 y3) (.slice z1 z2 z3)) 226)).heap.size = w.heap.size + 1 := by simp
 have HT := wtok1 hA x.word (Nat.le_trans hlt hlen) (by omega)
 rw [hsA] at HT
 have hyA := hy.low (B.mono hlo)
 have hzA := hz.low (B.mono hlo)
 generalize hwA : w.alloc (.cells (stA x (.slice y1 y2 y3) (.slice z1 z2 z3)) 226) = wA at *
 have hbx : Hid (∀ W : World, Fw lo wb wA W -> W.heap[w.heap.size]? = some (.cells (stA x (.slice y1 y2 y3) (.slice z1 z2 z3)) 226)) := fun W hW => hW.box b1 hnb (by decide)
 have hlen9 : Hid (s'.1.length <= 100000000000) := hlen
 have hs9 : Hid (s' = plnS (tkS (l, inl) x.word) x) := hs'
 have t1 : (x.word == [105, 102]) = false := by simpa using hw1
 have t2 : (x.word == [114, 101, 112, 101, 97, 116]) = false := by simpa using hw2
 clear hlen hs' hlt b1 h hA hy hz B hw1 hw2
 go_enter Tryz.func102, Tryz.ntmps102
 go_upto_region 3 with (go_at_call 71; refine HT.mono ?_; rintro r w2 ⟨rfl, q2, q3⟩; have hb2 := hbx.out _ q2; have c20 := (blk_cl hb2).1 0; have hb29 : Hid (w2.heap[w.heap.size]? = some (.cells (stA x (.slice y1 y2 y3) (.slice z1 z2 z3)) 226)) := hb2; clear hb2)
 have s2 := q2.bl.size
 have HX := wplain q3 (by omega) x y1 y2 y3 z1 z2 z3 (by have := hlen9.out; rw [hs9.out] at this; exact this)
 have e9 : plnS ((tkS (l, inl) x.word).1, (tkS (l, inl) x.word).2) x = s' := hs9.out.symm
 rw [e9] at HX
 refine wp_region_lit ?_
 iterate 3 go_step
 refine wpList_load_row rfl 226 (.tmp 3) rfl w.heap.size rfl 226 _ _ _ hb29.out Tryz.underlying226 rfl (by kernel_rfl) ?_
 go_wp2_with fail
 refine HX.mono ?_
 rintro r w3 ⟨rfl, p2, p3⟩
 go_wp2_with fail
 exact end0' Tryz.results102 rfl ⟨rfl, (hFA.trans q2).trans p2, p3⟩
end
section
variable {w : World} {lo wb : Nat}
theorem wstm {d : Nat} (HB : BlkW lo wb d) (s : Ws) (h : Wt w lo wb s.1 s.2) (ht : Tb lo w) (hlo : lo <= w.heap.size) (x : St) (y1 : Option Addr) (y2 y3 : Nat) (z1 : Option Addr) (z2 z3 : Nat) (x1 x2 : BT d) (hy : SlR d w (fun g => g < lo) (.slice y1 y2 y3) x1) (hz : SlR d w (fun g => g < lo) (.slice z1 z2 z3) x2) (ho : okWS (okWT d) (x, x1, x2)) (hlen : (stmT (blkT d) s (x, x1, x2)).1.length <= 100000000000) : Calls Tryz.prog 102 #[.pointer (some ⟨wb, 0, none⟩), .agg (stA x (.slice y1 y2 y3) (.slice z1 z2 z3))] w (OutWt w lo wb (stmT (blkT d) s (x, x1, x2))) := by
 obtain ⟨l, inl⟩ := s
 obtain ⟨o1, o2, o3, o4⟩ := ho
 simp only at o1 o2 o3 o4 h
 by_cases e1 : x.word = [105, 102]
 ·have hs : stmT (blkT d) (l, inl) (x, x1, x2) = if x.other = true then blkT d (tkS (blkT d (conT (tkS (l, inl) x.word) x.cond) x1) [101, 108, 115, 101]) x2 else blkT d (conT (tkS (l, inl) x.word) x.cond) x1 := if_pos e1
  refine wstm_if HB h ht hlo x e1 y1 y2 y3 z1 z2 z3 x1 x2 hy hz o3 o4 (o1 (Or.inl e1)) _ hs hlen ?_
  rw [hs]
  split
  ·exact Nat.le_trans (conT_le _ _) (Nat.le_trans (blkT_le _ _ _) (Nat.le_trans (tkS_le _ _) (blkT_le _ _ _)))
  ·exact Nat.le_trans (conT_le _ _) (blkT_le _ _ _)
 ·by_cases e2 : x.word = [114, 101, 112, 101, 97, 116]
  ·have hs : stmT (blkT d) (l, inl) (x, x1, x2) = blkT d (conT (tksS (tkS (l, inl) x.word) [itoB x.times.1, [119, 104, 105, 108, 101]]) x.cond) x1 := (if_neg e1).trans (if_pos e2)
   refine wstm_rep HB h ht hlo x e2 y1 y2 y3 z1 z2 z3 x1 x2 hy hz o3 o4 (o1 (Or.inr e2)) o2 _ hs hlen ?_
   rw [hs]
   exact Nat.le_trans (tksS_le _ _) (Nat.le_trans (conT_le _ _) (blkT_le _ _ _))
  ·have hs : stmT (blkT d) (l, inl) (x, x1, x2) = plnS (tkS (l, inl) x.word) x := (if_neg e1).trans (if_neg e2)
   refine wstm_pl HB h ht hlo x e1 e2 y1 y2 y3 z1 z2 z3 x1 x2 hy hz o3 o4 _ hs hlen ?_
   rw [hs]
   exact plnS_le _ _
theorem wblk_0 : BlkW lo wb 0 := by
 intro w s v x h ht hlo hv _ hlen
 have hv : v = nilV := hv
 subst hv
 obtain ⟨l, inl⟩ := s
 have hlen : (tkS (tkS (l, inl) [123]) [125]).1.length <= 100000000000 := hlen
 show Calls Tryz.prog 72 #[.pointer (some ⟨wb, 0, none⟩), nilV] w (OutWt w lo wb (tkS (tkS (l, inl) [123]) [125]))
 have HT := wtok1 h [123] (Nat.le_trans (tkS_le _ _) hlen) hlo
 have hlen9 : Hid ((tkS (tkS (l, inl) [123]) [125]).1.length <= 100000000000) := hlen
 clear h hlen
 go_enter Tryz.func72, Tryz.ntmps72
 go_wp2_with (go_at_call 71; refine HT.mono ?_; rintro r w1 ⟨rfl, q1, q2⟩)
 go_loopg [11] 1 (fun f v wr => v = .int .i64 0 /\ wr = w1)
 case atStart => exact ⟨rfl, rfl⟩
 case round =>
  obtain ⟨rfl, rfl⟩ := hrel
  go_wp2_with fail
  refine (wtok1 q2 [125] hlen9.out (by have := q1.bl.size; omega)).mono ?_
  rintro r w2 ⟨rfl, q3, q4⟩
  go_wp2_with fail
  exact end0' Tryz.results72 rfl ⟨rfl, q1.trans q3, q4⟩
theorem RelRows_get {β : Type} {P : Value -> β -> Prop} : ∀ {rs : List (St × Value × Value)} {xs : List (St × β × β)} {k : Nat} {x : St × β × β}, RelRows P rs xs -> xs[k]? = some x -> ∃ r, rs[k]? = some r /\ r.1 = x.1 /\ P r.2.1 x.2.1 /\ P r.2.2 x.2.2
 | [], [], k, x, _, h => by simp at h
 | r :: rs, y :: xs, 0, x, h, e => by simp at e; subst e; exact ⟨r, rfl, h.1, h.2.1, h.2.2.1⟩
 | r :: rs, y :: xs, k + 1, x, h, e => by
  obtain ⟨r2, h2⟩ := RelRows_get (k := k) h.2.2.2 (by simpa using e)
  exact ⟨r2, by simpa using h2⟩
 | [], y :: xs, k, x, h, _ => by cases h
 | r :: rs, [], k, x, h, _ => by cases h
theorem lstT_drop {α : Type} (f : Ws -> α -> Ws) {xs : List α} {k : Nat} {x : α} (h : xs[k]? = some x) (s : Ws) : lstT f s (xs.drop k) = lstT f (f s x) (xs.drop (k + 1)) := by
 have hk := (List.getElem?_eq_some_iff.1 h).1
 rw [List.drop_eq_getElem_cons hk, show xs[k] = x from Option.some.inj ((List.getElem?_eq_getElem hk).symm.trans h)]
 rfl
theorem wblk_s {d : Nat} (HB : BlkW lo wb d) : BlkW lo wb (d + 1) := by
 intro w s v x h ht hlo hv hok0 hlen0
 obtain ⟨rows, hrel0, hown, hN⟩ := hv
 obtain ⟨xs, hxs⟩ : ∃ xs : List (St × BT d × BT d), xs = x := ⟨x, rfl⟩
 have hok : OkL (okWS (okWT d)) x := hok0
 have hlen : (tkS (lstT (stmT (blkT d)) (tkS s [123]) x) [125]).1.length <= 100000000000 := hlen0
 show Calls Tryz.prog 72 #[.pointer (some ⟨wb, 0, none⟩), v] w (OutWt w lo wb (tkS (lstT (stmT (blkT d)) (tkS s [123]) x) [125]))
 rw [<- hxs] at hrel0 hok hlen ⊢
 clear hok0 hlen0 hxs
 clear x
 have hlenr : rows.length = xs.length := RelRows.len _ _ hrel0
 obtain ⟨va, vc, rfl⟩ := own_fm hown
 have hmax : rows.length <= 9223372036854775807 := by
  rcases hown.2 with ⟨h1, h2⟩ | ⟨g, cap, cur, h1, _, _, h2, h3, _⟩
  ·omega
  ·have : maxLen = 9223372036854775807 := rfl
   omega
 obtain ⟨l, inl⟩ := s
 have hl1 := Nat.le_trans (lstT_le (fun s x => stmT_le (blkT_le d) s x) xs (tkS (l, inl) [123])) (Nat.le_trans (tkS_le _ [125]) hlen)
 have HT := wtok1 h [123] hl1 hlo
 have hlen9 : Hid ((tkS (lstT (stmT (blkT d)) (tkS (l, inl) [123]) xs) [125]).1.length <= 100000000000) := hlen
 have hst : Hid (∀ (W : World) (sk : Ws) (k : Nat) (r : St × BT d × BT d) (y1 : Option Addr) (y2 y3 : Nat) (z1 : Option Addr) (z2 z3 : Nat), Fw lo wb w W -> Wt W lo wb sk.1 sk.2 -> xs[k]? = some r -> rows[k]? = some (r.1, .slice y1 y2 y3, .slice z1 z2 z3) -> (stmT (blkT d) sk r).1.length <= 100000000000 -> Calls Tryz.prog 102 #[.pointer (some ⟨wb, 0, none⟩), .agg (stA r.1 (.slice y1 y2 y3) (.slice z1 z2 z3))] W (OutWt W lo wb (stmT (blkT d) sk r))) := fun W sk k r y1 y2 y3 z1 z2 z3 hF hW hk hr hl => by
  obtain ⟨r2, h1, h2, h3, h4⟩ := RelRows_get hrel0 hk
  rw [hr] at h1
  cases h1
  exact wstm HB sk hW (ht.fw hF) (by have := hF.bl.size; omega) r.1 y1 y2 y3 z1 z2 z3 r.2.1 r.2.2 (SlR.low h3 hF.bl) (SlR.low h4 hF.bl) (OkL_get hok hk) hl
 have hrow : Hid (∀ (W : World) (k : Nat), Fw lo wb w W -> k < xs.length -> ∃ g r y1 y2 y3 z1 z2 z3, va = some ⟨g, 0, none⟩ /\ xs[k]? = some r /\ rows[k]? = some (r.1, .slice y1 y2 y3, .slice z1 z2 z3) /\ W.rangeAt g (k * 25) (stA r.1 (.slice y1 y2 y3) (.slice z1 z2 z3)).toList) := fun W k hF hk => by
  have hkx : xs[k]? = some xs[k] := List.getElem?_eq_getElem hk
  obtain ⟨r2, h1, h2, h3, h4⟩ := RelRows_get hrel0 hkx
  obtain ⟨g, c, e2, l2, llo, hc2⟩ := own_at0 hown (by omega)
  cases e2
  obtain ⟨st, y, z⟩ := r2
  simp only at h2 h3 h4
  obtain ⟨y1, y2, y3, rfl⟩ := SlR.form d _ _ h3
  obtain ⟨z1, z2, z3, rfl⟩ := SlR.form d _ _ h4
  refine ⟨g, xs[k], y1, y2, y3, z1, z2, z3, rfl, hkx, by rw [h1, <- h2], fun j u hu => ?_⟩
  have hj : j < 25 := by have := (List.getElem?_eq_some_iff.1 hu).1; simpa using this
  have hg : g < lo := hN g rfl
  have hown1 : W.ownsRow 0 226 25 (.slice (some ⟨g, 0, none⟩) rows.length vc) rows.length (flatR rows) := ownsRow_move hown (fun q hq hl => by simp [Value.ownBlock] at hq; subst hq; exact hF.bl.block _ hg)
  rw [hown1.cellAt _ (by omega)]
  rw [<- h2] at hu
  exact flatR_at rows k _ h1 j u hu
 rw [hlenr]
 rw [hlenr] at hmax
 clear hlen hl1 h hok hrel0 hown hN
 go_enter Tryz.func72, Tryz.ntmps72
 go_wp2_with (go_at_call 71; refine HT.mono ?_; rintro r w1 ⟨rfl, q1, q2⟩)
 go_loopg [11] xs.length (fun f v wr => ∃ (k : Nat) (sk : Ws), v = .int .i64 k /\ k + f = xs.length /\ Hid (Fw lo wb w wr /\ Wt wr lo wb sk.1 sk.2 /\ lstT (stmT (blkT d)) sk (xs.drop k) = lstT (stmT (blkT d)) (tkS (l, inl) [123]) xs))
 case atStart => exact ⟨0, tkS (l, inl) [123], rfl, by omega, q1, q2, rfl⟩
 case round =>
  obtain ⟨k, sk, rfl, hk, HJ⟩ := hrel
  obtain ⟨J1, J2, J3⟩ := HJ.out
  have hsr := J1.bl.size
  by_cases hkl : k < xs.length
  ·have t1 : decide ((k : Int) < (xs.length : Int)) = true := by simp; omega
   obtain ⟨g, r, y1, y2, y3, z1, z2, z3, rfl, hr, hrw, hrg⟩ := hrow.out wr k J1 hkl
   have hix : ∀ W : World, (Instr.indexAt 159 (.slice (some ⟨g, 0, none⟩) xs.length vc) (.int .i64 k)).run Tryz.prog W = .ok (.pointer (some ⟨g, k * 25, none⟩)) W := by
    intro W
    rw [run_indexAt_slice (h := by kernel_rfl), if_pos (by omega)]
    have : (sizeOf (Tryz.prog.elem 159)).run Tryz.prog W = .ok 25 W := by kernel_rfl
    rw [this]
    simp [Result.andThen, Addr.add]
    omega
   have e9 : Hid (lstT (stmT (blkT d)) (stmT (blkT d) sk r) (xs.drop (k + 1)) = lstT (stmT (blkT d)) (tkS (l, inl) [123]) xs) := (lstT_drop _ hr sk).symm.trans J3
   have hl4 : Hid ((stmT (blkT d) sk r).1.length <= 100000000000) := by
    have h1 := hlen9.out
    rw [<- e9.out] at h1
    exact Nat.le_trans (Nat.le_trans (lstT_le (fun s x => stmT_le (blkT_le d) s x) _ _) (tkS_le _ _)) h1
   have hr9 : Hid (xs[k]? = some r) := hr
   have hrw9 : Hid (rows[k]? = some (r.1, .slice y1 y2 y3, .slice z1 z2 z3)) := hrw
   clear hr hrw HJ J3
   go_upto_region 3 with fail
   refine wp_region_lit ?_
   iterate 3 go_step
   refine wpList_load_mid rfl 226 (.tmp 13) rfl g (k * 25) rfl (stA r.1 (.slice y1 y2 y3) (.slice z1 z2 z3)).toList _ hrg Tryz.underlying226 rfl (by kernel_rfl) ?_
   iterate 3 go_step
   refine store_in rfl 226 (.tmp 5) (.tmp 14) rfl (stA r.1 (.slice y1 y2 y3) (.slice z1 z2 z3)) rfl rfl (by kernel_rfl) rfl (by simp [Value.oneCell']) ?_
   intro w2 B2 hb2 hz2
   have F2 : Fw lo wb w w2 := J1.trans (Fw.of (by omega) B2)
   have HX := hst.out w2 sk k r y1 y2 y3 z1 z2 z3 F2 (J2.below B2) hr9.out hrw9.out hl4.out
   go_upto_region 4 with fail
   refine wp_region_lit ?_
   iterate 3 go_step
   refine wpList_load_row rfl 226 (.tmp 5) rfl wr.heap.size rfl 226 _ _ _ hb2 Tryz.underlying226 rfl (by kernel_rfl) ?_
   go_wp2_with fail
   refine HX.mono ?_
   rintro e w3 ⟨rfl, q3, q4⟩
   go_wp2_with fail
   go_roundg (gk - 1)
   case measure => omega
   case rel => exact ⟨k + 1, stmT (blkT d) sk r, by simp, by omega, F2.trans q3, q4, e9.out⟩
  ·have t1 : decide ((k : Int) < (xs.length : Int)) = false := by simp; omega
   have hsk : Hid (sk = lstT (stmT (blkT d)) (tkS (l, inl) [123]) xs) := by
    rw [List.drop_eq_nil_of_le (by omega)] at J3
    exact J3
   clear J3 HJ
   go_wp2_with fail
   refine (wtok1 J2 [125] (by have := hlen9.out; rw [<- hsk.out] at this; exact this) (by omega)).mono ?_
   rintro r w2 ⟨rfl, q3, q4⟩
   go_wp2_with fail
   exact end0' Tryz.results72 rfl ⟨rfl, J1.trans q3, by rw [<- hsk.out]; exact q4⟩
theorem wblk : ∀ d, BlkW lo wb d
 | 0 => wblk_0
 | d + 1 => wblk_s (wblk d)
end
end Go.Proofs.YtfddoieakfpagabGreatDoor
