import Derived.Test.YtfddoieakfpagaaGreatDoorTXa
namespace Go.Proofs.YtfddoieakfpagaaGreatDoor
set_option maxHeartbeats 4000000
set_option maxRecDepth 20000
open Go.RowKit
def kK {β : Type} (blk : Ws -> β -> Ws) (s : Ws) (r : St × β × β) : Ws :=
 if r.1.word = [105, 102] then (if r.1.other = true then blk (dG (blk (dF (dG s r.1.word) r.1.cond) r.2.1) [101, 108, 115, 101]) r.2.2 else blk (dF (dG s r.1.word) r.1.cond) r.2.1)
 else if r.1.word = [114, 101, 112, 101, 97, 116] then blk (dF (fB (dG s r.1.word) [jM r.1.times.1, [119, 104, 105, 108, 101]]) r.1.cond) r.2.1
 else rC (dG s r.1.word) r.1
def kP {α : Type} (f : Ws -> α -> Ws) (s : Ws) (xs : List α) : Ws := xs.foldl f s
def dR : (d : Nat) -> Ws -> BT d -> Ws
 | 0, s, _ => dG (dG s [123]) [125]
 | d + 1, s, xs => dG (kP (kK (dR d)) (dG s [123]) xs) [125]
theorem Z5 {β : Type} {blk : Ws -> β -> Ws} (hb : ∀ s x, s.1.length <= (blk s x).1.length) (s : Ws) (r : St × β × β) : s.1.length <= (kK blk s r).1.length := by
 unfold kK
 split
 ·split
  ·exact Nat.le_trans (dP _ _) (Nat.le_trans (qI _ _) (Nat.le_trans (hb _ _) (Nat.le_trans (dP _ _) (hb _ _))))
  ·exact Nat.le_trans (dP _ _) (Nat.le_trans (qI _ _) (hb _ _))
 split
 ·exact Nat.le_trans (dP _ _) (Nat.le_trans (kJ _ _) (Nat.le_trans (qI _ _) (hb _ _)))
 ·exact Nat.le_trans (dP _ _) (aF7 _ _)
theorem mM {α : Type} {f : Ws -> α -> Ws} (hf : ∀ s x, s.1.length <= (f s x).1.length) : ∀ (xs : List α) (s : Ws), s.1.length <= (kP f s xs).1.length
 | [], _s => zR
 | x :: xs, s => Nat.le_trans (hf s x) (mM hf xs (f s x))
theorem jF : ∀ (d : Nat) (s : Ws) (x : BT d), s.1.length <= (dR d s x).1.length
 | 0, _s, _ => Nat.le_trans (dP _ _) (dP _ _)
 | d + 1, _s, xs => Nat.le_trans (dP _ _) (Nat.le_trans (mM (fun s x => Z5 (jF d) s x) xs _) (dP _ _))
def aNf {β : Type} (P : β -> Prop) (r : St × β × β) : Prop := ((r.1.word = [105, 102] \/ r.1.word = [114, 101, 112, 101, 97, 116]) -> okW r.1.cond) /\ r.1.times.1 <= 100000 /\ P r.2.1 /\ P r.2.2
def pX : (d : Nat) -> BT d -> Prop
 | 0, _ => True
 | d + 1, xs => L9 (aNf (pX d)) xs
def Q5 (lo wb d : Nat) : Prop := ∀ (w : World) (s : Ws) (v : Value) (x : BT d), Wt w lo wb s.1 s.2 -> Tb lo w -> lo <= w.heap.size -> aY d w (fun g => g < lo) v x -> pX d x -> (dR d s x).1.length <= 100000000000 -> Calls Tryz.prog 113 #[.pointer (some ⟨wb, 0, none⟩), v] w (fJ w lo wb (dR d s x))
theorem aY.low {d lo : Nat} {w w' : World} {v : Value} {x : BT d} (h : aY d w (fun g => g < lo) v x) (hb : Below lo w w') : aY d w' (fun g => g < lo) v x := aY.move d (fun g hg _ => hb.block g hg) v x h
section
variable {w : World} {lo wb : Nat} {l : List UInt8} {inl : Bool}
theorem aMh {d : Nat} (HB : Q5 lo wb d) (h : Wt w lo wb l inl) (ht : Tb lo w) (hlo : lo <= w.heap.size) (x : St) (y1 : Option Addr) (y2 y3 : Nat) (z1 : Option Addr) (z2 z3 : Nat) (x1 x2 : BT d) (hy : aY d w (fun g => g < lo) (.slice y1 y2 y3) x1) (hz : aY d w (fun g => g < lo) (.slice z1 z2 z3) x2) (ho1 : pX d x1) (ho2 : pX d x2) (hc : okW x.cond) (s' : Ws) (hs' : s' = if x.other = true then dR d (dG (dR d (dF (l, inl) x.cond) x1) [101, 108, 115, 101]) x2 else dR d (dF (l, inl) x.cond) x1) (hlen : s'.1.length <= 100000000000) : Calls Tryz.prog 183 #[.pointer (some ⟨wb, 0, none⟩), .agg (stA x (.slice y1 y2 y3) (.slice z1 z2 z3))] w (fJ w lo wb s') := by
 have B : Below w.heap.size w (w.alloc (.cells (stA x (.slice y1 y2 y3) (.slice z1 z2 z3)) 282)) := (Below.refl _ w).alloc zR _
 have b1 : (w.alloc (.cells (stA x (.slice y1 y2 y3) (.slice z1 z2 z3)) 282)).heap[w.heap.size]? = some (.cells (stA x (.slice y1 y2 y3) (.slice z1 z2 z3)) 282) := aC rfl
 have hl2 : (dR d (dF (l, inl) x.cond) x1).1.length <= 100000000000 := by
  rw [hs'] at hlen
  split at hlen
  ·exact Nat.le_trans (Nat.le_trans (dP _ _) (jF _ _ _)) hlen
  ·exact hlen
 have hl1 := Nat.le_trans (jF d _ x1) hl2
 obtain ⟨c1, cf1⟩ := aA b1
 have hA := h.below B
 have sZ : Fw lo wb w _ := Fw.of hlo B
 have htA := ht.mv (B.mono hlo)
 have lwb := h.lt
 have hnb : w.heap.size ≠ wb := by omega
 have hsA : (w.alloc (.cells (stA x (.slice y1 y2 y3) (.slice z1 z2 z3)) 282)).heap.size = w.heap.size + 1 := by simp
 have HC := aOr hA htA (by omega) x.cond hc hl1
 have hyA := hy.low (B.mono hlo)
 have hzA := hz.low (B.mono hlo)
 generalize hwA : w.alloc (.cells (stA x (.slice y1 y2 y3) (.slice z1 z2 z3)) 282) = wA at *
 have hbx : Hid (∀ W : World, Fw lo wb wA W -> W.heap[w.heap.size]? = some (.cells (stA x (.slice y1 y2 y3) (.slice z1 z2 z3)) 282)) := fun W hW => hW.box b1 hnb (by decide)
 have fP : Hid (s'.1.length <= 100000000000) := hlen
 have hs9 : Hid (s' = if x.other = true then dR d (dG (dR d (dF (l, inl) x.cond) x1) [101, 108, 115, 101]) x2 else dR d (dF (l, inl) x.cond) x1) := hs'
 have aKu : Hid ((dR d (dF (l, inl) x.cond) x1).1.length <= 100000000000) := hl2
 clear hlen hs' hl1 hl2 b1 h hA hy hz B
 go_enter Tryz.func183, Tryz.ntmps183
 go_wp2_with (go_at_call 200; refine HC.mono ?_; rintro r w2 ⟨rfl, q2, q3⟩; obtain ⟨c2, tC⟩ := aA (hbx.out _ q2))
 have s2 := q2.bl.size
 refine (HB w2 (dF (l, inl) x.cond) _ x1 q3 (htA.fw q2) (by omega) (hyA.low q2.bl) ho1 aKu.out).mono ?_
 rintro r w3 ⟨rfl, p2, p3⟩
 have F3 := q2.trans p2
 have s3 := F3.bl.size
 obtain ⟨c3, cf3⟩ := aA (hbx.out _ F3)
 cases hoth : x.other with
 | false =>
  have hq : Hid (Wt w3 lo wb s'.1 s'.2) := by
   have := hs9.out
   rw [hoth, if_neg (by simp)] at this
   rw [this]
   exact p3
  go_wp2_with fail
  exact fH Tryz.results183 rfl ⟨rfl, sZ.trans F3, hq.out⟩
 | true =>
  have hS : Hid (s' = dR d (dG (dR d (dF (l, inl) x.cond) x1) [101, 108, 115, 101]) x2) := by
   have := hs9.out
   rw [hoth, if_pos rfl] at this
   exact this
  have hl4 := fP.out
  rw [hS.out] at hl4
  go_wp2_with fail
  refine (iT p3 [101, 108, 115, 101] (Nat.le_trans (jF _ _ _) hl4) (by omega)).mono ?_
  rintro r w4 ⟨rfl, u2, u3⟩
  have F4 := F3.trans u2
  have s4 := F4.bl.size
  obtain ⟨c4, cf4⟩ := aA (hbx.out _ F4)
  go_wp2_with fail
  refine (HB w4 (dG (dR d (dF (l, inl) x.cond) x1) [101, 108, 115, 101]) _ x2 u3 (htA.fw F4) (by omega) (hzA.low F4.bl) ho2 hl4).mono ?_
  rintro r w5 ⟨rfl, v2, v3⟩
  go_wp2_with fail
  exact fH Tryz.results183 rfl ⟨rfl, (sZ.trans F4).trans v2, by rw [hS.out]; exact v3⟩
end
section
variable {w : World} {lo wb : Nat} {l : List UInt8} {inl : Bool}
theorem aRf {d : Nat} (HB : Q5 lo wb d) (h : Wt w lo wb l inl) (ht : Tb lo w) (hlo : lo <= w.heap.size) (x : St) (y1 : Option Addr) (y2 y3 : Nat) (z1 : Option Addr) (z2 z3 : Nat) (x1 : BT d) (hy : aY d w (fun g => g < lo) (.slice y1 y2 y3) x1) (ho1 : pX d x1) (hc : okW x.cond) (hn : x.times.1 <= 100000) (hlen : (dR d (dF (fB (l, inl) [jM x.times.1, [119, 104, 105, 108, 101]]) x.cond) x1).1.length <= 100000000000) : Calls Tryz.prog 184 #[.pointer (some ⟨wb, 0, none⟩), .agg (stA x (.slice y1 y2 y3) (.slice z1 z2 z3))] w (fJ w lo wb (dR d (dF (fB (l, inl) [jM x.times.1, [119, 104, 105, 108, 101]]) x.cond) x1)) := by
 have B : Below w.heap.size w (w.alloc (.cells (stA x (.slice y1 y2 y3) (.slice z1 z2 z3)) 282)) := (Below.refl _ w).alloc zR _
 have b1 : (w.alloc (.cells (stA x (.slice y1 y2 y3) (.slice z1 z2 z3)) 282)).heap[w.heap.size]? = some (.cells (stA x (.slice y1 y2 y3) (.slice z1 z2 z3)) 282) := aC rfl
 have hl1 := Nat.le_trans (jF d _ x1) hlen
 have hl0 := Nat.le_trans (qI _ x.cond) hl1
 obtain ⟨c1, cf1⟩ := aA b1
 have hA := h.below B
 have sZ : Fw lo wb w _ := Fw.of hlo B
 have htA := ht.mv (B.mono hlo)
 have lwb := h.lt
 have hnb : w.heap.size ≠ wb := by omega
 have hsA : (w.alloc (.cells (stA x (.slice y1 y2 y3) (.slice z1 z2 z3)) 282)).heap.size = w.heap.size + 1 := by simp
 have HN := aL8 htA (by omega) x.times.1 x.times.2 hn
 have hyA := hy.low (B.mono hlo)
 generalize hwA : w.alloc (.cells (stA x (.slice y1 y2 y3) (.slice z1 z2 z3)) 282) = wA at *
 have hbx : Hid (∀ W : World, Fw lo wb wA W -> W.heap[w.heap.size]? = some (.cells (stA x (.slice y1 y2 y3) (.slice z1 z2 z3)) 282)) := fun W hW => hW.box b1 hnb (by decide)
 have aTy : Hid ((fB (l, inl) [jM x.times.1, [119, 104, 105, 108, 101]]).1.length <= 100000000000) := hl0
 have aQi : Hid ((dF (fB (l, inl) [jM x.times.1, [119, 104, 105, 108, 101]]) x.cond).1.length <= 100000000000) := hl1
 have fP : Hid ((dR d (dF (fB (l, inl) [jM x.times.1, [119, 104, 105, 108, 101]]) x.cond) x1).1.length <= 100000000000) := hlen
 clear hlen hl1 hl0 b1 h hy B
 go_enter Tryz.func184, Tryz.ntmps184
 go_wp2_with (go_at_call 144; refine HN.mono ?_; rintro r w1 ⟨rfl, q1⟩)
 have s1 := q1.size
 have F1 : Fw lo wb wA w1 := Fw.of (by omega) q1
 refine (yX (hA.below q1) (jM x.times.1) [119, 104, 105, 108, 101] aTy.out (by omega)).mono ?_
 rintro r w2 ⟨rfl, q2, q3⟩
 have F2 := F1.trans q2
 have s2 := F2.bl.size
 obtain ⟨c2, tC⟩ := aA (hbx.out _ F2)
 go_wp2_with fail
 refine (aOr q3 (htA.fw F2) (by omega) x.cond hc aQi.out).mono ?_
 rintro r w3 ⟨rfl, p2, p3⟩
 have F3 := F2.trans p2
 have s3 := F3.bl.size
 obtain ⟨c3, cf3⟩ := aA (hbx.out _ F3)
 go_wp2_with fail
 refine (HB w3 _ _ x1 p3 (htA.fw F3) (by omega) (hyA.low F3.bl) ho1 fP.out).mono ?_
 rintro r w4 ⟨rfl, u2, u3⟩
 go_wp2_with fail
 exact fH Tryz.results184 rfl ⟨rfl, (sZ.trans F3).trans u2, u3⟩
end
section
variable {w : World} {lo wb : Nat} {l : List UInt8} {inl : Bool}
theorem aL4 {d : Nat} (HB : Q5 lo wb d) (h : Wt w lo wb l inl) (ht : Tb lo w) (hlo : lo <= w.heap.size) (x : St) (hw : x.word = [105, 102]) (y1 : Option Addr) (y2 y3 : Nat) (z1 : Option Addr) (z2 z3 : Nat) (x1 x2 : BT d) (hy : aY d w (fun g => g < lo) (.slice y1 y2 y3) x1) (hz : aY d w (fun g => g < lo) (.slice z1 z2 z3) x2) (ho1 : pX d x1) (ho2 : pX d x2) (hc : okW x.cond) (s' : Ws) (hs' : s' = if x.other = true then dR d (dG (dR d (dF (dG (l, inl) x.word) x.cond) x1) [101, 108, 115, 101]) x2 else dR d (dF (dG (l, inl) x.word) x.cond) x1) (hlen : s'.1.length <= 100000000000) (hlt : (dG (l, inl) x.word).1.length <= s'.1.length) : Calls Tryz.prog 147 #[.pointer (some ⟨wb, 0, none⟩), .agg (stA x (.slice y1 y2 y3) (.slice z1 z2 z3))] w (fJ w lo wb s') := by
 have B : Below w.heap.size w (w.alloc (.cells (stA x (.slice y1 y2 y3) (.slice z1 z2 z3)) 282)) := (Below.refl _ w).alloc zR _
 have b1 : (w.alloc (.cells (stA x (.slice y1 y2 y3) (.slice z1 z2 z3)) 282)).heap[w.heap.size]? = some (.cells (stA x (.slice y1 y2 y3) (.slice z1 z2 z3)) 282) := aC rfl
 obtain ⟨c1, cf1⟩ := aA b1
 have hA := h.below B
 have sZ : Fw lo wb w _ := Fw.of hlo B
 have htA := ht.mv (B.mono hlo)
 have lwb := h.lt
 have hnb : w.heap.size ≠ wb := by omega
 have hsA : (w.alloc (.cells (stA x (.slice y1 y2 y3) (.slice z1 z2 z3)) 282)).heap.size = w.heap.size + 1 := by simp
 have HT := iT hA x.word (Nat.le_trans hlt hlen) (by omega)
 rw [hsA] at HT
 have hyA := hy.low (B.mono hlo)
 have hzA := hz.low (B.mono hlo)
 generalize hwA : w.alloc (.cells (stA x (.slice y1 y2 y3) (.slice z1 z2 z3)) 282) = wA at *
 have hbx : Hid (∀ W : World, Fw lo wb wA W -> W.heap[w.heap.size]? = some (.cells (stA x (.slice y1 y2 y3) (.slice z1 z2 z3)) 282)) := fun W hW => hW.box b1 hnb (by decide)
 have fP : Hid (s'.1.length <= 100000000000) := hlen
 have hs9 : Hid (s' = if x.other = true then dR d (dG (dR d (dF (dG (l, inl) x.word) x.cond) x1) [101, 108, 115, 101]) x2 else dR d (dF (dG (l, inl) x.word) x.cond) x1) := hs'
 have t1 : (x.word == [105, 102]) = true := by simp [hw]
 clear hlen hs' hlt b1 h hA hy hz B hw
 go_enter Tryz.func147, Tryz.ntmps147
 go_upto_region 5 with (go_at_call 112; refine HT.mono ?_; rintro r w2 ⟨rfl, q2, q3⟩; have hb2 := hbx.out _ q2; have c20 := (aA hb2).1 0; have aKw : Hid (w2.heap[w.heap.size]? = some (.cells (stA x (.slice y1 y2 y3) (.slice z1 z2 z3)) 282)) := hb2; clear hb2)
 have s2 := q2.bl.size
 have HX := aMh HB q3 (htA.fw q2) (by omega) x y1 y2 y3 z1 z2 z3 x1 x2 (hyA.low q2.bl) (hzA.low q2.bl) ho1 ho2 hc s' hs9.out fP.out
 refine wp_region_lit ?_
 iterate 3 go_step
 refine wpList_load_row rfl 282 (.tmp 3) rfl w.heap.size rfl 282 _ _ _ aKw.out Tryz.underlying282 rfl (by kernel_rfl) ?_
 go_wp2_with fail
 refine HX.mono ?_
 rintro r w3 ⟨rfl, p2, p3⟩
 go_wp2_with fail
 exact fH Tryz.results147 rfl ⟨rfl, (sZ.trans q2).trans p2, p3⟩
end
section
variable {w : World} {lo wb : Nat} {l : List UInt8} {inl : Bool}
theorem aI6 {d : Nat} (HB : Q5 lo wb d) (h : Wt w lo wb l inl) (ht : Tb lo w) (hlo : lo <= w.heap.size) (x : St) (hw : x.word = [114, 101, 112, 101, 97, 116]) (y1 : Option Addr) (y2 y3 : Nat) (z1 : Option Addr) (z2 z3 : Nat) (x1 x2 : BT d) (hy : aY d w (fun g => g < lo) (.slice y1 y2 y3) x1) (hz : aY d w (fun g => g < lo) (.slice z1 z2 z3) x2) (ho1 : pX d x1) (_ho2 : pX d x2) (hc : okW x.cond) (hn : x.times.1 <= 100000) (s' : Ws) (hs' : s' = dR d (dF (fB (dG (l, inl) x.word) [jM x.times.1, [119, 104, 105, 108, 101]]) x.cond) x1) (hlen : s'.1.length <= 100000000000) (hlt : (dG (l, inl) x.word).1.length <= s'.1.length) : Calls Tryz.prog 147 #[.pointer (some ⟨wb, 0, none⟩), .agg (stA x (.slice y1 y2 y3) (.slice z1 z2 z3))] w (fJ w lo wb s') := by
 have B : Below w.heap.size w (w.alloc (.cells (stA x (.slice y1 y2 y3) (.slice z1 z2 z3)) 282)) := (Below.refl _ w).alloc zR _
 have b1 : (w.alloc (.cells (stA x (.slice y1 y2 y3) (.slice z1 z2 z3)) 282)).heap[w.heap.size]? = some (.cells (stA x (.slice y1 y2 y3) (.slice z1 z2 z3)) 282) := aC rfl
 obtain ⟨c1, cf1⟩ := aA b1
 have hA := h.below B
 have sZ : Fw lo wb w _ := Fw.of hlo B
 have htA := ht.mv (B.mono hlo)
 have lwb := h.lt
 have hnb : w.heap.size ≠ wb := by omega
 have hsA : (w.alloc (.cells (stA x (.slice y1 y2 y3) (.slice z1 z2 z3)) 282)).heap.size = w.heap.size + 1 := by simp
 have HT := iT hA x.word (Nat.le_trans hlt hlen) (by omega)
 rw [hsA] at HT
 have hyA := hy.low (B.mono hlo)
 have hzA := hz.low (B.mono hlo)
 generalize hwA : w.alloc (.cells (stA x (.slice y1 y2 y3) (.slice z1 z2 z3)) 282) = wA at *
 have hbx : Hid (∀ W : World, Fw lo wb wA W -> W.heap[w.heap.size]? = some (.cells (stA x (.slice y1 y2 y3) (.slice z1 z2 z3)) 282)) := fun W hW => hW.box b1 hnb (by decide)
 have fP : Hid (s'.1.length <= 100000000000) := hlen
 have hs9 : Hid (s' = dR d (dF (fB (dG (l, inl) x.word) [jM x.times.1, [119, 104, 105, 108, 101]]) x.cond) x1) := hs'
 have t1 : (x.word == [114, 101, 112, 101, 97, 116]) = true := by simp [hw]
 have t2 : (x.word == [105, 102]) = false := by rw [hw]; decide
 clear hlen hs' hlt b1 h hA hy hz B hw
 go_enter Tryz.func147, Tryz.ntmps147
 go_upto_region 7 with (go_at_call 112; refine HT.mono ?_; rintro r w2 ⟨rfl, q2, q3⟩; have hb2 := hbx.out _ q2; have c20 := (aA hb2).1 0; have aKw : Hid (w2.heap[w.heap.size]? = some (.cells (stA x (.slice y1 y2 y3) (.slice z1 z2 z3)) 282)) := hb2; clear hb2)
 have s2 := q2.bl.size
 have HX := aRf HB q3 (htA.fw q2) (by omega) x y1 y2 y3 z1 z2 z3 x1 (hyA.low q2.bl) ho1 hc hn (by have := fP.out; rw [hs9.out] at this; exact this)
 have e9 : dR d (dF (fB ((dG (l, inl) x.word).1, (dG (l, inl) x.word).2) [jM x.times.1, [119, 104, 105, 108, 101]]) x.cond) x1 = s' := hs9.out.symm
 rw [e9] at HX
 refine wp_region_lit ?_
 iterate 3 go_step
 refine wpList_load_row rfl 282 (.tmp 3) rfl w.heap.size rfl 282 _ _ _ aKw.out Tryz.underlying282 rfl (by kernel_rfl) ?_
 go_wp2_with fail
 refine HX.mono ?_
 rintro r w3 ⟨rfl, p2, p3⟩
 go_wp2_with fail
 exact fH Tryz.results147 rfl ⟨rfl, (sZ.trans q2).trans p2, p3⟩
end
section
variable {w : World} {lo wb : Nat} {l : List UInt8} {inl : Bool}
theorem aL3 {d : Nat} (_HB : Q5 lo wb d) (h : Wt w lo wb l inl) (ht : Tb lo w) (hlo : lo <= w.heap.size) (x : St) (hw1 : x.word ≠ [105, 102]) (hw2 : x.word ≠ [114, 101, 112, 101, 97, 116]) (y1 : Option Addr) (y2 y3 : Nat) (z1 : Option Addr) (z2 z3 : Nat) (x1 x2 : BT d) (hy : aY d w (fun g => g < lo) (.slice y1 y2 y3) x1) (hz : aY d w (fun g => g < lo) (.slice z1 z2 z3) x2) (_ho1 : pX d x1) (_ho2 : pX d x2)  (s' : Ws) (hs' : s' = rC (dG (l, inl) x.word) x) (hlen : s'.1.length <= 100000000000) (hlt : (dG (l, inl) x.word).1.length <= s'.1.length) : Calls Tryz.prog 147 #[.pointer (some ⟨wb, 0, none⟩), .agg (stA x (.slice y1 y2 y3) (.slice z1 z2 z3))] w (fJ w lo wb s') := by
 have B : Below w.heap.size w (w.alloc (.cells (stA x (.slice y1 y2 y3) (.slice z1 z2 z3)) 282)) := (Below.refl _ w).alloc zR _
 have b1 : (w.alloc (.cells (stA x (.slice y1 y2 y3) (.slice z1 z2 z3)) 282)).heap[w.heap.size]? = some (.cells (stA x (.slice y1 y2 y3) (.slice z1 z2 z3)) 282) := aC rfl
 obtain ⟨c1, cf1⟩ := aA b1
 have hA := h.below B
 have sZ : Fw lo wb w _ := Fw.of hlo B
 have htA := ht.mv (B.mono hlo)
 have lwb := h.lt
 have hnb : w.heap.size ≠ wb := by omega
 have hsA : (w.alloc (.cells (stA x (.slice y1 y2 y3) (.slice z1 z2 z3)) 282)).heap.size = w.heap.size + 1 := by simp
 have HT := iT hA x.word (Nat.le_trans hlt hlen) (by omega)
 rw [hsA] at HT
 have hyA := hy.low (B.mono hlo)
 have hzA := hz.low (B.mono hlo)
 generalize hwA : w.alloc (.cells (stA x (.slice y1 y2 y3) (.slice z1 z2 z3)) 282) = wA at *
 have hbx : Hid (∀ W : World, Fw lo wb wA W -> W.heap[w.heap.size]? = some (.cells (stA x (.slice y1 y2 y3) (.slice z1 z2 z3)) 282)) := fun W hW => hW.box b1 hnb (by decide)
 have fP : Hid (s'.1.length <= 100000000000) := hlen
 have hs9 : Hid (s' = rC (dG (l, inl) x.word) x) := hs'
 have t1 : (x.word == [105, 102]) = false := by simpa using hw1
 have t2 : (x.word == [114, 101, 112, 101, 97, 116]) = false := by simpa using hw2
 clear hlen hs' hlt b1 h hA hy hz B hw1 hw2
 go_enter Tryz.func147, Tryz.ntmps147
 go_upto_region 3 with (go_at_call 112; refine HT.mono ?_; rintro r w2 ⟨rfl, q2, q3⟩; have hb2 := hbx.out _ q2; have c20 := (aA hb2).1 0; have aKw : Hid (w2.heap[w.heap.size]? = some (.cells (stA x (.slice y1 y2 y3) (.slice z1 z2 z3)) 282)) := hb2; clear hb2)
 have s2 := q2.bl.size
 have HX := aPh q3 (by omega) x y1 y2 y3 z1 z2 z3 (by have := fP.out; rw [hs9.out] at this; exact this)
 have e9 : rC ((dG (l, inl) x.word).1, (dG (l, inl) x.word).2) x = s' := hs9.out.symm
 rw [e9] at HX
 refine wp_region_lit ?_
 iterate 3 go_step
 refine wpList_load_row rfl 282 (.tmp 3) rfl w.heap.size rfl 282 _ _ _ aKw.out Tryz.underlying282 rfl (by kernel_rfl) ?_
 go_wp2_with fail
 refine HX.mono ?_
 rintro r w3 ⟨rfl, p2, p3⟩
 go_wp2_with fail
 exact fH Tryz.results147 rfl ⟨rfl, (sZ.trans q2).trans p2, p3⟩
end
section
variable {w : World} {lo wb : Nat}
theorem aS4 {d : Nat} (HB : Q5 lo wb d) (s : Ws) (h : Wt w lo wb s.1 s.2) (ht : Tb lo w) (hlo : lo <= w.heap.size) (x : St) (y1 : Option Addr) (y2 y3 : Nat) (z1 : Option Addr) (z2 z3 : Nat) (x1 x2 : BT d) (hy : aY d w (fun g => g < lo) (.slice y1 y2 y3) x1) (hz : aY d w (fun g => g < lo) (.slice z1 z2 z3) x2) (ho : aNf (pX d) (x, x1, x2)) (hlen : (kK (dR d) s (x, x1, x2)).1.length <= 100000000000) : Calls Tryz.prog 147 #[.pointer (some ⟨wb, 0, none⟩), .agg (stA x (.slice y1 y2 y3) (.slice z1 z2 z3))] w (fJ w lo wb (kK (dR d) s (x, x1, x2))) := by
 obtain ⟨l, inl⟩ := s
 obtain ⟨o1, o2, o3, o4⟩ := ho
 simp only at o1 o2 o3 o4 h
 by_cases e1 : x.word = [105, 102]
 ·have hs : kK (dR d) (l, inl) (x, x1, x2) = if x.other = true then dR d (dG (dR d (dF (dG (l, inl) x.word) x.cond) x1) [101, 108, 115, 101]) x2 else dR d (dF (dG (l, inl) x.word) x.cond) x1 := if_pos e1
  refine aL4 HB h ht hlo x e1 y1 y2 y3 z1 z2 z3 x1 x2 hy hz o3 o4 (o1 (Or.inl e1)) _ hs hlen ?_
  rw [hs]
  split
  ·exact Nat.le_trans (qI _ _) (Nat.le_trans (jF _ _ _) (Nat.le_trans (dP _ _) (jF _ _ _)))
  ·exact Nat.le_trans (qI _ _) (jF _ _ _)
 ·by_cases e2 : x.word = [114, 101, 112, 101, 97, 116]
  ·have hs : kK (dR d) (l, inl) (x, x1, x2) = dR d (dF (fB (dG (l, inl) x.word) [jM x.times.1, [119, 104, 105, 108, 101]]) x.cond) x1 := (if_neg e1).trans (if_pos e2)
   refine aI6 HB h ht hlo x e2 y1 y2 y3 z1 z2 z3 x1 x2 hy hz o3 o4 (o1 (Or.inr e2)) o2 _ hs hlen ?_
   rw [hs]
   exact Nat.le_trans (kJ _ _) (Nat.le_trans (qI _ _) (jF _ _ _))
  ·have hs : kK (dR d) (l, inl) (x, x1, x2) = rC (dG (l, inl) x.word) x := (if_neg e1).trans (if_neg e2)
   refine aL3 HB h ht hlo x e1 e2 y1 y2 y3 z1 z2 z3 x1 x2 hy hz o3 o4 _ hs hlen ?_
   rw [hs]
   exact aF7 _ _
theorem aPl : Q5 lo wb 0 := by
 intro w s v x h ht hlo hv _ hlen
 have hv : v = aF := hv
 subst hv
 obtain ⟨l, inl⟩ := s
 have hlen : (dG (dG (l, inl) [123]) [125]).1.length <= 100000000000 := hlen
 show Calls Tryz.prog 113 #[.pointer (some ⟨wb, 0, none⟩), aF] w (fJ w lo wb (dG (dG (l, inl) [123]) [125]))
 have HT := iT h [123] (Nat.le_trans (dP _ _) hlen) hlo
 have fP : Hid ((dG (dG (l, inl) [123]) [125]).1.length <= 100000000000) := hlen
 clear h hlen
 go_enter Tryz.func113, Tryz.ntmps113
 go_wp2_with (go_at_call 112; refine HT.mono ?_; rintro r w1 ⟨rfl, q1, q2⟩)
 go_loopg [11] 1 (fun f v wr => v = .int .i64 0 /\ wr = w1)
 case atStart => exact ⟨rfl, rfl⟩
 case round =>
  obtain ⟨rfl, rfl⟩ := hrel
  go_wp2_with fail
  refine (iT q2 [125] fP.out (by have := q1.bl.size; omega)).mono ?_
  rintro r w2 ⟨rfl, q3, q4⟩
  go_wp2_with fail
  exact fH Tryz.results113 rfl ⟨rfl, q1.trans q3, q4⟩
theorem rZ {β : Type} {P : Value -> β -> Prop} : ∀ {rs : List (St × Value × Value)} {xs : List (St × β × β)} {k : Nat} {x : St × β × β}, bZ P rs xs -> xs[k]? = some x -> ∃ r, rs[k]? = some r /\ r.1 = x.1 /\ P r.2.1 x.2.1 /\ P r.2.2 x.2.2
 | [], [], k, x, _, h => by simp at h
 | r :: rs, y :: xs, 0, x, h, e => by simp at e; subst e; exact ⟨r, rfl, h.1, h.2.1, h.2.2.1⟩
 | r :: rs, y :: xs, k + 1, x, h, e => by
  obtain ⟨r2, h2⟩ := rZ (k := k) h.2.2.2 (by simpa using e)
  exact ⟨r2, by simpa using h2⟩
 | [], y :: xs, k, x, h, _ => by cases h
 | r :: rs, [], k, x, h, _ => by cases h
theorem V7 {α : Type} (f : Ws -> α -> Ws) {xs : List α} {k : Nat} {x : α} (h : xs[k]? = some x) (s : Ws) : kP f s (xs.drop k) = kP f (f s x) (xs.drop (k + 1)) := by
 have hk := (List.getElem?_eq_some_iff.1 h).1
 rw [List.drop_eq_getElem_cons hk, show xs[k] = x from Option.some.inj ((List.getElem?_eq_getElem hk).symm.trans h)]
 rfl
theorem aPk {d : Nat} (HB : Q5 lo wb d) : Q5 lo wb (d + 1) := by
 intro w s v x h ht hlo hv hok0 hlen0
 obtain ⟨rows, dW, hown, hN⟩ := hv
 obtain ⟨xs, hxs⟩ : ∃ xs : List (St × BT d × BT d), xs = x := ⟨x, rfl⟩
 have hok : L9 (aNf (pX d)) x := hok0
 have hlen : (dG (kP (kK (dR d)) (dG s [123]) x) [125]).1.length <= 100000000000 := hlen0
 show Calls Tryz.prog 113 #[.pointer (some ⟨wb, 0, none⟩), v] w (fJ w lo wb (dG (kP (kK (dR d)) (dG s [123]) x) [125]))
 rw [<- hxs] at dW hok hlen ⊢
 clear hok0 hlen0 hxs
 clear x
 have aGn : rows.length = xs.length := bZ.len _ _ dW
 obtain ⟨va, vc, rfl⟩ := oG hown
 have hmax : rows.length <= 9223372036854775807 := by
  rcases hown.2 with ⟨h1, h2⟩ | ⟨g, cap, cur, h1, _, _, h2, h3, _⟩
  ·omega
  ·have : maxLen = 9223372036854775807 := rfl
   omega
 obtain ⟨l, inl⟩ := s
 have hl1 := Nat.le_trans (mM (fun s x => Z5 (jF d) s x) xs (dG (l, inl) [123])) (Nat.le_trans (dP _ [125]) hlen)
 have HT := iT h [123] hl1 hlo
 have fP : Hid ((dG (kP (kK (dR d)) (dG (l, inl) [123]) xs) [125]).1.length <= 100000000000) := hlen
 have hst : Hid (∀ (W : World) (sk : Ws) (k : Nat) (r : St × BT d × BT d) (y1 : Option Addr) (y2 y3 : Nat) (z1 : Option Addr) (z2 z3 : Nat), Fw lo wb w W -> Wt W lo wb sk.1 sk.2 -> xs[k]? = some r -> rows[k]? = some (r.1, .slice y1 y2 y3, .slice z1 z2 z3) -> (kK (dR d) sk r).1.length <= 100000000000 -> Calls Tryz.prog 147 #[.pointer (some ⟨wb, 0, none⟩), .agg (stA r.1 (.slice y1 y2 y3) (.slice z1 z2 z3))] W (fJ W lo wb (kK (dR d) sk r))) := fun W sk k r y1 y2 y3 z1 z2 z3 hF hW hk hr hl => by
  obtain ⟨r2, h1, h2, h3, h4⟩ := rZ dW hk
  rw [hr] at h1
  cases h1
  exact aS4 HB sk hW (ht.fw hF) (by have := hF.bl.size; omega) r.1 y1 y2 y3 z1 z2 z3 r.2.1 r.2.2 (aY.low h3 hF.bl) (aY.low h4 hF.bl) (yV hok hk) hl
 have hrow : Hid (∀ (W : World) (k : Nat), Fw lo wb w W -> k < xs.length -> ∃ g r y1 y2 y3 z1 z2 z3, va = some ⟨g, 0, none⟩ /\ xs[k]? = some r /\ rows[k]? = some (r.1, .slice y1 y2 y3, .slice z1 z2 z3) /\ W.rangeAt g (k * 25) (stA r.1 (.slice y1 y2 y3) (.slice z1 z2 z3)).toList) := fun W k hF hk => by
  have hkx : xs[k]? = some xs[k] := List.getElem?_eq_getElem hk
  obtain ⟨r2, h1, h2, h3, h4⟩ := rZ dW hkx
  obtain ⟨g, c, e2, l2, llo, hc2⟩ := pW hown (by omega)
  cases e2
  obtain ⟨st, y, z⟩ := r2
  simp only at h2 h3 h4
  obtain ⟨y1, y2, y3, rfl⟩ := aY.form d _ _ h3
  obtain ⟨z1, z2, z3, rfl⟩ := aY.form d _ _ h4
  refine ⟨g, xs[k], y1, y2, y3, z1, z2, z3, rfl, hkx, by rw [h1, <- h2], fun j u hu => ?_⟩
  have hj : j < 25 := by have := (List.getElem?_eq_some_iff.1 hu).1; simpa using this
  have hg : g < lo := hN g rfl
  have hown1 : W.ownsRow 0 282 25 (.slice (some ⟨g, 0, none⟩) rows.length vc) rows.length (nX rows) := kN hown (fun q hq hl => by simp [Value.ownBlock] at hq; subst hq; exact hF.bl.block _ hg)
  rw [hown1.cellAt _ (by omega)]
  rw [<- h2] at hu
  exact G8 rows k _ h1 j u hu
 rw [aGn]
 rw [aGn] at hmax
 clear hlen hl1 h hok dW hown hN
 go_enter Tryz.func113, Tryz.ntmps113
 go_wp2_with (go_at_call 112; refine HT.mono ?_; rintro r w1 ⟨rfl, q1, q2⟩)
 go_loopg [11] xs.length (fun f v wr => ∃ (k : Nat) (sk : Ws), v = .int .i64 k /\ k + f = xs.length /\ Hid (Fw lo wb w wr /\ Wt wr lo wb sk.1 sk.2 /\ kP (kK (dR d)) sk (xs.drop k) = kP (kK (dR d)) (dG (l, inl) [123]) xs))
 case atStart => exact ⟨0, dG (l, inl) [123], rfl, by omega, q1, q2, rfl⟩
 case round =>
  obtain ⟨k, sk, rfl, hk, HJ⟩ := hrel
  obtain ⟨J1, J2, J3⟩ := HJ.out
  have hsr := J1.bl.size
  by_cases hkl : k < xs.length
  ·have t1 : decide ((k : Int) < (xs.length : Int)) = true := by simp; omega
   obtain ⟨g, r, y1, y2, y3, z1, z2, z3, rfl, hr, hrw, hrg⟩ := hrow.out wr k J1 hkl
   have hix : ∀ W : World, (Instr.indexAt 204 (.slice (some ⟨g, 0, none⟩) xs.length vc) (.int .i64 k)).run Tryz.prog W = .ok (.pointer (some ⟨g, k * 25, none⟩)) W := by
    intro W
    rw [run_indexAt_slice (h := by kernel_rfl), if_pos (by omega)]
    have : (sizeOf (Tryz.prog.elem 204)).run Tryz.prog W = .ok 25 W := by kernel_rfl
    rw [this]
    simp [Result.andThen, Addr.add]
    omega
   have e9 : Hid (kP (kK (dR d)) (kK (dR d) sk r) (xs.drop (k + 1)) = kP (kK (dR d)) (dG (l, inl) [123]) xs) := (V7 _ hr sk).symm.trans J3
   have hl4 : Hid ((kK (dR d) sk r).1.length <= 100000000000) := by
    have h1 := fP.out
    rw [<- e9.out] at h1
    exact Nat.le_trans (Nat.le_trans (mM (fun s x => Z5 (jF d) s x) _ _) (dP _ _)) h1
   have hr9 : Hid (xs[k]? = some r) := hr
   have aTh : Hid (rows[k]? = some (r.1, .slice y1 y2 y3, .slice z1 z2 z3)) := hrw
   clear hr hrw HJ J3
   go_upto_region 3 with fail
   refine wp_region_lit ?_
   iterate 3 go_step
   refine wpList_load_mid rfl 282 (.tmp 13) rfl g (k * 25) rfl (stA r.1 (.slice y1 y2 y3) (.slice z1 z2 z3)).toList _ hrg Tryz.underlying282 rfl (by kernel_rfl) ?_
   iterate 3 go_step
   refine mZ rfl 282 (.tmp 5) (.tmp 14) rfl (stA r.1 (.slice y1 y2 y3) (.slice z1 z2 z3)) rfl rfl (by kernel_rfl) rfl (by simp [Value.oneCell']) ?_
   intro w2 B2 hb2 hz2
   have F2 : Fw lo wb w w2 := J1.trans (Fw.of (by omega) B2)
   have HX := hst.out w2 sk k r y1 y2 y3 z1 z2 z3 F2 (J2.below B2) hr9.out aTh.out hl4.out
   go_upto_region 4 with fail
   refine wp_region_lit ?_
   iterate 3 go_step
   refine wpList_load_row rfl 282 (.tmp 5) rfl wr.heap.size rfl 282 _ _ _ hb2 Tryz.underlying282 rfl (by kernel_rfl) ?_
   go_wp2_with fail
   refine HX.mono ?_
   rintro e w3 ⟨rfl, q3, q4⟩
   go_wp2_with fail
   go_roundg (gk - 1)
   case measure => omega
   case rel => exact ⟨k + 1, kK (dR d) sk r, by simp, by omega, F2.trans q3, q4, e9.out⟩
  ·have t1 : decide ((k : Int) < (xs.length : Int)) = false := by simp; omega
   have hsk : Hid (sk = kP (kK (dR d)) (dG (l, inl) [123]) xs) := by
    rw [List.drop_eq_nil_of_le (by omega)] at J3
    exact J3
   clear J3 HJ
   go_wp2_with fail
   refine (iT J2 [125] (by have := fP.out; rw [<- hsk.out] at this; exact this) (by omega)).mono ?_
   rintro r w2 ⟨rfl, q3, q4⟩
   go_wp2_with fail
   exact fH Tryz.results113 rfl ⟨rfl, J1.trans q3, by rw [<- hsk.out]; exact q4⟩
theorem aRh : ∀ d, Q5 lo wb d
 | 0 => aPl
 | d + 1 => aPk (aRh d)
end
def oZ (s : Ws) (d : Dc) : Ws := nlS (fB (if d.word ≠ [102, 114, 101, 113] then dG (dG s d.word) d.name.1 else dG s d.word) [jM d.num.1, [59]])
def dX (s : Ws) (ds : List Dc) (f : Bool) : Ws := kP (fun s d => if (d.word == [102, 114, 101, 113]) = f then oZ s d else s) s ds
def zQ (s : Ws) (ev : List UInt8) (r : Nat × NP × BT 8) : Ws := if r.2.1.1 = ev then nlS (dR 8 (fB s [[111, 110], ev]) r.2.2) else s
def fQ (s : Ws) (rs : List (Nat × NP × BT 8)) (ev : List UInt8) : Ws := kP (fun s r => zQ s ev r) s rs
def Y9 (x : List Dc × List (Nat × NP × BT 8)) : Ws := fQ (kP (fun s (d : Dc) => fQ s x.2 d.name.1) (dX (dX ([], false) x.1 false) x.1 true) x.1) x.2 [109, 105, 115, 115]
theorem aJ9 (s : Ws) : s.1.length <= (nlS s).1.length := by unfold nlS; simp
theorem aOh (s : Ws) (d : Dc) : s.1.length <= (oZ s d).1.length := by
 unfold oZ
 refine Nat.le_trans ?_ (Nat.le_trans (kJ _ _) (aJ9 _))
 split
 ·exact Nat.le_trans (dP _ _) (dP _ _)
 ·exact dP _ _
theorem aCy (f : Bool) (s : Ws) (d : Dc) : s.1.length <= (if (d.word == [102, 114, 101, 113]) = f then oZ s d else s).1.length := by
 split
 ·exact aOh _ _
 ·exact zR
theorem aM5 (ev : List UInt8) (s : Ws) (r : Nat × NP × BT 8) : s.1.length <= (zQ s ev r).1.length := by
 unfold zQ
 split
 ·exact Nat.le_trans (kJ _ _) (Nat.le_trans (jF _ _ _) (aJ9 _))
 ·exact zR
theorem uU (rs : List (Nat × NP × BT 8)) (ev : List UInt8) (s : Ws) : s.1.length <= (fQ s rs ev).1.length := mM (fun s r => aM5 ev s r) rs s
section
variable {w : World} {lo wb : Nat} {l : List UInt8} {inl : Bool}
theorem aMb (h : Wt w lo wb l inl) (ht : Tb lo w) (hlo : lo <= w.heap.size) (d : Dc) (hw : d.word ≠ [102, 114, 101, 113]) (hn : d.num.1 <= 100000) (hlen : (nlS (fB (dG (dG (l, inl) d.word) d.name.1) [jM d.num.1, [59]])).1.length <= 100000000000) : Calls Tryz.prog 111 #[.pointer (some ⟨wb, 0, none⟩), .agg (eG d)] w (fJ w lo wb (nlS (fB (dG (dG (l, inl) d.word) d.name.1) [jM d.num.1, [59]]))) := by
 have B : Below w.heap.size w (w.alloc (.cells (eG d) 153)) := (Below.refl _ w).alloc zR _
 have b1 : (w.alloc (.cells (eG d) 153)).heap[w.heap.size]? = some (.cells (eG d) 153) := aC rfl
 have hl3 : (fB (dG (dG (l, inl) d.word) d.name.1) [jM d.num.1, [59]]).1.length + 1 <= 100000000000 := by
  unfold nlS at hlen
  simpa using hlen
 have hl2 := Nat.le_trans (kJ [jM d.num.1, [59]] (dG (dG (l, inl) d.word) d.name.1)) (Nat.le_of_lt hl3)
 have hl1 := Nat.le_trans (dP (dG (l, inl) d.word) d.name.1) hl2
 obtain ⟨c1, cf1⟩ := aA b1
 have hA := h.below B
 have sZ : Fw lo wb w _ := Fw.of hlo B
 have htA := ht.mv (B.mono hlo)
 have lwb := h.lt
 have hnb : w.heap.size ≠ wb := by omega
 have hsA : (w.alloc (.cells (eG d) 153)).heap.size = w.heap.size + 1 := by simp
 have HT := iT hA d.word hl1 (by omega)
 rw [hsA] at HT
 generalize hwA : w.alloc (.cells (eG d) 153) = wA at *
 have hbx : Hid (∀ W : World, Fw lo wb wA W -> W.heap[w.heap.size]? = some (.cells (eG d) 153)) := fun W hW => hW.box b1 hnb (by decide)
 have t1 : (d.word == [102, 114, 101, 113]) = false := by simpa using hw
 have aKu : Hid ((dG (dG (l, inl) d.word) d.name.1).1.length <= 100000000000) := hl2
 have aEj : Hid ((fB (dG (dG (l, inl) d.word) d.name.1) [jM d.num.1, [59]]).1.length + 1 <= 100000000000) := hl3
 clear hlen hl1 hl2 hl3 b1 h hA B hw
 go_enter Tryz.func111, Tryz.ntmps111
 go_wp2_with (go_at_call 112; (fail_if_success (have := q2)); refine HT.mono ?_; rintro r w2 ⟨rfl, q2, q3⟩; obtain ⟨c2, tC⟩ := aA (hbx.out _ q2))
 have s2 := q2.bl.size
 refine (iT q3 d.name.1 aKu.out (by omega)).mono ?_
 rintro r w3 ⟨rfl, p2, p3⟩
 have F3 := q2.trans p2
 have s3 := F3.bl.size
 obtain ⟨c3, cf3⟩ := aA (hbx.out _ F3)
 have HN := aL8 (htA.fw F3) (by omega) d.num.1 d.num.2 hn
 go_wp2_with (go_at_call 144; refine HN.mono ?_; rintro r w4 ⟨rfl, q4⟩)
 have s4 := q4.size
 have F4 : Fw lo wb wA w4 := F3.trans (Fw.of (by omega) q4)
 refine (yX (p3.below q4) (jM d.num.1) [59] (Nat.le_of_lt aEj.out) (by omega)).mono ?_
 rintro r w5 ⟨rfl, u2, u3⟩
 have F5 := F4.trans u2
 have s5 := F5.bl.size
 go_wp2_with fail
 refine (aPj u3 aEj.out (by omega)).mono ?_
 rintro r w6 ⟨rfl, v2, v3⟩
 go_wp2_with fail
 exact fH Tryz.results111 rfl ⟨rfl, (sZ.trans F5).trans v2, v3⟩
theorem aMc (h : Wt w lo wb l inl) (ht : Tb lo w) (hlo : lo <= w.heap.size) (d : Dc) (hw : d.word = [102, 114, 101, 113]) (hn : d.num.1 <= 100000) (hlen : (nlS (fB (dG (l, inl) d.word) [jM d.num.1, [59]])).1.length <= 100000000000) : Calls Tryz.prog 111 #[.pointer (some ⟨wb, 0, none⟩), .agg (eG d)] w (fJ w lo wb (nlS (fB (dG (l, inl) d.word) [jM d.num.1, [59]]))) := by
 have B : Below w.heap.size w (w.alloc (.cells (eG d) 153)) := (Below.refl _ w).alloc zR _
 have b1 : (w.alloc (.cells (eG d) 153)).heap[w.heap.size]? = some (.cells (eG d) 153) := aC rfl
 have hl3 : (fB (dG (l, inl) d.word) [jM d.num.1, [59]]).1.length + 1 <= 100000000000 := by
  unfold nlS at hlen
  simpa using hlen
 have hl2 := Nat.le_trans (kJ [jM d.num.1, [59]] (dG (l, inl) d.word)) (Nat.le_of_lt hl3)
 obtain ⟨c1, cf1⟩ := aA b1
 have hA := h.below B
 have sZ : Fw lo wb w _ := Fw.of hlo B
 have htA := ht.mv (B.mono hlo)
 have lwb := h.lt
 have hnb : w.heap.size ≠ wb := by omega
 have hsA : (w.alloc (.cells (eG d) 153)).heap.size = w.heap.size + 1 := by simp
 have HT := iT hA d.word hl2 (by omega)
 rw [hsA] at HT
 generalize hwA : w.alloc (.cells (eG d) 153) = wA at *
 have hbx : Hid (∀ W : World, Fw lo wb wA W -> W.heap[w.heap.size]? = some (.cells (eG d) 153)) := fun W hW => hW.box b1 hnb (by decide)
 have t1 : (d.word == [102, 114, 101, 113]) = true := by simp [hw]
 have aEj : Hid ((fB (dG (l, inl) d.word) [jM d.num.1, [59]]).1.length + 1 <= 100000000000) := hl3
 clear hlen hl2 hl3 b1 h hA B hw
 go_enter Tryz.func111, Tryz.ntmps111
 go_wp2_with (go_at_call 112; (fail_if_success (have := q2)); refine HT.mono ?_; rintro r w2 ⟨rfl, q2, q3⟩; obtain ⟨c2, tC⟩ := aA (hbx.out _ q2))
 have s2 := q2.bl.size
 have HN := aL8 (htA.fw q2) (by omega) d.num.1 d.num.2 hn
 refine HN.mono ?_
 rintro r w4 ⟨rfl, q4⟩
 have s4 := q4.size
 have F4 : Fw lo wb wA w4 := q2.trans (Fw.of (by omega) q4)
 go_wp2_with fail
 refine (yX (q3.below q4) (jM d.num.1) [59] (Nat.le_of_lt aEj.out) (by omega)).mono ?_
 rintro r w5 ⟨rfl, u2, u3⟩
 have F5 := F4.trans u2
 have s5 := F5.bl.size
 go_wp2_with fail
 refine (aPj u3 aEj.out (by omega)).mono ?_
 rintro r w6 ⟨rfl, v2, v3⟩
 go_wp2_with fail
 exact fH Tryz.results111 rfl ⟨rfl, (sZ.trans F5).trans v2, v3⟩
theorem aRg (h : Wt w lo wb l inl) (ht : Tb lo w) (hlo : lo <= w.heap.size) (d : Dc) (hn : d.num.1 <= 100000) (hlen : (oZ (l, inl) d).1.length <= 100000000000) : Calls Tryz.prog 111 #[.pointer (some ⟨wb, 0, none⟩), .agg (eG d)] w (fJ w lo wb (oZ (l, inl) d)) := by
 unfold oZ at hlen ⊢
 by_cases e : d.word = [102, 114, 101, 113]
 ·rw [if_neg (by simp [e])] at hlen ⊢
  exact aMc h ht hlo d e hn hlen
 ·rw [if_pos e] at hlen ⊢
  exact aMb h ht hlo d e hn hlen
end
theorem uD {α : Type} (f : Ws -> α -> Ws) {xs : List α} {k : Nat} {x : α} (h : xs[k]? = some x) (s : Ws) : kP f s (xs.drop k) = kP f (f s x) (xs.drop (k + 1)) := V7 f h s
section
variable {w : World} {lo wb : Nat} {l : List UInt8} {inl : Bool}
theorem aI8 (h : Wt w lo wb l inl) (ht : Tb lo w) (hlo : lo <= w.heap.size) (ds : List Dc) (f : Bool) {b0 : Nat} {v : Value} (hown : w.ownsRow b0 153 6 v ds.length (lW ds)) (hv : ∀ g, v.ownBlock = some g -> g < lo) (hn : ∀ d ∈ ds, d.num.1 <= 100000) (hlen : (dX (l, inl) ds f).1.length <= 100000000000) : Calls Tryz.prog 77 #[.pointer (some ⟨wb, 0, none⟩), v, .bool f] w (fJ w lo wb (dX (l, inl) ds f)) := by
 have hmax : ds.length <= 9223372036854775807 := by
  rcases hown.2 with ⟨h1, h2⟩ | ⟨g, cap, cur, h1, _, _, h2, h3, _⟩
  ·omega
  ·have : maxLen = 9223372036854775807 := rfl
   omega
 obtain ⟨va, vc, rfl⟩ := oG hown
 have hrow : Hid (∀ (W : World) (k : Nat), Fw lo wb w W -> k < ds.length -> ∃ g d, va = some ⟨g, 0, none⟩ /\ ds[k]? = some d /\ ∀ j, j < 6 -> W.cell? ⟨g, k * 6 + j, none⟩ = (eG d)[j]?) := fun W k hF hk => by
  have hkx : ds[k]? = some ds[k] := List.getElem?_eq_getElem hk
  obtain ⟨g, c, e2, l2, llo, hc2⟩ := pW hown (by omega)
  cases e2
  refine ⟨g, ds[k], rfl, hkx, fun j hj => ?_⟩
  have hg : g < lo := hv g rfl
  have hb : W.cell? ⟨g, k * 6 + j, none⟩ = w.cell? ⟨g, k * 6 + j, none⟩ := by
   have := hF.bl.block g hg
   simp [World.cell?, this]
  rw [hb, hc2 (k * 6 + j) (by omega)]
  have h6 : (eG ds[k])[j]? = some ((eG ds[k])[j]'(by simpa using hj)) := Array.getElem?_eq_getElem _
  rw [h6]
  exact nV (fun d : Dc => (eG d).toList) 6 (fun _ => rfl) ds k _ hkx j _ (by simp)
 have h9 : Hid (Wt w lo wb l inl) := h
 have ht9 : Hid (Tb lo w) := ht
 have hn9 : Hid (∀ d ∈ ds, d.num.1 <= 100000) := hn
 have fP : Hid ((dX (l, inl) ds f).1.length <= 100000000000) := hlen
 clear hlen hn h ht hown hv
 go_enter Tryz.func77, Tryz.ntmps77
 go_wp2_with fail
 go_loopg [10] ds.length (fun q v wr => ∃ (k : Nat) (sk : Ws), v = .int .i64 k /\ k + q = ds.length /\ Hid (Fw lo wb w wr /\ Wt wr lo wb sk.1 sk.2 /\ dX sk (ds.drop k) f = dX (l, inl) ds f))
 case atStart => exact ⟨0, (l, inl), rfl, by omega, Fw.refl _ _ _, h9.out, rfl⟩
 case round =>
  obtain ⟨k, sk, rfl, hk, HJ⟩ := hrel
  obtain ⟨J1, J2, J3⟩ := HJ.out
  have hsr := J1.bl.size
  by_cases hkl : k < ds.length
  ·have t1 : decide ((k : Int) < (ds.length : Int)) = true := by simp; omega
   obtain ⟨g, d, rfl, hd, hcl⟩ := hrow.out wr k J1 hkl
   have ix : ∀ W : World, (Instr.indexAt 144 (.slice (some ⟨g, 0, none⟩) ds.length vc) (.int .i64 k)).run Tryz.prog W = .ok (.pointer (some ⟨g, k * 6, none⟩)) W := by
    intro W
    rw [run_indexAt_slice (h := by kernel_rfl), if_pos (by omega)]
    have : (sizeOf (Tryz.prog.elem 144)).run Tryz.prog W = .ok 6 W := by kernel_rfl
    rw [this]
    simp [Result.andThen, Addr.add]
    omega
   have d0 : wr.cell? ⟨g, k * 6, none⟩ = some (S d.word) := hcl 0 (by omega)
   have d1 : wr.cell? ⟨g, k * 6 + 1, none⟩ = some (.int .i64 d.pos) := hcl 1 (by omega)
   have d2 : wr.cell? ⟨g, k * 6 + 2, none⟩ = some (S d.name.1) := hcl 2 (by omega)
   have d3 : wr.cell? ⟨g, k * 6 + 3, none⟩ = some (.int .i64 d.name.2) := hcl 3 (by omega)
   have d4 : wr.cell? ⟨g, k * 6 + 4, none⟩ = some (.int .i64 d.num.1) := hcl 4 (by omega)
   have d5 : wr.cell? ⟨g, k * 6 + 5, none⟩ = some (.int .i64 d.num.2) := hcl 5 (by omega)
   have e9 : Hid (dX (if (d.word == [102, 114, 101, 113]) = f then oZ sk d else sk) (ds.drop (k + 1)) f = dX (l, inl) ds f) := (uD _ hd sk).symm.trans J3
   have hnd : d.num.1 <= 100000 := hn9.out d (List.mem_of_getElem? hd)
   have hl4 : Hid ((if (d.word == [102, 114, 101, 113]) = f then oZ sk d else sk).1.length <= 100000000000) := by
    have h1 := fP.out
    rw [<- e9.out] at h1
    exact Nat.le_trans (mM (fun s x => aCy f s x) _ _) h1
   have B1 : Below wr.heap.size wr (wr.alloc (.cells (eG d) 153)) := (Below.refl _ wr).alloc zR _
   have b1 : (wr.alloc (.cells (eG d) 153)).heap[wr.heap.size]? = some (.cells (eG d) 153) := aC rfl
   have F1 : Fw lo wb w (wr.alloc (.cells (eG d) 153)) := J1.trans (Fw.of (by omega) B1)
   have J4 := J2.below B1
   have hs1 : (wr.alloc (.cells (eG d) 153)).heap.size = wr.heap.size + 1 := by simp
   obtain ⟨c1, cf1⟩ := aA b1
   clear hcl hd HJ J3 J2
   by_cases hc : (d.word == [102, 114, 101, 113]) = f
   ·have HD := aRg (w := wr.alloc (.cells (eG d) 153)) (l := sk.1) (inl := sk.2) J4 (ht9.out.fw F1) (by omega) d hnd (by have := hl4.out; rw [if_pos hc] at this; exact this)
    have e8 : Hid (dX (oZ sk d) (ds.drop (k + 1)) f = dX (l, inl) ds f) := by have := e9.out; rw [if_pos hc] at this; exact this
    clear e9 hl4
    cases f with
    | true =>
     go_wp2_with (go_at_call 111; refine HD.mono ?_; rintro r w3 ⟨rfl, q3, q4⟩)
     go_roundg (gk - 1)
     case measure => omega
     case rel => exact ⟨k + 1, oZ sk d, by simp, by omega, F1.trans q3, q4, e8.out⟩
    | false =>
     go_wp2_with (go_at_call 111; refine HD.mono ?_; rintro r w3 ⟨rfl, q3, q4⟩)
     go_roundg (gk - 1)
     case measure => omega
     case rel => exact ⟨k + 1, oZ sk d, by simp, by omega, F1.trans q3, q4, e8.out⟩
   ·have e8 : Hid (dX sk (ds.drop (k + 1)) f = dX (l, inl) ds f) := by have := e9.out; rw [if_neg hc] at this; exact this
    clear e9 hl4
    cases f with
    | true =>
     have hc : (d.word == [102, 114, 101, 113]) = false := by simpa using hc
     go_wp2_with fail
     go_roundg (gk - 1)
     case measure => omega
     case rel => exact ⟨k + 1, sk, by simp, by omega, F1, J4, e8.out⟩
    | false =>
     have hc : (d.word == [102, 114, 101, 113]) = true := by simpa using hc
     go_wp2_with fail
     go_roundg (gk - 1)
     case measure => omega
     case rel => exact ⟨k + 1, sk, by simp, by omega, F1, J4, e8.out⟩
  ·have t1 : decide ((k : Int) < (ds.length : Int)) = false := by simp; omega
   have hsk : Hid (sk = dX (l, inl) ds f) := by
    rw [List.drop_eq_nil_of_le (by omega)] at J3
    exact J3
   clear J3 HJ
   go_wp2_with fail
   exact fH Tryz.results77 rfl ⟨rfl, J1, by rw [<- hsk.out]; exact J2⟩
end
theorem aDh {P : Value -> BT 8 -> Prop} : ∀ {rs : List (Nat × NP × Value)} {xs : List (Nat × NP × BT 8)} {k : Nat} {x : Nat × NP × BT 8}, iC P rs xs -> xs[k]? = some x -> ∃ r, rs[k]? = some r /\ r.1 = x.1 /\ r.2.1 = x.2.1 /\ P r.2.2 x.2.2
 | [], [], k, x, _, h => by simp at h
 | r :: rs, y :: xs, 0, x, h, e => by simp at e; subst e; exact ⟨r, rfl, h.1, h.2.1, h.2.2.1⟩
 | r :: rs, y :: xs, k + 1, x, h, e => by
  obtain ⟨r2, h2⟩ := aDh (k := k) h.2.2.2 (by simpa using e)
  exact ⟨r2, by simpa using h2⟩
 | [], y :: xs, k, x, h, _ => by cases h
 | r :: rs, [], k, x, h, _ => by cases h
theorem aDg {P : Value -> BT 8 -> Prop} : ∀ {rs : List (Nat × NP × Value)} {xs : List (Nat × NP × BT 8)}, iC P rs xs -> rs.length = xs.length
 | [], [], _ => rfl
 | r :: rs, y :: xs, h => by simp [aDg h.2.2.2]
 | [], y :: xs, h => by cases h
 | r :: rs, [], h => by cases h
section
variable {w : World} {lo wb : Nat} {l : List UInt8} {inl : Bool}
theorem aPg (h : Wt w lo wb l inl) (ht : Tb lo w) (hlo : lo <= w.heap.size) (rs : List (Nat × NP × BT 8)) (rows : List (Nat × NP × Value)) (ev : List UInt8) {b0 : Nat} {v : Value} (hown : w.ownsRow b0 206 4 v rows.length (mF rows)) (hv : ∀ g, v.ownBlock = some g -> g < lo) (dW : iC (aY 8 w (fun g => g < lo)) rows rs) (hok : ∀ r ∈ rs, pX 8 r.2.2) (hlen : (fQ (l, inl) rs ev).1.length <= 100000000000) : Calls Tryz.prog 78 #[.pointer (some ⟨wb, 0, none⟩), v, S ev] w (fJ w lo wb (fQ (l, inl) rs ev)) := by
 have hmax : rows.length <= 9223372036854775807 := by
  rcases hown.2 with ⟨h1, h2⟩ | ⟨g, cap, cur, h1, _, _, h2, h3, _⟩
  ·omega
  ·have : maxLen = 9223372036854775807 := rfl
   omega
 have hlr := aDg dW
 obtain ⟨va, vc, rfl⟩ := oG hown
 have hrow : Hid (∀ (W : World) (k : Nat), Fw lo wb w W -> k < rs.length -> ∃ g r y1 y2 y3, va = some ⟨g, 0, none⟩ /\ rs[k]? = some r /\ aY 8 W (fun g => g < lo) (.slice y1 y2 y3) r.2.2 /\ ∀ j, j < 4 -> W.cell? ⟨g, k * 4 + j, none⟩ = (nH r.1 r.2.1 (.slice y1 y2 y3))[j]?) := fun W k hF hk => by
  have hkx : rs[k]? = some rs[k] := List.getElem?_eq_getElem hk
  obtain ⟨r2, h1, h2, h3, h4⟩ := aDh dW hkx
  obtain ⟨g, c, e2, l2, llo, hc2⟩ := pW hown (by omega)
  cases e2
  obtain ⟨p, n, y⟩ := r2
  simp only at h2 h3 h4
  obtain ⟨y1, y2, y3, rfl⟩ := aY.form 8 _ _ h4
  refine ⟨g, rs[k], y1, y2, y3, rfl, hkx, aY.low h4 hF.bl, fun j hj => ?_⟩
  have hg : g < lo := hv g rfl
  have hb : W.cell? ⟨g, k * 4 + j, none⟩ = w.cell? ⟨g, k * 4 + j, none⟩ := by
   have := hF.bl.block g hg
   simp [World.cell?, this]
  rw [hb, hc2 (k * 4 + j) (by omega), <- h2, <- h3]
  have h6 : (nH p n (.slice y1 y2 y3))[j]? = some ((nH p n (.slice y1 y2 y3))[j]'(by simpa using hj)) := Array.getElem?_eq_getElem _
  rw [h6]
  exact nV (fun r : Nat × NP × Value => (nH r.1 r.2.1 r.2.2).toList) 4 (fun _ => rfl) rows k _ h1 j _ (by simp)
 have h9 : Hid (Wt w lo wb l inl) := h
 have ht9 : Hid (Tb lo w) := ht
 have aNz : Hid (∀ r ∈ rs, pX 8 r.2.2) := hok
 have fP : Hid ((fQ (l, inl) rs ev).1.length <= 100000000000) := hlen
 rw [hlr]
 rw [hlr] at hmax
 clear hlen hok h ht hown hv dW
 go_enter Tryz.func78, Tryz.ntmps78
 go_wp2_with fail
 go_loopg [10] rs.length (fun q v wr => ∃ (k : Nat) (sk : Ws), v = .int .i64 k /\ k + q = rs.length /\ Hid (Fw lo wb w wr /\ Wt wr lo wb sk.1 sk.2 /\ fQ sk (rs.drop k) ev = fQ (l, inl) rs ev))
 case atStart => exact ⟨0, (l, inl), rfl, by omega, Fw.refl _ _ _, h9.out, rfl⟩
 case round =>
  obtain ⟨k, sk, rfl, hk, HJ⟩ := hrel
  obtain ⟨J1, J2, J3⟩ := HJ.out
  have hsr := J1.bl.size
  by_cases hkl : k < rs.length
  ·have t1 : decide ((k : Int) < (rs.length : Int)) = true := by simp; omega
   obtain ⟨g, r, y1, y2, y3, rfl, hd, hsl, hcl⟩ := hrow.out wr k J1 hkl
   have ix : ∀ W : World, (Instr.indexAt 145 (.slice (some ⟨g, 0, none⟩) rs.length vc) (.int .i64 k)).run Tryz.prog W = .ok (.pointer (some ⟨g, k * 4, none⟩)) W := by
    intro W
    rw [run_indexAt_slice (h := by kernel_rfl), if_pos (by omega)]
    have : (sizeOf (Tryz.prog.elem 145)).run Tryz.prog W = .ok 4 W := by kernel_rfl
    rw [this]
    simp [Result.andThen, Addr.add]
    omega
   have d0 : wr.cell? ⟨g, k * 4, none⟩ = some (.int .i64 r.1) := hcl 0 (by omega)
   have d1 : wr.cell? ⟨g, k * 4 + 1, none⟩ = some (S r.2.1.1) := hcl 1 (by omega)
   have d2 : wr.cell? ⟨g, k * 4 + 2, none⟩ = some (.int .i64 r.2.1.2) := hcl 2 (by omega)
   have d3 : wr.cell? ⟨g, k * 4 + 3, none⟩ = some (.slice y1 y2 y3) := hcl 3 (by omega)
   have e9 : Hid (fQ (zQ sk ev r) (rs.drop (k + 1)) ev = fQ (l, inl) rs ev) := (uD _ hd sk).symm.trans J3
   have hokr : pX 8 r.2.2 := aNz.out r (List.mem_of_getElem? hd)
   have hl4 : Hid ((zQ sk ev r).1.length <= 100000000000) := by
    have h1 := fP.out
    rw [<- e9.out] at h1
    exact Nat.le_trans (uU _ _ _) h1
   have B1 : Below wr.heap.size wr (wr.alloc (.cells (nH r.1 r.2.1 (.slice y1 y2 y3)) 206)) := (Below.refl _ wr).alloc zR _
   have b1 : (wr.alloc (.cells (nH r.1 r.2.1 (.slice y1 y2 y3)) 206)).heap[wr.heap.size]? = some (.cells (nH r.1 r.2.1 (.slice y1 y2 y3)) 206) := aC rfl
   have F1 : Fw lo wb w (wr.alloc (.cells (nH r.1 r.2.1 (.slice y1 y2 y3)) 206)) := J1.trans (Fw.of (by omega) B1)
   have J4 := J2.below B1
   have lwr := J2.lt
   have hnb : wr.heap.size ≠ wb := by omega
   have hs1 : (wr.alloc (.cells (nH r.1 r.2.1 (.slice y1 y2 y3)) 206)).heap.size = wr.heap.size + 1 := by simp
   have hbx : Hid (∀ W : World, Fw lo wb (wr.alloc (.cells (nH r.1 r.2.1 (.slice y1 y2 y3)) 206)) W -> W.heap[wr.heap.size]? = some (.cells (nH r.1 r.2.1 (.slice y1 y2 y3)) 206)) := fun W hW => hW.box b1 hnb (by decide)
   have hsl1 : Hid (aY 8 (wr.alloc (.cells (nH r.1 r.2.1 (.slice y1 y2 y3)) 206)) (fun g => g < lo) (.slice y1 y2 y3) r.2.2) := hsl.low (B1.mono (by omega))
   obtain ⟨c1, cf1⟩ := aA b1
   clear hcl hd HJ J3 J2 hsl b1
   by_cases hc : r.2.1.1 = ev
   ·have t2 : (r.2.1.1 == ev) = true := by simp [hc]
    have e8 : Hid (zQ sk ev r = nlS (dR 8 (fB sk [[111, 110], ev]) r.2.2)) := if_pos hc
    have hl5 := hl4.out
    rw [e8.out] at hl5
    have hl6 : (dR 8 (fB sk [[111, 110], ev]) r.2.2).1.length + 1 <= 100000000000 := by
     unfold nlS at hl5
     simpa using hl5
    have HT := yX (w := wr.alloc (.cells (nH r.1 r.2.1 (.slice y1 y2 y3)) 206)) (l := sk.1) (inl := sk.2) J4 [111, 110] ev (Nat.le_trans (jF 8 _ r.2.2) (Nat.le_of_lt hl6)) (by omega)
    rw [hs1] at HT
    have aSg : Hid ((dR 8 (fB sk [[111, 110], ev]) r.2.2).1.length + 1 <= 100000000000) := hl6
    clear hl5 hl6 hc J4
    go_wp2_with (go_at_call 112; refine HT.mono ?_; rintro r w3 ⟨rfl, q3, q4⟩; obtain ⟨c3, cf3⟩ := aA (hbx.out _ q3))
    have F3 := F1.trans q3
    have s3 := F3.bl.size
    refine (aRh 8 w3 (fB sk [[111, 110], ev]) _ r.2.2 q4 (ht9.out.fw F3) (by omega) (hsl1.out.low q3.bl) hokr (Nat.le_of_lt aSg.out)).mono ?_
    rintro r2 w4 ⟨rfl, p3, p4⟩
    have F4 := F3.trans p3
    have s4 := F4.bl.size
    go_wp2_with fail
    refine (aPj p4 aSg.out (by omega)).mono ?_
    rintro r2 w5 ⟨rfl, u3, u4⟩
    go_wp2_with fail
    go_roundg (gk - 1)
    case measure => omega
    case rel => exact ⟨k + 1, zQ sk ev r, by simp, by omega, F4.trans u3, by rw [e8.out]; exact u4, e9.out⟩
   ·have t2 : (r.2.1.1 == ev) = false := by simpa using hc
    have e8 : Hid (zQ sk ev r = sk) := if_neg hc
    clear hc
    go_wp2_with fail
    go_roundg (gk - 1)
    case measure => omega
    case rel => exact ⟨k + 1, zQ sk ev r, by simp, by omega, F1, by rw [e8.out]; exact J4, e9.out⟩
  ·have t1 : decide ((k : Int) < (rs.length : Int)) = false := by simp; omega
   have hsk : Hid (sk = fQ (l, inl) rs ev) := by
    rw [List.drop_eq_nil_of_le (by omega)] at J3
    exact J3
   clear J3 HJ
   go_wp2_with fail
   exact fH Tryz.results78 rfl ⟨rfl, J1, by rw [<- hsk.out]; exact J2⟩
end
section
variable {w : World}
theorem aRn {n : Nat} {x : List Dc × List (Nat × NP × BT 8)} (hT : aA7 w n x) (ht : Tb w.heap.size w) (hn : ∀ d ∈ x.1, d.num.1 <= 100000) (hok : ∀ r ∈ x.2, pX 8 r.2.2) (hlen : (Y9 x).1.length <= 100000000000) (h0 : (Y9 x).1 ≠ []) : Calls Tryz.prog 47 #[ptr n] w fun e w' => e = .returned (S (Y9 x).1) /\ Below w.heap.size w w' := by
 obtain ⟨vd, vr, rows, hP, hod, hou, dW⟩ := hT
 have ln := (zL hP)
 obtain ⟨lo, hlo⟩ : ∃ lo, lo = w.heap.size := ⟨_, rfl⟩
 have B : Below w.heap.size w (w.alloc (.cells #[.pointer none, .slice none 0 0, .bool false] 142)) := (Below.refl _ w).alloc zR _
 have hW : Wt (w.alloc (.cells #[.pointer none, .slice none 0 0, .bool false] 142)) lo lo [] false := ⟨⟨_, _, by rw [hlo]; exact aC rfl, Or.inl rfl, World.ownsRow_nil _ _ _ 1, by simp [Value.ownBlock]⟩, zR⟩
 have hsA : (w.alloc (.cells #[.pointer none, .slice none 0 0, .bool false] 142)).heap.size = w.heap.size + 1 := by simp
 have aO5 : iC (aY 8 (w.alloc (.cells #[.pointer none, .slice none 0 0, .bool false] 142)) (fun g => g < lo)) rows x.2 := iC.mono (fun v x h => aY.low (aY.mono 8 (fun g hg => by rw [hlo]; exact hg.2) _ _ (aY.there 8 v x h)) (B.mono (by omega))) _ _ dW
 have aN0 := aW hod (fun g _ hl => B.block g hl)
 have aR9 := aW hou (fun g _ hl => B.block g hl)
 have hvd : ∀ g, vd.ownBlock = some g -> g < lo := fun g e => by rw [hlo]; exact (hod.lt g e).2
 have hvr : ∀ g, vr.ownBlock = some g -> g < lo := fun g e => by rw [hlo]; exact (hou.lt g e).2
 have htA : Tb lo (w.alloc (.cells #[.pointer none, .slice none 0 0, .bool false] 142)) := by rw [hlo]; exact ht.mv B
 have hPA : Hid (∀ W : World, Fw lo lo (w.alloc (.cells #[.pointer none, .slice none 0 0, .bool false] 142)) W -> W.heap[n]? = some (.cells #[vd, vr] 147)) := fun W hF => (hF.bl.block n (by omega)).trans ((B.block n ln).trans hP)
 have c0 := aA (hPA.out _ (Fw.refl _ _ _))
 obtain ⟨c1, cf1⟩ := c0
 have hBz : Hid (∀ W : World, Fw lo lo (w.alloc (.cells #[.pointer none, .slice none 0 0, .bool false] 142)) W -> Below w.heap.size w W) := fun W hF => B.trans (by rw [<- hlo]; exact hF.bl)
 have hl4 : (kP (fun s (d : Dc) => fQ s x.2 d.name.1) (dX (dX ([], false) x.1 false) x.1 true) x.1).1.length <= 100000000000 := Nat.le_trans (uU _ _ _) hlen
 have hl3 : (dX (dX ([], false) x.1 false) x.1 true).1.length <= 100000000000 := Nat.le_trans (mM (fun s d => uU x.2 d.name.1 s) x.1 _) hl4
 have hl2 : (dX ([], false) x.1 false).1.length <= 100000000000 := Nat.le_trans (mM (fun s d => aCy true s d) x.1 _) hl3
 have HD1 := aI8 hW htA (by omega) x.1 false aN0 hvd hn hl2
 generalize hwA : w.alloc (.cells #[.pointer none, .slice none 0 0, .bool false] 142) = wA at *
 have hDs : Hid (∀ (W : World) (s : Ws) (f : Bool), Fw lo lo wA W -> Wt W lo lo s.1 s.2 -> (dX s x.1 f).1.length <= 100000000000 -> Calls Tryz.prog 77 #[.pointer (some ⟨lo, 0, none⟩), vd, .bool f] W (fJ W lo lo (dX s x.1 f))) := fun W s f hF hWt hl => aI8 hWt (htA.fw hF) (by have := hF.bl.size; omega) x.1 f (aW aN0 (fun g e _ => hF.bl.block g (hvd g e))) hvd hn hl
 have hRs : Hid (∀ (W : World) (s : Ws) (ev : List UInt8), Fw lo lo wA W -> Wt W lo lo s.1 s.2 -> (fQ s x.2 ev).1.length <= 100000000000 -> Calls Tryz.prog 78 #[.pointer (some ⟨lo, 0, none⟩), vr, S ev] W (fJ W lo lo (fQ s x.2 ev))) := fun W s ev hF hWt hl => aPg hWt (htA.fw hF) (by have := hF.bl.size; omega) x.2 rows ev (aW aR9 (fun g e _ => hF.bl.block g (hvr g e))) hvr (iC.mono (fun v x h => aY.low h hF.bl) _ _ aO5) hok hl
 have hmax : x.1.length <= 9223372036854775807 := by
  rcases hod.2 with ⟨h1, h2⟩ | ⟨g, cap, cur, h1, _, _, h2, h3, _⟩
  ·omega
  ·have : maxLen = 9223372036854775807 := rfl
   omega
 obtain ⟨va, vc, rfl⟩ := oG hod
 obtain ⟨ra, rc, rfl⟩ := oG hou
 have hrow : Hid (∀ (W : World) (k : Nat), Fw lo lo wA W -> k < x.1.length -> ∃ g d, va = some ⟨g, 0, none⟩ /\ x.1[k]? = some d /\ ∀ j, j < 6 -> W.cell? ⟨g, k * 6 + j, none⟩ = (eG d)[j]?) := fun W k hF hk => by
  have hkx : x.1[k]? = some x.1[k] := List.getElem?_eq_getElem hk
  obtain ⟨g, c, e2, l2, llo, hc2⟩ := pW aN0 (by omega)
  cases e2
  refine ⟨g, x.1[k], rfl, hkx, fun j hj => ?_⟩
  have hg : g < lo := hvd g rfl
  have hb : W.cell? ⟨g, k * 6 + j, none⟩ = wA.cell? ⟨g, k * 6 + j, none⟩ := by
   have := hF.bl.block g hg
   simp [World.cell?, this]
  rw [hb, hc2 (k * 6 + j) (by omega)]
  have h6 : (eG x.1[k])[j]? = some ((eG x.1[k])[j]'(by simpa using hj)) := Array.getElem?_eq_getElem _
  rw [h6]
  exact nV (fun d : Dc => (eG d).toList) 6 (fun _ => rfl) x.1 k _ hkx j _ (by simp)
 have aEj : Hid ((dX (dX ([], false) x.1 false) x.1 true).1.length <= 100000000000) := hl3
 have aTx : Hid ((kP (fun s (d : Dc) => fQ s x.2 d.name.1) (dX (dX ([], false) x.1 false) x.1 true) x.1).1.length <= 100000000000) := hl4
 have fP : Hid ((Y9 x).1.length <= 100000000000) := hlen
 have h09 : Hid ((Y9 x).1 ≠ []) := h0
 have aTv : Hid (lo = w.heap.size) := hlo
 clear hl2 hl3 hl4 hlen h0 aO5 aN0 aR9 hod hou dW hW hvd hvr hP htA hn hok ht B
 have hlw : w.heap.size = lo := hlo.symm
 clear hlo
 go_enter Tryz.func47, Tryz.ntmps47
 go_wp2_with (go_at_call 77; (fail_if_success (have := q2)); refine HD1.mono ?_; rintro r w2 ⟨rfl, q2, q3⟩; obtain ⟨c2, tC⟩ := aA (hPA.out _ q2))
 refine (hDs.out w2 _ true q2 q3 aEj.out).mono ?_
 rintro r w3 ⟨rfl, p2, p3⟩
 have F3 := q2.trans p2
 obtain ⟨c3, cf3⟩ := aA (hPA.out _ F3)
 go_wp2_with fail
 go_loopg [25] x.1.length (fun q v wr => ∃ (k : Nat) (sk : Ws), v = .int .i64 k /\ k + q = x.1.length /\ Hid (Fw lo lo wA wr /\ Wt wr lo lo sk.1 sk.2 /\ kP (fun s (d : Dc) => fQ s x.2 d.name.1) sk (x.1.drop k) = kP (fun s (d : Dc) => fQ s x.2 d.name.1) (dX (dX ([], false) x.1 false) x.1 true) x.1))
 case atStart => exact ⟨0, dX (dX ([], false) x.1 false) x.1 true, rfl, by omega, F3, p3, rfl⟩
 case round =>
  obtain ⟨k, sk, rfl, hk, HJ⟩ := hrel
  obtain ⟨J1, J2, J3⟩ := HJ.out
  have hsr := J1.bl.size
  obtain ⟨c4, cf4⟩ := aA (hPA.out _ J1)
  by_cases hkl : k < x.1.length
  ·have t1 : decide ((k : Int) < (x.1.length : Int)) = true := by simp; omega
   obtain ⟨g, d, rfl, hd, hcl⟩ := hrow.out wr k J1 hkl
   have ix : ∀ W : World, (Instr.indexAt 144 (.slice (some ⟨g, 0, none⟩) x.1.length vc) (.int .i64 k)).run Tryz.prog W = .ok (.pointer (some ⟨g, k * 6, none⟩)) W := by
    intro W
    rw [run_indexAt_slice (h := by kernel_rfl), if_pos (by omega)]
    have : (sizeOf (Tryz.prog.elem 144)).run Tryz.prog W = .ok 6 W := by kernel_rfl
    rw [this]
    simp [Result.andThen, Addr.add]
    omega
   have d0 : wr.cell? ⟨g, k * 6, none⟩ = some (S d.word) := hcl 0 (by omega)
   have d1 : wr.cell? ⟨g, k * 6 + 1, none⟩ = some (.int .i64 d.pos) := hcl 1 (by omega)
   have d2 : wr.cell? ⟨g, k * 6 + 2, none⟩ = some (S d.name.1) := hcl 2 (by omega)
   have d3 : wr.cell? ⟨g, k * 6 + 3, none⟩ = some (.int .i64 d.name.2) := hcl 3 (by omega)
   have d4 : wr.cell? ⟨g, k * 6 + 4, none⟩ = some (.int .i64 d.num.1) := hcl 4 (by omega)
   have d5 : wr.cell? ⟨g, k * 6 + 5, none⟩ = some (.int .i64 d.num.2) := hcl 5 (by omega)
   have e9 : Hid (kP (fun s (d : Dc) => fQ s x.2 d.name.1) (fQ sk x.2 d.name.1) (x.1.drop (k + 1)) = kP (fun s (d : Dc) => fQ s x.2 d.name.1) (dX (dX ([], false) x.1 false) x.1 true) x.1) := (uD _ hd sk).symm.trans J3
   have hl5 : (fQ sk x.2 d.name.1).1.length <= 100000000000 := by
    have h1 := aTx.out
    rw [<- e9.out] at h1
    exact Nat.le_trans (mM (fun s (d : Dc) => uU x.2 d.name.1 s) _ _) h1
   have B1 : Below wr.heap.size wr (wr.alloc (.cells (eG d) 153)) := (Below.refl _ wr).alloc zR _
   have b1 : (wr.alloc (.cells (eG d) 153)).heap[wr.heap.size]? = some (.cells (eG d) 153) := aC rfl
   have F1 : Fw lo lo wA (wr.alloc (.cells (eG d) 153)) := J1.trans (Fw.of (by omega) B1)
   have F1d : Fw lo lo wA (wr.alloc (.cells (eG d) 153)).drew := F1.trans (Fw.of (by have := F1.bl.size; omega) ((Below.refl _ _).drew))
   have J4 : Wt (wr.alloc (.cells (eG d) 153)).drew lo lo sk.1 sk.2 := (J2.below B1).below ((Below.refl _ _).drew)
   obtain ⟨c5, cf5⟩ := aA b1
   obtain ⟨c6, cf6⟩ := aA (hPA.out _ F1)
   have HR := hRs.out _ sk d.name.1 F1d J4 hl5
   clear hcl hd HJ J3 J2 b1 J4
   go_upto_region 7 with fail
   go_region_with (go_at_call 78; refine HR.mono ?_; rintro r w4 ⟨rfl, u2, u3⟩)
   all_goals
    go_wp2_with fail
    go_roundg (gk - 1)
    case measure => omega
    case rel => exact ⟨k + 1, fQ sk x.2 d.name.1, by simp, by omega, F1d.trans u2, u3, e9.out⟩
  ·have t1 : decide ((k : Int) < (x.1.length : Int)) = false := by simp; omega
   have hsk : Hid (sk = kP (fun s (d : Dc) => fQ s x.2 d.name.1) (dX (dX ([], false) x.1 false) x.1 true) x.1) := by
    rw [List.drop_eq_nil_of_le (by omega)] at J3
    exact J3
   have e9 : Hid (fQ sk x.2 [109, 105, 115, 115] = Y9 x) := by rw [hsk.out]; rfl
   clear J3 HJ
   go_wp2_with fail
   refine (hRs.out wr sk [109, 105, 115, 115] J1 J2 (by rw [e9.out]; exact fP.out)).mono ?_
   rintro r w4 ⟨rfl, u2, u3⟩
   rw [e9.out] at u3
   have F4 := J1.trans u2
   go_wp2_with fail
   refine (aL2 u3 h09.out (by have := fP.out; omega)).mono ?_
   rintro r w5 ⟨rfl, v2⟩
   have hB5 : Hid (Below w.heap.size w w5) := (hBz.out w4 F4).trans (by rw [<- aTv.out]; exact v2)
   go_wp2_with fail
   go_ret
   exact ⟨rfl, hB5.out⟩
end
end Go.Proofs.YtfddoieakfpagaaGreatDoor
