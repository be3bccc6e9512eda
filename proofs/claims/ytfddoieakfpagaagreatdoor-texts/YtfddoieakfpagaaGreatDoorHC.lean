import Derived.Deep.OwnRows
import Derived.Test.YtfddoieakfpagaaGreatDoorGC
import Derived.Test.YtfddoieakfpagaaGreatDoorGE
import Derived.Test.YtfddoieakfpagaaGreatDoorHB
import Derived.Test.YtfddoieakfpagaaGreatDoorHA
import Derived.Test.YtfddoieakfpagaaGreatDoorGB
import Derived.Test.YtfddoieakfpagaaGreatDoorGD
namespace Go.Proofs.YtfddoieakfpagaaGreatDoor
set_option maxHeartbeats 4000000
set_option maxRecDepth 20000
open Go.RowKit
structure Nd where
 key : Nat
 aQo : Nat
 queue : Nat
 prev : Nat
 next : Int
abbrev ndA (n : Nd) : Array Value := #[.int .u64 n.key, .int .i64 n.aQo, .int .i64 n.queue, .int .i64 n.prev, .int .i64 n.next]
def I5 (l : List Nd) : List Value := l.flatMap fun n => (ndA n).toList
abbrev qA (q : Nat × Nat) : Array Value := #[.int .i64 q.1, .int .i64 q.2]
def G9 (l : List (Nat × Nat)) : List Value := l.flatMap fun q => (qA q).toList
theorem aEw (l : List Nd) (n : Nd) : I5 (l ++ [n]) = I5 l ++ (ndA n).toList := by simp [I5]
theorem aEu (l : List (Nat × Nat)) (q : Nat × Nat) : G9 (l ++ [q]) = G9 l ++ (qA q).toList := by simp [G9]
theorem aNi (n : Nd) : ∀ u ∈ (ndA n).toList, u.oneCell' = true := by
 have h : (ndA n).toList.all (·.oneCell') = true := by simp [Value.oneCell']
 exact fun u hu => List.all_eq_true.1 h u hu
theorem aP3 (q : Nat × Nat) : ∀ u ∈ (qA q).toList, u.oneCell' = true := by
 have h : (qA q).toList.all (·.oneCell') = true := by simp [Value.oneCell']
 exact fun u hu => List.all_eq_true.1 h u hu
theorem aNt : (Tryz.prog.info? 233).map (fun i => (i.zero, i.size, i.bytes)) = some (some (.agg (ndA ⟨0, 0, 0, 0, 0⟩)), 5, 40) := by kernel_rfl
theorem aQc : (Tryz.prog.info? 235).map (fun i => (i.zero, i.size, i.bytes)) = some (some (.agg (qA (0, 0))), 2, 16) := by kernel_rfl
def nds (n : Nat) : List Nd := (List.range n).map fun (q : Nat) => (⟨0, 0, q, q, q⟩ : Nd)
theorem aKb (n : Nat) : nds (n + 1) = nds n ++ [⟨0, 0, n, n, n⟩] := by simp [nds, List.range_succ]
structure A0 (w : World) (ab mb : Nat) (x y : Value) (nodes : List Nd) (qs : List (Nat × Nat)) : Prop where
 at' : w.heap[ab]? = some (.cells #[x, .int .i64 (-1), .map (some mb), y] 231)
 mp : w.heap[mb]? = some (.map #[] 0)
 nd : w.ownsRow (ab + 1) 233 5 x nodes.length (I5 nodes)
 qu : w.ownsRow (ab + 1) 235 2 y qs.length (G9 qs)
 sep : ∀ g, x.ownBlock = some g -> y.ownBlock ≠ some g
 lt : mb < ab
theorem aQa (g o n cap k : Nat) (hk : k < n) : ∀ W : World, (Instr.indexAt 102 (.slice (some ⟨g, o, none⟩) n cap) (.int .i64 k)).run Tryz.prog W = .ok (.pointer (some ⟨g, o + k, none⟩)) W := by
 intro W
 rw [run_indexAt_slice (h := by kernel_rfl), if_pos (by omega)]
 have : (sizeOf (Tryz.prog.elem 102)).run Tryz.prog W = .ok 1 W := by kernel_rfl
 rw [this]
 simp [Result.andThen, Addr.add]
theorem uX {w : World} (lo : Nat) (v : Value) (gY : List Nat) (hr : w.ownsRow lo 3 1 v gY.length (gY.map fun (n : Nat) => Value.int .i64 n)) (hn : gY.length <= 1000) (hb : ∀ r ∈ gY, r <= 1000) :
  Calls Tryz.prog 67 #[v] w fun e w' => ∃ ab mb x y, e = .returned (ptr ab) /\ A0 w' ab mb x y (nds gY.length) (gY.map fun (r : Nat) => (0, r)) /\ w.heap.size <= mb /\ Below w.heap.size w w' := by
 obtain ⟨va, vk, vc, rfl⟩ := aU hr
 have hvk : vk = gY.length := by
  rcases hr.2 with ⟨h1, h2⟩ | ⟨g, cap, cur, h1, _⟩
  ·simp at h1; omega
  ·simp at h1; exact h1.2.1
 subst hvk
 have hmm := @run_makeMap Tryz.prog
 go_enter Tryz.func67, Tryz.ntmps67
 go_wp2_with fail
 go_loopg [11] gY.length (fun f v11 wr => ∃ (k : Nat) (x y : Value), v11 = .int .i64 k /\ k + f = gY.length /\ A0 wr (w.heap.size + 1) w.heap.size x y (nds k) ((gY.take k).map fun (r : Nat) => (0, r)) /\ Below w.heap.size w wr)
 case atStart =>
  refine ⟨0, aF, aF, rfl, by omega, ⟨aC (by simp), (zM _ _ _ (by simp)).trans (aC rfl), World.ownsRow_nil _ _ _ _, World.ownsRow_nil _ _ _ _, fun g hg => by simp [Value.ownBlock] at hg, by omega⟩, ((Below.refl _ w).alloc zR _).alloc (by simp) _⟩
 case round =>
  obtain ⟨k, x, y, rfl, hk, h, HB⟩ := hrel
  have hz := HB.size
  by_cases hlt : k < gY.length
  ·have hrk : wr.ownsRow lo 3 1 (.slice va gY.length vc) gY.length (gY.map fun (n : Nat) => Value.int .i64 n) := aW hr (fun g _ hl => HB.block g hl)
   obtain ⟨g, rfl⟩ : ∃ g, va = some ⟨g, 0, none⟩ := by
    rcases hr.2 with ⟨_, h2⟩ | ⟨g, cap, cur, h1, _⟩
    ·omega
    ·simp at h1; exact ⟨g, h1.1⟩
   have hc0 : wr.cell? ⟨g, k, none⟩ = some (.int .i64 gY[k]) := by
    have := hrk.cellAt k (by omega)
    rw [this]
    simp [hlt]
   have hix := aQa g 0 gY.length vc k hlt
   simp only [Nat.zero_add] at hix
   have hrb : gY[k] <= 1000 := hb _ (List.getElem_mem hlt)
   have htk : (gY.take (k + 1)).map (fun (r : Nat) => (0, r)) = (gY.take k).map (fun (r : Nat) => (0, r)) ++ [(0, gY[k])] := by
    rw [List.take_add_one, List.getElem?_eq_getElem hlt, List.map_append]; rfl
   have HTK : Hid ((gY.take (k + 1)).map (fun (r : Nat) => (0, r)) = (gY.take k).map (fun (r : Nat) => (0, r)) ++ [(0, gY[k])]) := htk
   clear htk hrk
   have hnl : (nds k).length = k := by simp [nds]
   have hql : ((gY.take k).map fun (r : Nat) => (0, r)).length = k := by simp; omega
   generalize gY[k] = rk at *
   generalize ((gY.take k).map fun (r : Nat) => (0, r)) = qs at *
   obtain ⟨xa, xk, xc, rfl⟩ := aU h.nd
   obtain ⟨ya, yk, yc, rfl⟩ := aU h.qu
   have hab : w.heap.size + 1 < wr.heap.size := (zL h.at')
   obtain ⟨c1, cf1⟩ := aA h.at'
   obtain ⟨i0, hi, hz0, hz1, hz2⟩ := info_parts aNt
   obtain ⟨j0, hj, hy0, hy1, hy2⟩ := info_parts aQc
   have hx1 : ∀ g, (Value.slice xa xk xc).ownBlock = some g -> w.heap.size + 2 <= g /\ g < wr.heap.size := fun g hg => h.nd.lt g hg
   have hx2 : ∀ g, (Value.slice ya yk yc).ownBlock = some g -> w.heap.size + 2 <= g /\ g < wr.heap.size := fun g hg => h.qu.lt g hg
   go_upto_region 5 with fail
   refine wp_region_lit ?_
   iterate 30 go_step
   refine wpList_append_own_at _ rfl (.tmp 20) (.tmp 25) 228 rfl (w.heap.size + 2) 233 i0 (.agg (ndA ⟨0, 0, 0, 0, 0⟩)) 5 40 Tryz.underlying228 hi hz0 hz1 hz2 rfl (by decide) (.slice xa xk xc) (nds k).length (I5 (nds k)) (by simp [Act.eval]) (aW h.nd (fun g _ hl => zM _ _ _ hl)) ⟨wr.heap.size, 0, none⟩ 1 1 (ndA ⟨0, 0, k, k, k⟩).toList (by simp [Act.eval]) rfl (dY wr (ndA ⟨0, 0, k, k, k⟩) 233) (aNi _) (by simp only [maxLen]; omega) (by omega) (by simp; omega) ?_
   intro v' w6 hown6 hgrow _ hat
   obtain ⟨za, zk, zc, rfl⟩ := aU hown6
   have a6 : w6.heap[w.heap.size + 1]? = some (.cells #[.slice xa xk xc, .int .i64 (-1), .map (some w.heap.size), .slice ya yk yc] 231) := (hgrow.block _ (by simp; omega) (fun e => by have := hx1 _ e.symm; omega)).trans ((zM _ _ _ hab).trans h.at')
   have m6 : w6.heap[w.heap.size]? = some (.map #[] 0) := (hgrow.block _ (by simp; omega) (fun e => by have := hx1 _ e.symm; omega)).trans ((zM _ _ _ (by omega)).trans h.mp)
   have q6 : w6.ownsRow (w.heap.size + 2) 235 2 (.slice ya yk yc) qs.length (G9 qs) := aW h.qu (fun g hg hl => (hgrow.block g (by simp; omega) (fun e => h.sep g e.symm hg)).trans (zM _ _ _ hl))
   have z6 := hgrow.size
   have z6 : wr.heap.size + 1 <= w6.heap.size := by simpa using z6
   have B6 : Below w.heap.size w w6 := by
    have h0 := HB.alloc hz (.cells (ndA ⟨0, 0, k, k, k⟩) 233)
    exact ⟨hgrow.os.trans h0.os, hgrow.tape.trans h0.tape, hgrow.output.trans h0.output, Nat.le_trans h0.size hgrow.size, fun i hi => (hgrow.block i (by simp; omega) (fun e => by have := hx1 _ e.symm; omega)).trans (h0.block i hi)⟩
   obtain ⟨c6, cf6⟩ := aA a6
   have a7 := zC w6 (w.heap.size + 1) 0 (.slice za zk zc) _ _ a6
   have hz6 : ∀ g, (Value.slice za zk zc).ownBlock = some g -> w.heap.size + 2 <= g := fun g hg => (hown6.lt g hg).1
   have n7 : (w6.setCell ⟨w.heap.size + 1, 0, none⟩ (.slice za zk zc)).ownsRow (w.heap.size + 2) 233 5 (.slice za zk zc) ((nds k).length + 1) (I5 (nds k) ++ (ndA ⟨0, 0, k, k, k⟩).toList) := aW hown6 (fun g hg _ => zS _ _ _ _ (by have := hz6 g hg; show g ≠ w.heap.size + 1; omega))
   have q7 : (w6.setCell ⟨w.heap.size + 1, 0, none⟩ (.slice za zk zc)).ownsRow (w.heap.size + 2) 235 2 (.slice ya yk yc) qs.length (G9 qs) := aW q6 (fun g hg _ => zS _ _ _ _ (by have := (q6.lt g hg).1; show g ≠ w.heap.size + 1; omega))
   have m7 := (zS w6 ⟨w.heap.size + 1, 0, none⟩ (.slice za zk zc) w.heap.size (by show w.heap.size ≠ w.heap.size + 1; omega)).trans m6
   have B7 := B6.setCell (p := ⟨w.heap.size + 1, 0, none⟩) (show w.heap.size <= w.heap.size + 1 by omega) (.slice za zk zc)
   have z7 : (w6.setCell ⟨w.heap.size + 1, 0, none⟩ (.slice za zk zc)).heap.size = w6.heap.size := by simp [World.setCell]
   have hsep : ∀ g, (Value.slice za zk zc).ownBlock = some g -> (Value.slice ya yk yc).ownBlock ≠ some g := fun g hg hg2 => by
    rcases hat with e | e
    ·exact h.sep g (e.symm.trans hg) hg2
    ·have h1 := e.symm.trans hg
     have h2 := (hx2 g hg2).2
     simp at h1
     omega
   clear c1 cf1 hgrow hown6 hat q6 m6 h
   go_upto_region 6 with fail
   generalize w6.setCell ⟨w.heap.size + 1, 0, none⟩ (.slice za zk zc) = w7 at *
   have aT2 : w.heap.size + 1 < w7.heap.size := (zL a7)
   have a7 : w7.heap[w.heap.size + 1]? = some (.cells #[.slice za zk zc, .int .i64 (-1), .map (some w.heap.size), .slice ya yk yc] 231) := a7
   obtain ⟨c7, cf7⟩ := aA a7
   have hy2 := hy2
   refine wp_region_lit ?_
   iterate 24 go_step
   refine wpList_append_own_at _ rfl (.tmp 33) (.tmp 36) 229 rfl (w.heap.size + 2) 235 j0 (.agg (qA (0, 0))) 2 16 Tryz.underlying229 hj hy0 hy1 hy2 rfl (by decide) (.slice ya yk yc) qs.length (G9 qs) (by simp [Act.eval]) (aW q7 (fun g _ hl => zM _ _ _ hl)) ⟨w7.heap.size, 0, none⟩ 1 1 (qA (0, rk)).toList (by simp [Act.eval]) rfl (dY w7 (qA (0, rk)) 235) (aP3 _) (by simp only [maxLen]; omega) (by omega) (by simp; omega) ?_
   intro v' w8 aKt hgrow _ hat
   obtain ⟨ta, tk, tc, rfl⟩ := aU aKt
   have hy7 : ∀ g, (Value.slice ya yk yc).ownBlock = some g -> w.heap.size + 2 <= g := fun g hg => (q7.lt g hg).1
   have a8 : w8.heap[w.heap.size + 1]? = some (.cells #[.slice za zk zc, .int .i64 (-1), .map (some w.heap.size), .slice ya yk yc] 231) := (hgrow.block _ (by simp; omega) (fun e => by have := hy7 _ e.symm; omega)).trans ((zM _ _ _ aT2).trans a7)
   have m8 : w8.heap[w.heap.size]? = some (.map #[] 0) := (hgrow.block _ (by simp; omega) (fun e => by have := hy7 _ e.symm; omega)).trans ((zM _ _ _ (by omega)).trans m7)
   have n8 : w8.ownsRow (w.heap.size + 2) 233 5 (.slice za zk zc) ((nds k).length + 1) (I5 (nds k) ++ (ndA ⟨0, 0, k, k, k⟩).toList) := aW n7 (fun g hg hl => (hgrow.block g (by simp; omega) (fun e => hsep g hg e.symm)).trans (zM _ _ _ hl))
   have B8 : Below w.heap.size w w8 := by
    have h0 := B7.alloc (show w.heap.size <= w7.heap.size by omega) (.cells (qA (0, rk)) 235)
    exact ⟨hgrow.os.trans h0.os, hgrow.tape.trans h0.tape, hgrow.output.trans h0.output, Nat.le_trans h0.size hgrow.size, fun i hi => (hgrow.block i (by simp; omega) (fun e => by have := hy7 _ e.symm; omega)).trans (h0.block i hi)⟩
   obtain ⟨c8, cf8⟩ := aA a8
   go_wp2_with fail
   go_roundg (gk - 1)
   case measure => omega
   case rel =>
    refine ⟨k + 1, .slice za zk zc, .slice ta tk tc, by simp, by omega, ⟨(zC _ _ 3 _ _ _ a8).trans rfl, (zS _ _ _ _ (by show w.heap.size ≠ w.heap.size + 1; omega)).trans m8, ?_, ?_, ?_, by omega⟩, B8.setCell (p := ⟨w.heap.size + 1, 3, none⟩) (show w.heap.size <= w.heap.size + 1 by omega) _⟩
    ·rw [aKb, aEw, List.length_append]
     exact aW n8 (fun g hg _ => zS _ _ _ _ (by have := (n8.lt g hg).1; show g ≠ w.heap.size + 1; omega))
    ·rw [HTK.out, aEu, List.length_append]
     exact aW aKt (fun g hg _ => zS _ _ _ _ (by have := (aKt.lt g hg).1; show g ≠ w.heap.size + 1; omega))
    ·intro g hg hg2
     rcases hat with e | e
     ·exact hsep g hg (e.symm.trans hg2)
     ·have h1 := e.symm.trans hg2
      have h2 := (n7.lt g hg).2
      simp at h1
      omega
  ·have hkn : k = gY.length := by omega
   subst hkn
   go_wp2_with fail
   go_ret
   exact ⟨_, _, x, y, rfl, by simpa using h, zR, HB⟩
theorem aHo (w : World) (a : Addr) (u : Value) (o : Obj) (h : a.block < w.heap.size) : (w.setCell a u).alloc o = (w.alloc o).setCell a u := by
 simp only [World.setCell, World.alloc]
 congr 1
 apply Array.ext_getElem?
 intro i
 simp only [Array.getElem?_push, Array.getElem?_modify, Array.size_modify]
 by_cases e : i = w.heap.size
 ·subst e
  rw [if_pos rfl, if_neg (by omega), if_pos rfl]
 ·rw [if_neg e, if_neg e]
def PgF (w : World) (lo hi rb : Nat) (v : Nat -> Value) (c : Cc) : Prop := ∃ wp : World, Pg wp lo rb v c /\ wp.heap.size <= hi /\ ∀ g, lo <= g -> g < wp.heap.size -> w.heap[g]? = wp.heap[g]?
theorem PgF.move {w w' : World} {lo hi rb : Nat} {v : Nat -> Value} {c : Cc} (h : PgF w lo hi rb v c) (hb : ∀ g, lo <= g -> g < hi -> w'.heap[g]? = w.heap[g]?) : PgF w' lo hi rb v c := by
 obtain ⟨wp, h1, h2, h3⟩ := h
 exact ⟨wp, h1, h2, fun g hg hl => (hb g hg (by omega)).trans (h3 g hg hl)⟩
abbrev mcA (v : Nat -> Value) (mf rb : Nat) (a s : Value) : Array Value := #[v 0, v 1, v 2, v 5, v 3, .int .i64 mf, .map (some rb), a, s]
def M0 (w : World) (lo mb : Nat) (c : Cc) : Prop := ∃ v rb ab mp x y vs, w.heap[mb]? = some (.cells (mcA v c.mf rb (ptr ab) vs) 129) /\ PgF w lo mb rb v c /\ A0 w ab mp x y (nds c.ro.length) (c.ro.map fun (r : Nat) => (0, r)) /\ mb < mp /\
 w.ownsRow (mb + 1) 3 1 vs c.mo.length (List.replicate c.mo.length (.int .i64 0)) /\ ∀ g, vs.ownBlock = some g -> g ≠ ab /\ g ≠ mp /\ x.ownBlock ≠ some g /\ y.ownBlock ≠ some g
theorem A0.lts {w : World} {ab mb : Nat} {x y : Value} {nodes : List Nd} {qs : List (Nat × Nat)} (h : A0 w ab mb x y nodes qs) : ab < w.heap.size /\ mb < w.heap.size /\ (∀ g, x.ownBlock = some g -> ab < g /\ g < w.heap.size) /\ ∀ g, y.ownBlock = some g -> ab < g /\ g < w.heap.size :=
 ⟨(zL h.at'), (zL h.mp), fun g hg => h.nd.lt g hg, fun g hg => h.qu.lt g hg⟩
theorem A0.move {w w' : World} {ab mb : Nat} {x y : Value} {nodes : List Nd} {qs : List (Nat × Nat)} (h : A0 w ab mb x y nodes qs) (hb : ∀ g, mb <= g -> g < w.heap.size -> w'.heap[g]? = w.heap[g]?) : A0 w' ab mb x y nodes qs := by
 obtain ⟨l1, l2, l3, l4⟩ := h.lts
 have := h.lt
 exact ⟨(hb ab (by omega) l1).trans h.at', (hb mb zR l2).trans h.mp, aW h.nd (fun g hg hl => hb g (by have := l3 g hg; omega) hl), aW h.qu (fun g hg hl => hb g (by have := l4 g hg; omega) hl), h.sep, h.lt⟩
theorem new_any (HT : rY) (HP : sW) {w : World} (n : Nat) (vd vr : Value) (ds : List Dc) (rows : List (Nat × NP × Value)) (rs : List (Nat × NP × BT 8))
  (hP : w.heap[n]? = some (.cells #[vd, vr] 147)) (hod : w.ownsRow (n + 1) 153 6 vd ds.length (lW ds)) (hou : w.ownsRow (n + 1) 206 4 vr rows.length (mF rows)) (dW : iC (aY 8 w (fun g => n + 1 <= g)) rows rs)
  (hd7 : ∀ d ∈ ds, d.name.1.length <= 700) (hdw : ∀ d ∈ ds, d.word = [113, 117, 101, 117, 101] \/ d.word = [103, 104, 111, 115, 116] \/ d.word = [118, 97, 114] \/ d.word = [102, 114, 101, 113]) (hr7 : ∀ r ∈ rs, r.2.1.1.length <= 700 /\ cZ 8 r.2.2) (hrc : ∀ r ∈ rs, bP 8 r.2.2 <= 800000) (hdn : ds.length <= 900) (hrn : rs.length <= 900)
  (hro : (rs.foldl Cc.dS (ds.foldl Cc.jH qL)).ro.length <= 1000 /\ (∀ r ∈ (rs.foldl Cc.dS (ds.foldl Cc.jH qL)).ro, r <= 1000) /\ (rs.foldl Cc.dS (ds.foldl Cc.jH qL)).mo.length <= 1000) :
  Calls Tryz.prog 40 #[ptr n] w fun e w' => ∃ m, e = .returned (ptr m) /\ Below w.heap.size w w' /\ w.heap.size <= m /\ M0 w' w.heap.size m (rs.foldl Cc.dS (ds.foldl Cc.jH qL)) := by
 have HC := aC5 HT HP n vd vr ds rows rs hP hod hou dW hd7 hdw hr7 hrc hdn hrn
 generalize rs.foldl Cc.dS (ds.foldl Cc.jH qL) = c at *
 obtain ⟨hr1, hr2, hr3⟩ := hro
 clear hP hod hou dW hd7 hdw hr7 hrc hdn hrn HT HP
 go_enter Tryz.func40, Tryz.ntmps40
 go_wp2_with fail
 refine HC.mono ?_
 rintro e w1 ⟨v, rb, rfl, hpg, B1⟩
 clear HC
 have o2 : w1.ownsRow w.heap.size 3 1 (v 2) c.ro.length (c.ro.map fun (n : Nat) => Value.int .i64 n) := hpg.own 2 (by decide) (by decide)
 have form : ∀ i, i < 6 -> i ≠ 4 -> ∃ a k, v i = .slice a (c.num i) k := fun i hi h4 => by
  rcases (hpg.own i hi h4).2 with ⟨h1, h2⟩ | ⟨g, cap, cur, h1, _⟩
  ·exact ⟨none, 0, by rw [h1, h2]⟩
  ·exact ⟨_, _, h1⟩
 obtain ⟨x0, y0, f0⟩ := form 0 (by decide) (by decide)
 obtain ⟨x1, y1, f1⟩ := form 1 (by decide) (by decide)
 obtain ⟨x2, y2, f2⟩ := form 2 (by decide) (by decide)
 obtain ⟨x3, y3, f3⟩ := form 3 (by decide) (by decide)
 obtain ⟨x5, y5, f5⟩ := form 5 (by decide) (by decide)
 have f2 : v 2 = .slice x2 c.ro.length y2 := f2
 have f3 : v 3 = .slice x3 c.mo.length y3 := f3
 clear form
 have z1 := B1.size
 have HF : Hid (∀ (w' : World) (vs : Value) (ab : Nat), w'.heap[w1.heap.size]? = some (.cells #[.slice x0 (c.num 0) y0, .slice x1 (c.num 1) y1, .slice x2 c.ro.length y2, .slice x5 (c.num 5) y5, .slice x3 c.mo.length y3, .int .i64 c.mf, .map (some rb), ptr ab, vs] 129) -> (∀ g, g < w1.heap.size -> w'.heap[g]? = w1.heap[g]?) -> (∃ mp x y, A0 w' ab mp x y (nds c.ro.length) (c.ro.map fun (r : Nat) => (0, r)) /\ w1.heap.size < mp /\ w'.ownsRow (w1.heap.size + 1) 3 1 vs c.mo.length (List.replicate c.mo.length (.int .i64 0)) /\ ∀ g, vs.ownBlock = some g -> g ≠ ab /\ g ≠ mp /\ x.ownBlock ≠ some g /\ y.ownBlock ≠ some g) -> M0 w' w.heap.size w1.heap.size c) := by
  intro w' vs ab h1 h2 ⟨mp, x, y, h3, h4, h5, h6⟩
  refine ⟨v, rb, ab, mp, x, y, vs, ?_, ⟨w1, hpg, zR, fun g _ hl => h2 g hl⟩, h3, h4, h5, h6⟩
  rw [h1, mcA, f0, f1, f2, f3, f5]
 clear hpg
 rw [f0, f1, f2, f3, f5]
 rw [f2] at o2
 clear f0 f1 f2 f3 f5
 generalize c.num 0 = n0 at *
 generalize c.num 1 = n1 at *
 generalize c.num 5 = n5 at *
 go_upto_region 2 with fail
 have b2 : (w1.alloc (.cells #[.slice x0 n0 y0, .slice x1 n1 y1, .slice x2 c.ro.length y2, .slice x5 n5 y5, .slice x3 c.mo.length y3, .int .i64 c.mf, .map (some rb), .pointer none, aF] 129)).heap[w1.heap.size]? = some (.cells #[.slice x0 n0 y0, .slice x1 n1 y1, .slice x2 c.ro.length y2, .slice x5 n5 y5, .slice x3 c.mo.length y3, .int .i64 c.mf, .map (some rb), .pointer none, aF] 129) := aC rfl
 have B2 := B1.alloc z1 (.cells #[.slice x0 n0 y0, .slice x1 n1 y1, .slice x2 c.ro.length y2, .slice x5 n5 y5, .slice x3 c.mo.length y3, .int .i64 c.mf, .map (some rb), .pointer none, aF] 129)
 have o2' : (w1.alloc (.cells #[.slice x0 n0 y0, .slice x1 n1 y1, .slice x2 c.ro.length y2, .slice x5 n5 y5, .slice x3 c.mo.length y3, .int .i64 c.mf, .map (some rb), .pointer none, aF] 129)).ownsRow w.heap.size 3 1 (.slice x2 c.ro.length y2) c.ro.length (c.ro.map fun (n : Nat) => Value.int .i64 n) := aW o2 (fun g _ hl => zM _ _ _ hl)
 have E2 : Hid (∀ g, g < w1.heap.size -> (w1.alloc (.cells #[.slice x0 n0 y0, .slice x1 n1 y1, .slice x2 c.ro.length y2, .slice x5 n5 y5, .slice x3 c.mo.length y3, .int .i64 c.mf, .map (some rb), .pointer none, aF] 129)).heap[g]? = w1.heap[g]?) := fun g hl => zM _ _ _ hl
 have hsz : (w1.alloc (.cells #[.slice x0 n0 y0, .slice x1 n1 y1, .slice x2 c.ro.length y2, .slice x5 n5 y5, .slice x3 c.mo.length y3, .int .i64 c.mf, .map (some rb), .pointer none, aF] 129)).heap.size = w1.heap.size + 1 := by simp
 generalize w1.alloc (.cells #[.slice x0 n0 y0, .slice x1 n1 y1, .slice x2 c.ro.length y2, .slice x5 n5 y5, .slice x3 c.mo.length y3, .int .i64 c.mf, .map (some rb), .pointer none, aF] 129) = w2 at *
 have hmb : w.heap.size <= w1.heap.size := z1
 generalize w1.heap.size = mb at *
 have aCi : mb < w2.heap.size := by omega
 have HSZ : Hid (w2.heap.size = mb + 1) := hsz
 clear hsz
 have hmk := fun W => run_make_row' (P := Tryz.prog) 102 3 (.int .i64 0) 8 Tryz.underlying102 yG rfl .i64 .i64 c.mo.length (by omega) (by omega) W
 have hML := toList_madeCells_one (.int .i64 0) c.mo.length
 have hMS := size_madeCells #[.int .i64 0] c.mo.length
 generalize madeCells #[.int .i64 0] c.mo.length = M at *
 have hvs : Hid (∀ (W : World), mb + 1 <= W.heap.size -> (W.alloc (.cells M 3)).ownsRow (mb + 1) 3 1 (.slice (some ⟨W.heap.size, 0, none⟩) c.mo.length c.mo.length) c.mo.length (List.replicate c.mo.length (.int .i64 0))) := by
  intro W hW
  have := World.ownsRow_lit (base := mb + 1) (e := 3) (size := 1) W M c.mo.length hW (by simp only [maxLen]; omega) (by rw [hMS]; omega)
  rw [hML] at this
  exact this
 clear hML hMS
 have HF2 : Hid (∀ (W : World) (vs : Value) (ab : Nat), W.heap[mb]? = some (.cells #[.slice x0 n0 y0, .slice x1 n1 y1, .slice x2 c.ro.length y2, .slice x5 n5 y5, .slice x3 c.mo.length y3, .int .i64 c.mf, .map (some rb), .pointer none, aF] 129) -> (∀ g, g < mb -> W.heap[g]? = w1.heap[g]?) -> (∃ mp x y, A0 W ab mp x y (nds c.ro.length) (c.ro.map fun (r : Nat) => (0, r)) /\ mb < mp /\ W.ownsRow (mb + 1) 3 1 vs c.mo.length (List.replicate c.mo.length (.int .i64 0)) /\ ∀ g, vs.ownBlock = some g -> g ≠ ab /\ g ≠ mp /\ x.ownBlock ≠ some g /\ y.ownBlock ≠ some g) -> M0 ((W.setCell ⟨mb, 7, none⟩ (ptr ab)).setCell ⟨mb, 8, none⟩ vs) w.heap.size mb c) := by
  intro W vs ab h1 h2 ⟨mp, x, y, h3, h4, h5, h6⟩
  have hsc : ∀ (g : Nat), g ≠ mb -> ((W.setCell ⟨mb, 7, none⟩ (ptr ab)).setCell ⟨mb, 8, none⟩ vs).heap[g]? = W.heap[g]? := fun g hg => (zS _ ⟨mb, 8, none⟩ _ g hg).trans (zS _ ⟨mb, 7, none⟩ _ g hg)
  refine HF.out _ vs ab ((zC _ _ 8 _ _ _ (zC _ _ 7 _ _ _ h1)).trans rfl) (fun g hl => (hsc g (by omega)).trans (h2 g hl)) ⟨mp, x, y, h3.move (fun g hg _ => hsc g (by omega)), h4, aW h5 (fun g hg _ => hsc g (by have := (h5.lt g hg).1; omega)), h6⟩
 clear HF
 have HN1 := uX (w := w2.drew) w.heap.size _ c.ro (aW o2' (fun _ _ _ => rfl)) hr1 hr2
 have HN2 := uX (w := (w2.alloc (.cells M 3)).drew) w.heap.size _ c.ro (aW o2' (fun _ _ hl => zM _ _ _ hl)) hr1 hr2
 have b2a := (zM w2 (.cells M 3) _ aCi).trans b2
 obtain ⟨c2, tC⟩ := aA b2
 obtain ⟨c2a, aVt⟩ := aA b2a
 have HN1 : Hid _ := HN1
 have HN2 : Hid _ := HN2
 go_region_law (refine mX rfl ?_; go_simp; go_at_call 67; go_must (first | (refine Calls.mono HN1.out ?_; rintro e w3 ⟨ab, mp, xx, yy, rfl, hA, hmp, B3⟩; have b3 := (B3.block mb aCi).trans b2; obtain ⟨c3, cf3⟩ := aA b3; obtain ⟨c3a, aVs⟩ := aA ((zM w3 (.cells M 3) _ (zL b3)).trans b3); have B4 : Below w.heap.size w w3 := (mO B2).trans (B3.mono (show w.heap.size <= w2.heap.size from B2.size)); have aTd : mb < 0 \/ True := Or.inr trivial; have aTt : w2.heap.size <= mp := hmp; have E3 : Hid (∀ g, g < mb -> w3.heap[g]? = w1.heap[g]?) := (fun g hl => (B3.block g (Nat.lt_trans hl aCi)).trans (E2.out g hl))) | (refine Calls.mono HN2.out ?_; rintro e w3 ⟨ab, mp, xx, yy, rfl, hA, hmp, B3⟩; have aTt : w2.heap.size + 1 <= mp := (by simpa using hmp); have b3 := (B3.block mb (Nat.lt_of_lt_of_le aCi (by simp))).trans b2a; obtain ⟨c3, cf3⟩ := aA b3; have B4 : Below w.heap.size w w3 := (mO (B2.alloc B2.size _)).trans (B3.mono (show w.heap.size <= (w2.alloc (.cells M 3)).heap.size from (B2.alloc B2.size _).size)); have E3 : Hid (∀ g, g < mb -> w3.heap[g]? = w1.heap[g]?) := (fun g hl => (B3.block g (Nat.lt_of_lt_of_le (Nat.lt_trans hl aCi) (by simp))).trans ((zM w2 _ g (Nat.lt_trans hl aCi)).trans (E2.out g hl))); have hv3 : w3.ownsRow (mb + 1) 3 1 (.slice (some ⟨w2.heap.size, 0, none⟩) c.mo.length c.mo.length) c.mo.length (List.replicate c.mo.length (.int .i64 0)) := aW (hvs.out w2 (by have := HSZ.out; omega)) (fun g _ hl => B3.block g hl))))
 all_goals
  go_wp2_with fail
  go_ret
  obtain ⟨l1, l2, l3, l4⟩ := hA.lts
  have l5 := hA.lt
  have l6 := HSZ.out
  first
   | exact ⟨mb, rfl, ((B4.setCell (p := ⟨mb, 7, none⟩) hmb _).setCell (p := ⟨mb, 8, none⟩) hmb _), hmb, HF2.out w3 _ ab b3 E3.out ⟨mp, xx, yy, hA, by omega, hv3, fun g hg => by
     have hg : w2.heap.size = g := by simpa [Value.ownBlock] using hg
     exact ⟨by omega, by omega, fun e => by have := l3 g e; omega, fun e => by have := l4 g e; omega⟩⟩⟩
   | (
     have b4 := (zM w3 (.cells M 3) mb (zL b3)).trans b3
     have hb3 : mb < w3.heap.size := (zL b3)
     have HM := HF2.out (w3.alloc (.cells M 3)) _ ab b4 (fun g hl => (zM w3 _ g (by omega)).trans (E3.out g hl)) ⟨mp, xx, yy, hA.move (fun g _ hl => zM w3 _ g hl), by omega, hvs.out w3 (by omega), fun g hg => by
     have hg : w3.heap.size = g := by simpa [Value.ownBlock] using hg
     exact ⟨by omega, by omega, fun e => by have := l3 g e; omega, fun e => by have := l4 g e; omega⟩⟩
     have BM : Below w.heap.size w (((w3.alloc (.cells M 3)).setCell ⟨mb, 7, none⟩ (ptr ab)).setCell ⟨mb, 8, none⟩ (.slice (some ⟨w3.heap.size, 0, none⟩) c.mo.length c.mo.length)) := ((B4.alloc B4.size _).setCell (p := ⟨mb, 7, none⟩) hmb _).setCell (p := ⟨mb, 8, none⟩) hmb _
     first
     | exact ⟨mb, rfl, BM, hmb, HM⟩
     | (
       rw [aHo _ _ _ _ hb3]
       simp only [World.setCell, Array.size_modify]
       exact ⟨mb, rfl, BM, hmb, HM⟩))
theorem aMp : rY := fun _ _ _ _ _ _ _ h x hx hl => aIn h x hx hl
theorem aNg {w : World} (n : Nat) (vd vr : Value) (ds : List Dc) (rows : List (Nat × NP × Value)) (rs : List (Nat × NP × BT 8))
  (hP : w.heap[n]? = some (.cells #[vd, vr] 147)) (hod : w.ownsRow (n + 1) 153 6 vd ds.length (lW ds)) (hou : w.ownsRow (n + 1) 206 4 vr rows.length (mF rows)) (dW : iC (aY 8 w (fun g => n + 1 <= g)) rows rs)
  (hd7 : ∀ d ∈ ds, d.name.1.length <= 700) (hdw : ∀ d ∈ ds, d.word = [113, 117, 101, 117, 101] \/ d.word = [103, 104, 111, 115, 116] \/ d.word = [118, 97, 114] \/ d.word = [102, 114, 101, 113]) (hr7 : ∀ r ∈ rs, r.2.1.1.length <= 700 /\ cZ 8 r.2.2) (hrc : ∀ r ∈ rs, bP 8 r.2.2 <= 800000) (hdn : ds.length <= 900) (hrn : rs.length <= 900)
  (hro : (rs.foldl Cc.dS (ds.foldl Cc.jH qL)).ro.length <= 1000 /\ (∀ r ∈ (rs.foldl Cc.dS (ds.foldl Cc.jH qL)).ro, r <= 1000) /\ (rs.foldl Cc.dS (ds.foldl Cc.jH qL)).mo.length <= 1000) :
  Calls Tryz.prog 40 #[ptr n] w fun e w' => ∃ m, e = .returned (ptr m) /\ Below w.heap.size w w' /\ w.heap.size <= m /\ M0 w' w.heap.size m (rs.foldl Cc.dS (ds.foldl Cc.jH qL)) :=
 new_any aMp aIt n vd vr ds rows rs hP hod hou dW hd7 hdw hr7 hrc hdn hrn hro
theorem aPv {β : Type} {blk : Nat -> Tok -> PR β} {z : β} {l : List UInt8} {lo : Nat} (f : β -> Nat) (hz : f z = 0) (hb : ∀ lo t x t', blk lo t = .ok (x, t') -> f x + 4 * t.pos <= 4 * t'.pos) {t t' : Tok} {x : St × β × β} (h : dB blk z l lo t = .ok (x, t')) : 4 + f x.2.1 + f x.2.2 + 4 * t.pos <= 4 * t'.pos := by
 unfold dB at h
 split at h
 ·rename_i hw
  have h0 := oH l t _ hw (by decide)
  unfold ifS at h
  obtain ⟨c, t1, h1, h⟩ := aB h
  obtain ⟨x1, t2, h2, h⟩ := aB h
  have := aAy h1; have := hb _ _ _ _ h2
  split at h
  ·obtain ⟨y, t3, h3, h⟩ := aB h
   have := hb _ _ _ _ h3; have := fK l t2
   cases h; simp only; omega
  ·cases h; simp only; omega
 ·split at h
  ·rename_i hw
   have h0 := oH l t _ hw (by decide)
   unfold pV at h
   split at h
   ·cases h
   ·obtain ⟨n, t1, h1, h⟩ := aB h
    obtain ⟨_, t2, h2, h⟩ := aB h
    obtain ⟨c, t3, h3, h⟩ := aB h
    obtain ⟨y, t4, h4, h⟩ := aB h
    have := aGa h1; have := aAf h2; have := aAy h3; have := hb _ _ _ _ h4
    cases h; simp only; omega
  ·obtain ⟨s, t1, h1, h⟩ := aB h
   have := aF8 h1
   cases h; simp only; omega
theorem aFw {β : Type} {bJ : Tok -> PR (St × β × β)} {l : List UInt8} (f : β -> Nat) (hs : ∀ t x t', bJ t = .ok (x, t') -> 4 + f x.2.1 + f x.2.2 + 4 * t.pos <= 4 * t'.pos) : ∀ (n : Nat) (t t' : Tok) (xs : List (St × β × β)), dQ bJ l n t = .ok (xs, t') -> iZ f xs + 4 * t.pos <= 4 * t'.pos
 | 0, _, _, _, h => by cases h
 | n + 1, t, t', xs, h => by
  unfold dQ at h
  split at h
  ·cases h; have := fK l t; simp only [iZ]; omega
  ·obtain ⟨x, t1, h1, h⟩ := aB h
   obtain ⟨ys, t2, h2, h⟩ := aB h
   have := hs _ _ _ h1; have := aFw f hs n t1 t2 ys h2
   cases h; simp only [iZ]; omega
theorem aLk : ∀ d, bP d (aZ d) = 0
 | 0 => rfl
 | _ + 1 => rfl
theorem aHa {l : List UInt8} : ∀ (d lo : Nat) (t : Tok) (x : BT d) (t' : Tok), aJ l d lo t = .ok (x, t') -> bP d x + 4 * t.pos <= 4 * t'.pos
 | 0, _, _, _, _, h => by unfold aJ at h; split at h <;> cases h
 | d + 1, lo, t, x, t', h => by
  by_cases hc : t.txt = [123]
  ·have e := (jC l d lo t hc).symm.trans h
   have := aFw (bP d) (fun t x t' h => aPv (bP d) (aLk d) (fun lo t x t' => aHa d lo t x t') h) _ _ _ _ e
   have := fK l t
   show iZ (bP d) x + _ <= _
   omega
  ·have e := (lF l d lo t hc).symm.trans h
   cases e
theorem aOg {s : List UInt8} (h : iD s = true) : s = [113, 117, 101, 117, 101] \/ s = [103, 104, 111, 115, 116] \/ s = [118, 97, 114] \/ s = [102, 114, 101, 113] := by
 simp only [iD, Bool.or_eq_true, beq_iff_eq] at h
 rcases h with ((h | h) | h) | h
 ·exact .inl h
 ·exact .inr (.inl h)
 ·exact .inr (.inr (.inl h))
 ·exact .inr (.inr (.inr h))
theorem aQu {l : List UInt8} {t t' : Tok} {x : Dc} (h : eX l t = .ok (x, t')) : x.word = t.txt := by
 unfold eX at h
 split at h
 ·obtain ⟨n, t1, _, h⟩ := aB h
  obtain ⟨_, t2, _, h⟩ := aB h
  cases h; rfl
 ·obtain ⟨m, t1, _, h⟩ := aB h
  obtain ⟨n, t2, _, h⟩ := aB h
  obtain ⟨_, t3, _, h⟩ := aB h
  cases h; rfl
theorem aG0 {l : List UInt8} : ∀ (n : Nat) (t t' : Tok) (ds : List Dc), dD l n t = .ok (ds, t') -> (∀ d ∈ ds, d.word = [113, 117, 101, 117, 101] \/ d.word = [103, 104, 111, 115, 116] \/ d.word = [118, 97, 114] \/ d.word = [102, 114, 101, 113]) /\ ds.length + t.pos <= t'.pos
 | 0, _, _, _, h => by cases h
 | n + 1, t, t', ds, h => by
  unfold dD at h
  split at h
  ·rename_i hd
   obtain ⟨d, t1, h1, h⟩ := aB h
   obtain ⟨es, t2, h2, h⟩ := aB h
   have hw := aQu h1
   have hm := aAu hd h1
   have ih := aG0 n t1 t2 es h2
   cases h
   refine ⟨fun x hx => ?_, by simp only [List.length_cons]; have := ih.2; omega⟩
   rcases List.mem_cons.1 hx with rfl | hx
   ·rw [hw]; exact aOg hd
   ·exact ih.1 x hx
  ·cases h
   exact ⟨fun _ hx => (by cases hx), by simp⟩
theorem aPx {l : List UInt8} {t t' : Tok} {x : Nat × NP × BT 8} (h : gV l t = .ok (x, t')) : bP 8 x.2.2 <= 4 * t'.pos := by
 unfold gV at h
 obtain ⟨n, t1, _, h⟩ := aB h
 obtain ⟨y, t2, h2, h⟩ := aB h
 have := aHa 8 0 t1 y t2 h2
 cases h
 simp only
 omega
theorem o6 {l : List UInt8} : ∀ (n : Nat) (t t' : Tok) (rs : List (Nat × NP × BT 8)), bY l n t = .ok (rs, t') -> (∀ r ∈ rs, bP 8 r.2.2 <= 4 * t'.pos) /\ rs.length + t.pos <= t'.pos
 | 0, _, _, _, h => by cases h
 | n + 1, t, t', ds, h => by
  unfold bY at h
  split at h
  ·rename_i hd
   obtain ⟨d, t1, h1, h⟩ := aB h
   obtain ⟨es, t2, h2, h⟩ := aB h
   have hw := aPx h1
   have hm := aDw hd h1
   have ih := o6 n t1 t2 es h2
   cases h
   refine ⟨fun x hx => ?_, by simp only [List.length_cons]; have := ih.2; omega⟩
   rcases List.mem_cons.1 hx with rfl | hx
   ·have := ih.2; omega
   ·exact ih.1 x hx
  ·cases h
   exact ⟨fun _ hx => (by cases hx), by simp⟩
theorem jO {s : Ck} {e : Nat × Nat} (h : s.first = some e) (i p : Nat) : (s.fault i p).first = some e := by unfold Ck.fault; rw [h]; exact h
theorem rJ {s : Ck} {e : Nat × Nat} (h : s.first = some e) (n : NP) (k : Nat) : (s.use n k).first = some e := by
 unfold Ck.use
 split
 ·exact jO h _ _
 ·split
  ·exact h
  ·exact jO h _ _
theorem aCo {s : Ck} {e : Nat × Nat} (h : s.first = some e) (v p m : Nat) : (s.bound v p m).first = some e := by
 unfold Ck.bound
 split
 ·exact jO h _ _
 ·exact h
theorem qB {c : Prop} [Decidable c] {a b : Ck} {e : Nat × Nat} (ha : a.first = some e) (hb : b.first = some e) : (if c then a else b).first = some e := by by_cases h : c <;> simp [h, ha, hb]
theorem G5 {s : Ck} {e : Nat × Nat} (h : s.first = some e) (v : Vl) : (s.value v).first = some e := qB (rJ h _ _) (qB (rJ h _ _) h)
theorem aGt {s : Ck} {e : Nat × Nat} (h : s.first = some e) (x : Cd) : (s.cond x).first = some e := qB (G5 (G5 h _) _) (rJ h _ _)
theorem aGr {β : Type} {blk : Ck -> β -> Ck} {e : Nat × Nat} (hb : ∀ s x, s.first = some e -> (blk s x).first = some e) {s : Ck} (h : s.first = some e) (r : St × β × β) : (s.stmt blk r).first = some e := by
 unfold Ck.stmt
 repeat' (first | exact h | apply qB | apply hb | apply rJ | apply aGt | apply aCo | apply jO)
theorem vP {α : Type} {f : Ck -> α -> Ck} {e : Nat × Nat} (hf : ∀ s x, s.first = some e -> (f s x).first = some e) : ∀ (l : List α) (s : Ck), s.first = some e -> (l.foldl f s).first = some e
 | [], _, h => h
 | x :: l, s, h => vP hf l (f s x) (hf s x h)
theorem lV {e : Nat × Nat} : ∀ (d : Nat) (s : Ck) (x : BT d), s.first = some e -> (s.block d x).first = some e
 | 0, _, _, h => h
 | d + 1, s, x, h => vP (fun _s r h => aGr (fun s x h => lV d s x h) h r) x s h
theorem rO {s : Ck} {e : Nat × Nat} (h : s.first = some e) (p : Nat) (n : NP) : (s.fO p n).first = some e := qB (jO (s := s.count n) h _ _) h
theorem rM {s : Ck} {e : Nat × Nat} (h : s.first = some e) (n : NP) : (s.rule2 n).first = some e := qB h (rJ h _ _)
theorem aGs {s : Ck} {e : Nat × Nat} (h : s.first = some e) (r : Nat × NP × BT 8) : (s.rule r).first = some e := lV 8 _ _ (rM (rO h _ _) _)
theorem gQ {s s' : Ck} (hf : ∀ e, s.first = some e -> s'.first = some e) (h : s'.first = none) : s.first = none := by
 cases hs : s.first with
 | none => rfl
 | some e => rw [hf e hs] at h; cases h
theorem aEm {s : Ck} {e : Nat × Nat} (h : s.first = some e) (n : NP) (k : Nat) : (s.declare n k).first = some e := by
 unfold Ck.declare
 split
 ·exact jO h _ _
 ·exact qB (jO h _ _) h
theorem aN8 {s : Ck} {e : Nat × Nat} (h : s.first = some e) (d : Dc) : (s.decl d).first = some e := by
 unfold Ck.decl
 repeat' (first | exact h | apply qB | apply aCo | apply aEm | apply jO)
theorem aN7 {s : Ck} {e : Nat × Nat} (h : s.first = some e) : (missS s).first = some e := qB (jO h _ _) h
theorem iY {s : Ck} {i p : Nat} : (s.fault i p).first ≠ none := by
 unfold Ck.fault
 cases h : s.first with
 | none => simp
 | some e => simp [h]
theorem qM {s : Ck} {v p m : Nat} (h : (s.bound v p m).first = none) : s.first = none /\ 1 <= v /\ v <= m /\ s.bound v p m = s := by
 unfold Ck.bound at h ⊢
 split at h
 ·exact absurd h iY
 ·rename_i hc
  rw [if_neg hc]
  exact ⟨h, by omega, by omega, rfl⟩
theorem vS {s : Ck} {n : NP} {k : Nat} (h : (s.declare n k).first = none) : s.first = none /\ look n.1 s.names = none /\ s.names.length ≠ 8 /\ s.declare n k = { s with names := (n.1, k) :: s.names } := by
 unfold Ck.declare at h ⊢
 split at h
 ·exact absurd h iY
 ·rename_i hl
  split at h
  ·exact absurd h iY
  ·rename_i hc
   rw [hl]
   simp only
   rw [if_neg hc]
   exact ⟨h, trivial, hc, rfl⟩
theorem X9 {s : Ck} {d : Dc} (h : (s.decl d).first = none) : s.first = none /\
  (d.word = [113, 117, 101, 117, 101] \/ d.word = [103, 104, 111, 115, 116] -> 1 <= d.num.1 /\ d.num.1 <= 50 /\ look d.name.1 s.names = none /\ s.names.length ≠ 8 /\ (s.decl d).names = (d.name.1, 0) :: s.names) /\
  (d.word = [118, 97, 114] -> 1 <= d.num.1 /\ d.num.1 <= 99 /\ look d.name.1 s.names = none /\ s.names.length ≠ 8 /\ (s.decl d).names = (d.name.1, 1) :: s.names) /\
  (d.word = [102, 114, 101, 113] -> 1 <= d.num.1 /\ d.num.1 <= 99 /\ s.aO = 0 /\ (s.decl d).aO = 1 /\ (s.decl d).names = s.names) := by
 have hs : s.first = none := gQ (fun _ he => aN8 he d) h
 refine ⟨hs, ?_, ?_, ?_⟩
 ·intro hw
  have e : s.decl d = (s.declare d.name 0).bound d.num.1 d.num.2 50 := by unfold Ck.decl; rw [if_pos hw]
  rw [e] at h ⊢
  obtain ⟨h1, h2, h3, h4⟩ := qM h
  obtain ⟨_, h5, h6, h7⟩ := vS h1
  exact ⟨h2, h3, h5, h6, by rw [h4, h7]⟩
 ·intro hw
  have e : s.decl d = (s.declare d.name 1).bound d.num.1 d.num.2 99 := by unfold Ck.decl; rw [if_neg (by rw [hw]; decide), if_pos hw]
  rw [e] at h ⊢
  obtain ⟨h1, h2, h3, h4⟩ := qM h
  obtain ⟨_, h5, h6, h7⟩ := vS h1
  exact ⟨h2, h3, h5, h6, by rw [h4, h7]⟩
 ·intro hw
  have e : s.decl d = (if s.aO + 1 > 1 then ({ s with aO := s.aO + 1 } : Ck).fault 2 d.pos else { s with aO := s.aO + 1 }).bound d.num.1 d.num.2 99 := by unfold Ck.decl; rw [if_neg (by rw [hw]; decide), if_neg (by rw [hw]; decide), if_pos hw]
  rw [e] at h ⊢
  obtain ⟨h1, h2, h3, h4⟩ := qM h
  split at h1
  ·exact absurd h1 iY
  ·rename_i hc
   rw [h4, if_neg hc]
   exact ⟨h2, h3, by omega, by show s.aO + 1 = 1; omega, rfl⟩
theorem lC : ∀ (ds : List Dc) (s : Ck), (ds.foldl Ck.decl s).first = none -> s.first = none /\ ∀ d ∈ ds, (d.word = [113, 117, 101, 117, 101] \/ d.word = [103, 104, 111, 115, 116] -> 1 <= d.num.1 /\ d.num.1 <= 50) /\ (d.word = [118, 97, 114] -> 1 <= d.num.1 /\ d.num.1 <= 99) /\ (d.word = [102, 114, 101, 113] -> 1 <= d.num.1 /\ d.num.1 <= 99)
 | [], _, h => ⟨h, fun _ hd => (by cases hd)⟩
 | d :: ds, s, h => by
  obtain ⟨h1, h2⟩ := lC ds (s.decl d) h
  obtain ⟨h3, h4, h5, h6⟩ := X9 h1
  refine ⟨h3, fun x hx => ?_⟩
  rcases List.mem_cons.1 hx with rfl | hx
  ·exact ⟨fun k => ⟨(h4 k).1, (h4 k).2.1⟩, fun k => ⟨(h5 k).1, (h5 k).2.1⟩, fun k => ⟨(h6 k).1, (h6 k).2.1⟩⟩
  ·exact h2 x hx
theorem jA {ds : List Dc} {rs : List (Nat × NP × BT 8)} (h : (jB ds rs).first = none) : (rs.foldl Ck.rule (ds.foldl Ck.decl qR)).first = none /\ (ds.foldl Ck.decl qR).first = none := by
 have h1 : (rs.foldl Ck.rule (ds.foldl Ck.decl qR)).first = none := gQ (fun _ he => aN7 he) h
 exact ⟨h1, gQ (fun _ he => vP (fun s x hx => aGs hx x) rs _ he) h1⟩
def Cc.bare (c : Cc) : Cc := { c with st := [], lp := 0 }
theorem aJk {β : Type} {blk : Cc -> β -> Cc} (hb : ∀ c x, (blk c x).bare = c.bare) (c : Cc) (r : St × β × β) : (c.bJ blk r).bare = c.bare := by
 unfold Cc.bJ
 split
 ·unfold Cc.ifs
  simp only
  have h1 := hb (c.add (c.nM r.1.cond)) r.2.1
  generalize blk (c.add (c.nM r.1.cond)) r.2.1 = c2 at *
  have h2 := hb ((c2.add (jL 0)).land c.st.length) r.2.2
  exact h2.trans h1
 ·split
  ·rw [x9]
   have h1 := hb (c.c3 r.1).up r.2.1
   exact h1
  ·rfl
theorem X3 {β : Type} {blk : Cc -> β -> Cc} (hb : ∀ c x, (blk c x).bare = c.bare) : ∀ (xs : List (St × β × β)) (c : Cc), (List.foldl (fun c r => c.bJ blk r) c xs).bare = c.bare
 | [], _ => rfl
 | r :: xs, c => (X3 hb xs (c.bJ blk r)).trans (aJk hb c r)
theorem aDd : ∀ (d : Nat) (c : Cc) (x : BT d), (c.blk d x).bare = c.bare
 | 0, _, _ => rfl
 | d + 1, c, x => X3 (fun c x => aDd d c x) x c
def Cc.core (c : Cc) : Cc := { c with st := [], lp := 0, rt := [] }
theorem aOj {c c' : Cc} (h : c.bare = c'.bare) : c.core = c'.core := by
 have : c.bare.core = c'.bare.core := by rw [h]
 exact this
theorem aJn (c : Cc) (r : Nat × NP × BT 8) : (c.dS r).core = c.core := by
 have := aOj (aDd 8 c r.2.2)
 exact this
theorem mQ : ∀ (rs : List (Nat × NP × BT 8)) (c : Cc), (rs.foldl Cc.dS c).core = c.core
 | [], _ => rfl
 | r :: rs, c => (mQ rs (c.dS r)).trans (aJn c r)
theorem Y0 : ∀ (ds : List Dc) (c : Cc) (k : Nat), c.upto k -> (ds.foldl Cc.jH c).upto (k + ds.length)
 | [], _, _, h => h
 | d :: ds, c, k, h => by
  have := Y0 ds (c.jH d) (k + 1) (aCz h d).1
  rw [List.length_cons, show k + (ds.length + 1) = k + 1 + ds.length by omega]
  exact this
theorem aQv {c : Cc} {d : Dc} {k : Nat} (h : ∀ r ∈ c.ro, r <= k) (hd : d.word = [113, 117, 101, 117, 101] \/ d.word = [103, 104, 111, 115, 116] -> d.num.1 <= k) : ∀ r ∈ (c.jH d).ro, r <= k := by
 unfold Cc.jH
 intro r hr
 split at hr
 ·rename_i hw
  rcases List.mem_append.1 hr with hr | hr
  ·exact h r hr
  ·rcases List.mem_singleton.1 hr with rfl; exact hd (.inl hw)
 ·split at hr
  ·rename_i hw
   rcases List.mem_append.1 hr with hr | hr
   ·exact h r hr
   ·rcases List.mem_singleton.1 hr with rfl; exact hd (.inr hw)
  ·split at hr
   ·exact h r hr
   ·split at hr
    ·exact h r hr
    ·exact h r hr
theorem aG2 {k : Nat} : ∀ (ds : List Dc) (c : Cc), (∀ r ∈ c.ro, r <= k) -> (∀ d ∈ ds, d.word = [113, 117, 101, 117, 101] \/ d.word = [103, 104, 111, 115, 116] -> d.num.1 <= k) -> ∀ r ∈ (ds.foldl Cc.jH c).ro, r <= k
 | [], _, h, _ => h
 | d :: ds, c, h, hd => aG2 ds (c.jH d) (aQv h (hd d List.mem_cons_self)) (fun x hx => hd x (List.mem_cons_of_mem _ hx))
def kU (x : List Dc × List (Nat × NP × BT 8)) : Cc := x.2.foldl Cc.dS (x.1.foldl Cc.jH qL)
structure Fine (x : List Dc × List (Nat × NP × BT 8)) : Prop where
 d7 : ∀ d ∈ x.1, d.name.1.length <= 700
 dw : ∀ d ∈ x.1, d.word = [113, 117, 101, 117, 101] \/ d.word = [103, 104, 111, 115, 116] \/ d.word = [118, 97, 114] \/ d.word = [102, 114, 101, 113]
 r7 : ∀ r ∈ x.2, r.2.1.1.length <= 700 /\ cZ 8 r.2.2
 rc : ∀ r ∈ x.2, bP 8 r.2.2 <= 800000
 dn : x.1.length <= 900
 rn : x.2.length <= 900
 ck : (jB x.1 x.2).first = none
theorem kC {l : List UInt8} {x : List Dc × List (Nat × NP × BT 8)} (h : dM l = .ok x) : Fine x := by
 unfold dM at h
 split at h
 ·cases h
 ·rename_i hl
  have hG := W9 (l := l) (by omega) (t := aN l 0) (oO l 0 (Nat.zero_le _))
  cases hp : dH l (aN l 0) with
  | error e => rw [hp] at h; cases h
  | ok p =>
   obtain ⟨y, t'⟩ := p
   rw [hp] at h
   simp only at h
   obtain ⟨⟨q1, q2, q3, q4⟩, _⟩ := hG y t' hp
   cases hc : (jB y.1 y.2).first with
   | some e => rw [hc] at h; cases h
   | none =>
    rw [hc] at h
    simp only [Except.ok.injEq] at h
    subst h
    unfold dH at hp
    obtain ⟨ds, t1, h1, hp⟩ := aB hp
    obtain ⟨rs, t2, h2, hp⟩ := aB hp
    have ht1 := (vO _ _ (oO l 0 (Nat.zero_le _)) ds t1 h1).2
    have ht2 := (vN (by omega) _ t1 ht1 rs t2 h2).2
    have k1 := aG0 _ _ _ _ h1
    have k2 := o6 _ _ _ _ h2
    unfold qF at hp
    split at hp
    ·simp only [Except.ok.injEq, Prod.mk.injEq] at hp
     obtain ⟨rfl, _⟩ := hp
     refine ⟨q1, k1.1, q2, fun r hr => ?_, q3, q4, hc⟩
     have := k2.1 r hr
     unfold Tk at ht2
     omega
    ·cases hp
theorem Fine.ro {x : List Dc × List (Nat × NP × BT 8)} (h : Fine x) : (kU x).ro.length <= 1000 /\ (∀ r ∈ (kU x).ro, r <= 1000) /\ (kU x).mo.length <= 1000 := by
 have e := mQ x.2 (x.1.foldl Cc.jH qL)
 have e1 : (kU x).ro = (x.1.foldl Cc.jH qL).ro := by have := congrArg Cc.ro e; exact this
 have e2 : (kU x).mo = (x.1.foldl Cc.jH qL).mo := by have := congrArg Cc.mo e; exact this
 have hu := Y0 x.1 qL 0 ⟨zR, zR, zR, zR, zR, zR⟩
 obtain ⟨_, _, _, u4, u5, _⟩ := hu
 have := h.dn
 have hk := (lC x.1 qR (jA h.ck).2).2
 rw [e1, e2]
 exact ⟨by omega, fun r hr => Nat.le_trans (aG2 (k := 50) x.1 qL (fun _ hr => (by cases hr)) (fun d hd hw => ((hk d hd).1 hw).2) r hr) (by omega), by omega⟩
def aA7 (w : World) (n : Nat) (x : List Dc × List (Nat × NP × BT 8)) : Prop := ∃ vd vr rows, w.heap[n]? = some (.cells #[vd, vr] 147) /\ w.ownsRow (n + 1) 153 6 vd x.1.length (lW x.1) /\ w.ownsRow (n + 1) 206 4 vr rows.length (mF rows) /\ iC (aY 8 w (fun g => n + 1 <= g)) rows x.2
theorem M0.below {w w' : World} {lo mb : Nat} {c : Cc} (h : M0 w lo mb c) (hb : Below w.heap.size w w') : M0 w' lo mb c := by
 obtain ⟨v, rb, ab, mp, x, y, vs, h1, h2, h3, h4, h5, h6⟩ := h
 have l := (zL h1)
 exact ⟨v, rb, ab, mp, x, y, vs, (hb.block mb l).trans h1, h2.move (fun g _ hl => hb.block g (by omega)), h3.move (fun g _ hl => hb.block g hl), h4, aW h5 (fun g _ hl => hb.block g hl), h6⟩
def tV (w : World) (n hi : Nat) (x : List Dc × List (Nat × NP × BT 8)) : Prop := ∃ wp : World, aA7 wp n x /\ wp.heap.size <= hi /\ ∀ g, n <= g -> g < wp.heap.size -> w.heap[g]? = wp.heap[g]?
theorem tV.move {w w' : World} {n hi : Nat} {x : List Dc × List (Nat × NP × BT 8)} (h : tV w n hi x) (hb : ∀ g, n <= g -> g < hi -> w'.heap[g]? = w.heap[g]?) : tV w' n hi x := by
 obtain ⟨wp, h1, h2, h3⟩ := h
 exact ⟨wp, h1, h2, fun g hg hl => (hb g hg (by omega)).trans (h3 g hg hl)⟩
theorem tV.tree {w : World} {n hi : Nat} {x : List Dc × List (Nat × NP × BT 8)} (h : tV w n hi x) : aA7 w n x := by
 obtain ⟨wp, h1, h2, h3⟩ := h
 obtain ⟨vd, vr, rows, hP, hod, hou, hrel⟩ := h1
 have hl := (zL hP)
 exact ⟨vd, vr, rows, (h3 n zR hl).trans hP, aW hod (fun g hg hl => h3 g (by have := (hod.lt g hg).1; omega) hl), aW hou (fun g hg hl => h3 g (by have := (hou.lt g hg).1; omega) hl), iC.mono (fun v x h => aY.move 8 (fun g hg hl => h3 g (by omega) hl) v x h) _ _ hrel⟩
def aS0 (w : World) (r : Except (Nat × Nat) (List Dc × List (Nat × NP × BT 8))) (e : Ending) (w' : World) : Prop :=
 match r with
 | .ok x => ∃ g n mb, e = .returned (.tuple #[ptr g, .int .i64 0, .int .i64 0]) /\ Below w.heap.size w w' /\ w.heap.size <= n /\ n < mb /\ mb < g /\ w'.heap[g]? = some (.cells #[ptr n, ptr mb, .int .i64 0, .int .i64 0, .int .i64 0] 73) /\ (∃ lo, n < lo /\ lo <= mb /\ tV w' n lo x /\ M0 w' lo mb (kU x)) /\ Fine x
 | .error (i, p) => e = .returned (.tuple #[.pointer none, .int .i64 (oK i), .int .i64 p]) /\ Below w.heap.size w w'
theorem aKg (l : List UInt8) {w : World} {A : Nat -> Addr} (SS : Sent w A) :
  Calls Tryz.prog 17 #[S l] w fun e w' => aS0 w (dM l) e w' := by
 have HP := aJr l w (fun i => .pointer (some (A i))) (fun i hi => SS.g i (by omega))
 have hR : ∀ i p, dM l = .error (i, p) -> i < 9 \/ i = 14 := fun i p h => aHz h
 have hF : Hid (∀ x, dM l = .ok x -> Fine x) := fun x h => kC h
 generalize dM l = r at *
 go_enter Tryz.func17, Tryz.ntmps17
 go_wp2_with fail
 refine HP.mono ?_
 clear HP
 rcases r with ⟨i, p⟩ | x
 ·rintro e w1 ⟨f, rfl, B1, hf, hF⟩
  have i1 := hR i p rfl
  have S1 := SS.move B1
  have hc : w1.cell? ⟨f, 0, none⟩ = some (.iface 341 (.pointer (some (A i)))) := by simp [World.cell?, hF]
  have HE := aIj S1 f i (by omega) hc
  have HL := aH4 S1 f p _ hF
  have z1 := B1.size
  clear hR SS
  go_wp2_with fail
  refine HE.mono ?_
  rintro e w2 ⟨rfl, rfl⟩
  go_wp2_with fail
  refine HL.mono ?_
  rintro e w3 ⟨rfl, B3⟩
  go_wp2_with fail
  exact bodyPost_ret (v := .tuple #[.pointer none, .int .i64 (oK i), .int .i64 p]) (by simp [results, Tryz.results17, go_sem]) rfl ⟨rfl, B1.trans (B3.mono z1)⟩
 ·rintro e w1 ⟨n, vd, vr, rows, rfl, B1, hn, hP, hod, hou, hrel⟩
  have z1 := B1.size
  have FX := hF.out x rfl
  obtain ⟨ds, rs⟩ := x
  have hn1 : n < w1.heap.size := (zL hP)
  have HN := aNg n vd vr ds rows rs hP hod hou hrel FX.d7 FX.dw FX.r7 FX.rc FX.dn FX.rn FX.ro
  have HT : aA7 w1 n (ds, rs) := ⟨vd, vr, rows, hP, hod, hou, hrel⟩
  clear hR SS hF
  go_wp2_with fail
  refine HN.mono ?_
  rintro e w2 ⟨mb, rfl, B2, hmb, HM⟩
  have z2 := B2.size
  have aCi : mb < w2.heap.size := by obtain ⟨_, _, _, _, _, _, _, h1, _⟩ := HM; exact (zL h1)
  have HT2 : tV w2 n w1.heap.size (ds, rs) := ⟨w1, HT, zR, fun g _ hl => B2.block g hl⟩
  have B3 := B1.trans (B2.mono z1)
  go_wp2_with fail
  exact bodyPost_ret (v := .tuple #[ptr w2.heap.size, .int .i64 0, .int .i64 0]) (by simp [results, Tryz.results17, go_sem]) rfl ⟨w2.heap.size, n, mb, rfl, B3.alloc (by omega) _, hn, by omega, aCi, aC rfl, ⟨_, hn1, hmb, HT2.move (fun g _ hl => zM _ _ _ (by omega)), HM.below ((Below.refl _ w2).alloc zR _)⟩, FX⟩
end Go.Proofs.YtfddoieakfpagaaGreatDoor
