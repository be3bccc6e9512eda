import Derived.Deep.OwnRows
import Derived.Test.YtfddoieakfpagabGreatDoorGC
import Derived.Test.YtfddoieakfpagabGreatDoorHA
import Derived.Test.YtfddoieakfpagabGreatDoorHB
import Derived.Test.YtfddoieakfpagabGreatDoorGB
import Derived.Test.YtfddoieakfpagabGreatDoorGD
namespace Go.Proofs.YtfddoieakfpagabGreatDoor
set_option maxHeartbeats 4000000
set_option maxRecDepth 20000
open Go.RowKit
structure Nd where
 key : Nat
 freq : Nat
 queue : Nat
 prev : Nat
 next : Int
abbrev ndA (n : Nd) : Array Value := #[.int .u64 n.key, .int .i64 n.freq, .int .i64 n.queue, .int .i64 n.prev, .int .i64 n.next]
def flatN (l : List Nd) : List Value := l.flatMap fun n => (ndA n).toList
abbrev qA (q : Nat × Nat) : Array Value := #[.int .i64 q.1, .int .i64 q.2]
def flatQ (l : List (Nat × Nat)) : List Value := l.flatMap fun q => (qA q).toList
theorem flatN_snoc (l : List Nd) (n : Nd) : flatN (l ++ [n]) = flatN l ++ (ndA n).toList := by simp [flatN]
theorem flatQ_snoc (l : List (Nat × Nat)) (q : Nat × Nat) : flatQ (l ++ [q]) = flatQ l ++ (qA q).toList := by simp [flatQ]
theorem ndA_one (n : Nd) : ∀ u ∈ (ndA n).toList, u.oneCell' = true := by
 have h : (ndA n).toList.all (·.oneCell') = true := by simp [Value.oneCell']
 exact fun u hu => List.all_eq_true.1 h u hu
theorem qA_one (q : Nat × Nat) : ∀ u ∈ (qA q).toList, u.oneCell' = true := by
 have h : (qA q).toList.all (·.oneCell') = true := by simp [Value.oneCell']
 exact fun u hu => List.all_eq_true.1 h u hu
theorem info_nd : (Tryz.prog.info? 133).map (fun i => (i.zero, i.size, i.bytes)) = some (some (.agg (ndA ⟨0, 0, 0, 0, 0⟩)), 5, 40) := by kernel_rfl
theorem info_q : (Tryz.prog.info? 179).map (fun i => (i.zero, i.size, i.bytes)) = some (some (.agg (qA (0, 0))), 2, 16) := by kernel_rfl
def nds (n : Nat) : List Nd := (List.range n).map fun (q : Nat) => (⟨0, 0, q, q, q⟩ : Nd)
theorem nds_succ (n : Nat) : nds (n + 1) = nds n ++ [⟨0, 0, n, n, n⟩] := by simp [nds, List.range_succ]
structure A0 (w : World) (ab mb : Nat) (x y : Value) (nodes : List Nd) (qs : List (Nat × Nat)) : Prop where
 at' : w.heap[ab]? = some (.cells #[x, .int .i64 (-1), .map (some mb), y] 138)
 mp : w.heap[mb]? = some (.map #[] 0)
 nd : w.ownsRow (ab + 1) 133 5 x nodes.length (flatN nodes)
 qu : w.ownsRow (ab + 1) 179 2 y qs.length (flatQ qs)
 sep : ∀ g, x.ownBlock = some g -> y.ownBlock ≠ some g
 lt : mb < ab
theorem ix_int (g o n cap k : Nat) (hk : k < n) : ∀ W : World, (Instr.indexAt 85 (.slice (some ⟨g, o, none⟩) n cap) (.int .i64 k)).run Tryz.prog W = .ok (.pointer (some ⟨g, o + k, none⟩)) W := by
 intro W
 rw [run_indexAt_slice (h := by kernel_rfl), if_pos (by omega)]
 have : (sizeOf (Tryz.prog.elem 85)).run Tryz.prog W = .ok 1 W := by kernel_rfl
 rw [this]
 simp [Result.andThen, Addr.add]
theorem newArena_any {w : World} (lo : Nat) (v : Value) (rooms : List Nat) (hr : w.ownsRow lo 3 1 v rooms.length (rooms.map fun (n : Nat) => Value.int .i64 n)) (hn : rooms.length <= 1000) (hb : ∀ r ∈ rooms, r <= 1000) :
  Calls Tryz.prog 45 #[v] w fun e w' => ∃ ab mb x y, e = .returned (ptr ab) /\ A0 w' ab mb x y (nds rooms.length) (rooms.map fun (r : Nat) => (0, r)) /\ w.heap.size <= mb /\ Below w.heap.size w w' := by
 obtain ⟨va, vk, vc, rfl⟩ := ownsRow_form2 hr
 have hvk : vk = rooms.length := by
  rcases hr.2 with ⟨h1, h2⟩ | ⟨g, cap, cur, h1, _⟩
  ·simp at h1; omega
  ·simp at h1; exact h1.2.1
 subst hvk
 have hmm := @run_makeMap Tryz.prog
 go_enter Tryz.func45, Tryz.ntmps45
 go_wp2_with fail
 go_loopg [11] rooms.length (fun f v11 wr => ∃ (k : Nat) (x y : Value), v11 = .int .i64 k /\ k + f = rooms.length /\ A0 wr (w.heap.size + 1) w.heap.size x y (nds k) ((rooms.take k).map fun (r : Nat) => (0, r)) /\ Below w.heap.size w wr)
 case atStart =>
  refine ⟨0, nilV, nilV, rfl, by omega, ⟨heap_new (by simp), (Below.heap_alloc _ _ _ (by simp)).trans (heap_new rfl), World.ownsRow_nil _ _ _ _, World.ownsRow_nil _ _ _ _, fun g hg => by simp [Value.ownBlock] at hg, by omega⟩, ((Below.refl _ w).alloc (Nat.le_refl _) _).alloc (by simp) _⟩
 case round =>
  obtain ⟨k, x, y, rfl, hk, h, HB⟩ := hrel
  have hz := HB.size
  by_cases hlt : k < rooms.length
  ·have hrk : wr.ownsRow lo 3 1 (.slice va rooms.length vc) rooms.length (rooms.map fun (n : Nat) => Value.int .i64 n) := own_mv hr (fun g _ hl => HB.block g hl)
   obtain ⟨g, rfl⟩ : ∃ g, va = some ⟨g, 0, none⟩ := by
    rcases hr.2 with ⟨_, h2⟩ | ⟨g, cap, cur, h1, _⟩
    ·omega
    ·simp at h1; exact ⟨g, h1.1⟩
   have hc0 : wr.cell? ⟨g, k, none⟩ = some (.int .i64 rooms[k]) := by
    have := hrk.cellAt k (by omega)
    rw [this]
    simp [hlt]
   have hix := ix_int g 0 rooms.length vc k hlt
   simp only [Nat.zero_add] at hix
   have hrb : rooms[k] <= 1000 := hb _ (List.getElem_mem hlt)
   have htk : (rooms.take (k + 1)).map (fun (r : Nat) => (0, r)) = (rooms.take k).map (fun (r : Nat) => (0, r)) ++ [(0, rooms[k])] := by
    rw [List.take_add_one, List.getElem?_eq_getElem hlt, List.map_append]; rfl
   have HTK : Hid ((rooms.take (k + 1)).map (fun (r : Nat) => (0, r)) = (rooms.take k).map (fun (r : Nat) => (0, r)) ++ [(0, rooms[k])]) := htk
   clear htk hrk
   have hnl : (nds k).length = k := by simp [nds]
   have hql : ((rooms.take k).map fun (r : Nat) => (0, r)).length = k := by simp; omega
   generalize rooms[k] = rk at *
   generalize ((rooms.take k).map fun (r : Nat) => (0, r)) = qs at *
   obtain ⟨xa, xk, xc, rfl⟩ := ownsRow_form2 h.nd
   obtain ⟨ya, yk, yc, rfl⟩ := ownsRow_form2 h.qu
   have hab : w.heap.size + 1 < wr.heap.size := (Array.getElem?_eq_some_iff.1 h.at').1
   obtain ⟨c1, cf1⟩ := blk_cl h.at'
   obtain ⟨i0, hi, hz0, hz1, hz2⟩ := info_parts info_nd
   obtain ⟨j0, hj, hy0, hy1, hy2⟩ := info_parts info_q
   have hx1 : ∀ g, (Value.slice xa xk xc).ownBlock = some g -> w.heap.size + 2 <= g /\ g < wr.heap.size := fun g hg => h.nd.lt g hg
   have hx2 : ∀ g, (Value.slice ya yk yc).ownBlock = some g -> w.heap.size + 2 <= g /\ g < wr.heap.size := fun g hg => h.qu.lt g hg
   go_upto_region 5 with fail
   refine wp_region_lit ?_
   iterate 30 go_step
   refine wpList_append_own_at _ rfl (.tmp 20) (.tmp 25) 134 rfl (w.heap.size + 2) 133 i0 (.agg (ndA ⟨0, 0, 0, 0, 0⟩)) 5 40 Tryz.underlying134 hi hz0 hz1 hz2 rfl (by decide) (.slice xa xk xc) (nds k).length (flatN (nds k)) (by simp [Act.eval]) (own_mv h.nd (fun g _ hl => Below.heap_alloc _ _ _ hl)) ⟨wr.heap.size, 0, none⟩ 1 1 (ndA ⟨0, 0, k, k, k⟩).toList (by simp [Act.eval]) rfl (row_cells wr (ndA ⟨0, 0, k, k, k⟩) 133) (ndA_one _) (by simp only [maxLen]; omega) (by omega) (by simp; omega) ?_
   intro v' w6 hown6 hgrow _ hat
   obtain ⟨za, zk, zc, rfl⟩ := ownsRow_form2 hown6
   have a6 : w6.heap[w.heap.size + 1]? = some (.cells #[.slice xa xk xc, .int .i64 (-1), .map (some w.heap.size), .slice ya yk yc] 138) := (hgrow.block _ (by simp; omega) (fun e => by have := hx1 _ e.symm; omega)).trans ((Below.heap_alloc _ _ _ hab).trans h.at')
   have m6 : w6.heap[w.heap.size]? = some (.map #[] 0) := (hgrow.block _ (by simp; omega) (fun e => by have := hx1 _ e.symm; omega)).trans ((Below.heap_alloc _ _ _ (by omega)).trans h.mp)
   have q6 : w6.ownsRow (w.heap.size + 2) 179 2 (.slice ya yk yc) qs.length (flatQ qs) := own_mv h.qu (fun g hg hl => (hgrow.block g (by simp; omega) (fun e => h.sep g e.symm hg)).trans (Below.heap_alloc _ _ _ hl))
   have z6 := hgrow.size
   have z6 : wr.heap.size + 1 <= w6.heap.size := by simpa using z6
   have B6 : Below w.heap.size w w6 := by
    have h0 := HB.alloc hz (.cells (ndA ⟨0, 0, k, k, k⟩) 133)
    exact ⟨hgrow.os.trans h0.os, hgrow.tape.trans h0.tape, hgrow.output.trans h0.output, Nat.le_trans h0.size hgrow.size, fun i hi => (hgrow.block i (by simp; omega) (fun e => by have := hx1 _ e.symm; omega)).trans (h0.block i hi)⟩
   obtain ⟨c6, cf6⟩ := blk_cl a6
   have a7 := heap_setCell_same w6 (w.heap.size + 1) 0 (.slice za zk zc) _ _ a6
   have hz6 : ∀ g, (Value.slice za zk zc).ownBlock = some g -> w.heap.size + 2 <= g := fun g hg => (hown6.lt g hg).1
   have n7 : (w6.setCell ⟨w.heap.size + 1, 0, none⟩ (.slice za zk zc)).ownsRow (w.heap.size + 2) 133 5 (.slice za zk zc) ((nds k).length + 1) (flatN (nds k) ++ (ndA ⟨0, 0, k, k, k⟩).toList) := own_mv hown6 (fun g hg _ => Below.heap_setCell _ _ _ _ (by have := hz6 g hg; show g ≠ w.heap.size + 1; omega))
   have q7 : (w6.setCell ⟨w.heap.size + 1, 0, none⟩ (.slice za zk zc)).ownsRow (w.heap.size + 2) 179 2 (.slice ya yk yc) qs.length (flatQ qs) := own_mv q6 (fun g hg _ => Below.heap_setCell _ _ _ _ (by have := (q6.lt g hg).1; show g ≠ w.heap.size + 1; omega))
   have m7 := (Below.heap_setCell w6 ⟨w.heap.size + 1, 0, none⟩ (.slice za zk zc) w.heap.size (by show w.heap.size ≠ w.heap.size + 1; omega)).trans m6
   have B7 := B6.setCell (p := ⟨w.heap.size + 1, 0, none⟩) (show w.heap.size <= w.heap.size + 1 by omega) (.slice za zk zc)
   have z7 : (w6.setCell ⟨w.heap.size + 1, 0, none⟩ (.slice za zk zc)).heap.size = w6.heap.size := by simp [World.setCell]
   have hsep : ∀ g, (Value.slice za zk zc).ownBlock = some g -> (Value.slice ya yk yc).ownBlock ≠ some g := fun g hg hg2 => by
    rcases hat with e | e
    ·exact h.sep g (e.symm.trans hg) hg2
    ·have h1 := e.symm.trans hg
     have h2 := (hx2 g hg2).2
     simp at h1
     omega
   clear c1 cf1 hgrow hown6 hat q6 m6 h
   go_upto_region 6 with fail
   generalize w6.setCell ⟨w.heap.size + 1, 0, none⟩ (.slice za zk zc) = w7 at *
   have hab7 : w.heap.size + 1 < w7.heap.size := (Array.getElem?_eq_some_iff.1 a7).1
   have a7 : w7.heap[w.heap.size + 1]? = some (.cells #[.slice za zk zc, .int .i64 (-1), .map (some w.heap.size), .slice ya yk yc] 138) := a7
   obtain ⟨c7, cf7⟩ := blk_cl a7
   have hy2 := hy2
   refine wp_region_lit ?_
   iterate 24 go_step
   refine wpList_append_own_at _ rfl (.tmp 33) (.tmp 36) 136 rfl (w.heap.size + 2) 179 j0 (.agg (qA (0, 0))) 2 16 Tryz.underlying136 hj hy0 hy1 hy2 rfl (by decide) (.slice ya yk yc) qs.length (flatQ qs) (by simp [Act.eval]) (own_mv q7 (fun g _ hl => Below.heap_alloc _ _ _ hl)) ⟨w7.heap.size, 0, none⟩ 1 1 (qA (0, rk)).toList (by simp [Act.eval]) rfl (row_cells w7 (qA (0, rk)) 179) (qA_one _) (by simp only [maxLen]; omega) (by omega) (by simp; omega) ?_
   intro v' w8 hown8 hgrow _ hat
   obtain ⟨ta, tk, tc, rfl⟩ := ownsRow_form2 hown8
   have hy7 : ∀ g, (Value.slice ya yk yc).ownBlock = some g -> w.heap.size + 2 <= g := fun g hg => (q7.lt g hg).1
   have a8 : w8.heap[w.heap.size + 1]? = some (.cells #[.slice za zk zc, .int .i64 (-1), .map (some w.heap.size), .slice ya yk yc] 138) := (hgrow.block _ (by simp; omega) (fun e => by have := hy7 _ e.symm; omega)).trans ((Below.heap_alloc _ _ _ hab7).trans a7)
   have m8 : w8.heap[w.heap.size]? = some (.map #[] 0) := (hgrow.block _ (by simp; omega) (fun e => by have := hy7 _ e.symm; omega)).trans ((Below.heap_alloc _ _ _ (by omega)).trans m7)
   have n8 : w8.ownsRow (w.heap.size + 2) 133 5 (.slice za zk zc) ((nds k).length + 1) (flatN (nds k) ++ (ndA ⟨0, 0, k, k, k⟩).toList) := own_mv n7 (fun g hg hl => (hgrow.block g (by simp; omega) (fun e => hsep g hg e.symm)).trans (Below.heap_alloc _ _ _ hl))
   have B8 : Below w.heap.size w w8 := by
    have h0 := B7.alloc (show w.heap.size <= w7.heap.size by omega) (.cells (qA (0, rk)) 179)
    exact ⟨hgrow.os.trans h0.os, hgrow.tape.trans h0.tape, hgrow.output.trans h0.output, Nat.le_trans h0.size hgrow.size, fun i hi => (hgrow.block i (by simp; omega) (fun e => by have := hy7 _ e.symm; omega)).trans (h0.block i hi)⟩
   obtain ⟨c8, cf8⟩ := blk_cl a8
   go_wp2_with fail
   go_roundg (gk - 1)
   case measure => omega
   case rel =>
    refine ⟨k + 1, .slice za zk zc, .slice ta tk tc, by simp, by omega, ⟨(heap_setCell_same _ _ 3 _ _ _ a8).trans rfl, (Below.heap_setCell _ _ _ _ (by show w.heap.size ≠ w.heap.size + 1; omega)).trans m8, ?_, ?_, ?_, by omega⟩, B8.setCell (p := ⟨w.heap.size + 1, 3, none⟩) (show w.heap.size <= w.heap.size + 1 by omega) _⟩
    ·rw [nds_succ, flatN_snoc, List.length_append]
     exact own_mv n8 (fun g hg _ => Below.heap_setCell _ _ _ _ (by have := (n8.lt g hg).1; show g ≠ w.heap.size + 1; omega))
    ·rw [HTK.out, flatQ_snoc, List.length_append]
     exact own_mv hown8 (fun g hg _ => Below.heap_setCell _ _ _ _ (by have := (hown8.lt g hg).1; show g ≠ w.heap.size + 1; omega))
    ·intro g hg hg2
     rcases hat with e | e
     ·exact hsep g hg (e.symm.trans hg2)
     ·have h1 := e.symm.trans hg2
      have h2 := (n7.lt g hg).2
      simp at h1
      omega
  ·have hkn : k = rooms.length := by omega
   subst hkn
   go_wp2_with fail
   go_ret
   exact ⟨_, _, x, y, rfl, by simpa using h, Nat.le_refl _, HB⟩
theorem set_alloc (w : World) (a : Addr) (u : Value) (o : Obj) (h : a.block < w.heap.size) : (w.setCell a u).alloc o = (w.alloc o).setCell a u := by
 simp only [World.setCell, World.alloc]
 congr 1
 apply Array.ext_getElem?
 intro i
 simp only [Array.getElem?_push, Array.getElem?_modify, Array.size_modify]
 by_cases e : i = w.heap.size
 ·subst e
  rw [if_pos rfl, if_neg (by omega), if_pos rfl]
 ·rw [if_neg e, if_neg e]
def PgF (w : World) (lo hi rb : Nat) (v : Nat -> Value) (c : Cc) : Prop := ∃ wp : World, Pg wp lo rb v c /\ wp.heap.size <= hi /\ ∀ g, lo <= g -> g < wp.heap.size -> w.heap[g]? = wp.heap[g]?
theorem PgF.move {w w' : World} {lo hi rb : Nat} {v : Nat -> Value} {c : Cc} (h : PgF w lo hi rb v c) (hb : ∀ g, lo <= g -> g < hi -> w'.heap[g]? = w.heap[g]?) : PgF w' lo hi rb v c := by
 obtain ⟨wp, h1, h2, h3⟩ := h
 exact ⟨wp, h1, h2, fun g hg hl => (hb g hg (by omega)).trans (h3 g hg hl)⟩
theorem PgF.pg {w : World} {lo hi rb : Nat} {v : Nat -> Value} {c : Cc} (h : PgF w lo hi rb v c) : Pg w lo rb v c := by
 obtain ⟨wp, h1, h2, h3⟩ := h
 exact h1.move h3
abbrev mcA (v : Nat -> Value) (mf rb : Nat) (a s : Value) : Array Value := #[v 0, v 1, v 2, v 5, v 3, .int .i64 mf, .map (some rb), a, s]
def M0 (w : World) (lo mb : Nat) (c : Cc) : Prop := ∃ v rb ab mp x y vs, w.heap[mb]? = some (.cells (mcA v c.mf rb (ptr ab) vs) 93) /\ PgF w lo mb rb v c /\ A0 w ab mp x y (nds c.ro.length) (c.ro.map fun (r : Nat) => (0, r)) /\ mb < mp /\
 w.ownsRow (mb + 1) 3 1 vs c.mo.length (List.replicate c.mo.length (.int .i64 0)) /\ ∀ g, vs.ownBlock = some g -> g ≠ ab /\ g ≠ mp /\ x.ownBlock ≠ some g /\ y.ownBlock ≠ some g
theorem A0.lts {w : World} {ab mb : Nat} {x y : Value} {nodes : List Nd} {qs : List (Nat × Nat)} (h : A0 w ab mb x y nodes qs) : ab < w.heap.size /\ mb < w.heap.size /\ (∀ g, x.ownBlock = some g -> ab < g /\ g < w.heap.size) /\ ∀ g, y.ownBlock = some g -> ab < g /\ g < w.heap.size :=
 ⟨(Array.getElem?_eq_some_iff.1 h.at').1, (Array.getElem?_eq_some_iff.1 h.mp).1, fun g hg => h.nd.lt g hg, fun g hg => h.qu.lt g hg⟩
theorem A0.move {w w' : World} {ab mb : Nat} {x y : Value} {nodes : List Nd} {qs : List (Nat × Nat)} (h : A0 w ab mb x y nodes qs) (hb : ∀ g, mb <= g -> g < w.heap.size -> w'.heap[g]? = w.heap[g]?) : A0 w' ab mb x y nodes qs := by
 obtain ⟨l1, l2, l3, l4⟩ := h.lts
 have := h.lt
 exact ⟨(hb ab (by omega) l1).trans h.at', (hb mb (Nat.le_refl _) l2).trans h.mp, own_mv h.nd (fun g hg hl => hb g (by have := l3 g hg; omega) hl), own_mv h.qu (fun g hg hl => hb g (by have := l4 g hg; omega) hl), h.sep, h.lt⟩
theorem new_any (HT : TestOk) (HP : PlainOk) {w : World} (n : Nat) (vd vr : Value) (ds : List Dc) (rows : List (Nat × NP × Value)) (rs : List (Nat × NP × BT 8))
  (hP : w.heap[n]? = some (.cells #[vd, vr] 114)) (hod : w.ownsRow (n + 1) 120 6 vd ds.length (flatD ds)) (hou : w.ownsRow (n + 1) 161 4 vr rows.length (flatU rows)) (hrel0 : RelU (SlR 8 w (fun g => n + 1 <= g)) rows rs)
  (hd7 : ∀ d ∈ ds, d.name.1.length <= 700) (hdw : ∀ d ∈ ds, d.word = [113, 117, 101, 117, 101] \/ d.word = [103, 104, 111, 115, 116] \/ d.word = [118, 97, 114] \/ d.word = [102, 114, 101, 113]) (hr7 : ∀ r ∈ rs, r.2.1.1.length <= 700 /\ smallB 8 r.2.2) (hrc : ∀ r ∈ rs, costB 8 r.2.2 <= 800000) (hdn : ds.length <= 900) (hrn : rs.length <= 900)
  (hro : (rs.foldl Cc.rul (ds.foldl Cc.dcl cc0)).ro.length <= 1000 /\ (∀ r ∈ (rs.foldl Cc.rul (ds.foldl Cc.dcl cc0)).ro, r <= 1000) /\ (rs.foldl Cc.rul (ds.foldl Cc.dcl cc0)).mo.length <= 1000) :
  Calls Tryz.prog 32 #[ptr n] w fun e w' => ∃ m, e = .returned (ptr m) /\ Below w.heap.size w w' /\ w.heap.size <= m /\ M0 w' w.heap.size m (rs.foldl Cc.rul (ds.foldl Cc.dcl cc0)) := by
 have HC := compile_any HT HP n vd vr ds rows rs hP hod hou hrel0 hd7 hdw hr7 hrc hdn hrn
 generalize rs.foldl Cc.rul (ds.foldl Cc.dcl cc0) = c at *
 obtain ⟨hr1, hr2, hr3⟩ := hro
 clear hP hod hou hrel0 hd7 hdw hr7 hrc hdn hrn HT HP
 go_enter Tryz.func32, Tryz.ntmps32
 go_wp2_with fail
 refine HC.mono ?_
 rintro e w1 ⟨v, rb, rfl, hpg, B1⟩
 clear HC
 have o2 : w1.ownsRow w.heap.size 3 1 (v 2) c.ro.length (c.ro.map fun (n : Nat) => Value.int .i64 n) := hpg.own 2 (by decide) (by decide)
 have form : ∀ i, i < 6 -> i ≠ 4 -> ∃ a k, v i = .slice a (c.num i) k := fun i hi h4 => by
  rcases (hpg.own i hi h4).2 with ⟨h1, h2⟩ | ⟨g, cap, cur, h1, _⟩
  ·exact ⟨none, 0, by rw [h1, h2]⟩
  ·exact ⟨_, _, h1⟩
 obtain ⟨x0, y0, f0⟩ := form 0 (by decide) (by decide)
 obtain ⟨x1, y1, f1⟩ := form 1 (by decide) (by decide)
 obtain ⟨x2, y2, f2⟩ := form 2 (by decide) (by decide)
 obtain ⟨x3, y3, f3⟩ := form 3 (by decide) (by decide)
 obtain ⟨x5, y5, f5⟩ := form 5 (by decide) (by decide)
 have f2 : v 2 = .slice x2 c.ro.length y2 := f2
 have f3 : v 3 = .slice x3 c.mo.length y3 := f3
 clear form
 have z1 := B1.size
 have HF : Hid (∀ (w' : World) (vs : Value) (ab : Nat), w'.heap[w1.heap.size]? = some (.cells #[.slice x0 (c.num 0) y0, .slice x1 (c.num 1) y1, .slice x2 c.ro.length y2, .slice x5 (c.num 5) y5, .slice x3 c.mo.length y3, .int .i64 c.mf, .map (some rb), ptr ab, vs] 93) -> (∀ g, g < w1.heap.size -> w'.heap[g]? = w1.heap[g]?) -> (∃ mp x y, A0 w' ab mp x y (nds c.ro.length) (c.ro.map fun (r : Nat) => (0, r)) /\ w1.heap.size < mp /\ w'.ownsRow (w1.heap.size + 1) 3 1 vs c.mo.length (List.replicate c.mo.length (.int .i64 0)) /\ ∀ g, vs.ownBlock = some g -> g ≠ ab /\ g ≠ mp /\ x.ownBlock ≠ some g /\ y.ownBlock ≠ some g) -> M0 w' w.heap.size w1.heap.size c) := by
  intro w' vs ab h1 h2 ⟨mp, x, y, h3, h4, h5, h6⟩
  refine ⟨v, rb, ab, mp, x, y, vs, ?_, ⟨w1, hpg, Nat.le_refl _, fun g _ hl => h2 g hl⟩, h3, h4, h5, h6⟩
  rw [h1, mcA, f0, f1, f2, f3, f5]
 clear hpg
 rw [f0, f1, f2, f3, f5]
 rw [f2] at o2
 clear f0 f1 f2 f3 f5
 generalize c.num 0 = n0 at *
 generalize c.num 1 = n1 at *
 generalize c.num 5 = n5 at *
 go_upto_region 2 with fail
 have b2 : (w1.alloc (.cells #[.slice x0 n0 y0, .slice x1 n1 y1, .slice x2 c.ro.length y2, .slice x5 n5 y5, .slice x3 c.mo.length y3, .int .i64 c.mf, .map (some rb), .pointer none, nilV] 93)).heap[w1.heap.size]? = some (.cells #[.slice x0 n0 y0, .slice x1 n1 y1, .slice x2 c.ro.length y2, .slice x5 n5 y5, .slice x3 c.mo.length y3, .int .i64 c.mf, .map (some rb), .pointer none, nilV] 93) := heap_new rfl
 have B2 := B1.alloc z1 (.cells #[.slice x0 n0 y0, .slice x1 n1 y1, .slice x2 c.ro.length y2, .slice x5 n5 y5, .slice x3 c.mo.length y3, .int .i64 c.mf, .map (some rb), .pointer none, nilV] 93)
 have o2' : (w1.alloc (.cells #[.slice x0 n0 y0, .slice x1 n1 y1, .slice x2 c.ro.length y2, .slice x5 n5 y5, .slice x3 c.mo.length y3, .int .i64 c.mf, .map (some rb), .pointer none, nilV] 93)).ownsRow w.heap.size 3 1 (.slice x2 c.ro.length y2) c.ro.length (c.ro.map fun (n : Nat) => Value.int .i64 n) := own_mv o2 (fun g _ hl => Below.heap_alloc _ _ _ hl)
 have E2 : Hid (∀ g, g < w1.heap.size -> (w1.alloc (.cells #[.slice x0 n0 y0, .slice x1 n1 y1, .slice x2 c.ro.length y2, .slice x5 n5 y5, .slice x3 c.mo.length y3, .int .i64 c.mf, .map (some rb), .pointer none, nilV] 93)).heap[g]? = w1.heap[g]?) := fun g hl => Below.heap_alloc _ _ _ hl
 have hsz : (w1.alloc (.cells #[.slice x0 n0 y0, .slice x1 n1 y1, .slice x2 c.ro.length y2, .slice x5 n5 y5, .slice x3 c.mo.length y3, .int .i64 c.mf, .map (some rb), .pointer none, nilV] 93)).heap.size = w1.heap.size + 1 := by simp
 generalize w1.alloc (.cells #[.slice x0 n0 y0, .slice x1 n1 y1, .slice x2 c.ro.length y2, .slice x5 n5 y5, .slice x3 c.mo.length y3, .int .i64 c.mf, .map (some rb), .pointer none, nilV] 93) = w2 at *
 have hmb : w.heap.size <= w1.heap.size := z1
 generalize w1.heap.size = mb at *
 have hmb2 : mb < w2.heap.size := by omega
 have HSZ : Hid (w2.heap.size = mb + 1) := hsz
 clear hsz
 have hmk := fun W => run_make_row' (P := Tryz.prog) 85 3 (.int .i64 0) 8 Tryz.underlying85 info_in rfl .i64 .i64 c.mo.length (by omega) (by omega) W
 have hML := toList_madeCells_one (.int .i64 0) c.mo.length
 have hMS := size_madeCells #[.int .i64 0] c.mo.length
 generalize madeCells #[.int .i64 0] c.mo.length = M at *
 have hvs : Hid (∀ (W : World), mb + 1 <= W.heap.size -> (W.alloc (.cells M 3)).ownsRow (mb + 1) 3 1 (.slice (some ⟨W.heap.size, 0, none⟩) c.mo.length c.mo.length) c.mo.length (List.replicate c.mo.length (.int .i64 0))) := by
  intro W hW
  have := World.ownsRow_lit (base := mb + 1) (e := 3) (size := 1) W M c.mo.length hW (by simp only [maxLen]; omega) (by rw [hMS]; omega)
  rw [hML] at this
  exact this
 clear hML hMS
 have HF2 : Hid (∀ (W : World) (vs : Value) (ab : Nat), W.heap[mb]? = some (.cells #[.slice x0 n0 y0, .slice x1 n1 y1, .slice x2 c.ro.length y2, .slice x5 n5 y5, .slice x3 c.mo.length y3, .int .i64 c.mf, .map (some rb), .pointer none, nilV] 93) -> (∀ g, g < mb -> W.heap[g]? = w1.heap[g]?) -> (∃ mp x y, A0 W ab mp x y (nds c.ro.length) (c.ro.map fun (r : Nat) => (0, r)) /\ mb < mp /\ W.ownsRow (mb + 1) 3 1 vs c.mo.length (List.replicate c.mo.length (.int .i64 0)) /\ ∀ g, vs.ownBlock = some g -> g ≠ ab /\ g ≠ mp /\ x.ownBlock ≠ some g /\ y.ownBlock ≠ some g) -> M0 ((W.setCell ⟨mb, 7, none⟩ (ptr ab)).setCell ⟨mb, 8, none⟩ vs) w.heap.size mb c) := by
  intro W vs ab h1 h2 ⟨mp, x, y, h3, h4, h5, h6⟩
  have hsc : ∀ (g : Nat), g ≠ mb -> ((W.setCell ⟨mb, 7, none⟩ (ptr ab)).setCell ⟨mb, 8, none⟩ vs).heap[g]? = W.heap[g]? := fun g hg => (Below.heap_setCell _ ⟨mb, 8, none⟩ _ g hg).trans (Below.heap_setCell _ ⟨mb, 7, none⟩ _ g hg)
  refine HF.out _ vs ab ((heap_setCell_same _ _ 8 _ _ _ (heap_setCell_same _ _ 7 _ _ _ h1)).trans rfl) (fun g hl => (hsc g (by omega)).trans (h2 g hl)) ⟨mp, x, y, h3.move (fun g hg _ => hsc g (by omega)), h4, own_mv h5 (fun g hg _ => hsc g (by have := (h5.lt g hg).1; omega)), h6⟩
 clear HF
 have HN1 := newArena_any (w := w2.drew) w.heap.size _ c.ro (own_mv o2' (fun _ _ _ => rfl)) hr1 hr2
 have HN2 := newArena_any (w := (w2.alloc (.cells M 3)).drew) w.heap.size _ c.ro (own_mv o2' (fun _ _ hl => Below.heap_alloc _ _ _ hl)) hr1 hr2
 have b2a := (Below.heap_alloc w2 (.cells M 3) _ hmb2).trans b2
 obtain ⟨c2, cf2⟩ := blk_cl b2
 obtain ⟨c2a, cf2a⟩ := blk_cl b2a
 have HN1 : Hid _ := HN1
 have HN2 : Hid _ := HN2
 go_region_law (refine wanted_pos rfl ?_; go_simp; go_at_call 45; go_must (first | (refine Calls.mono HN1.out ?_; rintro e w3 ⟨ab, mp, xx, yy, rfl, hA, hmp, B3⟩; have b3 := (B3.block mb hmb2).trans b2; obtain ⟨c3, cf3⟩ := blk_cl b3; obtain ⟨c3a, cf3a⟩ := blk_cl ((Below.heap_alloc w3 (.cells M 3) _ (Array.getElem?_eq_some_iff.1 b3).1).trans b3); have B4 : Below w.heap.size w w3 := (bdrw B2).trans (B3.mono (show w.heap.size <= w2.heap.size from B2.size)); have hwhich : mb < 0 \/ True := Or.inr trivial; have hmp2 : w2.heap.size <= mp := hmp; have E3 : Hid (∀ g, g < mb -> w3.heap[g]? = w1.heap[g]?) := (fun g hl => (B3.block g (Nat.lt_trans hl hmb2)).trans (E2.out g hl))) | (refine Calls.mono HN2.out ?_; rintro e w3 ⟨ab, mp, xx, yy, rfl, hA, hmp, B3⟩; have hmp2 : w2.heap.size + 1 <= mp := (by simpa using hmp); have b3 := (B3.block mb (Nat.lt_of_lt_of_le hmb2 (by simp))).trans b2a; obtain ⟨c3, cf3⟩ := blk_cl b3; have B4 : Below w.heap.size w w3 := (bdrw (B2.alloc B2.size _)).trans (B3.mono (show w.heap.size <= (w2.alloc (.cells M 3)).heap.size from (B2.alloc B2.size _).size)); have E3 : Hid (∀ g, g < mb -> w3.heap[g]? = w1.heap[g]?) := (fun g hl => (B3.block g (Nat.lt_of_lt_of_le (Nat.lt_trans hl hmb2) (by simp))).trans ((Below.heap_alloc w2 _ g (Nat.lt_trans hl hmb2)).trans (E2.out g hl))); have hv3 : w3.ownsRow (mb + 1) 3 1 (.slice (some ⟨w2.heap.size, 0, none⟩) c.mo.length c.mo.length) c.mo.length (List.replicate c.mo.length (.int .i64 0)) := own_mv (hvs.out w2 (by have := HSZ.out; omega)) (fun g _ hl => B3.block g hl))))
 all_goals
  go_wp2_with fail
  go_ret
  obtain ⟨l1, l2, l3, l4⟩ := hA.lts
  have l5 := hA.lt
  have l6 := HSZ.out
  first
   | exact ⟨mb, rfl, ((B4.setCell (p := ⟨mb, 7, none⟩) hmb _).setCell (p := ⟨mb, 8, none⟩) hmb _), hmb, HF2.out w3 _ ab b3 E3.out ⟨mp, xx, yy, hA, by omega, hv3, fun g hg => by
     have hg : w2.heap.size = g := by simpa [Value.ownBlock] using hg
     exact ⟨by omega, by omega, fun e => by have := l3 g e; omega, fun e => by have := l4 g e; omega⟩⟩⟩
   | (
     have b4 := (Below.heap_alloc w3 (.cells M 3) mb (Array.getElem?_eq_some_iff.1 b3).1).trans b3
     have hb3 : mb < w3.heap.size := (Array.getElem?_eq_some_iff.1 b3).1
     have HM := HF2.out (w3.alloc (.cells M 3)) _ ab b4 (fun g hl => (Below.heap_alloc w3 _ g (by omega)).trans (E3.out g hl)) ⟨mp, xx, yy, hA.move (fun g _ hl => Below.heap_alloc w3 _ g hl), by omega, hvs.out w3 (by omega), fun g hg => by
     have hg : w3.heap.size = g := by simpa [Value.ownBlock] using hg
     exact ⟨by omega, by omega, fun e => by have := l3 g e; omega, fun e => by have := l4 g e; omega⟩⟩
     have BM : Below w.heap.size w (((w3.alloc (.cells M 3)).setCell ⟨mb, 7, none⟩ (ptr ab)).setCell ⟨mb, 8, none⟩ (.slice (some ⟨w3.heap.size, 0, none⟩) c.mo.length c.mo.length)) := ((B4.alloc B4.size _).setCell (p := ⟨mb, 7, none⟩) hmb _).setCell (p := ⟨mb, 8, none⟩) hmb _
     first
     | exact ⟨mb, rfl, BM, hmb, HM⟩
     | (
       rw [set_alloc _ _ _ _ hb3]
       simp only [World.setCell, Array.size_modify]
       exact ⟨mb, rfl, BM, hmb, HM⟩))
theorem test_ok : TestOk := fun _ _ _ _ _ _ _ h x hx hl => ctest_any h x hx hl
theorem new_all {w : World} (n : Nat) (vd vr : Value) (ds : List Dc) (rows : List (Nat × NP × Value)) (rs : List (Nat × NP × BT 8))
  (hP : w.heap[n]? = some (.cells #[vd, vr] 114)) (hod : w.ownsRow (n + 1) 120 6 vd ds.length (flatD ds)) (hou : w.ownsRow (n + 1) 161 4 vr rows.length (flatU rows)) (hrel0 : RelU (SlR 8 w (fun g => n + 1 <= g)) rows rs)
  (hd7 : ∀ d ∈ ds, d.name.1.length <= 700) (hdw : ∀ d ∈ ds, d.word = [113, 117, 101, 117, 101] \/ d.word = [103, 104, 111, 115, 116] \/ d.word = [118, 97, 114] \/ d.word = [102, 114, 101, 113]) (hr7 : ∀ r ∈ rs, r.2.1.1.length <= 700 /\ smallB 8 r.2.2) (hrc : ∀ r ∈ rs, costB 8 r.2.2 <= 800000) (hdn : ds.length <= 900) (hrn : rs.length <= 900)
  (hro : (rs.foldl Cc.rul (ds.foldl Cc.dcl cc0)).ro.length <= 1000 /\ (∀ r ∈ (rs.foldl Cc.rul (ds.foldl Cc.dcl cc0)).ro, r <= 1000) /\ (rs.foldl Cc.rul (ds.foldl Cc.dcl cc0)).mo.length <= 1000) :
  Calls Tryz.prog 32 #[ptr n] w fun e w' => ∃ m, e = .returned (ptr m) /\ Below w.heap.size w w' /\ w.heap.size <= m /\ M0 w' w.heap.size m (rs.foldl Cc.rul (ds.foldl Cc.dcl cc0)) :=
 new_any test_ok cplain_ok n vd vr ds rows rs hP hod hou hrel0 hd7 hdw hr7 hrc hdn hrn hro
theorem stmt_c {β : Type} {blk : Nat -> Tok -> PR β} {z : β} {l : List UInt8} {lo : Nat} (f : β -> Nat) (hz : f z = 0) (hb : ∀ lo t x t', blk lo t = .ok (x, t') -> f x + 4 * t.pos <= 4 * t'.pos) {t t' : Tok} {x : St × β × β} (h : stmtS blk z l lo t = .ok (x, t')) : 4 + f x.2.1 + f x.2.2 + 4 * t.pos <= 4 * t'.pos := by
 unfold stmtS at h
 split at h
 ·rename_i hw
  have h0 := nx_one l t _ hw (by decide)
  unfold ifS at h
  obtain ⟨c, t1, h1, h⟩ := bindR_ok h
  obtain ⟨x1, t2, h2, h⟩ := bindR_ok h
  have := cond_m h1; have := hb _ _ _ _ h2
  split at h
  ·obtain ⟨y, t3, h3, h⟩ := bindR_ok h
   have := hb _ _ _ _ h3; have := nx_mono l t2
   cases h; simp only; omega
  ·cases h; simp only; omega
 ·split at h
  ·rename_i hw
   have h0 := nx_one l t _ hw (by decide)
   unfold repS at h
   split at h
   ·cases h
   ·obtain ⟨n, t1, h1, h⟩ := bindR_ok h
    obtain ⟨_, t2, h2, h⟩ := bindR_ok h
    obtain ⟨c, t3, h3, h⟩ := bindR_ok h
    obtain ⟨y, t4, h4, h⟩ := bindR_ok h
    have := num_m h1; have := need_m h2; have := cond_m h3; have := hb _ _ _ _ h4
    cases h; simp only; omega
  ·obtain ⟨s, t1, h1, h⟩ := bindR_ok h
   have := plain_m h1
   cases h; simp only; omega
theorem stmts_c {β : Type} {stm : Tok -> PR (St × β × β)} {l : List UInt8} (f : β -> Nat) (hs : ∀ t x t', stm t = .ok (x, t') -> 4 + f x.2.1 + f x.2.2 + 4 * t.pos <= 4 * t'.pos) : ∀ (n : Nat) (t t' : Tok) (xs : List (St × β × β)), stmtsS stm l n t = .ok (xs, t') -> costL f xs + 4 * t.pos <= 4 * t'.pos
 | 0, _, _, _, h => by cases h
 | n + 1, t, t', xs, h => by
  unfold stmtsS at h
  split at h
  ·cases h; have := nx_mono l t; simp only [costL]; omega
  ·obtain ⟨x, t1, h1, h⟩ := bindR_ok h
   obtain ⟨ys, t2, h2, h⟩ := bindR_ok h
   have := hs _ _ _ h1; have := stmts_c f hs n t1 t2 ys h2
   cases h; simp only [costL]; omega
theorem cost_nil : ∀ d, costB d (BTnil d) = 0
 | 0 => rfl
 | _ + 1 => rfl
theorem block_c {l : List UInt8} : ∀ (d lo : Nat) (t : Tok) (x : BT d) (t' : Tok), blockS l d lo t = .ok (x, t') -> costB d x + 4 * t.pos <= 4 * t'.pos
 | 0, _, _, _, _, h => by unfold blockS at h; split at h <;> cases h
 | d + 1, lo, t, x, t', h => by
  by_cases hc : t.txt = [123]
  ·have e := (blockS_yes l d lo t hc).symm.trans h
   have := stmts_c (costB d) (fun t x t' h => stmt_c (costB d) (cost_nil d) (fun lo t x t' => block_c d lo t x t') h) _ _ _ _ e
   have := nx_mono l t
   show costL (costB d) x + _ <= _
   omega
  ·have e := (blockS_no l d lo t hc).symm.trans h
   cases e
theorem declB_w {s : List UInt8} (h : declB s = true) : s = [113, 117, 101, 117, 101] \/ s = [103, 104, 111, 115, 116] \/ s = [118, 97, 114] \/ s = [102, 114, 101, 113] := by
 simp only [declB, Bool.or_eq_true, beq_iff_eq] at h
 rcases h with ((h | h) | h) | h
 ·exact .inl h
 ·exact .inr (.inl h)
 ·exact .inr (.inr (.inl h))
 ·exact .inr (.inr (.inr h))
theorem decl_w {l : List UInt8} {t t' : Tok} {x : Dc} (h : declS l t = .ok (x, t')) : x.word = t.txt := by
 unfold declS at h
 split at h
 ·obtain ⟨n, t1, _, h⟩ := bindR_ok h
  obtain ⟨_, t2, _, h⟩ := bindR_ok h
  cases h; rfl
 ·obtain ⟨m, t1, _, h⟩ := bindR_ok h
  obtain ⟨n, t2, _, h⟩ := bindR_ok h
  obtain ⟨_, t3, _, h⟩ := bindR_ok h
  cases h; rfl
theorem decls_w {l : List UInt8} : ∀ (n : Nat) (t t' : Tok) (ds : List Dc), declsS l n t = .ok (ds, t') -> (∀ d ∈ ds, d.word = [113, 117, 101, 117, 101] \/ d.word = [103, 104, 111, 115, 116] \/ d.word = [118, 97, 114] \/ d.word = [102, 114, 101, 113]) /\ ds.length + t.pos <= t'.pos
 | 0, _, _, _, h => by cases h
 | n + 1, t, t', ds, h => by
  unfold declsS at h
  split at h
  ·rename_i hd
   obtain ⟨d, t1, h1, h⟩ := bindR_ok h
   obtain ⟨es, t2, h2, h⟩ := bindR_ok h
   have hw := decl_w h1
   have hm := decl_m hd h1
   have ih := decls_w n t1 t2 es h2
   cases h
   refine ⟨fun x hx => ?_, by simp only [List.length_cons]; have := ih.2; omega⟩
   rcases List.mem_cons.1 hx with rfl | hx
   ·rw [hw]; exact declB_w hd
   ·exact ih.1 x hx
  ·cases h
   exact ⟨fun _ hx => (by cases hx), by simp⟩
theorem rule_c {l : List UInt8} {t t' : Tok} {x : Nat × NP × BT 8} (h : ruleS l t = .ok (x, t')) : costB 8 x.2.2 <= 4 * t'.pos := by
 unfold ruleS at h
 obtain ⟨n, t1, _, h⟩ := bindR_ok h
 obtain ⟨y, t2, h2, h⟩ := bindR_ok h
 have := block_c 8 0 t1 y t2 h2
 cases h
 simp only
 omega
theorem rules_c {l : List UInt8} : ∀ (n : Nat) (t t' : Tok) (rs : List (Nat × NP × BT 8)), rulesS l n t = .ok (rs, t') -> (∀ r ∈ rs, costB 8 r.2.2 <= 4 * t'.pos) /\ rs.length + t.pos <= t'.pos
 | 0, _, _, _, h => by cases h
 | n + 1, t, t', ds, h => by
  unfold rulesS at h
  split at h
  ·rename_i hd
   obtain ⟨d, t1, h1, h⟩ := bindR_ok h
   obtain ⟨es, t2, h2, h⟩ := bindR_ok h
   have hw := rule_c h1
   have hm := rule_m hd h1
   have ih := rules_c n t1 t2 es h2
   cases h
   refine ⟨fun x hx => ?_, by simp only [List.length_cons]; have := ih.2; omega⟩
   rcases List.mem_cons.1 hx with rfl | hx
   ·have := ih.2; omega
   ·exact ih.1 x hx
  ·cases h
   exact ⟨fun _ hx => (by cases hx), by simp⟩
theorem fs_fault {s : Ck} {e : Nat × Nat} (h : s.first = some e) (i p : Nat) : (s.fault i p).first = some e := by unfold Ck.fault; rw [h]; exact h
theorem fs_use {s : Ck} {e : Nat × Nat} (h : s.first = some e) (n : NP) (k : Nat) : (s.use n k).first = some e := by
 unfold Ck.use
 split
 ·exact fs_fault h _ _
 ·split
  ·exact h
  ·exact fs_fault h _ _
theorem fs_bound {s : Ck} {e : Nat × Nat} (h : s.first = some e) (v p m : Nat) : (s.bound v p m).first = some e := by
 unfold Ck.bound
 split
 ·exact fs_fault h _ _
 ·exact h
theorem fs_ite {c : Prop} [Decidable c] {a b : Ck} {e : Nat × Nat} (ha : a.first = some e) (hb : b.first = some e) : (if c then a else b).first = some e := by by_cases h : c <;> simp [h, ha, hb]
theorem fs_value {s : Ck} {e : Nat × Nat} (h : s.first = some e) (v : Vl) : (s.value v).first = some e := fs_ite (fs_use h _ _) (fs_ite (fs_use h _ _) h)
theorem fs_cond {s : Ck} {e : Nat × Nat} (h : s.first = some e) (x : Cd) : (s.cond x).first = some e := fs_ite (fs_value (fs_value h _) _) (fs_use h _ _)
theorem fs_stmt {β : Type} {blk : Ck -> β -> Ck} {e : Nat × Nat} (hb : ∀ s x, s.first = some e -> (blk s x).first = some e) {s : Ck} (h : s.first = some e) (r : St × β × β) : (s.stmt blk r).first = some e := by
 unfold Ck.stmt
 repeat' (first | exact h | apply fs_ite | apply hb | apply fs_use | apply fs_cond | apply fs_bound | apply fs_fault)
theorem fs_fold {α : Type} {f : Ck -> α -> Ck} {e : Nat × Nat} (hf : ∀ s x, s.first = some e -> (f s x).first = some e) : ∀ (l : List α) (s : Ck), s.first = some e -> (l.foldl f s).first = some e
 | [], _, h => h
 | x :: l, s, h => fs_fold hf l (f s x) (hf s x h)
theorem fs_block {e : Nat × Nat} : ∀ (d : Nat) (s : Ck) (x : BT d), s.first = some e -> (s.block d x).first = some e
 | 0, _, _, h => h
 | d + 1, s, x, h => fs_fold (fun _s r h => fs_stmt (fun s x h => fs_block d s x h) h r) x s h
theorem fs_rule1 {s : Ck} {e : Nat × Nat} (h : s.first = some e) (p : Nat) (n : NP) : (s.rule1 p n).first = some e := fs_ite (fs_fault (s := s.count n) h _ _) h
theorem fs_rule2 {s : Ck} {e : Nat × Nat} (h : s.first = some e) (n : NP) : (s.rule2 n).first = some e := fs_ite h (fs_use h _ _)
theorem fs_rule {s : Ck} {e : Nat × Nat} (h : s.first = some e) (r : Nat × NP × BT 8) : (s.rule r).first = some e := fs_block 8 _ _ (fs_rule2 (fs_rule1 h _ _) _)
theorem none_of {s s' : Ck} (hf : ∀ e, s.first = some e -> s'.first = some e) (h : s'.first = none) : s.first = none := by
 cases hs : s.first with
 | none => rfl
 | some e => rw [hf e hs] at h; cases h
theorem fs_declare {s : Ck} {e : Nat × Nat} (h : s.first = some e) (n : NP) (k : Nat) : (s.declare n k).first = some e := by
 unfold Ck.declare
 split
 ·exact fs_fault h _ _
 ·exact fs_ite (fs_fault h _ _) h
theorem fs_decl {s : Ck} {e : Nat × Nat} (h : s.first = some e) (d : Dc) : (s.decl d).first = some e := by
 unfold Ck.decl
 repeat' (first | exact h | apply fs_ite | apply fs_bound | apply fs_declare | apply fs_fault)
theorem fs_miss {s : Ck} {e : Nat × Nat} (h : s.first = some e) : (missS s).first = some e := fs_ite (fs_fault h _ _) h
theorem fault_none {s : Ck} {i p : Nat} : (s.fault i p).first ≠ none := by
 unfold Ck.fault
 cases h : s.first with
 | none => simp
 | some e => simp [h]
theorem bound_none {s : Ck} {v p m : Nat} (h : (s.bound v p m).first = none) : s.first = none /\ 1 <= v /\ v <= m /\ s.bound v p m = s := by
 unfold Ck.bound at h ⊢
 split at h
 ·exact absurd h fault_none
 ·rename_i hc
  rw [if_neg hc]
  exact ⟨h, by omega, by omega, rfl⟩
theorem declare_none {s : Ck} {n : NP} {k : Nat} (h : (s.declare n k).first = none) : s.first = none /\ look n.1 s.names = none /\ s.names.length ≠ 8 /\ s.declare n k = { s with names := (n.1, k) :: s.names } := by
 unfold Ck.declare at h ⊢
 split at h
 ·exact absurd h fault_none
 ·rename_i hl
  split at h
  ·exact absurd h fault_none
  ·rename_i hc
   rw [hl]
   simp only
   rw [if_neg hc]
   exact ⟨h, trivial, hc, rfl⟩
theorem decl_none {s : Ck} {d : Dc} (h : (s.decl d).first = none) : s.first = none /\
  (d.word = [113, 117, 101, 117, 101] \/ d.word = [103, 104, 111, 115, 116] -> 1 <= d.num.1 /\ d.num.1 <= 50 /\ look d.name.1 s.names = none /\ s.names.length ≠ 8 /\ (s.decl d).names = (d.name.1, 0) :: s.names) /\
  (d.word = [118, 97, 114] -> 1 <= d.num.1 /\ d.num.1 <= 99 /\ look d.name.1 s.names = none /\ s.names.length ≠ 8 /\ (s.decl d).names = (d.name.1, 1) :: s.names) /\
  (d.word = [102, 114, 101, 113] -> 1 <= d.num.1 /\ d.num.1 <= 99 /\ s.freqs = 0 /\ (s.decl d).freqs = 1 /\ (s.decl d).names = s.names) := by
 have hs : s.first = none := none_of (fun _ he => fs_decl he d) h
 refine ⟨hs, ?_, ?_, ?_⟩
 ·intro hw
  have e : s.decl d = (s.declare d.name 0).bound d.num.1 d.num.2 50 := by unfold Ck.decl; rw [if_pos hw]
  rw [e] at h ⊢
  obtain ⟨h1, h2, h3, h4⟩ := bound_none h
  obtain ⟨_, h5, h6, h7⟩ := declare_none h1
  exact ⟨h2, h3, h5, h6, by rw [h4, h7]⟩
 ·intro hw
  have e : s.decl d = (s.declare d.name 1).bound d.num.1 d.num.2 99 := by unfold Ck.decl; rw [if_neg (by rw [hw]; decide), if_pos hw]
  rw [e] at h ⊢
  obtain ⟨h1, h2, h3, h4⟩ := bound_none h
  obtain ⟨_, h5, h6, h7⟩ := declare_none h1
  exact ⟨h2, h3, h5, h6, by rw [h4, h7]⟩
 ·intro hw
  have e : s.decl d = (if s.freqs + 1 > 1 then ({ s with freqs := s.freqs + 1 } : Ck).fault 3 d.pos else { s with freqs := s.freqs + 1 }).bound d.num.1 d.num.2 99 := by unfold Ck.decl; rw [if_neg (by rw [hw]; decide), if_neg (by rw [hw]; decide), if_pos hw]
  rw [e] at h ⊢
  obtain ⟨h1, h2, h3, h4⟩ := bound_none h
  split at h1
  ·exact absurd h1 fault_none
  ·rename_i hc
   rw [h4, if_neg hc]
   exact ⟨h2, h3, by omega, by show s.freqs + 1 = 1; omega, rfl⟩
theorem decls_none : ∀ (ds : List Dc) (s : Ck), (ds.foldl Ck.decl s).first = none -> s.first = none /\ ∀ d ∈ ds, (d.word = [113, 117, 101, 117, 101] \/ d.word = [103, 104, 111, 115, 116] -> 1 <= d.num.1 /\ d.num.1 <= 50) /\ (d.word = [118, 97, 114] -> 1 <= d.num.1 /\ d.num.1 <= 99) /\ (d.word = [102, 114, 101, 113] -> 1 <= d.num.1 /\ d.num.1 <= 99)
 | [], _, h => ⟨h, fun _ hd => (by cases hd)⟩
 | d :: ds, s, h => by
  obtain ⟨h1, h2⟩ := decls_none ds (s.decl d) h
  obtain ⟨h3, h4, h5, h6⟩ := decl_none h1
  refine ⟨h3, fun x hx => ?_⟩
  rcases List.mem_cons.1 hx with rfl | hx
  ·exact ⟨fun k => ⟨(h4 k).1, (h4 k).2.1⟩, fun k => ⟨(h5 k).1, (h5 k).2.1⟩, fun k => ⟨(h6 k).1, (h6 k).2.1⟩⟩
  ·exact h2 x hx
theorem check_none {ds : List Dc} {rs : List (Nat × NP × BT 8)} (h : (checkS ds rs).first = none) : (rs.foldl Ck.rule (ds.foldl Ck.decl ck0)).first = none /\ (ds.foldl Ck.decl ck0).first = none := by
 have h1 : (rs.foldl Ck.rule (ds.foldl Ck.decl ck0)).first = none := none_of (fun _ he => fs_miss he) h
 exact ⟨h1, none_of (fun _ he => fs_fold (fun s x hx => fs_rule hx x) rs _ he) h1⟩
def Cc.bare (c : Cc) : Cc := { c with st := [], lp := 0 }
theorem stm_bare {β : Type} {blk : Cc -> β -> Cc} (hb : ∀ c x, (blk c x).bare = c.bare) (c : Cc) (r : St × β × β) : (c.stm blk r).bare = c.bare := by
 unfold Cc.stm
 split
 ·unfold Cc.ifs
  simp only
  have h1 := hb (c.add (c.tsx r.1.cond)) r.2.1
  generalize blk (c.add (c.tsx r.1.cond)) r.2.1 = c2 at *
  have h2 := hb ((c2.add (jmpS 0)).land c.st.length) r.2.2
  exact h2.trans h1
 ·split
  ·rw [rep_eq]
   have h1 := hb (c.c3 r.1).up r.2.1
   exact h1
  ·rfl
theorem fold_bare {β : Type} {blk : Cc -> β -> Cc} (hb : ∀ c x, (blk c x).bare = c.bare) : ∀ (xs : List (St × β × β)) (c : Cc), (List.foldl (fun c r => c.stm blk r) c xs).bare = c.bare
 | [], _ => rfl
 | r :: xs, c => (fold_bare hb xs (c.stm blk r)).trans (stm_bare hb c r)
theorem blk_bare : ∀ (d : Nat) (c : Cc) (x : BT d), (c.blk d x).bare = c.bare
 | 0, _, _ => rfl
 | d + 1, c, x => fold_bare (fun c x => blk_bare d c x) x c
def Cc.core (c : Cc) : Cc := { c with st := [], lp := 0, rt := [] }
theorem core_of {c c' : Cc} (h : c.bare = c'.bare) : c.core = c'.core := by
 have : c.bare.core = c'.bare.core := by rw [h]
 exact this
theorem rul_core (c : Cc) (r : Nat × NP × BT 8) : (c.rul r).core = c.core := by
 have := core_of (blk_bare 8 c r.2.2)
 exact this
theorem ruls_core : ∀ (rs : List (Nat × NP × BT 8)) (c : Cc), (rs.foldl Cc.rul c).core = c.core
 | [], _ => rfl
 | r :: rs, c => (ruls_core rs (c.rul r)).trans (rul_core c r)
theorem dcls_upto : ∀ (ds : List Dc) (c : Cc) (k : Nat), c.upto k -> (ds.foldl Cc.dcl c).upto (k + ds.length)
 | [], _, _, h => h
 | d :: ds, c, k, h => by
  have := dcls_upto ds (c.dcl d) (k + 1) (dcl_upto h d).1
  rw [List.length_cons, show k + (ds.length + 1) = k + 1 + ds.length by omega]
  exact this
theorem dcl_ro {c : Cc} {d : Dc} {k : Nat} (h : ∀ r ∈ c.ro, r <= k) (hd : d.word = [113, 117, 101, 117, 101] \/ d.word = [103, 104, 111, 115, 116] -> d.num.1 <= k) : ∀ r ∈ (c.dcl d).ro, r <= k := by
 unfold Cc.dcl
 intro r hr
 split at hr
 ·rename_i hw
  rcases List.mem_append.1 hr with hr | hr
  ·exact h r hr
  ·rcases List.mem_singleton.1 hr with rfl; exact hd (.inl hw)
 ·split at hr
  ·rename_i hw
   rcases List.mem_append.1 hr with hr | hr
   ·exact h r hr
   ·rcases List.mem_singleton.1 hr with rfl; exact hd (.inr hw)
  ·split at hr
   ·exact h r hr
   ·split at hr
    ·exact h r hr
    ·exact h r hr
theorem dcls_ro {k : Nat} : ∀ (ds : List Dc) (c : Cc), (∀ r ∈ c.ro, r <= k) -> (∀ d ∈ ds, d.word = [113, 117, 101, 117, 101] \/ d.word = [103, 104, 111, 115, 116] -> d.num.1 <= k) -> ∀ r ∈ (ds.foldl Cc.dcl c).ro, r <= k
 | [], _, h, _ => h
 | d :: ds, c, h, hd => dcls_ro ds (c.dcl d) (dcl_ro h (hd d List.mem_cons_self)) (fun x hx => hd x (List.mem_cons_of_mem _ hx))
def compS (x : List Dc × List (Nat × NP × BT 8)) : Cc := x.2.foldl Cc.rul (x.1.foldl Cc.dcl cc0)
structure Fine (x : List Dc × List (Nat × NP × BT 8)) : Prop where
 d7 : ∀ d ∈ x.1, d.name.1.length <= 700
 dw : ∀ d ∈ x.1, d.word = [113, 117, 101, 117, 101] \/ d.word = [103, 104, 111, 115, 116] \/ d.word = [118, 97, 114] \/ d.word = [102, 114, 101, 113]
 r7 : ∀ r ∈ x.2, r.2.1.1.length <= 700 /\ smallB 8 r.2.2
 rc : ∀ r ∈ x.2, costB 8 r.2.2 <= 800000
 dn : x.1.length <= 900
 rn : x.2.length <= 900
 ck : (checkS x.1 x.2).first = none
theorem read_fine {l : List UInt8} {x : List Dc × List (Nat × NP × BT 8)} (h : readS l = .ok x) : Fine x := by
 unfold readS at h
 split at h
 ·cases h
 ·rename_i hl
  have hG := gd_policy (l := l) (by omega) (t := tokAt l 0) (nx_ok l 0 (Nat.zero_le _))
  cases hp : policyS l (tokAt l 0) with
  | error e => rw [hp] at h; cases h
  | ok p =>
   obtain ⟨y, t'⟩ := p
   rw [hp] at h
   simp only at h
   obtain ⟨⟨q1, q2, q3, q4⟩, _⟩ := hG y t' hp
   cases hc : (checkS y.1 y.2).first with
   | some e => rw [hc] at h; cases h
   | none =>
    rw [hc] at h
    simp only [Except.ok.injEq] at h
    subst h
    unfold policyS at hp
    obtain ⟨ds, t1, h1, hp⟩ := bindR_ok hp
    obtain ⟨rs, t2, h2, hp⟩ := bindR_ok hp
    have ht1 := (gd_decls _ _ (nx_ok l 0 (Nat.zero_le _)) ds t1 h1).2
    have ht2 := (gd_rules (by omega) _ t1 ht1 rs t2 h2).2
    have k1 := decls_w _ _ _ _ h1
    have k2 := rules_c _ _ _ _ h2
    unfold endS at hp
    split at hp
    ·simp only [Except.ok.injEq, Prod.mk.injEq] at hp
     obtain ⟨rfl, _⟩ := hp
     refine ⟨q1, k1.1, q2, fun r hr => ?_, q3, q4, hc⟩
     have := k2.1 r hr
     unfold Tk at ht2
     omega
    ·cases hp
theorem Fine.ro {x : List Dc × List (Nat × NP × BT 8)} (h : Fine x) : (compS x).ro.length <= 1000 /\ (∀ r ∈ (compS x).ro, r <= 1000) /\ (compS x).mo.length <= 1000 := by
 have e := ruls_core x.2 (x.1.foldl Cc.dcl cc0)
 have e1 : (compS x).ro = (x.1.foldl Cc.dcl cc0).ro := by have := congrArg Cc.ro e; exact this
 have e2 : (compS x).mo = (x.1.foldl Cc.dcl cc0).mo := by have := congrArg Cc.mo e; exact this
 have hu := dcls_upto x.1 cc0 0 ⟨Nat.le_refl _, Nat.le_refl _, Nat.le_refl _, Nat.le_refl _, Nat.le_refl _, Nat.le_refl _⟩
 obtain ⟨_, _, _, u4, u5, _⟩ := hu
 have := h.dn
 have hk := (decls_none x.1 ck0 (check_none h.ck).2).2
 rw [e1, e2]
 exact ⟨by omega, fun r hr => Nat.le_trans (dcls_ro (k := 50) x.1 cc0 (fun _ hr => (by cases hr)) (fun d hd hw => ((hk d hd).1 hw).2) r hr) (by omega), by omega⟩
def TreeAt (w : World) (n : Nat) (x : List Dc × List (Nat × NP × BT 8)) : Prop := ∃ vd vr rows, w.heap[n]? = some (.cells #[vd, vr] 114) /\ w.ownsRow (n + 1) 120 6 vd x.1.length (flatD x.1) /\ w.ownsRow (n + 1) 161 4 vr rows.length (flatU rows) /\ RelU (SlR 8 w (fun g => n + 1 <= g)) rows x.2
theorem TreeAt.below {w w' : World} {n : Nat} {x : List Dc × List (Nat × NP × BT 8)} (h : TreeAt w n x) (hb : Below w.heap.size w w') : TreeAt w' n x := by
 obtain ⟨vd, vr, rows, hP, hod, hou, hrel⟩ := h
 exact ⟨vd, vr, rows, (hb.block n (Array.getElem?_eq_some_iff.1 hP).1).trans hP, own_mv hod (fun g _ hl => hb.block g hl), own_mv hou (fun g _ hl => hb.block g hl), RelU.mono (fun v x h => SlR.move 8 (fun g _ hl => hb.block g hl) v x h) _ _ hrel⟩
theorem M0.below {w w' : World} {lo mb : Nat} {c : Cc} (h : M0 w lo mb c) (hb : Below w.heap.size w w') : M0 w' lo mb c := by
 obtain ⟨v, rb, ab, mp, x, y, vs, h1, h2, h3, h4, h5, h6⟩ := h
 have l := (Array.getElem?_eq_some_iff.1 h1).1
 exact ⟨v, rb, ab, mp, x, y, vs, (hb.block mb l).trans h1, h2.move (fun g _ hl => hb.block g (by omega)), h3.move (fun g _ hl => hb.block g hl), h4, own_mv h5 (fun g _ hl => hb.block g hl), h6⟩
def TreeF (w : World) (n hi : Nat) (x : List Dc × List (Nat × NP × BT 8)) : Prop := ∃ wp : World, TreeAt wp n x /\ wp.heap.size <= hi /\ ∀ g, n <= g -> g < wp.heap.size -> w.heap[g]? = wp.heap[g]?
theorem TreeF.move {w w' : World} {n hi : Nat} {x : List Dc × List (Nat × NP × BT 8)} (h : TreeF w n hi x) (hb : ∀ g, n <= g -> g < hi -> w'.heap[g]? = w.heap[g]?) : TreeF w' n hi x := by
 obtain ⟨wp, h1, h2, h3⟩ := h
 exact ⟨wp, h1, h2, fun g hg hl => (hb g hg (by omega)).trans (h3 g hg hl)⟩
theorem TreeF.tree {w : World} {n hi : Nat} {x : List Dc × List (Nat × NP × BT 8)} (h : TreeF w n hi x) : TreeAt w n x := by
 obtain ⟨wp, h1, h2, h3⟩ := h
 obtain ⟨vd, vr, rows, hP, hod, hou, hrel⟩ := h1
 have hl := (Array.getElem?_eq_some_iff.1 hP).1
 exact ⟨vd, vr, rows, (h3 n (Nat.le_refl _) hl).trans hP, own_mv hod (fun g hg hl => h3 g (by have := (hod.lt g hg).1; omega) hl), own_mv hou (fun g hg hl => h3 g (by have := (hou.lt g hg).1; omega) hl), RelU.mono (fun v x h => SlR.move 8 (fun g hg hl => h3 g (by omega) hl) v x h) _ _ hrel⟩
def OutL (w : World) (r : Except (Nat × Nat) (List Dc × List (Nat × NP × BT 8))) (e : Ending) (w' : World) : Prop :=
 match r with
 | .ok x => ∃ g n mb, e = .returned (.tuple #[ptr g, .int .i64 0, .int .i64 0]) /\ Below w.heap.size w w' /\ w.heap.size <= n /\ n < mb /\ mb < g /\ w'.heap[g]? = some (.cells #[ptr n, ptr mb, .int .i64 0, .int .i64 0, .int .i64 0] 72) /\ (∃ lo, n < lo /\ lo <= mb /\ TreeF w' n lo x /\ M0 w' lo mb (compS x)) /\ Fine x
 | .error (i, p) => e = .returned (.tuple #[.pointer none, .int .i64 (enoS i), .int .i64 p]) /\ Below w.heap.size w w'
theorem load_any (l : List UInt8) {w : World} {A : Nat -> Addr} (SS : Sent w A) :
  Calls Tryz.prog 18 #[S l] w fun e w' => OutL w (readS l) e w' := by
 have HP := read_any l w (fun i => .pointer (some (A i))) (fun i hi => SS.g i (by omega))
 have hR : ∀ i p, readS l = .error (i, p) -> i < 10 \/ i = 13 := fun i p h => readS_err h
 have hF : Hid (∀ x, readS l = .ok x -> Fine x) := fun x h => read_fine h
 generalize readS l = r at *
 go_enter Tryz.func18, Tryz.ntmps18
 go_wp2_with fail
 refine HP.mono ?_
 clear HP
 rcases r with ⟨i, p⟩ | x
 ·rintro e w1 ⟨f, rfl, B1, hf, hF⟩
  have i1 := hR i p rfl
  have S1 := SS.move B1
  have hc : w1.cell? ⟨f, 0, none⟩ = some (.iface 278 (.pointer (some (A i)))) := by simp [World.cell?, hF]
  have HE := errno_any S1 f i (by omega) hc
  have HL := place_any S1 f p _ hF
  have z1 := B1.size
  clear hR SS
  go_wp2_with fail
  refine HE.mono ?_
  rintro e w2 ⟨rfl, rfl⟩
  go_wp2_with fail
  refine HL.mono ?_
  rintro e w3 ⟨rfl, B3⟩
  go_wp2_with fail
  exact bodyPost_ret (v := .tuple #[.pointer none, .int .i64 (enoS i), .int .i64 p]) (by simp [results, Tryz.results18, go_sem]) rfl ⟨rfl, B1.trans (B3.mono z1)⟩
 ·rintro e w1 ⟨n, vd, vr, rows, rfl, B1, hn, hP, hod, hou, hrel⟩
  have z1 := B1.size
  have FX := hF.out x rfl
  obtain ⟨ds, rs⟩ := x
  have hn1 : n < w1.heap.size := (Array.getElem?_eq_some_iff.1 hP).1
  have HN := new_all n vd vr ds rows rs hP hod hou hrel FX.d7 FX.dw FX.r7 FX.rc FX.dn FX.rn FX.ro
  have HT : TreeAt w1 n (ds, rs) := ⟨vd, vr, rows, hP, hod, hou, hrel⟩
  clear hR SS hF
  go_wp2_with fail
  refine HN.mono ?_
  rintro e w2 ⟨mb, rfl, B2, hmb, HM⟩
  have z2 := B2.size
  have hmb2 : mb < w2.heap.size := by obtain ⟨_, _, _, _, _, _, _, h1, _⟩ := HM; exact (Array.getElem?_eq_some_iff.1 h1).1
  have HT2 : TreeF w2 n w1.heap.size (ds, rs) := ⟨w1, HT, Nat.le_refl _, fun g _ hl => B2.block g hl⟩
  have B3 := B1.trans (B2.mono z1)
  go_wp2_with fail
  exact bodyPost_ret (v := .tuple #[ptr w2.heap.size, .int .i64 0, .int .i64 0]) (by simp [results, Tryz.results18, go_sem]) rfl ⟨w2.heap.size, n, mb, rfl, B3.alloc (by omega) _, hn, by omega, hmb2, heap_new rfl, ⟨_, hn1, hmb, HT2.move (fun g _ hl => Below.heap_alloc _ _ _ (by omega)), HM.below ((Below.refl _ w2).alloc (Nat.le_refl _) _)⟩, FX⟩
end Go.Proofs.YtfddoieakfpagabGreatDoor
