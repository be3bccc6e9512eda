import Derived.Deep.DeepCutAuto
import Derived.Test.YtfddoieakfpagabGreatDoorHA
import Derived.Test.YtfddoieakfpagabGreatDoorGC
namespace Go.Proofs.YtfddoieakfpagabGreatDoor
set_option maxHeartbeats 400000000
set_option maxRecDepth 20000
open Go.RowKit
theorem info_str : (Tryz.prog.info? 9).map (fun i => (i.zero, i.size, i.bytes)) = some (some (S []), 1, 16) := by kernel_rfl
theorem info_boo : (Tryz.prog.info? 4).map (fun i => (i.zero, i.size, i.bytes)) = some (some (.bool false), 1, 1) := by kernel_rfl
theorem info_in : (Tryz.prog.info? 3).map (fun i => (i.zero, i.size, i.bytes)) = some (some (.int .i64 0), 1, 8) := by kernel_rfl
section
variable {w : World} {lo cb ib rb : Nat} {v : Nat -> Value} {c : Cc}
def D5 (w : World) (lo cb ib rb : Nat) (v : Nat -> Value) (d : Dc) (c : Cc) (wx : World) : Prop :=
 ∃ v', Cw wx lo cb ib rb v' c /\ Fr cb ib rb v v' w wx /\ wx.heap[w.heap.size]? = some (.cells (dcA d) 120) /\ ¬ Mine cb ib rb v' w.heap.size
theorem Cw.name {w' : World} (h : Cw w lo cb ib rb v c) (n : List UInt8) (q k : Nat) (hk : k <= c.ix.length + 1) (hg : w.grownBy w' (some ib)) (hm : MapR w' 3 ib k ((n, q) :: c.ix)) :
  Cw w' lo cb ib rb v { c with ix := (n, q) :: c.ix } /\ Fr cb ib rb v v w w' := by
 obtain ⟨l1, l2, l3⟩ := h.lt
 have hb : ∀ k, k < w.heap.size -> k ≠ ib -> w'.heap[k]? = w.heap[k]? := fun k hk hne => hg.block k hk (fun e => hne (by simpa using e))
 refine ⟨⟨(hb cb l1 h.ne.1).trans h.at', fun i hi => own_mv (h.own i hi) (fun g hgv hl => hb g hl (h.off i hi g hgv).2.1), h.sep, h.off, ⟨k, by simpa using hk, hm⟩, ?_, h.ne, ?_⟩, ⟨hg.os, hg.tape, hg.output, hg.size, fun k hk hmi => hb k hk (fun e => hmi (Or.inr (Or.inl e))), fun k hk => Or.inl hk⟩⟩
 ·exact h.ru.mv (hb rb l3 (Ne.symm h.ne.2.2)) (fun k hk hmi => hb k hk (fun e => hmi (Or.inr (Or.inl e)))) (fun _ _ h => h)
 ·have := h.low; have := hg.size; omega
theorem Cw.own4 (_h : Cw w lo cb ib rb v c) (o : Nat) (u : Value) : Fr cb ib rb v v w (w.setCell ⟨cb, o, none⟩ u) :=
 ⟨rfl, rfl, rfl, by simp [World.setCell], fun k hk hm => Below.heap_setCell _ _ _ _ (fun e => hm (Or.inl e)), fun k hk => Or.inl hk⟩
theorem Cw.plain (h : Cw w lo cb ib rb v c) (o : Nat) (u : Value) (c' : Cc) (hc : ∀ i, i < 6 -> c'.num i = c.num i /\ c'.row i = c.row i) (hix : c'.ix = c.ix) (hnr : c'.rt = c.rt)
  (ha : (#[v 0, v 1, v 2, v 5, v 3, .int .i64 c.mf, .map (some rb), .map (some ib), v 4, .int .i64 c.lp] : Array Value).setIfInBounds o u = #[v 0, v 1, v 2, v 5, v 3, .int .i64 c'.mf, .map (some rb), .map (some ib), v 4, .int .i64 c'.lp]) :
  Cw (w.setCell ⟨cb, o, none⟩ u) lo cb ib rb v c' := by
 have hb : ∀ k, k ≠ cb -> (w.setCell ⟨cb, o, none⟩ u).heap[k]? = w.heap[k]? := fun k hk => Below.heap_setCell _ _ _ _ hk
 refine ⟨by rw [<- ha]; exact heap_setCell_same _ _ _ _ _ _ h.at', fun i hi => ?_, h.sep, h.off, ?_, ?_, h.ne, ?_⟩
 ·obtain ⟨e1, e2⟩ := hc i hi
  rw [e1, e2]
  exact own_mv (h.own i hi) (fun g hg _ => hb g (h.off i hi g hg).1)
 ·obtain ⟨k, hk, hm⟩ := h.ix
  exact ⟨k, by rw [hix]; exact hk, by rw [hix]; exact hm.move (hb ib (Ne.symm h.ne.1))⟩
 ·rw [hnr]
  exact h.ru.mv (hb rb (Ne.symm h.ne.2.1)) (fun k _ hm => hb k (fun e => hm (Or.inl e))) (fun _ _ h => h)
 ·have := h.low
  simp only [World.setCell, Array.size_modify]
  exact this
theorem Cw.mfset (h : Cw w lo cb ib rb v c) (m : Nat) : Cw (w.setCell ⟨cb, 5, none⟩ (.int .i64 m)) lo cb ib rb v { c with mf := m } := h.plain 5 _ _ (fun _i _ => ⟨rfl, rfl⟩) rfl rfl rfl
theorem Cw.lpset (h : Cw w lo cb ib rb v c) (m : Nat) : Cw (w.setCell ⟨cb, 9, none⟩ (.int .i64 m)) lo cb ib rb v { c with lp := m } := h.plain 9 _ _ (fun _i _ => ⟨rfl, rfl⟩) rfl rfl rfl
theorem D5.start (h : Cw w lo cb ib rb v c) (d : Dc) : D5 w lo cb ib rb v d c (w.alloc (.cells (dcA d) 120)) :=
 ⟨v, h.alloc _, Fr.of cb ib rb v ((Below.refl _ w).alloc (Nat.le_refl _) _), heap_new rfl, fun hm => by have := (h.mine_lt hm).2; omega⟩
theorem mdecl_queue (h : Cw w lo cb ib rb v c) (dp : Nat) (dn : List UInt8) (dq dm dr : Nat) (hdn : dn.length <= 700) (hixl : c.ix.length <= 2900) (h0 : c.ev.length <= 2900 /\ c.gh.length <= 2900 /\ c.ro.length <= 2900 /\ c.mo.length <= 2900 /\ c.vn.length <= 2900) :
  Calls Tryz.prog 68 #[ptr cb, .agg (dcA ⟨[113, 117, 101, 117, 101], dp, (dn, dq), (dm, dr)⟩)] w (OutM w lo cb ib rb v (.tuple #[]) ({ c with ix := (dn, c.ro.length) :: c.ix, ev := c.ev ++ [dn], gh := c.gh ++ [false], ro := c.ro ++ [dm] })) := by
 obtain ⟨l0, l1, l2, l3, l4⟩ := h0
 have hd := D5.start h ⟨[113, 117, 101, 117, 101], dp, (dn, dq), (dm, dr)⟩
 go_enter Tryz.func68, Tryz.ntmps68
 go_upto_region 5 with fail
 generalize w.alloc (.cells (dcA ⟨[113, 117, 101, 117, 101], dp, (dn, dq), (dm, dr)⟩) 120) = wc at *
 go_cut [] (fun wx => D5 w lo cb ib rb v ⟨[113, 117, 101, 117, 101], dp, (dn, dq), (dm, dr)⟩ ({ c with ix := (dn, c.ro.length) :: c.ix }) wx)
 case first =>
  obtain ⟨v1, C1, F1, b1, hm1⟩ := hd
  obtain ⟨va, vc, hv⟩ := C1.form 2 (by decide)
  have hv : v1 2 = .slice va c.ro.length vc := hv
  obtain ⟨k0, hk0, hmap⟩ := C1.drew.ix
  have hk1 : k0 <= 2900 := by have := hixl; omega
  obtain ⟨w2, hput, hm2, hgr, hsz⟩ := hmap.put u81 u3 (by omega) dn hdn c.ro.length (by omega)
  have hk2 : (if (look dn (c).ix).isSome = true then k0 else k0 + 1) <= (c).ix.length + 1 := by split <;> omega
  obtain ⟨C2, F2⟩ := C1.drew.name dn c.ro.length _ hk2 hgr hm2
  have e1 := C1.at'
  rw [hv] at e1
  obtain ⟨c1, cf1⟩ := blk_cl e1
  obtain ⟨c2, cf2⟩ := blk_cl b1
  have F0 : Fr cb ib rb v1 v1 wc wc.drew := ⟨rfl, rfl, rfl, Nat.le_refl _, fun _ _ _ => rfl, fun _ h => Or.inl h⟩
  have F3 := F1.trans (F0.trans F2)
  have b3 := F2.at' (w := wc.drew) b1 hm1
  clear hmap hm2 hgr hsz C1 F1 F0 F2
  go_region
  all_goals
   go_wp2_with fail
   go_meet
   exact ⟨v1, C2, F3, b3, hm1⟩
 case rest =>
 have hd := hcut
 clear hcut
 go_upto_region 6 with fail
 go_cut [] (fun wx => D5 w lo cb ib rb v ⟨[113, 117, 101, 117, 101], dp, (dn, dq), (dm, dr)⟩ ({ c with ix := (dn, c.ro.length) :: c.ix, ev := c.ev ++ [dn] }) wx)
 case first =>
  obtain ⟨v1, C1, F1, b1, hm1⟩ := hd
  obtain ⟨va, vc, hv⟩ := C1.form 0 (by decide)
  have hv : v1 0 = .slice va c.ev.length vc := hv
  have H2 := (C1.alloc (.cells #[S dn] 9)).drew
  have B2 : Below wc.heap.size wc (wc.alloc (.cells #[S dn] 9)).drew := bdrw ((Below.refl _ wc).alloc (Nat.le_refl _) _)
  have hl2 : lo <= (wc.alloc (.cells #[S dn] 9)).drew.heap.size := H2.low.2.2.2
  have hrow : (wc.alloc (.cells #[S dn] 9)).drew.ownsRow lo 9 1 (.slice va c.ev.length vc) c.ev.length (c.ev.map S) := by rw [<- hv]; exact H2.own 0 (by decide)
  have e1 := C1.at'
  have e2 := H2.at'
  rw [hv] at e1 e2
  obtain ⟨c1, cf1⟩ := blk_cl e1
  obtain ⟨c2, cf2⟩ := blk_cl b1
  obtain ⟨c3, cf3⟩ := blk_cl e2
  have hbx : w.heap.size < wc.heap.size := (Array.getElem?_eq_some_iff.1 b1).1
  have b2 : (wc.alloc (.cells #[S dn] 9)).drew.heap[w.heap.size]? = some (.cells (dcA ⟨[113, 117, 101, 117, 101], dp, (dn, dq), (dm, dr)⟩) 120) := (Below.heap_alloc _ _ _ hbx).trans b1
  obtain ⟨c4, cf4⟩ := blk_cl b2
  obtain ⟨i0, hi, hz0, hz1, hz2⟩ := info_parts info_str
  have hbd : c.ev.length + 1 <= maxLen := by simp only [maxLen]; omega
  have hby : (c.ev.length + 1) * 16 <= 140737488355328 := by omega
  have hrw := fun j u hu => row_cells wc #[S dn] 9 j u hu
  have hPut := fun (u : Value) (w' : World) => Cw.put (c' := { c with ix := (dn, c.ro.length) :: c.ix, ev := c.ev ++ [dn] }) (w' := w') H2 0 (by decide) u
  have hbl : w.heap.size < (wc.alloc (.cells #[S dn] 9)).drew.heap.size := (Array.getElem?_eq_some_iff.1 b2).1
  have hoff : some cb ≠ (Value.slice va c.ev.length vc).ownBlock := fun e => by rw [<- hv] at e; exact (C1.off 0 (by decide) cb e.symm).1 rfl
  go_region_law (refine step_append_own rfl (.tmp 29) (.tmp 33) 40 rfl lo 9 i0 (S []) 1 16 Tryz.underlying40 hi hz0 hz1 hz2 rfl (by decide) (.slice va c.ev.length vc) c.ev.length (c.ev.map S) (by simp [Act.eval]) hrow ⟨wc.heap.size, 0, none⟩ 1 1 [S dn] (by simp [Act.eval]) rfl hrw (fun u hu => by simp at hu; subst hu; rfl) hbd hby hl2 ?_; intro v' w6 hown6 hgrow hat; have hP6 := (hgrow.block cb (Array.getElem?_eq_some_iff.1 e2).1 hoff).trans e2; obtain ⟨ya, yk, yc, rfl⟩ := ownsRow_form2 hown6; obtain ⟨cq, cqf⟩ := blk_cl hP6)
  all_goals
   have hyk : yk = c.ev.length + 1 := by
    rcases hown6.2 with ⟨h1, h2⟩ | ⟨g, cap, cur, h1, _⟩
    ·simp at h1; omega
    ·simp at h1; exact h1.2.1
   subst hyk
   obtain ⟨C7, F7⟩ := hPut (.slice ya (c.ev.length + 1) yc) w6 (by rw [hv]; exact hgrow) (by rw [hv]; exact hat) (by simpa [Cc.num, Cc.row, ety, esz] using hown6) (fun j hj hne => by
    have h5 : j = 0 \/ j = 1 \/ j = 2 \/ j = 3 \/ j = 4 \/ j = 5 := by omega
    rcases h5 with rfl | rfl | rfl | rfl | rfl | rfl <;> first | exact ⟨rfl, rfl⟩ | exact absurd rfl hne) rfl rfl rfl rfl 0 rfl
   have hnm : ¬ Mine cb ib rb (fun j => if j = 0 then (Value.slice ya (c.ev.length + 1) yc) else v1 j) w.heap.size := fun hm => by
    rcases F7.new _ hm with h3 | h3
    ·exact hm1 h3
    ·omega
   clear hPut
   go_wp2_with fail
   go_meet
   exact ⟨_, C7, F1.trans ((Fr.of cb ib rb v1 B2).trans F7), F7.at' b2 hm1, hnm⟩
 case rest =>
 have hd := hcut
 clear hcut
 go_upto_region 7 with fail
 go_cut [] (fun wx => D5 w lo cb ib rb v ⟨[113, 117, 101, 117, 101], dp, (dn, dq), (dm, dr)⟩ ({ c with ix := (dn, c.ro.length) :: c.ix, ev := c.ev ++ [dn], gh := c.gh ++ [false] }) wx)
 case first =>
  obtain ⟨v1, C1, F1, b1, hm1⟩ := hd
  obtain ⟨va, vc, hv⟩ := C1.form 1 (by decide)
  have hv : v1 1 = .slice va c.gh.length vc := hv
  have H2 := (C1.alloc (.cells #[.bool false] 4)).drew
  have B2 : Below wc.heap.size wc (wc.alloc (.cells #[.bool false] 4)).drew := bdrw ((Below.refl _ wc).alloc (Nat.le_refl _) _)
  have hl2 : lo <= (wc.alloc (.cells #[.bool false] 4)).drew.heap.size := H2.low.2.2.2
  have hrow : (wc.alloc (.cells #[.bool false] 4)).drew.ownsRow lo 4 1 (.slice va c.gh.length vc) c.gh.length (c.gh.map Value.bool) := by rw [<- hv]; exact H2.own 1 (by decide)
  have e1 := C1.at'
  have e2 := H2.at'
  rw [hv] at e1 e2
  obtain ⟨c1, cf1⟩ := blk_cl e1
  obtain ⟨c2, cf2⟩ := blk_cl b1
  obtain ⟨c3, cf3⟩ := blk_cl e2
  have hbx : w.heap.size < wc.heap.size := (Array.getElem?_eq_some_iff.1 b1).1
  have b2 : (wc.alloc (.cells #[.bool false] 4)).drew.heap[w.heap.size]? = some (.cells (dcA ⟨[113, 117, 101, 117, 101], dp, (dn, dq), (dm, dr)⟩) 120) := (Below.heap_alloc _ _ _ hbx).trans b1
  obtain ⟨c4, cf4⟩ := blk_cl b2
  obtain ⟨i0, hi, hz0, hz1, hz2⟩ := info_parts info_boo
  have hbd : c.gh.length + 1 <= maxLen := by simp only [maxLen]; omega
  have hby : (c.gh.length + 1) * 1 <= 140737488355328 := by omega
  have hrw := fun j u hu => row_cells wc #[.bool false] 4 j u hu
  have hPut := fun (u : Value) (w' : World) => Cw.put (c' := { c with ix := (dn, c.ro.length) :: c.ix, ev := c.ev ++ [dn], gh := c.gh ++ [false] }) (w' := w') H2 1 (by decide) u
  have hbl : w.heap.size < (wc.alloc (.cells #[.bool false] 4)).drew.heap.size := (Array.getElem?_eq_some_iff.1 b2).1
  have hoff : some cb ≠ (Value.slice va c.gh.length vc).ownBlock := fun e => by rw [<- hv] at e; exact (C1.off 1 (by decide) cb e.symm).1 rfl
  go_region_law (refine step_append_own rfl (.tmp 41) (.tmp 45) 61 rfl lo 4 i0 (.bool false) 1 1 Tryz.underlying61 hi hz0 hz1 hz2 rfl (by decide) (.slice va c.gh.length vc) c.gh.length (c.gh.map Value.bool) (by simp [Act.eval]) hrow ⟨wc.heap.size, 0, none⟩ 1 1 [.bool false] (by simp [Act.eval]) rfl hrw (fun u hu => by simp at hu; subst hu; rfl) hbd hby hl2 ?_; intro v' w6 hown6 hgrow hat; have hP6 := (hgrow.block cb (Array.getElem?_eq_some_iff.1 e2).1 hoff).trans e2; obtain ⟨ya, yk, yc, rfl⟩ := ownsRow_form2 hown6; obtain ⟨cq, cqf⟩ := blk_cl hP6)
  all_goals
   have hyk : yk = c.gh.length + 1 := by
    rcases hown6.2 with ⟨h1, h2⟩ | ⟨g, cap, cur, h1, _⟩
    ·simp at h1; omega
    ·simp at h1; exact h1.2.1
   subst hyk
   obtain ⟨C7, F7⟩ := hPut (.slice ya (c.gh.length + 1) yc) w6 (by rw [hv]; exact hgrow) (by rw [hv]; exact hat) (by simpa [Cc.num, Cc.row, ety, esz] using hown6) (fun j hj hne => by
    have h5 : j = 0 \/ j = 1 \/ j = 2 \/ j = 3 \/ j = 4 \/ j = 5 := by omega
    rcases h5 with rfl | rfl | rfl | rfl | rfl | rfl <;> first | exact ⟨rfl, rfl⟩ | exact absurd rfl hne) rfl rfl rfl rfl 1 rfl
   have hnm : ¬ Mine cb ib rb (fun j => if j = 1 then (Value.slice ya (c.gh.length + 1) yc) else v1 j) w.heap.size := fun hm => by
    rcases F7.new _ hm with h3 | h3
    ·exact hm1 h3
    ·omega
   clear hPut
   go_wp2_with fail
   go_meet
   exact ⟨_, C7, F1.trans ((Fr.of cb ib rb v1 B2).trans F7), F7.at' b2 hm1, hnm⟩
 case rest =>
 have hd := hcut
 clear hcut
 go_upto_region 8 with fail
 obtain ⟨v1, C1, F1, b1, hm1⟩ := hd
 obtain ⟨va, vc, hv⟩ := C1.form 2 (by decide)
 have hv : v1 2 = .slice va c.ro.length vc := hv
 have H2 := (C1.alloc (.cells #[.int .i64 dm] 3)).drew
 have B2 : Below wc.heap.size wc (wc.alloc (.cells #[.int .i64 dm] 3)).drew := bdrw ((Below.refl _ wc).alloc (Nat.le_refl _) _)
 have hl2 : lo <= (wc.alloc (.cells #[.int .i64 dm] 3)).drew.heap.size := H2.low.2.2.2
 have hrow : (wc.alloc (.cells #[.int .i64 dm] 3)).drew.ownsRow lo 3 1 (.slice va c.ro.length vc) c.ro.length (c.ro.map fun (n : Nat) => Value.int .i64 n) := by rw [<- hv]; exact H2.own 2 (by decide)
 have e1 := C1.at'
 have e2 := H2.at'
 rw [hv] at e1 e2
 obtain ⟨c1, cf1⟩ := blk_cl e1
 obtain ⟨c2, cf2⟩ := blk_cl b1
 obtain ⟨c3, cf3⟩ := blk_cl e2
 have hbx : w.heap.size < wc.heap.size := (Array.getElem?_eq_some_iff.1 b1).1
 have b2 : (wc.alloc (.cells #[.int .i64 dm] 3)).drew.heap[w.heap.size]? = some (.cells (dcA ⟨[113, 117, 101, 117, 101], dp, (dn, dq), (dm, dr)⟩) 120) := (Below.heap_alloc _ _ _ hbx).trans b1
 obtain ⟨c4, cf4⟩ := blk_cl b2
 obtain ⟨i0, hi, hz0, hz1, hz2⟩ := info_parts info_in
 have hbd : c.ro.length + 1 <= maxLen := by simp only [maxLen]; omega
 have hby : (c.ro.length + 1) * 8 <= 140737488355328 := by omega
 have hrw := fun j u hu => row_cells wc #[.int .i64 dm] 3 j u hu
 have hPut := fun (u : Value) (w' : World) => Cw.put (c' := { c with ix := (dn, c.ro.length) :: c.ix, ev := c.ev ++ [dn], gh := c.gh ++ [false], ro := c.ro ++ [dm] }) (w' := w') H2 2 (by decide) u
 have hbl : w.heap.size < (wc.alloc (.cells #[.int .i64 dm] 3)).drew.heap.size := (Array.getElem?_eq_some_iff.1 b2).1
 have hoff : some cb ≠ (Value.slice va c.ro.length vc).ownBlock := fun e => by rw [<- hv] at e; exact (C1.off 2 (by decide) cb e.symm).1 rfl
 go_region_law (refine step_append_own rfl (.tmp 53) (.tmp 57) 85 rfl lo 3 i0 (.int .i64 0) 1 8 Tryz.underlying85 hi hz0 hz1 hz2 rfl (by decide) (.slice va c.ro.length vc) c.ro.length (c.ro.map fun (n : Nat) => Value.int .i64 n) (by simp [Act.eval]) hrow ⟨wc.heap.size, 0, none⟩ 1 1 [.int .i64 dm] (by simp [Act.eval]) rfl hrw (fun u hu => by simp at hu; subst hu; rfl) hbd hby hl2 ?_; intro v' w6 hown6 hgrow hat; have hP6 := (hgrow.block cb (Array.getElem?_eq_some_iff.1 e2).1 hoff).trans e2; obtain ⟨ya, yk, yc, rfl⟩ := ownsRow_form2 hown6; obtain ⟨cq, cqf⟩ := blk_cl hP6)
 all_goals
  have hyk : yk = c.ro.length + 1 := by
   rcases hown6.2 with ⟨h1, h2⟩ | ⟨g, cap, cur, h1, _⟩
   ·simp at h1; omega
   ·simp at h1; exact h1.2.1
  subst hyk
  obtain ⟨C7, F7⟩ := hPut (.slice ya (c.ro.length + 1) yc) w6 (by rw [hv]; exact hgrow) (by rw [hv]; exact hat) (by simpa [Cc.num, Cc.row, ety, esz] using hown6) (fun j hj hne => by
   have h5 : j = 0 \/ j = 1 \/ j = 2 \/ j = 3 \/ j = 4 \/ j = 5 := by omega
   rcases h5 with rfl | rfl | rfl | rfl | rfl | rfl <;> first | exact ⟨rfl, rfl⟩ | exact absurd rfl hne) rfl rfl rfl rfl 2 rfl
  have hnm : ¬ Mine cb ib rb (fun j => if j = 2 then (Value.slice ya (c.ro.length + 1) yc) else v1 j) w.heap.size := fun hm => by
   rcases F7.new _ hm with h3 | h3
   ·exact hm1 h3
   ·omega
  clear hPut
  go_wp2_with fail
  exact bodyPost_end (by simp [results, Tryz.results68, go_sem]) rfl ⟨rfl, _, C7, F1.trans ((Fr.of cb ib rb v1 B2).trans F7)⟩
theorem mdecl_ghost (h : Cw w lo cb ib rb v c) (dp : Nat) (dn : List UInt8) (dq dm dr : Nat) (hdn : dn.length <= 700) (hixl : c.ix.length <= 2900) (h0 : c.ev.length <= 2900 /\ c.gh.length <= 2900 /\ c.ro.length <= 2900 /\ c.mo.length <= 2900 /\ c.vn.length <= 2900) :
  Calls Tryz.prog 68 #[ptr cb, .agg (dcA ⟨[103, 104, 111, 115, 116], dp, (dn, dq), (dm, dr)⟩)] w (OutM w lo cb ib rb v (.tuple #[]) ({ c with ix := (dn, c.ro.length) :: c.ix, ev := c.ev ++ [dn], gh := c.gh ++ [true], ro := c.ro ++ [dm] })) := by
 obtain ⟨l0, l1, l2, l3, l4⟩ := h0
 have hd := D5.start h ⟨[103, 104, 111, 115, 116], dp, (dn, dq), (dm, dr)⟩
 go_enter Tryz.func68, Tryz.ntmps68
 go_upto_region 5 with fail
 generalize w.alloc (.cells (dcA ⟨[103, 104, 111, 115, 116], dp, (dn, dq), (dm, dr)⟩) 120) = wc at *
 go_cut [] (fun wx => D5 w lo cb ib rb v ⟨[103, 104, 111, 115, 116], dp, (dn, dq), (dm, dr)⟩ ({ c with ix := (dn, c.ro.length) :: c.ix }) wx)
 case first =>
  obtain ⟨v1, C1, F1, b1, hm1⟩ := hd
  obtain ⟨va, vc, hv⟩ := C1.form 2 (by decide)
  have hv : v1 2 = .slice va c.ro.length vc := hv
  obtain ⟨k0, hk0, hmap⟩ := C1.drew.ix
  have hk1 : k0 <= 2900 := by have := hixl; omega
  obtain ⟨w2, hput, hm2, hgr, hsz⟩ := hmap.put u81 u3 (by omega) dn hdn c.ro.length (by omega)
  have hk2 : (if (look dn (c).ix).isSome = true then k0 else k0 + 1) <= (c).ix.length + 1 := by split <;> omega
  obtain ⟨C2, F2⟩ := C1.drew.name dn c.ro.length _ hk2 hgr hm2
  have e1 := C1.at'
  rw [hv] at e1
  obtain ⟨c1, cf1⟩ := blk_cl e1
  obtain ⟨c2, cf2⟩ := blk_cl b1
  have F0 : Fr cb ib rb v1 v1 wc wc.drew := ⟨rfl, rfl, rfl, Nat.le_refl _, fun _ _ _ => rfl, fun _ h => Or.inl h⟩
  have F3 := F1.trans (F0.trans F2)
  have b3 := F2.at' (w := wc.drew) b1 hm1
  clear hmap hm2 hgr hsz C1 F1 F0 F2
  go_region
  all_goals
   go_wp2_with fail
   go_meet
   exact ⟨v1, C2, F3, b3, hm1⟩
 case rest =>
 have hd := hcut
 clear hcut
 go_upto_region 6 with fail
 go_cut [] (fun wx => D5 w lo cb ib rb v ⟨[103, 104, 111, 115, 116], dp, (dn, dq), (dm, dr)⟩ ({ c with ix := (dn, c.ro.length) :: c.ix, ev := c.ev ++ [dn] }) wx)
 case first =>
  obtain ⟨v1, C1, F1, b1, hm1⟩ := hd
  obtain ⟨va, vc, hv⟩ := C1.form 0 (by decide)
  have hv : v1 0 = .slice va c.ev.length vc := hv
  have H2 := (C1.alloc (.cells #[S dn] 9)).drew
  have B2 : Below wc.heap.size wc (wc.alloc (.cells #[S dn] 9)).drew := bdrw ((Below.refl _ wc).alloc (Nat.le_refl _) _)
  have hl2 : lo <= (wc.alloc (.cells #[S dn] 9)).drew.heap.size := H2.low.2.2.2
  have hrow : (wc.alloc (.cells #[S dn] 9)).drew.ownsRow lo 9 1 (.slice va c.ev.length vc) c.ev.length (c.ev.map S) := by rw [<- hv]; exact H2.own 0 (by decide)
  have e1 := C1.at'
  have e2 := H2.at'
  rw [hv] at e1 e2
  obtain ⟨c1, cf1⟩ := blk_cl e1
  obtain ⟨c2, cf2⟩ := blk_cl b1
  obtain ⟨c3, cf3⟩ := blk_cl e2
  have hbx : w.heap.size < wc.heap.size := (Array.getElem?_eq_some_iff.1 b1).1
  have b2 : (wc.alloc (.cells #[S dn] 9)).drew.heap[w.heap.size]? = some (.cells (dcA ⟨[103, 104, 111, 115, 116], dp, (dn, dq), (dm, dr)⟩) 120) := (Below.heap_alloc _ _ _ hbx).trans b1
  obtain ⟨c4, cf4⟩ := blk_cl b2
  obtain ⟨i0, hi, hz0, hz1, hz2⟩ := info_parts info_str
  have hbd : c.ev.length + 1 <= maxLen := by simp only [maxLen]; omega
  have hby : (c.ev.length + 1) * 16 <= 140737488355328 := by omega
  have hrw := fun j u hu => row_cells wc #[S dn] 9 j u hu
  have hPut := fun (u : Value) (w' : World) => Cw.put (c' := { c with ix := (dn, c.ro.length) :: c.ix, ev := c.ev ++ [dn] }) (w' := w') H2 0 (by decide) u
  have hbl : w.heap.size < (wc.alloc (.cells #[S dn] 9)).drew.heap.size := (Array.getElem?_eq_some_iff.1 b2).1
  have hoff : some cb ≠ (Value.slice va c.ev.length vc).ownBlock := fun e => by rw [<- hv] at e; exact (C1.off 0 (by decide) cb e.symm).1 rfl
  go_region_law (refine step_append_own rfl (.tmp 29) (.tmp 33) 40 rfl lo 9 i0 (S []) 1 16 Tryz.underlying40 hi hz0 hz1 hz2 rfl (by decide) (.slice va c.ev.length vc) c.ev.length (c.ev.map S) (by simp [Act.eval]) hrow ⟨wc.heap.size, 0, none⟩ 1 1 [S dn] (by simp [Act.eval]) rfl hrw (fun u hu => by simp at hu; subst hu; rfl) hbd hby hl2 ?_; intro v' w6 hown6 hgrow hat; have hP6 := (hgrow.block cb (Array.getElem?_eq_some_iff.1 e2).1 hoff).trans e2; obtain ⟨ya, yk, yc, rfl⟩ := ownsRow_form2 hown6; obtain ⟨cq, cqf⟩ := blk_cl hP6)
  all_goals
   have hyk : yk = c.ev.length + 1 := by
    rcases hown6.2 with ⟨h1, h2⟩ | ⟨g, cap, cur, h1, _⟩
    ·simp at h1; omega
    ·simp at h1; exact h1.2.1
   subst hyk
   obtain ⟨C7, F7⟩ := hPut (.slice ya (c.ev.length + 1) yc) w6 (by rw [hv]; exact hgrow) (by rw [hv]; exact hat) (by simpa [Cc.num, Cc.row, ety, esz] using hown6) (fun j hj hne => by
    have h5 : j = 0 \/ j = 1 \/ j = 2 \/ j = 3 \/ j = 4 \/ j = 5 := by omega
    rcases h5 with rfl | rfl | rfl | rfl | rfl | rfl <;> first | exact ⟨rfl, rfl⟩ | exact absurd rfl hne) rfl rfl rfl rfl 0 rfl
   have hnm : ¬ Mine cb ib rb (fun j => if j = 0 then (Value.slice ya (c.ev.length + 1) yc) else v1 j) w.heap.size := fun hm => by
    rcases F7.new _ hm with h3 | h3
    ·exact hm1 h3
    ·omega
   clear hPut
   go_wp2_with fail
   go_meet
   exact ⟨_, C7, F1.trans ((Fr.of cb ib rb v1 B2).trans F7), F7.at' b2 hm1, hnm⟩
 case rest =>
 have hd := hcut
 clear hcut
 go_upto_region 7 with fail
 go_cut [] (fun wx => D5 w lo cb ib rb v ⟨[103, 104, 111, 115, 116], dp, (dn, dq), (dm, dr)⟩ ({ c with ix := (dn, c.ro.length) :: c.ix, ev := c.ev ++ [dn], gh := c.gh ++ [true] }) wx)
 case first =>
  obtain ⟨v1, C1, F1, b1, hm1⟩ := hd
  obtain ⟨va, vc, hv⟩ := C1.form 1 (by decide)
  have hv : v1 1 = .slice va c.gh.length vc := hv
  have H2 := (C1.alloc (.cells #[.bool true] 4)).drew
  have B2 : Below wc.heap.size wc (wc.alloc (.cells #[.bool true] 4)).drew := bdrw ((Below.refl _ wc).alloc (Nat.le_refl _) _)
  have hl2 : lo <= (wc.alloc (.cells #[.bool true] 4)).drew.heap.size := H2.low.2.2.2
  have hrow : (wc.alloc (.cells #[.bool true] 4)).drew.ownsRow lo 4 1 (.slice va c.gh.length vc) c.gh.length (c.gh.map Value.bool) := by rw [<- hv]; exact H2.own 1 (by decide)
  have e1 := C1.at'
  have e2 := H2.at'
  rw [hv] at e1 e2
  obtain ⟨c1, cf1⟩ := blk_cl e1
  obtain ⟨c2, cf2⟩ := blk_cl b1
  obtain ⟨c3, cf3⟩ := blk_cl e2
  have hbx : w.heap.size < wc.heap.size := (Array.getElem?_eq_some_iff.1 b1).1
  have b2 : (wc.alloc (.cells #[.bool true] 4)).drew.heap[w.heap.size]? = some (.cells (dcA ⟨[103, 104, 111, 115, 116], dp, (dn, dq), (dm, dr)⟩) 120) := (Below.heap_alloc _ _ _ hbx).trans b1
  obtain ⟨c4, cf4⟩ := blk_cl b2
  obtain ⟨i0, hi, hz0, hz1, hz2⟩ := info_parts info_boo
  have hbd : c.gh.length + 1 <= maxLen := by simp only [maxLen]; omega
  have hby : (c.gh.length + 1) * 1 <= 140737488355328 := by omega
  have hrw := fun j u hu => row_cells wc #[.bool true] 4 j u hu
  have hPut := fun (u : Value) (w' : World) => Cw.put (c' := { c with ix := (dn, c.ro.length) :: c.ix, ev := c.ev ++ [dn], gh := c.gh ++ [true] }) (w' := w') H2 1 (by decide) u
  have hbl : w.heap.size < (wc.alloc (.cells #[.bool true] 4)).drew.heap.size := (Array.getElem?_eq_some_iff.1 b2).1
  have hoff : some cb ≠ (Value.slice va c.gh.length vc).ownBlock := fun e => by rw [<- hv] at e; exact (C1.off 1 (by decide) cb e.symm).1 rfl
  go_region_law (refine step_append_own rfl (.tmp 41) (.tmp 45) 61 rfl lo 4 i0 (.bool false) 1 1 Tryz.underlying61 hi hz0 hz1 hz2 rfl (by decide) (.slice va c.gh.length vc) c.gh.length (c.gh.map Value.bool) (by simp [Act.eval]) hrow ⟨wc.heap.size, 0, none⟩ 1 1 [.bool true] (by simp [Act.eval]) rfl hrw (fun u hu => by simp at hu; subst hu; rfl) hbd hby hl2 ?_; intro v' w6 hown6 hgrow hat; have hP6 := (hgrow.block cb (Array.getElem?_eq_some_iff.1 e2).1 hoff).trans e2; obtain ⟨ya, yk, yc, rfl⟩ := ownsRow_form2 hown6; obtain ⟨cq, cqf⟩ := blk_cl hP6)
  all_goals
   have hyk : yk = c.gh.length + 1 := by
    rcases hown6.2 with ⟨h1, h2⟩ | ⟨g, cap, cur, h1, _⟩
    ·simp at h1; omega
    ·simp at h1; exact h1.2.1
   subst hyk
   obtain ⟨C7, F7⟩ := hPut (.slice ya (c.gh.length + 1) yc) w6 (by rw [hv]; exact hgrow) (by rw [hv]; exact hat) (by simpa [Cc.num, Cc.row, ety, esz] using hown6) (fun j hj hne => by
    have h5 : j = 0 \/ j = 1 \/ j = 2 \/ j = 3 \/ j = 4 \/ j = 5 := by omega
    rcases h5 with rfl | rfl | rfl | rfl | rfl | rfl <;> first | exact ⟨rfl, rfl⟩ | exact absurd rfl hne) rfl rfl rfl rfl 1 rfl
   have hnm : ¬ Mine cb ib rb (fun j => if j = 1 then (Value.slice ya (c.gh.length + 1) yc) else v1 j) w.heap.size := fun hm => by
    rcases F7.new _ hm with h3 | h3
    ·exact hm1 h3
    ·omega
   clear hPut
   go_wp2_with fail
   go_meet
   exact ⟨_, C7, F1.trans ((Fr.of cb ib rb v1 B2).trans F7), F7.at' b2 hm1, hnm⟩
 case rest =>
 have hd := hcut
 clear hcut
 go_upto_region 8 with fail
 obtain ⟨v1, C1, F1, b1, hm1⟩ := hd
 obtain ⟨va, vc, hv⟩ := C1.form 2 (by decide)
 have hv : v1 2 = .slice va c.ro.length vc := hv
 have H2 := (C1.alloc (.cells #[.int .i64 dm] 3)).drew
 have B2 : Below wc.heap.size wc (wc.alloc (.cells #[.int .i64 dm] 3)).drew := bdrw ((Below.refl _ wc).alloc (Nat.le_refl _) _)
 have hl2 : lo <= (wc.alloc (.cells #[.int .i64 dm] 3)).drew.heap.size := H2.low.2.2.2
 have hrow : (wc.alloc (.cells #[.int .i64 dm] 3)).drew.ownsRow lo 3 1 (.slice va c.ro.length vc) c.ro.length (c.ro.map fun (n : Nat) => Value.int .i64 n) := by rw [<- hv]; exact H2.own 2 (by decide)
 have e1 := C1.at'
 have e2 := H2.at'
 rw [hv] at e1 e2
 obtain ⟨c1, cf1⟩ := blk_cl e1
 obtain ⟨c2, cf2⟩ := blk_cl b1
 obtain ⟨c3, cf3⟩ := blk_cl e2
 have hbx : w.heap.size < wc.heap.size := (Array.getElem?_eq_some_iff.1 b1).1
 have b2 : (wc.alloc (.cells #[.int .i64 dm] 3)).drew.heap[w.heap.size]? = some (.cells (dcA ⟨[103, 104, 111, 115, 116], dp, (dn, dq), (dm, dr)⟩) 120) := (Below.heap_alloc _ _ _ hbx).trans b1
 obtain ⟨c4, cf4⟩ := blk_cl b2
 obtain ⟨i0, hi, hz0, hz1, hz2⟩ := info_parts info_in
 have hbd : c.ro.length + 1 <= maxLen := by simp only [maxLen]; omega
 have hby : (c.ro.length + 1) * 8 <= 140737488355328 := by omega
 have hrw := fun j u hu => row_cells wc #[.int .i64 dm] 3 j u hu
 have hPut := fun (u : Value) (w' : World) => Cw.put (c' := { c with ix := (dn, c.ro.length) :: c.ix, ev := c.ev ++ [dn], gh := c.gh ++ [true], ro := c.ro ++ [dm] }) (w' := w') H2 2 (by decide) u
 have hbl : w.heap.size < (wc.alloc (.cells #[.int .i64 dm] 3)).drew.heap.size := (Array.getElem?_eq_some_iff.1 b2).1
 have hoff : some cb ≠ (Value.slice va c.ro.length vc).ownBlock := fun e => by rw [<- hv] at e; exact (C1.off 2 (by decide) cb e.symm).1 rfl
 go_region_law (refine step_append_own rfl (.tmp 53) (.tmp 57) 85 rfl lo 3 i0 (.int .i64 0) 1 8 Tryz.underlying85 hi hz0 hz1 hz2 rfl (by decide) (.slice va c.ro.length vc) c.ro.length (c.ro.map fun (n : Nat) => Value.int .i64 n) (by simp [Act.eval]) hrow ⟨wc.heap.size, 0, none⟩ 1 1 [.int .i64 dm] (by simp [Act.eval]) rfl hrw (fun u hu => by simp at hu; subst hu; rfl) hbd hby hl2 ?_; intro v' w6 hown6 hgrow hat; have hP6 := (hgrow.block cb (Array.getElem?_eq_some_iff.1 e2).1 hoff).trans e2; obtain ⟨ya, yk, yc, rfl⟩ := ownsRow_form2 hown6; obtain ⟨cq, cqf⟩ := blk_cl hP6)
 all_goals
  have hyk : yk = c.ro.length + 1 := by
   rcases hown6.2 with ⟨h1, h2⟩ | ⟨g, cap, cur, h1, _⟩
   ·simp at h1; omega
   ·simp at h1; exact h1.2.1
  subst hyk
  obtain ⟨C7, F7⟩ := hPut (.slice ya (c.ro.length + 1) yc) w6 (by rw [hv]; exact hgrow) (by rw [hv]; exact hat) (by simpa [Cc.num, Cc.row, ety, esz] using hown6) (fun j hj hne => by
   have h5 : j = 0 \/ j = 1 \/ j = 2 \/ j = 3 \/ j = 4 \/ j = 5 := by omega
   rcases h5 with rfl | rfl | rfl | rfl | rfl | rfl <;> first | exact ⟨rfl, rfl⟩ | exact absurd rfl hne) rfl rfl rfl rfl 2 rfl
  have hnm : ¬ Mine cb ib rb (fun j => if j = 2 then (Value.slice ya (c.ro.length + 1) yc) else v1 j) w.heap.size := fun hm => by
   rcases F7.new _ hm with h3 | h3
   ·exact hm1 h3
   ·omega
  clear hPut
  go_wp2_with fail
  exact bodyPost_end (by simp [results, Tryz.results68, go_sem]) rfl ⟨rfl, _, C7, F1.trans ((Fr.of cb ib rb v1 B2).trans F7)⟩
theorem mdecl_var (h : Cw w lo cb ib rb v c) (dp : Nat) (dn : List UInt8) (dq dm dr : Nat) (hdn : dn.length <= 700) (hixl : c.ix.length <= 2900) (h0 : c.ev.length <= 2900 /\ c.gh.length <= 2900 /\ c.ro.length <= 2900 /\ c.mo.length <= 2900 /\ c.vn.length <= 2900) :
  Calls Tryz.prog 68 #[ptr cb, .agg (dcA ⟨[118, 97, 114], dp, (dn, dq), (dm, dr)⟩)] w (OutM w lo cb ib rb v (.tuple #[]) ({ c with ix := (dn, c.mo.length) :: c.ix, vn := c.vn ++ [dn], mo := c.mo ++ [dm] })) := by
 obtain ⟨l0, l1, l2, l3, l4⟩ := h0
 have hd := D5.start h ⟨[118, 97, 114], dp, (dn, dq), (dm, dr)⟩
 go_enter Tryz.func68, Tryz.ntmps68
 go_upto_region 10 with fail
 generalize w.alloc (.cells (dcA ⟨[118, 97, 114], dp, (dn, dq), (dm, dr)⟩) 120) = wc at *
 go_cut [] (fun wx => D5 w lo cb ib rb v ⟨[118, 97, 114], dp, (dn, dq), (dm, dr)⟩ ({ c with ix := (dn, c.mo.length) :: c.ix }) wx)
 case first =>
  obtain ⟨v1, C1, F1, b1, hm1⟩ := hd
  obtain ⟨va, vc, hv⟩ := C1.form 3 (by decide)
  have hv : v1 3 = .slice va c.mo.length vc := hv
  obtain ⟨k0, hk0, hmap⟩ := C1.drew.ix
  have hk1 : k0 <= 2900 := by have := hixl; omega
  obtain ⟨w2, hput, hm2, hgr, hsz⟩ := hmap.put u81 u3 (by omega) dn hdn c.mo.length (by omega)
  have hk2 : (if (look dn (c).ix).isSome = true then k0 else k0 + 1) <= (c).ix.length + 1 := by split <;> omega
  obtain ⟨C2, F2⟩ := C1.drew.name dn c.mo.length _ hk2 hgr hm2
  have e1 := C1.at'
  rw [hv] at e1
  obtain ⟨c1, cf1⟩ := blk_cl e1
  obtain ⟨c2, cf2⟩ := blk_cl b1
  have F0 : Fr cb ib rb v1 v1 wc wc.drew := ⟨rfl, rfl, rfl, Nat.le_refl _, fun _ _ _ => rfl, fun _ h => Or.inl h⟩
  have F3 := F1.trans (F0.trans F2)
  have b3 := F2.at' (w := wc.drew) b1 hm1
  clear hmap hm2 hgr hsz C1 F1 F0 F2
  go_region
  all_goals
   go_wp2_with fail
   go_meet
   exact ⟨v1, C2, F3, b3, hm1⟩
 case rest =>
 have hd := hcut
 clear hcut
 go_upto_region 11 with fail
 go_cut [] (fun wx => D5 w lo cb ib rb v ⟨[118, 97, 114], dp, (dn, dq), (dm, dr)⟩ ({ c with ix := (dn, c.mo.length) :: c.ix, vn := c.vn ++ [dn] }) wx)
 case first =>
  obtain ⟨v1, C1, F1, b1, hm1⟩ := hd
  obtain ⟨va, vc, hv⟩ := C1.form 5 (by decide)
  have hv : v1 5 = .slice va c.vn.length vc := hv
  have H2 := (C1.alloc (.cells #[S dn] 9)).drew
  have B2 : Below wc.heap.size wc (wc.alloc (.cells #[S dn] 9)).drew := bdrw ((Below.refl _ wc).alloc (Nat.le_refl _) _)
  have hl2 : lo <= (wc.alloc (.cells #[S dn] 9)).drew.heap.size := H2.low.2.2.2
  have hrow : (wc.alloc (.cells #[S dn] 9)).drew.ownsRow lo 9 1 (.slice va c.vn.length vc) c.vn.length (c.vn.map S) := by rw [<- hv]; exact H2.own 5 (by decide)
  have e1 := C1.at'
  have e2 := H2.at'
  rw [hv] at e1 e2
  obtain ⟨c1, cf1⟩ := blk_cl e1
  obtain ⟨c2, cf2⟩ := blk_cl b1
  obtain ⟨c3, cf3⟩ := blk_cl e2
  have hbx : w.heap.size < wc.heap.size := (Array.getElem?_eq_some_iff.1 b1).1
  have b2 : (wc.alloc (.cells #[S dn] 9)).drew.heap[w.heap.size]? = some (.cells (dcA ⟨[118, 97, 114], dp, (dn, dq), (dm, dr)⟩) 120) := (Below.heap_alloc _ _ _ hbx).trans b1
  obtain ⟨c4, cf4⟩ := blk_cl b2
  obtain ⟨i0, hi, hz0, hz1, hz2⟩ := info_parts info_str
  have hbd : c.vn.length + 1 <= maxLen := by simp only [maxLen]; omega
  have hby : (c.vn.length + 1) * 16 <= 140737488355328 := by omega
  have hrw := fun j u hu => row_cells wc #[S dn] 9 j u hu
  have hPut := fun (u : Value) (w' : World) => Cw.put (c' := { c with ix := (dn, c.mo.length) :: c.ix, vn := c.vn ++ [dn] }) (w' := w') H2 5 (by decide) u
  have hbl : w.heap.size < (wc.alloc (.cells #[S dn] 9)).drew.heap.size := (Array.getElem?_eq_some_iff.1 b2).1
  have hoff : some cb ≠ (Value.slice va c.vn.length vc).ownBlock := fun e => by rw [<- hv] at e; exact (C1.off 5 (by decide) cb e.symm).1 rfl
  go_region_law (refine step_append_own rfl (.tmp 79) (.tmp 83) 40 rfl lo 9 i0 (S []) 1 16 Tryz.underlying40 hi hz0 hz1 hz2 rfl (by decide) (.slice va c.vn.length vc) c.vn.length (c.vn.map S) (by simp [Act.eval]) hrow ⟨wc.heap.size, 0, none⟩ 1 1 [S dn] (by simp [Act.eval]) rfl hrw (fun u hu => by simp at hu; subst hu; rfl) hbd hby hl2 ?_; intro v' w6 hown6 hgrow hat; have hP6 := (hgrow.block cb (Array.getElem?_eq_some_iff.1 e2).1 hoff).trans e2; obtain ⟨ya, yk, yc, rfl⟩ := ownsRow_form2 hown6; obtain ⟨cq, cqf⟩ := blk_cl hP6)
  all_goals
   have hyk : yk = c.vn.length + 1 := by
    rcases hown6.2 with ⟨h1, h2⟩ | ⟨g, cap, cur, h1, _⟩
    ·simp at h1; omega
    ·simp at h1; exact h1.2.1
   subst hyk
   obtain ⟨C7, F7⟩ := hPut (.slice ya (c.vn.length + 1) yc) w6 (by rw [hv]; exact hgrow) (by rw [hv]; exact hat) (by simpa [Cc.num, Cc.row, ety, esz] using hown6) (fun j hj hne => by
    have h5 : j = 0 \/ j = 1 \/ j = 2 \/ j = 3 \/ j = 4 \/ j = 5 := by omega
    rcases h5 with rfl | rfl | rfl | rfl | rfl | rfl <;> first | exact ⟨rfl, rfl⟩ | exact absurd rfl hne) rfl rfl rfl rfl 3 rfl
   have hnm : ¬ Mine cb ib rb (fun j => if j = 5 then (Value.slice ya (c.vn.length + 1) yc) else v1 j) w.heap.size := fun hm => by
    rcases F7.new _ hm with h3 | h3
    ·exact hm1 h3
    ·omega
   clear hPut
   go_wp2_with fail
   go_meet
   exact ⟨_, C7, F1.trans ((Fr.of cb ib rb v1 B2).trans F7), F7.at' b2 hm1, hnm⟩
 case rest =>
 have hd := hcut
 clear hcut
 go_upto_region 12 with fail
 obtain ⟨v1, C1, F1, b1, hm1⟩ := hd
 obtain ⟨va, vc, hv⟩ := C1.form 3 (by decide)
 have hv : v1 3 = .slice va c.mo.length vc := hv
 have H2 := (C1.alloc (.cells #[.int .i64 dm] 3)).drew
 have B2 : Below wc.heap.size wc (wc.alloc (.cells #[.int .i64 dm] 3)).drew := bdrw ((Below.refl _ wc).alloc (Nat.le_refl _) _)
 have hl2 : lo <= (wc.alloc (.cells #[.int .i64 dm] 3)).drew.heap.size := H2.low.2.2.2
 have hrow : (wc.alloc (.cells #[.int .i64 dm] 3)).drew.ownsRow lo 3 1 (.slice va c.mo.length vc) c.mo.length (c.mo.map fun (n : Nat) => Value.int .i64 n) := by rw [<- hv]; exact H2.own 3 (by decide)
 have e1 := C1.at'
 have e2 := H2.at'
 rw [hv] at e1 e2
 obtain ⟨c1, cf1⟩ := blk_cl e1
 obtain ⟨c2, cf2⟩ := blk_cl b1
 obtain ⟨c3, cf3⟩ := blk_cl e2
 have hbx : w.heap.size < wc.heap.size := (Array.getElem?_eq_some_iff.1 b1).1
 have b2 : (wc.alloc (.cells #[.int .i64 dm] 3)).drew.heap[w.heap.size]? = some (.cells (dcA ⟨[118, 97, 114], dp, (dn, dq), (dm, dr)⟩) 120) := (Below.heap_alloc _ _ _ hbx).trans b1
 obtain ⟨c4, cf4⟩ := blk_cl b2
 obtain ⟨i0, hi, hz0, hz1, hz2⟩ := info_parts info_in
 have hbd : c.mo.length + 1 <= maxLen := by simp only [maxLen]; omega
 have hby : (c.mo.length + 1) * 8 <= 140737488355328 := by omega
 have hrw := fun j u hu => row_cells wc #[.int .i64 dm] 3 j u hu
 have hPut := fun (u : Value) (w' : World) => Cw.put (c' := { c with ix := (dn, c.mo.length) :: c.ix, vn := c.vn ++ [dn], mo := c.mo ++ [dm] }) (w' := w') H2 3 (by decide) u
 have hbl : w.heap.size < (wc.alloc (.cells #[.int .i64 dm] 3)).drew.heap.size := (Array.getElem?_eq_some_iff.1 b2).1
 have hoff : some cb ≠ (Value.slice va c.mo.length vc).ownBlock := fun e => by rw [<- hv] at e; exact (C1.off 3 (by decide) cb e.symm).1 rfl
 go_region_law (refine step_append_own rfl (.tmp 91) (.tmp 95) 85 rfl lo 3 i0 (.int .i64 0) 1 8 Tryz.underlying85 hi hz0 hz1 hz2 rfl (by decide) (.slice va c.mo.length vc) c.mo.length (c.mo.map fun (n : Nat) => Value.int .i64 n) (by simp [Act.eval]) hrow ⟨wc.heap.size, 0, none⟩ 1 1 [.int .i64 dm] (by simp [Act.eval]) rfl hrw (fun u hu => by simp at hu; subst hu; rfl) hbd hby hl2 ?_; intro v' w6 hown6 hgrow hat; have hP6 := (hgrow.block cb (Array.getElem?_eq_some_iff.1 e2).1 hoff).trans e2; obtain ⟨ya, yk, yc, rfl⟩ := ownsRow_form2 hown6; obtain ⟨cq, cqf⟩ := blk_cl hP6)
 all_goals
  have hyk : yk = c.mo.length + 1 := by
   rcases hown6.2 with ⟨h1, h2⟩ | ⟨g, cap, cur, h1, _⟩
   ·simp at h1; omega
   ·simp at h1; exact h1.2.1
  subst hyk
  obtain ⟨C7, F7⟩ := hPut (.slice ya (c.mo.length + 1) yc) w6 (by rw [hv]; exact hgrow) (by rw [hv]; exact hat) (by simpa [Cc.num, Cc.row, ety, esz] using hown6) (fun j hj hne => by
   have h5 : j = 0 \/ j = 1 \/ j = 2 \/ j = 3 \/ j = 4 \/ j = 5 := by omega
   rcases h5 with rfl | rfl | rfl | rfl | rfl | rfl <;> first | exact ⟨rfl, rfl⟩ | exact absurd rfl hne) rfl rfl rfl rfl 4 rfl
  have hnm : ¬ Mine cb ib rb (fun j => if j = 3 then (Value.slice ya (c.mo.length + 1) yc) else v1 j) w.heap.size := fun hm => by
   rcases F7.new _ hm with h3 | h3
   ·exact hm1 h3
   ·omega
  clear hPut
  go_wp2_with fail
  exact bodyPost_end (by simp [results, Tryz.results68, go_sem]) rfl ⟨rfl, _, C7, F1.trans ((Fr.of cb ib rb v1 B2).trans F7)⟩
theorem mdecl_freq (h : Cw w lo cb ib rb v c) (dp : Nat) (dn : List UInt8) (dq dm dr : Nat) :
  Calls Tryz.prog 68 #[ptr cb, .agg (dcA ⟨[102, 114, 101, 113], dp, (dn, dq), (dm, dr)⟩)] w (OutM w lo cb ib rb v (.tuple #[]) ({ c with mf := dm })) := by
 have h1 := h.alloc (.cells (dcA ⟨[102, 114, 101, 113], dp, (dn, dq), (dm, dr)⟩) 120)
 have B1 := (Below.refl w.heap.size w).alloc (Nat.le_refl _) (.cells (dcA ⟨[102, 114, 101, 113], dp, (dn, dq), (dm, dr)⟩) 120)
 have b1 : (w.alloc (.cells (dcA ⟨[102, 114, 101, 113], dp, (dn, dq), (dm, dr)⟩) 120)).heap[w.heap.size]? = some (.cells (dcA ⟨[102, 114, 101, 113], dp, (dn, dq), (dm, dr)⟩) 120) := heap_new rfl
 go_enter Tryz.func68, Tryz.ntmps68
 go_upto_region 2 with fail
 generalize w.alloc (.cells (dcA ⟨[102, 114, 101, 113], dp, (dn, dq), (dm, dr)⟩) 120) = w1 at *
 obtain ⟨c1, cf1⟩ := blk_cl h1.at'
 obtain ⟨c2, cf2⟩ := blk_cl b1
 have F1 := Fr.of cb ib rb v B1
 generalize w.heap.size = bx at *
 go_wp2_with fail
 exact bodyPost_end (by simp [results, Tryz.results68, go_sem]) rfl ⟨rfl, v, h1.mfset dm, F1.trans (h1.own4 5 _)⟩
end
section
variable {w : World} {lo cb ib rb : Nat} {v : Nat -> Value} {c : Cc}
def Cc.tsx (c : Cc) (x : Cd) : Stp := ⟨kindN x.word, c.ref x.queue, (0, 0), false, x.neg, c.opd x.left, c.opd x.right, 0, 0, 0⟩
def TestOk : Prop := ∀ (w : World) (lo cb ib rb : Nat) (v : Nat -> Value) (c : Cc), Cw w lo cb ib rb v c -> ∀ x : Cd, x.small -> c.st.length <= 1000000 ->
 Calls Tryz.prog 142 #[ptr cb, cdV x] w (OutM w lo cb ib rb v (.int .i64 c.st.length) (c.add (c.tsx x)))
def Cc.pln (c : Cc) (s : St) : Stp := ⟨kindN s.word, c.ref s.name, c.ref (St.to s), s.tail, false, (0, 0), (0, 0), 0, 0, 0⟩
def jmpS (t : Nat) : Stp := ⟨14, (0, 0), (0, 0), false, false, (0, 0), (0, 0), 0, 0, t⟩
def Cc.ifs {β : Type} (blk : Cc -> β -> Cc) (c : Cc) (s : St) (y z : β) : Cc :=
 let c2 := blk (c.add (c.tsx s.cond)) y
 let c4 := (c2.add (jmpS 0)).land c.st.length
 (blk c4 z).land c2.st.length
def Cc.rep {β : Type} (blk : Cc -> β -> Cc) (c : Cc) (s : St) (y : β) : Cc :=
 let c1 := c.add ⟨12, (0, 0), (0, 0), false, false, (0, 0), (0, 0), c.lp, s.times.1, 0⟩
 let c2 := c1.add ⟨13, (0, 0), (0, 0), false, false, (0, 0), (0, 0), c.lp, 0, 0⟩
 let c3 := c2.add (c2.tsx s.cond)
 let c4 := blk { c3 with lp := c3.lp + 1 } y
 let c6 := Cc.add { c4 with lp := c4.lp - 1 } (jmpS (c.st.length + 1))
 (c6.land (c.st.length + 1)).land (c.st.length + 2)
def Cc.stm {β : Type} (blk : Cc -> β -> Cc) (c : Cc) (r : St × β × β) : Cc :=
 if r.1.word = [105, 102] then c.ifs blk r.1 r.2.1 r.2.2 else if r.1.word = [114, 101, 112, 101, 97, 116] then c.rep blk r.1 r.2.1 else c.add (c.pln r.1)
def Cc.blk : (d : Nat) -> Cc -> BT d -> Cc
 | 0, c, _ => c
 | d + 1, c, xs => List.foldl (fun c r => c.stm (Cc.blk d) r) c xs
def costL {β : Type} (f : β -> Nat) : List (St × β × β) -> Nat
 | [] => 0
 | r :: rs => 4 + f r.2.1 + f r.2.2 + costL f rs
def costB : (d : Nat) -> BT d -> Nat
 | 0, _ => 0
 | d + 1, xs => costL (costB d) xs
def MBlk (d : Nat) : Prop := ∀ (w : World) (lo cb ib rb : Nat) (v : Nat -> Value) (c : Cc) (y : Value) (x : BT d), Cw w lo cb ib rb v c -> SlR d w (fun g => g < lo) y x -> smallB d x -> c.st.length + costB d x <= 900000 -> c.lp + d <= 100 ->
 Calls Tryz.prog 69 #[ptr cb, y] w fun e w' => OutM w lo cb ib rb v (.tuple #[]) (c.blk d x) e w' /\ c.st.length <= (c.blk d x).st.length /\ (c.blk d x).st.length <= c.st.length + costB d x /\ (c.blk d x).lp = c.lp
theorem SlR.fr {d : Nat} {w' : World} {v' : Nat -> Value} (h : Cw w lo cb ib rb v c) (hb : Fr cb ib rb v v' w w') {y : Value} {x : BT d} (hy : SlR d w (fun g => g < lo) y x) : SlR d w' (fun g => g < lo) y x :=
 SlR.move d (fun g hg hl => hb.block g hl (fun hm => by have := (h.mine_lt hm).1; omega)) y x hy
structure K6 (w1 : World) (lo cb ib rb : Nat) (v : Nat -> Value) (c : Cc) (bx : Nat) (A : Array Value) (W : World) : Prop where
 cw : Cw W lo cb ib rb v c
 cells : ∀ o, W.cell? ⟨bx, o, none⟩ = A[o]?
 lt : bx < W.heap.size
 bl : Below w1.heap.size w1 W
theorem K6.ref {w1 W : World} {bx : Nat} {A : Array Value} (h : K6 w1 lo cb ib rb v c bx A W) (n : NP) (hn : n.1.length <= 700) :
  Calls Tryz.prog 128 #[ptr cb, .agg #[S n.1, .int .i64 n.2]] W fun e W2 => e = .returned (.agg #[.int .i64 (c.ref n).1, .int .i64 (c.ref n).2]) /\ K6 w1 lo cb ib rb v c bx A W2 :=
 (cref_any h.cw n hn).mono fun _ _ ⟨h1, h2⟩ => ⟨h1, h.cw.grow h2, fun o => (h2.cell (p := ⟨bx, o, none⟩) h.lt).trans (h.cells o), Nat.lt_of_lt_of_le h.lt h2.size, h.bl.trans (h2.mono h.bl.size)⟩
structure K7 (w1 : World) (lo cb ib rb : Nat) (v : Nat -> Value) (c : Cc) (bx : Nat) (A : Array Value) (W : World) : Prop where
 cells : ∀ o, W.cell? ⟨bx, o, none⟩ = A[o]?
 fin : ∃ v', Cw W lo cb ib rb v' c /\ Fr cb ib rb v v' w1 W
theorem K6.add {w1 W : World} {bx : Nat} {A : Array Value} (h : K6 w1 lo cb ib rb v c bx A W) (s : Stp) (hl : c.st.length <= 1000000) (hm : ¬ Mine cb ib rb v bx) :
  Calls Tryz.prog 126 #[ptr cb, .agg (spA s)] W fun e w' => e = .returned (.int .i64 c.st.length) /\ K7 w1 lo cb ib rb v (c.add s) bx A w' :=
 (cadd_any h.cw s hl).mono fun _ _ ⟨h1, v', h2, h3⟩ => ⟨h1, fun o => (World.cell?_of_block (a := ⟨bx, o, none⟩) (h3.block bx h.lt hm)).trans (h.cells o), v', h2, (Fr.of cb ib rb v h.bl).trans h3⟩
def PlainOk : Prop := ∀ (w : World) (lo cb ib rb : Nat) (v : Nat -> Value) (c : Cc), Cw w lo cb ib rb v c -> ∀ (x : St) (y1 : Option Addr) (y2 y3 : Nat) (z1 : Option Addr) (z2 z3 : Nat), x.small -> c.st.length <= 1000000 -> (x.word == [105, 102]) = false -> (x.word == [114, 101, 112, 101, 97, 116]) = false ->
  Calls Tryz.prog 98 #[ptr cb, .agg (stA x (.slice y1 y2 y3) (.slice z1 z2 z3))] w (OutM w lo cb ib rb v (.tuple #[]) (c.add (c.pln x)))
end
section
variable {w : World} {lo cb ib rb : Nat} {v : Nat -> Value} {c : Cc}
theorem mstm_plain (h : Cw w lo cb ib rb v c) (x : St) (y1 : Option Addr) (y2 y3 : Nat) (z1 : Option Addr) (z2 z3 : Nat) (hx : x.small) (hl : c.st.length <= 1000000) (n1 : (x.word == [105, 102]) = false) (n2 : (x.word == [114, 101, 112, 101, 97, 116]) = false) :
  Calls Tryz.prog 98 #[ptr cb, .agg (stA x (.slice y1 y2 y3) (.slice z1 z2 z3))] w (OutM w lo cb ib rb v (.tuple #[]) (c.add (c.pln x))) := by
 obtain ⟨hx1, hx2, _⟩ := hx
 have h1 := h.alloc (.cells (stA x (.slice y1 y2 y3) (.slice z1 z2 z3)) 226)
 have b1 : (w.alloc (.cells (stA x (.slice y1 y2 y3) (.slice z1 z2 z3)) 226)).heap[w.heap.size]? = some (.cells (stA x (.slice y1 y2 y3) (.slice z1 z2 z3)) 226) := heap_new rfl
 have B1 := (Below.refl w.heap.size w).alloc (Nat.le_refl _) (.cells (stA x (.slice y1 y2 y3) (.slice z1 z2 z3)) 226)
 have hm : ¬ Mine cb ib rb v w.heap.size := fun hm => by have := (h.mine_lt hm).2; omega
 have e1 : c.pln x = ⟨kindN x.word, c.ref x.name, c.ref (St.to x), x.tail, false, (0, 0), (0, 0), 0, 0, 0⟩ := rfl
 rw [e1]
 clear e1
 go_enter Tryz.func98, Tryz.ntmps98
 go_upto_region 1 with fail
 obtain ⟨c1, cf1⟩ := blk_cl b1
 generalize w.alloc (.cells (stA x (.slice y1 y2 y3) (.slice z1 z2 z3)) 226) = w1 at *
 have hl1 : w.heap.size < w1.heap.size := (Array.getElem?_eq_some_iff.1 b1).1
 go_upto_region 2 with fail
 have KK : K6 w1 lo cb ib rb v c w.heap.size (stA x (.slice y1 y2 y3) (.slice z1 z2 z3)) w1.drew := ⟨h1.drew, c1, hl1, bdrw (Below.refl _ _)⟩
 have HR1 := fun (W : World) (A : Array Value) (h : K6 w1 lo cb ib rb v c w.heap.size A W) => K6.ref h x.name hx1
 have HR2 := fun (W : World) (A : Array Value) (h : K6 w1 lo cb ib rb v c w.heap.size A W) => K6.ref h (St.to x) hx2
 have HKK := fun W => kind_any x.word W
 have HAD := fun (s : Stp) (W : World) (A : Array Value) (h : K6 w1 lo cb ib rb v c w.heap.size A W) => K6.add h s hl hm
 have FB := Fr.of cb ib rb v B1
 generalize kindN x.word = kn at *
 generalize c.ref x.name = r1 at *
 generalize c.ref (St.to x) = r2 at *
 have HR1 : Hid (∀ (W : World) (A : Array Value), K6 w1 lo cb ib rb v c w.heap.size A W -> Calls Tryz.prog 128 #[ptr cb, .agg #[S x.name.1, .int .i64 x.name.2]] W fun e W2 => e = .returned (.agg #[.int .i64 r1.1, .int .i64 r1.2]) /\ K6 w1 lo cb ib rb v c w.heap.size A W2) := HR1
 have HR2 : Hid (∀ (W : World) (A : Array Value), K6 w1 lo cb ib rb v c w.heap.size A W -> Calls Tryz.prog 128 #[ptr cb, .agg #[S (St.to x).1, .int .i64 (St.to x).2]] W fun e W2 => e = .returned (.agg #[.int .i64 r2.1, .int .i64 r2.2]) /\ K6 w1 lo cb ib rb v c w.heap.size A W2) := HR2
 have HKK : Hid (∀ W : World, Calls Tryz.prog 127 #[S x.word] W fun e w' => e = .returned (.int .i64 kn) /\ w' = W) := HKK
 have HAD : Hid (∀ (W : World) (A : Array Value), K6 w1 lo cb ib rb v c w.heap.size A W -> Calls Tryz.prog 126 #[ptr cb, .agg (spA ⟨kn, r1, r2, x.tail, false, (0, 0), (0, 0), 0, 0, 0⟩)] W fun e w' => e = .returned (.int .i64 c.st.length) /\ K7 w1 lo cb ib rb v (c.add ⟨kn, r1, r2, x.tail, false, (0, 0), (0, 0), 0, 0, 0⟩) w.heap.size A w') := HAD _
 clear b1 cf1 hl1 hx1 hx2 h1 h B1 hm n1 n2
 generalize w.heap.size = bx at *
 refine wp_region_but (C := K6 w1 lo cb ib rb v c bx (stA x (.slice y1 y2 y3) (.slice z1 z2 z3))) 15 0 (by kernel_rfl) (by kernel_rfl) KK ?_
 simp only [List.take]
 apply quiet_next
 case hw => rfl
 case h1 =>
  intro W hW
  have cW := hW.cells
  unfold Oper.quietAt
  go_simp
  refine And.intro rfl ?_
  with_reducible rfl
 apply quiet_next
 case hw => rfl
 case h1 =>
  intro W hW
  have cW := hW.cells
  unfold Oper.quietAt
  go_simp
  refine And.intro rfl ?_
  with_reducible rfl
 apply quiet_next
 case hw => rfl
 case h1 =>
  intro W hW
  have cW := hW.cells
  unfold Oper.quietAt
  go_simp
  refine And.intro rfl ?_
  with_reducible rfl
 apply quiet_next
 case hw => rfl
 case h1 =>
  intro W hW
  have cW := hW.cells
  unfold Oper.quietAt
  go_simp
  refine And.intro rfl ?_
  exact (HKK.out W).mono fun _ _ h => And.intro h.1 (h.2 ▸ hW)
 apply quiet_next
 case hw => rfl
 case h1 =>
  intro W hW
  have cW := hW.cells
  unfold Oper.quietAt
  go_simp
  refine And.intro rfl ?_
  with_reducible rfl
 apply quiet_next
 case hw => rfl
 case h1 =>
  intro W hW
  have cW := hW.cells
  unfold Oper.quietAt
  go_simp
  refine And.intro rfl ?_
  with_reducible rfl
 apply quiet_next
 case hw => rfl
 case h1 =>
  intro W hW
  have cW := hW.cells
  unfold Oper.quietAt
  go_simp
  refine And.intro rfl ?_
  with_reducible rfl
 apply quiet_next
 case hw => rfl
 case h1 =>
  intro W hW
  have cW := hW.cells
  unfold Oper.quietAt
  go_simp
  refine And.intro rfl ?_
  exact HR1.out _ _ hW
 apply quiet_next
 case hw => rfl
 case h1 =>
  intro W hW
  have cW := hW.cells
  unfold Oper.quietAt
  go_simp
  refine And.intro rfl ?_
  with_reducible rfl
 apply quiet_next
 case hw => rfl
 case h1 =>
  intro W hW
  have cW := hW.cells
  unfold Oper.quietAt
  go_simp
  refine And.intro rfl ?_
  with_reducible rfl
 apply quiet_next
 case hw => rfl
 case h1 =>
  intro W hW
  have cW := hW.cells
  unfold Oper.quietAt
  go_simp
  refine And.intro rfl ?_
  with_reducible rfl
 apply quiet_next
 case hw => rfl
 case h1 =>
  intro W hW
  have cW := hW.cells
  unfold Oper.quietAt
  go_simp
  refine And.intro rfl ?_
  exact HR2.out _ _ hW
 apply quiet_next
 case hw => rfl
 case h1 =>
  intro W hW
  have cW := hW.cells
  unfold Oper.quietAt
  go_simp
  refine And.intro rfl ?_
  with_reducible rfl
 apply quiet_next
 case hw => rfl
 case h1 =>
  intro W hW
  have cW := hW.cells
  unfold Oper.quietAt
  go_simp
  refine And.intro rfl ?_
  with_reducible rfl
 apply quiet_next
 case hw => rfl
 case h1 =>
  intro W hW
  have cW := hW.cells
  unfold Oper.quietAt
  go_simp
  refine And.intro rfl ?_
  with_reducible rfl
 refine wpQuiet_nil ?_
 intro W hW
 refine wpOp_now rfl rfl ?_
 go_simp
 go_at_call 126
 refine Calls.mono (HAD.out _ _ hW) ?_
 rintro e w3 ⟨rfl, K3⟩
 go_simp
 refine wpAny_over (by kernel_rfl) ?_ _
 obtain ⟨v3, C3, F3⟩ := K3.fin
 go_wp2_with fail
 exact bodyPost_end (by simp [results, Tryz.results98, go_sem]) rfl ⟨rfl, v3, C3, FB.trans F3⟩
theorem cplain_ok : PlainOk := fun _ _ _ _ _ _ _ h x y1 y2 y3 z1 z2 z3 hx hl n1 n2 => mstm_plain h x y1 y2 y3 z1 z2 z3 hx hl n1 n2
end
theorem add_len (c : Cc) (s : Stp) : (c.add s).st.length = c.st.length + 1 /\ (c.add s).lp = c.lp := by simp [Cc.add]
theorem land_len (c : Cc) (n : Nat) : (c.land n).st.length = c.st.length /\ (c.land n).lp = c.lp := by simp [Cc.land]
def LenB {β : Type} (blk : Cc -> β -> Cc) (f : β -> Nat) : Prop := ∀ c x, c.st.length <= (blk c x).st.length /\ (blk c x).st.length <= c.st.length + f x /\ (blk c x).lp = c.lp
theorem ifs_len {β : Type} {blk : Cc -> β -> Cc} {f : β -> Nat} (hb : LenB blk f) (c : Cc) (s : St) (y z : β) : c.st.length <= (c.ifs blk s y z).st.length /\ (c.ifs blk s y z).st.length <= c.st.length + 2 + f y + f z /\ (c.ifs blk s y z).lp = c.lp := by
 unfold Cc.ifs
 simp only
 obtain ⟨a1, a2⟩ := add_len c (c.tsx s.cond)
 obtain ⟨b1, b2, b3⟩ := hb (c.add (c.tsx s.cond)) y
 generalize blk (c.add (c.tsx s.cond)) y = c2 at *
 obtain ⟨d1, d2⟩ := add_len c2 (jmpS 0)
 obtain ⟨e1, e2⟩ := land_len (c2.add (jmpS 0)) c.st.length
 obtain ⟨g1, g2, g3⟩ := hb ((c2.add (jmpS 0)).land c.st.length) z
 obtain ⟨h1, h2⟩ := land_len (blk ((c2.add (jmpS 0)).land c.st.length) z) c2.st.length
 rw [h1, h2]
 omega
def Cc.c3 (c : Cc) (s : St) : Cc := ((c.add ⟨12, (0, 0), (0, 0), false, false, (0, 0), (0, 0), c.lp, s.times.1, 0⟩).add ⟨13, (0, 0), (0, 0), false, false, (0, 0), (0, 0), c.lp, 0, 0⟩).add (((c.add ⟨12, (0, 0), (0, 0), false, false, (0, 0), (0, 0), c.lp, s.times.1, 0⟩).add ⟨13, (0, 0), (0, 0), false, false, (0, 0), (0, 0), c.lp, 0, 0⟩).tsx s.cond)
def Cc.up (c : Cc) : Cc := { c with lp := c.lp + 1 }
def Cc.dn (c : Cc) : Cc := { c with lp := c.lp - 1 }
theorem rep_eq {β : Type} (blk : Cc -> β -> Cc) (c : Cc) (s : St) (y : β) : c.rep blk s y = (((blk (c.c3 s).up y).dn.add (jmpS (c.st.length + 1))).land (c.st.length + 1)).land (c.st.length + 2) := rfl
theorem c3_len (c : Cc) (s : St) : (c.c3 s).up.st.length = c.st.length + 3 /\ (c.c3 s).up.lp = c.lp + 1 := by simp [Cc.c3, Cc.up, Cc.add]
theorem dn_len (c : Cc) : c.dn.st.length = c.st.length /\ c.dn.lp = c.lp - 1 := ⟨rfl, rfl⟩
theorem rep_len {β : Type} {blk : Cc -> β -> Cc} {f : β -> Nat} (hb : LenB blk f) (c : Cc) (s : St) (y : β) : c.st.length <= (c.rep blk s y).st.length /\ (c.rep blk s y).st.length <= c.st.length + 4 + f y /\ (c.rep blk s y).lp = c.lp := by
 rw [rep_eq]
 obtain ⟨a1, a2⟩ := c3_len c s
 obtain ⟨b1, b2, b3⟩ := hb (c.c3 s).up y
 generalize blk (c.c3 s).up y = c4 at *
 obtain ⟨d1, d2⟩ := dn_len c4
 rw [(land_len _ _).1, (land_len _ _).1, (land_len _ _).2, (land_len _ _).2, (add_len _ _).1, (add_len _ _).2]
 omega
theorem stm_len {β : Type} {blk : Cc -> β -> Cc} {f : β -> Nat} (hb : LenB blk f) (c : Cc) (r : St × β × β) : c.st.length <= (c.stm blk r).st.length /\ (c.stm blk r).st.length <= c.st.length + 4 + f r.2.1 + f r.2.2 /\ (c.stm blk r).lp = c.lp := by
 unfold Cc.stm
 split
 ·have := ifs_len hb c r.1 r.2.1 r.2.2; omega
 ·split
  ·have := rep_len hb c r.1 r.2.1; omega
  ·have := add_len c (c.pln r.1); omega
theorem fold_len {β : Type} {blk : Cc -> β -> Cc} {f : β -> Nat} (hb : LenB blk f) : ∀ (xs : List (St × β × β)) (c : Cc), c.st.length <= (List.foldl (fun c r => c.stm blk r) c xs).st.length /\ (List.foldl (fun c r => c.stm blk r) c xs).st.length <= c.st.length + costL f xs /\ (List.foldl (fun c r => c.stm blk r) c xs).lp = c.lp
 | [], c => ⟨Nat.le_refl _, Nat.le_refl _, rfl⟩
 | r :: xs, c => by
  have h1 := stm_len hb c r
  have h2 := fold_len hb xs (c.stm blk r)
  simp only [List.foldl_cons, costL]
  omega
theorem blk_len : ∀ d, LenB (Cc.blk d) (costB d)
 | 0 => fun _c _x => ⟨Nat.le_refl _, Nat.le_refl _, rfl⟩
 | d + 1 => fun c x => fold_len (blk_len d) x c
def MB (d : Nat) : Prop := ∀ (w : World) (lo cb ib rb : Nat) (v : Nat -> Value) (c : Cc) (y : Value) (x : BT d), Cw w lo cb ib rb v c -> SlR d w (fun g => g < lo) y x -> smallB d x -> c.st.length + costB d x <= 900000 -> c.lp + d <= 100 ->
 Calls Tryz.prog 69 #[ptr cb, y] w (OutM w lo cb ib rb v (.tuple #[]) (c.blk d x))
section
variable {w : World} {lo cb ib rb : Nat} {v : Nat -> Value} {c : Cc}
theorem endM {fn : Func} {R : Ending -> World -> Prop} {a : Act} {w : World} (hr : fn.results = #[]) (hd : a.defers = []) (hR : R (.returned (.tuple #[])) w) : bodyPost Tryz.prog fn R .normal a w :=
 bodyPost_end (by simp [results, hr, go_sem]) hd hR
theorem mif_any {d : Nat} (HT : TestOk) (HB : MB d) (h : Cw w lo cb ib rb v c) (x : St) (y z : Value) (ty tz : BT d) (hy : SlR d w (fun g => g < lo) y ty) (hz : SlR d w (fun g => g < lo) z tz) (hx : x.small) (hsy : smallB d ty) (hsz : smallB d tz) (hco : c.st.length + 4 + costB d ty + costB d tz <= 900000) (hlp : c.lp + d <= 99) :
  Calls Tryz.prog 124 #[ptr cb, .agg (stA x y z)] w (OutM w lo cb ib rb v (.tuple #[]) (c.ifs (Cc.blk d) x ty tz)) := by
 obtain ⟨y1, y2, y3, rfl⟩ := SlR.form d _ _ hy
 obtain ⟨z1, z2, z3, rfl⟩ := SlR.form d _ _ hz
 have h1 := h.alloc (.cells (stA x (.slice y1 y2 y3) (.slice z1 z2 z3)) 226)
 have b1 : (w.alloc (.cells (stA x (.slice y1 y2 y3) (.slice z1 z2 z3)) 226)).heap[w.heap.size]? = some (.cells (stA x (.slice y1 y2 y3) (.slice z1 z2 z3)) 226) := heap_new rfl
 have F1 := Fr.of cb ib rb v ((Below.refl w.heap.size w).alloc (Nat.le_refl _) (.cells (stA x (.slice y1 y2 y3) (.slice z1 z2 z3)) 226))
 have hm : ¬ Mine cb ib rb v w.heap.size := fun hm => by have := (h.mine_lt hm).2; omega
 have T1 := HT _ lo cb ib rb v c h1 x.cond hx.2.2 (by omega)
 have e1 : Hid (c.ifs (Cc.blk d) x ty tz = (Cc.blk d ((((c.add (c.tsx x.cond)).blk d ty).add (jmpS 0)).land c.st.length) tz).land ((c.add (c.tsx x.cond)).blk d ty).st.length) := rfl
 have l1 := add_len c (c.tsx x.cond)
 generalize c.add (c.tsx x.cond) = c1 at *
 have l2 := blk_len d c1 ty
 have HB2 := fun (w : World) (v : Nat -> Value) (h : Cw w lo cb ib rb v c1) (hs : SlR d w (fun g => g < lo) (.slice y1 y2 y3) ty) => HB w lo cb ib rb v c1 (.slice y1 y2 y3) ty h hs hsy (by omega) (by omega)
 generalize c1.blk d ty = c2 at *
 have l3 := add_len c2 (jmpS 0)
 have l4 := land_len (c2.add (jmpS 0)) c.st.length
 have A3 := fun (w : World) (v : Nat -> Value) (h : Cw w lo cb ib rb v c2) => cadd_any h (jmpS 0) (by omega)
 have L4 := fun (w : World) (v : Nat -> Value) (h : Cw w lo cb ib rb v (c2.add (jmpS 0))) => cland_any h c.st.length (by omega) (by omega)
 generalize c2.add (jmpS 0) = c3 at *
 generalize c3.land c.st.length = c4 at *
 have l5 := blk_len d c4 tz
 have HB5 := fun (w : World) (v : Nat -> Value) (h : Cw w lo cb ib rb v c4) (hs : SlR d w (fun g => g < lo) (.slice z1 z2 z3) tz) => HB w lo cb ib rb v c4 (.slice z1 z2 z3) tz h hs hsz (by omega) (by omega)
 generalize c4.blk d tz = c5 at *
 have L6 := fun (w : World) (v : Nat -> Value) (h : Cw w lo cb ib rb v c5) => cland_any h c2.st.length (by omega) (by omega)
 have A3 : Hid _ := A3
 have L4 : Hid _ := L4
 have L6 : Hid _ := L6
 have HB2 : Hid _ := HB2
 have HB5 : Hid _ := HB5
 clear HT HB hx hsy hsz
 clear l1 l2 l3 l4 l5
 go_enter Tryz.func124, Tryz.ntmps124
 go_wp2_with fail
 refine T1.mono ?_
 rintro e w2 ⟨rfl, v2, C2, F2⟩
 have G2 := F1.trans F2
 have b2 := F2.at' b1 hm
 have hm2 : ¬ Mine cb ib rb v2 w.heap.size := fun hm2 => by
  rcases F2.new _ hm2 with h3 | h3
  ·exact hm h3
  ·have := (Array.getElem?_eq_some_iff.1 b1).1
   omega
 have hy2 := SlR.fr h G2 hy
 have hz2 := SlR.fr h G2 hz
 have q2 : w2.cell? ⟨w.heap.size, 22, none⟩ = some (.slice y1 y2 y3) := by simp [World.cell?, b2]
 clear T1 b1 h1 F1 F2
 generalize hbx : w.heap.size = bx at *
 clear hbx
 go_wp2_with fail
 refine (HB2.out _ _ C2 hy2).mono ?_
 rintro e w3 ⟨rfl, v3, C3, F3⟩
 have hb3 : bx < w2.heap.size := (Array.getElem?_eq_some_iff.1 b2).1
 have b3 := F3.at' b2 hm2
 have hm3 : ¬ Mine cb ib rb v3 bx := fun hm3 => by
  rcases F3.new _ hm3 with h3 | h3
  ·exact hm2 h3
  ·omega
 have hz3 := SlR.fr C2 F3 hz2
 clear q2
 go_wp2_with fail
 refine (A3.out _ _ C3).mono ?_
 rintro e w4 ⟨rfl, v4, C4, F4⟩
 have hb4 : bx < w3.heap.size := (Array.getElem?_eq_some_iff.1 b3).1
 have b4 := F4.at' b3 hm3
 have hm4 : ¬ Mine cb ib rb v4 bx := fun hm4 => by
  rcases F4.new _ hm4 with h3 | h3
  ·exact hm3 h3
  ·omega
 have hz4 := SlR.fr C3 F4 hz3
 go_wp2_with fail
 refine (L4.out _ _ C4).mono ?_
 rintro e w5 ⟨rfl, v5, C5, F5⟩
 have b5 := F5.at' b4 hm4
 have hz5 := SlR.fr C4 F5 hz4
 have q5 : w5.cell? ⟨bx, 24, none⟩ = some (.slice z1 z2 z3) := by simp [World.cell?, b5]
 go_wp2_with fail
 refine (HB5.out _ _ C5 hz5).mono ?_
 rintro e w6 ⟨rfl, v6, C6, F6⟩
 go_wp2_with fail
 refine (L6.out _ _ C6).mono ?_
 rintro e w7 ⟨rfl, v7, C7, F7⟩
 go_wp2_with fail
 rw [e1.out]
 exact endM rfl rfl ⟨rfl, v7, C7, ((((G2.trans F3).trans F4).trans F5).trans F6).trans F7⟩
theorem mrep_any {d : Nat} (HT : TestOk) (HB : MB d) (h : Cw w lo cb ib rb v c) (x : St) (y z : Value) (ty tz : BT d) (hy : SlR d w (fun g => g < lo) y ty) (hz : SlR d w (fun g => g < lo) z tz) (hx : x.small) (hsy : smallB d ty) (hco : c.st.length + 4 + costB d ty + costB d tz <= 900000) (hlp : c.lp + d <= 99) :
  Calls Tryz.prog 125 #[ptr cb, .agg (stA x y z)] w (OutM w lo cb ib rb v (.tuple #[]) (c.rep (Cc.blk d) x ty)) := by
 obtain ⟨y1, y2, y3, rfl⟩ := SlR.form d _ _ hy
 obtain ⟨z1, z2, z3, rfl⟩ := SlR.form d _ _ hz
 have h1 := h.alloc (.cells (stA x (.slice y1 y2 y3) (.slice z1 z2 z3)) 226)
 have b1 : (w.alloc (.cells (stA x (.slice y1 y2 y3) (.slice z1 z2 z3)) 226)).heap[w.heap.size]? = some (.cells (stA x (.slice y1 y2 y3) (.slice z1 z2 z3)) 226) := heap_new rfl
 have F1 := Fr.of cb ib rb v ((Below.refl w.heap.size w).alloc (Nat.le_refl _) (.cells (stA x (.slice y1 y2 y3) (.slice z1 z2 z3)) 226))
 have hm : ¬ Mine cb ib rb v w.heap.size := fun hm => by have := (h.mine_lt hm).2; omega
 have A1 := cadd_any h1 ⟨12, (0, 0), (0, 0), false, false, (0, 0), (0, 0), c.lp, x.times.1, 0⟩ (by omega)
 have e1 := rep_eq (Cc.blk d) c x ty
 have l1 := add_len c ⟨12, (0, 0), (0, 0), false, false, (0, 0), (0, 0), c.lp, x.times.1, 0⟩
 have e3 : c.c3 x = ((c.add ⟨12, (0, 0), (0, 0), false, false, (0, 0), (0, 0), c.lp, x.times.1, 0⟩).add ⟨13, (0, 0), (0, 0), false, false, (0, 0), (0, 0), c.lp, 0, 0⟩).add (((c.add ⟨12, (0, 0), (0, 0), false, false, (0, 0), (0, 0), c.lp, x.times.1, 0⟩).add ⟨13, (0, 0), (0, 0), false, false, (0, 0), (0, 0), c.lp, 0, 0⟩).tsx x.cond) := rfl
 rw [e3] at e1
 clear e3
 generalize c.add ⟨12, (0, 0), (0, 0), false, false, (0, 0), (0, 0), c.lp, x.times.1, 0⟩ = c1 at *
 have l2 := add_len c1 ⟨13, (0, 0), (0, 0), false, false, (0, 0), (0, 0), c.lp, 0, 0⟩
 have A2 := fun (w : World) (v : Nat -> Value) (h : Cw w lo cb ib rb v c1) => cadd_any h ⟨13, (0, 0), (0, 0), false, false, (0, 0), (0, 0), c.lp, 0, 0⟩ (by omega)
 generalize c1.add ⟨13, (0, 0), (0, 0), false, false, (0, 0), (0, 0), c.lp, 0, 0⟩ = c2 at *
 have l3 := add_len c2 (c2.tsx x.cond)
 have T3 := fun (w : World) (v : Nat -> Value) (h : Cw w lo cb ib rb v c2) => HT w lo cb ib rb v c2 h x.cond hx.2.2 (by omega)
 generalize c2.add (c2.tsx x.cond) = c3 at *
 have l4 : c3.up.st.length = c3.st.length /\ c3.up.lp = c3.lp + 1 := ⟨rfl, rfl⟩
 have U3 := fun (w : World) (v : Nat -> Value) (h : Cw w lo cb ib rb v c3) => (show Cw (w.setCell ⟨cb, 9, none⟩ (.int .i64 ((c3.lp + 1 : Nat) : Int))) lo cb ib rb v c3.up from h.lpset (c3.lp + 1))
 have HB4 := fun (w : World) (v : Nat -> Value) (h : Cw w lo cb ib rb v c3.up) (hs : SlR d w (fun g => g < lo) (.slice y1 y2 y3) ty) => HB w lo cb ib rb v c3.up (.slice y1 y2 y3) ty h hs hsy (by omega) (by omega)
 have l5 := blk_len d c3.up ty
 generalize c3.up.blk d ty = c4 at *
 have l6 := dn_len c4
 have U5 := fun (w : World) (v : Nat -> Value) (h : Cw w lo cb ib rb v c4) => (show Cw (w.setCell ⟨cb, 9, none⟩ (.int .i64 ((c4.lp - 1 : Nat) : Int))) lo cb ib rb v c4.dn from h.lpset (c4.lp - 1))
 have A6 := fun (w : World) (v : Nat -> Value) (h : Cw w lo cb ib rb v c4.dn) => cadd_any h (jmpS (c.st.length + 1)) (by omega)
 have l7 := add_len c4.dn (jmpS (c.st.length + 1))
 generalize c4.dn.add (jmpS (c.st.length + 1)) = c6 at *
 have L7 := fun (w : World) (v : Nat -> Value) (h : Cw w lo cb ib rb v c6) => cland_any h (c.st.length + 1) (by omega) (by omega)
 have l8 := land_len c6 (c.st.length + 1)
 generalize c6.land (c.st.length + 1) = c7 at *
 have L8 := fun (w : World) (v : Nat -> Value) (h : Cw w lo cb ib rb v c7) => cland_any h (c.st.length + 2) (by omega) (by omega)
 have e1 : Hid (c.rep (Cc.blk d) x ty = c7.land (c.st.length + 2)) := e1
 have k1 : c1.st.length = c.st.length + 1 := l1.1
 have k2 : c2.st.length = c.st.length + 2 := by omega
 have k4 : c3.lp = c.lp := by omega
 have k5 : c4.lp = c.lp + 1 := by omega
 have A2 : Hid (∀ (w : World) (v : Nat -> Value), Cw w lo cb ib rb v c1 -> Calls Tryz.prog 126 #[ptr cb, .agg (spA ⟨13, (0, 0), (0, 0), false, false, (0, 0), (0, 0), c.lp, 0, 0⟩)] w (OutM w lo cb ib rb v (.int .i64 (c.st.length + 1 : Nat)) c2)) := fun w v h => by rw [<- k1]; exact A2 w v h
 have T3 : Hid (∀ (w : World) (v : Nat -> Value), Cw w lo cb ib rb v c2 -> Calls Tryz.prog 142 #[ptr cb, cdV x.cond] w (OutM w lo cb ib rb v (.int .i64 (c.st.length + 2 : Nat)) c3)) := fun w v h => by rw [<- k2]; exact T3 w v h
 have U3 : Hid (∀ (w : World) (v : Nat -> Value), Cw w lo cb ib rb v c3 -> Cw (w.setCell ⟨cb, 9, none⟩ (.int .i64 ((c.lp + 1 : Nat) : Int))) lo cb ib rb v c3.up) := fun w v h => by rw [<- k4]; exact U3 w v h
 have U5 : Hid (∀ (w : World) (v : Nat -> Value), Cw w lo cb ib rb v c4 -> Cw (w.setCell ⟨cb, 9, none⟩ (.int .i64 (c.lp : Int))) lo cb ib rb v c4.dn) := fun w v h => by have := U5 w v h; rw [k5] at this; exact this
 have HB4 : Hid _ := HB4
 have A6 : Hid _ := A6
 have L7 : Hid _ := L7
 have L8 : Hid _ := L8
 have K4 : Hid (c3.lp = c.lp /\ c4.lp = c.lp + 1) := ⟨k4, k5⟩
 have hlpb : c.lp <= 99 := by omega
 have U3 : Hid (∀ (w : World) (v : Nat -> Value), Cw w lo cb ib rb v c3 -> Cw (w.setCell ⟨cb, 9, none⟩ (.int .i64 ((c.lp : Int) + 1))) lo cb ib rb v c3.up) := fun w v h => U3.out w v h
 clear HT HB hx hsy hco hlp l1 l2 l3 l4 l5 l6 l7 l8 k1 k2 k4 k5
 generalize c.st.length + 1 = m1 at *
 generalize c.st.length + 2 = m2 at *
 obtain ⟨a1, af1⟩ := blk_cl h1.at'
 go_enter Tryz.func125, Tryz.ntmps125
 go_wp2_with fail
 refine A1.mono ?_
 rintro e w2 ⟨rfl, v2, C2, F2⟩
 have G2 := F1.trans F2
 have b2 := F2.at' b1 hm
 have hm2 : ¬ Mine cb ib rb v2 w.heap.size := fun hm2 => by
  rcases F2.new _ hm2 with h3 | h3
  ·exact hm h3
  ·have := (Array.getElem?_eq_some_iff.1 b1).1
   omega
 have hy2 := SlR.fr h G2 hy
 clear A1 b1 h1 F1 F2 a1 af1
 generalize hbx : w.heap.size = bx at *
 clear hbx
 go_wp2_with fail
 refine (A2.out _ _ C2).mono ?_
 rintro e w3 ⟨rfl, v3, C3, F3⟩
 have hb3 : bx < w2.heap.size := (Array.getElem?_eq_some_iff.1 b2).1
 have b3 := F3.at' b2 hm2
 have hm3 : ¬ Mine cb ib rb v3 bx := fun hm3 => by
  rcases F3.new _ hm3 with h3 | h3
  ·exact hm2 h3
  ·omega
 have hy3 := SlR.fr C2 F3 hy2
 obtain ⟨a3, af3⟩ := blk_cl b3
 go_wp2_with fail
 refine (T3.out _ _ C3).mono ?_
 rintro e w4 ⟨rfl, v4, C4, F4⟩
 have hb4 : bx < w3.heap.size := (Array.getElem?_eq_some_iff.1 b3).1
 have b4 := F4.at' b3 hm3
 have hm4 : ¬ Mine cb ib rb v4 bx := fun hm4 => by
  rcases F4.new _ hm4 with h3 | h3
  ·exact hm3 h3
  ·omega
 have hy4 := SlR.fr C3 F4 hy3
 have e4 := C4.at'
 rw [K4.out.1] at e4
 have C5 := U3.out _ _ C4
 have F5 := C4.own4 9 (.int .i64 ((c.lp : Int) + 1))
 have b5 := F5.at' b4 hm4
 have hy5 := SlR.fr C4 F5 hy4
 obtain ⟨a4, af4⟩ := blk_cl e4
 obtain ⟨a5, af5⟩ := blk_cl b5
 have hb5 : bx < (w4.setCell ⟨cb, 9, none⟩ (.int .i64 ((c.lp : Int) + 1))).heap.size := (Array.getElem?_eq_some_iff.1 b5).1
 clear a3 af3
 go_wp2_with fail
 generalize w4.setCell ⟨cb, 9, none⟩ (.int .i64 ((c.lp : Int) + 1)) = w5 at *
 refine (HB4.out _ _ C5 hy5).mono ?_
 rintro e w6 ⟨rfl, v6, C6, F6⟩
 have e6 := C6.at'
 rw [K4.out.2] at e6
 obtain ⟨a6, af6⟩ := blk_cl e6
 have C7 := U5.out _ _ C6
 have F7 := C6.own4 9 (.int .i64 (c.lp : Int))
 clear a4 af4 a5 af5
 go_wp2_with fail
 generalize w6.setCell ⟨cb, 9, none⟩ (.int .i64 (c.lp : Int)) = w7 at *
 refine (A6.out _ _ C7).mono ?_
 rintro e w8 ⟨rfl, v8, C8, F8⟩
 go_wp2_with fail
 refine (L7.out _ _ C8).mono ?_
 rintro e w9 ⟨rfl, v9, C9, F9⟩
 go_wp2_with fail
 refine (L8.out _ _ C9).mono ?_
 rintro e w10 ⟨rfl, v10, C10, F10⟩
 go_wp2_with fail
 rw [e1.out]
 exact endM rfl rfl ⟨rfl, v10, C10, (((((((G2.trans F3).trans F4).trans F5).trans F6).trans F7).trans F8).trans F9).trans F10⟩
theorem mstm_any {d : Nat} (HT : TestOk) (HP : PlainOk) (HB : MB d) (h : Cw w lo cb ib rb v c) (x : St) (y z : Value) (ty tz : BT d) (hy : SlR d w (fun g => g < lo) y ty) (hz : SlR d w (fun g => g < lo) z tz) (hx : x.small) (hsy : smallB d ty) (hsz : smallB d tz) (hco : c.st.length + 4 + costB d ty + costB d tz <= 900000) (hlp : c.lp + d <= 99) :
  Calls Tryz.prog 98 #[ptr cb, .agg (stA x y z)] w (OutM w lo cb ib rb v (.tuple #[]) (c.stm (Cc.blk d) (x, ty, tz))) := by
 obtain ⟨y1, y2, y3, rfl⟩ := SlR.form d _ _ hy
 obtain ⟨z1, z2, z3, rfl⟩ := SlR.form d _ _ hz
 by_cases k1 : x.word = [105, 102]
 ·have e1 : c.stm (Cc.blk d) (x, ty, tz) = c.ifs (Cc.blk d) x ty tz := by unfold Cc.stm; rw [if_pos k1]
  rw [e1]
  clear e1
  have q1 : (x.word == [105, 102]) = true := by rw [k1]; rfl
  clear k1
  have h1 := h.alloc (.cells (stA x (.slice y1 y2 y3) (.slice z1 z2 z3)) 226)
  have F1 := Fr.of cb ib rb v ((Below.refl w.heap.size w).alloc (Nat.le_refl _) (.cells (stA x (.slice y1 y2 y3) (.slice z1 z2 z3)) 226))
  have b1 : (w.alloc (.cells (stA x (.slice y1 y2 y3) (.slice z1 z2 z3)) 226)).heap[w.heap.size]? = some (.cells (stA x (.slice y1 y2 y3) (.slice z1 z2 z3)) 226) := heap_new rfl
  have HI := mif_any HT HB h1 x _ _ ty tz (SlR.fr h F1 hy) (SlR.fr h F1 hz) hx hsy hsz hco hlp
  go_enter Tryz.func98, Tryz.ntmps98
  go_upto_region 4 with fail
  refine wp_region_lit ?_
  iterate 3 go_step
  refine wpList_load_row rfl 226 (.tmp 3) rfl w.heap.size rfl 226 _ _ _ b1 Tryz.underlying226 rfl (by kernel_rfl) ?_
  go_wp2_with fail
  refine HI.mono ?_
  rintro e w2 ⟨rfl, v2, C2, F2⟩
  go_wp2_with fail
  exact endM rfl rfl ⟨rfl, v2, C2, F1.trans F2⟩
 by_cases k2 : x.word = [114, 101, 112, 101, 97, 116]
 ·have e1 : c.stm (Cc.blk d) (x, ty, tz) = c.rep (Cc.blk d) x ty := by unfold Cc.stm; rw [if_neg k1, if_pos k2]
  rw [e1]
  clear e1
  have q1 : (x.word == [105, 102]) = false := by rw [k2]; rfl
  have q2 : (x.word == [114, 101, 112, 101, 97, 116]) = true := by rw [k2]; rfl
  clear k1 k2
  have h1 := h.alloc (.cells (stA x (.slice y1 y2 y3) (.slice z1 z2 z3)) 226)
  have F1 := Fr.of cb ib rb v ((Below.refl w.heap.size w).alloc (Nat.le_refl _) (.cells (stA x (.slice y1 y2 y3) (.slice z1 z2 z3)) 226))
  have b1 : (w.alloc (.cells (stA x (.slice y1 y2 y3) (.slice z1 z2 z3)) 226)).heap[w.heap.size]? = some (.cells (stA x (.slice y1 y2 y3) (.slice z1 z2 z3)) 226) := heap_new rfl
  have HI := mrep_any HT HB h1 x _ _ ty tz (SlR.fr h F1 hy) (SlR.fr h F1 hz) hx hsy hco hlp
  go_enter Tryz.func98, Tryz.ntmps98
  go_upto_region 6 with fail
  refine wp_region_lit ?_
  iterate 3 go_step
  refine wpList_load_row rfl 226 (.tmp 3) rfl w.heap.size rfl 226 _ _ _ b1 Tryz.underlying226 rfl (by kernel_rfl) ?_
  go_wp2_with fail
  refine HI.mono ?_
  rintro e w2 ⟨rfl, v2, C2, F2⟩
  go_wp2_with fail
  exact endM rfl rfl ⟨rfl, v2, C2, F1.trans F2⟩
 ·have e1 : c.stm (Cc.blk d) (x, ty, tz) = c.add (c.pln x) := by unfold Cc.stm; rw [if_neg k1, if_neg k2]
  rw [e1]
  exact HP w lo cb ib rb v c h x y1 y2 y3 z1 z2 z3 hx (by omega) (by simpa using k1) (by simpa using k2)
end
theorem mblk_zero : MB 0 := by
 intro w lo cb ib rb v c y x h hv _ _ _
 have hv : y = nilV := hv
 subst hv
 go_enter Tryz.func69, Tryz.ntmps69
 go_wp2_with fail
 go_loopg [8] 0 (fun f i wr => wr = w /\ i = .int .i64 0)
 case atStart => exact ⟨rfl, rfl⟩
 case round =>
  obtain ⟨rfl, rfl⟩ := hrel
  go_wp2_with fail
  exact endM rfl rfl ⟨rfl, v, h, Fr.refl _ _ _ _ _⟩
theorem costL_drop {β : Type} (f : β -> Nat) : ∀ (xs : List (St × β × β)) (k : Nat) (r : St × β × β), xs.drop k = r :: xs.drop (k + 1) -> costL f (xs.drop k) = 4 + f r.2.1 + f r.2.2 + costL f (xs.drop (k + 1)) := fun xs k r h => by
 rw [h]; rfl
theorem mblk_succ {d : Nat} (HT : TestOk) (HP : PlainOk) (HB : MB d) : MB (d + 1) := by
 intro w lo cb ib rb v c y x h hv hsm hco hlp
 obtain ⟨rows, hrel0, hown, hN⟩ := hv
 have hlow := h.low
 have hlen : Hid (rows.length = List.length x) := RelRows.len _ _ hrel0
 generalize hs : c.blk (d + 1) x = c'
 have HS : Hid (c' = List.foldl (fun c r => c.stm (Cc.blk d) r) c x) := hs.symm
 clear hs
 have hco : c.st.length + costL (costB d) x <= 900000 := hco
 obtain ⟨va, vk, vc, rfl⟩ := ownsRow_form2 hown
 have hvk : vk = rows.length := by
  rcases hown.2 with ⟨h1, h2⟩ | ⟨g, cap, cur, h1, _⟩
  ·simp at h1; omega
  ·simp at h1; omega
 subst hvk
 have hmax : rows.length <= maxLen := by
  rcases hown.2 with ⟨h1, h2⟩ | ⟨g, cap, cur, h1, _, _, h2, h3, _⟩
  ·omega
  ·omega
 have hmax : rows.length <= 9223372036854775807 := hmax
 go_enter Tryz.func69, Tryz.ntmps69
 go_wp2_with fail
 go_loopg [8] rows.length (fun f i wr => ∃ (k : Nat) (ck : Cc) (vk : Nat -> Value), k + f = rows.length /\ i = .int .i64 k /\ Cw wr lo cb ib rb vk ck /\ Fr cb ib rb v vk w wr /\ ck.st.length + costL (costB d) (List.drop k x) <= 900000 /\ ck.lp + d <= 99 /\ Hid (c' = List.foldl (fun c r => c.stm (Cc.blk d) r) ck (List.drop k x)))
 case atStart => exact ⟨0, c, v, by omega, rfl, h, Fr.refl _ _ _ _ _, hco, by omega, HS⟩
 case round =>
  obtain ⟨k, ck, vk, hk, rfl, h1, K1, hc1, hl1, HK⟩ := hrel
  by_cases hlt : k < rows.length
  ·obtain ⟨st, y, z, ty, tz, r1, r2, r3, r4, r5⟩ := RelRows.at _ _ hrel0 k hlt
   obtain ⟨y1, y2, y3, rfl⟩ := SlR.form d _ _ r4
   obtain ⟨z1, z2, z3, rfl⟩ := SlR.form d _ _ r5
   have y4 := SlR.fr h K1 r4
   have z4 := SlR.fr h K1 r5
   obtain ⟨m1, m2, m3⟩ := smallL.at _ hsm k _ r2
   have hcd := costL_drop (costB d) x k _ r3
   have hcd : costL (costB d) (List.drop k x) = 4 + costB d ty + costB d tz + costL (costB d) (List.drop (k + 1) x) := hcd
   have hsl := stm_len (blk_len d) ck (st, ty, tz)
   have hsl : ck.st.length <= (ck.stm (Cc.blk d) (st, ty, tz)).st.length /\ (ck.stm (Cc.blk d) (st, ty, tz)).st.length <= ck.st.length + 4 + costB d ty + costB d tz /\ (ck.stm (Cc.blk d) (st, ty, tz)).lp = ck.lp := hsl
   have HH : Hid ((ck.stm (Cc.blk d) (st, ty, tz)).st.length + costL (costB d) (List.drop (k + 1) x) <= 900000 /\ (ck.stm (Cc.blk d) (st, ty, tz)).lp + d <= 99) := by constructor <;> omega
   have hco2 : ck.st.length + 4 + costB d ty + costB d tz <= 900000 := by omega
   have HK2 : Hid (c' = List.foldl (fun c r => c.stm (Cc.blk d) r) (ck.stm (Cc.blk d) (st, ty, tz)) (List.drop (k + 1) x)) := by show _ = _; rw [HK.out, r3]; rfl
   clear hcd hsl HK hc1
   have hg : ∃ g, va = some ⟨g, 0, none⟩ := by
    rcases hown.2 with ⟨h1, h2⟩ | ⟨g, cap, cur, h1, _⟩
    ·omega
    ·simp at h1; exact ⟨g, h1.1⟩
   obtain ⟨g, rfl⟩ := hg
   have hgl : g < lo := hN g rfl
   have hix : ∀ W : World, (Instr.indexAt 159 (.slice (some ⟨g, 0, none⟩) rows.length vc) (.int .i64 k)).run Tryz.prog W = .ok (.pointer (some ⟨g, k * 25, none⟩)) W := by
    intro W
    rw [run_indexAt_slice (h := by kernel_rfl), if_pos (by omega)]
    have : (sizeOf (Tryz.prog.elem 159)).run Tryz.prog W = .ok 25 W := by kernel_rfl
    rw [this]
    simp [Result.andThen, Addr.add]
    omega
   have hown1 : wr.ownsRow 0 226 25 (.slice (some ⟨g, 0, none⟩) rows.length vc) rows.length (flatR rows) := ownsRow_move hown (fun q hq hl => by simp [Value.ownBlock] at hq; subst hq; exact K1.block _ hl (fun hm => by have := (h.mine_lt hm).1; omega))
   have hrg : wr.rangeAt g (k * 25) (stA st (.slice y1 y2 y3) (.slice z1 z2 z3)).toList := fun j u hu => by
    have hj : j < 25 := by have := (List.getElem?_eq_some_iff.1 hu).1; simpa using this
    rw [hown1.cellAt _ (by have : k + 1 <= rows.length := hlt; omega)]
    exact flatR_at rows k _ r1 j u hu
   go_upto_region 2 with fail
   refine wp_region_lit ?_
   iterate 3 go_step
   refine wpList_load_mid rfl 226 (.tmp 10) rfl g (k * 25) rfl (stA st (.slice y1 y2 y3) (.slice z1 z2 z3)).toList _ hrg Tryz.underlying226 rfl (by kernel_rfl) ?_
   iterate 3 go_step
   refine store_in rfl 226 (.tmp 5) (.tmp 11) rfl (stA st (.slice y1 y2 y3) (.slice z1 z2 z3)) rfl rfl (by kernel_rfl) rfl (by simp [Value.oneCell']) ?_
   intro w2 B2 hb2 hz2
   have h2 := h1.grow B2
   have K2 := Fr.of cb ib rb vk B2
   have y5 := SlR.fr h1 K2 y4
   have z5 := SlR.fr h1 K2 z4
   have HX := mstm_any HT HP HB h2 st _ _ ty tz y5 z5 m1 m2 m3 hco2 hl1
   go_upto_region 3 with fail
   refine wp_region_lit ?_
   iterate 3 go_step
   refine wpList_load_row rfl 226 (.tmp 5) rfl wr.heap.size rfl 226 _ _ _ hb2 Tryz.underlying226 rfl (by kernel_rfl) ?_
   go_wp2_with fail
   refine HX.mono ?_
   rintro e w3 ⟨rfl, v3, h3, K3⟩
   go_wp2_with fail
   go_roundg (gk - 1)
   case measure => omega
   case rel =>
    exact ⟨k + 1, ck.stm (Cc.blk d) (st, ty, tz), v3, by omega, by simp, h3, (K1.trans K2).trans K3, HH.out.1, HH.out.2, HK2⟩
  ·have e0 : List.drop k x = [] := List.drop_eq_nil_iff.2 (by have := hlen.out; omega)
   have e1 : c' = ck := by rw [HK.out, e0]; rfl
   subst e1
   go_wp2_with fail
   exact endM rfl rfl ⟨rfl, vk, h1, K1⟩
theorem mblk_all (HT : TestOk) (HP : PlainOk) : ∀ d, MB d
 | 0 => mblk_zero
 | d + 1 => mblk_succ HT HP (mblk_all HT HP d)
def Cc.dcl (c : Cc) (d : Dc) : Cc :=
 if d.word = [113, 117, 101, 117, 101] then { c with ix := (d.name.1, c.ro.length) :: c.ix, ev := c.ev ++ [d.name.1], gh := c.gh ++ [false], ro := c.ro ++ [d.num.1] }
 else if d.word = [103, 104, 111, 115, 116] then { c with ix := (d.name.1, c.ro.length) :: c.ix, ev := c.ev ++ [d.name.1], gh := c.gh ++ [true], ro := c.ro ++ [d.num.1] }
 else if d.word = [118, 97, 114] then { c with ix := (d.name.1, c.mo.length) :: c.ix, vn := c.vn ++ [d.name.1], mo := c.mo ++ [d.num.1] }
 else if d.word = [102, 114, 101, 113] then { c with mf := d.num.1 } else c
def Cc.upto (c : Cc) (k : Nat) : Prop := c.ix.length <= k /\ c.ev.length <= k /\ c.gh.length <= k /\ c.ro.length <= k /\ c.mo.length <= k /\ c.vn.length <= k
theorem dcl_upto {c : Cc} {k : Nat} (h : c.upto k) (d : Dc) : (c.dcl d).upto (k + 1) /\ (c.dcl d).rt = c.rt /\ (c.dcl d).lp = c.lp /\ (c.dcl d).st = c.st := by
 obtain ⟨h1, h2, h3, h4, h5, h6⟩ := h
 unfold Cc.dcl
 refine ⟨?_, ?_, ?_, ?_⟩
 ·repeat' split
  all_goals (unfold Cc.upto; first | (simp; omega) | omega)
 ·repeat' split
  all_goals rfl
 ·repeat' split
  all_goals rfl
 ·repeat' split
  all_goals rfl
def NrB {β : Type} (blk : Cc -> β -> Cc) : Prop := ∀ c x, (blk c x).rt = c.rt /\ (blk c x).ix = c.ix
theorem stm_nr {β : Type} {blk : Cc -> β -> Cc} (hb : NrB blk) (c : Cc) (r : St × β × β) : (c.stm blk r).rt = c.rt /\ (c.stm blk r).ix = c.ix := by
 unfold Cc.stm
 split
 ·unfold Cc.ifs
  simp only
  have h1 := hb (c.add (c.tsx r.1.cond)) r.2.1
  generalize blk (c.add (c.tsx r.1.cond)) r.2.1 = c2 at *
  have h2 := hb ((c2.add (jmpS 0)).land c.st.length) r.2.2
  exact ⟨h2.1.trans h1.1, h2.2.trans h1.2⟩
 ·split
  ·rw [rep_eq]
   have h1 := hb (c.c3 r.1).up r.2.1
   exact ⟨h1.1, h1.2⟩
  ·exact ⟨rfl, rfl⟩
theorem fold_nr {β : Type} {blk : Cc -> β -> Cc} (hb : NrB blk) : ∀ (xs : List (St × β × β)) (c : Cc), (List.foldl (fun c r => c.stm blk r) c xs).rt = c.rt /\ (List.foldl (fun c r => c.stm blk r) c xs).ix = c.ix
 | [], _ => ⟨rfl, rfl⟩
 | r :: xs, c => by
  have h1 := stm_nr hb c r
  have h2 := fold_nr hb xs (c.stm blk r)
  exact ⟨h2.1.trans h1.1, h2.2.trans h1.2⟩
theorem blk_nr : ∀ d, NrB (Cc.blk d)
 | 0 => fun _ _ => ⟨rfl, rfl⟩
 | d + 1 => fun c x => fold_nr (blk_nr d) x c
def Cc.nost (c : Cc) : Cc := { c with st := [] }
def Cc.more (c : Cc) (k : List UInt8) : Cc := { c with rt := (k, c.st) :: c.rt }
def Cc.rul (c : Cc) (r : Nat × NP × BT 8) : Cc := ((c.blk 8 r.2.2).more r.2.1.1).nost
section
variable {w : World} {lo cb ib rb : Nat} {v : Nat -> Value} {c : Cc}
theorem mdecl_any (h : Cw w lo cb ib rb v c) (d : Dc) (hd : d.word = [113, 117, 101, 117, 101] \/ d.word = [103, 104, 111, 115, 116] \/ d.word = [118, 97, 114] \/ d.word = [102, 114, 101, 113]) (hn : d.name.1.length <= 700) (hu : c.upto 2900) :
  Calls Tryz.prog 68 #[ptr cb, .agg (dcA d)] w (OutM w lo cb ib rb v (.tuple #[]) (c.dcl d)) := by
 obtain ⟨dw, dp, ⟨dn, dq⟩, ⟨dm, dr⟩⟩ := d
 obtain ⟨u1, u2, u3, u4, u5, u6⟩ := hu
 have hn : dn.length <= 700 := hn
 rcases hd with hd | hd | hd | hd
 ·have hd : dw = [113, 117, 101, 117, 101] := hd
  subst hd
  exact mdecl_queue h dp dn dq dm dr hn u1 ⟨u2, u3, u4, u5, u6⟩
 ·have hd : dw = [103, 104, 111, 115, 116] := hd
  subst hd
  exact mdecl_ghost h dp dn dq dm dr hn u1 ⟨u2, u3, u4, u5, u6⟩
 ·have hd : dw = [118, 97, 114] := hd
  subst hd
  exact mdecl_var h dp dn dq dm dr hn u1 ⟨u2, u3, u4, u5, u6⟩
 ·have hd : dw = [102, 114, 101, 113] := hd
  subst hd
  exact mdecl_freq h dp dn dq dm dr
theorem Cw.clear (h : Cw w lo cb ib rb v c) : Cw (w.setCell ⟨cb, 8, none⟩ nilV) lo cb ib rb (fun j => if j = 4 then nilV else v j) c.nost /\ Fr cb ib rb v (fun j => if j = 4 then nilV else v j) w (w.setCell ⟨cb, 8, none⟩ nilV) := by
 have hb : ∀ k, k ≠ cb -> (w.setCell ⟨cb, 8, none⟩ nilV).heap[k]? = w.heap[k]? := fun k hk => Below.heap_setCell _ _ _ _ hk
 have hn : ∀ g, (nilV).ownBlock ≠ some g := fun g hg => by simp [Value.ownBlock] at hg
 refine ⟨⟨(heap_setCell_same _ _ 8 nilV _ _ h.at').trans rfl, fun i hi => ?_, fun i j hi hj hij g => ?_, fun i hi g => ?_, ?_, ?_, h.ne, ?_⟩, ⟨rfl, rfl, rfl, by simp [World.setCell], fun k hk hm => hb k (fun e => hm (Or.inl e)), fun k hk => ?_⟩⟩
 ·by_cases e : i = 4
  ·subst e
   simp only [if_pos]
   exact World.ownsRow_nil _ _ _ _
  ·simp only [if_neg e]
   have h5 : i = 0 \/ i = 1 \/ i = 2 \/ i = 3 \/ i = 5 := by omega
   have hrow : c.nost.num i = c.num i /\ c.nost.row i = c.row i := by rcases h5 with rfl | rfl | rfl | rfl | rfl <;> exact ⟨rfl, rfl⟩
   rw [hrow.1, hrow.2]
   exact own_mv (h.own i hi) (fun g hg _ => hb g (h.off i hi g hg).1)
 ·by_cases e : i = 4
  ·simp only [if_pos e]; exact fun hg => absurd hg (hn g)
  ·simp only [if_neg e]
   by_cases e2 : j = 4
   ·simp only [if_pos e2]; exact fun _ => hn g
   ·simp only [if_neg e2]; exact h.sep i j hi hj hij g
 ·by_cases e : i = 4
  ·simp only [if_pos e]; exact fun hg => absurd hg (hn g)
  ·simp only [if_neg e]; exact h.off i hi g
 ·obtain ⟨k, hk, hm⟩ := h.ix
  exact ⟨k, hk, hm.move (hb ib (Ne.symm h.ne.1))⟩
 ·refine h.ru.mv (hb rb (Ne.symm h.ne.2.1)) (fun k _ hm => hb k (fun e => hm (Or.inl e))) ?_
  intro k _ hm hk
  rcases hk with hk | hk | hk | ⟨i, hi, hg⟩
  ·exact hm (Or.inl hk)
  ·exact hm (Or.inr (Or.inl hk))
  ·exact hm (Or.inr (Or.inr (Or.inl hk)))
  ·by_cases e : i = 4
   ·simp only [if_pos e] at hg; exact absurd hg (hn k)
   ·simp only [if_neg e] at hg; exact hm (Or.inr (Or.inr (Or.inr ⟨i, hi, hg⟩)))
 ·have := h.low
  simp only [World.setCell, Array.size_modify]
  exact this
 ·rcases hk with hk | hk | hk | ⟨i, hi, hg⟩
  ·exact Or.inl (Or.inl hk)
  ·exact Or.inl (Or.inr (Or.inl hk))
  ·exact Or.inl (Or.inr (Or.inr (Or.inl hk)))
  ·by_cases e : i = 4
   ·simp only [if_pos e] at hg; exact absurd hg (hn k)
   ·simp only [if_neg e] at hg; exact Or.inl (Or.inr (Or.inr (Or.inr ⟨i, hi, hg⟩)))
theorem u111 : Tryz.prog.underlying 86 = some (.map 9 129) := by kernel_rfl
theorem mine_nil {g : Nat} (hm : Mine cb ib rb (fun j => if j = 4 then nilV else v j) g) : Mine cb ib rb v g := by
 rcases hm with hm | hm | hm | ⟨i, hi, hgi⟩
 ·exact Or.inl hm
 ·exact Or.inr (Or.inl hm)
 ·exact Or.inr (Or.inr (Or.inl hm))
 ·by_cases e : i = 4
  ·simp only [if_pos e] at hgi; simp [Value.ownBlock] at hgi
  ·simp only [if_neg e] at hgi; exact Or.inr (Or.inr (Or.inr ⟨i, hi, hgi⟩))
def CwX (w : World) (lo cb ib rb : Nat) (v : Nat -> Value) (c : Cc) : Prop :=
 (∃ a n k, w.heap[cb]? = some (.cells #[v 0, v 1, v 2, v 5, v 3, .int .i64 c.mf, .map (some rb), .map (some ib), .slice a n k, .int .i64 c.lp] 176)) /\ c.st = [] /\ Cw (w.setCell ⟨cb, 8, none⟩ nilV) lo cb ib rb v c
theorem CwX.of (h : Cw w lo cb ib rb v c) (hs : c.st = []) : CwX w lo cb ib rb (fun j => if j = 4 then nilV else v j) c := by
 obtain ⟨a, k, hv⟩ := h.form 4 (by decide)
 have h2 := h.clear.1
 have e : c.nost = c := by unfold Cc.nost; rw [<- hs]
 rw [e] at h2
 refine ⟨⟨a, c.num 4, k, ?_⟩, hs, h2⟩
 rw [<- hv]
 exact h.at'
theorem CwX.grow {w' : World} (h : CwX w lo cb ib rb v c) (hb : Below w.heap.size w w') : CwX w' lo cb ib rb v c := by
 obtain ⟨⟨a, n, k, h1⟩, h2, h3⟩ := h
 have hl := (Array.getElem?_eq_some_iff.1 h1).1
 refine ⟨⟨a, n, k, (hb.block _ hl).trans h1⟩, h2, h3.grow ⟨hb.os, hb.tape, hb.output, by simpa [World.setCell] using hb.size, fun g hg => ?_⟩⟩
 have hg : g < w.heap.size := by simpa [World.setCell] using hg
 by_cases e : g = cb
 ·subst e
  rw [heap_setCell_same _ _ 8 nilV _ _ ((hb.block _ hl).trans h1), heap_setCell_same _ _ 8 nilV _ _ h1]
 ·rw [Below.heap_setCell _ ⟨cb, 8, none⟩ _ _ e, Below.heap_setCell _ ⟨cb, 8, none⟩ _ _ e]
  exact hb.block g hg
theorem CwX.mine_lt (h : CwX w lo cb ib rb v c) {k : Nat} (hk : Mine cb ib rb v k) : lo <= k /\ k < w.heap.size := by
 have := h.2.2.mine_lt hk
 simpa [World.setCell] using this
theorem Cw.rule (h : Cw w lo cb ib rb v c) (k : List UInt8) (hk : k.length <= 700) (hnr : c.rt.length <= 1000) :
  ∃ w', (Instr.mapUpdate 86 (.map (some rb)) (S k) (v 4)).run Tryz.prog w = .ok () w' /\ CwX w' lo cb ib rb (fun j => if j = 4 then nilV else v j) (c.more k).nost /\ Fr cb ib rb v (fun j => if j = 4 then nilV else v j) w w' := by
 obtain ⟨n, m, hn, ho, hr⟩ := h.ru
 obtain ⟨w', hrun, ho', hg⟩ := ho.put u111 (by omega) k hk (v 4)
 obtain ⟨l1, l2, l3⟩ := h.lt
 have hb : ∀ k, k < w.heap.size -> k ≠ rb -> w'.heap[k]? = w.heap[k]? := fun k hk hne => hg.block k hk (fun e => hne (by simpa using e))
 have hc : ∀ k, k ≠ cb -> (w'.setCell ⟨cb, 8, none⟩ nilV).heap[k]? = w'.heap[k]? := fun k hk => Below.heap_setCell _ _ _ _ hk
 obtain ⟨hC, hF⟩ := h.clear
 have hM : ∀ g, Mine cb ib rb (fun j => if j = 4 then nilV else v j) g -> Mine cb ib rb v g := fun g hm => mine_nil hm
 obtain ⟨a4, k4, hv4⟩ := h.form 4 (by decide)
 have hat := (hb cb l1 h.ne.2.1).trans h.at'
 refine ⟨w', hrun, ⟨⟨a4, c.num 4, k4, ?_⟩, rfl, ⟨(heap_setCell_same _ _ 8 nilV _ _ hat).trans rfl, fun i hi => ?_, hC.sep, hC.off, ?_, ?_, h.ne, ?_⟩⟩, ⟨hg.os, hg.tape, hg.output, hg.size, fun k hk hmi => hb k hk (fun e => hmi (Or.inr (Or.inr (Or.inl e)))), fun k hk => Or.inl (hM k hk)⟩⟩
 ·rw [<- hv4]; exact hat
 ·have h2 := hC.own i hi
  have e1 : (c.more k).nost.num i = c.nost.num i /\ (c.more k).nost.row i = c.nost.row i := ⟨rfl, rfl⟩
  rw [e1.1, e1.2]
  refine own_mv h2 (fun g hgv hl => ?_)
  have h3 := hC.off i hi g hgv
  have hl : g < w.heap.size := by simpa [World.setCell] using hl
  rw [hc g h3.1, hb g hl h3.2.2, Below.heap_setCell _ ⟨cb, 8, none⟩ _ _ h3.1]
 ·obtain ⟨kk, hkk, hm⟩ := h.ix
  exact ⟨kk, hkk, hm.move ((hc ib (Ne.symm h.ne.1)).trans (hb ib l2 h.ne.2.2))⟩
 ·refine ⟨n + 1, (k, v 4) :: m, by show n + 1 <= c.rt.length + 1; omega, ho'.move (hc rb (Ne.symm h.ne.2.1)), rfl, ⟨?_, ?_⟩, ?_⟩
  ·have h2 := h.own 4 (by decide)
   refine own_mv (show w.ownsRow lo 193 14 (v 4) c.st.length (flatP c.st) from h2) (fun g hgv hl => ?_)
   have h3 := h.off 4 (by decide) g hgv
   rw [hc g h3.1, hb g hl h3.2.2]
  ·intro g hgv hm
   have h3 := h.off 4 (by decide) g hgv
   rcases hm with hm | hm | hm | ⟨i, hi, hgi⟩
   ·exact h3.1 hm
   ·exact h3.2.1 hm
   ·exact h3.2.2 hm
   ·by_cases e : i = 4
    ·simp only [if_pos e] at hgi; simp [Value.ownBlock] at hgi
    ·simp only [if_neg e] at hgi; exact h.sep 4 i (by decide) hi (Ne.symm e) g hgv hgi
  ·refine RelM.mono (fun u st ⟨h3, h4⟩ => ⟨own_mv h3 (fun g hgu hl => ?_), fun g hgu hm => h4 g hgu (hM g hm)⟩) hr
   have h5 := h4 g hgu
   rw [hc g (fun e => h5 (Or.inl e)), hb g hl (fun e => h5 (Or.inr (Or.inr (Or.inl e))))]
 ·have := h.low; have := hg.size
  simp only [World.setCell, Array.size_modify]
  omega
end
def cc0 : Cc := ⟨[], [], [], [], 0, [], [], 0, [], []⟩
theorem prog7 (w : World) (n : Nat) (c : Array Value) (T : TypeId) (v0 v1 v2 v3 v4 v5 v6 : Value) (h : w.heap[n]? = some (.cells c T)) (hc : c.size = 7) :
  (((((((w.setCell ⟨n, 0, none⟩ v0).setCell ⟨n, 1, none⟩ v1).setCell ⟨n, 2, none⟩ v2).setCell ⟨n, 3, none⟩ v3).setCell ⟨n, 4, none⟩ v4).setCell ⟨n, 5, none⟩ v5).setCell ⟨n, 6, none⟩ v6).heap[n]? = some (.cells #[v0, v1, v2, v3, v4, v5, v6] T) := by
 have := setAll_heap n T [v0, v1, v2, v3, v4, v5, v6] w 0 c h hc
 simpa only [setAll, List.take_zero, List.nil_append, Nat.zero_add, Nat.reduceAdd] using this
theorem start_cw (w : World) : Cw ((((w.alloc (.cells #[nilV, nilV, nilV, nilV, nilV, .int .i64 0, .map none] 88)).alloc (.map #[] 0)).alloc (.cells #[nilV, nilV, nilV, nilV, nilV, .int .i64 0, .map (some (w.heap.size + 1 + 1 + 1)), .map (some (w.heap.size + 1)), nilV, .int .i64 0] 176)).alloc (.map #[] 0)) w.heap.size (w.heap.size + 1 + 1) (w.heap.size + 1) (w.heap.size + 1 + 1 + 1) (fun _ => nilV) cc0 := by
 have hn : ∀ g, (nilV).ownBlock ≠ some g := fun g hg => by simp [Value.ownBlock] at hg
 refine ⟨(Below.heap_alloc _ _ _ (by simp)).trans (heap_new (by simp)), fun i hi => ?_, fun i j _ _ _ g hg => absurd hg (hn g), fun i _ g hg => absurd hg (hn g), ⟨0, Nat.le_refl _, ?_⟩, ⟨0, [], Nat.le_refl _, ?_, trivial⟩, by omega, by simp; omega⟩
 ·have h5 : i = 0 \/ i = 1 \/ i = 2 \/ i = 3 \/ i = 4 \/ i = 5 := by omega
  rcases h5 with rfl | rfl | rfl | rfl | rfl | rfl <;> exact World.ownsRow_nil _ _ _ _
 ·have := MapR.made (w.alloc (.cells #[nilV, nilV, nilV, nilV, nilV, .int .i64 0, .map none] 88)) 3
  rw [show (w.alloc (.cells #[nilV, nilV, nilV, nilV, nilV, .int .i64 0, .map none] 88)).heap.size = w.heap.size + 1 by simp] at this
  exact this.move ((Below.heap_alloc _ _ _ (by simp)).trans (Below.heap_alloc _ _ _ (by simp)))
 ·have := MapV.made (((w.alloc (.cells #[nilV, nilV, nilV, nilV, nilV, .int .i64 0, .map none] 88)).alloc (.map #[] 0)).alloc (.cells #[nilV, nilV, nilV, nilV, nilV, .int .i64 0, .map (some (w.heap.size + 1 + 1 + 1)), .map (some (w.heap.size + 1)), nilV, .int .i64 0] 176))
  simpa using this
structure Pg (w : World) (lo rb : Nat) (v : Nat -> Value) (c : Cc) : Prop where
 own : ∀ i, i < 6 -> i ≠ 4 -> w.ownsRow lo (ety i) (esz i) (v i) (c.num i) (c.row i)
 ru : ∃ k m, k <= c.rt.length /\ MapV w rb k m /\ RelM (fun u (st : List Stp) => w.ownsRow lo 193 14 u st.length (flatP st)) m c.rt
 low : lo <= rb
theorem Pg.move {w w' : World} {lo rb : Nat} {v : Nat -> Value} {c : Cc} (h : Pg w lo rb v c) (hb : ∀ g, lo <= g -> g < w.heap.size -> w'.heap[g]? = w.heap[g]?) : Pg w' lo rb v c := by
 refine ⟨fun i hi h4 => own_mv (h.own i hi h4) (fun g hg hl => hb g ((h.own i hi h4).lt g hg).1 hl), ?_, h.low⟩
 obtain ⟨k, m, hk, h1, h2⟩ := h.ru
 exact ⟨k, m, hk, h1.move (hb rb h.low h1.lt), RelM.mono (fun u st h3 => own_mv h3 (fun g hg hl => hb g (h3.lt g hg).1 hl)) h2⟩
def OutQ (w : World) (c : Cc) (e : Ending) (w' : World) : Prop :=
 ∃ (v : Nat -> Value) (rb : Nat), e = .returned (.agg #[v 0, v 1, v 2, v 5, v 3, .int .i64 c.mf, .map (some rb)]) /\ Pg w' w.heap.size rb v c /\ Below w.heap.size w w'
theorem compile_any (HT : TestOk) (HP : PlainOk) {w : World} (n : Nat) (vd vr : Value) (ds : List Dc) (rows : List (Nat × NP × Value)) (rs : List (Nat × NP × BT 8))
  (hP : w.heap[n]? = some (.cells #[vd, vr] 114)) (hod : w.ownsRow (n + 1) 120 6 vd ds.length (flatD ds)) (hou : w.ownsRow (n + 1) 161 4 vr rows.length (flatU rows)) (hrel0 : RelU (SlR 8 w (fun g => n + 1 <= g)) rows rs)
  (hd7 : ∀ d ∈ ds, d.name.1.length <= 700) (hdw : ∀ d ∈ ds, d.word = [113, 117, 101, 117, 101] \/ d.word = [103, 104, 111, 115, 116] \/ d.word = [118, 97, 114] \/ d.word = [102, 114, 101, 113]) (hr7 : ∀ r ∈ rs, r.2.1.1.length <= 700 /\ smallB 8 r.2.2) (hrc : ∀ r ∈ rs, costB 8 r.2.2 <= 800000) (hdn : ds.length <= 900) (hrn : rs.length <= 900) :
  Calls Tryz.prog 44 #[ptr n] w (OutQ w (rs.foldl Cc.rul (ds.foldl Cc.dcl cc0))) := by
 have hmm := @run_makeMap Tryz.prog
 generalize hs : rs.foldl Cc.rul (ds.foldl Cc.dcl cc0) = c'
 have HS : Hid (c' = rs.foldl Cc.rul (ds.foldl Cc.dcl cc0)) := hs.symm
 clear hs
 have hnw : n < w.heap.size := (Array.getElem?_eq_some_iff.1 hP).1
 obtain ⟨da, dk, dc, rfl⟩ := ownsRow_form2 hod
 obtain ⟨ra, rk, rc, rfl⟩ := ownsRow_form2 hou
 have hdk : dk = ds.length := by
  rcases hod.2 with ⟨h1, h2⟩ | ⟨g, cap, cur, h1, _⟩
  ·simp at h1; omega
  ·simp at h1; exact h1.2.1
 have hrk : rk = rows.length := by
  rcases hou.2 with ⟨h1, h2⟩ | ⟨g, cap, cur, h1, _⟩
  ·simp at h1; omega
  ·simp at h1; exact h1.2.1
 subst hdk hrk
 go_enter Tryz.func44, Tryz.ntmps44
 go_upto_region 3 with fail
 have C4 := start_cw w
 have B4 : Below w.heap.size w ((((w.alloc (.cells #[nilV, nilV, nilV, nilV, nilV, .int .i64 0, .map none] 88)).alloc (.map #[] 0)).alloc (.cells #[nilV, nilV, nilV, nilV, nilV, .int .i64 0, .map (some (w.heap.size + 1 + 1 + 1)), .map (some (w.heap.size + 1)), nilV, .int .i64 0] 176)).alloc (.map #[] 0)) := ((((Below.refl _ w).alloc (Nat.le_refl _) _).alloc (by simp) _).alloc (by simp; omega) _).alloc (by simp; omega) _
 have r4 : ((((w.alloc (.cells #[nilV, nilV, nilV, nilV, nilV, .int .i64 0, .map none] 88)).alloc (.map #[] 0)).alloc (.cells #[nilV, nilV, nilV, nilV, nilV, .int .i64 0, .map (some (w.heap.size + 1 + 1 + 1)), .map (some (w.heap.size + 1)), nilV, .int .i64 0] 176)).alloc (.map #[] 0)).heap[w.heap.size]? = some (.cells #[nilV, nilV, nilV, nilV, nilV, .int .i64 0, .map none] 88) := (Below.heap_alloc _ _ _ (by simp; omega)).trans ((Below.heap_alloc _ _ _ (by simp; omega)).trans ((Below.heap_alloc _ _ _ (by simp)).trans (heap_new rfl)))
 generalize ((((w.alloc (.cells #[nilV, nilV, nilV, nilV, nilV, .int .i64 0, .map none] 88)).alloc (.map #[] 0)).alloc (.cells #[nilV, nilV, nilV, nilV, nilV, .int .i64 0, .map (some (w.heap.size + 1 + 1 + 1)), .map (some (w.heap.size + 1)), nilV, .int .i64 0] 176)).alloc (.map #[] 0)) = w4 at *
 have hm4 : ¬ Mine (w.heap.size + 1 + 1) (w.heap.size + 1) (w.heap.size + 1 + 1 + 1) (fun _ => nilV) w.heap.size := fun hm => by
  rcases hm with h | h | h | ⟨i, _, hg⟩
  ·omega
  ·omega
  ·omega
  ·simp [Value.ownBlock] at hg
 have hrl4 : w.heap.size < w4.heap.size := (Array.getElem?_eq_some_iff.1 r4).1
 have hib : w.heap.size + 1 < w4.heap.size := C4.lt.2.1
 have p4 : w4.heap[n]? = some (.cells #[.slice da ds.length dc, .slice ra rows.length rc] 114) := (B4.block n hnw).trans hP
 obtain ⟨q4, qf4⟩ := blk_cl p4
 have F4 := Fr.refl (w.heap.size + 1 + 1) (w.heap.size + 1) (w.heap.size + 1 + 1 + 1) (fun _ => nilV) w4
 generalize (fun (_ : Nat) => nilV) = v4 at *
 generalize w.heap.size + 1 + 1 + 1 = rb at *
 generalize w.heap.size + 1 + 1 = cb at *
 generalize w.heap.size + 1 = ib at *
 clear hib hmm
 go_wp2_with fail
 go_loopg [21] ds.length (fun f i wr => ∃ (k : Nat) (ck : Cc) (vk : Nat -> Value), k + f = ds.length /\ i = .int .i64 k /\ Cw wr w.heap.size cb ib rb vk ck /\ Below w.heap.size w wr /\ (wr.heap[w.heap.size]? = some (.cells #[nilV, nilV, nilV, nilV, nilV, .int .i64 0, .map none] 88) /\ ¬ Mine cb ib rb vk w.heap.size) /\ ck.upto k /\ Hid (ck.rt = [] /\ ck.lp = 0 /\ ck.st = []) /\ Hid (c' = rs.foldl Cc.rul ((ds.drop k).foldl Cc.dcl ck)))
 case atStart => exact ⟨0, cc0, v4, by omega, rfl, C4, B4, ⟨r4, hm4⟩, ⟨Nat.le_refl _, Nat.le_refl _, Nat.le_refl _, Nat.le_refl _, Nat.le_refl _, Nat.le_refl _⟩, ⟨rfl, rfl, rfl⟩, HS⟩
 case round =>
 obtain ⟨k, ck, vk, hk, rfl, h1, B1, ⟨r1, hm1⟩, hu1, HN1, HK⟩ := hrel
 clear C4 B4 r4 hm4 F4 hrl4 HS p4 q4 qf4
 by_cases hlt : k < ds.length
 ·obtain ⟨g, rfl⟩ : ∃ g, da = some ⟨g, 0, none⟩ := by
   rcases hod.2 with ⟨h1, h2⟩ | ⟨g, cap, cur, h1, _⟩
   ·omega
   ·simp at h1; exact ⟨g, h1.1⟩
  have hgl : g < w.heap.size := (hod.lt g rfl).2
  have hx : ds[k]? = some ds[k] := List.getElem?_eq_getElem hlt
  have hx7 := hd7 _ (List.getElem_mem hlt)
  have hxw := hdw _ (List.getElem_mem hlt)
  have hdr : ds.drop k = ds[k] :: ds.drop (k + 1) := List.drop_eq_getElem_cons hlt
  have HK2 : Hid (c' = rs.foldl Cc.rul ((ds.drop (k + 1)).foldl Cc.dcl (ck.dcl ds[k]))) := by show _ = _; rw [HK.out, hdr]; rfl
  have hix : ∀ W : World, (Instr.indexAt 111 (.slice (some ⟨g, 0, none⟩) ds.length dc) (.int .i64 k)).run Tryz.prog W = .ok (.pointer (some ⟨g, k * 6, none⟩)) W := by
   intro W
   rw [run_indexAt_slice (h := by kernel_rfl), if_pos (by omega)]
   have : (sizeOf (Tryz.prog.elem 111)).run Tryz.prog W = .ok 6 W := by kernel_rfl
   rw [this]
   simp [Result.andThen, Addr.add]
   omega
  have hown1 : wr.ownsRow (n + 1) 120 6 (.slice (some ⟨g, 0, none⟩) ds.length dc) ds.length (flatD ds) := own_mv hod (fun q hq hl => B1.block _ hl)
  have hrg : wr.rangeAt g (k * 6) (dcA ds[k]).toList := fun j u hu => by
   have hj : j < 6 := by have := (List.getElem?_eq_some_iff.1 hu).1; simpa using this
   rw [hown1.cellAt _ (by have : k + 1 <= ds.length := hlt; omega)]
   exact flat_at (fun d => (dcA d).toList) 6 (fun _ => rfl) ds k _ hx j u hu
  have hup := dcl_upto hu1 ds[k]
  clear hx hdr HK hown1
  generalize ds[k] = x at *
  have HU : Hid ((ck.dcl x).upto (k + 1) /\ (ck.dcl x).rt = [] /\ (ck.dcl x).lp = 0 /\ (ck.dcl x).st = []) := ⟨hup.1, hup.2.1.trans HN1.out.1, hup.2.2.1.trans HN1.out.2.1, hup.2.2.2.trans HN1.out.2.2⟩
  have hu29 : ck.upto 2900 := by obtain ⟨a, b, c, d, e, f⟩ := hu1; exact ⟨by omega, by omega, by omega, by omega, by omega, by omega⟩
  clear hup HN1
  go_upto_region 5 with fail
  refine wp_region_lit ?_
  iterate 3 go_step
  refine wpList_load_mid rfl 120 (.tmp 23) rfl g (k * 6) rfl (dcA x).toList _ hrg Tryz.underlying120 rfl (by kernel_rfl) ?_
  iterate 3 go_step
  refine store_in rfl 120 (.tmp 5) (.tmp 24) rfl (dcA x) rfl rfl (by kernel_rfl) rfl (by simp [Value.oneCell']) ?_
  intro w2 BB2 hb2 hz2
  have h2 := h1.grow BB2
  have r2 := (BB2.block _ (Array.getElem?_eq_some_iff.1 r1).1).trans r1
  have HX := mdecl_any h2 x hxw hx7 hu29
  have hz1 := B1.size
  go_upto_region 6 with fail
  refine wp_region_lit ?_
  iterate 3 go_step
  refine wpList_load_row rfl 120 (.tmp 5) rfl wr.heap.size rfl 120 _ _ _ hb2 Tryz.underlying120 rfl (by kernel_rfl) ?_
  go_wp2_with fail
  refine HX.mono ?_
  rintro e w3 ⟨rfl, v3, h3, F3⟩
  have hw2 : w.heap.size < w2.heap.size := (Array.getElem?_eq_some_iff.1 r2).1
  have hm3 : ¬ Mine cb ib rb v3 w.heap.size := fun hm => by
   rcases F3.new _ hm with h | h
   ·exact hm1 h
   ·omega
  go_wp2_with fail
  go_roundg (gk - 1)
  case measure => omega
  case rel => exact ⟨k + 1, ck.dcl x, v3, by omega, by simp, h3, (B1.trans (BB2.mono hz1)).trans (F3.low h2), ⟨F3.at' r2 hm1, hm3⟩, HU.out.1, HU.out.2, HK2⟩
 ·have e0 : ds.drop k = [] := List.drop_eq_nil_iff.2 (by omega)
  have HK : Hid (c' = rs.foldl Cc.rul ck) := by show _ = _; rw [HK.out, e0]; rfl
  clear e0 hod hd7 hdw
  have hlen : Hid (rows.length = rs.length) := RelU.len _ _ hrel0
  have p1 : wr.heap[n]? = some (.cells #[.slice da ds.length dc, .slice ra rows.length rc] 114) := (B1.block n hnw).trans hP
  obtain ⟨q1, qf1⟩ := blk_cl p1
  go_wp2_with fail
  go_loopg [34] rows.length (fun f i wr => ∃ (k : Nat) (ck : Cc) (vk : Nat -> Value), k + f = rows.length /\ i = .int .i64 k /\ CwX wr w.heap.size cb ib rb vk ck /\ Below w.heap.size w wr /\ (wr.heap[w.heap.size]? = some (.cells #[nilV, nilV, nilV, nilV, nilV, .int .i64 0, .map none] 88) /\ ¬ Mine cb ib rb vk w.heap.size) /\ Hid (ck.rt.length = k /\ ck.lp = 0) /\ Hid (c' = (rs.drop k).foldl Cc.rul ck))
  case atStart => exact ⟨0, ck, _, by omega, rfl, CwX.of h1 HN1.out.2.2, B1, ⟨r1, fun hm => hm1 (mine_nil hm)⟩, ⟨by rw [HN1.out.1]; rfl, HN1.out.2.1⟩, HK⟩
  case round =>
  obtain ⟨k2, ck2, vk2, hk2, rfl, h5, B5, ⟨r5, hm5⟩, HN5, HK5⟩ := hrel
  clear h1 B1 r1 hm1 hu1 HN1 HK p1 q1 qf1
  by_cases hlt2 : k2 < rows.length
  ·obtain ⟨p, nm, y, x, s1, s2, s3, s4⟩ := RelU.at _ _ hrel0 k2 hlt2
   obtain ⟨y1, y2, y3, rfl⟩ := SlR.form 8 _ _ s4
   have s5 : SlR 8 wr (fun g => g < w.heap.size) (.slice y1 y2 y3) x := SlR.move 8 (fun g hg _ => B5.block g hg) _ _ (SlR.mono 8 (fun g hg => hg.2) _ _ (SlR.there 8 _ _ s4))
   obtain ⟨m1, m2⟩ := hr7 _ s2
   have m3 := hrc _ s2
   have m1 : nm.1.length <= 700 := m1
   have m2 : smallB 8 x := m2
   have m3 : costB 8 x <= 800000 := m3
   obtain ⟨g, rfl⟩ : ∃ g, ra = some ⟨g, 0, none⟩ := by
    rcases hou.2 with ⟨h1, h2⟩ | ⟨g, cap, cur, h1, _⟩
    ·omega
    ·simp at h1; exact ⟨g, h1.1⟩
   have hgl : g < w.heap.size := (hou.lt g rfl).2
   have hix : ∀ W : World, (Instr.indexAt 112 (.slice (some ⟨g, 0, none⟩) rows.length rc) (.int .i64 k2)).run Tryz.prog W = .ok (.pointer (some ⟨g, k2 * 4, none⟩)) W := by
    intro W
    rw [run_indexAt_slice (h := by kernel_rfl), if_pos (by omega)]
    have : (sizeOf (Tryz.prog.elem 112)).run Tryz.prog W = .ok 4 W := by kernel_rfl
    rw [this]
    simp [Result.andThen, Addr.add]
    omega
   have hown1 : wr.ownsRow (n + 1) 161 4 (.slice (some ⟨g, 0, none⟩) rows.length rc) rows.length (flatU rows) := own_mv hou (fun q hq hl => B5.block _ hl)
   have hrg : wr.rangeAt g (k2 * 4) (ruA p nm (.slice y1 y2 y3)).toList := fun j u hu => by
    have hj : j < 4 := by have := (List.getElem?_eq_some_iff.1 hu).1; simpa using this
    rw [hown1.cellAt _ (by have : k2 + 1 <= rows.length := hlt2; omega)]
    exact flat_at (fun r : Nat × NP × Value => (ruA r.1 r.2.1 r.2.2).toList) 4 (fun _ => rfl) rows k2 _ s1 j u hu
   have HK6 : Hid (c' = (rs.drop (k2 + 1)).foldl Cc.rul ((ck2.blk 8 x).more nm.1).nost) := by show _ = _; rw [HK5.out, s3]; rfl
   have hrn2 : rows.length <= 900 := by have := hlen.out; omega
   have hbn := blk_nr 8 ck2 x
   have hbl := blk_len 8 ck2 x
   have HN6 : Hid (((ck2.blk 8 x).more nm.1).nost.rt.length = k2 + 1 /\ ((ck2.blk 8 x).more nm.1).nost.lp = 0) := ⟨by show (ck2.blk 8 x).rt.length + 1 = k2 + 1; rw [hbn.1, HN5.out.1], by show (ck2.blk 8 x).lp = 0; rw [hbl.2.2]; exact HN5.out.2⟩
   have hnr6 : (ck2.blk 8 x).rt.length <= 1000 := by rw [hbn.1, HN5.out.1]; omega
   have hz5 := B5.size
   clear hbn hbl s1 s2 s3 s4 HK5 hown1
   go_upto_region 10 with fail
   refine wp_region_lit ?_
   iterate 3 go_step
   refine wpList_load_mid rfl 161 (.tmp 36) rfl g (k2 * 4) rfl (ruA p nm (.slice y1 y2 y3)).toList _ hrg Tryz.underlying161 rfl (by kernel_rfl) ?_
   iterate 3 go_step
   refine store_in rfl 161 (.tmp 7) (.tmp 37) rfl (ruA p nm (.slice y1 y2 y3)) rfl rfl (by kernel_rfl) rfl (by simp [Value.oneCell']) ?_
   intro w2 BB2 hb2 hz2
   have h6 := h5.grow BB2
   have r6 := (BB2.block _ (Array.getElem?_eq_some_iff.1 r5).1).trans r5
   have s6 : SlR 8 w2 (fun g => g < w.heap.size) (.slice y1 y2 y3) x := SlR.move 8 (fun g hg _ => BB2.block g (by omega)) _ _ s5
   have B6 := B5.trans (BB2.mono hz5)
   have hmb : ¬ Mine cb ib rb vk2 wr.heap.size := fun hm => by have := (h5.mine_lt hm).2; omega
   obtain ⟨⟨a0, n0, k0, h6a⟩, h6s, h7⟩ := h6
   have hb7 : ∀ g, g ≠ cb -> (w2.setCell ⟨cb, 8, none⟩ nilV).heap[g]? = w2.heap[g]? := fun g hg => Below.heap_setCell _ _ _ _ hg
   have b7 := (hb7 _ (fun e => hmb (Or.inl e))).trans hb2
   have hm7 := hm5
   have r7 := (hb7 _ (fun e => hm5 (Or.inl e))).trans r6
   have hlc := (h5.mine_lt (Or.inl rfl : Mine cb ib rb vk2 cb)).1
   have s7 : SlR 8 (w2.setCell ⟨cb, 8, none⟩ nilV) (fun g => g < w.heap.size) (.slice y1 y2 y3) x := SlR.move 8 (fun g hg _ => hb7 g (by omega)) _ _ s6
   have hmb7 := hmb
   have B7 : Below w.heap.size w (w2.setCell ⟨cb, 8, none⟩ nilV) := B6.setCell (p := ⟨cb, 8, none⟩) hlc _
   have HX := mblk_all HT HP 8 _ w.heap.size cb ib rb _ ck2 (.slice y1 y2 y3) x h7 s7 m2 (by rw [h6s]; show 0 + costB 8 x <= 900000; omega) (by show ck2.lp + 8 <= 100; rw [HN5.out.2]; omega)
   obtain ⟨a6, af6⟩ := blk_cl h6a
   obtain ⟨a7, af7⟩ := blk_cl b7
   generalize ck2.blk 8 x = c8 at *
   clear HN5
   go_wp2_with fail
   generalize w2.setCell ⟨cb, 8, none⟩ nilV = w7 at *
   refine HX.mono ?_
   rintro e w8 ⟨rfl, v8, h8, F8⟩
   have b8 := F8.at' b7 hmb7
   have r8 := F8.at' r7 hm7
   have hm8 : ¬ Mine cb ib rb v8 w.heap.size := fun hm => by
    rcases F8.new _ hm with h | h
    ·exact hm7 h
    ·have := (Array.getElem?_eq_some_iff.1 r7).1
     omega
   obtain ⟨va, vc, hv⟩ := h8.form 4 (by decide)
   obtain ⟨w9, hrun, h9, F9⟩ := h8.drew.rule nm.1 m1 hnr6
   rw [hv] at hrun
   have e8 := h8.at'
   rw [hv] at e8
   obtain ⟨a8, af8⟩ := blk_cl e8
   obtain ⟨d8, df8⟩ := blk_cl b8
   have F89 : Fr cb ib rb v8 (fun j => if j = 4 then nilV else v8 j) w8 w9 := Fr.trans (y := w8.drew) ⟨rfl, rfl, rfl, Nat.le_refl _, fun _ _ _ => rfl, fun _ h => Or.inl h⟩ F9
   have B9 := (B7.trans (F8.low h7)).trans (F89.low h8)
   have r9 := F89.at' r8 hm8
   clear HX a6 af6 a7 af7 h6a F8 F9 h7
   go_wp2_with fail
   go_region
   all_goals
    go_wp2_with fail
    go_roundg (gk - 1)
    case measure => omega
    case rel => exact ⟨k2 + 1, _, _, by omega, by simp, h9, B9, ⟨r9, fun hm => hm8 (mine_nil hm)⟩, HN6, HK6⟩
  ·have e0 : rs.drop k2 = [] := List.drop_eq_nil_iff.2 (by have := hlen.out; omega)
   have e1 : c' = ck2 := by rw [HK5.out, e0]; rfl
   subst e1
   obtain ⟨⟨ax, nx, kx, h5a⟩, h5s, h5c⟩ := h5
   obtain ⟨a5, af5⟩ := blk_cl h5a
   obtain ⟨d5, df5⟩ := blk_cl r5
   have hcb : w.heap.size ≠ cb := fun e => hm5 (Or.inl e)
   have hb : ∀ g, g ≠ w.heap.size -> (((((((wr.setCell ⟨w.heap.size, 0, none⟩ (vk2 0)).setCell ⟨w.heap.size, 1, none⟩ (vk2 1)).setCell ⟨w.heap.size, 2, none⟩ (vk2 2)).setCell ⟨w.heap.size, 3, none⟩ (vk2 5)).setCell ⟨w.heap.size, 4, none⟩ (vk2 3)).setCell ⟨w.heap.size, 5, none⟩ (.int .i64 c'.mf)).setCell ⟨w.heap.size, 6, none⟩ (.map (some rb))).heap[g]? = wr.heap[g]? := fun g hg => by
    rw [Below.heap_setCell _ _ _ _ hg, Below.heap_setCell _ _ _ _ hg, Below.heap_setCell _ _ _ _ hg, Below.heap_setCell _ _ _ _ hg, Below.heap_setCell _ _ _ _ hg, Below.heap_setCell _ _ _ _ hg, Below.heap_setCell _ _ _ _ hg]
   have hb2 : ∀ g, g ≠ w.heap.size -> g ≠ cb -> (((((((wr.setCell ⟨w.heap.size, 0, none⟩ (vk2 0)).setCell ⟨w.heap.size, 1, none⟩ (vk2 1)).setCell ⟨w.heap.size, 2, none⟩ (vk2 2)).setCell ⟨w.heap.size, 3, none⟩ (vk2 5)).setCell ⟨w.heap.size, 4, none⟩ (vk2 3)).setCell ⟨w.heap.size, 5, none⟩ (.int .i64 c'.mf)).setCell ⟨w.heap.size, 6, none⟩ (.map (some rb))).heap[g]? = (wr.setCell ⟨cb, 8, none⟩ nilV).heap[g]? := fun g hg hc => (hb g hg).trans (Below.heap_setCell _ ⟨cb, 8, none⟩ _ _ hc).symm
   have HO : Hid (Pg (((((((wr.setCell ⟨w.heap.size, 0, none⟩ (vk2 0)).setCell ⟨w.heap.size, 1, none⟩ (vk2 1)).setCell ⟨w.heap.size, 2, none⟩ (vk2 2)).setCell ⟨w.heap.size, 3, none⟩ (vk2 5)).setCell ⟨w.heap.size, 4, none⟩ (vk2 3)).setCell ⟨w.heap.size, 5, none⟩ (.int .i64 c'.mf)).setCell ⟨w.heap.size, 6, none⟩ (.map (some rb))) w.heap.size rb vk2 c') := by
    refine ⟨fun i hi _ => own_mv (h5c.own i hi) (fun g hg _ => hb2 g (fun e => hm5 (Or.inr (Or.inr (Or.inr ⟨i, hi, by rw [<- e]; exact hg⟩)))) (h5c.off i hi g hg).1), ?_, h5c.low.2.2.1⟩
    obtain ⟨k, m, q1, q2, q3⟩ := h5c.ru
    refine ⟨k, m, q1, q2.move (hb2 rb (fun e => hm5 (Or.inr (Or.inr (Or.inl e.symm)))) (Ne.symm h5c.ne.2.1)), RelM.mono (fun u st ⟨q4, q5⟩ => own_mv q4 (fun g hg hl => hb2 g (fun e => ?_) (fun e => q5 g hg (Or.inl e)))) q3⟩
    subst e
    rcases q4.2 with ⟨e1, _⟩ | ⟨g', cap, cur, e1, _, e3, _⟩
    ·rw [e1] at hg; simp [Value.ownBlock] at hg
    ·have e4 : g' = w.heap.size := by rw [e1] at hg; simpa [Value.ownBlock] using hg
     rw [e4, Below.heap_setCell _ ⟨cb, 8, none⟩ _ _ hcb, r5] at e3
     simp at e3
   have HBB : Below w.heap.size w (((((((wr.setCell ⟨w.heap.size, 0, none⟩ (vk2 0)).setCell ⟨w.heap.size, 1, none⟩ (vk2 1)).setCell ⟨w.heap.size, 2, none⟩ (vk2 2)).setCell ⟨w.heap.size, 3, none⟩ (vk2 5)).setCell ⟨w.heap.size, 4, none⟩ (vk2 3)).setCell ⟨w.heap.size, 5, none⟩ (.int .i64 c'.mf)).setCell ⟨w.heap.size, 6, none⟩ (.map (some rb))) := ((((((B5.setCell (p := ⟨w.heap.size, 0, none⟩) (Nat.le_refl _) _).setCell (p := ⟨w.heap.size, 1, none⟩) (Nat.le_refl _) _).setCell (p := ⟨w.heap.size, 2, none⟩) (Nat.le_refl _) _).setCell (p := ⟨w.heap.size, 3, none⟩) (Nat.le_refl _) _).setCell (p := ⟨w.heap.size, 4, none⟩) (Nat.le_refl _) _).setCell (p := ⟨w.heap.size, 5, none⟩) (Nat.le_refl _) _).setCell (p := ⟨w.heap.size, 6, none⟩) (Nat.le_refl _) _
   obtain ⟨x0, y0, f0⟩ := h5c.form 0 (by decide)
   obtain ⟨x1, y1, f1⟩ := h5c.form 1 (by decide)
   obtain ⟨x2, y2, f2⟩ := h5c.form 2 (by decide)
   obtain ⟨x3, y3, f3⟩ := h5c.form 3 (by decide)
   obtain ⟨x4, y4, f4⟩ := h5c.form 5 (by decide)
   have hp6 := prog7 wr w.heap.size _ 88 (vk2 0) (vk2 1) (vk2 2) (vk2 5) (vk2 3) (.int .i64 c'.mf) (.map (some rb)) r5 rfl
   clear hb hb2 e0 HK5 HN5 h5c h5a r5 hm5
   have HV : Hid (OutQ w c' (.returned (.agg #[vk2 0, vk2 1, vk2 2, vk2 5, vk2 3, .int .i64 c'.mf, .map (some rb)])) (((((((wr.setCell ⟨w.heap.size, 0, none⟩ (vk2 0)).setCell ⟨w.heap.size, 1, none⟩ (vk2 1)).setCell ⟨w.heap.size, 2, none⟩ (vk2 2)).setCell ⟨w.heap.size, 3, none⟩ (vk2 5)).setCell ⟨w.heap.size, 4, none⟩ (vk2 3)).setCell ⟨w.heap.size, 5, none⟩ (.int .i64 c'.mf)).setCell ⟨w.heap.size, 6, none⟩ (.map (some rb)))) := ⟨vk2, rb, rfl, HO.out, HBB⟩
   rw [f0, f1, f2, f3, f4] at HV hp6
   rw [f0, f1, f2, f3, f4] at a5
   clear HO HBB f0 f1 f2 f3 f4
   go_wp2_with fail
   exact bodyPost_cell Tryz.results44 w.heap.size _ _ _ rfl rfl hp6 Tryz.underlying88 rfl (by kernel_rfl) HV.out
end Go.Proofs.YtfddoieakfpagabGreatDoor
