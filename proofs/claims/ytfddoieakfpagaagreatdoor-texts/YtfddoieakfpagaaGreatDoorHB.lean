import Derived.Deep.DeepCutAuto
import Derived.Test.YtfddoieakfpagaaGreatDoorHA
import Derived.Test.YtfddoieakfpagaaGreatDoorGC
namespace Go.Proofs.YtfddoieakfpagaaGreatDoor
set_option maxHeartbeats 400000000
set_option maxRecDepth 20000
open Go.RowKit
theorem D9 : (Tryz.prog.info? 9).map (fun i => (i.zero, i.size, i.bytes)) = some (some (S []), 1, 16) := by kernel_rfl
theorem aCg : (Tryz.prog.info? 4).map (fun i => (i.zero, i.size, i.bytes)) = some (some (.bool false), 1, 1) := by kernel_rfl
theorem yG : (Tryz.prog.info? 3).map (fun i => (i.zero, i.size, i.bytes)) = some (some (.int .i64 0), 1, 8) := by kernel_rfl
section
variable {w : World} {lo cb ib rb : Nat} {v : Nat -> Value} {c : Cc}
def D5 (w : World) (lo cb ib rb : Nat) (v : Nat -> Value) (d : Dc) (c : Cc) (wx : World) : Prop :=
 ∃ v', Cw wx lo cb ib rb v' c /\ Fr cb ib rb v v' w wx /\ wx.heap[w.heap.size]? = some (.cells (eG d) 153) /\ ¬ Mine cb ib rb v' w.heap.size
theorem Cw.name {w' : World} (h : Cw w lo cb ib rb v c) (n : List UInt8) (q k : Nat) (hk : k <= c.ix.length + 1) (hg : w.grownBy w' (some ib)) (hm : mD w' 3 ib k ((n, q) :: c.ix)) :
  Cw w' lo cb ib rb v { c with ix := (n, q) :: c.ix } /\ Fr cb ib rb v v w w' := by
 obtain ⟨l1, l2, l3⟩ := h.lt
 have hb : ∀ k, k < w.heap.size -> k ≠ ib -> w'.heap[k]? = w.heap[k]? := fun k hk hne => hg.block k hk (fun e => hne (by simpa using e))
 refine ⟨⟨(hb cb l1 h.ne.1).trans h.at', fun i hi => aW (h.own i hi) (fun g hgv hl => hb g hl (h.off i hi g hgv).2.1), h.sep, h.off, ⟨k, by simpa using hk, hm⟩, ?_, h.ne, ?_⟩, ⟨hg.os, hg.tape, hg.output, hg.size, fun k hk hmi => hb k hk (fun e => hmi (Or.inr (Or.inl e))), fun k hk => Or.inl hk⟩⟩
 ·exact h.ru.mv (hb rb l3 (Ne.symm h.ne.2.2)) (fun k hk hmi => hb k hk (fun e => hmi (Or.inr (Or.inl e)))) (fun _ _ h => h)
 ·have := h.low; have := hg.size; omega
theorem Cw.own4 (_h : Cw w lo cb ib rb v c) (o : Nat) (u : Value) : Fr cb ib rb v v w (w.setCell ⟨cb, o, none⟩ u) :=
 ⟨rfl, rfl, rfl, by simp [World.setCell], fun k hk hm => zS _ _ _ _ (fun e => hm (Or.inl e)), fun k hk => Or.inl hk⟩
theorem Cw.plain (h : Cw w lo cb ib rb v c) (o : Nat) (u : Value) (c' : Cc) (hc : ∀ i, i < 6 -> c'.num i = c.num i /\ c'.row i = c.row i) (hix : c'.ix = c.ix) (hnr : c'.rt = c.rt)
  (ha : (#[v 0, v 1, v 2, v 5, v 3, .int .i64 c.mf, .map (some rb), .map (some ib), v 4, .int .i64 c.lp] : Array Value).setIfInBounds o u = #[v 0, v 1, v 2, v 5, v 3, .int .i64 c'.mf, .map (some rb), .map (some ib), v 4, .int .i64 c'.lp]) :
  Cw (w.setCell ⟨cb, o, none⟩ u) lo cb ib rb v c' := by
 have hb : ∀ k, k ≠ cb -> (w.setCell ⟨cb, o, none⟩ u).heap[k]? = w.heap[k]? := fun k hk => zS _ _ _ _ hk
 refine ⟨by rw [<- ha]; exact zC _ _ _ _ _ _ h.at', fun i hi => ?_, h.sep, h.off, ?_, ?_, h.ne, ?_⟩
 ·obtain ⟨e1, e2⟩ := hc i hi
  rw [e1, e2]
  exact aW (h.own i hi) (fun g hg _ => hb g (h.off i hi g hg).1)
 ·obtain ⟨k, hk, hm⟩ := h.ix
  exact ⟨k, by rw [hix]; exact hk, by rw [hix]; exact hm.move (hb ib (Ne.symm h.ne.1))⟩
 ·rw [hnr]
  exact h.ru.mv (hb rb (Ne.symm h.ne.2.1)) (fun k _ hm => hb k (fun e => hm (Or.inl e))) (fun _ _ h => h)
 ·have := h.low
  simp only [World.setCell, Array.size_modify]
  exact this
theorem Cw.aRw (h : Cw w lo cb ib rb v c) (m : Nat) : Cw (w.setCell ⟨cb, 5, none⟩ (.int .i64 m)) lo cb ib rb v { c with mf := m } := h.plain 5 _ _ (fun _i _ => ⟨rfl, rfl⟩) rfl rfl rfl
theorem Cw.aO1 (h : Cw w lo cb ib rb v c) (m : Nat) : Cw (w.setCell ⟨cb, 9, none⟩ (.int .i64 m)) lo cb ib rb v { c with lp := m } := h.plain 9 _ _ (fun _i _ => ⟨rfl, rfl⟩) rfl rfl rfl
theorem D5.start (h : Cw w lo cb ib rb v c) (d : Dc) : D5 w lo cb ib rb v d c (w.alloc (.cells (eG d) 153)) :=
 ⟨v, h.alloc _, Fr.of cb ib rb v ((Below.refl _ w).alloc zR _), aC rfl, fun hm => by have := (h.jR hm).2; omega⟩
theorem aB7 (h : Cw w lo cb ib rb v c) (dp : Nat) (dn : List UInt8) (dq dm dr : Nat) (hdn : dn.length <= 700) (aKv : c.ix.length <= 2900) (h0 : c.ev.length <= 2900 /\ c.gh.length <= 2900 /\ c.ro.length <= 2900 /\ c.mo.length <= 2900 /\ c.vn.length <= 2900) :
  Calls Tryz.prog 108 #[ptr cb, .agg (eG ⟨[113, 117, 101, 117, 101], dp, (dn, dq), (dm, dr)⟩)] w (sD w lo cb ib rb v (.tuple #[]) ({ c with ix := (dn, c.ro.length) :: c.ix, ev := c.ev ++ [dn], gh := c.gh ++ [false], ro := c.ro ++ [dm] })) := by
 obtain ⟨l0, l1, l2, l3, l4⟩ := h0
 have hd := D5.start h ⟨[113, 117, 101, 117, 101], dp, (dn, dq), (dm, dr)⟩
 go_enter Tryz.func108, Tryz.ntmps108
 go_upto_region 5 with fail
 generalize w.alloc (.cells (eG ⟨[113, 117, 101, 117, 101], dp, (dn, dq), (dm, dr)⟩) 153) = wc at *
 go_cut [] (fun wx => D5 w lo cb ib rb v ⟨[113, 117, 101, 117, 101], dp, (dn, dq), (dm, dr)⟩ ({ c with ix := (dn, c.ro.length) :: c.ix }) wx)
 case first =>
  obtain ⟨v1, C1, F1, b1, hm1⟩ := hd
  obtain ⟨va, vc, hv⟩ := C1.form 2 (by decide)
  have hv : v1 2 = .slice va c.ro.length vc := hv
  obtain ⟨k0, hk0, hmap⟩ := C1.drew.ix
  have hk1 : k0 <= 2900 := by have := aKv; omega
  obtain ⟨w2, hput, hm2, hgr, hsz⟩ := hmap.put u81 u3 (by omega) dn hdn c.ro.length (by omega)
  have hk2 : (if (look dn (c).ix).isSome = true then k0 else k0 + 1) <= (c).ix.length + 1 := by split <;> omega
  obtain ⟨C2, F2⟩ := C1.drew.name dn c.ro.length _ hk2 hgr hm2
  have e1 := C1.at'
  rw [hv] at e1
  obtain ⟨c1, cf1⟩ := aA e1
  obtain ⟨c2, tC⟩ := aA b1
  have F0 : Fr cb ib rb v1 v1 wc wc.drew := ⟨rfl, rfl, rfl, zR, fun _ _ _ => rfl, fun _ h => Or.inl h⟩
  have F3 := F1.trans (F0.trans F2)
  have b3 := F2.at' (w := wc.drew) b1 hm1
  clear hmap hm2 hgr hsz C1 F1 F0 F2
  go_region
  all_goals
   go_wp2_with fail
   go_meet
   exact ⟨v1, C2, F3, b3, hm1⟩
 case rest =>
 have hd := hcut
 clear hcut
 go_upto_region 6 with fail
 go_cut [] (fun wx => D5 w lo cb ib rb v ⟨[113, 117, 101, 117, 101], dp, (dn, dq), (dm, dr)⟩ ({ c with ix := (dn, c.ro.length) :: c.ix, ev := c.ev ++ [dn] }) wx)
 case first =>
  obtain ⟨v1, C1, F1, b1, hm1⟩ := hd
  obtain ⟨va, vc, hv⟩ := C1.form 0 (by decide)
  have hv : v1 0 = .slice va c.ev.length vc := hv
  have H2 := (C1.alloc (.cells #[S dn] 9)).drew
  have B2 : Below wc.heap.size wc (wc.alloc (.cells #[S dn] 9)).drew := mO ((Below.refl _ wc).alloc zR _)
  have hl2 : lo <= (wc.alloc (.cells #[S dn] 9)).drew.heap.size := H2.low.2.2.2
  have hrow : (wc.alloc (.cells #[S dn] 9)).drew.ownsRow lo 9 1 (.slice va c.ev.length vc) c.ev.length (c.ev.map S) := by rw [<- hv]; exact H2.own 0 (by decide)
  have e1 := C1.at'
  have e2 := H2.at'
  rw [hv] at e1 e2
  obtain ⟨c1, cf1⟩ := aA e1
  obtain ⟨c2, tC⟩ := aA b1
  obtain ⟨c3, cf3⟩ := aA e2
  have hbx : w.heap.size < wc.heap.size := (zL b1)
  have b2 : (wc.alloc (.cells #[S dn] 9)).drew.heap[w.heap.size]? = some (.cells (eG ⟨[113, 117, 101, 117, 101], dp, (dn, dq), (dm, dr)⟩) 153) := (zM _ _ _ hbx).trans b1
  obtain ⟨c4, cf4⟩ := aA b2
  obtain ⟨i0, hi, hz0, hz1, hz2⟩ := info_parts D9
  have hbd : c.ev.length + 1 <= maxLen := by simp only [maxLen]; omega
  have hby : (c.ev.length + 1) * 16 <= 140737488355328 := by omega
  have hrw := fun j u hu => dY wc #[S dn] 9 j u hu
  have lT := fun (u : Value) (w' : World) => Cw.put (c' := { c with ix := (dn, c.ro.length) :: c.ix, ev := c.ev ++ [dn] }) (w' := w') H2 0 (by decide) u
  have hbl : w.heap.size < (wc.alloc (.cells #[S dn] 9)).drew.heap.size := (zL b2)
  have hoff : some cb ≠ (Value.slice va c.ev.length vc).ownBlock := fun e => by rw [<- hv] at e; exact (C1.off 0 (by decide) cb e.symm).1 rfl
  go_region_law (refine bT rfl (.tmp 29) (.tmp 33) 120 rfl lo 9 i0 (S []) 1 16 Tryz.underlying120 hi hz0 hz1 hz2 rfl (by decide) (.slice va c.ev.length vc) c.ev.length (c.ev.map S) (by simp [Act.eval]) hrow ⟨wc.heap.size, 0, none⟩ 1 1 [S dn] (by simp [Act.eval]) rfl hrw (fun u hu => by simp at hu; subst hu; rfl) hbd hby hl2 ?_; intro v' w6 hown6 hgrow hat; have vZ := (hgrow.block cb (zL e2) hoff).trans e2; obtain ⟨ya, yk, yc, rfl⟩ := aU hown6; obtain ⟨cq, cqf⟩ := aA vZ)
  all_goals
   have hyk : yk = c.ev.length + 1 := by
    rcases hown6.2 with ⟨h1, h2⟩ | ⟨g, cap, cur, h1, _⟩
    ·simp at h1; omega
    ·simp at h1; exact h1.2.1
   subst hyk
   obtain ⟨C7, F7⟩ := lT (.slice ya (c.ev.length + 1) yc) w6 (by rw [hv]; exact hgrow) (by rw [hv]; exact hat) (by simpa [Cc.num, Cc.row, ety, esz] using hown6) (fun j hj hne => by
    have h5 : j = 0 \/ j = 1 \/ j = 2 \/ j = 3 \/ j = 4 \/ j = 5 := by omega
    rcases h5 with rfl | rfl | rfl | rfl | rfl | rfl <;> first | exact ⟨rfl, rfl⟩ | exact absurd rfl hne) rfl rfl rfl rfl 0 rfl
   have hnm : ¬ Mine cb ib rb (fun j => if j = 0 then (Value.slice ya (c.ev.length + 1) yc) else v1 j) w.heap.size := fun hm => by
    rcases F7.new _ hm with h3 | h3
    ·exact hm1 h3
    ·omega
   clear lT
   go_wp2_with fail
   go_meet
   exact ⟨_, C7, F1.trans ((Fr.of cb ib rb v1 B2).trans F7), F7.at' b2 hm1, hnm⟩
 case rest =>
 have hd := hcut
 clear hcut
 go_upto_region 7 with fail
 go_cut [] (fun wx => D5 w lo cb ib rb v ⟨[113, 117, 101, 117, 101], dp, (dn, dq), (dm, dr)⟩ ({ c with ix := (dn, c.ro.length) :: c.ix, ev := c.ev ++ [dn], gh := c.gh ++ [false] }) wx)
 case first =>
  obtain ⟨v1, C1, F1, b1, hm1⟩ := hd
  obtain ⟨va, vc, hv⟩ := C1.form 1 (by decide)
  have hv : v1 1 = .slice va c.gh.length vc := hv
  have H2 := (C1.alloc (.cells #[.bool false] 4)).drew
  have B2 : Below wc.heap.size wc (wc.alloc (.cells #[.bool false] 4)).drew := mO ((Below.refl _ wc).alloc zR _)
  have hl2 : lo <= (wc.alloc (.cells #[.bool false] 4)).drew.heap.size := H2.low.2.2.2
  have hrow : (wc.alloc (.cells #[.bool false] 4)).drew.ownsRow lo 4 1 (.slice va c.gh.length vc) c.gh.length (c.gh.map Value.bool) := by rw [<- hv]; exact H2.own 1 (by decide)
  have e1 := C1.at'
  have e2 := H2.at'
  rw [hv] at e1 e2
  obtain ⟨c1, cf1⟩ := aA e1
  obtain ⟨c2, tC⟩ := aA b1
  obtain ⟨c3, cf3⟩ := aA e2
  have hbx : w.heap.size < wc.heap.size := (zL b1)
  have b2 : (wc.alloc (.cells #[.bool false] 4)).drew.heap[w.heap.size]? = some (.cells (eG ⟨[113, 117, 101, 117, 101], dp, (dn, dq), (dm, dr)⟩) 153) := (zM _ _ _ hbx).trans b1
  obtain ⟨c4, cf4⟩ := aA b2
  obtain ⟨i0, hi, hz0, hz1, hz2⟩ := info_parts aCg
  have hbd : c.gh.length + 1 <= maxLen := by simp only [maxLen]; omega
  have hby : (c.gh.length + 1) * 1 <= 140737488355328 := by omega
  have hrw := fun j u hu => dY wc #[.bool false] 4 j u hu
  have lT := fun (u : Value) (w' : World) => Cw.put (c' := { c with ix := (dn, c.ro.length) :: c.ix, ev := c.ev ++ [dn], gh := c.gh ++ [false] }) (w' := w') H2 1 (by decide) u
  have hbl : w.heap.size < (wc.alloc (.cells #[.bool false] 4)).drew.heap.size := (zL b2)
  have hoff : some cb ≠ (Value.slice va c.gh.length vc).ownBlock := fun e => by rw [<- hv] at e; exact (C1.off 1 (by decide) cb e.symm).1 rfl
  go_region_law (refine bT rfl (.tmp 41) (.tmp 45) 79 rfl lo 4 i0 (.bool false) 1 1 Tryz.underlying79 hi hz0 hz1 hz2 rfl (by decide) (.slice va c.gh.length vc) c.gh.length (c.gh.map Value.bool) (by simp [Act.eval]) hrow ⟨wc.heap.size, 0, none⟩ 1 1 [.bool false] (by simp [Act.eval]) rfl hrw (fun u hu => by simp at hu; subst hu; rfl) hbd hby hl2 ?_; intro v' w6 hown6 hgrow hat; have vZ := (hgrow.block cb (zL e2) hoff).trans e2; obtain ⟨ya, yk, yc, rfl⟩ := aU hown6; obtain ⟨cq, cqf⟩ := aA vZ)
  all_goals
   have hyk : yk = c.gh.length + 1 := by
    rcases hown6.2 with ⟨h1, h2⟩ | ⟨g, cap, cur, h1, _⟩
    ·simp at h1; omega
    ·simp at h1; exact h1.2.1
   subst hyk
   obtain ⟨C7, F7⟩ := lT (.slice ya (c.gh.length + 1) yc) w6 (by rw [hv]; exact hgrow) (by rw [hv]; exact hat) (by simpa [Cc.num, Cc.row, ety, esz] using hown6) (fun j hj hne => by
    have h5 : j = 0 \/ j = 1 \/ j = 2 \/ j = 3 \/ j = 4 \/ j = 5 := by omega
    rcases h5 with rfl | rfl | rfl | rfl | rfl | rfl <;> first | exact ⟨rfl, rfl⟩ | exact absurd rfl hne) rfl rfl rfl rfl 1 rfl
   have hnm : ¬ Mine cb ib rb (fun j => if j = 1 then (Value.slice ya (c.gh.length + 1) yc) else v1 j) w.heap.size := fun hm => by
    rcases F7.new _ hm with h3 | h3
    ·exact hm1 h3
    ·omega
   clear lT
   go_wp2_with fail
   go_meet
   exact ⟨_, C7, F1.trans ((Fr.of cb ib rb v1 B2).trans F7), F7.at' b2 hm1, hnm⟩
 case rest =>
 have hd := hcut
 clear hcut
 go_upto_region 8 with fail
 obtain ⟨v1, C1, F1, b1, hm1⟩ := hd
 obtain ⟨va, vc, hv⟩ := C1.form 2 (by decide)
 have hv : v1 2 = .slice va c.ro.length vc := hv
 have H2 := (C1.alloc (.cells #[.int .i64 dm] 3)).drew
 have B2 : Below wc.heap.size wc (wc.alloc (.cells #[.int .i64 dm] 3)).drew := mO ((Below.refl _ wc).alloc zR _)
 have hl2 : lo <= (wc.alloc (.cells #[.int .i64 dm] 3)).drew.heap.size := H2.low.2.2.2
 have hrow : (wc.alloc (.cells #[.int .i64 dm] 3)).drew.ownsRow lo 3 1 (.slice va c.ro.length vc) c.ro.length (c.ro.map fun (n : Nat) => Value.int .i64 n) := by rw [<- hv]; exact H2.own 2 (by decide)
 have e1 := C1.at'
 have e2 := H2.at'
 rw [hv] at e1 e2
 obtain ⟨c1, cf1⟩ := aA e1
 obtain ⟨c2, tC⟩ := aA b1
 obtain ⟨c3, cf3⟩ := aA e2
 have hbx : w.heap.size < wc.heap.size := (zL b1)
 have b2 : (wc.alloc (.cells #[.int .i64 dm] 3)).drew.heap[w.heap.size]? = some (.cells (eG ⟨[113, 117, 101, 117, 101], dp, (dn, dq), (dm, dr)⟩) 153) := (zM _ _ _ hbx).trans b1
 obtain ⟨c4, cf4⟩ := aA b2
 obtain ⟨i0, hi, hz0, hz1, hz2⟩ := info_parts yG
 have hbd : c.ro.length + 1 <= maxLen := by simp only [maxLen]; omega
 have hby : (c.ro.length + 1) * 8 <= 140737488355328 := by omega
 have hrw := fun j u hu => dY wc #[.int .i64 dm] 3 j u hu
 have lT := fun (u : Value) (w' : World) => Cw.put (c' := { c with ix := (dn, c.ro.length) :: c.ix, ev := c.ev ++ [dn], gh := c.gh ++ [false], ro := c.ro ++ [dm] }) (w' := w') H2 2 (by decide) u
 have hbl : w.heap.size < (wc.alloc (.cells #[.int .i64 dm] 3)).drew.heap.size := (zL b2)
 have hoff : some cb ≠ (Value.slice va c.ro.length vc).ownBlock := fun e => by rw [<- hv] at e; exact (C1.off 2 (by decide) cb e.symm).1 rfl
 go_region_law (refine bT rfl (.tmp 53) (.tmp 57) 102 rfl lo 3 i0 (.int .i64 0) 1 8 Tryz.underlying102 hi hz0 hz1 hz2 rfl (by decide) (.slice va c.ro.length vc) c.ro.length (c.ro.map fun (n : Nat) => Value.int .i64 n) (by simp [Act.eval]) hrow ⟨wc.heap.size, 0, none⟩ 1 1 [.int .i64 dm] (by simp [Act.eval]) rfl hrw (fun u hu => by simp at hu; subst hu; rfl) hbd hby hl2 ?_; intro v' w6 hown6 hgrow hat; have vZ := (hgrow.block cb (zL e2) hoff).trans e2; obtain ⟨ya, yk, yc, rfl⟩ := aU hown6; obtain ⟨cq, cqf⟩ := aA vZ)
 all_goals
  have hyk : yk = c.ro.length + 1 := by
   rcases hown6.2 with ⟨h1, h2⟩ | ⟨g, cap, cur, h1, _⟩
   ·simp at h1; omega
   ·simp at h1; exact h1.2.1
  subst hyk
  obtain ⟨C7, F7⟩ := lT (.slice ya (c.ro.length + 1) yc) w6 (by rw [hv]; exact hgrow) (by rw [hv]; exact hat) (by simpa [Cc.num, Cc.row, ety, esz] using hown6) (fun j hj hne => by
   have h5 : j = 0 \/ j = 1 \/ j = 2 \/ j = 3 \/ j = 4 \/ j = 5 := by omega
   rcases h5 with rfl | rfl | rfl | rfl | rfl | rfl <;> first | exact ⟨rfl, rfl⟩ | exact absurd rfl hne) rfl rfl rfl rfl 2 rfl
  have hnm : ¬ Mine cb ib rb (fun j => if j = 2 then (Value.slice ya (c.ro.length + 1) yc) else v1 j) w.heap.size := fun hm => by
   rcases F7.new _ hm with h3 | h3
   ·exact hm1 h3
   ·omega
  clear lT
  go_wp2_with fail
  exact bodyPost_end (by simp [results, Tryz.results108, go_sem]) rfl ⟨rfl, _, C7, F1.trans ((Fr.of cb ib rb v1 B2).trans F7)⟩
theorem aB8 (h : Cw w lo cb ib rb v c) (dp : Nat) (dn : List UInt8) (dq dm dr : Nat) (hdn : dn.length <= 700) (aKv : c.ix.length <= 2900) (h0 : c.ev.length <= 2900 /\ c.gh.length <= 2900 /\ c.ro.length <= 2900 /\ c.mo.length <= 2900 /\ c.vn.length <= 2900) :
  Calls Tryz.prog 108 #[ptr cb, .agg (eG ⟨[103, 104, 111, 115, 116], dp, (dn, dq), (dm, dr)⟩)] w (sD w lo cb ib rb v (.tuple #[]) ({ c with ix := (dn, c.ro.length) :: c.ix, ev := c.ev ++ [dn], gh := c.gh ++ [true], ro := c.ro ++ [dm] })) := by
 obtain ⟨l0, l1, l2, l3, l4⟩ := h0
 have hd := D5.start h ⟨[103, 104, 111, 115, 116], dp, (dn, dq), (dm, dr)⟩
 go_enter Tryz.func108, Tryz.ntmps108
 go_upto_region 5 with fail
 generalize w.alloc (.cells (eG ⟨[103, 104, 111, 115, 116], dp, (dn, dq), (dm, dr)⟩) 153) = wc at *
 go_cut [] (fun wx => D5 w lo cb ib rb v ⟨[103, 104, 111, 115, 116], dp, (dn, dq), (dm, dr)⟩ ({ c with ix := (dn, c.ro.length) :: c.ix }) wx)
 case first =>
  obtain ⟨v1, C1, F1, b1, hm1⟩ := hd
  obtain ⟨va, vc, hv⟩ := C1.form 2 (by decide)
  have hv : v1 2 = .slice va c.ro.length vc := hv
  obtain ⟨k0, hk0, hmap⟩ := C1.drew.ix
  have hk1 : k0 <= 2900 := by have := aKv; omega
  obtain ⟨w2, hput, hm2, hgr, hsz⟩ := hmap.put u81 u3 (by omega) dn hdn c.ro.length (by omega)
  have hk2 : (if (look dn (c).ix).isSome = true then k0 else k0 + 1) <= (c).ix.length + 1 := by split <;> omega
  obtain ⟨C2, F2⟩ := C1.drew.name dn c.ro.length _ hk2 hgr hm2
  have e1 := C1.at'
  rw [hv] at e1
  obtain ⟨c1, cf1⟩ := aA e1
  obtain ⟨c2, tC⟩ := aA b1
  have F0 : Fr cb ib rb v1 v1 wc wc.drew := ⟨rfl, rfl, rfl, zR, fun _ _ _ => rfl, fun _ h => Or.inl h⟩
  have F3 := F1.trans (F0.trans F2)
  have b3 := F2.at' (w := wc.drew) b1 hm1
  clear hmap hm2 hgr hsz C1 F1 F0 F2
  go_region
  all_goals
   go_wp2_with fail
   go_meet
   exact ⟨v1, C2, F3, b3, hm1⟩
 case rest =>
 have hd := hcut
 clear hcut
 go_upto_region 6 with fail
 go_cut [] (fun wx => D5 w lo cb ib rb v ⟨[103, 104, 111, 115, 116], dp, (dn, dq), (dm, dr)⟩ ({ c with ix := (dn, c.ro.length) :: c.ix, ev := c.ev ++ [dn] }) wx)
 case first =>
  obtain ⟨v1, C1, F1, b1, hm1⟩ := hd
  obtain ⟨va, vc, hv⟩ := C1.form 0 (by decide)
  have hv : v1 0 = .slice va c.ev.length vc := hv
  have H2 := (C1.alloc (.cells #[S dn] 9)).drew
  have B2 : Below wc.heap.size wc (wc.alloc (.cells #[S dn] 9)).drew := mO ((Below.refl _ wc).alloc zR _)
  have hl2 : lo <= (wc.alloc (.cells #[S dn] 9)).drew.heap.size := H2.low.2.2.2
  have hrow : (wc.alloc (.cells #[S dn] 9)).drew.ownsRow lo 9 1 (.slice va c.ev.length vc) c.ev.length (c.ev.map S) := by rw [<- hv]; exact H2.own 0 (by decide)
  have e1 := C1.at'
  have e2 := H2.at'
  rw [hv] at e1 e2
  obtain ⟨c1, cf1⟩ := aA e1
  obtain ⟨c2, tC⟩ := aA b1
  obtain ⟨c3, cf3⟩ := aA e2
  have hbx : w.heap.size < wc.heap.size := (zL b1)
  have b2 : (wc.alloc (.cells #[S dn] 9)).drew.heap[w.heap.size]? = some (.cells (eG ⟨[103, 104, 111, 115, 116], dp, (dn, dq), (dm, dr)⟩) 153) := (zM _ _ _ hbx).trans b1
  obtain ⟨c4, cf4⟩ := aA b2
  obtain ⟨i0, hi, hz0, hz1, hz2⟩ := info_parts D9
  have hbd : c.ev.length + 1 <= maxLen := by simp only [maxLen]; omega
  have hby : (c.ev.length + 1) * 16 <= 140737488355328 := by omega
  have hrw := fun j u hu => dY wc #[S dn] 9 j u hu
  have lT := fun (u : Value) (w' : World) => Cw.put (c' := { c with ix := (dn, c.ro.length) :: c.ix, ev := c.ev ++ [dn] }) (w' := w') H2 0 (by decide) u
  have hbl : w.heap.size < (wc.alloc (.cells #[S dn] 9)).drew.heap.size := (zL b2)
  have hoff : some cb ≠ (Value.slice va c.ev.length vc).ownBlock := fun e => by rw [<- hv] at e; exact (C1.off 0 (by decide) cb e.symm).1 rfl
  go_region_law (refine bT rfl (.tmp 29) (.tmp 33) 120 rfl lo 9 i0 (S []) 1 16 Tryz.underlying120 hi hz0 hz1 hz2 rfl (by decide) (.slice va c.ev.length vc) c.ev.length (c.ev.map S) (by simp [Act.eval]) hrow ⟨wc.heap.size, 0, none⟩ 1 1 [S dn] (by simp [Act.eval]) rfl hrw (fun u hu => by simp at hu; subst hu; rfl) hbd hby hl2 ?_; intro v' w6 hown6 hgrow hat; have vZ := (hgrow.block cb (zL e2) hoff).trans e2; obtain ⟨ya, yk, yc, rfl⟩ := aU hown6; obtain ⟨cq, cqf⟩ := aA vZ)
  all_goals
   have hyk : yk = c.ev.length + 1 := by
    rcases hown6.2 with ⟨h1, h2⟩ | ⟨g, cap, cur, h1, _⟩
    ·simp at h1; omega
    ·simp at h1; exact h1.2.1
   subst hyk
   obtain ⟨C7, F7⟩ := lT (.slice ya (c.ev.length + 1) yc) w6 (by rw [hv]; exact hgrow) (by rw [hv]; exact hat) (by simpa [Cc.num, Cc.row, ety, esz] using hown6) (fun j hj hne => by
    have h5 : j = 0 \/ j = 1 \/ j = 2 \/ j = 3 \/ j = 4 \/ j = 5 := by omega
    rcases h5 with rfl | rfl | rfl | rfl | rfl | rfl <;> first | exact ⟨rfl, rfl⟩ | exact absurd rfl hne) rfl rfl rfl rfl 0 rfl
   have hnm : ¬ Mine cb ib rb (fun j => if j = 0 then (Value.slice ya (c.ev.length + 1) yc) else v1 j) w.heap.size := fun hm => by
    rcases F7.new _ hm with h3 | h3
    ·exact hm1 h3
    ·omega
   clear lT
   go_wp2_with fail
   go_meet
   exact ⟨_, C7, F1.trans ((Fr.of cb ib rb v1 B2).trans F7), F7.at' b2 hm1, hnm⟩
 case rest =>
 have hd := hcut
 clear hcut
 go_upto_region 7 with fail
 go_cut [] (fun wx => D5 w lo cb ib rb v ⟨[103, 104, 111, 115, 116], dp, (dn, dq), (dm, dr)⟩ ({ c with ix := (dn, c.ro.length) :: c.ix, ev := c.ev ++ [dn], gh := c.gh ++ [true] }) wx)
 case first =>
  obtain ⟨v1, C1, F1, b1, hm1⟩ := hd
  obtain ⟨va, vc, hv⟩ := C1.form 1 (by decide)
  have hv : v1 1 = .slice va c.gh.length vc := hv
  have H2 := (C1.alloc (.cells #[.bool true] 4)).drew
  have B2 : Below wc.heap.size wc (wc.alloc (.cells #[.bool true] 4)).drew := mO ((Below.refl _ wc).alloc zR _)
  have hl2 : lo <= (wc.alloc (.cells #[.bool true] 4)).drew.heap.size := H2.low.2.2.2
  have hrow : (wc.alloc (.cells #[.bool true] 4)).drew.ownsRow lo 4 1 (.slice va c.gh.length vc) c.gh.length (c.gh.map Value.bool) := by rw [<- hv]; exact H2.own 1 (by decide)
  have e1 := C1.at'
  have e2 := H2.at'
  rw [hv] at e1 e2
  obtain ⟨c1, cf1⟩ := aA e1
  obtain ⟨c2, tC⟩ := aA b1
  obtain ⟨c3, cf3⟩ := aA e2
  have hbx : w.heap.size < wc.heap.size := (zL b1)
  have b2 : (wc.alloc (.cells #[.bool true] 4)).drew.heap[w.heap.size]? = some (.cells (eG ⟨[103, 104, 111, 115, 116], dp, (dn, dq), (dm, dr)⟩) 153) := (zM _ _ _ hbx).trans b1
  obtain ⟨c4, cf4⟩ := aA b2
  obtain ⟨i0, hi, hz0, hz1, hz2⟩ := info_parts aCg
  have hbd : c.gh.length + 1 <= maxLen := by simp only [maxLen]; omega
  have hby : (c.gh.length + 1) * 1 <= 140737488355328 := by omega
  have hrw := fun j u hu => dY wc #[.bool true] 4 j u hu
  have lT := fun (u : Value) (w' : World) => Cw.put (c' := { c with ix := (dn, c.ro.length) :: c.ix, ev := c.ev ++ [dn], gh := c.gh ++ [true] }) (w' := w') H2 1 (by decide) u
  have hbl : w.heap.size < (wc.alloc (.cells #[.bool true] 4)).drew.heap.size := (zL b2)
  have hoff : some cb ≠ (Value.slice va c.gh.length vc).ownBlock := fun e => by rw [<- hv] at e; exact (C1.off 1 (by decide) cb e.symm).1 rfl
  go_region_law (refine bT rfl (.tmp 41) (.tmp 45) 79 rfl lo 4 i0 (.bool false) 1 1 Tryz.underlying79 hi hz0 hz1 hz2 rfl (by decide) (.slice va c.gh.length vc) c.gh.length (c.gh.map Value.bool) (by simp [Act.eval]) hrow ⟨wc.heap.size, 0, none⟩ 1 1 [.bool true] (by simp [Act.eval]) rfl hrw (fun u hu => by simp at hu; subst hu; rfl) hbd hby hl2 ?_; intro v' w6 hown6 hgrow hat; have vZ := (hgrow.block cb (zL e2) hoff).trans e2; obtain ⟨ya, yk, yc, rfl⟩ := aU hown6; obtain ⟨cq, cqf⟩ := aA vZ)
  all_goals
   have hyk : yk = c.gh.length + 1 := by
    rcases hown6.2 with ⟨h1, h2⟩ | ⟨g, cap, cur, h1, _⟩
    ·simp at h1; omega
    ·simp at h1; exact h1.2.1
   subst hyk
   obtain ⟨C7, F7⟩ := lT (.slice ya (c.gh.length + 1) yc) w6 (by rw [hv]; exact hgrow) (by rw [hv]; exact hat) (by simpa [Cc.num, Cc.row, ety, esz] using hown6) (fun j hj hne => by
    have h5 : j = 0 \/ j = 1 \/ j = 2 \/ j = 3 \/ j = 4 \/ j = 5 := by omega
    rcases h5 with rfl | rfl | rfl | rfl | rfl | rfl <;> first | exact ⟨rfl, rfl⟩ | exact absurd rfl hne) rfl rfl rfl rfl 1 rfl
   have hnm : ¬ Mine cb ib rb (fun j => if j = 1 then (Value.slice ya (c.gh.length + 1) yc) else v1 j) w.heap.size := fun hm => by
    rcases F7.new _ hm with h3 | h3
    ·exact hm1 h3
    ·omega
   clear lT
   go_wp2_with fail
   go_meet
   exact ⟨_, C7, F1.trans ((Fr.of cb ib rb v1 B2).trans F7), F7.at' b2 hm1, hnm⟩
 case rest =>
 have hd := hcut
 clear hcut
 go_upto_region 8 with fail
 obtain ⟨v1, C1, F1, b1, hm1⟩ := hd
 obtain ⟨va, vc, hv⟩ := C1.form 2 (by decide)
 have hv : v1 2 = .slice va c.ro.length vc := hv
 have H2 := (C1.alloc (.cells #[.int .i64 dm] 3)).drew
 have B2 : Below wc.heap.size wc (wc.alloc (.cells #[.int .i64 dm] 3)).drew := mO ((Below.refl _ wc).alloc zR _)
 have hl2 : lo <= (wc.alloc (.cells #[.int .i64 dm] 3)).drew.heap.size := H2.low.2.2.2
 have hrow : (wc.alloc (.cells #[.int .i64 dm] 3)).drew.ownsRow lo 3 1 (.slice va c.ro.length vc) c.ro.length (c.ro.map fun (n : Nat) => Value.int .i64 n) := by rw [<- hv]; exact H2.own 2 (by decide)
 have e1 := C1.at'
 have e2 := H2.at'
 rw [hv] at e1 e2
 obtain ⟨c1, cf1⟩ := aA e1
 obtain ⟨c2, tC⟩ := aA b1
 obtain ⟨c3, cf3⟩ := aA e2
 have hbx : w.heap.size < wc.heap.size := (zL b1)
 have b2 : (wc.alloc (.cells #[.int .i64 dm] 3)).drew.heap[w.heap.size]? = some (.cells (eG ⟨[103, 104, 111, 115, 116], dp, (dn, dq), (dm, dr)⟩) 153) := (zM _ _ _ hbx).trans b1
 obtain ⟨c4, cf4⟩ := aA b2
 obtain ⟨i0, hi, hz0, hz1, hz2⟩ := info_parts yG
 have hbd : c.ro.length + 1 <= maxLen := by simp only [maxLen]; omega
 have hby : (c.ro.length + 1) * 8 <= 140737488355328 := by omega
 have hrw := fun j u hu => dY wc #[.int .i64 dm] 3 j u hu
 have lT := fun (u : Value) (w' : World) => Cw.put (c' := { c with ix := (dn, c.ro.length) :: c.ix, ev := c.ev ++ [dn], gh := c.gh ++ [true], ro := c.ro ++ [dm] }) (w' := w') H2 2 (by decide) u
 have hbl : w.heap.size < (wc.alloc (.cells #[.int .i64 dm] 3)).drew.heap.size := (zL b2)
 have hoff : some cb ≠ (Value.slice va c.ro.length vc).ownBlock := fun e => by rw [<- hv] at e; exact (C1.off 2 (by decide) cb e.symm).1 rfl
 go_region_law (refine bT rfl (.tmp 53) (.tmp 57) 102 rfl lo 3 i0 (.int .i64 0) 1 8 Tryz.underlying102 hi hz0 hz1 hz2 rfl (by decide) (.slice va c.ro.length vc) c.ro.length (c.ro.map fun (n : Nat) => Value.int .i64 n) (by simp [Act.eval]) hrow ⟨wc.heap.size, 0, none⟩ 1 1 [.int .i64 dm] (by simp [Act.eval]) rfl hrw (fun u hu => by simp at hu; subst hu; rfl) hbd hby hl2 ?_; intro v' w6 hown6 hgrow hat; have vZ := (hgrow.block cb (zL e2) hoff).trans e2; obtain ⟨ya, yk, yc, rfl⟩ := aU hown6; obtain ⟨cq, cqf⟩ := aA vZ)
 all_goals
  have hyk : yk = c.ro.length + 1 := by
   rcases hown6.2 with ⟨h1, h2⟩ | ⟨g, cap, cur, h1, _⟩
   ·simp at h1; omega
   ·simp at h1; exact h1.2.1
  subst hyk
  obtain ⟨C7, F7⟩ := lT (.slice ya (c.ro.length + 1) yc) w6 (by rw [hv]; exact hgrow) (by rw [hv]; exact hat) (by simpa [Cc.num, Cc.row, ety, esz] using hown6) (fun j hj hne => by
   have h5 : j = 0 \/ j = 1 \/ j = 2 \/ j = 3 \/ j = 4 \/ j = 5 := by omega
   rcases h5 with rfl | rfl | rfl | rfl | rfl | rfl <;> first | exact ⟨rfl, rfl⟩ | exact absurd rfl hne) rfl rfl rfl rfl 2 rfl
  have hnm : ¬ Mine cb ib rb (fun j => if j = 2 then (Value.slice ya (c.ro.length + 1) yc) else v1 j) w.heap.size := fun hm => by
   rcases F7.new _ hm with h3 | h3
   ·exact hm1 h3
   ·omega
  clear lT
  go_wp2_with fail
  exact bodyPost_end (by simp [results, Tryz.results108, go_sem]) rfl ⟨rfl, _, C7, F1.trans ((Fr.of cb ib rb v1 B2).trans F7)⟩
theorem aH6 (h : Cw w lo cb ib rb v c) (dp : Nat) (dn : List UInt8) (dq dm dr : Nat) (hdn : dn.length <= 700) (aKv : c.ix.length <= 2900) (h0 : c.ev.length <= 2900 /\ c.gh.length <= 2900 /\ c.ro.length <= 2900 /\ c.mo.length <= 2900 /\ c.vn.length <= 2900) :
  Calls Tryz.prog 108 #[ptr cb, .agg (eG ⟨[118, 97, 114], dp, (dn, dq), (dm, dr)⟩)] w (sD w lo cb ib rb v (.tuple #[]) ({ c with ix := (dn, c.mo.length) :: c.ix, vn := c.vn ++ [dn], mo := c.mo ++ [dm] })) := by
 obtain ⟨l0, l1, l2, l3, l4⟩ := h0
 have hd := D5.start h ⟨[118, 97, 114], dp, (dn, dq), (dm, dr)⟩
 go_enter Tryz.func108, Tryz.ntmps108
 go_upto_region 10 with fail
 generalize w.alloc (.cells (eG ⟨[118, 97, 114], dp, (dn, dq), (dm, dr)⟩) 153) = wc at *
 go_cut [] (fun wx => D5 w lo cb ib rb v ⟨[118, 97, 114], dp, (dn, dq), (dm, dr)⟩ ({ c with ix := (dn, c.mo.length) :: c.ix }) wx)
 case first =>
  obtain ⟨v1, C1, F1, b1, hm1⟩ := hd
  obtain ⟨va, vc, hv⟩ := C1.form 3 (by decide)
  have hv : v1 3 = .slice va c.mo.length vc := hv
  obtain ⟨k0, hk0, hmap⟩ := C1.drew.ix
  have hk1 : k0 <= 2900 := by have := aKv; omega
  obtain ⟨w2, hput, hm2, hgr, hsz⟩ := hmap.put u81 u3 (by omega) dn hdn c.mo.length (by omega)
  have hk2 : (if (look dn (c).ix).isSome = true then k0 else k0 + 1) <= (c).ix.length + 1 := by split <;> omega
  obtain ⟨C2, F2⟩ := C1.drew.name dn c.mo.length _ hk2 hgr hm2
  have e1 := C1.at'
  rw [hv] at e1
  obtain ⟨c1, cf1⟩ := aA e1
  obtain ⟨c2, tC⟩ := aA b1
  have F0 : Fr cb ib rb v1 v1 wc wc.drew := ⟨rfl, rfl, rfl, zR, fun _ _ _ => rfl, fun _ h => Or.inl h⟩
  have F3 := F1.trans (F0.trans F2)
  have b3 := F2.at' (w := wc.drew) b1 hm1
  clear hmap hm2 hgr hsz C1 F1 F0 F2
  go_region
  all_goals
   go_wp2_with fail
   go_meet
   exact ⟨v1, C2, F3, b3, hm1⟩
 case rest =>
 have hd := hcut
 clear hcut
 go_upto_region 11 with fail
 go_cut [] (fun wx => D5 w lo cb ib rb v ⟨[118, 97, 114], dp, (dn, dq), (dm, dr)⟩ ({ c with ix := (dn, c.mo.length) :: c.ix, vn := c.vn ++ [dn] }) wx)
 case first =>
  obtain ⟨v1, C1, F1, b1, hm1⟩ := hd
  obtain ⟨va, vc, hv⟩ := C1.form 5 (by decide)
  have hv : v1 5 = .slice va c.vn.length vc := hv
  have H2 := (C1.alloc (.cells #[S dn] 9)).drew
  have B2 : Below wc.heap.size wc (wc.alloc (.cells #[S dn] 9)).drew := mO ((Below.refl _ wc).alloc zR _)
  have hl2 : lo <= (wc.alloc (.cells #[S dn] 9)).drew.heap.size := H2.low.2.2.2
  have hrow : (wc.alloc (.cells #[S dn] 9)).drew.ownsRow lo 9 1 (.slice va c.vn.length vc) c.vn.length (c.vn.map S) := by rw [<- hv]; exact H2.own 5 (by decide)
  have e1 := C1.at'
  have e2 := H2.at'
  rw [hv] at e1 e2
  obtain ⟨c1, cf1⟩ := aA e1
  obtain ⟨c2, tC⟩ := aA b1
  obtain ⟨c3, cf3⟩ := aA e2
  have hbx : w.heap.size < wc.heap.size := (zL b1)
  have b2 : (wc.alloc (.cells #[S dn] 9)).drew.heap[w.heap.size]? = some (.cells (eG ⟨[118, 97, 114], dp, (dn, dq), (dm, dr)⟩) 153) := (zM _ _ _ hbx).trans b1
  obtain ⟨c4, cf4⟩ := aA b2
  obtain ⟨i0, hi, hz0, hz1, hz2⟩ := info_parts D9
  have hbd : c.vn.length + 1 <= maxLen := by simp only [maxLen]; omega
  have hby : (c.vn.length + 1) * 16 <= 140737488355328 := by omega
  have hrw := fun j u hu => dY wc #[S dn] 9 j u hu
  have lT := fun (u : Value) (w' : World) => Cw.put (c' := { c with ix := (dn, c.mo.length) :: c.ix, vn := c.vn ++ [dn] }) (w' := w') H2 5 (by decide) u
  have hbl : w.heap.size < (wc.alloc (.cells #[S dn] 9)).drew.heap.size := (zL b2)
  have hoff : some cb ≠ (Value.slice va c.vn.length vc).ownBlock := fun e => by rw [<- hv] at e; exact (C1.off 5 (by decide) cb e.symm).1 rfl
  go_region_law (refine bT rfl (.tmp 79) (.tmp 83) 120 rfl lo 9 i0 (S []) 1 16 Tryz.underlying120 hi hz0 hz1 hz2 rfl (by decide) (.slice va c.vn.length vc) c.vn.length (c.vn.map S) (by simp [Act.eval]) hrow ⟨wc.heap.size, 0, none⟩ 1 1 [S dn] (by simp [Act.eval]) rfl hrw (fun u hu => by simp at hu; subst hu; rfl) hbd hby hl2 ?_; intro v' w6 hown6 hgrow hat; have vZ := (hgrow.block cb (zL e2) hoff).trans e2; obtain ⟨ya, yk, yc, rfl⟩ := aU hown6; obtain ⟨cq, cqf⟩ := aA vZ)
  all_goals
   have hyk : yk = c.vn.length + 1 := by
    rcases hown6.2 with ⟨h1, h2⟩ | ⟨g, cap, cur, h1, _⟩
    ·simp at h1; omega
    ·simp at h1; exact h1.2.1
   subst hyk
   obtain ⟨C7, F7⟩ := lT (.slice ya (c.vn.length + 1) yc) w6 (by rw [hv]; exact hgrow) (by rw [hv]; exact hat) (by simpa [Cc.num, Cc.row, ety, esz] using hown6) (fun j hj hne => by
    have h5 : j = 0 \/ j = 1 \/ j = 2 \/ j = 3 \/ j = 4 \/ j = 5 := by omega
    rcases h5 with rfl | rfl | rfl | rfl | rfl | rfl <;> first | exact ⟨rfl, rfl⟩ | exact absurd rfl hne) rfl rfl rfl rfl 3 rfl
   have hnm : ¬ Mine cb ib rb (fun j => if j = 5 then (Value.slice ya (c.vn.length + 1) yc) else v1 j) w.heap.size := fun hm => by
    rcases F7.new _ hm with h3 | h3
    ·exact hm1 h3
    ·omega
   clear lT
   go_wp2_with fail
   go_meet
   exact ⟨_, C7, F1.trans ((Fr.of cb ib rb v1 B2).trans F7), F7.at' b2 hm1, hnm⟩
 case rest =>
 have hd := hcut
 clear hcut
 go_upto_region 12 with fail
 obtain ⟨v1, C1, F1, b1, hm1⟩ := hd
 obtain ⟨va, vc, hv⟩ := C1.form 3 (by decide)
 have hv : v1 3 = .slice va c.mo.length vc := hv
 have H2 := (C1.alloc (.cells #[.int .i64 dm] 3)).drew
 have B2 : Below wc.heap.size wc (wc.alloc (.cells #[.int .i64 dm] 3)).drew := mO ((Below.refl _ wc).alloc zR _)
 have hl2 : lo <= (wc.alloc (.cells #[.int .i64 dm] 3)).drew.heap.size := H2.low.2.2.2
 have hrow : (wc.alloc (.cells #[.int .i64 dm] 3)).drew.ownsRow lo 3 1 (.slice va c.mo.length vc) c.mo.length (c.mo.map fun (n : Nat) => Value.int .i64 n) := by rw [<- hv]; exact H2.own 3 (by decide)
 have e1 := C1.at'
 have e2 := H2.at'
 rw [hv] at e1 e2
 obtain ⟨c1, cf1⟩ := aA e1
 obtain ⟨c2, tC⟩ := aA b1
 obtain ⟨c3, cf3⟩ := aA e2
 have hbx : w.heap.size < wc.heap.size := (zL b1)
 have b2 : (wc.alloc (.cells #[.int .i64 dm] 3)).drew.heap[w.heap.size]? = some (.cells (eG ⟨[118, 97, 114], dp, (dn, dq), (dm, dr)⟩) 153) := (zM _ _ _ hbx).trans b1
 obtain ⟨c4, cf4⟩ := aA b2
 obtain ⟨i0, hi, hz0, hz1, hz2⟩ := info_parts yG
 have hbd : c.mo.length + 1 <= maxLen := by simp only [maxLen]; omega
 have hby : (c.mo.length + 1) * 8 <= 140737488355328 := by omega
 have hrw := fun j u hu => dY wc #[.int .i64 dm] 3 j u hu
 have lT := fun (u : Value) (w' : World) => Cw.put (c' := { c with ix := (dn, c.mo.length) :: c.ix, vn := c.vn ++ [dn], mo := c.mo ++ [dm] }) (w' := w') H2 3 (by decide) u
 have hbl : w.heap.size < (wc.alloc (.cells #[.int .i64 dm] 3)).drew.heap.size := (zL b2)
 have hoff : some cb ≠ (Value.slice va c.mo.length vc).ownBlock := fun e => by rw [<- hv] at e; exact (C1.off 3 (by decide) cb e.symm).1 rfl
 go_region_law (refine bT rfl (.tmp 91) (.tmp 95) 102 rfl lo 3 i0 (.int .i64 0) 1 8 Tryz.underlying102 hi hz0 hz1 hz2 rfl (by decide) (.slice va c.mo.length vc) c.mo.length (c.mo.map fun (n : Nat) => Value.int .i64 n) (by simp [Act.eval]) hrow ⟨wc.heap.size, 0, none⟩ 1 1 [.int .i64 dm] (by simp [Act.eval]) rfl hrw (fun u hu => by simp at hu; subst hu; rfl) hbd hby hl2 ?_; intro v' w6 hown6 hgrow hat; have vZ := (hgrow.block cb (zL e2) hoff).trans e2; obtain ⟨ya, yk, yc, rfl⟩ := aU hown6; obtain ⟨cq, cqf⟩ := aA vZ)
 all_goals
  have hyk : yk = c.mo.length + 1 := by
   rcases hown6.2 with ⟨h1, h2⟩ | ⟨g, cap, cur, h1, _⟩
   ·simp at h1; omega
   ·simp at h1; exact h1.2.1
  subst hyk
  obtain ⟨C7, F7⟩ := lT (.slice ya (c.mo.length + 1) yc) w6 (by rw [hv]; exact hgrow) (by rw [hv]; exact hat) (by simpa [Cc.num, Cc.row, ety, esz] using hown6) (fun j hj hne => by
   have h5 : j = 0 \/ j = 1 \/ j = 2 \/ j = 3 \/ j = 4 \/ j = 5 := by omega
   rcases h5 with rfl | rfl | rfl | rfl | rfl | rfl <;> first | exact ⟨rfl, rfl⟩ | exact absurd rfl hne) rfl rfl rfl rfl 4 rfl
  have hnm : ¬ Mine cb ib rb (fun j => if j = 3 then (Value.slice ya (c.mo.length + 1) yc) else v1 j) w.heap.size := fun hm => by
   rcases F7.new _ hm with h3 | h3
   ·exact hm1 h3
   ·omega
  clear lT
  go_wp2_with fail
  exact bodyPost_end (by simp [results, Tryz.results108, go_sem]) rfl ⟨rfl, _, C7, F1.trans ((Fr.of cb ib rb v1 B2).trans F7)⟩
theorem aEb (h : Cw w lo cb ib rb v c) (dp : Nat) (dn : List UInt8) (dq dm dr : Nat) :
  Calls Tryz.prog 108 #[ptr cb, .agg (eG ⟨[102, 114, 101, 113], dp, (dn, dq), (dm, dr)⟩)] w (sD w lo cb ib rb v (.tuple #[]) ({ c with mf := dm })) := by
 have h1 := h.alloc (.cells (eG ⟨[102, 114, 101, 113], dp, (dn, dq), (dm, dr)⟩) 153)
 have B1 := (Below.refl w.heap.size w).alloc zR (.cells (eG ⟨[102, 114, 101, 113], dp, (dn, dq), (dm, dr)⟩) 153)
 have b1 : (w.alloc (.cells (eG ⟨[102, 114, 101, 113], dp, (dn, dq), (dm, dr)⟩) 153)).heap[w.heap.size]? = some (.cells (eG ⟨[102, 114, 101, 113], dp, (dn, dq), (dm, dr)⟩) 153) := aC rfl
 go_enter Tryz.func108, Tryz.ntmps108
 go_upto_region 2 with fail
 generalize w.alloc (.cells (eG ⟨[102, 114, 101, 113], dp, (dn, dq), (dm, dr)⟩) 153) = w1 at *
 obtain ⟨c1, cf1⟩ := aA h1.at'
 obtain ⟨c2, tC⟩ := aA b1
 have F1 := Fr.of cb ib rb v B1
 generalize w.heap.size = bx at *
 go_wp2_with fail
 exact bodyPost_end (by simp [results, Tryz.results108, go_sem]) rfl ⟨rfl, v, h1.aRw dm, F1.trans (h1.own4 5 _)⟩
end
section
variable {w : World} {lo cb ib rb : Nat} {v : Nat -> Value} {c : Cc}
def Cc.nM (c : Cc) (x : Cd) : Stp := ⟨jG x.word, c.ref x.queue, (0, 0), false, x.neg, c.U9 x.left, c.U9 x.right, 0, 0, 0⟩
def rY : Prop := ∀ (w : World) (lo cb ib rb : Nat) (v : Nat -> Value) (c : Cc), Cw w lo cb ib rb v c -> ∀ x : Cd, x.small -> c.st.length <= 1000000 ->
 Calls Tryz.prog 196 #[ptr cb, cdV x] w (sD w lo cb ib rb v (.int .i64 c.st.length) (c.add (c.nM x)))
def Cc.pln (c : Cc) (s : St) : Stp := ⟨jG s.word, c.ref s.name, c.ref (St.to s), s.tail, false, (0, 0), (0, 0), 0, 0, 0⟩
def jL (t : Nat) : Stp := ⟨14, (0, 0), (0, 0), false, false, (0, 0), (0, 0), 0, 0, t⟩
def Cc.ifs {β : Type} (blk : Cc -> β -> Cc) (c : Cc) (s : St) (y z : β) : Cc :=
 let c2 := blk (c.add (c.nM s.cond)) y
 let c4 := (c2.add (jL 0)).land c.st.length
 (blk c4 z).land c2.st.length
def Cc.rep {β : Type} (blk : Cc -> β -> Cc) (c : Cc) (s : St) (y : β) : Cc :=
 let c1 := c.add ⟨12, (0, 0), (0, 0), false, false, (0, 0), (0, 0), c.lp, s.times.1, 0⟩
 let c2 := c1.add ⟨13, (0, 0), (0, 0), false, false, (0, 0), (0, 0), c.lp, 0, 0⟩
 let c3 := c2.add (c2.nM s.cond)
 let c4 := blk { c3 with lp := c3.lp + 1 } y
 let c6 := Cc.add { c4 with lp := c4.lp - 1 } (jL (c.st.length + 1))
 (c6.land (c.st.length + 1)).land (c.st.length + 2)
def Cc.bJ {β : Type} (blk : Cc -> β -> Cc) (c : Cc) (r : St × β × β) : Cc :=
 if r.1.word = [105, 102] then c.ifs blk r.1 r.2.1 r.2.2 else if r.1.word = [114, 101, 112, 101, 97, 116] then c.rep blk r.1 r.2.1 else c.add (c.pln r.1)
def Cc.blk : (d : Nat) -> Cc -> BT d -> Cc
 | 0, c, _ => c
 | d + 1, c, xs => List.foldl (fun c r => c.bJ (Cc.blk d) r) c xs
def iZ {β : Type} (f : β -> Nat) : List (St × β × β) -> Nat
 | [] => 0
 | r :: rs => 4 + f r.2.1 + f r.2.2 + iZ f rs
def bP : (d : Nat) -> BT d -> Nat
 | 0, _ => 0
 | d + 1, xs => iZ (bP d) xs
theorem aY.fr {d : Nat} {w' : World} {v' : Nat -> Value} (h : Cw w lo cb ib rb v c) (hb : Fr cb ib rb v v' w w') {y : Value} {x : BT d} (hy : aY d w (fun g => g < lo) y x) : aY d w' (fun g => g < lo) y x :=
 aY.move d (fun g hg hl => hb.block g hl (fun hm => by have := (h.jR hm).1; omega)) y x hy
structure K6 (w1 : World) (lo cb ib rb : Nat) (v : Nat -> Value) (c : Cc) (bx : Nat) (A : Array Value) (W : World) : Prop where
 cw : Cw W lo cb ib rb v c
 cells : ∀ o, W.cell? ⟨bx, o, none⟩ = A[o]?
 lt : bx < W.heap.size
 bl : Below w1.heap.size w1 W
theorem K6.ref {w1 W : World} {bx : Nat} {A : Array Value} (h : K6 w1 lo cb ib rb v c bx A W) (n : NP) (hn : n.1.length <= 700) :
  Calls Tryz.prog 179 #[ptr cb, .agg #[S n.1, .int .i64 n.2]] W fun e W2 => e = .returned (.agg #[.int .i64 (c.ref n).1, .int .i64 (c.ref n).2]) /\ K6 w1 lo cb ib rb v c bx A W2 :=
 (aC2 h.cw n hn).mono fun _ _ ⟨h1, h2⟩ => ⟨h1, h.cw.grow h2, fun o => (h2.cell (p := ⟨bx, o, none⟩) h.lt).trans (h.cells o), Nat.lt_of_lt_of_le h.lt h2.size, h.bl.trans (h2.mono h.bl.size)⟩
structure K7 (w1 : World) (lo cb ib rb : Nat) (v : Nat -> Value) (c : Cc) (bx : Nat) (A : Array Value) (W : World) : Prop where
 cells : ∀ o, W.cell? ⟨bx, o, none⟩ = A[o]?
 fin : ∃ v', Cw W lo cb ib rb v' c /\ Fr cb ib rb v v' w1 W
theorem K6.add {w1 W : World} {bx : Nat} {A : Array Value} (h : K6 w1 lo cb ib rb v c bx A W) (s : Stp) (hl : c.st.length <= 1000000) (hm : ¬ Mine cb ib rb v bx) :
  Calls Tryz.prog 177 #[ptr cb, .agg (zJ s)] W fun e w' => e = .returned (.int .i64 c.st.length) /\ K7 w1 lo cb ib rb v (c.add s) bx A w' :=
 (pI h.cw s hl).mono fun _ _ ⟨h1, v', h2, h3⟩ => ⟨h1, fun o => (World.cell?_of_block (a := ⟨bx, o, none⟩) (h3.block bx h.lt hm)).trans (h.cells o), v', h2, (Fr.of cb ib rb v h.bl).trans h3⟩
def sW : Prop := ∀ (w : World) (lo cb ib rb : Nat) (v : Nat -> Value) (c : Cc), Cw w lo cb ib rb v c -> ∀ (x : St) (y1 : Option Addr) (y2 y3 : Nat) (z1 : Option Addr) (z2 z3 : Nat), x.small -> c.st.length <= 1000000 -> (x.word == [105, 102]) = false -> (x.word == [114, 101, 112, 101, 97, 116]) = false ->
  Calls Tryz.prog 142 #[ptr cb, .agg (stA x (.slice y1 y2 y3) (.slice z1 z2 z3))] w (sD w lo cb ib rb v (.tuple #[]) (c.add (c.pln x)))
end
section
variable {w : World} {lo cb ib rb : Nat} {v : Nat -> Value} {c : Cc}
theorem aEa (h : Cw w lo cb ib rb v c) (x : St) (y1 : Option Addr) (y2 y3 : Nat) (z1 : Option Addr) (z2 z3 : Nat) (hx : x.small) (hl : c.st.length <= 1000000) (n1 : (x.word == [105, 102]) = false) (n2 : (x.word == [114, 101, 112, 101, 97, 116]) = false) :
  Calls Tryz.prog 142 #[ptr cb, .agg (stA x (.slice y1 y2 y3) (.slice z1 z2 z3))] w (sD w lo cb ib rb v (.tuple #[]) (c.add (c.pln x))) := by
 obtain ⟨hx1, hx2, _⟩ := hx
 have h1 := h.alloc (.cells (stA x (.slice y1 y2 y3) (.slice z1 z2 z3)) 282)
 have b1 : (w.alloc (.cells (stA x (.slice y1 y2 y3) (.slice z1 z2 z3)) 282)).heap[w.heap.size]? = some (.cells (stA x (.slice y1 y2 y3) (.slice z1 z2 z3)) 282) := aC rfl
 have B1 := (Below.refl w.heap.size w).alloc zR (.cells (stA x (.slice y1 y2 y3) (.slice z1 z2 z3)) 282)
 have hm : ¬ Mine cb ib rb v w.heap.size := fun hm => by have := (h.jR hm).2; omega
 have e1 : c.pln x = ⟨jG x.word, c.ref x.name, c.ref (St.to x), x.tail, false, (0, 0), (0, 0), 0, 0, 0⟩ := rfl
 rw [e1]
 clear e1
 go_enter Tryz.func142, Tryz.ntmps142
 go_upto_region 1 with fail
 obtain ⟨c1, cf1⟩ := aA b1
 generalize w.alloc (.cells (stA x (.slice y1 y2 y3) (.slice z1 z2 z3)) 282) = w1 at *
 have hl1 : w.heap.size < w1.heap.size := (zL b1)
 go_upto_region 2 with fail
 have KK : K6 w1 lo cb ib rb v c w.heap.size (stA x (.slice y1 y2 y3) (.slice z1 z2 z3)) w1.drew := ⟨h1.drew, c1, hl1, mO (Below.refl _ _)⟩
 have HR1 := fun (W : World) (A : Array Value) (h : K6 w1 lo cb ib rb v c w.heap.size A W) => K6.ref h x.name hx1
 have HR2 := fun (W : World) (A : Array Value) (h : K6 w1 lo cb ib rb v c w.heap.size A W) => K6.ref h (St.to x) hx2
 have HKK := fun W => aCd x.word W
 have HAD := fun (s : Stp) (W : World) (A : Array Value) (h : K6 w1 lo cb ib rb v c w.heap.size A W) => K6.add h s hl hm
 have FB := Fr.of cb ib rb v B1
 generalize jG x.word = kn at *
 generalize c.ref x.name = r1 at *
 generalize c.ref (St.to x) = r2 at *
 have HR1 : Hid (∀ (W : World) (A : Array Value), K6 w1 lo cb ib rb v c w.heap.size A W -> Calls Tryz.prog 179 #[ptr cb, .agg #[S x.name.1, .int .i64 x.name.2]] W fun e W2 => e = .returned (.agg #[.int .i64 r1.1, .int .i64 r1.2]) /\ K6 w1 lo cb ib rb v c w.heap.size A W2) := HR1
 have HR2 : Hid (∀ (W : World) (A : Array Value), K6 w1 lo cb ib rb v c w.heap.size A W -> Calls Tryz.prog 179 #[ptr cb, .agg #[S (St.to x).1, .int .i64 (St.to x).2]] W fun e W2 => e = .returned (.agg #[.int .i64 r2.1, .int .i64 r2.2]) /\ K6 w1 lo cb ib rb v c w.heap.size A W2) := HR2
 have HKK : Hid (∀ W : World, Calls Tryz.prog 178 #[S x.word] W fun e w' => e = .returned (.int .i64 kn) /\ w' = W) := HKK
 have HAD : Hid (∀ (W : World) (A : Array Value), K6 w1 lo cb ib rb v c w.heap.size A W -> Calls Tryz.prog 177 #[ptr cb, .agg (zJ ⟨kn, r1, r2, x.tail, false, (0, 0), (0, 0), 0, 0, 0⟩)] W fun e w' => e = .returned (.int .i64 c.st.length) /\ K7 w1 lo cb ib rb v (c.add ⟨kn, r1, r2, x.tail, false, (0, 0), (0, 0), 0, 0, 0⟩) w.heap.size A w') := HAD _
 clear b1 cf1 hl1 hx1 hx2 h1 h B1 hm n1 n2
 generalize w.heap.size = bx at *
 refine tH (C := K6 w1 lo cb ib rb v c bx (stA x (.slice y1 y2 y3) (.slice z1 z2 z3))) 15 0 (by kernel_rfl) (by kernel_rfl) KK ?_
 simp only [List.take]
 apply aX
 case hw => rfl
 case h1 =>
  intro W hW
  have cW := hW.cells
  unfold Oper.quietAt
  go_simp
  refine And.intro rfl ?_
  with_reducible rfl
 apply aX
 case hw => rfl
 case h1 =>
  intro W hW
  have cW := hW.cells
  unfold Oper.quietAt
  go_simp
  refine And.intro rfl ?_
  with_reducible rfl
 apply aX
 case hw => rfl
 case h1 =>
  intro W hW
  have cW := hW.cells
  unfold Oper.quietAt
  go_simp
  refine And.intro rfl ?_
  with_reducible rfl
 apply aX
 case hw => rfl
 case h1 =>
  intro W hW
  have cW := hW.cells
  unfold Oper.quietAt
  go_simp
  refine And.intro rfl ?_
  exact (HKK.out W).mono fun _ _ h => And.intro h.1 (h.2 ▸ hW)
 apply aX
 case hw => rfl
 case h1 =>
  intro W hW
  have cW := hW.cells
  unfold Oper.quietAt
  go_simp
  refine And.intro rfl ?_
  with_reducible rfl
 apply aX
 case hw => rfl
 case h1 =>
  intro W hW
  have cW := hW.cells
  unfold Oper.quietAt
  go_simp
  refine And.intro rfl ?_
  with_reducible rfl
 apply aX
 case hw => rfl
 case h1 =>
  intro W hW
  have cW := hW.cells
  unfold Oper.quietAt
  go_simp
  refine And.intro rfl ?_
  with_reducible rfl
 apply aX
 case hw => rfl
 case h1 =>
  intro W hW
  have cW := hW.cells
  unfold Oper.quietAt
  go_simp
  refine And.intro rfl ?_
  exact HR1.out _ _ hW
 apply aX
 case hw => rfl
 case h1 =>
  intro W hW
  have cW := hW.cells
  unfold Oper.quietAt
  go_simp
  refine And.intro rfl ?_
  with_reducible rfl
 apply aX
 case hw => rfl
 case h1 =>
  intro W hW
  have cW := hW.cells
  unfold Oper.quietAt
  go_simp
  refine And.intro rfl ?_
  with_reducible rfl
 apply aX
 case hw => rfl
 case h1 =>
  intro W hW
  have cW := hW.cells
  unfold Oper.quietAt
  go_simp
  refine And.intro rfl ?_
  with_reducible rfl
 apply aX
 case hw => rfl
 case h1 =>
  intro W hW
  have cW := hW.cells
  unfold Oper.quietAt
  go_simp
  refine And.intro rfl ?_
  exact HR2.out _ _ hW
 apply aX
 case hw => rfl
 case h1 =>
  intro W hW
  have cW := hW.cells
  unfold Oper.quietAt
  go_simp
  refine And.intro rfl ?_
  with_reducible rfl
 apply aX
 case hw => rfl
 case h1 =>
  intro W hW
  have cW := hW.cells
  unfold Oper.quietAt
  go_simp
  refine And.intro rfl ?_
  with_reducible rfl
 apply aX
 case hw => rfl
 case h1 =>
  intro W hW
  have cW := hW.cells
  unfold Oper.quietAt
  go_simp
  refine And.intro rfl ?_
  with_reducible rfl
 refine wpQuiet_nil ?_
 intro W hW
 refine yY rfl rfl ?_
 go_simp
 go_at_call 177
 refine Calls.mono (HAD.out _ _ hW) ?_
 rintro e w3 ⟨rfl, K3⟩
 go_simp
 refine tX (by kernel_rfl) ?_ _
 obtain ⟨v3, C3, F3⟩ := K3.fin
 go_wp2_with fail
 exact bodyPost_end (by simp [results, Tryz.results142, go_sem]) rfl ⟨rfl, v3, C3, FB.trans F3⟩
theorem aIt : sW := fun _ _ _ _ _ _ _ h x y1 y2 y3 z1 z2 z3 hx hl n1 n2 => aEa h x y1 y2 y3 z1 z2 z3 hx hl n1 n2
end
theorem kS (c : Cc) (s : Stp) : (c.add s).st.length = c.st.length + 1 /\ (c.add s).lp = c.lp := by simp [Cc.add]
theorem lS (c : Cc) (n : Nat) : (c.land n).st.length = c.st.length /\ (c.land n).lp = c.lp := by simp [Cc.land]
def aLx {β : Type} (blk : Cc -> β -> Cc) (f : β -> Nat) : Prop := ∀ c x, c.st.length <= (blk c x).st.length /\ (blk c x).st.length <= c.st.length + f x /\ (blk c x).lp = c.lp
theorem aNw {β : Type} {blk : Cc -> β -> Cc} {f : β -> Nat} (hb : aLx blk f) (c : Cc) (s : St) (y z : β) : c.st.length <= (c.ifs blk s y z).st.length /\ (c.ifs blk s y z).st.length <= c.st.length + 2 + f y + f z /\ (c.ifs blk s y z).lp = c.lp := by
 unfold Cc.ifs
 simp only
 obtain ⟨a1, a2⟩ := kS c (c.nM s.cond)
 obtain ⟨b1, b2, b3⟩ := hb (c.add (c.nM s.cond)) y
 generalize blk (c.add (c.nM s.cond)) y = c2 at *
 obtain ⟨d1, d2⟩ := kS c2 (jL 0)
 obtain ⟨e1, e2⟩ := lS (c2.add (jL 0)) c.st.length
 obtain ⟨g1, g2, g3⟩ := hb ((c2.add (jL 0)).land c.st.length) z
 obtain ⟨h1, h2⟩ := lS (blk ((c2.add (jL 0)).land c.st.length) z) c2.st.length
 rw [h1, h2]
 omega
def Cc.c3 (c : Cc) (s : St) : Cc := ((c.add ⟨12, (0, 0), (0, 0), false, false, (0, 0), (0, 0), c.lp, s.times.1, 0⟩).add ⟨13, (0, 0), (0, 0), false, false, (0, 0), (0, 0), c.lp, 0, 0⟩).add (((c.add ⟨12, (0, 0), (0, 0), false, false, (0, 0), (0, 0), c.lp, s.times.1, 0⟩).add ⟨13, (0, 0), (0, 0), false, false, (0, 0), (0, 0), c.lp, 0, 0⟩).nM s.cond)
def Cc.up (c : Cc) : Cc := { c with lp := c.lp + 1 }
def Cc.dn (c : Cc) : Cc := { c with lp := c.lp - 1 }
theorem x9 {β : Type} (blk : Cc -> β -> Cc) (c : Cc) (s : St) (y : β) : c.rep blk s y = (((blk (c.c3 s).up y).dn.add (jL (c.st.length + 1))).land (c.st.length + 1)).land (c.st.length + 2) := rfl
theorem aQ1 (c : Cc) (s : St) : (c.c3 s).up.st.length = c.st.length + 3 /\ (c.c3 s).up.lp = c.lp + 1 := by simp [Cc.c3, Cc.up, Cc.add]
theorem aLe (c : Cc) : c.dn.st.length = c.st.length /\ c.dn.lp = c.lp - 1 := ⟨rfl, rfl⟩
theorem aM9 {β : Type} {blk : Cc -> β -> Cc} {f : β -> Nat} (hb : aLx blk f) (c : Cc) (s : St) (y : β) : c.st.length <= (c.rep blk s y).st.length /\ (c.rep blk s y).st.length <= c.st.length + 4 + f y /\ (c.rep blk s y).lp = c.lp := by
 rw [x9]
 obtain ⟨a1, a2⟩ := aQ1 c s
 obtain ⟨b1, b2, b3⟩ := hb (c.c3 s).up y
 generalize blk (c.c3 s).up y = c4 at *
 obtain ⟨d1, d2⟩ := aLe c4
 rw [(lS _ _).1, (lS _ _).1, (lS _ _).2, (lS _ _).2, (kS _ _).1, (kS _ _).2]
 omega
theorem aFx {β : Type} {blk : Cc -> β -> Cc} {f : β -> Nat} (hb : aLx blk f) (c : Cc) (r : St × β × β) : c.st.length <= (c.bJ blk r).st.length /\ (c.bJ blk r).st.length <= c.st.length + 4 + f r.2.1 + f r.2.2 /\ (c.bJ blk r).lp = c.lp := by
 unfold Cc.bJ
 split
 ·have := aNw hb c r.1 r.2.1 r.2.2; omega
 ·split
  ·have := aM9 hb c r.1 r.2.1; omega
  ·have := kS c (c.pln r.1); omega
theorem aCq {β : Type} {blk : Cc -> β -> Cc} {f : β -> Nat} (hb : aLx blk f) : ∀ (xs : List (St × β × β)) (c : Cc), c.st.length <= (List.foldl (fun c r => c.bJ blk r) c xs).st.length /\ (List.foldl (fun c r => c.bJ blk r) c xs).st.length <= c.st.length + iZ f xs /\ (List.foldl (fun c r => c.bJ blk r) c xs).lp = c.lp
 | [], c => ⟨zR, zR, rfl⟩
 | r :: xs, c => by
  have h1 := aFx hb c r
  have h2 := aCq hb xs (c.bJ blk r)
  simp only [List.foldl_cons, iZ]
  omega
theorem sV : ∀ d, aLx (Cc.blk d) (bP d)
 | 0 => fun _c _x => ⟨zR, zR, rfl⟩
 | d + 1 => fun c x => aCq (sV d) x c
def MB (d : Nat) : Prop := ∀ (w : World) (lo cb ib rb : Nat) (v : Nat -> Value) (c : Cc) (y : Value) (x : BT d), Cw w lo cb ib rb v c -> aY d w (fun g => g < lo) y x -> cZ d x -> c.st.length + bP d x <= 900000 -> c.lp + d <= 100 ->
 Calls Tryz.prog 109 #[ptr cb, y] w (sD w lo cb ib rb v (.tuple #[]) (c.blk d x))
section
variable {w : World} {lo cb ib rb : Nat} {v : Nat -> Value} {c : Cc}
theorem aIk {fn : Func} {R : Ending -> World -> Prop} {a : Act} {w : World} (hr : fn.results = #[]) (hd : a.defers = []) (hR : R (.returned (.tuple #[])) w) : bodyPost Tryz.prog fn R .normal a w :=
 bodyPost_end (by simp [results, hr, go_sem]) hd hR
theorem aNj {d : Nat} (HT : rY) (HB : MB d) (h : Cw w lo cb ib rb v c) (x : St) (y z : Value) (ty tz : BT d) (hy : aY d w (fun g => g < lo) y ty) (hz : aY d w (fun g => g < lo) z tz) (hx : x.small) (hsy : cZ d ty) (hsz : cZ d tz) (hco : c.st.length + 4 + bP d ty + bP d tz <= 900000) (hlp : c.lp + d <= 99) :
  Calls Tryz.prog 175 #[ptr cb, .agg (stA x y z)] w (sD w lo cb ib rb v (.tuple #[]) (c.ifs (Cc.blk d) x ty tz)) := by
 obtain ⟨y1, y2, y3, rfl⟩ := aY.form d _ _ hy
 obtain ⟨z1, z2, z3, rfl⟩ := aY.form d _ _ hz
 have h1 := h.alloc (.cells (stA x (.slice y1 y2 y3) (.slice z1 z2 z3)) 282)
 have b1 : (w.alloc (.cells (stA x (.slice y1 y2 y3) (.slice z1 z2 z3)) 282)).heap[w.heap.size]? = some (.cells (stA x (.slice y1 y2 y3) (.slice z1 z2 z3)) 282) := aC rfl
 have F1 := Fr.of cb ib rb v ((Below.refl w.heap.size w).alloc zR (.cells (stA x (.slice y1 y2 y3) (.slice z1 z2 z3)) 282))
 have hm : ¬ Mine cb ib rb v w.heap.size := fun hm => by have := (h.jR hm).2; omega
 have T1 := HT _ lo cb ib rb v c h1 x.cond hx.2.2 (by omega)
 have e1 : Hid (c.ifs (Cc.blk d) x ty tz = (Cc.blk d ((((c.add (c.nM x.cond)).blk d ty).add (jL 0)).land c.st.length) tz).land ((c.add (c.nM x.cond)).blk d ty).st.length) := rfl
 have l1 := kS c (c.nM x.cond)
 generalize c.add (c.nM x.cond) = c1 at *
 have l2 := sV d c1 ty
 have HB2 := fun (w : World) (v : Nat -> Value) (h : Cw w lo cb ib rb v c1) (hs : aY d w (fun g => g < lo) (.slice y1 y2 y3) ty) => HB w lo cb ib rb v c1 (.slice y1 y2 y3) ty h hs hsy (by omega) (by omega)
 generalize c1.blk d ty = c2 at *
 have l3 := kS c2 (jL 0)
 have l4 := lS (c2.add (jL 0)) c.st.length
 have A3 := fun (w : World) (v : Nat -> Value) (h : Cw w lo cb ib rb v c2) => pI h (jL 0) (by omega)
 have L4 := fun (w : World) (v : Nat -> Value) (h : Cw w lo cb ib rb v (c2.add (jL 0))) => sU h c.st.length (by omega) (by omega)
 generalize c2.add (jL 0) = c3 at *
 generalize c3.land c.st.length = c4 at *
 have l5 := sV d c4 tz
 have HB5 := fun (w : World) (v : Nat -> Value) (h : Cw w lo cb ib rb v c4) (hs : aY d w (fun g => g < lo) (.slice z1 z2 z3) tz) => HB w lo cb ib rb v c4 (.slice z1 z2 z3) tz h hs hsz (by omega) (by omega)
 generalize c4.blk d tz = c5 at *
 have L6 := fun (w : World) (v : Nat -> Value) (h : Cw w lo cb ib rb v c5) => sU h c2.st.length (by omega) (by omega)
 have A3 : Hid _ := A3
 have L4 : Hid _ := L4
 have L6 : Hid _ := L6
 have HB2 : Hid _ := HB2
 have HB5 : Hid _ := HB5
 clear HT HB hx hsy hsz
 clear l1 l2 l3 l4 l5
 go_enter Tryz.func175, Tryz.ntmps175
 go_wp2_with fail
 refine T1.mono ?_
 rintro e w2 ⟨rfl, v2, C2, F2⟩
 have G2 := F1.trans F2
 have b2 := F2.at' b1 hm
 have hm2 : ¬ Mine cb ib rb v2 w.heap.size := fun hm2 => by
  rcases F2.new _ hm2 with h3 | h3
  ·exact hm h3
  ·have := (zL b1)
   omega
 have hy2 := aY.fr h G2 hy
 have hz2 := aY.fr h G2 hz
 have q2 : w2.cell? ⟨w.heap.size, 22, none⟩ = some (.slice y1 y2 y3) := by simp [World.cell?, b2]
 clear T1 b1 h1 F1 F2
 generalize hbx : w.heap.size = bx at *
 clear hbx
 go_wp2_with fail
 refine (HB2.out _ _ C2 hy2).mono ?_
 rintro e w3 ⟨rfl, v3, C3, F3⟩
 have hb3 : bx < w2.heap.size := (zL b2)
 have b3 := F3.at' b2 hm2
 have hm3 : ¬ Mine cb ib rb v3 bx := fun hm3 => by
  rcases F3.new _ hm3 with h3 | h3
  ·exact hm2 h3
  ·omega
 have hz3 := aY.fr C2 F3 hz2
 clear q2
 go_wp2_with fail
 refine (A3.out _ _ C3).mono ?_
 rintro e w4 ⟨rfl, v4, C4, F4⟩
 have hb4 : bx < w3.heap.size := (zL b3)
 have b4 := F4.at' b3 hm3
 have hm4 : ¬ Mine cb ib rb v4 bx := fun hm4 => by
  rcases F4.new _ hm4 with h3 | h3
  ·exact hm3 h3
  ·omega
 have hz4 := aY.fr C3 F4 hz3
 go_wp2_with fail
 refine (L4.out _ _ C4).mono ?_
 rintro e w5 ⟨rfl, v5, C5, F5⟩
 have b5 := F5.at' b4 hm4
 have hz5 := aY.fr C4 F5 hz4
 have q5 : w5.cell? ⟨bx, 24, none⟩ = some (.slice z1 z2 z3) := by simp [World.cell?, b5]
 go_wp2_with fail
 refine (HB5.out _ _ C5 hz5).mono ?_
 rintro e w6 ⟨rfl, v6, C6, F6⟩
 go_wp2_with fail
 refine (L6.out _ _ C6).mono ?_
 rintro e w7 ⟨rfl, v7, C7, F7⟩
 go_wp2_with fail
 rw [e1.out]
 exact aIk rfl rfl ⟨rfl, v7, C7, ((((G2.trans F3).trans F4).trans F5).trans F6).trans F7⟩
theorem aKd {d : Nat} (HT : rY) (HB : MB d) (h : Cw w lo cb ib rb v c) (x : St) (y z : Value) (ty tz : BT d) (hy : aY d w (fun g => g < lo) y ty) (hz : aY d w (fun g => g < lo) z tz) (hx : x.small) (hsy : cZ d ty) (hco : c.st.length + 4 + bP d ty + bP d tz <= 900000) (hlp : c.lp + d <= 99) :
  Calls Tryz.prog 176 #[ptr cb, .agg (stA x y z)] w (sD w lo cb ib rb v (.tuple #[]) (c.rep (Cc.blk d) x ty)) := by
 obtain ⟨y1, y2, y3, rfl⟩ := aY.form d _ _ hy
 obtain ⟨z1, z2, z3, rfl⟩ := aY.form d _ _ hz
 have h1 := h.alloc (.cells (stA x (.slice y1 y2 y3) (.slice z1 z2 z3)) 282)
 have b1 : (w.alloc (.cells (stA x (.slice y1 y2 y3) (.slice z1 z2 z3)) 282)).heap[w.heap.size]? = some (.cells (stA x (.slice y1 y2 y3) (.slice z1 z2 z3)) 282) := aC rfl
 have F1 := Fr.of cb ib rb v ((Below.refl w.heap.size w).alloc zR (.cells (stA x (.slice y1 y2 y3) (.slice z1 z2 z3)) 282))
 have hm : ¬ Mine cb ib rb v w.heap.size := fun hm => by have := (h.jR hm).2; omega
 have A1 := pI h1 ⟨12, (0, 0), (0, 0), false, false, (0, 0), (0, 0), c.lp, x.times.1, 0⟩ (by omega)
 have e1 := x9 (Cc.blk d) c x ty
 have l1 := kS c ⟨12, (0, 0), (0, 0), false, false, (0, 0), (0, 0), c.lp, x.times.1, 0⟩
 have e3 : c.c3 x = ((c.add ⟨12, (0, 0), (0, 0), false, false, (0, 0), (0, 0), c.lp, x.times.1, 0⟩).add ⟨13, (0, 0), (0, 0), false, false, (0, 0), (0, 0), c.lp, 0, 0⟩).add (((c.add ⟨12, (0, 0), (0, 0), false, false, (0, 0), (0, 0), c.lp, x.times.1, 0⟩).add ⟨13, (0, 0), (0, 0), false, false, (0, 0), (0, 0), c.lp, 0, 0⟩).nM x.cond) := rfl
 rw [e3] at e1
 clear e3
 generalize c.add ⟨12, (0, 0), (0, 0), false, false, (0, 0), (0, 0), c.lp, x.times.1, 0⟩ = c1 at *
 have l2 := kS c1 ⟨13, (0, 0), (0, 0), false, false, (0, 0), (0, 0), c.lp, 0, 0⟩
 have A2 := fun (w : World) (v : Nat -> Value) (h : Cw w lo cb ib rb v c1) => pI h ⟨13, (0, 0), (0, 0), false, false, (0, 0), (0, 0), c.lp, 0, 0⟩ (by omega)
 generalize c1.add ⟨13, (0, 0), (0, 0), false, false, (0, 0), (0, 0), c.lp, 0, 0⟩ = c2 at *
 have l3 := kS c2 (c2.nM x.cond)
 have T3 := fun (w : World) (v : Nat -> Value) (h : Cw w lo cb ib rb v c2) => HT w lo cb ib rb v c2 h x.cond hx.2.2 (by omega)
 generalize c2.add (c2.nM x.cond) = c3 at *
 have l4 : c3.up.st.length = c3.st.length /\ c3.up.lp = c3.lp + 1 := ⟨rfl, rfl⟩
 have U3 := fun (w : World) (v : Nat -> Value) (h : Cw w lo cb ib rb v c3) => (show Cw (w.setCell ⟨cb, 9, none⟩ (.int .i64 ((c3.lp + 1 : Nat) : Int))) lo cb ib rb v c3.up from h.aO1 (c3.lp + 1))
 have HB4 := fun (w : World) (v : Nat -> Value) (h : Cw w lo cb ib rb v c3.up) (hs : aY d w (fun g => g < lo) (.slice y1 y2 y3) ty) => HB w lo cb ib rb v c3.up (.slice y1 y2 y3) ty h hs hsy (by omega) (by omega)
 have l5 := sV d c3.up ty
 generalize c3.up.blk d ty = c4 at *
 have l6 := aLe c4
 have U5 := fun (w : World) (v : Nat -> Value) (h : Cw w lo cb ib rb v c4) => (show Cw (w.setCell ⟨cb, 9, none⟩ (.int .i64 ((c4.lp - 1 : Nat) : Int))) lo cb ib rb v c4.dn from h.aO1 (c4.lp - 1))
 have A6 := fun (w : World) (v : Nat -> Value) (h : Cw w lo cb ib rb v c4.dn) => pI h (jL (c.st.length + 1)) (by omega)
 have l7 := kS c4.dn (jL (c.st.length + 1))
 generalize c4.dn.add (jL (c.st.length + 1)) = c6 at *
 have L7 := fun (w : World) (v : Nat -> Value) (h : Cw w lo cb ib rb v c6) => sU h (c.st.length + 1) (by omega) (by omega)
 have l8 := lS c6 (c.st.length + 1)
 generalize c6.land (c.st.length + 1) = c7 at *
 have L8 := fun (w : World) (v : Nat -> Value) (h : Cw w lo cb ib rb v c7) => sU h (c.st.length + 2) (by omega) (by omega)
 have e1 : Hid (c.rep (Cc.blk d) x ty = c7.land (c.st.length + 2)) := e1
 have k1 : c1.st.length = c.st.length + 1 := l1.1
 have k2 : c2.st.length = c.st.length + 2 := by omega
 have k4 : c3.lp = c.lp := by omega
 have k5 : c4.lp = c.lp + 1 := by omega
 have A2 : Hid (∀ (w : World) (v : Nat -> Value), Cw w lo cb ib rb v c1 -> Calls Tryz.prog 177 #[ptr cb, .agg (zJ ⟨13, (0, 0), (0, 0), false, false, (0, 0), (0, 0), c.lp, 0, 0⟩)] w (sD w lo cb ib rb v (.int .i64 (c.st.length + 1 : Nat)) c2)) := fun w v h => by rw [<- k1]; exact A2 w v h
 have T3 : Hid (∀ (w : World) (v : Nat -> Value), Cw w lo cb ib rb v c2 -> Calls Tryz.prog 196 #[ptr cb, cdV x.cond] w (sD w lo cb ib rb v (.int .i64 (c.st.length + 2 : Nat)) c3)) := fun w v h => by rw [<- k2]; exact T3 w v h
 have U3 : Hid (∀ (w : World) (v : Nat -> Value), Cw w lo cb ib rb v c3 -> Cw (w.setCell ⟨cb, 9, none⟩ (.int .i64 ((c.lp + 1 : Nat) : Int))) lo cb ib rb v c3.up) := fun w v h => by rw [<- k4]; exact U3 w v h
 have U5 : Hid (∀ (w : World) (v : Nat -> Value), Cw w lo cb ib rb v c4 -> Cw (w.setCell ⟨cb, 9, none⟩ (.int .i64 (c.lp : Int))) lo cb ib rb v c4.dn) := fun w v h => by have := U5 w v h; rw [k5] at this; exact this
 have HB4 : Hid _ := HB4
 have A6 : Hid _ := A6
 have L7 : Hid _ := L7
 have L8 : Hid _ := L8
 have K4 : Hid (c3.lp = c.lp /\ c4.lp = c.lp + 1) := ⟨k4, k5⟩
 have aVi : c.lp <= 99 := by omega
 have U3 : Hid (∀ (w : World) (v : Nat -> Value), Cw w lo cb ib rb v c3 -> Cw (w.setCell ⟨cb, 9, none⟩ (.int .i64 ((c.lp : Int) + 1))) lo cb ib rb v c3.up) := fun w v h => U3.out w v h
 clear HT HB hx hsy hco hlp l1 l2 l3 l4 l5 l6 l7 l8 k1 k2 k4 k5
 generalize c.st.length + 1 = m1 at *
 generalize c.st.length + 2 = m2 at *
 obtain ⟨a1, af1⟩ := aA h1.at'
 go_enter Tryz.func176, Tryz.ntmps176
 go_wp2_with fail
 refine A1.mono ?_
 rintro e w2 ⟨rfl, v2, C2, F2⟩
 have G2 := F1.trans F2
 have b2 := F2.at' b1 hm
 have hm2 : ¬ Mine cb ib rb v2 w.heap.size := fun hm2 => by
  rcases F2.new _ hm2 with h3 | h3
  ·exact hm h3
  ·have := (zL b1)
   omega
 have hy2 := aY.fr h G2 hy
 clear A1 b1 h1 F1 F2 a1 af1
 generalize hbx : w.heap.size = bx at *
 clear hbx
 go_wp2_with fail
 refine (A2.out _ _ C2).mono ?_
 rintro e w3 ⟨rfl, v3, C3, F3⟩
 have hb3 : bx < w2.heap.size := (zL b2)
 have b3 := F3.at' b2 hm2
 have hm3 : ¬ Mine cb ib rb v3 bx := fun hm3 => by
  rcases F3.new _ hm3 with h3 | h3
  ·exact hm2 h3
  ·omega
 have hy3 := aY.fr C2 F3 hy2
 obtain ⟨a3, af3⟩ := aA b3
 go_wp2_with fail
 refine (T3.out _ _ C3).mono ?_
 rintro e w4 ⟨rfl, v4, C4, F4⟩
 have hb4 : bx < w3.heap.size := (zL b3)
 have b4 := F4.at' b3 hm3
 have hm4 : ¬ Mine cb ib rb v4 bx := fun hm4 => by
  rcases F4.new _ hm4 with h3 | h3
  ·exact hm3 h3
  ·omega
 have hy4 := aY.fr C3 F4 hy3
 have e4 := C4.at'
 rw [K4.out.1] at e4
 have C5 := U3.out _ _ C4
 have F5 := C4.own4 9 (.int .i64 ((c.lp : Int) + 1))
 have b5 := F5.at' b4 hm4
 have hy5 := aY.fr C4 F5 hy4
 obtain ⟨a4, af4⟩ := aA e4
 obtain ⟨a5, af5⟩ := aA b5
 have hb5 : bx < (w4.setCell ⟨cb, 9, none⟩ (.int .i64 ((c.lp : Int) + 1))).heap.size := (zL b5)
 clear a3 af3
 go_wp2_with fail
 generalize w4.setCell ⟨cb, 9, none⟩ (.int .i64 ((c.lp : Int) + 1)) = w5 at *
 refine (HB4.out _ _ C5 hy5).mono ?_
 rintro e w6 ⟨rfl, v6, C6, F6⟩
 have e6 := C6.at'
 rw [K4.out.2] at e6
 obtain ⟨a6, af6⟩ := aA e6
 have C7 := U5.out _ _ C6
 have F7 := C6.own4 9 (.int .i64 (c.lp : Int))
 clear a4 af4 a5 af5
 go_wp2_with fail
 generalize w6.setCell ⟨cb, 9, none⟩ (.int .i64 (c.lp : Int)) = w7 at *
 refine (A6.out _ _ C7).mono ?_
 rintro e w8 ⟨rfl, v8, C8, F8⟩
 go_wp2_with fail
 refine (L7.out _ _ C8).mono ?_
 rintro e w9 ⟨rfl, v9, C9, F9⟩
 go_wp2_with fail
 refine (L8.out _ _ C9).mono ?_
 rintro e w10 ⟨rfl, v10, C10, F10⟩
 go_wp2_with fail
 rw [e1.out]
 exact aIk rfl rfl ⟨rfl, v10, C10, (((((((G2.trans F3).trans F4).trans F5).trans F6).trans F7).trans F8).trans F9).trans F10⟩
theorem aKc {d : Nat} (HT : rY) (HP : sW) (HB : MB d) (h : Cw w lo cb ib rb v c) (x : St) (y z : Value) (ty tz : BT d) (hy : aY d w (fun g => g < lo) y ty) (hz : aY d w (fun g => g < lo) z tz) (hx : x.small) (hsy : cZ d ty) (hsz : cZ d tz) (hco : c.st.length + 4 + bP d ty + bP d tz <= 900000) (hlp : c.lp + d <= 99) :
  Calls Tryz.prog 142 #[ptr cb, .agg (stA x y z)] w (sD w lo cb ib rb v (.tuple #[]) (c.bJ (Cc.blk d) (x, ty, tz))) := by
 obtain ⟨y1, y2, y3, rfl⟩ := aY.form d _ _ hy
 obtain ⟨z1, z2, z3, rfl⟩ := aY.form d _ _ hz
 by_cases k1 : x.word = [105, 102]
 ·have e1 : c.bJ (Cc.blk d) (x, ty, tz) = c.ifs (Cc.blk d) x ty tz := by unfold Cc.bJ; rw [if_pos k1]
  rw [e1]
  clear e1
  have q1 : (x.word == [105, 102]) = true := by rw [k1]; rfl
  clear k1
  have h1 := h.alloc (.cells (stA x (.slice y1 y2 y3) (.slice z1 z2 z3)) 282)
  have F1 := Fr.of cb ib rb v ((Below.refl w.heap.size w).alloc zR (.cells (stA x (.slice y1 y2 y3) (.slice z1 z2 z3)) 282))
  have b1 : (w.alloc (.cells (stA x (.slice y1 y2 y3) (.slice z1 z2 z3)) 282)).heap[w.heap.size]? = some (.cells (stA x (.slice y1 y2 y3) (.slice z1 z2 z3)) 282) := aC rfl
  have HI := aNj HT HB h1 x _ _ ty tz (aY.fr h F1 hy) (aY.fr h F1 hz) hx hsy hsz hco hlp
  go_enter Tryz.func142, Tryz.ntmps142
  go_upto_region 4 with fail
  refine wp_region_lit ?_
  iterate 3 go_step
  refine wpList_load_row rfl 282 (.tmp 3) rfl w.heap.size rfl 282 _ _ _ b1 Tryz.underlying282 rfl (by kernel_rfl) ?_
  go_wp2_with fail
  refine HI.mono ?_
  rintro e w2 ⟨rfl, v2, C2, F2⟩
  go_wp2_with fail
  exact aIk rfl rfl ⟨rfl, v2, C2, F1.trans F2⟩
 by_cases k2 : x.word = [114, 101, 112, 101, 97, 116]
 ·have e1 : c.bJ (Cc.blk d) (x, ty, tz) = c.rep (Cc.blk d) x ty := by unfold Cc.bJ; rw [if_neg k1, if_pos k2]
  rw [e1]
  clear e1
  have q1 : (x.word == [105, 102]) = false := by rw [k2]; rfl
  have q2 : (x.word == [114, 101, 112, 101, 97, 116]) = true := by rw [k2]; rfl
  clear k1 k2
  have h1 := h.alloc (.cells (stA x (.slice y1 y2 y3) (.slice z1 z2 z3)) 282)
  have F1 := Fr.of cb ib rb v ((Below.refl w.heap.size w).alloc zR (.cells (stA x (.slice y1 y2 y3) (.slice z1 z2 z3)) 282))
  have b1 : (w.alloc (.cells (stA x (.slice y1 y2 y3) (.slice z1 z2 z3)) 282)).heap[w.heap.size]? = some (.cells (stA x (.slice y1 y2 y3) (.slice z1 z2 z3)) 282) := aC rfl
  have HI := aKd HT HB h1 x _ _ ty tz (aY.fr h F1 hy) (aY.fr h F1 hz) hx hsy hco hlp
  go_enter Tryz.func142, Tryz.ntmps142
  go_upto_region 6 with fail
  refine wp_region_lit ?_
  iterate 3 go_step
  refine wpList_load_row rfl 282 (.tmp 3) rfl w.heap.size rfl 282 _ _ _ b1 Tryz.underlying282 rfl (by kernel_rfl) ?_
  go_wp2_with fail
  refine HI.mono ?_
  rintro e w2 ⟨rfl, v2, C2, F2⟩
  go_wp2_with fail
  exact aIk rfl rfl ⟨rfl, v2, C2, F1.trans F2⟩
 ·have e1 : c.bJ (Cc.blk d) (x, ty, tz) = c.add (c.pln x) := by unfold Cc.bJ; rw [if_neg k1, if_neg k2]
  rw [e1]
  exact HP w lo cb ib rb v c h x y1 y2 y3 z1 z2 z3 hx (by omega) (by simpa using k1) (by simpa using k2)
end
theorem aH8 : MB 0 := by
 intro w lo cb ib rb v c y x h hv _ _ _
 have hv : y = aF := hv
 subst hv
 go_enter Tryz.func109, Tryz.ntmps109
 go_wp2_with fail
 go_loopg [8] 0 (fun f i wr => wr = w /\ i = .int .i64 0)
 case atStart => exact ⟨rfl, rfl⟩
 case round =>
  obtain ⟨rfl, rfl⟩ := hrel
  go_wp2_with fail
  exact aIk rfl rfl ⟨rfl, v, h, Fr.refl _ _ _ _ _⟩
theorem aE8 {β : Type} (f : β -> Nat) : ∀ (xs : List (St × β × β)) (k : Nat) (r : St × β × β), xs.drop k = r :: xs.drop (k + 1) -> iZ f (xs.drop k) = 4 + f r.2.1 + f r.2.2 + iZ f (xs.drop (k + 1)) := fun xs k r h => by
 rw [h]; rfl
theorem aH9 {d : Nat} (HT : rY) (HP : sW) (HB : MB d) : MB (d + 1) := by
 intro w lo cb ib rb v c y x h hv hsm hco hlp
 obtain ⟨rows, dW, hown, hN⟩ := hv
 have hlow := h.low
 have hlen : Hid (rows.length = List.length x) := bZ.len _ _ dW
 generalize hs : c.blk (d + 1) x = c'
 have HS : Hid (c' = List.foldl (fun c r => c.bJ (Cc.blk d) r) c x) := hs.symm
 clear hs
 have hco : c.st.length + iZ (bP d) x <= 900000 := hco
 obtain ⟨va, vk, vc, rfl⟩ := aU hown
 have hvk : vk = rows.length := by
  rcases hown.2 with ⟨h1, h2⟩ | ⟨g, cap, cur, h1, _⟩
  ·simp at h1; omega
  ·simp at h1; omega
 subst hvk
 have hmax : rows.length <= maxLen := by
  rcases hown.2 with ⟨h1, h2⟩ | ⟨g, cap, cur, h1, _, _, h2, h3, _⟩
  ·omega
  ·omega
 have hmax : rows.length <= 9223372036854775807 := hmax
 go_enter Tryz.func109, Tryz.ntmps109
 go_wp2_with fail
 go_loopg [8] rows.length (fun f i wr => ∃ (k : Nat) (ck : Cc) (vk : Nat -> Value), k + f = rows.length /\ i = .int .i64 k /\ Cw wr lo cb ib rb vk ck /\ Fr cb ib rb v vk w wr /\ ck.st.length + iZ (bP d) (List.drop k x) <= 900000 /\ ck.lp + d <= 99 /\ Hid (c' = List.foldl (fun c r => c.bJ (Cc.blk d) r) ck (List.drop k x)))
 case atStart => exact ⟨0, c, v, by omega, rfl, h, Fr.refl _ _ _ _ _, hco, by omega, HS⟩
 case round =>
  obtain ⟨k, ck, vk, hk, rfl, h1, K1, hc1, hl1, HK⟩ := hrel
  by_cases hlt : k < rows.length
  ·obtain ⟨st, y, z, ty, tz, r1, r2, r3, r4, r5⟩ := bZ.at _ _ dW k hlt
   obtain ⟨y1, y2, y3, rfl⟩ := aY.form d _ _ r4
   obtain ⟨z1, z2, z3, rfl⟩ := aY.form d _ _ r5
   have y4 := aY.fr h K1 r4
   have z4 := aY.fr h K1 r5
   obtain ⟨m1, m2, m3⟩ := qX.at _ hsm k _ r2
   have hcd := aE8 (bP d) x k _ r3
   have hcd : iZ (bP d) (List.drop k x) = 4 + bP d ty + bP d tz + iZ (bP d) (List.drop (k + 1) x) := hcd
   have hsl := aFx (sV d) ck (st, ty, tz)
   have hsl : ck.st.length <= (ck.bJ (Cc.blk d) (st, ty, tz)).st.length /\ (ck.bJ (Cc.blk d) (st, ty, tz)).st.length <= ck.st.length + 4 + bP d ty + bP d tz /\ (ck.bJ (Cc.blk d) (st, ty, tz)).lp = ck.lp := hsl
   have HH : Hid ((ck.bJ (Cc.blk d) (st, ty, tz)).st.length + iZ (bP d) (List.drop (k + 1) x) <= 900000 /\ (ck.bJ (Cc.blk d) (st, ty, tz)).lp + d <= 99) := by constructor <;> omega
   have aT1 : ck.st.length + 4 + bP d ty + bP d tz <= 900000 := by omega
   have HK2 : Hid (c' = List.foldl (fun c r => c.bJ (Cc.blk d) r) (ck.bJ (Cc.blk d) (st, ty, tz)) (List.drop (k + 1) x)) := by show _ = _; rw [HK.out, r3]; rfl
   clear hcd hsl HK hc1
   have hg : ∃ g, va = some ⟨g, 0, none⟩ := by
    rcases hown.2 with ⟨h1, h2⟩ | ⟨g, cap, cur, h1, _⟩
    ·omega
    ·simp at h1; exact ⟨g, h1.1⟩
   obtain ⟨g, rfl⟩ := hg
   have hgl : g < lo := hN g rfl
   have hix : ∀ W : World, (Instr.indexAt 204 (.slice (some ⟨g, 0, none⟩) rows.length vc) (.int .i64 k)).run Tryz.prog W = .ok (.pointer (some ⟨g, k * 25, none⟩)) W := by
    intro W
    rw [run_indexAt_slice (h := by kernel_rfl), if_pos (by omega)]
    have : (sizeOf (Tryz.prog.elem 204)).run Tryz.prog W = .ok 25 W := by kernel_rfl
    rw [this]
    simp [Result.andThen, Addr.add]
    omega
   have hown1 : wr.ownsRow 0 282 25 (.slice (some ⟨g, 0, none⟩) rows.length vc) rows.length (nX rows) := kN hown (fun q hq hl => by simp [Value.ownBlock] at hq; subst hq; exact K1.block _ hl (fun hm => by have := (h.jR hm).1; omega))
   have hrg : wr.rangeAt g (k * 25) (stA st (.slice y1 y2 y3) (.slice z1 z2 z3)).toList := fun j u hu => by
    have hj : j < 25 := by have := (List.getElem?_eq_some_iff.1 hu).1; simpa using this
    rw [hown1.cellAt _ (by have : k + 1 <= rows.length := hlt; omega)]
    exact G8 rows k _ r1 j u hu
   go_upto_region 2 with fail
   refine wp_region_lit ?_
   iterate 3 go_step
   refine wpList_load_mid rfl 282 (.tmp 10) rfl g (k * 25) rfl (stA st (.slice y1 y2 y3) (.slice z1 z2 z3)).toList _ hrg Tryz.underlying282 rfl (by kernel_rfl) ?_
   iterate 3 go_step
   refine mZ rfl 282 (.tmp 5) (.tmp 11) rfl (stA st (.slice y1 y2 y3) (.slice z1 z2 z3)) rfl rfl (by kernel_rfl) rfl (by simp [Value.oneCell']) ?_
   intro w2 B2 hb2 hz2
   have h2 := h1.grow B2
   have K2 := Fr.of cb ib rb vk B2
   have y5 := aY.fr h1 K2 y4
   have z5 := aY.fr h1 K2 z4
   have HX := aKc HT HP HB h2 st _ _ ty tz y5 z5 m1 m2 m3 aT1 hl1
   go_upto_region 3 with fail
   refine wp_region_lit ?_
   iterate 3 go_step
   refine wpList_load_row rfl 282 (.tmp 5) rfl wr.heap.size rfl 282 _ _ _ hb2 Tryz.underlying282 rfl (by kernel_rfl) ?_
   go_wp2_with fail
   refine HX.mono ?_
   rintro e w3 ⟨rfl, v3, h3, K3⟩
   go_wp2_with fail
   go_roundg (gk - 1)
   case measure => omega
   case rel =>
    exact ⟨k + 1, ck.bJ (Cc.blk d) (st, ty, tz), v3, by omega, by simp, h3, (K1.trans K2).trans K3, HH.out.1, HH.out.2, HK2⟩
  ·have e0 : List.drop k x = [] := List.drop_eq_nil_iff.2 (by have := hlen.out; omega)
   have e1 : c' = ck := by rw [HK.out, e0]; rfl
   subst e1
   go_wp2_with fail
   exact aIk rfl rfl ⟨rfl, vk, h1, K1⟩
theorem aB9 (HT : rY) (HP : sW) : ∀ d, MB d
 | 0 => aH8
 | d + 1 => aH9 HT HP (aB9 HT HP d)
def Cc.jH (c : Cc) (d : Dc) : Cc :=
 if d.word = [113, 117, 101, 117, 101] then { c with ix := (d.name.1, c.ro.length) :: c.ix, ev := c.ev ++ [d.name.1], gh := c.gh ++ [false], ro := c.ro ++ [d.num.1] }
 else if d.word = [103, 104, 111, 115, 116] then { c with ix := (d.name.1, c.ro.length) :: c.ix, ev := c.ev ++ [d.name.1], gh := c.gh ++ [true], ro := c.ro ++ [d.num.1] }
 else if d.word = [118, 97, 114] then { c with ix := (d.name.1, c.mo.length) :: c.ix, vn := c.vn ++ [d.name.1], mo := c.mo ++ [d.num.1] }
 else if d.word = [102, 114, 101, 113] then { c with mf := d.num.1 } else c
def Cc.upto (c : Cc) (k : Nat) : Prop := c.ix.length <= k /\ c.ev.length <= k /\ c.gh.length <= k /\ c.ro.length <= k /\ c.mo.length <= k /\ c.vn.length <= k
theorem aCz {c : Cc} {k : Nat} (h : c.upto k) (d : Dc) : (c.jH d).upto (k + 1) /\ (c.jH d).rt = c.rt /\ (c.jH d).lp = c.lp /\ (c.jH d).st = c.st := by
 obtain ⟨h1, h2, h3, h4, h5, h6⟩ := h
 unfold Cc.jH
 refine ⟨?_, ?_, ?_, ?_⟩
 ·repeat' split
  all_goals (unfold Cc.upto; first | (simp; omega) | omega)
 ·repeat' split
  all_goals rfl
 ·repeat' split
  all_goals rfl
 ·repeat' split
  all_goals rfl
def NrB {β : Type} (blk : Cc -> β -> Cc) : Prop := ∀ c x, (blk c x).rt = c.rt /\ (blk c x).ix = c.ix
theorem aPw {β : Type} {blk : Cc -> β -> Cc} (hb : NrB blk) (c : Cc) (r : St × β × β) : (c.bJ blk r).rt = c.rt /\ (c.bJ blk r).ix = c.ix := by
 unfold Cc.bJ
 split
 ·unfold Cc.ifs
  simp only
  have h1 := hb (c.add (c.nM r.1.cond)) r.2.1
  generalize blk (c.add (c.nM r.1.cond)) r.2.1 = c2 at *
  have h2 := hb ((c2.add (jL 0)).land c.st.length) r.2.2
  exact ⟨h2.1.trans h1.1, h2.2.trans h1.2⟩
 ·split
  ·rw [x9]
   have h1 := hb (c.c3 r.1).up r.2.1
   exact ⟨h1.1, h1.2⟩
  ·exact ⟨rfl, rfl⟩
theorem aGu {β : Type} {blk : Cc -> β -> Cc} (hb : NrB blk) : ∀ (xs : List (St × β × β)) (c : Cc), (List.foldl (fun c r => c.bJ blk r) c xs).rt = c.rt /\ (List.foldl (fun c r => c.bJ blk r) c xs).ix = c.ix
 | [], _ => ⟨rfl, rfl⟩
 | r :: xs, c => by
  have h1 := aPw hb c r
  have h2 := aGu hb xs (c.bJ blk r)
  exact ⟨h2.1.trans h1.1, h2.2.trans h1.2⟩
theorem aLv : ∀ d, NrB (Cc.blk d)
 | 0 => fun _ _ => ⟨rfl, rfl⟩
 | d + 1 => fun c x => aGu (aLv d) x c
def Cc.uC (c : Cc) : Cc := { c with st := [] }
def Cc.more (c : Cc) (k : List UInt8) : Cc := { c with rt := (k, c.st) :: c.rt }
def Cc.dS (c : Cc) (r : Nat × NP × BT 8) : Cc := ((c.blk 8 r.2.2).more r.2.1.1).uC
section
variable {w : World} {lo cb ib rb : Nat} {v : Nat -> Value} {c : Cc}
theorem aH7 (h : Cw w lo cb ib rb v c) (d : Dc) (hd : d.word = [113, 117, 101, 117, 101] \/ d.word = [103, 104, 111, 115, 116] \/ d.word = [118, 97, 114] \/ d.word = [102, 114, 101, 113]) (hn : d.name.1.length <= 700) (hu : c.upto 2900) :
  Calls Tryz.prog 108 #[ptr cb, .agg (eG d)] w (sD w lo cb ib rb v (.tuple #[]) (c.jH d)) := by
 obtain ⟨dw, dp, ⟨dn, dq⟩, ⟨dm, dr⟩⟩ := d
 obtain ⟨u1, u2, u3, u4, u5, u6⟩ := hu
 have hn : dn.length <= 700 := hn
 rcases hd with hd | hd | hd | hd
 ·have hd : dw = [113, 117, 101, 117, 101] := hd
  subst hd
  exact aB7 h dp dn dq dm dr hn u1 ⟨u2, u3, u4, u5, u6⟩
 ·have hd : dw = [103, 104, 111, 115, 116] := hd
  subst hd
  exact aB8 h dp dn dq dm dr hn u1 ⟨u2, u3, u4, u5, u6⟩
 ·have hd : dw = [118, 97, 114] := hd
  subst hd
  exact aH6 h dp dn dq dm dr hn u1 ⟨u2, u3, u4, u5, u6⟩
 ·have hd : dw = [102, 114, 101, 113] := hd
  subst hd
  exact aEb h dp dn dq dm dr
theorem Cw.clear (h : Cw w lo cb ib rb v c) : Cw (w.setCell ⟨cb, 8, none⟩ aF) lo cb ib rb (fun j => if j = 4 then aF else v j) c.uC /\ Fr cb ib rb v (fun j => if j = 4 then aF else v j) w (w.setCell ⟨cb, 8, none⟩ aF) := by
 have hb : ∀ k, k ≠ cb -> (w.setCell ⟨cb, 8, none⟩ aF).heap[k]? = w.heap[k]? := fun k hk => zS _ _ _ _ hk
 have hn : ∀ g, (aF).ownBlock ≠ some g := fun g hg => by simp [Value.ownBlock] at hg
 refine ⟨⟨(zC _ _ 8 aF _ _ h.at').trans rfl, fun i hi => ?_, fun i j hi hj hij g => ?_, fun i hi g => ?_, ?_, ?_, h.ne, ?_⟩, ⟨rfl, rfl, rfl, by simp [World.setCell], fun k hk hm => hb k (fun e => hm (Or.inl e)), fun k hk => ?_⟩⟩
 ·by_cases e : i = 4
  ·subst e
   simp only [if_pos]
   exact World.ownsRow_nil _ _ _ _
  ·simp only [if_neg e]
   have h5 : i = 0 \/ i = 1 \/ i = 2 \/ i = 3 \/ i = 5 := by omega
   have hrow : c.uC.num i = c.num i /\ c.uC.row i = c.row i := by rcases h5 with rfl | rfl | rfl | rfl | rfl <;> exact ⟨rfl, rfl⟩
   rw [hrow.1, hrow.2]
   exact aW (h.own i hi) (fun g hg _ => hb g (h.off i hi g hg).1)
 ·by_cases e : i = 4
  ·simp only [if_pos e]; exact fun hg => absurd hg (hn g)
  ·simp only [if_neg e]
   by_cases e2 : j = 4
   ·simp only [if_pos e2]; exact fun _ => hn g
   ·simp only [if_neg e2]; exact h.sep i j hi hj hij g
 ·by_cases e : i = 4
  ·simp only [if_pos e]; exact fun hg => absurd hg (hn g)
  ·simp only [if_neg e]; exact h.off i hi g
 ·obtain ⟨k, hk, hm⟩ := h.ix
  exact ⟨k, hk, hm.move (hb ib (Ne.symm h.ne.1))⟩
 ·refine h.ru.mv (hb rb (Ne.symm h.ne.2.1)) (fun k _ hm => hb k (fun e => hm (Or.inl e))) ?_
  intro k _ hm hk
  rcases hk with hk | hk | hk | ⟨i, hi, hg⟩
  ·exact hm (Or.inl hk)
  ·exact hm (Or.inr (Or.inl hk))
  ·exact hm (Or.inr (Or.inr (Or.inl hk)))
  ·by_cases e : i = 4
   ·simp only [if_pos e] at hg; exact absurd hg (hn k)
   ·simp only [if_neg e] at hg; exact hm (Or.inr (Or.inr (Or.inr ⟨i, hi, hg⟩)))
 ·have := h.low
  simp only [World.setCell, Array.size_modify]
  exact this
 ·rcases hk with hk | hk | hk | ⟨i, hi, hg⟩
  ·exact Or.inl (Or.inl hk)
  ·exact Or.inl (Or.inr (Or.inl hk))
  ·exact Or.inl (Or.inr (Or.inr (Or.inl hk)))
  ·by_cases e : i = 4
   ·simp only [if_pos e] at hg; exact absurd hg (hn k)
   ·simp only [if_neg e] at hg; exact Or.inl (Or.inr (Or.inr (Or.inr ⟨i, hi, hg⟩)))
theorem aS6 : Tryz.prog.underlying 121 = some (.map 9 169) := by kernel_rfl
theorem D7 {g : Nat} (hm : Mine cb ib rb (fun j => if j = 4 then aF else v j) g) : Mine cb ib rb v g := by
 rcases hm with hm | hm | hm | ⟨i, hi, hgi⟩
 ·exact Or.inl hm
 ·exact Or.inr (Or.inl hm)
 ·exact Or.inr (Or.inr (Or.inl hm))
 ·by_cases e : i = 4
  ·simp only [if_pos e] at hgi; simp [Value.ownBlock] at hgi
  ·simp only [if_neg e] at hgi; exact Or.inr (Or.inr (Or.inr ⟨i, hi, hgi⟩))
def CwX (w : World) (lo cb ib rb : Nat) (v : Nat -> Value) (c : Cc) : Prop :=
 (∃ a n k, w.heap[cb]? = some (.cells #[v 0, v 1, v 2, v 5, v 3, .int .i64 c.mf, .map (some rb), .map (some ib), .slice a n k, .int .i64 c.lp] 225)) /\ c.st = [] /\ Cw (w.setCell ⟨cb, 8, none⟩ aF) lo cb ib rb v c
theorem CwX.of (h : Cw w lo cb ib rb v c) (hs : c.st = []) : CwX w lo cb ib rb (fun j => if j = 4 then aF else v j) c := by
 obtain ⟨a, k, hv⟩ := h.form 4 (by decide)
 have h2 := h.clear.1
 have e : c.uC = c := by unfold Cc.uC; rw [<- hs]
 rw [e] at h2
 refine ⟨⟨a, c.num 4, k, ?_⟩, hs, h2⟩
 rw [<- hv]
 exact h.at'
theorem CwX.grow {w' : World} (h : CwX w lo cb ib rb v c) (hb : Below w.heap.size w w') : CwX w' lo cb ib rb v c := by
 obtain ⟨⟨a, n, k, h1⟩, h2, h3⟩ := h
 have hl := (zL h1)
 refine ⟨⟨a, n, k, (hb.block _ hl).trans h1⟩, h2, h3.grow ⟨hb.os, hb.tape, hb.output, by simpa [World.setCell] using hb.size, fun g hg => ?_⟩⟩
 have hg : g < w.heap.size := by simpa [World.setCell] using hg
 by_cases e : g = cb
 ·subst e
  rw [zC _ _ 8 aF _ _ ((hb.block _ hl).trans h1), zC _ _ 8 aF _ _ h1]
 ·rw [zS _ ⟨cb, 8, none⟩ _ _ e, zS _ ⟨cb, 8, none⟩ _ _ e]
  exact hb.block g hg
theorem CwX.jR (h : CwX w lo cb ib rb v c) {k : Nat} (hk : Mine cb ib rb v k) : lo <= k /\ k < w.heap.size := by
 have := h.2.2.jR hk
 simpa [World.setCell] using this
theorem Cw.rule (h : Cw w lo cb ib rb v c) (k : List UInt8) (hk : k.length <= 700) (hnr : c.rt.length <= 1000) :
  ∃ w', (Instr.mapUpdate 121 (.map (some rb)) (S k) (v 4)).run Tryz.prog w = .ok () w' /\ CwX w' lo cb ib rb (fun j => if j = 4 then aF else v j) (c.more k).uC /\ Fr cb ib rb v (fun j => if j = 4 then aF else v j) w w' := by
 obtain ⟨n, m, hn, ho, hr⟩ := h.ru
 obtain ⟨w', hrun, ho', hg⟩ := ho.put aS6 (by omega) k hk (v 4)
 obtain ⟨l1, l2, l3⟩ := h.lt
 have hb : ∀ k, k < w.heap.size -> k ≠ rb -> w'.heap[k]? = w.heap[k]? := fun k hk hne => hg.block k hk (fun e => hne (by simpa using e))
 have hc : ∀ k, k ≠ cb -> (w'.setCell ⟨cb, 8, none⟩ aF).heap[k]? = w'.heap[k]? := fun k hk => zS _ _ _ _ hk
 obtain ⟨hC, hF⟩ := h.clear
 have hM : ∀ g, Mine cb ib rb (fun j => if j = 4 then aF else v j) g -> Mine cb ib rb v g := fun g hm => D7 hm
 obtain ⟨a4, k4, hv4⟩ := h.form 4 (by decide)
 have hat := (hb cb l1 h.ne.2.1).trans h.at'
 refine ⟨w', hrun, ⟨⟨a4, c.num 4, k4, ?_⟩, rfl, ⟨(zC _ _ 8 aF _ _ hat).trans rfl, fun i hi => ?_, hC.sep, hC.off, ?_, ?_, h.ne, ?_⟩⟩, ⟨hg.os, hg.tape, hg.output, hg.size, fun k hk hmi => hb k hk (fun e => hmi (Or.inr (Or.inr (Or.inl e)))), fun k hk => Or.inl (hM k hk)⟩⟩
 ·rw [<- hv4]; exact hat
 ·have h2 := hC.own i hi
  have e1 : (c.more k).uC.num i = c.uC.num i /\ (c.more k).uC.row i = c.uC.row i := ⟨rfl, rfl⟩
  rw [e1.1, e1.2]
  refine aW h2 (fun g hgv hl => ?_)
  have h3 := hC.off i hi g hgv
  have hl : g < w.heap.size := by simpa [World.setCell] using hl
  rw [hc g h3.1, hb g hl h3.2.2, zS _ ⟨cb, 8, none⟩ _ _ h3.1]
 ·obtain ⟨kk, hkk, hm⟩ := h.ix
  exact ⟨kk, hkk, hm.move ((hc ib (Ne.symm h.ne.1)).trans (hb ib l2 h.ne.2.2))⟩
 ·refine ⟨n + 1, (k, v 4) :: m, by show n + 1 <= c.rt.length + 1; omega, ho'.move (hc rb (Ne.symm h.ne.2.1)), rfl, ⟨?_, ?_⟩, ?_⟩
  ·have h2 := h.own 4 (by decide)
   refine aW (show w.ownsRow lo 250 14 (v 4) c.st.length (kE c.st) from h2) (fun g hgv hl => ?_)
   have h3 := h.off 4 (by decide) g hgv
   rw [hc g h3.1, hb g hl h3.2.2]
  ·intro g hgv hm
   have h3 := h.off 4 (by decide) g hgv
   rcases hm with hm | hm | hm | ⟨i, hi, hgi⟩
   ·exact h3.1 hm
   ·exact h3.2.1 hm
   ·exact h3.2.2 hm
   ·by_cases e : i = 4
    ·simp only [if_pos e] at hgi; simp [Value.ownBlock] at hgi
    ·simp only [if_neg e] at hgi; exact h.sep 4 i (by decide) hi (Ne.symm e) g hgv hgi
  ·refine P6.mono (fun u st ⟨h3, h4⟩ => ⟨aW h3 (fun g hgu hl => ?_), fun g hgu hm => h4 g hgu (hM g hm)⟩) hr
   have h5 := h4 g hgu
   rw [hc g (fun e => h5 (Or.inl e)), hb g hl (fun e => h5 (Or.inr (Or.inr (Or.inl e))))]
 ·have := h.low; have := hg.size
  simp only [World.setCell, Array.size_modify]
  omega
end
def qL : Cc := ⟨[], [], [], [], 0, [], [], 0, [], []⟩
theorem aRo (w : World) (n : Nat) (c : Array Value) (T : TypeId) (v0 v1 v2 v3 v4 v5 v6 : Value) (h : w.heap[n]? = some (.cells c T)) (hc : c.size = 7) :
  (((((((w.setCell ⟨n, 0, none⟩ v0).setCell ⟨n, 1, none⟩ v1).setCell ⟨n, 2, none⟩ v2).setCell ⟨n, 3, none⟩ v3).setCell ⟨n, 4, none⟩ v4).setCell ⟨n, 5, none⟩ v5).setCell ⟨n, 6, none⟩ v6).heap[n]? = some (.cells #[v0, v1, v2, v3, v4, v5, v6] T) := by
 have := jX n T [v0, v1, v2, v3, v4, v5, v6] w 0 c h hc
 simpa only [pR, List.take_zero, List.nil_append, Nat.zero_add, Nat.reduceAdd] using this
theorem aJm (w : World) : Cw ((((w.alloc (.cells #[aF, aF, aF, aF, aF, .int .i64 0, .map none] 123)).alloc (.map #[] 0)).alloc (.cells #[aF, aF, aF, aF, aF, .int .i64 0, .map (some (w.heap.size + 1 + 1 + 1)), .map (some (w.heap.size + 1)), aF, .int .i64 0] 225)).alloc (.map #[] 0)) w.heap.size (w.heap.size + 1 + 1) (w.heap.size + 1) (w.heap.size + 1 + 1 + 1) (fun _ => aF) qL := by
 have hn : ∀ g, (aF).ownBlock ≠ some g := fun g hg => by simp [Value.ownBlock] at hg
 refine ⟨(zM _ _ _ (by simp)).trans (aC (by simp)), fun i hi => ?_, fun i j _ _ _ g hg => absurd hg (hn g), fun i _ g hg => absurd hg (hn g), ⟨0, zR, ?_⟩, ⟨0, [], zR, ?_, trivial⟩, by omega, by simp; omega⟩
 ·have h5 : i = 0 \/ i = 1 \/ i = 2 \/ i = 3 \/ i = 4 \/ i = 5 := by omega
  rcases h5 with rfl | rfl | rfl | rfl | rfl | rfl <;> exact World.ownsRow_nil _ _ _ _
 ·have := mD.made (w.alloc (.cells #[aF, aF, aF, aF, aF, .int .i64 0, .map none] 123)) 3
  rw [show (w.alloc (.cells #[aF, aF, aF, aF, aF, .int .i64 0, .map none] 123)).heap.size = w.heap.size + 1 by simp] at this
  exact this.move ((zM _ _ _ (by simp)).trans (zM _ _ _ (by simp)))
 ·have := wU.made (((w.alloc (.cells #[aF, aF, aF, aF, aF, .int .i64 0, .map none] 123)).alloc (.map #[] 0)).alloc (.cells #[aF, aF, aF, aF, aF, .int .i64 0, .map (some (w.heap.size + 1 + 1 + 1)), .map (some (w.heap.size + 1)), aF, .int .i64 0] 225))
  simpa using this
structure Pg (w : World) (lo rb : Nat) (v : Nat -> Value) (c : Cc) : Prop where
 own : ∀ i, i < 6 -> i ≠ 4 -> w.ownsRow lo (ety i) (esz i) (v i) (c.num i) (c.row i)
 ru : ∃ k m, k <= c.rt.length /\ wU w rb k m /\ P6 (fun u (st : List Stp) => w.ownsRow lo 250 14 u st.length (kE st)) m c.rt
 low : lo <= rb
def aSz (w : World) (c : Cc) (e : Ending) (w' : World) : Prop :=
 ∃ (v : Nat -> Value) (rb : Nat), e = .returned (.agg #[v 0, v 1, v 2, v 5, v 3, .int .i64 c.mf, .map (some rb)]) /\ Pg w' w.heap.size rb v c /\ Below w.heap.size w w'
theorem aC5 (HT : rY) (HP : sW) {w : World} (n : Nat) (vd vr : Value) (ds : List Dc) (rows : List (Nat × NP × Value)) (rs : List (Nat × NP × BT 8))
  (hP : w.heap[n]? = some (.cells #[vd, vr] 147)) (hod : w.ownsRow (n + 1) 153 6 vd ds.length (lW ds)) (hou : w.ownsRow (n + 1) 206 4 vr rows.length (mF rows)) (dW : iC (aY 8 w (fun g => n + 1 <= g)) rows rs)
  (hd7 : ∀ d ∈ ds, d.name.1.length <= 700) (hdw : ∀ d ∈ ds, d.word = [113, 117, 101, 117, 101] \/ d.word = [103, 104, 111, 115, 116] \/ d.word = [118, 97, 114] \/ d.word = [102, 114, 101, 113]) (hr7 : ∀ r ∈ rs, r.2.1.1.length <= 700 /\ cZ 8 r.2.2) (hrc : ∀ r ∈ rs, bP 8 r.2.2 <= 800000) (hdn : ds.length <= 900) (hrn : rs.length <= 900) :
  Calls Tryz.prog 66 #[ptr n] w (aSz w (rs.foldl Cc.dS (ds.foldl Cc.jH qL))) := by
 have hmm := @run_makeMap Tryz.prog
 generalize hs : rs.foldl Cc.dS (ds.foldl Cc.jH qL) = c'
 have HS : Hid (c' = rs.foldl Cc.dS (ds.foldl Cc.jH qL)) := hs.symm
 clear hs
 have hnw : n < w.heap.size := (zL hP)
 obtain ⟨da, dk, dc, rfl⟩ := aU hod
 obtain ⟨ra, rk, rc, rfl⟩ := aU hou
 have hdk : dk = ds.length := by
  rcases hod.2 with ⟨h1, h2⟩ | ⟨g, cap, cur, h1, _⟩
  ·simp at h1; omega
  ·simp at h1; exact h1.2.1
 have hrk : rk = rows.length := by
  rcases hou.2 with ⟨h1, h2⟩ | ⟨g, cap, cur, h1, _⟩
  ·simp at h1; omega
  ·simp at h1; exact h1.2.1
 subst hdk hrk
 go_enter Tryz.func66, Tryz.ntmps66
 go_upto_region 3 with fail
 have C4 := aJm w
 have B4 : Below w.heap.size w ((((w.alloc (.cells #[aF, aF, aF, aF, aF, .int .i64 0, .map none] 123)).alloc (.map #[] 0)).alloc (.cells #[aF, aF, aF, aF, aF, .int .i64 0, .map (some (w.heap.size + 1 + 1 + 1)), .map (some (w.heap.size + 1)), aF, .int .i64 0] 225)).alloc (.map #[] 0)) := ((((Below.refl _ w).alloc zR _).alloc (by simp) _).alloc (by simp; omega) _).alloc (by simp; omega) _
 have r4 : ((((w.alloc (.cells #[aF, aF, aF, aF, aF, .int .i64 0, .map none] 123)).alloc (.map #[] 0)).alloc (.cells #[aF, aF, aF, aF, aF, .int .i64 0, .map (some (w.heap.size + 1 + 1 + 1)), .map (some (w.heap.size + 1)), aF, .int .i64 0] 225)).alloc (.map #[] 0)).heap[w.heap.size]? = some (.cells #[aF, aF, aF, aF, aF, .int .i64 0, .map none] 123) := (zM _ _ _ (by simp; omega)).trans ((zM _ _ _ (by simp; omega)).trans ((zM _ _ _ (by simp)).trans (aC rfl)))
 generalize ((((w.alloc (.cells #[aF, aF, aF, aF, aF, .int .i64 0, .map none] 123)).alloc (.map #[] 0)).alloc (.cells #[aF, aF, aF, aF, aF, .int .i64 0, .map (some (w.heap.size + 1 + 1 + 1)), .map (some (w.heap.size + 1)), aF, .int .i64 0] 225)).alloc (.map #[] 0)) = w4 at *
 have hm4 : ¬ Mine (w.heap.size + 1 + 1) (w.heap.size + 1) (w.heap.size + 1 + 1 + 1) (fun _ => aF) w.heap.size := fun hm => by
  rcases hm with h | h | h | ⟨i, _, hg⟩
  ·omega
  ·omega
  ·omega
  ·simp [Value.ownBlock] at hg
 have aTk : w.heap.size < w4.heap.size := (zL r4)
 have hib : w.heap.size + 1 < w4.heap.size := C4.lt.2.1
 have p4 : w4.heap[n]? = some (.cells #[.slice da ds.length dc, .slice ra rows.length rc] 147) := (B4.block n hnw).trans hP
 obtain ⟨q4, qf4⟩ := aA p4
 have F4 := Fr.refl (w.heap.size + 1 + 1) (w.heap.size + 1) (w.heap.size + 1 + 1 + 1) (fun _ => aF) w4
 generalize (fun (_ : Nat) => aF) = v4 at *
 generalize w.heap.size + 1 + 1 + 1 = rb at *
 generalize w.heap.size + 1 + 1 = cb at *
 generalize w.heap.size + 1 = ib at *
 clear hib hmm
 go_wp2_with fail
 go_loopg [21] ds.length (fun f i wr => ∃ (k : Nat) (ck : Cc) (vk : Nat -> Value), k + f = ds.length /\ i = .int .i64 k /\ Cw wr w.heap.size cb ib rb vk ck /\ Below w.heap.size w wr /\ (wr.heap[w.heap.size]? = some (.cells #[aF, aF, aF, aF, aF, .int .i64 0, .map none] 123) /\ ¬ Mine cb ib rb vk w.heap.size) /\ ck.upto k /\ Hid (ck.rt = [] /\ ck.lp = 0 /\ ck.st = []) /\ Hid (c' = rs.foldl Cc.dS ((ds.drop k).foldl Cc.jH ck)))
 case atStart => exact ⟨0, qL, v4, by omega, rfl, C4, B4, ⟨r4, hm4⟩, ⟨zR, zR, zR, zR, zR, zR⟩, ⟨rfl, rfl, rfl⟩, HS⟩
 case round =>
 obtain ⟨k, ck, vk, hk, rfl, h1, B1, ⟨r1, hm1⟩, hu1, HN1, HK⟩ := hrel
 clear C4 B4 r4 hm4 F4 aTk HS p4 q4 qf4
 by_cases hlt : k < ds.length
 ·obtain ⟨g, rfl⟩ : ∃ g, da = some ⟨g, 0, none⟩ := by
   rcases hod.2 with ⟨h1, h2⟩ | ⟨g, cap, cur, h1, _⟩
   ·omega
   ·simp at h1; exact ⟨g, h1.1⟩
  have hgl : g < w.heap.size := (hod.lt g rfl).2
  have hx : ds[k]? = some ds[k] := List.getElem?_eq_getElem hlt
  have hx7 := hd7 _ (List.getElem_mem hlt)
  have hxw := hdw _ (List.getElem_mem hlt)
  have hdr : ds.drop k = ds[k] :: ds.drop (k + 1) := List.drop_eq_getElem_cons hlt
  have HK2 : Hid (c' = rs.foldl Cc.dS ((ds.drop (k + 1)).foldl Cc.jH (ck.jH ds[k]))) := by show _ = _; rw [HK.out, hdr]; rfl
  have hix : ∀ W : World, (Instr.indexAt 144 (.slice (some ⟨g, 0, none⟩) ds.length dc) (.int .i64 k)).run Tryz.prog W = .ok (.pointer (some ⟨g, k * 6, none⟩)) W := by
   intro W
   rw [run_indexAt_slice (h := by kernel_rfl), if_pos (by omega)]
   have : (sizeOf (Tryz.prog.elem 144)).run Tryz.prog W = .ok 6 W := by kernel_rfl
   rw [this]
   simp [Result.andThen, Addr.add]
   omega
  have hown1 : wr.ownsRow (n + 1) 153 6 (.slice (some ⟨g, 0, none⟩) ds.length dc) ds.length (lW ds) := aW hod (fun q hq hl => B1.block _ hl)
  have hrg : wr.rangeAt g (k * 6) (eG ds[k]).toList := fun j u hu => by
   have hj : j < 6 := by have := (List.getElem?_eq_some_iff.1 hu).1; simpa using this
   rw [hown1.cellAt _ (by have : k + 1 <= ds.length := hlt; omega)]
   exact nV (fun d => (eG d).toList) 6 (fun _ => rfl) ds k _ hx j u hu
  have hup := aCz hu1 ds[k]
  clear hx hdr HK hown1
  generalize ds[k] = x at *
  have HU : Hid ((ck.jH x).upto (k + 1) /\ (ck.jH x).rt = [] /\ (ck.jH x).lp = 0 /\ (ck.jH x).st = []) := ⟨hup.1, hup.2.1.trans HN1.out.1, hup.2.2.1.trans HN1.out.2.1, hup.2.2.2.trans HN1.out.2.2⟩
  have aTe : ck.upto 2900 := by obtain ⟨a, b, c, d, e, f⟩ := hu1; exact ⟨by omega, by omega, by omega, by omega, by omega, by omega⟩
  clear hup HN1
  go_upto_region 5 with fail
  refine wp_region_lit ?_
  iterate 3 go_step
  refine wpList_load_mid rfl 153 (.tmp 23) rfl g (k * 6) rfl (eG x).toList _ hrg Tryz.underlying153 rfl (by kernel_rfl) ?_
  iterate 3 go_step
  refine mZ rfl 153 (.tmp 5) (.tmp 24) rfl (eG x) rfl rfl (by kernel_rfl) rfl (by simp [Value.oneCell']) ?_
  intro w2 BB2 hb2 hz2
  have h2 := h1.grow BB2
  have r2 := (BB2.block _ (zL r1)).trans r1
  have HX := aH7 h2 x hxw hx7 aTe
  have hz1 := B1.size
  go_upto_region 6 with fail
  refine wp_region_lit ?_
  iterate 3 go_step
  refine wpList_load_row rfl 153 (.tmp 5) rfl wr.heap.size rfl 153 _ _ _ hb2 Tryz.underlying153 rfl (by kernel_rfl) ?_
  go_wp2_with fail
  refine HX.mono ?_
  rintro e w3 ⟨rfl, v3, h3, F3⟩
  have hw2 : w.heap.size < w2.heap.size := (zL r2)
  have hm3 : ¬ Mine cb ib rb v3 w.heap.size := fun hm => by
   rcases F3.new _ hm with h | h
   ·exact hm1 h
   ·omega
  go_wp2_with fail
  go_roundg (gk - 1)
  case measure => omega
  case rel => exact ⟨k + 1, ck.jH x, v3, by omega, by simp, h3, (B1.trans (BB2.mono hz1)).trans (F3.low h2), ⟨F3.at' r2 hm1, hm3⟩, HU.out.1, HU.out.2, HK2⟩
 ·have e0 : ds.drop k = [] := List.drop_eq_nil_iff.2 (by omega)
  have HK : Hid (c' = rs.foldl Cc.dS ck) := by show _ = _; rw [HK.out, e0]; rfl
  clear e0 hod hd7 hdw
  have hlen : Hid (rows.length = rs.length) := iC.len _ _ dW
  have p1 : wr.heap[n]? = some (.cells #[.slice da ds.length dc, .slice ra rows.length rc] 147) := (B1.block n hnw).trans hP
  obtain ⟨q1, qf1⟩ := aA p1
  go_wp2_with fail
  go_loopg [34] rows.length (fun f i wr => ∃ (k : Nat) (ck : Cc) (vk : Nat -> Value), k + f = rows.length /\ i = .int .i64 k /\ CwX wr w.heap.size cb ib rb vk ck /\ Below w.heap.size w wr /\ (wr.heap[w.heap.size]? = some (.cells #[aF, aF, aF, aF, aF, .int .i64 0, .map none] 123) /\ ¬ Mine cb ib rb vk w.heap.size) /\ Hid (ck.rt.length = k /\ ck.lp = 0) /\ Hid (c' = (rs.drop k).foldl Cc.dS ck))
  case atStart => exact ⟨0, ck, _, by omega, rfl, CwX.of h1 HN1.out.2.2, B1, ⟨r1, fun hm => hm1 (D7 hm)⟩, ⟨by rw [HN1.out.1]; rfl, HN1.out.2.1⟩, HK⟩
  case round =>
  obtain ⟨k2, ck2, pJ, hk2, rfl, h5, B5, ⟨r5, hm5⟩, HN5, HK5⟩ := hrel
  clear h1 B1 r1 hm1 hu1 HN1 HK p1 q1 qf1
  by_cases hlt2 : k2 < rows.length
  ·obtain ⟨p, nm, y, x, s1, s2, s3, s4⟩ := iC.at _ _ dW k2 hlt2
   obtain ⟨y1, y2, y3, rfl⟩ := aY.form 8 _ _ s4
   have s5 : aY 8 wr (fun g => g < w.heap.size) (.slice y1 y2 y3) x := aY.move 8 (fun g hg _ => B5.block g hg) _ _ (aY.mono 8 (fun g hg => hg.2) _ _ (aY.there 8 _ _ s4))
   obtain ⟨m1, m2⟩ := hr7 _ s2
   have m3 := hrc _ s2
   have m1 : nm.1.length <= 700 := m1
   have m2 : cZ 8 x := m2
   have m3 : bP 8 x <= 800000 := m3
   obtain ⟨g, rfl⟩ : ∃ g, ra = some ⟨g, 0, none⟩ := by
    rcases hou.2 with ⟨h1, h2⟩ | ⟨g, cap, cur, h1, _⟩
    ·omega
    ·simp at h1; exact ⟨g, h1.1⟩
   have hgl : g < w.heap.size := (hou.lt g rfl).2
   have hix : ∀ W : World, (Instr.indexAt 145 (.slice (some ⟨g, 0, none⟩) rows.length rc) (.int .i64 k2)).run Tryz.prog W = .ok (.pointer (some ⟨g, k2 * 4, none⟩)) W := by
    intro W
    rw [run_indexAt_slice (h := by kernel_rfl), if_pos (by omega)]
    have : (sizeOf (Tryz.prog.elem 145)).run Tryz.prog W = .ok 4 W := by kernel_rfl
    rw [this]
    simp [Result.andThen, Addr.add]
    omega
   have hown1 : wr.ownsRow (n + 1) 206 4 (.slice (some ⟨g, 0, none⟩) rows.length rc) rows.length (mF rows) := aW hou (fun q hq hl => B5.block _ hl)
   have hrg : wr.rangeAt g (k2 * 4) (nH p nm (.slice y1 y2 y3)).toList := fun j u hu => by
    have hj : j < 4 := by have := (List.getElem?_eq_some_iff.1 hu).1; simpa using this
    rw [hown1.cellAt _ (by have : k2 + 1 <= rows.length := hlt2; omega)]
    exact nV (fun r : Nat × NP × Value => (nH r.1 r.2.1 r.2.2).toList) 4 (fun _ => rfl) rows k2 _ s1 j u hu
   have HK6 : Hid (c' = (rs.drop (k2 + 1)).foldl Cc.dS ((ck2.blk 8 x).more nm.1).uC) := by show _ = _; rw [HK5.out, s3]; rfl
   have aTi : rows.length <= 900 := by have := hlen.out; omega
   have hbn := aLv 8 ck2 x
   have hbl := sV 8 ck2 x
   have HN6 : Hid (((ck2.blk 8 x).more nm.1).uC.rt.length = k2 + 1 /\ ((ck2.blk 8 x).more nm.1).uC.lp = 0) := ⟨by show (ck2.blk 8 x).rt.length + 1 = k2 + 1; rw [hbn.1, HN5.out.1], by show (ck2.blk 8 x).lp = 0; rw [hbl.2.2]; exact HN5.out.2⟩
   have aTo : (ck2.blk 8 x).rt.length <= 1000 := by rw [hbn.1, HN5.out.1]; omega
   have hz5 := B5.size
   clear hbn hbl s1 s2 s3 s4 HK5 hown1
   go_upto_region 10 with fail
   refine wp_region_lit ?_
   iterate 3 go_step
   refine wpList_load_mid rfl 206 (.tmp 36) rfl g (k2 * 4) rfl (nH p nm (.slice y1 y2 y3)).toList _ hrg Tryz.underlying206 rfl (by kernel_rfl) ?_
   iterate 3 go_step
   refine mZ rfl 206 (.tmp 7) (.tmp 37) rfl (nH p nm (.slice y1 y2 y3)) rfl rfl (by kernel_rfl) rfl (by simp [Value.oneCell']) ?_
   intro w2 BB2 hb2 hz2
   have h6 := h5.grow BB2
   have r6 := (BB2.block _ (zL r5)).trans r5
   have s6 : aY 8 w2 (fun g => g < w.heap.size) (.slice y1 y2 y3) x := aY.move 8 (fun g hg _ => BB2.block g (by omega)) _ _ s5
   have B6 := B5.trans (BB2.mono hz5)
   have hmb : ¬ Mine cb ib rb pJ wr.heap.size := fun hm => by have := (h5.jR hm).2; omega
   obtain ⟨⟨a0, n0, k0, h6a⟩, h6s, h7⟩ := h6
   have hb7 : ∀ g, g ≠ cb -> (w2.setCell ⟨cb, 8, none⟩ aF).heap[g]? = w2.heap[g]? := fun g hg => zS _ _ _ _ hg
   have b7 := (hb7 _ (fun e => hmb (Or.inl e))).trans hb2
   have hm7 := hm5
   have r7 := (hb7 _ (fun e => hm5 (Or.inl e))).trans r6
   have hlc := (h5.jR (Or.inl rfl : Mine cb ib rb pJ cb)).1
   have s7 : aY 8 (w2.setCell ⟨cb, 8, none⟩ aF) (fun g => g < w.heap.size) (.slice y1 y2 y3) x := aY.move 8 (fun g hg _ => hb7 g (by omega)) _ _ s6
   have aTu := hmb
   have B7 : Below w.heap.size w (w2.setCell ⟨cb, 8, none⟩ aF) := B6.setCell (p := ⟨cb, 8, none⟩) hlc _
   have HX := aB9 HT HP 8 _ w.heap.size cb ib rb _ ck2 (.slice y1 y2 y3) x h7 s7 m2 (by rw [h6s]; show 0 + bP 8 x <= 900000; omega) (by show ck2.lp + 8 <= 100; rw [HN5.out.2]; omega)
   obtain ⟨a6, af6⟩ := aA h6a
   obtain ⟨a7, af7⟩ := aA b7
   generalize ck2.blk 8 x = c8 at *
   clear HN5
   go_wp2_with fail
   generalize w2.setCell ⟨cb, 8, none⟩ aF = w7 at *
   refine HX.mono ?_
   rintro e w8 ⟨rfl, v8, h8, F8⟩
   have b8 := F8.at' b7 aTu
   have r8 := F8.at' r7 hm7
   have hm8 : ¬ Mine cb ib rb v8 w.heap.size := fun hm => by
    rcases F8.new _ hm with h | h
    ·exact hm7 h
    ·have := (zL r7)
     omega
   obtain ⟨va, vc, hv⟩ := h8.form 4 (by decide)
   obtain ⟨w9, hrun, h9, F9⟩ := h8.drew.rule nm.1 m1 aTo
   rw [hv] at hrun
   have e8 := h8.at'
   rw [hv] at e8
   obtain ⟨a8, af8⟩ := aA e8
   obtain ⟨d8, df8⟩ := aA b8
   have F89 : Fr cb ib rb v8 (fun j => if j = 4 then aF else v8 j) w8 w9 := Fr.trans (y := w8.drew) ⟨rfl, rfl, rfl, zR, fun _ _ _ => rfl, fun _ h => Or.inl h⟩ F9
   have B9 := (B7.trans (F8.low h7)).trans (F89.low h8)
   have r9 := F89.at' r8 hm8
   clear HX a6 af6 a7 af7 h6a F8 F9 h7
   go_wp2_with fail
   go_region
   all_goals
    go_wp2_with fail
    go_roundg (gk - 1)
    case measure => omega
    case rel => exact ⟨k2 + 1, _, _, by omega, by simp, h9, B9, ⟨r9, fun hm => hm8 (D7 hm)⟩, HN6, HK6⟩
  ·have e0 : rs.drop k2 = [] := List.drop_eq_nil_iff.2 (by have := hlen.out; omega)
   have e1 : c' = ck2 := by rw [HK5.out, e0]; rfl
   subst e1
   obtain ⟨⟨ax, nx, kx, h5a⟩, h5s, h5c⟩ := h5
   obtain ⟨a5, af5⟩ := aA h5a
   obtain ⟨d5, df5⟩ := aA r5
   have hcb : w.heap.size ≠ cb := fun e => hm5 (Or.inl e)
   have hb : ∀ g, g ≠ w.heap.size -> (((((((wr.setCell ⟨w.heap.size, 0, none⟩ (pJ 0)).setCell ⟨w.heap.size, 1, none⟩ (pJ 1)).setCell ⟨w.heap.size, 2, none⟩ (pJ 2)).setCell ⟨w.heap.size, 3, none⟩ (pJ 5)).setCell ⟨w.heap.size, 4, none⟩ (pJ 3)).setCell ⟨w.heap.size, 5, none⟩ (.int .i64 c'.mf)).setCell ⟨w.heap.size, 6, none⟩ (.map (some rb))).heap[g]? = wr.heap[g]? := fun g hg => by
    rw [zS _ _ _ _ hg, zS _ _ _ _ hg, zS _ _ _ _ hg, zS _ _ _ _ hg, zS _ _ _ _ hg, zS _ _ _ _ hg, zS _ _ _ _ hg]
   have hb2 : ∀ g, g ≠ w.heap.size -> g ≠ cb -> (((((((wr.setCell ⟨w.heap.size, 0, none⟩ (pJ 0)).setCell ⟨w.heap.size, 1, none⟩ (pJ 1)).setCell ⟨w.heap.size, 2, none⟩ (pJ 2)).setCell ⟨w.heap.size, 3, none⟩ (pJ 5)).setCell ⟨w.heap.size, 4, none⟩ (pJ 3)).setCell ⟨w.heap.size, 5, none⟩ (.int .i64 c'.mf)).setCell ⟨w.heap.size, 6, none⟩ (.map (some rb))).heap[g]? = (wr.setCell ⟨cb, 8, none⟩ aF).heap[g]? := fun g hg hc => (hb g hg).trans (zS _ ⟨cb, 8, none⟩ _ _ hc).symm
   have HO : Hid (Pg (((((((wr.setCell ⟨w.heap.size, 0, none⟩ (pJ 0)).setCell ⟨w.heap.size, 1, none⟩ (pJ 1)).setCell ⟨w.heap.size, 2, none⟩ (pJ 2)).setCell ⟨w.heap.size, 3, none⟩ (pJ 5)).setCell ⟨w.heap.size, 4, none⟩ (pJ 3)).setCell ⟨w.heap.size, 5, none⟩ (.int .i64 c'.mf)).setCell ⟨w.heap.size, 6, none⟩ (.map (some rb))) w.heap.size rb pJ c') := by
    refine ⟨fun i hi _ => aW (h5c.own i hi) (fun g hg _ => hb2 g (fun e => hm5 (Or.inr (Or.inr (Or.inr ⟨i, hi, by rw [<- e]; exact hg⟩)))) (h5c.off i hi g hg).1), ?_, h5c.low.2.2.1⟩
    obtain ⟨k, m, q1, q2, q3⟩ := h5c.ru
    refine ⟨k, m, q1, q2.move (hb2 rb (fun e => hm5 (Or.inr (Or.inr (Or.inl e.symm)))) (Ne.symm h5c.ne.2.1)), P6.mono (fun u st ⟨q4, q5⟩ => aW q4 (fun g hg hl => hb2 g (fun e => ?_) (fun e => q5 g hg (Or.inl e)))) q3⟩
    subst e
    rcases q4.2 with ⟨e1, _⟩ | ⟨g', cap, cur, e1, _, e3, _⟩
    ·rw [e1] at hg; simp [Value.ownBlock] at hg
    ·have e4 : g' = w.heap.size := by rw [e1] at hg; simpa [Value.ownBlock] using hg
     rw [e4, zS _ ⟨cb, 8, none⟩ _ _ hcb, r5] at e3
     simp at e3
   have HBB : Below w.heap.size w (((((((wr.setCell ⟨w.heap.size, 0, none⟩ (pJ 0)).setCell ⟨w.heap.size, 1, none⟩ (pJ 1)).setCell ⟨w.heap.size, 2, none⟩ (pJ 2)).setCell ⟨w.heap.size, 3, none⟩ (pJ 5)).setCell ⟨w.heap.size, 4, none⟩ (pJ 3)).setCell ⟨w.heap.size, 5, none⟩ (.int .i64 c'.mf)).setCell ⟨w.heap.size, 6, none⟩ (.map (some rb))) := ((((((B5.setCell (p := ⟨w.heap.size, 0, none⟩) zR _).setCell (p := ⟨w.heap.size, 1, none⟩) zR _).setCell (p := ⟨w.heap.size, 2, none⟩) zR _).setCell (p := ⟨w.heap.size, 3, none⟩) zR _).setCell (p := ⟨w.heap.size, 4, none⟩) zR _).setCell (p := ⟨w.heap.size, 5, none⟩) zR _).setCell (p := ⟨w.heap.size, 6, none⟩) zR _
   obtain ⟨x0, y0, f0⟩ := h5c.form 0 (by decide)
   obtain ⟨x1, y1, f1⟩ := h5c.form 1 (by decide)
   obtain ⟨x2, y2, f2⟩ := h5c.form 2 (by decide)
   obtain ⟨x3, y3, f3⟩ := h5c.form 3 (by decide)
   obtain ⟨x4, y4, f4⟩ := h5c.form 5 (by decide)
   have hp6 := aRo wr w.heap.size _ 123 (pJ 0) (pJ 1) (pJ 2) (pJ 5) (pJ 3) (.int .i64 c'.mf) (.map (some rb)) r5 rfl
   clear hb hb2 e0 HK5 HN5 h5c h5a r5 hm5
   have HV : Hid (aSz w c' (.returned (.agg #[pJ 0, pJ 1, pJ 2, pJ 5, pJ 3, .int .i64 c'.mf, .map (some rb)])) (((((((wr.setCell ⟨w.heap.size, 0, none⟩ (pJ 0)).setCell ⟨w.heap.size, 1, none⟩ (pJ 1)).setCell ⟨w.heap.size, 2, none⟩ (pJ 2)).setCell ⟨w.heap.size, 3, none⟩ (pJ 5)).setCell ⟨w.heap.size, 4, none⟩ (pJ 3)).setCell ⟨w.heap.size, 5, none⟩ (.int .i64 c'.mf)).setCell ⟨w.heap.size, 6, none⟩ (.map (some rb)))) := ⟨pJ, rb, rfl, HO.out, HBB⟩
   rw [f0, f1, f2, f3, f4] at HV hp6
   rw [f0, f1, f2, f3, f4] at a5
   clear HO HBB f0 f1 f2 f3 f4
   go_wp2_with fail
   exact aS Tryz.results66 w.heap.size _ _ _ rfl rfl hp6 Tryz.underlying123 rfl (by kernel_rfl) HV.out
end Go.Proofs.YtfddoieakfpagaaGreatDoor
