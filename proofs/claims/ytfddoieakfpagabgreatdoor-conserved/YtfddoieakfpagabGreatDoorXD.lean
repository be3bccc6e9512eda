import Derived.Test.YtfddoieakfpagabGreatDoorXC
namespace Go.Proofs.YtfddoieakfpagabGreatDoor
set_option maxHeartbeats 4000000
set_option maxRecDepth 20000
open Go.RowKit
def dclT (s : Ws) (d : Dc) : Ws := nlS (tksS (if d.word ≠ [102, 114, 101, 113] then tkS (tkS s d.word) d.name.1 else tkS s d.word) [itoB d.num.1, [59]])
def dclsT (s : Ws) (ds : List Dc) (f : Bool) : Ws := lstT (fun s d => if (d.word == [102, 114, 101, 113]) = f then dclT s d else s) s ds
def rulT (s : Ws) (ev : List UInt8) (r : Nat × NP × BT 8) : Ws := if r.2.1.1 = ev then nlS (blkT 8 (tksS s [[111, 110], ev]) r.2.2) else s
def rulsT (s : Ws) (rs : List (Nat × NP × BT 8)) (ev : List UInt8) : Ws := lstT (fun s r => rulT s ev r) s rs
def txtT (x : List Dc × List (Nat × NP × BT 8)) : Ws := rulsT (lstT (fun s (d : Dc) => rulsT s x.2 d.name.1) (dclsT (dclsT ([], false) x.1 false) x.1 true) x.1) x.2 [109, 105, 115, 115]
theorem nlS_le (s : Ws) : s.1.length <= (nlS s).1.length := by unfold nlS; simp
theorem dclT_le (s : Ws) (d : Dc) : s.1.length <= (dclT s d).1.length := by
 unfold dclT
 refine Nat.le_trans ?_ (Nat.le_trans (tksS_le _ _) (nlS_le _))
 split
 ·exact Nat.le_trans (tkS_le _ _) (tkS_le _ _)
 ·exact tkS_le _ _
theorem dclsf_le (f : Bool) (s : Ws) (d : Dc) : s.1.length <= (if (d.word == [102, 114, 101, 113]) = f then dclT s d else s).1.length := by
 split
 ·exact dclT_le _ _
 ·exact Nat.le_refl _
theorem rulT_le (ev : List UInt8) (s : Ws) (r : Nat × NP × BT 8) : s.1.length <= (rulT s ev r).1.length := by
 unfold rulT
 split
 ·exact Nat.le_trans (tksS_le _ _) (Nat.le_trans (blkT_le _ _ _) (nlS_le _))
 ·exact Nat.le_refl _
theorem rulsT_le (rs : List (Nat × NP × BT 8)) (ev : List UInt8) (s : Ws) : s.1.length <= (rulsT s rs ev).1.length := lstT_le (fun s r => rulT_le ev s r) rs s
section
variable {w : World} {lo wb : Nat} {l : List UInt8} {inl : Bool}
theorem wdecl_n (h : Wt w lo wb l inl) (ht : Tb lo w) (hlo : lo <= w.heap.size) (d : Dc) (hw : d.word ≠ [102, 114, 101, 113]) (hn : d.num.1 <= 100000) (hlen : (nlS (tksS (tkS (tkS (l, inl) d.word) d.name.1) [itoB d.num.1, [59]])).1.length <= 100000000000) : Calls Tryz.prog 70 #[.pointer (some ⟨wb, 0, none⟩), .agg (dcA d)] w (OutWt w lo wb (nlS (tksS (tkS (tkS (l, inl) d.word) d.name.1) [itoB d.num.1, [59]]))) := by
 have B : Below w.heap.size w (w.alloc (.cells (dcA d) 120)) := (Below.refl _ w).alloc (Nat.le_refl _) _
 have b1 : (w.alloc (.cells (dcA d) 120)).heap[w.heap.size]? = some (.cells (dcA d) 120) := heap_new rfl
 have hl3 : (tksS (tkS (tkS (l, inl) d.word) d.name.1) [itoB d.num.1, [59]]).1.length + 1 <= 100000000000 := by
  unfold nlS at hlen
  simpa using hlen
 have hl2 := Nat.le_trans (tksS_le [itoB d.num.1, [59]] (tkS (tkS (l, inl) d.word) d.name.1)) (Nat.le_of_lt hl3)
 have hl1 := Nat.le_trans (tkS_le (tkS (l, inl) d.word) d.name.1) hl2
 obtain ⟨c1, cf1⟩ := blk_cl b1
 have hA := h.below B
 have hFA : Fw lo wb w _ := Fw.of hlo B
 have htA := ht.mv (B.mono hlo)
 have lwb := h.lt
 have hnb : w.heap.size ≠ wb := by omega
 have hsA : (w.alloc (.cells (dcA d) 120)).heap.size = w.heap.size + 1 := by simp
 have HT := wtok1 hA d.word hl1 (by omega)
 rw [hsA] at HT
 generalize hwA : w.alloc (.cells (dcA d) 120) = wA at *
 have hbx : Hid (∀ W : World, Fw lo wb wA W -> W.heap[w.heap.size]? = some (.cells (dcA d) 120)) := fun W hW => hW.box b1 hnb (by decide)
 have t1 : (d.word == [102, 114, 101, 113]) = false := by simpa using hw
 have hl29 : Hid ((tkS (tkS (l, inl) d.word) d.name.1).1.length <= 100000000000) := hl2
 have hl39 : Hid ((tksS (tkS (tkS (l, inl) d.word) d.name.1) [itoB d.num.1, [59]]).1.length + 1 <= 100000000000) := hl3
 clear hlen hl1 hl2 hl3 b1 h hA B hw
 go_enter Tryz.func70, Tryz.ntmps70
 go_wp2_with (go_at_call 71; (fail_if_success (have := q2)); refine HT.mono ?_; rintro r w2 ⟨rfl, q2, q3⟩; obtain ⟨c2, cf2⟩ := blk_cl (hbx.out _ q2))
 have s2 := q2.bl.size
 refine (wtok1 q3 d.name.1 hl29.out (by omega)).mono ?_
 rintro r w3 ⟨rfl, p2, p3⟩
 have F3 := q2.trans p2
 have s3 := F3.bl.size
 obtain ⟨c3, cf3⟩ := blk_cl (hbx.out _ F3)
 have HN := wnum (htA.fw F3) (by omega) d.num.1 d.num.2 hn
 go_wp2_with (go_at_call 99; refine HN.mono ?_; rintro r w4 ⟨rfl, q4⟩)
 have s4 := q4.size
 have F4 : Fw lo wb wA w4 := F3.trans (Fw.of (by omega) q4)
 refine (wtok2 (p3.below q4) (itoB d.num.1) [59] (Nat.le_of_lt hl39.out) (by omega)).mono ?_
 rintro r w5 ⟨rfl, u2, u3⟩
 have F5 := F4.trans u2
 have s5 := F5.bl.size
 go_wp2_with fail
 refine (wend u3 hl39.out (by omega)).mono ?_
 rintro r w6 ⟨rfl, v2, v3⟩
 go_wp2_with fail
 exact end0' Tryz.results70 rfl ⟨rfl, (hFA.trans F5).trans v2, v3⟩
theorem wdecl_f (h : Wt w lo wb l inl) (ht : Tb lo w) (hlo : lo <= w.heap.size) (d : Dc) (hw : d.word = [102, 114, 101, 113]) (hn : d.num.1 <= 100000) (hlen : (nlS (tksS (tkS (l, inl) d.word) [itoB d.num.1, [59]])).1.length <= 100000000000) : Calls Tryz.prog 70 #[.pointer (some ⟨wb, 0, none⟩), .agg (dcA d)] w (OutWt w lo wb (nlS (tksS (tkS (l, inl) d.word) [itoB d.num.1, [59]]))) := by
 have B : Below w.heap.size w (w.alloc (.cells (dcA d) 120)) := (Below.refl _ w).alloc (Nat.le_refl _) _
 have b1 : (w.alloc (.cells (dcA d) 120)).heap[w.heap.size]? = some (.cells (dcA d) 120) := heap_new rfl
 have hl3 : (tksS (tkS (l, inl) d.word) [itoB d.num.1, [59]]).1.length + 1 <= 100000000000 := by
  unfold nlS at hlen
  simpa using hlen
 have hl2 := Nat.le_trans (tksS_le [itoB d.num.1, [59]] (tkS (l, inl) d.word)) (Nat.le_of_lt hl3)
 obtain ⟨c1, cf1⟩ := blk_cl b1
 have hA := h.below B
 have hFA : Fw lo wb w _ := Fw.of hlo B
 have htA := ht.mv (B.mono hlo)
 have lwb := h.lt
 have hnb : w.heap.size ≠ wb := by omega
 have hsA : (w.alloc (.cells (dcA d) 120)).heap.size = w.heap.size + 1 := by simp
 have HT := wtok1 hA d.word hl2 (by omega)
 rw [hsA] at HT
 generalize hwA : w.alloc (.cells (dcA d) 120) = wA at *
 have hbx : Hid (∀ W : World, Fw lo wb wA W -> W.heap[w.heap.size]? = some (.cells (dcA d) 120)) := fun W hW => hW.box b1 hnb (by decide)
 have t1 : (d.word == [102, 114, 101, 113]) = true := by simp [hw]
 have hl39 : Hid ((tksS (tkS (l, inl) d.word) [itoB d.num.1, [59]]).1.length + 1 <= 100000000000) := hl3
 clear hlen hl2 hl3 b1 h hA B hw
 go_enter Tryz.func70, Tryz.ntmps70
 go_wp2_with (go_at_call 71; (fail_if_success (have := q2)); refine HT.mono ?_; rintro r w2 ⟨rfl, q2, q3⟩; obtain ⟨c2, cf2⟩ := blk_cl (hbx.out _ q2))
 have s2 := q2.bl.size
 have HN := wnum (htA.fw q2) (by omega) d.num.1 d.num.2 hn
 refine HN.mono ?_
 rintro r w4 ⟨rfl, q4⟩
 have s4 := q4.size
 have F4 : Fw lo wb wA w4 := q2.trans (Fw.of (by omega) q4)
 go_wp2_with fail
 refine (wtok2 (q3.below q4) (itoB d.num.1) [59] (Nat.le_of_lt hl39.out) (by omega)).mono ?_
 rintro r w5 ⟨rfl, u2, u3⟩
 have F5 := F4.trans u2
 have s5 := F5.bl.size
 go_wp2_with fail
 refine (wend u3 hl39.out (by omega)).mono ?_
 rintro r w6 ⟨rfl, v2, v3⟩
 go_wp2_with fail
 exact end0' Tryz.results70 rfl ⟨rfl, (hFA.trans F5).trans v2, v3⟩
theorem wdecl (h : Wt w lo wb l inl) (ht : Tb lo w) (hlo : lo <= w.heap.size) (d : Dc) (hn : d.num.1 <= 100000) (hlen : (dclT (l, inl) d).1.length <= 100000000000) : Calls Tryz.prog 70 #[.pointer (some ⟨wb, 0, none⟩), .agg (dcA d)] w (OutWt w lo wb (dclT (l, inl) d)) := by
 unfold dclT at hlen ⊢
 by_cases e : d.word = [102, 114, 101, 113]
 ·rw [if_neg (by simp [e])] at hlen ⊢
  exact wdecl_f h ht hlo d e hn hlen
 ·rw [if_pos e] at hlen ⊢
  exact wdecl_n h ht hlo d e hn hlen
end
theorem lstT_drop2 {α : Type} (f : Ws -> α -> Ws) {xs : List α} {k : Nat} {x : α} (h : xs[k]? = some x) (s : Ws) : lstT f s (xs.drop k) = lstT f (f s x) (xs.drop (k + 1)) := lstT_drop f h s
section
variable {w : World} {lo wb : Nat} {l : List UInt8} {inl : Bool}
theorem wdecls (h : Wt w lo wb l inl) (ht : Tb lo w) (hlo : lo <= w.heap.size) (ds : List Dc) (f : Bool) {b0 : Nat} {v : Value} (hown : w.ownsRow b0 120 6 v ds.length (flatD ds)) (hv : ∀ g, v.ownBlock = some g -> g < lo) (hn : ∀ d ∈ ds, d.num.1 <= 100000) (hlen : (dclsT (l, inl) ds f).1.length <= 100000000000) : Calls Tryz.prog 46 #[.pointer (some ⟨wb, 0, none⟩), v, .bool f] w (OutWt w lo wb (dclsT (l, inl) ds f)) := by
 have hmax : ds.length <= 9223372036854775807 := by
  rcases hown.2 with ⟨h1, h2⟩ | ⟨g, cap, cur, h1, _, _, h2, h3, _⟩
  ·omega
  ·have : maxLen = 9223372036854775807 := rfl
   omega
 obtain ⟨va, vc, rfl⟩ := own_fm hown
 have hrow : Hid (∀ (W : World) (k : Nat), Fw lo wb w W -> k < ds.length -> ∃ g d, va = some ⟨g, 0, none⟩ /\ ds[k]? = some d /\ ∀ j, j < 6 -> W.cell? ⟨g, k * 6 + j, none⟩ = (dcA d)[j]?) := fun W k hF hk => by
  have hkx : ds[k]? = some ds[k] := List.getElem?_eq_getElem hk
  obtain ⟨g, c, e2, l2, llo, hc2⟩ := own_at0 hown (by omega)
  cases e2
  refine ⟨g, ds[k], rfl, hkx, fun j hj => ?_⟩
  have hg : g < lo := hv g rfl
  have hb : W.cell? ⟨g, k * 6 + j, none⟩ = w.cell? ⟨g, k * 6 + j, none⟩ := by
   have := hF.bl.block g hg
   simp [World.cell?, this]
  rw [hb, hc2 (k * 6 + j) (by omega)]
  have h6 : (dcA ds[k])[j]? = some ((dcA ds[k])[j]'(by simpa using hj)) := Array.getElem?_eq_getElem _
  rw [h6]
  exact flat_at (fun d : Dc => (dcA d).toList) 6 (fun _ => rfl) ds k _ hkx j _ (by simp)
 have h9 : Hid (Wt w lo wb l inl) := h
 have ht9 : Hid (Tb lo w) := ht
 have hn9 : Hid (∀ d ∈ ds, d.num.1 <= 100000) := hn
 have hlen9 : Hid ((dclsT (l, inl) ds f).1.length <= 100000000000) := hlen
 clear hlen hn h ht hown hv
 go_enter Tryz.func46, Tryz.ntmps46
 go_wp2_with fail
 go_loopg [10] ds.length (fun q v wr => ∃ (k : Nat) (sk : Ws), v = .int .i64 k /\ k + q = ds.length /\ Hid (Fw lo wb w wr /\ Wt wr lo wb sk.1 sk.2 /\ dclsT sk (ds.drop k) f = dclsT (l, inl) ds f))
 case atStart => exact ⟨0, (l, inl), rfl, by omega, Fw.refl _ _ _, h9.out, rfl⟩
 case round =>
  obtain ⟨k, sk, rfl, hk, HJ⟩ := hrel
  obtain ⟨J1, J2, J3⟩ := HJ.out
  have hsr := J1.bl.size
  by_cases hkl : k < ds.length
  ·have t1 : decide ((k : Int) < (ds.length : Int)) = true := by simp; omega
   obtain ⟨g, d, rfl, hd, hcl⟩ := hrow.out wr k J1 hkl
   have ix : ∀ W : World, (Instr.indexAt 111 (.slice (some ⟨g, 0, none⟩) ds.length vc) (.int .i64 k)).run Tryz.prog W = .ok (.pointer (some ⟨g, k * 6, none⟩)) W := by
    intro W
    rw [run_indexAt_slice (h := by kernel_rfl), if_pos (by omega)]
    have : (sizeOf (Tryz.prog.elem 111)).run Tryz.prog W = .ok 6 W := by kernel_rfl
    rw [this]
    simp [Result.andThen, Addr.add]
    omega
   have d0 : wr.cell? ⟨g, k * 6, none⟩ = some (S d.word) := hcl 0 (by omega)
   have d1 : wr.cell? ⟨g, k * 6 + 1, none⟩ = some (.int .i64 d.pos) := hcl 1 (by omega)
   have d2 : wr.cell? ⟨g, k * 6 + 2, none⟩ = some (S d.name.1) := hcl 2 (by omega)
   have d3 : wr.cell? ⟨g, k * 6 + 3, none⟩ = some (.int .i64 d.name.2) := hcl 3 (by omega)
   have d4 : wr.cell? ⟨g, k * 6 + 4, none⟩ = some (.int .i64 d.num.1) := hcl 4 (by omega)
   have d5 : wr.cell? ⟨g, k * 6 + 5, none⟩ = some (.int .i64 d.num.2) := hcl 5 (by omega)
   have e9 : Hid (dclsT (if (d.word == [102, 114, 101, 113]) = f then dclT sk d else sk) (ds.drop (k + 1)) f = dclsT (l, inl) ds f) := (lstT_drop2 _ hd sk).symm.trans J3
   have hnd : d.num.1 <= 100000 := hn9.out d (List.mem_of_getElem? hd)
   have hl4 : Hid ((if (d.word == [102, 114, 101, 113]) = f then dclT sk d else sk).1.length <= 100000000000) := by
    have h1 := hlen9.out
    rw [<- e9.out] at h1
    exact Nat.le_trans (lstT_le (fun s x => dclsf_le f s x) _ _) h1
   have B1 : Below wr.heap.size wr (wr.alloc (.cells (dcA d) 120)) := (Below.refl _ wr).alloc (Nat.le_refl _) _
   have b1 : (wr.alloc (.cells (dcA d) 120)).heap[wr.heap.size]? = some (.cells (dcA d) 120) := heap_new rfl
   have F1 : Fw lo wb w (wr.alloc (.cells (dcA d) 120)) := J1.trans (Fw.of (by omega) B1)
   have J4 := J2.below B1
   have hs1 : (wr.alloc (.cells (dcA d) 120)).heap.size = wr.heap.size + 1 := by simp
   obtain ⟨c1, cf1⟩ := blk_cl b1
   clear hcl hd HJ J3 J2
   by_cases hc : (d.word == [102, 114, 101, 113]) = f
   ·have HD := wdecl (w := wr.alloc (.cells (dcA d) 120)) (l := sk.1) (inl := sk.2) J4 (ht9.out.fw F1) (by omega) d hnd (by have := hl4.out; rw [if_pos hc] at this; exact this)
    have e8 : Hid (dclsT (dclT sk d) (ds.drop (k + 1)) f = dclsT (l, inl) ds f) := by have := e9.out; rw [if_pos hc] at this; exact this
    clear e9 hl4
    cases f with
    | true =>
     go_wp2_with (go_at_call 70; refine HD.mono ?_; rintro r w3 ⟨rfl, q3, q4⟩)
     go_roundg (gk - 1)
     case measure => omega
     case rel => exact ⟨k + 1, dclT sk d, by simp, by omega, F1.trans q3, q4, e8.out⟩
    | false =>
     go_wp2_with (go_at_call 70; refine HD.mono ?_; rintro r w3 ⟨rfl, q3, q4⟩)
     go_roundg (gk - 1)
     case measure => omega
     case rel => exact ⟨k + 1, dclT sk d, by simp, by omega, F1.trans q3, q4, e8.out⟩
   ·have e8 : Hid (dclsT sk (ds.drop (k + 1)) f = dclsT (l, inl) ds f) := by have := e9.out; rw [if_neg hc] at this; exact this
    clear e9 hl4
    cases f with
    | true =>
     have hc : (d.word == [102, 114, 101, 113]) = false := by simpa using hc
     go_wp2_with fail
     go_roundg (gk - 1)
     case measure => omega
     case rel => exact ⟨k + 1, sk, by simp, by omega, F1, J4, e8.out⟩
    | false =>
     have hc : (d.word == [102, 114, 101, 113]) = true := by simpa using hc
     go_wp2_with fail
     go_roundg (gk - 1)
     case measure => omega
     case rel => exact ⟨k + 1, sk, by simp, by omega, F1, J4, e8.out⟩
  ·have t1 : decide ((k : Int) < (ds.length : Int)) = false := by simp; omega
   have hsk : Hid (sk = dclsT (l, inl) ds f) := by
    rw [List.drop_eq_nil_of_le (by omega)] at J3
    exact J3
   clear J3 HJ
   go_wp2_with fail
   exact end0' Tryz.results46 rfl ⟨rfl, J1, by rw [<- hsk.out]; exact J2⟩
end
theorem RelU_get {P : Value -> BT 8 -> Prop} : ∀ {rs : List (Nat × NP × Value)} {xs : List (Nat × NP × BT 8)} {k : Nat} {x : Nat × NP × BT 8}, RelU P rs xs -> xs[k]? = some x -> ∃ r, rs[k]? = some r /\ r.1 = x.1 /\ r.2.1 = x.2.1 /\ P r.2.2 x.2.2
 | [], [], k, x, _, h => by simp at h
 | r :: rs, y :: xs, 0, x, h, e => by simp at e; subst e; exact ⟨r, rfl, h.1, h.2.1, h.2.2.1⟩
 | r :: rs, y :: xs, k + 1, x, h, e => by
  obtain ⟨r2, h2⟩ := RelU_get (k := k) h.2.2.2 (by simpa using e)
  exact ⟨r2, by simpa using h2⟩
 | [], y :: xs, k, x, h, _ => by cases h
 | r :: rs, [], k, x, h, _ => by cases h
theorem RelU_len {P : Value -> BT 8 -> Prop} : ∀ {rs : List (Nat × NP × Value)} {xs : List (Nat × NP × BT 8)}, RelU P rs xs -> rs.length = xs.length
 | [], [], _ => rfl
 | r :: rs, y :: xs, h => by simp [RelU_len h.2.2.2]
 | [], y :: xs, h => by cases h
 | r :: rs, [], h => by cases h
section
variable {w : World} {lo wb : Nat} {l : List UInt8} {inl : Bool}
theorem wrules (h : Wt w lo wb l inl) (ht : Tb lo w) (hlo : lo <= w.heap.size) (rs : List (Nat × NP × BT 8)) (rows : List (Nat × NP × Value)) (ev : List UInt8) {b0 : Nat} {v : Value} (hown : w.ownsRow b0 161 4 v rows.length (flatU rows)) (hv : ∀ g, v.ownBlock = some g -> g < lo) (hrel0 : RelU (SlR 8 w (fun g => g < lo)) rows rs) (hok : ∀ r ∈ rs, okWT 8 r.2.2) (hlen : (rulsT (l, inl) rs ev).1.length <= 100000000000) : Calls Tryz.prog 47 #[.pointer (some ⟨wb, 0, none⟩), v, S ev] w (OutWt w lo wb (rulsT (l, inl) rs ev)) := by
 have hmax : rows.length <= 9223372036854775807 := by
  rcases hown.2 with ⟨h1, h2⟩ | ⟨g, cap, cur, h1, _, _, h2, h3, _⟩
  ·omega
  ·have : maxLen = 9223372036854775807 := rfl
   omega
 have hlr := RelU_len hrel0
 obtain ⟨va, vc, rfl⟩ := own_fm hown
 have hrow : Hid (∀ (W : World) (k : Nat), Fw lo wb w W -> k < rs.length -> ∃ g r y1 y2 y3, va = some ⟨g, 0, none⟩ /\ rs[k]? = some r /\ SlR 8 W (fun g => g < lo) (.slice y1 y2 y3) r.2.2 /\ ∀ j, j < 4 -> W.cell? ⟨g, k * 4 + j, none⟩ = (ruA r.1 r.2.1 (.slice y1 y2 y3))[j]?) := fun W k hF hk => by
  have hkx : rs[k]? = some rs[k] := List.getElem?_eq_getElem hk
  obtain ⟨r2, h1, h2, h3, h4⟩ := RelU_get hrel0 hkx
  obtain ⟨g, c, e2, l2, llo, hc2⟩ := own_at0 hown (by omega)
  cases e2
  obtain ⟨p, n, y⟩ := r2
  simp only at h2 h3 h4
  obtain ⟨y1, y2, y3, rfl⟩ := SlR.form 8 _ _ h4
  refine ⟨g, rs[k], y1, y2, y3, rfl, hkx, SlR.low h4 hF.bl, fun j hj => ?_⟩
  have hg : g < lo := hv g rfl
  have hb : W.cell? ⟨g, k * 4 + j, none⟩ = w.cell? ⟨g, k * 4 + j, none⟩ := by
   have := hF.bl.block g hg
   simp [World.cell?, this]
  rw [hb, hc2 (k * 4 + j) (by omega), <- h2, <- h3]
  have h6 : (ruA p n (.slice y1 y2 y3))[j]? = some ((ruA p n (.slice y1 y2 y3))[j]'(by simpa using hj)) := Array.getElem?_eq_getElem _
  rw [h6]
  exact flat_at (fun r : Nat × NP × Value => (ruA r.1 r.2.1 r.2.2).toList) 4 (fun _ => rfl) rows k _ h1 j _ (by simp)
 have h9 : Hid (Wt w lo wb l inl) := h
 have ht9 : Hid (Tb lo w) := ht
 have hok9 : Hid (∀ r ∈ rs, okWT 8 r.2.2) := hok
 have hlen9 : Hid ((rulsT (l, inl) rs ev).1.length <= 100000000000) := hlen
 rw [hlr]
 rw [hlr] at hmax
 clear hlen hok h ht hown hv hrel0
 go_enter Tryz.func47, Tryz.ntmps47
 go_wp2_with fail
 go_loopg [10] rs.length (fun q v wr => ∃ (k : Nat) (sk : Ws), v = .int .i64 k /\ k + q = rs.length /\ Hid (Fw lo wb w wr /\ Wt wr lo wb sk.1 sk.2 /\ rulsT sk (rs.drop k) ev = rulsT (l, inl) rs ev))
 case atStart => exact ⟨0, (l, inl), rfl, by omega, Fw.refl _ _ _, h9.out, rfl⟩
 case round =>
  obtain ⟨k, sk, rfl, hk, HJ⟩ := hrel
  obtain ⟨J1, J2, J3⟩ := HJ.out
  have hsr := J1.bl.size
  by_cases hkl : k < rs.length
  ·have t1 : decide ((k : Int) < (rs.length : Int)) = true := by simp; omega
   obtain ⟨g, r, y1, y2, y3, rfl, hd, hsl, hcl⟩ := hrow.out wr k J1 hkl
   have ix : ∀ W : World, (Instr.indexAt 112 (.slice (some ⟨g, 0, none⟩) rs.length vc) (.int .i64 k)).run Tryz.prog W = .ok (.pointer (some ⟨g, k * 4, none⟩)) W := by
    intro W
    rw [run_indexAt_slice (h := by kernel_rfl), if_pos (by omega)]
    have : (sizeOf (Tryz.prog.elem 112)).run Tryz.prog W = .ok 4 W := by kernel_rfl
    rw [this]
    simp [Result.andThen, Addr.add]
    omega
   have d0 : wr.cell? ⟨g, k * 4, none⟩ = some (.int .i64 r.1) := hcl 0 (by omega)
   have d1 : wr.cell? ⟨g, k * 4 + 1, none⟩ = some (S r.2.1.1) := hcl 1 (by omega)
   have d2 : wr.cell? ⟨g, k * 4 + 2, none⟩ = some (.int .i64 r.2.1.2) := hcl 2 (by omega)
   have d3 : wr.cell? ⟨g, k * 4 + 3, none⟩ = some (.slice y1 y2 y3) := hcl 3 (by omega)
   have e9 : Hid (rulsT (rulT sk ev r) (rs.drop (k + 1)) ev = rulsT (l, inl) rs ev) := (lstT_drop2 _ hd sk).symm.trans J3
   have hokr : okWT 8 r.2.2 := hok9.out r (List.mem_of_getElem? hd)
   have hl4 : Hid ((rulT sk ev r).1.length <= 100000000000) := by
    have h1 := hlen9.out
    rw [<- e9.out] at h1
    exact Nat.le_trans (rulsT_le _ _ _) h1
   have B1 : Below wr.heap.size wr (wr.alloc (.cells (ruA r.1 r.2.1 (.slice y1 y2 y3)) 161)) := (Below.refl _ wr).alloc (Nat.le_refl _) _
   have b1 : (wr.alloc (.cells (ruA r.1 r.2.1 (.slice y1 y2 y3)) 161)).heap[wr.heap.size]? = some (.cells (ruA r.1 r.2.1 (.slice y1 y2 y3)) 161) := heap_new rfl
   have F1 : Fw lo wb w (wr.alloc (.cells (ruA r.1 r.2.1 (.slice y1 y2 y3)) 161)) := J1.trans (Fw.of (by omega) B1)
   have J4 := J2.below B1
   have lwr := J2.lt
   have hnb : wr.heap.size ≠ wb := by omega
   have hs1 : (wr.alloc (.cells (ruA r.1 r.2.1 (.slice y1 y2 y3)) 161)).heap.size = wr.heap.size + 1 := by simp
   have hbx : Hid (∀ W : World, Fw lo wb (wr.alloc (.cells (ruA r.1 r.2.1 (.slice y1 y2 y3)) 161)) W -> W.heap[wr.heap.size]? = some (.cells (ruA r.1 r.2.1 (.slice y1 y2 y3)) 161)) := fun W hW => hW.box b1 hnb (by decide)
   have hsl1 : Hid (SlR 8 (wr.alloc (.cells (ruA r.1 r.2.1 (.slice y1 y2 y3)) 161)) (fun g => g < lo) (.slice y1 y2 y3) r.2.2) := hsl.low (B1.mono (by omega))
   obtain ⟨c1, cf1⟩ := blk_cl b1
   clear hcl hd HJ J3 J2 hsl b1
   by_cases hc : r.2.1.1 = ev
   ·have t2 : (r.2.1.1 == ev) = true := by simp [hc]
    have e8 : Hid (rulT sk ev r = nlS (blkT 8 (tksS sk [[111, 110], ev]) r.2.2)) := if_pos hc
    have hl5 := hl4.out
    rw [e8.out] at hl5
    have hl6 : (blkT 8 (tksS sk [[111, 110], ev]) r.2.2).1.length + 1 <= 100000000000 := by
     unfold nlS at hl5
     simpa using hl5
    have HT := wtok2 (w := wr.alloc (.cells (ruA r.1 r.2.1 (.slice y1 y2 y3)) 161)) (l := sk.1) (inl := sk.2) J4 [111, 110] ev (Nat.le_trans (blkT_le 8 _ r.2.2) (Nat.le_of_lt hl6)) (by omega)
    rw [hs1] at HT
    have hl69 : Hid ((blkT 8 (tksS sk [[111, 110], ev]) r.2.2).1.length + 1 <= 100000000000) := hl6
    clear hl5 hl6 hc J4
    go_wp2_with (go_at_call 71; refine HT.mono ?_; rintro r w3 ⟨rfl, q3, q4⟩; obtain ⟨c3, cf3⟩ := blk_cl (hbx.out _ q3))
    have F3 := F1.trans q3
    have s3 := F3.bl.size
    refine (wblk 8 w3 (tksS sk [[111, 110], ev]) _ r.2.2 q4 (ht9.out.fw F3) (by omega) (hsl1.out.low q3.bl) hokr (Nat.le_of_lt hl69.out)).mono ?_
    rintro r2 w4 ⟨rfl, p3, p4⟩
    have F4 := F3.trans p3
    have s4 := F4.bl.size
    go_wp2_with fail
    refine (wend p4 hl69.out (by omega)).mono ?_
    rintro r2 w5 ⟨rfl, u3, u4⟩
    go_wp2_with fail
    go_roundg (gk - 1)
    case measure => omega
    case rel => exact ⟨k + 1, rulT sk ev r, by simp, by omega, F4.trans u3, by rw [e8.out]; exact u4, e9.out⟩
   ·have t2 : (r.2.1.1 == ev) = false := by simpa using hc
    have e8 : Hid (rulT sk ev r = sk) := if_neg hc
    clear hc
    go_wp2_with fail
    go_roundg (gk - 1)
    case measure => omega
    case rel => exact ⟨k + 1, rulT sk ev r, by simp, by omega, F1, by rw [e8.out]; exact J4, e9.out⟩
  ·have t1 : decide ((k : Int) < (rs.length : Int)) = false := by simp; omega
   have hsk : Hid (sk = rulsT (l, inl) rs ev) := by
    rw [List.drop_eq_nil_of_le (by omega)] at J3
    exact J3
   clear J3 HJ
   go_wp2_with fail
   exact end0' Tryz.results47 rfl ⟨rfl, J1, by rw [<- hsk.out]; exact J2⟩
end
section
variable {w : World}
theorem ptext {n : Nat} {x : List Dc × List (Nat × NP × BT 8)} (hT : TreeAt w n x) (ht : Tb w.heap.size w) (hn : ∀ d ∈ x.1, d.num.1 <= 100000) (hok : ∀ r ∈ x.2, okWT 8 r.2.2) (hlen : (txtT x).1.length <= 100000000000) (h0 : (txtT x).1 ≠ []) : Calls Tryz.prog 33 #[ptr n] w fun e w' => e = .returned (S (txtT x).1) /\ Below w.heap.size w w' := by
 obtain ⟨vd, vr, rows, hP, hod, hou, hrel0⟩ := hT
 have ln := (Array.getElem?_eq_some_iff.1 hP).1
 obtain ⟨lo, hlo⟩ : ∃ lo, lo = w.heap.size := ⟨_, rfl⟩
 have B : Below w.heap.size w (w.alloc (.cells #[.pointer none, .slice none 0 0, .bool false] 109)) := (Below.refl _ w).alloc (Nat.le_refl _) _
 have hW : Wt (w.alloc (.cells #[.pointer none, .slice none 0 0, .bool false] 109)) lo lo [] false := ⟨⟨_, _, by rw [hlo]; exact heap_new rfl, Or.inl rfl, World.ownsRow_nil _ _ _ 1, by simp [Value.ownBlock]⟩, Nat.le_refl _⟩
 have hsA : (w.alloc (.cells #[.pointer none, .slice none 0 0, .bool false] 109)).heap.size = w.heap.size + 1 := by simp
 have hrelA : RelU (SlR 8 (w.alloc (.cells #[.pointer none, .slice none 0 0, .bool false] 109)) (fun g => g < lo)) rows x.2 := RelU.mono (fun v x h => SlR.low (SlR.mono 8 (fun g hg => by rw [hlo]; exact hg.2) _ _ (SlR.there 8 v x h)) (B.mono (by omega))) _ _ hrel0
 have hodA := own_mv hod (fun g _ hl => B.block g hl)
 have houA := own_mv hou (fun g _ hl => B.block g hl)
 have hvd : ∀ g, vd.ownBlock = some g -> g < lo := fun g e => by rw [hlo]; exact (hod.lt g e).2
 have hvr : ∀ g, vr.ownBlock = some g -> g < lo := fun g e => by rw [hlo]; exact (hou.lt g e).2
 have htA : Tb lo (w.alloc (.cells #[.pointer none, .slice none 0 0, .bool false] 109)) := by rw [hlo]; exact ht.mv B
 have hPA : Hid (∀ W : World, Fw lo lo (w.alloc (.cells #[.pointer none, .slice none 0 0, .bool false] 109)) W -> W.heap[n]? = some (.cells #[vd, vr] 114)) := fun W hF => (hF.bl.block n (by omega)).trans ((B.block n ln).trans hP)
 have c0 := blk_cl (hPA.out _ (Fw.refl _ _ _))
 obtain ⟨c1, cf1⟩ := c0
 have hBz : Hid (∀ W : World, Fw lo lo (w.alloc (.cells #[.pointer none, .slice none 0 0, .bool false] 109)) W -> Below w.heap.size w W) := fun W hF => B.trans (by rw [<- hlo]; exact hF.bl)
 have hl4 : (lstT (fun s (d : Dc) => rulsT s x.2 d.name.1) (dclsT (dclsT ([], false) x.1 false) x.1 true) x.1).1.length <= 100000000000 := Nat.le_trans (rulsT_le _ _ _) hlen
 have hl3 : (dclsT (dclsT ([], false) x.1 false) x.1 true).1.length <= 100000000000 := Nat.le_trans (lstT_le (fun s d => rulsT_le x.2 d.name.1 s) x.1 _) hl4
 have hl2 : (dclsT ([], false) x.1 false).1.length <= 100000000000 := Nat.le_trans (lstT_le (fun s d => dclsf_le true s d) x.1 _) hl3
 have HD1 := wdecls hW htA (by omega) x.1 false hodA hvd hn hl2
 generalize hwA : w.alloc (.cells #[.pointer none, .slice none 0 0, .bool false] 109) = wA at *
 have hDs : Hid (∀ (W : World) (s : Ws) (f : Bool), Fw lo lo wA W -> Wt W lo lo s.1 s.2 -> (dclsT s x.1 f).1.length <= 100000000000 -> Calls Tryz.prog 46 #[.pointer (some ⟨lo, 0, none⟩), vd, .bool f] W (OutWt W lo lo (dclsT s x.1 f))) := fun W s f hF hWt hl => wdecls hWt (htA.fw hF) (by have := hF.bl.size; omega) x.1 f (own_mv hodA (fun g e _ => hF.bl.block g (hvd g e))) hvd hn hl
 have hRs : Hid (∀ (W : World) (s : Ws) (ev : List UInt8), Fw lo lo wA W -> Wt W lo lo s.1 s.2 -> (rulsT s x.2 ev).1.length <= 100000000000 -> Calls Tryz.prog 47 #[.pointer (some ⟨lo, 0, none⟩), vr, S ev] W (OutWt W lo lo (rulsT s x.2 ev))) := fun W s ev hF hWt hl => wrules hWt (htA.fw hF) (by have := hF.bl.size; omega) x.2 rows ev (own_mv houA (fun g e _ => hF.bl.block g (hvr g e))) hvr (RelU.mono (fun v x h => SlR.low h hF.bl) _ _ hrelA) hok hl
 have hmax : x.1.length <= 9223372036854775807 := by
  rcases hod.2 with ⟨h1, h2⟩ | ⟨g, cap, cur, h1, _, _, h2, h3, _⟩
  ·omega
  ·have : maxLen = 9223372036854775807 := rfl
   omega
 obtain ⟨va, vc, rfl⟩ := own_fm hod
 obtain ⟨ra, rc, rfl⟩ := own_fm hou
 have hrow : Hid (∀ (W : World) (k : Nat), Fw lo lo wA W -> k < x.1.length -> ∃ g d, va = some ⟨g, 0, none⟩ /\ x.1[k]? = some d /\ ∀ j, j < 6 -> W.cell? ⟨g, k * 6 + j, none⟩ = (dcA d)[j]?) := fun W k hF hk => by
  have hkx : x.1[k]? = some x.1[k] := List.getElem?_eq_getElem hk
  obtain ⟨g, c, e2, l2, llo, hc2⟩ := own_at0 hodA (by omega)
  cases e2
  refine ⟨g, x.1[k], rfl, hkx, fun j hj => ?_⟩
  have hg : g < lo := hvd g rfl
  have hb : W.cell? ⟨g, k * 6 + j, none⟩ = wA.cell? ⟨g, k * 6 + j, none⟩ := by
   have := hF.bl.block g hg
   simp [World.cell?, this]
  rw [hb, hc2 (k * 6 + j) (by omega)]
  have h6 : (dcA x.1[k])[j]? = some ((dcA x.1[k])[j]'(by simpa using hj)) := Array.getElem?_eq_getElem _
  rw [h6]
  exact flat_at (fun d : Dc => (dcA d).toList) 6 (fun _ => rfl) x.1 k _ hkx j _ (by simp)
 have hl39 : Hid ((dclsT (dclsT ([], false) x.1 false) x.1 true).1.length <= 100000000000) := hl3
 have hl49 : Hid ((lstT (fun s (d : Dc) => rulsT s x.2 d.name.1) (dclsT (dclsT ([], false) x.1 false) x.1 true) x.1).1.length <= 100000000000) := hl4
 have hlen9 : Hid ((txtT x).1.length <= 100000000000) := hlen
 have h09 : Hid ((txtT x).1 ≠ []) := h0
 have hlo9 : Hid (lo = w.heap.size) := hlo
 clear hl2 hl3 hl4 hlen h0 hrelA hodA houA hod hou hrel0 hW hvd hvr hP htA hn hok ht B
 have hlw : w.heap.size = lo := hlo.symm
 clear hlo
 go_enter Tryz.func33, Tryz.ntmps33
 go_wp2_with (go_at_call 46; (fail_if_success (have := q2)); refine HD1.mono ?_; rintro r w2 ⟨rfl, q2, q3⟩; obtain ⟨c2, cf2⟩ := blk_cl (hPA.out _ q2))
 refine (hDs.out w2 _ true q2 q3 hl39.out).mono ?_
 rintro r w3 ⟨rfl, p2, p3⟩
 have F3 := q2.trans p2
 obtain ⟨c3, cf3⟩ := blk_cl (hPA.out _ F3)
 go_wp2_with fail
 go_loopg [25] x.1.length (fun q v wr => ∃ (k : Nat) (sk : Ws), v = .int .i64 k /\ k + q = x.1.length /\ Hid (Fw lo lo wA wr /\ Wt wr lo lo sk.1 sk.2 /\ lstT (fun s (d : Dc) => rulsT s x.2 d.name.1) sk (x.1.drop k) = lstT (fun s (d : Dc) => rulsT s x.2 d.name.1) (dclsT (dclsT ([], false) x.1 false) x.1 true) x.1))
 case atStart => exact ⟨0, dclsT (dclsT ([], false) x.1 false) x.1 true, rfl, by omega, F3, p3, rfl⟩
 case round =>
  obtain ⟨k, sk, rfl, hk, HJ⟩ := hrel
  obtain ⟨J1, J2, J3⟩ := HJ.out
  have hsr := J1.bl.size
  obtain ⟨c4, cf4⟩ := blk_cl (hPA.out _ J1)
  by_cases hkl : k < x.1.length
  ·have t1 : decide ((k : Int) < (x.1.length : Int)) = true := by simp; omega
   obtain ⟨g, d, rfl, hd, hcl⟩ := hrow.out wr k J1 hkl
   have ix : ∀ W : World, (Instr.indexAt 111 (.slice (some ⟨g, 0, none⟩) x.1.length vc) (.int .i64 k)).run Tryz.prog W = .ok (.pointer (some ⟨g, k * 6, none⟩)) W := by
    intro W
    rw [run_indexAt_slice (h := by kernel_rfl), if_pos (by omega)]
    have : (sizeOf (Tryz.prog.elem 111)).run Tryz.prog W = .ok 6 W := by kernel_rfl
    rw [this]
    simp [Result.andThen, Addr.add]
    omega
   have d0 : wr.cell? ⟨g, k * 6, none⟩ = some (S d.word) := hcl 0 (by omega)
   have d1 : wr.cell? ⟨g, k * 6 + 1, none⟩ = some (.int .i64 d.pos) := hcl 1 (by omega)
   have d2 : wr.cell? ⟨g, k * 6 + 2, none⟩ = some (S d.name.1) := hcl 2 (by omega)
   have d3 : wr.cell? ⟨g, k * 6 + 3, none⟩ = some (.int .i64 d.name.2) := hcl 3 (by omega)
   have d4 : wr.cell? ⟨g, k * 6 + 4, none⟩ = some (.int .i64 d.num.1) := hcl 4 (by omega)
   have d5 : wr.cell? ⟨g, k * 6 + 5, none⟩ = some (.int .i64 d.num.2) := hcl 5 (by omega)
   have e9 : Hid (lstT (fun s (d : Dc) => rulsT s x.2 d.name.1) (rulsT sk x.2 d.name.1) (x.1.drop (k + 1)) = lstT (fun s (d : Dc) => rulsT s x.2 d.name.1) (dclsT (dclsT ([], false) x.1 false) x.1 true) x.1) := (lstT_drop2 _ hd sk).symm.trans J3
   have hl5 : (rulsT sk x.2 d.name.1).1.length <= 100000000000 := by
    have h1 := hl49.out
    rw [<- e9.out] at h1
    exact Nat.le_trans (lstT_le (fun s (d : Dc) => rulsT_le x.2 d.name.1 s) _ _) h1
   have B1 : Below wr.heap.size wr (wr.alloc (.cells (dcA d) 120)) := (Below.refl _ wr).alloc (Nat.le_refl _) _
   have b1 : (wr.alloc (.cells (dcA d) 120)).heap[wr.heap.size]? = some (.cells (dcA d) 120) := heap_new rfl
   have F1 : Fw lo lo wA (wr.alloc (.cells (dcA d) 120)) := J1.trans (Fw.of (by omega) B1)
   have F1d : Fw lo lo wA (wr.alloc (.cells (dcA d) 120)).drew := F1.trans (Fw.of (by have := F1.bl.size; omega) ((Below.refl _ _).drew))
   have J4 : Wt (wr.alloc (.cells (dcA d) 120)).drew lo lo sk.1 sk.2 := (J2.below B1).below ((Below.refl _ _).drew)
   obtain ⟨c5, cf5⟩ := blk_cl b1
   obtain ⟨c6, cf6⟩ := blk_cl (hPA.out _ F1)
   have HR := hRs.out _ sk d.name.1 F1d J4 hl5
   clear hcl hd HJ J3 J2 b1 J4
   go_upto_region 7 with fail
   go_region_with (go_at_call 47; refine HR.mono ?_; rintro r w4 ⟨rfl, u2, u3⟩)
   all_goals
    go_wp2_with fail
    go_roundg (gk - 1)
    case measure => omega
    case rel => exact ⟨k + 1, rulsT sk x.2 d.name.1, by simp, by omega, F1d.trans u2, u3, e9.out⟩
  ·have t1 : decide ((k : Int) < (x.1.length : Int)) = false := by simp; omega
   have hsk : Hid (sk = lstT (fun s (d : Dc) => rulsT s x.2 d.name.1) (dclsT (dclsT ([], false) x.1 false) x.1 true) x.1) := by
    rw [List.drop_eq_nil_of_le (by omega)] at J3
    exact J3
   have e9 : Hid (rulsT sk x.2 [109, 105, 115, 115] = txtT x) := by rw [hsk.out]; rfl
   clear J3 HJ
   go_wp2_with fail
   refine (hRs.out wr sk [109, 105, 115, 115] J1 J2 (by rw [e9.out]; exact hlen9.out)).mono ?_
   rintro r w4 ⟨rfl, u2, u3⟩
   rw [e9.out] at u3
   have F4 := J1.trans u2
   go_wp2_with fail
   refine (wstring u3 h09.out (by have := hlen9.out; omega)).mono ?_
   rintro r w5 ⟨rfl, v2⟩
   have hB5 : Hid (Below w.heap.size w w5) := (hBz.out w4 F4).trans (by rw [<- hlo9.out]; exact v2)
   go_wp2_with fail
   go_ret
   exact ⟨rfl, hB5.out⟩
end
end Go.Proofs.YtfddoieakfpagabGreatDoor
