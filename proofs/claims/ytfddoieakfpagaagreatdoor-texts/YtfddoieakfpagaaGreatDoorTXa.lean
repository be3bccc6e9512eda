import Derived.Test.YtfddoieakfpagaaGreatDoorTV
import Derived.Lib.Builder
import Derived.Shelf.Strings.Builder1
import Derived.Test.YtfddoieakfpagaaGreatDoorShelfI
import Derived.Lib.AppendIntMem
namespace Go.Proofs.YtfddoieakfpagaaGreatDoor
set_option maxHeartbeats 4000000
set_option maxRecDepth 20000
open Go.RowKit
structure Wt (w : World) (lo wb : Nat) (l : List UInt8) (inl : Bool) : Prop where
 ex : ∃ pv v, w.heap[wb]? = some (.cells #[pv, v, .bool inl] 142) /\ (pv = .pointer none \/ pv = .pointer (some ⟨wb, 0, none⟩)) /\ w.ownsRow lo 5 1 v l.length (Lib.byteCells l) /\ v.ownBlock ≠ some wb
 le : lo <= wb
structure Fw (lo wb : Nat) (w w' : World) : Prop where
 bl : Below lo w w'
 blk : ∀ b, b < w.heap.size -> b ≠ wb -> (∀ c f, w.heap[b]? ≠ some (.cells c 5 f)) -> w'.heap[b]? = w.heap[b]?
theorem Fw.refl (lo wb : Nat) (w : World) : Fw lo wb w w := ⟨Below.refl _ _, fun _ _ _ _ => rfl⟩
theorem Fw.trans {lo wb : Nat} {a b c : World} (h : Fw lo wb a b) (k : Fw lo wb b c) : Fw lo wb a c := ⟨h.bl.trans k.bl, fun x hx hn ht => (k.blk x (Nat.lt_of_lt_of_le hx h.bl.size) hn (fun q f => by rw [h.blk x hx hn ht]; exact ht q f)).trans (h.blk x hx hn ht)⟩
theorem Fw.of {lo wb : Nat} {w w' : World} (hlo : lo <= w.heap.size) (h : Below w.heap.size w w') : Fw lo wb w w' := ⟨h.mono hlo, fun b hb _ _ => h.block b hb⟩
theorem Fw.set {lo wb o : Nat} {w : World} (hle : lo <= wb) (v : Value) : Fw lo wb w (w.setCell ⟨wb, o, none⟩ v) := ⟨(Below.refl lo w).setCell (p := ⟨wb, o, none⟩) hle _, fun b _ hn _ => zS _ ⟨wb, o, none⟩ _ b hn⟩
theorem Fw.grown {lo wb n : Nat} {w w' : World} {v : Value} {xs : List Value} (h : w.ownsRow lo 5 1 v n xs) (hg : w.grownBy w' v.ownBlock) (hlo : lo <= w.heap.size) : Fw lo wb w w' := ⟨⟨hg.os, hg.tape, hg.output, hg.size, fun b hb => hg.block b (by omega) (fun e => by have := (h.lt b e.symm).1; omega)⟩, fun b hb _ ht => hg.block b hb (fun e => by
 rcases h.2 with ⟨e2, _⟩ | ⟨g, cap, cur, e2, _, e3, _⟩
 ·rw [e2] at e; simp [Value.ownBlock] at e
 ·rw [e2] at e
  simp [Value.ownBlock] at e
  subst e
  exact ht _ _ e3)⟩
theorem aFj : (Tryz.prog.info? 140).map (·.size) = some 2 := by kernel_rfl
theorem aL7 : liesAt Tryz.prog Tryz.prog.depth 142 (3 / Tryz.prog.cellsOf 142) 0 140 1 = true := by kernel_rfl
theorem aGl : (Tryz.prog.info? 5).map (fun i => (i.zero, i.size, i.bytes)) = some (some (.int .u8 0), 1, 1) := by kernel_rfl
section
variable {w : World} {lo wb : Nat} {l : List UInt8} {inl : Bool}
theorem aDp {v : Value} (h : w.heap[wb]? = some (.cells #[.pointer (some ⟨wb, 0, none⟩), v, .bool inl] 142)) : Calls Tryz.prog 182 #[.pointer (some ⟨wb, 0, none⟩)] w fun e w' => e = .returned (.tuple #[]) /\ w' = w := by
 obtain ⟨c1, cf1⟩ := aA h
 obtain ⟨j, hj, _⟩ := Option.map_eq_some_iff.1 aFj
 go_enter Tryz.func182, Tryz.ntmps182
 go_wp2_with fail
 rw [Lib.run_neq_ptr_same w _ Tryz.underlying138 hj]
 go_wp2_with fail
 exact fH Tryz.results182 rfl ⟨rfl, rfl⟩
theorem aHg {v : Value} (h : w.heap[wb]? = some (.cells #[.pointer none, v, .bool inl] 142)) : Calls Tryz.prog 182 #[.pointer (some ⟨wb, 0, none⟩)] w fun e w' => e = .returned (.tuple #[]) /\ w' = w.setCell ⟨wb, 0, none⟩ (.pointer (some ⟨wb, 0, none⟩)) := by
 obtain ⟨c1, cf1⟩ := aA h
 obtain ⟨j, hj, hjs⟩ := Option.map_eq_some_iff.1 aFj
 have hsh : w.shape? wb = some (142, 3) := by simp [World.shape?, h]
 have hu1 := Lib.run_to_unsafe (P := Tryz.prog) (w := w) (src := 138) (dst := 213) (t := 140) ⟨wb, 0, none⟩ Tryz.underlying138 Tryz.underlying213 hj (by rw [hjs]; decide) hsh (show 0 < 3 by omega)
 have hu2 := Lib.run_from_unsafe (P := Tryz.prog) (w := w) (src := 213) (dst := 138) (u := 140) ⟨wb, 0, none⟩ Tryz.underlying213 Tryz.underlying138 hj hsh aL7
 go_enter Tryz.func182, Tryz.ntmps182
 go_wp2_with fail
 rw [run_callFunc_extern Tryz.func199 (by kernel_rfl) (by kernel_rfl) (by kernel_rfl) (e := Extern.AbiNoEscape.same) (by kernel_rfl)]
 rw [Lib.run_noEscape]
 simp only [Result.andThen]
 rw [Oper.upon_value]
 go_wp2_with fail
 exact fH Tryz.results182 rfl ⟨rfl, rfl⟩
theorem aOq (h : Wt w lo wb l inl) : Calls Tryz.prog 182 #[.pointer (some ⟨wb, 0, none⟩)] w fun e w' => e = .returned (.tuple #[]) /\ Fw lo wb w w' /\ ∃ v, w'.heap[wb]? = some (.cells #[.pointer (some ⟨wb, 0, none⟩), v, .bool inl] 142) /\ w'.ownsRow lo 5 1 v l.length (Lib.byteCells l) /\ v.ownBlock ≠ some wb := by
 obtain ⟨pv, v, h1, h2, h3, h4⟩ := h.ex
 rcases h2 with rfl | rfl
 ·refine (aHg h1).mono ?_
  rintro e w' ⟨rfl, rfl⟩
  refine ⟨rfl, Fw.set h.le _, v, (zC _ _ _ _ _ _ h1).trans rfl, aW h3 (fun b e _ => zS _ ⟨wb, 0, none⟩ _ b (fun e2 => ?_)), h4⟩
  have e2 : b = wb := e2
  subst e2
  exact h4 e
 ·refine (aDp h1).mono ?_
  rintro e w' ⟨rfl, rfl⟩
  exact ⟨rfl, Fw.refl _ _ _, v, h1, h3, h4⟩
theorem Wt.put {w1 w2 : World} {v v' : Value} {l' : List UInt8} (hle : lo <= wb) (h1 : w1.heap[wb]? = some (.cells #[.pointer (some ⟨wb, 0, none⟩), v, .bool inl] 142)) (h2 : w2.heap[wb]? = w1.heap[wb]?) (ho : w2.ownsRow lo 5 1 v' l'.length (Lib.byteCells l')) : Wt (w2.setCell ⟨wb, 1, none⟩ v') lo wb l' inl := by
 have hne : v'.ownBlock ≠ some wb := fun e => by
  rcases ho.2 with ⟨e2, _⟩ | ⟨g, cap, cur, e2, _, e3, _⟩
  ·rw [e2] at e; simp [Value.ownBlock] at e
  ·rw [e2] at e
   simp [Value.ownBlock] at e
   subst e
   rw [h2, h1] at e3
   simp at e3
 refine ⟨⟨_, v', (zC _ _ _ _ _ _ (h2.trans h1)).trans rfl, Or.inr rfl, aW ho (fun b e _ => zS _ ⟨wb, 1, none⟩ _ b (fun e2 => ?_)), hne⟩, hle⟩
 have e2 : b = wb := e2
 subst e2
 exact hne e
theorem aOs (h : Wt w lo wb l inl) (c : UInt8) (hlen : l.length + 1 <= 140737488355328) (hlo : lo <= w.heap.size) : Calls Tryz.prog 145 #[.pointer (some ⟨wb, 0, none⟩), .int .u8 c.toNat] w fun e w' => e = .returned .nilIface /\ Fw lo wb w w' /\ Wt w' lo wb (l ++ [c]) inl := by
 obtain ⟨i0, hi, hz0, hz1, hz2⟩ := info_parts aGl
 have HC := aOq h
 have hle := h.le
 go_enter Tryz.func145, Tryz.ntmps145
 go_wp2_with (go_at_call 182; refine HC.mono ?_)
 rintro e w1 ⟨rfl, B1, v, h1, h3, h4⟩
 have lwb := (zL h1)
 obtain ⟨c1, cf1⟩ := aA h1
 have hs1 := B1.bl.size
 obtain ⟨va, vc, rfl⟩ := oG h3
 go_wp2_with (at_builtin; refine wpList_append_own_at _ rfl _ _ 95 rfl lo 5 i0 (.int .u8 0) 1 1 Tryz.underlying95 hi hz0 hz1 hz2 rfl (by decide) _ _ _ rfl (h3.alloc _) ⟨w1.heap.size, 0, none⟩ 1 1 [.int .u8 c.toNat] rfl rfl ?c1 ?c2 ?c3 ?c4 ?c5 ?_)
 case c1 =>
  intro j u hj
  match j, hj with
  | 0, hj => simp at hj; subst hj; simp [Addr.add]
 case c2 => intro u hu; simp at hu; subst hu; rfl
 case c3 => unfold maxLen; omega
 case c4 => omega
 case c5 => simp; omega
 intro v' w2 hown' hgrow _ hat
 have hb2 : w2.heap[wb]? = w1.heap[wb]? := (hgrow.block wb (by simp; omega) (fun e => h4 e.symm)).trans (zM _ _ _ lwb)
 obtain ⟨c2, tC⟩ := aA (hb2.trans h1)
 obtain ⟨ya, yn, yc, rfl⟩ := aU hown'
 have hfin := Wt.put (l' := l ++ [c]) hle h1 hb2 (by simpa [Lib.byteCells] using hown')
 have hB2 : Fw lo wb w1 w2 := (Fw.of (by omega) ((Below.refl _ w1).alloc zR _)).trans (Fw.grown (h3.alloc _) hgrow (by simp; omega))
 clear hown' hgrow hat h3
 go_wp2_with fail
 go_ret
 exact ⟨rfl, (B1.trans hB2).trans (Fw.set hle _), hfin⟩
theorem aRe (h : Wt w lo wb l inl) (t : List UInt8) (hlen : l.length + t.length <= 140737488355328) (hlo : lo <= w.heap.size) : Calls Tryz.prog 146 #[.pointer (some ⟨wb, 0, none⟩), S t] w fun e w' => e = .returned (.tuple #[.int .i64 t.length, .nilIface]) /\ Fw lo wb w w' /\ Wt w' lo wb (l ++ t) inl := by
 obtain ⟨i0, hi, hz0, hz1, hz2⟩ := info_parts aGl
 have HC := aOq h
 have hle := h.le
 go_enter Tryz.func146, Tryz.ntmps146
 go_wp2_with (go_at_call 182; refine HC.mono ?_)
 rintro e w1 ⟨rfl, B1, v, h1, h3, h4⟩
 have lwb := (zL h1)
 obtain ⟨c1, cf1⟩ := aA h1
 have hs1 := B1.bl.size
 obtain ⟨va, vc, rfl⟩ := oG h3
 go_wp2_with (at_builtin; refine Lib.wpList_append_own_string _ rfl _ _ 95 9 rfl lo 5 i0 Tryz.underlying95 Tryz.underlying9 hi hz0 hz1 hz2 _ _ _ rfl h3 ⟨t.toArray⟩ rfl ?c3 ?c4 ?c5 ?_)
 case c3 => unfold maxLen; show l.length + t.toArray.size <= _; simp; omega
 case c4 => show l.length + t.toArray.size <= _; simp; omega
 case c5 => omega
 intro v' w2 hown' hgrow hat
 have hb2 : w2.heap[wb]? = w1.heap[wb]? := hgrow.block wb lwb (fun e => h4 e.symm)
 obtain ⟨c2, tC⟩ := aA (hb2.trans h1)
 obtain ⟨ya, yn, yc, rfl⟩ := aU hown'
 have hfin := Wt.put (l' := l ++ t) hle h1 hb2 (by
  have := hown'
  have e0 : Lib.strCells ⟨t.toArray⟩ = Lib.byteCells t := rfl
  rw [e0] at this
  simpa [Lib.byteCells] using this)
 have hB2 : Fw lo wb w1 w2 := Fw.grown h3 hgrow (by omega)
 clear hown' hgrow hat h3
 go_wp2_with fail
 exact bodyPost_ret (v := .tuple #[.int .i64 t.length, .nilIface]) (by simp [results, Tryz.results146, go_sem]) rfl ⟨rfl, (B1.trans hB2).trans (Fw.set hle _), hfin⟩
end
section
variable {w : World} {lo wb : Nat} {l : List UInt8} {inl : Bool}
theorem aL2 (h : Wt w lo wb l inl) (h0 : l ≠ []) (hl : l.length <= 140737488355328) : Calls Tryz.prog 79 #[.pointer (some ⟨wb, 0, none⟩)] w fun e w' => e = .returned (S l) /\ Below lo w w' := by
 obtain ⟨pv, v, h1, h2, h3, h4⟩ := h.ex
 have hl0 : l.length ≠ 0 := by simpa using h0
 obtain ⟨g, cap, cur, rfl, hbg, hg, hnc, hcm, hcs, htake⟩ : ∃ g cap cur, v = .slice (some ⟨g, 0, none⟩) l.length cap /\ lo <= g /\ w.heap[g]? = some (.cells cur 5 (0, 0)) /\ l.length <= cap /\ cap <= maxLen /\ cur.size = cap * 1 /\ cur.toList.take (l.length * 1) = Lib.byteCells l := by
  rcases h3.2 with ⟨_, hz⟩ | ⟨g, cap, cur, hv, r⟩
  ·exact absurd hz hl0
  ·exact ⟨g, cap, cur, hv, r⟩
 obtain ⟨c1, cf1⟩ := aA h1
 have hcb : Tryz.prog.cellsOf 5 = 1 := by kernel_rfl
 have hSD : (Builtin.unsafeSliceData_ #[95] 238 #[.slice (some ⟨g, 0, none⟩) l.length cap]).run Tryz.prog w.drew = .ok (.pointer (some ⟨g, 0, none⟩)) w.drew :=
  Lib.run_unsafeSliceData_row _ _ _ _ _ _ (by omega)
 have hUS : (Builtin.unsafeString_ #[238, 3] 9 #[.pointer (some ⟨g, 0, none⟩), .int .i64 l.length]).run Tryz.prog w.drew = .ok (.string ⟨l.toArray⟩) (w.drew.freeze ⟨g, 0, none⟩ l.length) := by
  refine Lib.run_unsafeString_row w.drew 238 3 9 5 Tryz.underlying238 hcb g cur.size (by have hg' : w.drew.heap[g]? = some (.cells cur 5 (0, 0)) := hg; simp [World.shape?, hg']) l h0 (by omega) (by unfold maxLen at hcm; omega) ?_
  intro j x hx
  have := h3.cells (g := g) rfl j (.int .u8 x.toNat) (by simp [Lib.byteCells, hx])
  exact this
 have hB := Lib.below_freeze (Below.drew (Below.refl lo w)) (p := ⟨g, 0, none⟩) hbg l.length
 go_enter Tryz.func79, Tryz.ntmps79
 go_wp2_with fail
 go_region
 all_goals
  go_wp2_with fail
  go_ret
  exact ⟨rfl, hB⟩
end
abbrev Ws := List UInt8 × Bool
def dG (s : Ws) (t : List UInt8) : Ws := (s.1 ++ (if s.2 = true /\ t ≠ [59] then 32 :: t else t), true)
def fB (s : Ws) (ts : List (List UInt8)) : Ws := ts.foldl dG s
def nlS (s : Ws) : Ws := (s.1 ++ [10], false)
theorem dP (s : Ws) (t : List UInt8) : s.1.length <= (dG s t).1.length := by
 unfold dG
 simp
theorem kJ : ∀ (ts : List (List UInt8)) (s : Ws), s.1.length <= (fB s ts).1.length
 | [], _s => zR
 | t :: ts, s => Nat.le_trans (dP s t) (kJ ts (dG s t))
theorem aBh (s : Ws) (a b : List (List UInt8)) : fB s (a ++ b) = fB (fB s a) b := by
 unfold fB
 exact List.foldl_append
def fJ (w : World) (lo wb : Nat) (s : Ws) (e : Ending) (w' : World) : Prop := e = .returned (.tuple #[]) /\ Fw lo wb w w' /\ Wt w' lo wb s.1 s.2
section
variable {w : World} {lo wb : Nat} {l : List UInt8} {inl : Bool}
theorem Wt.flag (h : Wt w lo wb l inl) (b : Bool) : Wt (w.setCell ⟨wb, 2, none⟩ (.bool b)) lo wb l b := by
 obtain ⟨pv, v, h1, h2, h3, h4⟩ := h.ex
 refine ⟨⟨pv, v, (zC _ _ _ _ _ _ h1).trans rfl, h2, aW h3 (fun g e _ => zS _ ⟨wb, 2, none⟩ _ g (fun e2 => ?_)), h4⟩, h.le⟩
 have e2 : g = wb := e2
 subst e2
 exact h4 e
theorem Wt.lt (h : Wt w lo wb l inl) : wb < w.heap.size := by
 obtain ⟨pv, v, h1, _⟩ := h.ex
 exact (zL h1)
theorem Wt.below {w' : World} (h : Wt w lo wb l inl) (hb : Below w.heap.size w w') : Wt w' lo wb l inl := by
 obtain ⟨pv, v, h1, h2, h3, h4⟩ := h.ex
 exact ⟨⟨pv, v, (hb.block _ h.lt).trans h1, h2, aW h3 (fun b _ hl => hb.block b hl), h4⟩, h.le⟩
theorem Wt.cells (h : Wt w lo wb l inl) : w.cell? ⟨wb, 2, none⟩ = some (.bool inl) /\ ∀ o, w.frozen? ⟨wb, o, none⟩ = false := by
 obtain ⟨pv, v, h1, h2, h3, h4⟩ := h.ex
 exact ⟨(aA h1).1 2, (aA h1).2⟩
theorem aRx (g o n cap k : Nat) (hk : k < n) : ∀ W : World, (Instr.indexAt 120 (.slice (some ⟨g, o, none⟩) n cap) (.int .i64 k)).run Tryz.prog W = .ok (.pointer (some ⟨g, o + k, none⟩)) W := by
 intro W
 rw [run_indexAt_slice (h := by kernel_rfl), if_pos (by omega)]
 have : (sizeOf (Tryz.prog.elem 120)).run Tryz.prog W = .ok 1 W := by kernel_rfl
 rw [this]
 simp [Result.andThen, Addr.add]
theorem aPj (h : Wt w lo wb l inl) (hlen : l.length + 1 <= 100000000000) (hlo : lo <= w.heap.size) : Calls Tryz.prog 114 #[.pointer (some ⟨wb, 0, none⟩)] w (fJ w lo wb (nlS (l, inl))) := by
 have HB := aOs h 10 (by omega) hlo
 have hle := h.le
 go_enter Tryz.func114, Tryz.ntmps114
 go_wp2_with (go_at_call 145; refine HB.mono ?_; rintro r w1 ⟨rfl, q1, q2⟩; obtain ⟨c1, cf1⟩ := q2.cells)
 exact fH Tryz.results114 rfl ⟨rfl, q1.trans (Fw.set hle _), q2.flag false⟩
theorem aOp (h : Wt w lo wb l inl) (ts : List (List UInt8)) (hn : ts.length <= 1000) {g : Nat} (hg : w.heap[g]? = some (.cells (ts.map S).toArray 9)) (hlen : (fB (l, inl) ts).1.length <= 100000000000) (hlo : lo <= w.heap.size) : Calls Tryz.prog 112 #[.pointer (some ⟨wb, 0, none⟩), .slice (some ⟨g, 0, none⟩) ts.length ts.length] w (fJ w lo wb (fB (l, inl) ts)) := by
 have hle := h.le
 have lg := (zL hg)
 have hgw : g ≠ wb := fun e => by
  obtain ⟨pv, v, h1, _⟩ := h.ex
  rw [e, h1] at hg
  simp at hg
 have hg9 : Hid (∀ W : World, Fw lo wb w W -> W.heap[g]? = some (.cells (ts.map S).toArray 9)) := fun W hW => (hW.blk g lg hgw (fun c f => by rw [hg]; simp)).trans hg
 have h9 : Hid (Wt w lo wb l inl) := h
 have fP : Hid ((fB (l, inl) ts).1.length <= 100000000000) := hlen
 clear hg h hlen
 go_enter Tryz.func112, Tryz.ntmps112
 go_wp2_with fail
 go_loopg [8] ts.length (fun f v wr => ∃ k : Nat, v = .int .i64 k /\ k + f = ts.length /\ Hid (Fw lo wb w wr /\ Wt wr lo wb (fB (l, inl) (ts.take k)).1 (fB (l, inl) (ts.take k)).2))
 case atStart => exact ⟨0, rfl, by omega, Fw.refl _ _ _, h9.out⟩
 case round =>
  obtain ⟨k, rfl, hk, HJ⟩ := hrel
  obtain ⟨J1, J2⟩ := HJ.out
  by_cases hkl : k < ts.length
  ·have t1 : decide ((k : Int) < (ts.length : Int)) = true := by simp; omega
   have ht : ts[k]? = some ts[k] := List.getElem?_eq_getElem hkl
   have cg : wr.cell? ⟨g, k, none⟩ = some (S ts[k]) := by
    rw [(aA (hg9.out wr J1)).1 k]
    simp [ht]
   have ix := aRx g 0 ts.length ts.length k hkl
   rw [Nat.zero_add] at ix
   have htk : Hid (fB (l, inl) (ts.take (k + 1)) = dG (fB (l, inl) (ts.take k)) ts[k]) := by
    show _ = _
    rw [List.take_succ_eq_append_getElem hkl, aBh]
    rfl
   have hl2 : (dG (fB (l, inl) (ts.take k)) ts[k]).1.length <= 100000000000 := by
    rw [<- htk.out]
    have h1 := fP.out
    rw [<- List.take_append_drop (k + 1) ts, aBh] at h1
    exact Nat.le_trans (kJ _ _) h1
   have hs1 := J1.bl.size
   generalize fB (l, inl) (ts.take k) = s at *
   generalize ts[k] = t at *
   obtain ⟨sl, si⟩ := s
   simp only at J2
   have hfin : Hid (∀ W : World, Fw lo wb w W -> Wt W lo wb (dG (sl, si) t).1 si -> (Fw lo wb w (W.setCell ⟨wb, 2, none⟩ (.bool true)) /\ Wt (W.setCell ⟨wb, 2, none⟩ (.bool true)) lo wb (fB (l, inl) (ts.take (k + 1))).1 (fB (l, inl) (ts.take (k + 1))).2)) := fun W hW h2 => by
    rw [htk.out]
    exact ⟨hW.trans (Fw.set hle _), h2.flag true⟩
   obtain ⟨c2, tC⟩ := J2.cells
   have J29 : Hid (Wt wr lo wb sl si) := J2
   have J19 : Hid (Fw lo wb w wr) := J1
   have hl9 : Hid ((dG (sl, si) t).1.length <= 100000000000) := hl2
   clear J2 J1 HJ hl2 htk ht
   by_cases hc : si = true /\ t ≠ [59]
   ·obtain ⟨rfl, hc2⟩ := hc
    have e1 : Hid ((dG (sl, true) t).1 = sl ++ [32] ++ t) := by
     show _ = _
     unfold dG
     rw [if_pos ⟨rfl, hc2⟩]
     simp
    have hl3 : sl.length + 1 + t.length <= 100000000000 := by
     have := hl9.out
     rw [e1.out] at this
     simp at this
     omega
    have HB := aOs J29.out 32 (by omega) (by omega)
    have hne : (t == [59]) = false := by simpa using hc2
    go_wp2_with (go_at_call 145; refine HB.mono ?_)
    rintro r w1 ⟨rfl, q1, q2⟩
    have HS := aRe q2 t (by simp; omega) (by have := q1.bl.size; omega)
    go_wp2_with (go_at_call 146; refine HS.mono ?_; rintro r w2 ⟨rfl, q3, q4⟩; obtain ⟨c3, cf3⟩ := q4.cells)
    have hq : Hid (Fw lo wb w w2 /\ Wt w2 lo wb (dG (sl, true) t).1 true) := ⟨(J19.out.trans q1).trans q3, by rw [e1.out]; exact q4⟩
    go_roundg (gk - 1)
    case measure => omega
    case rel => exact ⟨k + 1, by simp, by omega, hfin.out w2 hq.out.1 hq.out.2⟩
   ·have e1 : Hid ((dG (sl, si) t).1 = sl ++ t) := by
     show _ = _
     unfold dG
     rw [if_neg hc]
    have hl3 : sl.length + t.length <= 100000000000 := by
     have := hl9.out
     rw [e1.out] at this
     simpa using this
    have HS := aRe J29.out t (by omega) (by omega)
    have hq : Hid (∀ w2 : World, Fw lo wb wr w2 -> Wt w2 lo wb (sl ++ t) si -> (Fw lo wb w w2 /\ Wt w2 lo wb (dG (sl, si) t).1 si)) := fun w2 q3 q4 => ⟨J19.out.trans q3, by rw [e1.out]; exact q4⟩
    cases si with
    | false =>
     go_wp2_with (go_at_call 146; refine HS.mono ?_; rintro r w2 ⟨rfl, q3, q4⟩; obtain ⟨c3, cf3⟩ := q4.cells)
     go_roundg (gk - 1)
     case measure => omega
     case rel => exact ⟨k + 1, by simp, by omega, hfin.out w2 (hq.out w2 q3 q4).1 (hq.out w2 q3 q4).2⟩
    | true =>
     have aR4 : t = [59] := by
      apply Classical.byContradiction
      intro h5
      exact hc ⟨rfl, h5⟩
     have hne : (t == [59]) = true := by simp [aR4]
     clear aR4
     go_wp2_with (go_at_call 146; refine HS.mono ?_; rintro r w2 ⟨rfl, q3, q4⟩; obtain ⟨c3, cf3⟩ := q4.cells)
     go_roundg (gk - 1)
     case measure => omega
     case rel => exact ⟨k + 1, by simp, by omega, hfin.out w2 (hq.out w2 q3 q4).1 (hq.out w2 q3 q4).2⟩
  ·have t1 : decide ((k : Int) < (ts.length : Int)) = false := by simp; omega
   have hq : Hid (fJ w lo wb (fB (l, inl) ts) (.returned (.tuple #[])) wr) := by
    rw [List.take_of_length_le (by omega)] at J2
    exact ⟨rfl, J1, J2⟩
   go_wp2_with fail
   exact fH Tryz.results112 rfl hq.out
end
def Tb (lo : Nat) (w : World) : Prop := ∀ W : World, Below lo w W -> Lib.TabIs Tryz.prog W "internal/strconv.uint64pow10" .u64 Lib.pow10Tab
theorem Tb.mv {lo : Nat} {w w' : World} (h : Tb lo w) (hb : Below lo w w') : Tb lo w' := fun W hW => h W (hb.trans hW)
theorem Tb.fw {lo wb : Nat} {w w' : World} (h : Tb lo w) (hb : Fw lo wb w w') : Tb lo w' := h.mv hb.bl
def jM (n : Nat) : List UInt8 := Lib.itoa (n : Int)
def iQ (s : Ws) (v : Vl) : Ws := if v.kind = 0 then dG s (jM v.num.1) else if v.kind = 1 then dG s v.name.1 else if v.kind = 2 then fB s [[108, 101, 110], v.name.1] else if v.kind = 3 then dG s [102, 114, 101, 113] else s
theorem nR (s : Ws) (v : Vl) : s.1.length <= (iQ s v).1.length := by
 unfold iQ
 split
 ·exact dP _ _
 split
 ·exact dP _ _
 split
 ·exact kJ _ _
 split
 ·exact dP _ _
 ·exact zR
section
variable {w : World} {lo wb : Nat} {l : List UInt8} {inl : Bool}
theorem iT (h : Wt w lo wb l inl) (t : List UInt8) (hlen : (dG (l, inl) t).1.length <= 100000000000) (hlo : lo <= w.heap.size) : Calls Tryz.prog 112 #[.pointer (some ⟨wb, 0, none⟩), .slice (some ⟨w.heap.size, 0, none⟩) 1 1] (w.alloc (.cells #[S t] 9)) (fJ w lo wb (dG (l, inl) t)) := by
 have B : Below w.heap.size w (w.alloc (.cells #[S t] 9)) := (Below.refl _ w).alloc zR _
 refine (aOp (h.below B) [t] (by simp) (g := w.heap.size) (aC rfl) hlen (by simp; omega)).mono ?_
 rintro e w' ⟨q1, q2, q3⟩
 exact ⟨q1, (Fw.of hlo B).trans q2, q3⟩
theorem yX (h : Wt w lo wb l inl) (t u : List UInt8) (hlen : (fB (l, inl) [t, u]).1.length <= 100000000000) (hlo : lo <= w.heap.size) : Calls Tryz.prog 112 #[.pointer (some ⟨wb, 0, none⟩), .slice (some ⟨w.heap.size, 0, none⟩) 2 2] (w.alloc (.cells #[S t, S u] 9)) (fJ w lo wb (fB (l, inl) [t, u])) := by
 have B : Below w.heap.size w (w.alloc (.cells #[S t, S u] 9)) := (Below.refl _ w).alloc zR _
 refine (aOp (h.below B) [t, u] (by simp) (g := w.heap.size) (aC rfl) hlen (by simp; omega)).mono ?_
 rintro e w' ⟨q1, q2, q3⟩
 exact ⟨q1, (Fw.of hlo B).trans q2, q3⟩
theorem aL8 (ht : Tb lo w) (hlo : lo <= w.heap.size) (n m : Nat) (hn : n <= 100000) : Calls Tryz.prog 144 #[.agg #[.int .i64 n, .int .i64 m]] w fun e w' => e = .returned (S (jM n)) /\ Below w.heap.size w w' := by
 have B : Below w.heap.size w (w.alloc (.cells #[.int .i64 n, .int .i64 m] 151)) := (Below.refl _ w).alloc zR _
 have b1 : (w.alloc (.cells #[.int .i64 n, .int .i64 m] 151)).heap[w.heap.size]? = some (.cells #[.int .i64 n, .int .i64 m] 151) := aC rfl
 obtain ⟨c1, cf1⟩ := aA b1
 have HI := Tryz.strconv_Itoa (n : Int) (by omega) (by omega) (w.alloc (.cells #[.int .i64 n, .int .i64 m] 151)) (ht _ (B.mono hlo))
 have hw : Hid (∀ k os, Below w.heap.size w (Sort.grow ((w.alloc (.cells #[.int .i64 n, .int .i64 m] 151)).drewN k) os)) := fun k os => B.trans (Lib.below_grow _ _ B.size k os)
 go_enter Tryz.func144, Tryz.ntmps144
 go_wp2_with (go_at_call 181; refine HI.mono ?_; rintro r w1 ⟨rfl, k, os, rfl⟩)
 go_ret
 exact ⟨rfl, hw.out k os⟩
end
section
variable {w : World} {lo wb : Nat} {l : List UInt8} {inl : Bool}
theorem aRd (h : Wt w lo wb l inl) (ht : Tb lo w) (hlo : lo <= w.heap.size) (v : Vl) (hk : v.kind = 0) (hn : v.num.1 <= 100000) (hlen : (iQ (l, inl) v).1.length <= 100000000000) : Calls Tryz.prog 210 #[.pointer (some ⟨wb, 0, none⟩), .agg #[.int .i64 v.kind, S v.name.1, .int .i64 v.name.2, .int .i64 v.num.1, .int .i64 v.num.2]] w (fJ w lo wb (iQ (l, inl) v)) := by
 have e1 : iQ (l, inl) v = dG (l, inl) (jM v.num.1) := by unfold iQ; rw [hk]; rfl
 rw [e1] at hlen ⊢
 obtain ⟨kd, ⟨n1, n2⟩, ⟨m1, m2⟩⟩ := v
 simp only at hk hn hlen ⊢
 subst hk
 have B : Below w.heap.size w (w.alloc (.cells #[.int .i64 (0 : Nat), S n1, .int .i64 n2, .int .i64 m1, .int .i64 m2] 278)) := (Below.refl _ w).alloc zR _
 have b1 : (w.alloc (.cells #[.int .i64 (0 : Nat), S n1, .int .i64 n2, .int .i64 m1, .int .i64 m2] 278)).heap[w.heap.size]? = some (.cells #[.int .i64 (0 : Nat), S n1, .int .i64 n2, .int .i64 m1, .int .i64 m2] 278) := aC rfl
 obtain ⟨c1, cf1⟩ := aA b1
 have hA := h.below B
 have sZ : Fw lo wb w _ := Fw.of hlo B
 have zA := B.size
 have HN := aL8 (ht.mv (B.mono hlo)) (Nat.le_trans hlo zA) m1 m2 hn
 go_enter Tryz.func210, Tryz.ntmps210
 go_wp2_with (go_at_call 144; refine HN.mono ?_; rintro r w1 ⟨rfl, q1⟩)
 have HT := iT (hA.below q1) (jM m1) hlen (by have := q1.size; omega)
 refine HT.mono ?_
 rintro r w2 ⟨rfl, q2, q3⟩
 go_wp2_with fail
 exact fH Tryz.results210 rfl ⟨rfl, (sZ.trans (Fw.of (by omega) q1)).trans q2, q3⟩
end
section
variable {w : World} {lo wb : Nat} {l : List UInt8} {inl : Bool}
theorem aRc (h : Wt w lo wb l inl) (_ht : Tb lo w) (hlo : lo <= w.heap.size) (v : Vl) (hk : v.kind = 1) (hn : v.num.1 <= 100000) (hlen : (iQ (l, inl) v).1.length <= 100000000000) : Calls Tryz.prog 210 #[.pointer (some ⟨wb, 0, none⟩), .agg #[.int .i64 v.kind, S v.name.1, .int .i64 v.name.2, .int .i64 v.num.1, .int .i64 v.num.2]] w (fJ w lo wb (iQ (l, inl) v)) := by
 have e1 : iQ (l, inl) v = dG (l, inl) v.name.1 := by unfold iQ; rw [hk]; rfl
 rw [e1] at hlen ⊢
 obtain ⟨kd, ⟨n1, n2⟩, ⟨m1, m2⟩⟩ := v
 simp only at hk hn hlen ⊢
 subst hk
 have B : Below w.heap.size w (w.alloc (.cells #[.int .i64 (1 : Nat), S n1, .int .i64 n2, .int .i64 m1, .int .i64 m2] 278)) := (Below.refl _ w).alloc zR _
 have b1 : (w.alloc (.cells #[.int .i64 (1 : Nat), S n1, .int .i64 n2, .int .i64 m1, .int .i64 m2] 278)).heap[w.heap.size]? = some (.cells #[.int .i64 (1 : Nat), S n1, .int .i64 n2, .int .i64 m1, .int .i64 m2] 278) := aC rfl
 obtain ⟨c1, cf1⟩ := aA b1
 have hA := h.below B
 have sZ : Fw lo wb w _ := Fw.of hlo B
 have zA := B.size
 have HT := iT hA n1 hlen (Nat.le_trans hlo zA)
 have zz : (w.alloc (.cells #[.int .i64 (1 : Nat), S n1, .int .i64 n2, .int .i64 m1, .int .i64 m2] 278)).heap.size = w.heap.size + 1 := by simp
 rw [zz] at HT
 go_enter Tryz.func210, Tryz.ntmps210
 go_wp2_with (go_at_call 112; refine HT.mono ?_; rintro r w2 ⟨rfl, q2, q3⟩)
 exact fH Tryz.results210 rfl ⟨rfl, sZ.trans q2, q3⟩
end
section
variable {w : World} {lo wb : Nat} {l : List UInt8} {inl : Bool}
theorem aRb (h : Wt w lo wb l inl) (_ht : Tb lo w) (hlo : lo <= w.heap.size) (v : Vl) (hk : v.kind = 2) (hn : v.num.1 <= 100000) (hlen : (iQ (l, inl) v).1.length <= 100000000000) : Calls Tryz.prog 210 #[.pointer (some ⟨wb, 0, none⟩), .agg #[.int .i64 v.kind, S v.name.1, .int .i64 v.name.2, .int .i64 v.num.1, .int .i64 v.num.2]] w (fJ w lo wb (iQ (l, inl) v)) := by
 have e1 : iQ (l, inl) v = fB (l, inl) [[108, 101, 110], v.name.1] := by unfold iQ; rw [hk]; rfl
 rw [e1] at hlen ⊢
 obtain ⟨kd, ⟨n1, n2⟩, ⟨m1, m2⟩⟩ := v
 simp only at hk hn hlen ⊢
 subst hk
 have B : Below w.heap.size w (w.alloc (.cells #[.int .i64 (2 : Nat), S n1, .int .i64 n2, .int .i64 m1, .int .i64 m2] 278)) := (Below.refl _ w).alloc zR _
 have b1 : (w.alloc (.cells #[.int .i64 (2 : Nat), S n1, .int .i64 n2, .int .i64 m1, .int .i64 m2] 278)).heap[w.heap.size]? = some (.cells #[.int .i64 (2 : Nat), S n1, .int .i64 n2, .int .i64 m1, .int .i64 m2] 278) := aC rfl
 obtain ⟨c1, cf1⟩ := aA b1
 have hA := h.below B
 have sZ : Fw lo wb w _ := Fw.of hlo B
 have zA := B.size
 have HT := yX hA [108, 101, 110] n1 hlen (Nat.le_trans hlo zA)
 have zz : (w.alloc (.cells #[.int .i64 (2 : Nat), S n1, .int .i64 n2, .int .i64 m1, .int .i64 m2] 278)).heap.size = w.heap.size + 1 := by simp
 rw [zz] at HT
 go_enter Tryz.func210, Tryz.ntmps210
 go_wp2_with (go_at_call 112; refine HT.mono ?_; rintro r w2 ⟨rfl, q2, q3⟩)
 exact fH Tryz.results210 rfl ⟨rfl, sZ.trans q2, q3⟩
end
section
variable {w : World} {lo wb : Nat} {l : List UInt8} {inl : Bool}
theorem aRa (h : Wt w lo wb l inl) (_ht : Tb lo w) (hlo : lo <= w.heap.size) (v : Vl) (hk : v.kind = 3) (hn : v.num.1 <= 100000) (hlen : (iQ (l, inl) v).1.length <= 100000000000) : Calls Tryz.prog 210 #[.pointer (some ⟨wb, 0, none⟩), .agg #[.int .i64 v.kind, S v.name.1, .int .i64 v.name.2, .int .i64 v.num.1, .int .i64 v.num.2]] w (fJ w lo wb (iQ (l, inl) v)) := by
 have e1 : iQ (l, inl) v = dG (l, inl) [102, 114, 101, 113] := by unfold iQ; rw [hk]; rfl
 rw [e1] at hlen ⊢
 obtain ⟨kd, ⟨n1, n2⟩, ⟨m1, m2⟩⟩ := v
 simp only at hk hn hlen ⊢
 subst hk
 have B : Below w.heap.size w (w.alloc (.cells #[.int .i64 (3 : Nat), S n1, .int .i64 n2, .int .i64 m1, .int .i64 m2] 278)) := (Below.refl _ w).alloc zR _
 have b1 : (w.alloc (.cells #[.int .i64 (3 : Nat), S n1, .int .i64 n2, .int .i64 m1, .int .i64 m2] 278)).heap[w.heap.size]? = some (.cells #[.int .i64 (3 : Nat), S n1, .int .i64 n2, .int .i64 m1, .int .i64 m2] 278) := aC rfl
 obtain ⟨c1, cf1⟩ := aA b1
 have hA := h.below B
 have sZ : Fw lo wb w _ := Fw.of hlo B
 have zA := B.size
 have HT := iT hA [102, 114, 101, 113] hlen (Nat.le_trans hlo zA)
 have zz : (w.alloc (.cells #[.int .i64 (3 : Nat), S n1, .int .i64 n2, .int .i64 m1, .int .i64 m2] 278)).heap.size = w.heap.size + 1 := by simp
 rw [zz] at HT
 go_enter Tryz.func210, Tryz.ntmps210
 go_wp2_with (go_at_call 112; refine HT.mono ?_; rintro r w2 ⟨rfl, q2, q3⟩)
 exact fH Tryz.results210 rfl ⟨rfl, sZ.trans q2, q3⟩
end
section
variable {w : World} {lo wb : Nat} {l : List UInt8} {inl : Bool}
theorem aL1 (h : Wt w lo wb l inl) (ht : Tb lo w) (hlo : lo <= w.heap.size) (v : Vl) (hk : v.kind <= 3) (hn : v.num.1 <= 100000) (hlen : (iQ (l, inl) v).1.length <= 100000000000) : Calls Tryz.prog 210 #[.pointer (some ⟨wb, 0, none⟩), .agg #[.int .i64 v.kind, S v.name.1, .int .i64 v.name.2, .int .i64 v.num.1, .int .i64 v.num.2]] w (fJ w lo wb (iQ (l, inl) v)) := by
 have : v.kind = 0 \/ v.kind = 1 \/ v.kind = 2 \/ v.kind = 3 := by omega
 rcases this with e | e | e | e
 ·exact aRd h ht hlo v e hn hlen
 ·exact aRc h ht hlo v e hn hlen
 ·exact aRb h ht hlo v e hn hlen
 ·exact aRa h ht hlo v e hn hlen
end
def dF (s : Ws) (c : Cd) : Ws := let s := if c.neg = true then dG s [110, 111, 116] else s; if c.word ≠ [60] then fB s [c.word, c.queue.1] else iQ (dG (iQ s c.left) [60]) c.right
theorem Fw.box {lo wb b : Nat} {w w' : World} {c : Array Value} {T : TypeId} (h : Fw lo wb w w') (hb : w.heap[b]? = some (.cells c T)) (hn : b ≠ wb) (hT : T ≠ 5) : w'.heap[b]? = some (.cells c T) := (h.blk b (zL hb) hn (fun c f e => by rw [hb] at e; simp at e; exact hT e.2.1)).trans hb
section
variable {w : World} {lo wb : Nat} {l : List UInt8} {inl : Bool}
theorem aMg (h : Wt w lo wb l inl) (ht : Tb lo w) (hlo : lo <= w.heap.size) (wd qn : List UInt8) (qp lk : Nat) (ln : List UInt8) (lp lm lq rk : Nat) (rn : List UInt8) (rp rm rq : Nat) (hwd : wd ≠ [60]) (hlen : (fB (l, inl) [wd, qn]).1.length <= 100000000000) : Calls Tryz.prog 200 #[.pointer (some ⟨wb, 0, none⟩), .agg #[.bool false, S wd, S qn, .int .i64 qp, .int .i64 lk, S ln, .int .i64 lp, .int .i64 lm, .int .i64 lq, .int .i64 rk, S rn, .int .i64 rp, .int .i64 rm, .int .i64 rq]] w (fJ w lo wb (fB (l, inl) [wd, qn])) := by
 have B : Below w.heap.size w (w.alloc (.cells #[.bool false, S wd, S qn, .int .i64 qp, .int .i64 lk, S ln, .int .i64 lp, .int .i64 lm, .int .i64 lq, .int .i64 rk, S rn, .int .i64 rp, .int .i64 rm, .int .i64 rq] 280)) := (Below.refl _ w).alloc zR _
 have b1 : (w.alloc (.cells #[.bool false, S wd, S qn, .int .i64 qp, .int .i64 lk, S ln, .int .i64 lp, .int .i64 lm, .int .i64 lq, .int .i64 rk, S rn, .int .i64 rp, .int .i64 rm, .int .i64 rq] 280)).heap[w.heap.size]? = some (.cells #[.bool false, S wd, S qn, .int .i64 qp, .int .i64 lk, S ln, .int .i64 lp, .int .i64 lm, .int .i64 lq, .int .i64 rk, S rn, .int .i64 rp, .int .i64 rm, .int .i64 rq] 280) := aC rfl
 have zz : (w.alloc (.cells #[.bool false, S wd, S qn, .int .i64 qp, .int .i64 lk, S ln, .int .i64 lp, .int .i64 lm, .int .i64 lq, .int .i64 rk, S rn, .int .i64 rp, .int .i64 rm, .int .i64 rq] 280)).heap.size = w.heap.size + 1 := by simp
 obtain ⟨c1, cf1⟩ := aA b1
 have hA := h.below B
 have sZ : Fw lo wb w _ := Fw.of hlo B
 have htA := ht.mv (B.mono hlo)
 have lwb := h.lt
 have hnb : w.heap.size ≠ wb := by omega
 have hbx : Hid (∀ W : World, Fw lo wb (w.alloc (.cells #[.bool false, S wd, S qn, .int .i64 qp, .int .i64 lk, S ln, .int .i64 lp, .int .i64 lm, .int .i64 lq, .int .i64 rk, S rn, .int .i64 rp, .int .i64 rm, .int .i64 rq] 280)) W -> W.heap[w.heap.size]? = some (.cells #[.bool false, S wd, S qn, .int .i64 qp, .int .i64 lk, S ln, .int .i64 lp, .int .i64 lm, .int .i64 lq, .int .i64 rk, S rn, .int .i64 rp, .int .i64 rm, .int .i64 rq] 280)) := fun W hW => hW.box b1 hnb (by decide)
 have hw2 : (wd == [60]) = false := by simpa using hwd
 have HT := yX hA wd qn hlen (by omega)
 rw [zz] at HT
 go_enter Tryz.func200, Tryz.ntmps200
 go_wp2_with (go_at_call 112; refine HT.mono ?_; rintro r w3 ⟨rfl, q2, q3⟩)
 exact bodyPost_ret (v := .tuple #[]) (by simp [results, Tryz.results200, go_sem]) rfl ⟨rfl, sZ.trans q2, q3⟩
end
section
variable {w : World} {lo wb : Nat} {l : List UInt8} {inl : Bool}
theorem aMe (h : Wt w lo wb l inl) (ht : Tb lo w) (hlo : lo <= w.heap.size) (wd qn : List UInt8) (qp lk : Nat) (ln : List UInt8) (lp lm lq rk : Nat) (rn : List UInt8) (rp rm rq : Nat) (hwd : wd ≠ [60]) (hlen : (fB (dG (l, inl) [110, 111, 116]) [wd, qn]).1.length <= 100000000000) : Calls Tryz.prog 200 #[.pointer (some ⟨wb, 0, none⟩), .agg #[.bool true, S wd, S qn, .int .i64 qp, .int .i64 lk, S ln, .int .i64 lp, .int .i64 lm, .int .i64 lq, .int .i64 rk, S rn, .int .i64 rp, .int .i64 rm, .int .i64 rq]] w (fJ w lo wb (fB (dG (l, inl) [110, 111, 116]) [wd, qn])) := by
 have B : Below w.heap.size w (w.alloc (.cells #[.bool true, S wd, S qn, .int .i64 qp, .int .i64 lk, S ln, .int .i64 lp, .int .i64 lm, .int .i64 lq, .int .i64 rk, S rn, .int .i64 rp, .int .i64 rm, .int .i64 rq] 280)) := (Below.refl _ w).alloc zR _
 have b1 : (w.alloc (.cells #[.bool true, S wd, S qn, .int .i64 qp, .int .i64 lk, S ln, .int .i64 lp, .int .i64 lm, .int .i64 lq, .int .i64 rk, S rn, .int .i64 rp, .int .i64 rm, .int .i64 rq] 280)).heap[w.heap.size]? = some (.cells #[.bool true, S wd, S qn, .int .i64 qp, .int .i64 lk, S ln, .int .i64 lp, .int .i64 lm, .int .i64 lq, .int .i64 rk, S rn, .int .i64 rp, .int .i64 rm, .int .i64 rq] 280) := aC rfl
 have zz : (w.alloc (.cells #[.bool true, S wd, S qn, .int .i64 qp, .int .i64 lk, S ln, .int .i64 lp, .int .i64 lm, .int .i64 lq, .int .i64 rk, S rn, .int .i64 rp, .int .i64 rm, .int .i64 rq] 280)).heap.size = w.heap.size + 1 := by simp
 obtain ⟨c1, cf1⟩ := aA b1
 have hA := h.below B
 have sZ : Fw lo wb w _ := Fw.of hlo B
 have htA := ht.mv (B.mono hlo)
 have lwb := h.lt
 have hnb : w.heap.size ≠ wb := by omega
 have hbx : Hid (∀ W : World, Fw lo wb (w.alloc (.cells #[.bool true, S wd, S qn, .int .i64 qp, .int .i64 lk, S ln, .int .i64 lp, .int .i64 lm, .int .i64 lq, .int .i64 rk, S rn, .int .i64 rp, .int .i64 rm, .int .i64 rq] 280)) W -> W.heap[w.heap.size]? = some (.cells #[.bool true, S wd, S qn, .int .i64 qp, .int .i64 lk, S ln, .int .i64 lp, .int .i64 lm, .int .i64 lq, .int .i64 rk, S rn, .int .i64 rp, .int .i64 rm, .int .i64 rq] 280)) := fun W hW => hW.box b1 hnb (by decide)
 have hw2 : (wd == [60]) = false := by simpa using hwd
 have hl0 : (dG (l, inl) [110, 111, 116]).1.length <= 100000000000 := Nat.le_trans (kJ _ _) hlen
 have HT0 := iT hA [110, 111, 116] hl0 (by omega)
 rw [zz] at HT0
 go_enter Tryz.func200, Tryz.ntmps200
 go_wp2_with (go_at_call 112; (fail_if_success (have := p2)); refine HT0.mono ?_; rintro r w2 ⟨rfl, p2, p3⟩; obtain ⟨c2, tC⟩ := aA (hbx.out _ p2))
 have s2 := p2.bl.size
 refine (yX p3 wd qn hlen (by omega)).mono ?_
 rintro r w3 ⟨rfl, q2, q3⟩
 go_wp2_with fail
 exact bodyPost_ret (v := .tuple #[]) (by simp [results, Tryz.results200, go_sem]) rfl ⟨rfl, (sZ.trans p2).trans q2, q3⟩
end
section
variable {w : World} {lo wb : Nat} {l : List UInt8} {inl : Bool}
theorem aMf (h : Wt w lo wb l inl) (ht : Tb lo w) (hlo : lo <= w.heap.size) (qn : List UInt8) (qp lk : Nat) (ln : List UInt8) (lp lm lq rk : Nat) (rn : List UInt8) (rp rm rq : Nat) (hl1 : lk <= 3) (hl2 : lm <= 100000) (hr1 : rk <= 3) (hr2 : rm <= 100000) (hlen : (iQ (dG (iQ (l, inl) ⟨lk, (ln, lp), (lm, lq)⟩) [60]) ⟨rk, (rn, rp), (rm, rq)⟩).1.length <= 100000000000) : Calls Tryz.prog 200 #[.pointer (some ⟨wb, 0, none⟩), .agg #[.bool false, S [60], S qn, .int .i64 qp, .int .i64 lk, S ln, .int .i64 lp, .int .i64 lm, .int .i64 lq, .int .i64 rk, S rn, .int .i64 rp, .int .i64 rm, .int .i64 rq]] w (fJ w lo wb (iQ (dG (iQ (l, inl) ⟨lk, (ln, lp), (lm, lq)⟩) [60]) ⟨rk, (rn, rp), (rm, rq)⟩)) := by
 have B : Below w.heap.size w (w.alloc (.cells #[.bool false, S [60], S qn, .int .i64 qp, .int .i64 lk, S ln, .int .i64 lp, .int .i64 lm, .int .i64 lq, .int .i64 rk, S rn, .int .i64 rp, .int .i64 rm, .int .i64 rq] 280)) := (Below.refl _ w).alloc zR _
 have b1 : (w.alloc (.cells #[.bool false, S [60], S qn, .int .i64 qp, .int .i64 lk, S ln, .int .i64 lp, .int .i64 lm, .int .i64 lq, .int .i64 rk, S rn, .int .i64 rp, .int .i64 rm, .int .i64 rq] 280)).heap[w.heap.size]? = some (.cells #[.bool false, S [60], S qn, .int .i64 qp, .int .i64 lk, S ln, .int .i64 lp, .int .i64 lm, .int .i64 lq, .int .i64 rk, S rn, .int .i64 rp, .int .i64 rm, .int .i64 rq] 280) := aC rfl
 have zz : (w.alloc (.cells #[.bool false, S [60], S qn, .int .i64 qp, .int .i64 lk, S ln, .int .i64 lp, .int .i64 lm, .int .i64 lq, .int .i64 rk, S rn, .int .i64 rp, .int .i64 rm, .int .i64 rq] 280)).heap.size = w.heap.size + 1 := by simp
 obtain ⟨c1, cf1⟩ := aA b1
 have hA := h.below B
 have sZ : Fw lo wb w _ := Fw.of hlo B
 have htA := ht.mv (B.mono hlo)
 have lwb := h.lt
 have hnb : w.heap.size ≠ wb := by omega
 have hbx : Hid (∀ W : World, Fw lo wb (w.alloc (.cells #[.bool false, S [60], S qn, .int .i64 qp, .int .i64 lk, S ln, .int .i64 lp, .int .i64 lm, .int .i64 lq, .int .i64 rk, S rn, .int .i64 rp, .int .i64 rm, .int .i64 rq] 280)) W -> W.heap[w.heap.size]? = some (.cells #[.bool false, S [60], S qn, .int .i64 qp, .int .i64 lk, S ln, .int .i64 lp, .int .i64 lm, .int .i64 lq, .int .i64 rk, S rn, .int .i64 rp, .int .i64 rm, .int .i64 rq] 280)) := fun W hW => hW.box b1 hnb (by decide)
 have aQj : (iQ (l, inl) ⟨lk, (ln, lp), (lm, lq)⟩).1.length <= 100000000000 := Nat.le_trans (Nat.le_trans (dP _ _) (nR _ _)) hlen
 have aQh : (dG (iQ (l, inl) ⟨lk, (ln, lp), (lm, lq)⟩) [60]).1.length <= 100000000000 := Nat.le_trans (nR _ _) hlen
 have HV := aL1 hA htA (by omega) ⟨lk, (ln, lp), (lm, lq)⟩ hl1 hl2 aQj
 go_enter Tryz.func200, Tryz.ntmps200
 go_wp2_with (go_at_call 210; refine HV.mono ?_; rintro r w3 ⟨rfl, q2, q3⟩; obtain ⟨c2, tC⟩ := aA (hbx.out _ q2))
 have F3 := q2
 have s3 := F3.bl.size
 obtain ⟨c3, cf3⟩ := aA (hbx.out w3 F3)
 refine (iT q3 [60] aQh (by omega)).mono ?_
 rintro r w4 ⟨rfl, u2, u3⟩
 have F4 := F3.trans u2
 have s4 := F4.bl.size
 obtain ⟨c4, cf4⟩ := aA (hbx.out w4 F4)
 go_wp2_with fail
 refine (aL1 u3 (htA.fw F4) (by omega) ⟨rk, (rn, rp), (rm, rq)⟩ hr1 hr2 hlen).mono ?_
 rintro r w5 ⟨rfl, v2, v3⟩
 go_wp2_with fail
 exact fH Tryz.results200 rfl ⟨rfl, (sZ.trans F4).trans v2, v3⟩
end
section
variable {w : World} {lo wb : Nat} {l : List UInt8} {inl : Bool}
theorem aMd (h : Wt w lo wb l inl) (ht : Tb lo w) (hlo : lo <= w.heap.size) (qn : List UInt8) (qp lk : Nat) (ln : List UInt8) (lp lm lq rk : Nat) (rn : List UInt8) (rp rm rq : Nat) (hl1 : lk <= 3) (hl2 : lm <= 100000) (hr1 : rk <= 3) (hr2 : rm <= 100000) (hlen : (iQ (dG (iQ (dG (l, inl) [110, 111, 116]) ⟨lk, (ln, lp), (lm, lq)⟩) [60]) ⟨rk, (rn, rp), (rm, rq)⟩).1.length <= 100000000000) : Calls Tryz.prog 200 #[.pointer (some ⟨wb, 0, none⟩), .agg #[.bool true, S [60], S qn, .int .i64 qp, .int .i64 lk, S ln, .int .i64 lp, .int .i64 lm, .int .i64 lq, .int .i64 rk, S rn, .int .i64 rp, .int .i64 rm, .int .i64 rq]] w (fJ w lo wb (iQ (dG (iQ (dG (l, inl) [110, 111, 116]) ⟨lk, (ln, lp), (lm, lq)⟩) [60]) ⟨rk, (rn, rp), (rm, rq)⟩)) := by
 have B : Below w.heap.size w (w.alloc (.cells #[.bool true, S [60], S qn, .int .i64 qp, .int .i64 lk, S ln, .int .i64 lp, .int .i64 lm, .int .i64 lq, .int .i64 rk, S rn, .int .i64 rp, .int .i64 rm, .int .i64 rq] 280)) := (Below.refl _ w).alloc zR _
 have b1 : (w.alloc (.cells #[.bool true, S [60], S qn, .int .i64 qp, .int .i64 lk, S ln, .int .i64 lp, .int .i64 lm, .int .i64 lq, .int .i64 rk, S rn, .int .i64 rp, .int .i64 rm, .int .i64 rq] 280)).heap[w.heap.size]? = some (.cells #[.bool true, S [60], S qn, .int .i64 qp, .int .i64 lk, S ln, .int .i64 lp, .int .i64 lm, .int .i64 lq, .int .i64 rk, S rn, .int .i64 rp, .int .i64 rm, .int .i64 rq] 280) := aC rfl
 have zz : (w.alloc (.cells #[.bool true, S [60], S qn, .int .i64 qp, .int .i64 lk, S ln, .int .i64 lp, .int .i64 lm, .int .i64 lq, .int .i64 rk, S rn, .int .i64 rp, .int .i64 rm, .int .i64 rq] 280)).heap.size = w.heap.size + 1 := by simp
 obtain ⟨c1, cf1⟩ := aA b1
 have hA := h.below B
 have sZ : Fw lo wb w _ := Fw.of hlo B
 have htA := ht.mv (B.mono hlo)
 have lwb := h.lt
 have hnb : w.heap.size ≠ wb := by omega
 have hbx : Hid (∀ W : World, Fw lo wb (w.alloc (.cells #[.bool true, S [60], S qn, .int .i64 qp, .int .i64 lk, S ln, .int .i64 lp, .int .i64 lm, .int .i64 lq, .int .i64 rk, S rn, .int .i64 rp, .int .i64 rm, .int .i64 rq] 280)) W -> W.heap[w.heap.size]? = some (.cells #[.bool true, S [60], S qn, .int .i64 qp, .int .i64 lk, S ln, .int .i64 lp, .int .i64 lm, .int .i64 lq, .int .i64 rk, S rn, .int .i64 rp, .int .i64 rm, .int .i64 rq] 280)) := fun W hW => hW.box b1 hnb (by decide)
 have hl0 : (dG (l, inl) [110, 111, 116]).1.length <= 100000000000 := Nat.le_trans (Nat.le_trans (nR _ _) (Nat.le_trans (dP _ _) (nR _ _))) hlen
 have HT0 := iT hA [110, 111, 116] hl0 (by omega)
 rw [zz] at HT0
 have aQj : (iQ (dG (l, inl) [110, 111, 116]) ⟨lk, (ln, lp), (lm, lq)⟩).1.length <= 100000000000 := Nat.le_trans (Nat.le_trans (dP _ _) (nR _ _)) hlen
 have aQh : (dG (iQ (dG (l, inl) [110, 111, 116]) ⟨lk, (ln, lp), (lm, lq)⟩) [60]).1.length <= 100000000000 := Nat.le_trans (nR _ _) hlen
 go_enter Tryz.func200, Tryz.ntmps200
 go_wp2_with (go_at_call 112; (fail_if_success (have := p2)); refine HT0.mono ?_; rintro r w2 ⟨rfl, p2, p3⟩; obtain ⟨c2, tC⟩ := aA (hbx.out _ p2))
 have s2 := p2.bl.size
 refine (aL1 p3 (htA.fw p2) (by omega) ⟨lk, (ln, lp), (lm, lq)⟩ hl1 hl2 aQj).mono ?_
 rintro r w3 ⟨rfl, q2, q3⟩
 have F3 := p2.trans q2
 have s3 := F3.bl.size
 obtain ⟨c3, cf3⟩ := aA (hbx.out w3 F3)
 go_wp2_with fail
 refine (iT q3 [60] aQh (by omega)).mono ?_
 rintro r w4 ⟨rfl, u2, u3⟩
 have F4 := F3.trans u2
 have s4 := F4.bl.size
 obtain ⟨c4, cf4⟩ := aA (hbx.out w4 F4)
 go_wp2_with fail
 refine (aL1 u3 (htA.fw F4) (by omega) ⟨rk, (rn, rp), (rm, rq)⟩ hr1 hr2 hlen).mono ?_
 rintro r w5 ⟨rfl, v2, v3⟩
 go_wp2_with fail
 exact fH Tryz.results200 rfl ⟨rfl, (sZ.trans F4).trans v2, v3⟩
end
theorem qI (s : Ws) (c : Cd) : s.1.length <= (dF s c).1.length := by
 unfold dF
 have h1 : s.1.length <= (if c.neg = true then dG s [110, 111, 116] else s).1.length := by
  split
  ·exact dP _ _
  ·exact zR
 simp only
 split
 ·exact Nat.le_trans h1 (kJ _ _)
 ·exact Nat.le_trans h1 (Nat.le_trans (nR _ _) (Nat.le_trans (dP _ _) (nR _ _)))
def okW (c : Cd) : Prop := c.word = [60] -> (c.left.kind <= 3 /\ c.left.num.1 <= 100000) /\ c.right.kind <= 3 /\ c.right.num.1 <= 100000
def fE (s : Ws) (t : List UInt8) : Ws := if t ≠ [] then dG s t else s
def rC (s : Ws) (x : St) : Ws := dG (if x.tail = true then dG (fE (fE s x.name.1) (St.to x).1) [116, 97, 105, 108] else fE (fE s x.name.1) (St.to x).1) [59]
theorem y7 (s : Ws) (t : List UInt8) : s.1.length <= (fE s t).1.length := by
 unfold fE
 split
 ·exact dP _ _
 ·exact zR
theorem aB0 (s : Ws) (x : St) : (fE (fE s x.name.1) (St.to x).1).1.length <= (rC s x).1.length := by
 unfold rC
 split
 ·exact Nat.le_trans (dP _ _) (dP _ _)
 ·exact dP _ _
theorem aF7 (s : Ws) (x : St) : s.1.length <= (rC s x).1.length := Nat.le_trans (Nat.le_trans (y7 _ _) (y7 _ _)) (aB0 s x)
section
variable {w : World} {lo wb : Nat} {l : List UInt8} {inl : Bool}
theorem aOr (h : Wt w lo wb l inl) (ht : Tb lo w) (hlo : lo <= w.heap.size) (c : Cd) (hc : okW c) (hlen : (dF (l, inl) c).1.length <= 100000000000) : Calls Tryz.prog 200 #[.pointer (some ⟨wb, 0, none⟩), .agg (O1 c)] w (fJ w lo wb (dF (l, inl) c)) := by
 obtain ⟨neg, wd, ⟨qn, qp⟩, ⟨lk, ⟨ln, lp⟩, ⟨lm, lq⟩⟩, ⟨rk, ⟨rn, rp⟩, ⟨rm, rq⟩⟩⟩ := c
 unfold okW at hc
 unfold dF at hlen ⊢
 simp only at hc hlen ⊢
 by_cases e : wd = [60]
 ·subst e
  have hc := hc rfl
  cases neg with
  | true => exact aMd h ht hlo qn qp lk ln lp lm lq rk rn rp rm rq hc.1.1 hc.1.2 hc.2.1 hc.2.2 hlen
  | false => exact aMf h ht hlo qn qp lk ln lp lm lq rk rn rp rm rq hc.1.1 hc.1.2 hc.2.1 hc.2.2 hlen
 ·rw [if_pos e] at hlen ⊢
  cases neg with
  | true => exact aMe h ht hlo wd qn qp lk ln lp lm lq rk rn rp rm rq e hlen
  | false => exact aMg h ht hlo wd qn qp lk ln lp lm lq rk rn rp rm rq e hlen
theorem aO3 (g o n cap k : Nat) (hk : k < n) : ∀ W : World, (Instr.indexAt 322 (.slice (some ⟨g, o, none⟩) n cap) (.int .i64 k)).run Tryz.prog W = .ok (.pointer (some ⟨g, o + k * 2, none⟩)) W := by
 intro W
 rw [run_indexAt_slice (h := by kernel_rfl), if_pos (by omega)]
 have : (sizeOf (Tryz.prog.elem 322)).run Tryz.prog W = .ok 2 W := by kernel_rfl
 rw [this]
 simp [Result.andThen, Addr.add]
end
section
variable {w : World} {lo wb : Nat} {l : List UInt8} {inl : Bool}
theorem aPh (h : Wt w lo wb l inl) (hlo : lo <= w.heap.size) (x : St) (y1 : Option Addr) (y2 y3 : Nat) (z1 : Option Addr) (z2 z3 : Nat) (hlen : (rC (l, inl) x).1.length <= 100000000000) : Calls Tryz.prog 185 #[.pointer (some ⟨wb, 0, none⟩), .agg (stA x (.slice y1 y2 y3) (.slice z1 z2 z3))] w (fJ w lo wb (rC (l, inl) x)) := by
 have B : Below w.heap.size w (w.alloc (.cells (stA x (.slice y1 y2 y3) (.slice z1 z2 z3)) 282)) := (Below.refl _ w).alloc zR _
 have b1 : (w.alloc (.cells (stA x (.slice y1 y2 y3) (.slice z1 z2 z3)) 282)).heap[w.heap.size]? = some (.cells (stA x (.slice y1 y2 y3) (.slice z1 z2 z3)) 282) := aC rfl
 have hl2 := Nat.le_trans (aB0 (l, inl) x) hlen
 have hl1 := Nat.le_trans (y7 (fE (l, inl) x.name.1) (St.to x).1) hl2
 obtain ⟨c1, cf1⟩ := aA b1
 have hA := h.below B
 have sZ : Fw lo wb w _ := Fw.of hlo B
 have lwb := h.lt
 have hnb : w.heap.size ≠ wb := by omega
 have hsA : (w.alloc (.cells (stA x (.slice y1 y2 y3) (.slice z1 z2 z3)) 282)).heap.size = w.heap.size + 1 := by simp
 generalize hwA : w.alloc (.cells (stA x (.slice y1 y2 y3) (.slice z1 z2 z3)) 282) = wA at *
 have B2 : Below wA.heap.size wA (wA.alloc (.cells #[S x.name.1, .int .i64 x.name.2, S (St.to x).1, .int .i64 (St.to x).2] 149)) := (Below.refl _ wA).alloc zR _
 have b2 : (wA.alloc (.cells #[S x.name.1, .int .i64 x.name.2, S (St.to x).1, .int .i64 (St.to x).2] 149)).heap[wA.heap.size]? = some (.cells #[S x.name.1, .int .i64 x.name.2, S (St.to x).1, .int .i64 (St.to x).2] 149) := aC rfl
 have b3 := (B2.block w.heap.size (by omega)).trans b1
 have hB := hA.below B2
 have hFB : Fw lo wb w (wA.alloc (.cells #[S x.name.1, .int .i64 x.name.2, S (St.to x).1, .int .i64 (St.to x).2] 149)) := sZ.trans (Fw.of (by omega) B2)
 have hsB : (wA.alloc (.cells #[S x.name.1, .int .i64 x.name.2, S (St.to x).1, .int .i64 (St.to x).2] 149)).heap.size = w.heap.size + 2 := by simp; omega
 rw [hsA] at b2
 go_enter Tryz.func185, Tryz.ntmps185
 go_wp2_with fail
 generalize wA.alloc (.cells #[S x.name.1, .int .i64 x.name.2, S (St.to x).1, .int .i64 (St.to x).2] 149) = wB at *
 have hbx : Hid (∀ W : World, Fw lo wb wB W -> W.heap[w.heap.size]? = some (.cells (stA x (.slice y1 y2 y3) (.slice z1 z2 z3)) 282) /\ W.heap[w.heap.size + 1]? = some (.cells #[S x.name.1, .int .i64 x.name.2, S (St.to x).1, .int .i64 (St.to x).2] 149)) := fun W hW => ⟨hW.box b3 hnb (by decide), hW.box b2 (by omega) (by decide)⟩
 have aQi : Hid ((fE (l, inl) x.name.1).1.length <= 100000000000) := hl1
 have aKu : Hid ((fE (fE (l, inl) x.name.1) (St.to x).1).1.length <= 100000000000) := hl2
 have fP : Hid ((rC (l, inl) x).1.length <= 100000000000) := hlen
 have hB9 : Hid (Wt wB lo wb l inl) := hB
 clear hl1 hl2 hlen hB hA h b1 b2 b3 c1 cf1 B B2 sZ
 go_loopg [12] 2 (fun f v wr => ∃ k : Nat, v = .int .i64 k /\ k + f = 2 /\ Hid (Fw lo wb wB wr /\ Wt wr lo wb (([x.name.1, (St.to x).1].take k).foldl fE (l, inl)).1 (([x.name.1, (St.to x).1].take k).foldl fE (l, inl)).2))
 case atStart => exact ⟨0, rfl, by omega, Fw.refl _ _ _, hB9.out⟩
 case round =>
  obtain ⟨k, rfl, hk, HJ⟩ := hrel
  obtain ⟨J1, J2⟩ := HJ.out
  obtain ⟨e1, e2⟩ := hbx.out wr J1
  obtain ⟨c1, cf1⟩ := aA e1
  obtain ⟨c2, tC⟩ := aA e2
  have hsr := J1.bl.size
  rcases (show k = 0 \/ k = 1 \/ k = 2 by omega) with rfl | rfl | rfl
  ·have ix := aO3 (w.heap.size + 1) 0 2 2 0 (by omega)
   simp only [List.take_zero, List.foldl_nil] at J2
   have B3 : Below wr.heap.size wr (wr.alloc (.cells #[S x.name.1, .int .i64 x.name.2] 149)) := (Below.refl _ wr).alloc zR _
   have J3 := J2.below B3
   have F3 : Fw lo wb wB _ := J1.trans (Fw.of (by omega) B3)
   have hs3 : (wr.alloc (.cells #[S x.name.1, .int .i64 x.name.2] 149)).heap.size = wr.heap.size + 1 := by simp
   have hfin : Hid (∀ W : World, Fw lo wb wB W -> Wt W lo wb (fE (l, inl) x.name.1).1 (fE (l, inl) x.name.1).2 -> (Fw lo wb wB W /\ Wt W lo wb (([x.name.1, (St.to x).1].take (0 + 1)).foldl fE (l, inl)).1 (([x.name.1, (St.to x).1].take (0 + 1)).foldl fE (l, inl)).2)) := fun W h1 h2 => ⟨h1, h2⟩
   by_cases hne : x.name.1 = []
   ·have hb : (x.name.1 == ([] : List UInt8)) = true := by simp [hne]
    have hp : Hid (fE (l, inl) x.name.1 = (l, inl)) := by show _ = _; unfold fE; rw [if_neg (by simp [hne])]
    have hq := hfin.out _ F3 (by rw [hp.out]; exact J3)
    have hq9 : Hid _ := hq
    clear hq J3 J2 HJ hne
    go_wp2_with fail
    go_roundg 1
    case measure => omega
    case rel => exact ⟨1, by simp, by omega, hq9.out⟩
   ·have hb : (x.name.1 == ([] : List UInt8)) = false := by simpa using hne
    have hp : Hid (fE (l, inl) x.name.1 = dG (l, inl) x.name.1) := by show _ = _; unfold fE; rw [if_pos hne]
    have HT := iT J3 x.name.1 (by have := aQi.out; rw [hp.out] at this; exact this) (by omega)
    rw [hs3] at HT
    clear J3 J2 HJ hne
    go_wp2_with (go_at_call 112; refine HT.mono ?_; rintro r w3 ⟨rfl, q2, q3⟩)
    have hq9 : Hid _ := hfin.out w3 (F3.trans q2) (by rw [hp.out]; exact q3)
    go_roundg 1
    case measure => omega
    case rel => exact ⟨1, by simp, by omega, hq9.out⟩
  ·have ix := aO3 (w.heap.size + 1) 0 2 2 1 (by omega)
   have J2 : Wt wr lo wb (fE (l, inl) x.name.1).1 (fE (l, inl) x.name.1).2 := J2
   have B3 : Below wr.heap.size wr (wr.alloc (.cells #[S (St.to x).1, .int .i64 (St.to x).2] 149)) := (Below.refl _ wr).alloc zR _
   have J3 := J2.below B3
   have F3 : Fw lo wb wB _ := J1.trans (Fw.of (by omega) B3)
   have hs3 : (wr.alloc (.cells #[S (St.to x).1, .int .i64 (St.to x).2] 149)).heap.size = wr.heap.size + 1 := by simp
   have hfin : Hid (∀ W : World, Fw lo wb wB W -> Wt W lo wb (fE (fE (l, inl) x.name.1) (St.to x).1).1 (fE (fE (l, inl) x.name.1) (St.to x).1).2 -> (Fw lo wb wB W /\ Wt W lo wb (([x.name.1, (St.to x).1].take (1 + 1)).foldl fE (l, inl)).1 (([x.name.1, (St.to x).1].take (1 + 1)).foldl fE (l, inl)).2)) := fun W h1 h2 => ⟨h1, h2⟩
   by_cases hne : (St.to x).1 = []
   ·have hb : ((St.to x).1 == ([] : List UInt8)) = true := by simp [hne]
    have hp : Hid (fE (fE (l, inl) x.name.1) (St.to x).1 = fE (l, inl) x.name.1) := by show _ = _; rw [show fE (fE (l, inl) x.name.1) (St.to x).1 = if (St.to x).1 ≠ [] then _ else _ from rfl, if_neg (by simp [hne])]
    have hq := hfin.out _ F3 (by rw [hp.out]; exact J3)
    have hq9 : Hid _ := hq
    clear hq J3 J2 HJ hne
    go_wp2_with fail
    go_roundg 0
    case measure => omega
    case rel => exact ⟨2, by simp, by omega, hq9.out⟩
   ·have hb : ((St.to x).1 == ([] : List UInt8)) = false := by simpa using hne
    have hp : Hid (fE (fE (l, inl) x.name.1) (St.to x).1 = dG (fE (l, inl) x.name.1) (St.to x).1) := by show _ = _; rw [show fE (fE (l, inl) x.name.1) (St.to x).1 = if (St.to x).1 ≠ [] then _ else _ from rfl, if_pos hne]
    have HT := iT J3 (St.to x).1 (by have := aKu.out; rw [hp.out] at this; exact this) (by omega)
    rw [hs3] at HT
    clear J3 J2 HJ hne
    go_wp2_with (go_at_call 112; refine HT.mono ?_; rintro r w3 ⟨rfl, q2, q3⟩)
    have hq9 : Hid _ := hfin.out w3 (F3.trans q2) (by rw [hp.out]; exact q3)
    go_roundg 0
    case measure => omega
    case rel => exact ⟨2, by simp, by omega, hq9.out⟩
  ·have J2 : Wt wr lo wb (fE (fE (l, inl) x.name.1) (St.to x).1).1 (fE (fE (l, inl) x.name.1) (St.to x).1).2 := J2
   have Fr : Fw lo wb w wr := hFB.trans J1
   cases htl : x.tail with
   | true =>
    have hS : Hid (rC (l, inl) x = dG (dG (fE (fE (l, inl) x.name.1) (St.to x).1) [116, 97, 105, 108]) [59]) := by show _ = _; unfold rC; rw [htl]; rfl
    have hl3 := fP.out
    rw [hS.out] at hl3
    have HT := iT J2 [116, 97, 105, 108] (Nat.le_trans (dP _ _) hl3) (by omega)
    clear J2 HJ
    go_wp2_with (go_at_call 112; (fail_if_success (have := q2)); refine HT.mono ?_; rintro r w3 ⟨rfl, q2, q3⟩)
    refine (iT q3 [59] hl3 (by have := q2.bl.size; omega)).mono ?_
    rintro r w4 ⟨rfl, q4, q5⟩
    go_wp2_with fail
    exact fH Tryz.results185 rfl ⟨rfl, (Fr.trans q2).trans q4, by rw [hS.out]; exact q5⟩
   | false =>
    have hS : Hid (rC (l, inl) x = dG (fE (fE (l, inl) x.name.1) (St.to x).1) [59]) := by show _ = _; unfold rC; rw [htl]; rfl
    have hl3 := fP.out
    rw [hS.out] at hl3
    have HT := iT J2 [59] hl3 (by omega)
    clear J2 HJ
    go_wp2_with (go_at_call 112; refine HT.mono ?_; rintro r w3 ⟨rfl, q2, q3⟩)
    exact fH Tryz.results185 rfl ⟨rfl, Fr.trans q2, by rw [hS.out]; exact q3⟩
end
end Go.Proofs.YtfddoieakfpagaaGreatDoor
