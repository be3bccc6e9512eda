import Derived.Test.YtfddoieakfpagabGreatDoorJI
import Derived.Lib.Builder
import Derived.Shelf.Strings.Builder1
import Derived.Test.YtfddoieakfpagabGreatDoorShelfI
import Derived.Lib.AppendIntMem
namespace Go.Proofs.YtfddoieakfpagabGreatDoor
set_option maxHeartbeats 4000000
set_option maxRecDepth 20000
open Go.RowKit
theorem own_at0 {w : World} {lo size n : Nat} {e : TypeId} {v : Value} {xs : List Value} (h : w.ownsRow lo e size v n xs) (hn : 0 < n) : ∃ g cap, v = .slice (some ⟨g, 0, none⟩) n cap /\ g < w.heap.size /\ lo <= g /\ ∀ j, j < n * size -> w.cell? ⟨g, j, none⟩ = xs[j]? := by
 rcases h.2 with ⟨_, h2⟩ | ⟨g, cap, cur, rfl, h1, h2, _⟩
 ·omega
 ·exact ⟨g, cap, rfl, (Array.getElem?_eq_some_iff.1 h2).1, h1, fun j hj => h.cellAt j hj⟩
theorem own_fm {w : World} {lo size n : Nat} {e : TypeId} {v : Value} {xs : List Value} (h : w.ownsRow lo e size v n xs) : ∃ a cap, v = .slice a n cap := by
 rcases h.2 with ⟨rfl, rfl⟩ | ⟨g, cap, cur, rfl, _⟩
 ·exact ⟨_, _, rfl⟩
 ·exact ⟨_, _, rfl⟩
theorem end0' {fn : Func} {R : Ending -> World -> Prop} {a : Act} {w : World} (hr : fn.results = #[]) (hd : a.defers = []) (hR : R (.returned (.tuple #[])) w) : bodyPost Tryz.prog fn R .normal a w :=
 bodyPost_end (by simp [results, hr, go_sem]) hd hR
def OkL {α : Type} (P : α -> Prop) : List α -> Prop
 | [] => True
 | x :: xs => P x /\ OkL P xs
theorem OkL_get {α : Type} {P : α -> Prop} : ∀ {xs : List α} {k : Nat} {x : α}, OkL P xs -> xs[k]? = some x -> P x
 | [], k, x, _, h => by simp at h
 | y :: xs, 0, x, h, e => by simp at e; subst e; exact h.1
 | y :: xs, k + 1, x, h, e => OkL_get (k := k) h.2 (by simpa using e)
structure Wt (w : World) (lo wb : Nat) (l : List UInt8) (inl : Bool) : Prop where
 ex : ∃ pv v, w.heap[wb]? = some (.cells #[pv, v, .bool inl] 109) /\ (pv = .pointer none \/ pv = .pointer (some ⟨wb, 0, none⟩)) /\ w.ownsRow lo 5 1 v l.length (Lib.byteCells l) /\ v.ownBlock ≠ some wb
 le : lo <= wb
structure Fw (lo wb : Nat) (w w' : World) : Prop where
 bl : Below lo w w'
 blk : ∀ b, b < w.heap.size -> b ≠ wb -> (∀ c f, w.heap[b]? ≠ some (.cells c 5 f)) -> w'.heap[b]? = w.heap[b]?
theorem Fw.refl (lo wb : Nat) (w : World) : Fw lo wb w w := ⟨Below.refl _ _, fun _ _ _ _ => rfl⟩
theorem Fw.trans {lo wb : Nat} {a b c : World} (h : Fw lo wb a b) (k : Fw lo wb b c) : Fw lo wb a c := ⟨h.bl.trans k.bl, fun x hx hn ht => (k.blk x (Nat.lt_of_lt_of_le hx h.bl.size) hn (fun q f => by rw [h.blk x hx hn ht]; exact ht q f)).trans (h.blk x hx hn ht)⟩
theorem Fw.of {lo wb : Nat} {w w' : World} (hlo : lo <= w.heap.size) (h : Below w.heap.size w w') : Fw lo wb w w' := ⟨h.mono hlo, fun b hb _ _ => h.block b hb⟩
theorem Fw.set {lo wb o : Nat} {w : World} (hle : lo <= wb) (v : Value) : Fw lo wb w (w.setCell ⟨wb, o, none⟩ v) := ⟨(Below.refl lo w).setCell (p := ⟨wb, o, none⟩) hle _, fun b _ hn _ => Below.heap_setCell _ ⟨wb, o, none⟩ _ b hn⟩
theorem Fw.grown {lo wb n : Nat} {w w' : World} {v : Value} {xs : List Value} (h : w.ownsRow lo 5 1 v n xs) (hg : w.grownBy w' v.ownBlock) (hlo : lo <= w.heap.size) : Fw lo wb w w' := ⟨⟨hg.os, hg.tape, hg.output, hg.size, fun b hb => hg.block b (by omega) (fun e => by have := (h.lt b e.symm).1; omega)⟩, fun b hb _ ht => hg.block b hb (fun e => by
 rcases h.2 with ⟨e2, _⟩ | ⟨g, cap, cur, e2, _, e3, _⟩
 ·rw [e2] at e; simp [Value.ownBlock] at e
 ·rw [e2] at e
  simp [Value.ownBlock] at e
  subst e
  exact ht _ _ e3)⟩
theorem wr_size : (Tryz.prog.info? 107).map (·.size) = some 2 := by kernel_rfl
theorem wr_lies : liesAt Tryz.prog Tryz.prog.depth 109 (3 / Tryz.prog.cellsOf 109) 0 107 1 = true := by kernel_rfl
theorem info_u8 : (Tryz.prog.info? 5).map (fun i => (i.zero, i.size, i.bytes)) = some (some (.int .u8 0), 1, 1) := by kernel_rfl
section
variable {w : World} {lo wb : Nat} {l : List UInt8} {inl : Bool}
theorem wcopy_used {v : Value} (h : w.heap[wb]? = some (.cells #[.pointer (some ⟨wb, 0, none⟩), v, .bool inl] 109)) : Calls Tryz.prog 130 #[.pointer (some ⟨wb, 0, none⟩)] w fun e w' => e = .returned (.tuple #[]) /\ w' = w := by
 obtain ⟨c1, cf1⟩ := blk_cl h
 obtain ⟨j, hj, _⟩ := Option.map_eq_some_iff.1 wr_size
 go_enter Tryz.func130, Tryz.ntmps130
 go_wp2_with fail
 rw [Lib.run_neq_ptr_same w _ Tryz.underlying105 hj]
 go_wp2_with fail
 exact end0' Tryz.results130 rfl ⟨rfl, rfl⟩
theorem wcopy_new {v : Value} (h : w.heap[wb]? = some (.cells #[.pointer none, v, .bool inl] 109)) : Calls Tryz.prog 130 #[.pointer (some ⟨wb, 0, none⟩)] w fun e w' => e = .returned (.tuple #[]) /\ w' = w.setCell ⟨wb, 0, none⟩ (.pointer (some ⟨wb, 0, none⟩)) := by
 obtain ⟨c1, cf1⟩ := blk_cl h
 obtain ⟨j, hj, hjs⟩ := Option.map_eq_some_iff.1 wr_size
 have hsh : w.shape? wb = some (109, 3) := by simp [World.shape?, h]
 have hu1 := Lib.run_to_unsafe (P := Tryz.prog) (w := w) (src := 105) (dst := 164) (t := 107) ⟨wb, 0, none⟩ Tryz.underlying105 Tryz.underlying164 hj (by rw [hjs]; decide) hsh (show 0 < 3 by omega)
 have hu2 := Lib.run_from_unsafe (P := Tryz.prog) (w := w) (src := 164) (dst := 105) (u := 107) ⟨wb, 0, none⟩ Tryz.underlying164 Tryz.underlying105 hj hsh wr_lies
 go_enter Tryz.func130, Tryz.ntmps130
 go_wp2_with fail
 rw [run_callFunc_extern Tryz.func145 (by kernel_rfl) (by kernel_rfl) (by kernel_rfl) (e := Extern.AbiNoEscape.same) (by kernel_rfl)]
 rw [Lib.run_noEscape]
 simp only [Result.andThen]
 rw [Oper.upon_value]
 go_wp2_with fail
 exact end0' Tryz.results130 rfl ⟨rfl, rfl⟩
theorem wcopy (h : Wt w lo wb l inl) : Calls Tryz.prog 130 #[.pointer (some ⟨wb, 0, none⟩)] w fun e w' => e = .returned (.tuple #[]) /\ Fw lo wb w w' /\ ∃ v, w'.heap[wb]? = some (.cells #[.pointer (some ⟨wb, 0, none⟩), v, .bool inl] 109) /\ w'.ownsRow lo 5 1 v l.length (Lib.byteCells l) /\ v.ownBlock ≠ some wb := by
 obtain ⟨pv, v, h1, h2, h3, h4⟩ := h.ex
 rcases h2 with rfl | rfl
 ·refine (wcopy_new h1).mono ?_
  rintro e w' ⟨rfl, rfl⟩
  refine ⟨rfl, Fw.set h.le _, v, (heap_setCell_same _ _ _ _ _ _ h1).trans rfl, own_mv h3 (fun b e _ => Below.heap_setCell _ ⟨wb, 0, none⟩ _ b (fun e2 => ?_)), h4⟩
  have e2 : b = wb := e2
  subst e2
  exact h4 e
 ·refine (wcopy_used h1).mono ?_
  rintro e w' ⟨rfl, rfl⟩
  exact ⟨rfl, Fw.refl _ _ _, v, h1, h3, h4⟩
theorem Wt.put {w1 w2 : World} {v v' : Value} {l' : List UInt8} (hle : lo <= wb) (h1 : w1.heap[wb]? = some (.cells #[.pointer (some ⟨wb, 0, none⟩), v, .bool inl] 109)) (h2 : w2.heap[wb]? = w1.heap[wb]?) (ho : w2.ownsRow lo 5 1 v' l'.length (Lib.byteCells l')) : Wt (w2.setCell ⟨wb, 1, none⟩ v') lo wb l' inl := by
 have hne : v'.ownBlock ≠ some wb := fun e => by
  rcases ho.2 with ⟨e2, _⟩ | ⟨g, cap, cur, e2, _, e3, _⟩
  ·rw [e2] at e; simp [Value.ownBlock] at e
  ·rw [e2] at e
   simp [Value.ownBlock] at e
   subst e
   rw [h2, h1] at e3
   simp at e3
 refine ⟨⟨_, v', (heap_setCell_same _ _ _ _ _ _ (h2.trans h1)).trans rfl, Or.inr rfl, own_mv ho (fun b e _ => Below.heap_setCell _ ⟨wb, 1, none⟩ _ b (fun e2 => ?_)), hne⟩, hle⟩
 have e2 : b = wb := e2
 subst e2
 exact hne e
theorem wbyte (h : Wt w lo wb l inl) (c : UInt8) (hlen : l.length + 1 <= 140737488355328) (hlo : lo <= w.heap.size) : Calls Tryz.prog 100 #[.pointer (some ⟨wb, 0, none⟩), .int .u8 c.toNat] w fun e w' => e = .returned .nilIface /\ Fw lo wb w w' /\ Wt w' lo wb (l ++ [c]) inl := by
 obtain ⟨i0, hi, hz0, hz1, hz2⟩ := info_parts info_u8
 have HC := wcopy h
 have hle := h.le
 go_enter Tryz.func100, Tryz.ntmps100
 go_wp2_with (go_at_call 130; refine HC.mono ?_)
 rintro e w1 ⟨rfl, B1, v, h1, h3, h4⟩
 have lwb := (Array.getElem?_eq_some_iff.1 h1).1
 obtain ⟨c1, cf1⟩ := blk_cl h1
 have hs1 := B1.bl.size
 obtain ⟨va, vc, rfl⟩ := own_fm h3
 go_wp2_with (at_builtin; refine wpList_append_own_at _ rfl _ _ 65 rfl lo 5 i0 (.int .u8 0) 1 1 Tryz.underlying65 hi hz0 hz1 hz2 rfl (by decide) _ _ _ rfl (h3.alloc _) ⟨w1.heap.size, 0, none⟩ 1 1 [.int .u8 c.toNat] rfl rfl ?c1 ?c2 ?c3 ?c4 ?c5 ?_)
 case c1 =>
  intro j u hj
  match j, hj with
  | 0, hj => simp at hj; subst hj; simp [Addr.add]
 case c2 => intro u hu; simp at hu; subst hu; rfl
 case c3 => unfold maxLen; omega
 case c4 => omega
 case c5 => simp; omega
 intro v' w2 hown' hgrow _ hat
 have hb2 : w2.heap[wb]? = w1.heap[wb]? := (hgrow.block wb (by simp; omega) (fun e => h4 e.symm)).trans (Below.heap_alloc _ _ _ lwb)
 obtain ⟨c2, cf2⟩ := blk_cl (hb2.trans h1)
 obtain ⟨ya, yn, yc, rfl⟩ := ownsRow_form2 hown'
 have hfin := Wt.put (l' := l ++ [c]) hle h1 hb2 (by simpa [Lib.byteCells] using hown')
 have hB2 : Fw lo wb w1 w2 := (Fw.of (by omega) ((Below.refl _ w1).alloc (Nat.le_refl _) _)).trans (Fw.grown (h3.alloc _) hgrow (by simp; omega))
 clear hown' hgrow hat h3
 go_wp2_with fail
 go_ret
 exact ⟨rfl, (B1.trans hB2).trans (Fw.set hle _), hfin⟩
theorem wstr (h : Wt w lo wb l inl) (t : List UInt8) (hlen : l.length + t.length <= 140737488355328) (hlo : lo <= w.heap.size) : Calls Tryz.prog 101 #[.pointer (some ⟨wb, 0, none⟩), S t] w fun e w' => e = .returned (.tuple #[.int .i64 t.length, .nilIface]) /\ Fw lo wb w w' /\ Wt w' lo wb (l ++ t) inl := by
 obtain ⟨i0, hi, hz0, hz1, hz2⟩ := info_parts info_u8
 have HC := wcopy h
 have hle := h.le
 go_enter Tryz.func101, Tryz.ntmps101
 go_wp2_with (go_at_call 130; refine HC.mono ?_)
 rintro e w1 ⟨rfl, B1, v, h1, h3, h4⟩
 have lwb := (Array.getElem?_eq_some_iff.1 h1).1
 obtain ⟨c1, cf1⟩ := blk_cl h1
 have hs1 := B1.bl.size
 obtain ⟨va, vc, rfl⟩ := own_fm h3
 go_wp2_with (at_builtin; refine Lib.wpList_append_own_string _ rfl _ _ 65 9 rfl lo 5 i0 Tryz.underlying65 Tryz.underlying9 hi hz0 hz1 hz2 _ _ _ rfl h3 ⟨t.toArray⟩ rfl ?c3 ?c4 ?c5 ?_)
 case c3 => unfold maxLen; show l.length + t.toArray.size <= _; simp; omega
 case c4 => show l.length + t.toArray.size <= _; simp; omega
 case c5 => omega
 intro v' w2 hown' hgrow hat
 have hb2 : w2.heap[wb]? = w1.heap[wb]? := hgrow.block wb lwb (fun e => h4 e.symm)
 obtain ⟨c2, cf2⟩ := blk_cl (hb2.trans h1)
 obtain ⟨ya, yn, yc, rfl⟩ := ownsRow_form2 hown'
 have hfin := Wt.put (l' := l ++ t) hle h1 hb2 (by
  have := hown'
  have e0 : Lib.strCells ⟨t.toArray⟩ = Lib.byteCells t := rfl
  rw [e0] at this
  simpa [Lib.byteCells] using this)
 have hB2 : Fw lo wb w1 w2 := Fw.grown h3 hgrow (by omega)
 clear hown' hgrow hat h3
 go_wp2_with fail
 exact bodyPost_ret (v := .tuple #[.int .i64 t.length, .nilIface]) (by simp [results, Tryz.results101, go_sem]) rfl ⟨rfl, (B1.trans hB2).trans (Fw.set hle _), hfin⟩
end
section
variable {w : World} {lo wb : Nat} {l : List UInt8} {inl : Bool}
theorem wstring (h : Wt w lo wb l inl) (h0 : l ≠ []) (hl : l.length <= 140737488355328) : Calls Tryz.prog 48 #[.pointer (some ⟨wb, 0, none⟩)] w fun e w' => e = .returned (S l) /\ Below lo w w' := by
 obtain ⟨pv, v, h1, h2, h3, h4⟩ := h.ex
 have hl0 : l.length ≠ 0 := by simpa using h0
 obtain ⟨g, cap, cur, rfl, hbg, hg, hnc, hcm, hcs, htake⟩ : ∃ g cap cur, v = .slice (some ⟨g, 0, none⟩) l.length cap /\ lo <= g /\ w.heap[g]? = some (.cells cur 5 (0, 0)) /\ l.length <= cap /\ cap <= maxLen /\ cur.size = cap * 1 /\ cur.toList.take (l.length * 1) = Lib.byteCells l := by
  rcases h3.2 with ⟨_, hz⟩ | ⟨g, cap, cur, hv, r⟩
  ·exact absurd hz hl0
  ·exact ⟨g, cap, cur, hv, r⟩
 obtain ⟨c1, cf1⟩ := blk_cl h1
 have hcb : Tryz.prog.cellsOf 5 = 1 := by kernel_rfl
 have hSD : (Builtin.unsafeSliceData_ #[65] 181 #[.slice (some ⟨g, 0, none⟩) l.length cap]).run Tryz.prog w.drew = .ok (.pointer (some ⟨g, 0, none⟩)) w.drew :=
  Lib.run_unsafeSliceData_row _ _ _ _ _ _ (by omega)
 have hUS : (Builtin.unsafeString_ #[181, 3] 9 #[.pointer (some ⟨g, 0, none⟩), .int .i64 l.length]).run Tryz.prog w.drew = .ok (.string ⟨l.toArray⟩) (w.drew.freeze ⟨g, 0, none⟩ l.length) := by
  refine Lib.run_unsafeString_row w.drew 181 3 9 5 Tryz.underlying181 hcb g cur.size (by have hg' : w.drew.heap[g]? = some (.cells cur 5 (0, 0)) := hg; simp [World.shape?, hg']) l h0 (by omega) (by unfold maxLen at hcm; omega) ?_
  intro j x hx
  have := h3.cells (g := g) rfl j (.int .u8 x.toNat) (by simp [Lib.byteCells, hx])
  exact this
 have hB := Lib.below_freeze (Below.drew (Below.refl lo w)) (p := ⟨g, 0, none⟩) hbg l.length
 go_enter Tryz.func48, Tryz.ntmps48
 go_wp2_with fail
 go_region
 all_goals
  go_wp2_with fail
  go_ret
  exact ⟨rfl, hB⟩
end
abbrev Ws := List UInt8 × Bool
def tkS (s : Ws) (t : List UInt8) : Ws := (s.1 ++ (if s.2 = true /\ t ≠ [59] then 32 :: t else t), true)
def tksS (s : Ws) (ts : List (List UInt8)) : Ws := ts.foldl tkS s
def nlS (s : Ws) : Ws := (s.1 ++ [10], false)
theorem tkS_le (s : Ws) (t : List UInt8) : s.1.length <= (tkS s t).1.length := by
 unfold tkS
 simp
theorem tksS_le : ∀ (ts : List (List UInt8)) (s : Ws), s.1.length <= (tksS s ts).1.length
 | [], _s => Nat.le_refl _
 | t :: ts, s => Nat.le_trans (tkS_le s t) (tksS_le ts (tkS s t))
theorem tksS_app (s : Ws) (a b : List (List UInt8)) : tksS s (a ++ b) = tksS (tksS s a) b := by
 unfold tksS
 exact List.foldl_append
def OutWt (w : World) (lo wb : Nat) (s : Ws) (e : Ending) (w' : World) : Prop := e = .returned (.tuple #[]) /\ Fw lo wb w w' /\ Wt w' lo wb s.1 s.2
section
variable {w : World} {lo wb : Nat} {l : List UInt8} {inl : Bool}
theorem Wt.flag (h : Wt w lo wb l inl) (b : Bool) : Wt (w.setCell ⟨wb, 2, none⟩ (.bool b)) lo wb l b := by
 obtain ⟨pv, v, h1, h2, h3, h4⟩ := h.ex
 refine ⟨⟨pv, v, (heap_setCell_same _ _ _ _ _ _ h1).trans rfl, h2, own_mv h3 (fun g e _ => Below.heap_setCell _ ⟨wb, 2, none⟩ _ g (fun e2 => ?_)), h4⟩, h.le⟩
 have e2 : g = wb := e2
 subst e2
 exact h4 e
theorem Wt.lt (h : Wt w lo wb l inl) : wb < w.heap.size := by
 obtain ⟨pv, v, h1, _⟩ := h.ex
 exact (Array.getElem?_eq_some_iff.1 h1).1
theorem Wt.below {w' : World} (h : Wt w lo wb l inl) (hb : Below w.heap.size w w') : Wt w' lo wb l inl := by
 obtain ⟨pv, v, h1, h2, h3, h4⟩ := h.ex
 exact ⟨⟨pv, v, (hb.block _ h.lt).trans h1, h2, own_mv h3 (fun b _ hl => hb.block b hl), h4⟩, h.le⟩
theorem Wt.cells (h : Wt w lo wb l inl) : w.cell? ⟨wb, 2, none⟩ = some (.bool inl) /\ ∀ o, w.frozen? ⟨wb, o, none⟩ = false := by
 obtain ⟨pv, v, h1, h2, h3, h4⟩ := h.ex
 exact ⟨(blk_cl h1).1 2, (blk_cl h1).2⟩
theorem ix_sx (g o n cap k : Nat) (hk : k < n) : ∀ W : World, (Instr.indexAt 40 (.slice (some ⟨g, o, none⟩) n cap) (.int .i64 k)).run Tryz.prog W = .ok (.pointer (some ⟨g, o + k, none⟩)) W := by
 intro W
 rw [run_indexAt_slice (h := by kernel_rfl), if_pos (by omega)]
 have : (sizeOf (Tryz.prog.elem 40)).run Tryz.prog W = .ok 1 W := by kernel_rfl
 rw [this]
 simp [Result.andThen, Addr.add]
theorem wend (h : Wt w lo wb l inl) (hlen : l.length + 1 <= 100000000000) (hlo : lo <= w.heap.size) : Calls Tryz.prog 73 #[.pointer (some ⟨wb, 0, none⟩)] w (OutWt w lo wb (nlS (l, inl))) := by
 have HB := wbyte h 10 (by omega) hlo
 have hle := h.le
 go_enter Tryz.func73, Tryz.ntmps73
 go_wp2_with (go_at_call 100; refine HB.mono ?_; rintro r w1 ⟨rfl, q1, q2⟩; obtain ⟨c1, cf1⟩ := q2.cells)
 exact end0' Tryz.results73 rfl ⟨rfl, q1.trans (Fw.set hle _), q2.flag false⟩
theorem wtoks (h : Wt w lo wb l inl) (ts : List (List UInt8)) (hn : ts.length <= 1000) {g : Nat} (hg : w.heap[g]? = some (.cells (ts.map S).toArray 9)) (hlen : (tksS (l, inl) ts).1.length <= 100000000000) (hlo : lo <= w.heap.size) : Calls Tryz.prog 71 #[.pointer (some ⟨wb, 0, none⟩), .slice (some ⟨g, 0, none⟩) ts.length ts.length] w (OutWt w lo wb (tksS (l, inl) ts)) := by
 have hle := h.le
 have lg := (Array.getElem?_eq_some_iff.1 hg).1
 have hgw : g ≠ wb := fun e => by
  obtain ⟨pv, v, h1, _⟩ := h.ex
  rw [e, h1] at hg
  simp at hg
 have hg9 : Hid (∀ W : World, Fw lo wb w W -> W.heap[g]? = some (.cells (ts.map S).toArray 9)) := fun W hW => (hW.blk g lg hgw (fun c f => by rw [hg]; simp)).trans hg
 have h9 : Hid (Wt w lo wb l inl) := h
 have hlen9 : Hid ((tksS (l, inl) ts).1.length <= 100000000000) := hlen
 clear hg h hlen
 go_enter Tryz.func71, Tryz.ntmps71
 go_wp2_with fail
 go_loopg [8] ts.length (fun f v wr => ∃ k : Nat, v = .int .i64 k /\ k + f = ts.length /\ Hid (Fw lo wb w wr /\ Wt wr lo wb (tksS (l, inl) (ts.take k)).1 (tksS (l, inl) (ts.take k)).2))
 case atStart => exact ⟨0, rfl, by omega, Fw.refl _ _ _, h9.out⟩
 case round =>
  obtain ⟨k, rfl, hk, HJ⟩ := hrel
  obtain ⟨J1, J2⟩ := HJ.out
  by_cases hkl : k < ts.length
  ·have t1 : decide ((k : Int) < (ts.length : Int)) = true := by simp; omega
   have ht : ts[k]? = some ts[k] := List.getElem?_eq_getElem hkl
   have cg : wr.cell? ⟨g, k, none⟩ = some (S ts[k]) := by
    rw [(blk_cl (hg9.out wr J1)).1 k]
    simp [ht]
   have ix := ix_sx g 0 ts.length ts.length k hkl
   rw [Nat.zero_add] at ix
   have htk : Hid (tksS (l, inl) (ts.take (k + 1)) = tkS (tksS (l, inl) (ts.take k)) ts[k]) := by
    show _ = _
    rw [List.take_succ_eq_append_getElem hkl, tksS_app]
    rfl
   have hl2 : (tkS (tksS (l, inl) (ts.take k)) ts[k]).1.length <= 100000000000 := by
    rw [<- htk.out]
    have h1 := hlen9.out
    rw [<- List.take_append_drop (k + 1) ts, tksS_app] at h1
    exact Nat.le_trans (tksS_le _ _) h1
   have hs1 := J1.bl.size
   generalize tksS (l, inl) (ts.take k) = s at *
   generalize ts[k] = t at *
   obtain ⟨sl, si⟩ := s
   simp only at J2
   have hfin : Hid (∀ W : World, Fw lo wb w W -> Wt W lo wb (tkS (sl, si) t).1 si -> (Fw lo wb w (W.setCell ⟨wb, 2, none⟩ (.bool true)) /\ Wt (W.setCell ⟨wb, 2, none⟩ (.bool true)) lo wb (tksS (l, inl) (ts.take (k + 1))).1 (tksS (l, inl) (ts.take (k + 1))).2)) := fun W hW h2 => by
    rw [htk.out]
    exact ⟨hW.trans (Fw.set hle _), h2.flag true⟩
   obtain ⟨c2, cf2⟩ := J2.cells
   have J29 : Hid (Wt wr lo wb sl si) := J2
   have J19 : Hid (Fw lo wb w wr) := J1
   have hl9 : Hid ((tkS (sl, si) t).1.length <= 100000000000) := hl2
   clear J2 J1 HJ hl2 htk ht
   by_cases hc : si = true /\ t ≠ [59]
   ·obtain ⟨rfl, hc2⟩ := hc
    have e1 : Hid ((tkS (sl, true) t).1 = sl ++ [32] ++ t) := by
     show _ = _
     unfold tkS
     rw [if_pos ⟨rfl, hc2⟩]
     simp
    have hl3 : sl.length + 1 + t.length <= 100000000000 := by
     have := hl9.out
     rw [e1.out] at this
     simp at this
     omega
    have HB := wbyte J29.out 32 (by omega) (by omega)
    have hne : (t == [59]) = false := by simpa using hc2
    go_wp2_with (go_at_call 100; refine HB.mono ?_)
    rintro r w1 ⟨rfl, q1, q2⟩
    have HS := wstr q2 t (by simp; omega) (by have := q1.bl.size; omega)
    go_wp2_with (go_at_call 101; refine HS.mono ?_; rintro r w2 ⟨rfl, q3, q4⟩; obtain ⟨c3, cf3⟩ := q4.cells)
    have hq : Hid (Fw lo wb w w2 /\ Wt w2 lo wb (tkS (sl, true) t).1 true) := ⟨(J19.out.trans q1).trans q3, by rw [e1.out]; exact q4⟩
    go_roundg (gk - 1)
    case measure => omega
    case rel => exact ⟨k + 1, by simp, by omega, hfin.out w2 hq.out.1 hq.out.2⟩
   ·have e1 : Hid ((tkS (sl, si) t).1 = sl ++ t) := by
     show _ = _
     unfold tkS
     rw [if_neg hc]
    have hl3 : sl.length + t.length <= 100000000000 := by
     have := hl9.out
     rw [e1.out] at this
     simpa using this
    have HS := wstr J29.out t (by omega) (by omega)
    have hq : Hid (∀ w2 : World, Fw lo wb wr w2 -> Wt w2 lo wb (sl ++ t) si -> (Fw lo wb w w2 /\ Wt w2 lo wb (tkS (sl, si) t).1 si)) := fun w2 q3 q4 => ⟨J19.out.trans q3, by rw [e1.out]; exact q4⟩
    cases si with
    | false =>
     go_wp2_with (go_at_call 101; refine HS.mono ?_; rintro r w2 ⟨rfl, q3, q4⟩; obtain ⟨c3, cf3⟩ := q4.cells)
     go_roundg (gk - 1)
     case measure => omega
     case rel => exact ⟨k + 1, by simp, by omega, hfin.out w2 (hq.out w2 q3 q4).1 (hq.out w2 q3 q4).2⟩
    | true =>
     have ht59 : t = [59] := by
      apply Classical.byContradiction
      intro h5
      exact hc ⟨rfl, h5⟩
     have hne : (t == [59]) = true := by simp [ht59]
     clear ht59
     go_wp2_with (go_at_call 101; refine HS.mono ?_; rintro r w2 ⟨rfl, q3, q4⟩; obtain ⟨c3, cf3⟩ := q4.cells)
     go_roundg (gk - 1)
     case measure => omega
     case rel => exact ⟨k + 1, by simp, by omega, hfin.out w2 (hq.out w2 q3 q4).1 (hq.out w2 q3 q4).2⟩
  ·have t1 : decide ((k : Int) < (ts.length : Int)) = false := by simp; omega
   have hq : Hid (OutWt w lo wb (tksS (l, inl) ts) (.returned (.tuple #[])) wr) := by
    rw [List.take_of_length_le (by omega)] at J2
    exact ⟨rfl, J1, J2⟩
   go_wp2_with fail
   exact end0' Tryz.results71 rfl hq.out
end
def Tb (lo : Nat) (w : World) : Prop := ∀ W : World, Below lo w W -> Lib.TabIs Tryz.prog W "internal/strconv.uint64pow10" .u64 Lib.pow10Tab
theorem Tb.mv {lo : Nat} {w w' : World} (h : Tb lo w) (hb : Below lo w w') : Tb lo w' := fun W hW => h W (hb.trans hW)
theorem Tb.fw {lo wb : Nat} {w w' : World} (h : Tb lo w) (hb : Fw lo wb w w') : Tb lo w' := h.mv hb.bl
def itoB (n : Nat) : List UInt8 := Lib.itoa (n : Int)
def valS (s : Ws) (v : Vl) : Ws := if v.kind = 0 then tkS s (itoB v.num.1) else if v.kind = 1 then tkS s v.name.1 else if v.kind = 2 then tksS s [[108, 101, 110], v.name.1] else if v.kind = 3 then tkS s [102, 114, 101, 113] else s
theorem valS_le (s : Ws) (v : Vl) : s.1.length <= (valS s v).1.length := by
 unfold valS
 split
 ·exact tkS_le _ _
 split
 ·exact tkS_le _ _
 split
 ·exact tksS_le _ _
 split
 ·exact tkS_le _ _
 ·exact Nat.le_refl _
section
variable {w : World} {lo wb : Nat} {l : List UInt8} {inl : Bool}
theorem wtok1 (h : Wt w lo wb l inl) (t : List UInt8) (hlen : (tkS (l, inl) t).1.length <= 100000000000) (hlo : lo <= w.heap.size) : Calls Tryz.prog 71 #[.pointer (some ⟨wb, 0, none⟩), .slice (some ⟨w.heap.size, 0, none⟩) 1 1] (w.alloc (.cells #[S t] 9)) (OutWt w lo wb (tkS (l, inl) t)) := by
 have B : Below w.heap.size w (w.alloc (.cells #[S t] 9)) := (Below.refl _ w).alloc (Nat.le_refl _) _
 refine (wtoks (h.below B) [t] (by simp) (g := w.heap.size) (heap_new rfl) hlen (by simp; omega)).mono ?_
 rintro e w' ⟨q1, q2, q3⟩
 exact ⟨q1, (Fw.of hlo B).trans q2, q3⟩
theorem wtok2 (h : Wt w lo wb l inl) (t u : List UInt8) (hlen : (tksS (l, inl) [t, u]).1.length <= 100000000000) (hlo : lo <= w.heap.size) : Calls Tryz.prog 71 #[.pointer (some ⟨wb, 0, none⟩), .slice (some ⟨w.heap.size, 0, none⟩) 2 2] (w.alloc (.cells #[S t, S u] 9)) (OutWt w lo wb (tksS (l, inl) [t, u])) := by
 have B : Below w.heap.size w (w.alloc (.cells #[S t, S u] 9)) := (Below.refl _ w).alloc (Nat.le_refl _) _
 refine (wtoks (h.below B) [t, u] (by simp) (g := w.heap.size) (heap_new rfl) hlen (by simp; omega)).mono ?_
 rintro e w' ⟨q1, q2, q3⟩
 exact ⟨q1, (Fw.of hlo B).trans q2, q3⟩
theorem wnum (ht : Tb lo w) (hlo : lo <= w.heap.size) (n m : Nat) (hn : n <= 100000) : Calls Tryz.prog 99 #[.agg #[.int .i64 n, .int .i64 m]] w fun e w' => e = .returned (S (itoB n)) /\ Below w.heap.size w w' := by
 have B : Below w.heap.size w (w.alloc (.cells #[.int .i64 n, .int .i64 m] 118)) := (Below.refl _ w).alloc (Nat.le_refl _) _
 have b1 : (w.alloc (.cells #[.int .i64 n, .int .i64 m] 118)).heap[w.heap.size]? = some (.cells #[.int .i64 n, .int .i64 m] 118) := heap_new rfl
 obtain ⟨c1, cf1⟩ := blk_cl b1
 have HI := Tryz.strconv_Itoa (n : Int) (by omega) (by omega) (w.alloc (.cells #[.int .i64 n, .int .i64 m] 118)) (ht _ (B.mono hlo))
 have hw : Hid (∀ k os, Below w.heap.size w (Sort.grow ((w.alloc (.cells #[.int .i64 n, .int .i64 m] 118)).drewN k) os)) := fun k os => B.trans (Lib.below_grow _ _ B.size k os)
 go_enter Tryz.func99, Tryz.ntmps99
 go_wp2_with (go_at_call 129; refine HI.mono ?_; rintro r w1 ⟨rfl, k, os, rfl⟩)
 go_ret
 exact ⟨rfl, hw.out k os⟩
end
section
variable {w : World} {lo wb : Nat} {l : List UInt8} {inl : Bool}
theorem wval0 (h : Wt w lo wb l inl) (ht : Tb lo w) (hlo : lo <= w.heap.size) (v : Vl) (hk : v.kind = 0) (hn : v.num.1 <= 100000) (hlen : (valS (l, inl) v).1.length <= 100000000000) : Calls Tryz.prog 156 #[.pointer (some ⟨wb, 0, none⟩), .agg #[.int .i64 v.kind, S v.name.1, .int .i64 v.name.2, .int .i64 v.num.1, .int .i64 v.num.2]] w (OutWt w lo wb (valS (l, inl) v)) := by
 have e1 : valS (l, inl) v = tkS (l, inl) (itoB v.num.1) := by unfold valS; rw [hk]; rfl
 rw [e1] at hlen ⊢
 obtain ⟨kd, ⟨n1, n2⟩, ⟨m1, m2⟩⟩ := v
 simp only at hk hn hlen ⊢
 subst hk
 have B : Below w.heap.size w (w.alloc (.cells #[.int .i64 (0 : Nat), S n1, .int .i64 n2, .int .i64 m1, .int .i64 m2] 222)) := (Below.refl _ w).alloc (Nat.le_refl _) _
 have b1 : (w.alloc (.cells #[.int .i64 (0 : Nat), S n1, .int .i64 n2, .int .i64 m1, .int .i64 m2] 222)).heap[w.heap.size]? = some (.cells #[.int .i64 (0 : Nat), S n1, .int .i64 n2, .int .i64 m1, .int .i64 m2] 222) := heap_new rfl
 obtain ⟨c1, cf1⟩ := blk_cl b1
 have hA := h.below B
 have hFA : Fw lo wb w _ := Fw.of hlo B
 have zA := B.size
 have HN := wnum (ht.mv (B.mono hlo)) (Nat.le_trans hlo zA) m1 m2 hn
 go_enter Tryz.func156, Tryz.ntmps156
 go_wp2_with (go_at_call 99; refine HN.mono ?_; rintro r w1 ⟨rfl, q1⟩)
 have HT := wtok1 (hA.below q1) (itoB m1) hlen (by have := q1.size; omega)
 refine HT.mono ?_
 rintro r w2 ⟨rfl, q2, q3⟩
 go_wp2_with fail
 exact end0' Tryz.results156 rfl ⟨rfl, (hFA.trans (Fw.of (by omega) q1)).trans q2, q3⟩
end
section
variable {w : World} {lo wb : Nat} {l : List UInt8} {inl : Bool}
theorem wval1 (h : Wt w lo wb l inl) (_ht : Tb lo w) (hlo : lo <= w.heap.size) (v : Vl) (hk : v.kind = 1) (hn : v.num.1 <= 100000) (hlen : (valS (l, inl) v).1.length <= 100000000000) : Calls Tryz.prog 156 #[.pointer (some ⟨wb, 0, none⟩), .agg #[.int .i64 v.kind, S v.name.1, .int .i64 v.name.2, .int .i64 v.num.1, .int .i64 v.num.2]] w (OutWt w lo wb (valS (l, inl) v)) := by
 have e1 : valS (l, inl) v = tkS (l, inl) v.name.1 := by unfold valS; rw [hk]; rfl
 rw [e1] at hlen ⊢
 obtain ⟨kd, ⟨n1, n2⟩, ⟨m1, m2⟩⟩ := v
 simp only at hk hn hlen ⊢
 subst hk
 have B : Below w.heap.size w (w.alloc (.cells #[.int .i64 (1 : Nat), S n1, .int .i64 n2, .int .i64 m1, .int .i64 m2] 222)) := (Below.refl _ w).alloc (Nat.le_refl _) _
 have b1 : (w.alloc (.cells #[.int .i64 (1 : Nat), S n1, .int .i64 n2, .int .i64 m1, .int .i64 m2] 222)).heap[w.heap.size]? = some (.cells #[.int .i64 (1 : Nat), S n1, .int .i64 n2, .int .i64 m1, .int .i64 m2] 222) := heap_new rfl
 obtain ⟨c1, cf1⟩ := blk_cl b1
 have hA := h.below B
 have hFA : Fw lo wb w _ := Fw.of hlo B
 have zA := B.size
 have HT := wtok1 hA n1 hlen (Nat.le_trans hlo zA)
 have zz : (w.alloc (.cells #[.int .i64 (1 : Nat), S n1, .int .i64 n2, .int .i64 m1, .int .i64 m2] 222)).heap.size = w.heap.size + 1 := by simp
 rw [zz] at HT
 go_enter Tryz.func156, Tryz.ntmps156
 go_wp2_with (go_at_call 71; refine HT.mono ?_; rintro r w2 ⟨rfl, q2, q3⟩)
 exact end0' Tryz.results156 rfl ⟨rfl, hFA.trans q2, q3⟩
end
section
variable {w : World} {lo wb : Nat} {l : List UInt8} {inl : Bool}
theorem wval2 (h : Wt w lo wb l inl) (_ht : Tb lo w) (hlo : lo <= w.heap.size) (v : Vl) (hk : v.kind = 2) (hn : v.num.1 <= 100000) (hlen : (valS (l, inl) v).1.length <= 100000000000) : Calls Tryz.prog 156 #[.pointer (some ⟨wb, 0, none⟩), .agg #[.int .i64 v.kind, S v.name.1, .int .i64 v.name.2, .int .i64 v.num.1, .int .i64 v.num.2]] w (OutWt w lo wb (valS (l, inl) v)) := by
 have e1 : valS (l, inl) v = tksS (l, inl) [[108, 101, 110], v.name.1] := by unfold valS; rw [hk]; rfl
 rw [e1] at hlen ⊢
 obtain ⟨kd, ⟨n1, n2⟩, ⟨m1, m2⟩⟩ := v
 simp only at hk hn hlen ⊢
 subst hk
 have B : Below w.heap.size w (w.alloc (.cells #[.int .i64 (2 : Nat), S n1, .int .i64 n2, .int .i64 m1, .int .i64 m2] 222)) := (Below.refl _ w).alloc (Nat.le_refl _) _
 have b1 : (w.alloc (.cells #[.int .i64 (2 : Nat), S n1, .int .i64 n2, .int .i64 m1, .int .i64 m2] 222)).heap[w.heap.size]? = some (.cells #[.int .i64 (2 : Nat), S n1, .int .i64 n2, .int .i64 m1, .int .i64 m2] 222) := heap_new rfl
 obtain ⟨c1, cf1⟩ := blk_cl b1
 have hA := h.below B
 have hFA : Fw lo wb w _ := Fw.of hlo B
 have zA := B.size
 have HT := wtok2 hA [108, 101, 110] n1 hlen (Nat.le_trans hlo zA)
 have zz : (w.alloc (.cells #[.int .i64 (2 : Nat), S n1, .int .i64 n2, .int .i64 m1, .int .i64 m2] 222)).heap.size = w.heap.size + 1 := by simp
 rw [zz] at HT
 go_enter Tryz.func156, Tryz.ntmps156
 go_wp2_with (go_at_call 71; refine HT.mono ?_; rintro r w2 ⟨rfl, q2, q3⟩)
 exact end0' Tryz.results156 rfl ⟨rfl, hFA.trans q2, q3⟩
end
section
variable {w : World} {lo wb : Nat} {l : List UInt8} {inl : Bool}
theorem wval3 (h : Wt w lo wb l inl) (_ht : Tb lo w) (hlo : lo <= w.heap.size) (v : Vl) (hk : v.kind = 3) (hn : v.num.1 <= 100000) (hlen : (valS (l, inl) v).1.length <= 100000000000) : Calls Tryz.prog 156 #[.pointer (some ⟨wb, 0, none⟩), .agg #[.int .i64 v.kind, S v.name.1, .int .i64 v.name.2, .int .i64 v.num.1, .int .i64 v.num.2]] w (OutWt w lo wb (valS (l, inl) v)) := by
 have e1 : valS (l, inl) v = tkS (l, inl) [102, 114, 101, 113] := by unfold valS; rw [hk]; rfl
 rw [e1] at hlen ⊢
 obtain ⟨kd, ⟨n1, n2⟩, ⟨m1, m2⟩⟩ := v
 simp only at hk hn hlen ⊢
 subst hk
 have B : Below w.heap.size w (w.alloc (.cells #[.int .i64 (3 : Nat), S n1, .int .i64 n2, .int .i64 m1, .int .i64 m2] 222)) := (Below.refl _ w).alloc (Nat.le_refl _) _
 have b1 : (w.alloc (.cells #[.int .i64 (3 : Nat), S n1, .int .i64 n2, .int .i64 m1, .int .i64 m2] 222)).heap[w.heap.size]? = some (.cells #[.int .i64 (3 : Nat), S n1, .int .i64 n2, .int .i64 m1, .int .i64 m2] 222) := heap_new rfl
 obtain ⟨c1, cf1⟩ := blk_cl b1
 have hA := h.below B
 have hFA : Fw lo wb w _ := Fw.of hlo B
 have zA := B.size
 have HT := wtok1 hA [102, 114, 101, 113] hlen (Nat.le_trans hlo zA)
 have zz : (w.alloc (.cells #[.int .i64 (3 : Nat), S n1, .int .i64 n2, .int .i64 m1, .int .i64 m2] 222)).heap.size = w.heap.size + 1 := by simp
 rw [zz] at HT
 go_enter Tryz.func156, Tryz.ntmps156
 go_wp2_with (go_at_call 71; refine HT.mono ?_; rintro r w2 ⟨rfl, q2, q3⟩)
 exact end0' Tryz.results156 rfl ⟨rfl, hFA.trans q2, q3⟩
end
section
variable {w : World} {lo wb : Nat} {l : List UInt8} {inl : Bool}
theorem wval (h : Wt w lo wb l inl) (ht : Tb lo w) (hlo : lo <= w.heap.size) (v : Vl) (hk : v.kind <= 3) (hn : v.num.1 <= 100000) (hlen : (valS (l, inl) v).1.length <= 100000000000) : Calls Tryz.prog 156 #[.pointer (some ⟨wb, 0, none⟩), .agg #[.int .i64 v.kind, S v.name.1, .int .i64 v.name.2, .int .i64 v.num.1, .int .i64 v.num.2]] w (OutWt w lo wb (valS (l, inl) v)) := by
 have : v.kind = 0 \/ v.kind = 1 \/ v.kind = 2 \/ v.kind = 3 := by omega
 rcases this with e | e | e | e
 ·exact wval0 h ht hlo v e hn hlen
 ·exact wval1 h ht hlo v e hn hlen
 ·exact wval2 h ht hlo v e hn hlen
 ·exact wval3 h ht hlo v e hn hlen
end
def conT (s : Ws) (c : Cd) : Ws := let s := if c.neg = true then tkS s [110, 111, 116] else s; if c.word ≠ [60] then tksS s [c.word, c.queue.1] else valS (tkS (valS s c.left) [60]) c.right
theorem Fw.box {lo wb b : Nat} {w w' : World} {c : Array Value} {T : TypeId} (h : Fw lo wb w w') (hb : w.heap[b]? = some (.cells c T)) (hn : b ≠ wb) (hT : T ≠ 5) : w'.heap[b]? = some (.cells c T) := (h.blk b (Array.getElem?_eq_some_iff.1 hb).1 hn (fun c f e => by rw [hb] at e; simp at e; exact hT e.2.1)).trans hb
section
variable {w : World} {lo wb : Nat} {l : List UInt8} {inl : Bool}
theorem wcond00 (h : Wt w lo wb l inl) (ht : Tb lo w) (hlo : lo <= w.heap.size) (wd qn : List UInt8) (qp lk : Nat) (ln : List UInt8) (lp lm lq rk : Nat) (rn : List UInt8) (rp rm rq : Nat) (hwd : wd ≠ [60]) (hlen : (tksS (l, inl) [wd, qn]).1.length <= 100000000000) : Calls Tryz.prog 146 #[.pointer (some ⟨wb, 0, none⟩), .agg #[.bool false, S wd, S qn, .int .i64 qp, .int .i64 lk, S ln, .int .i64 lp, .int .i64 lm, .int .i64 lq, .int .i64 rk, S rn, .int .i64 rp, .int .i64 rm, .int .i64 rq]] w (OutWt w lo wb (tksS (l, inl) [wd, qn])) := by
 have B : Below w.heap.size w (w.alloc (.cells #[.bool false, S wd, S qn, .int .i64 qp, .int .i64 lk, S ln, .int .i64 lp, .int .i64 lm, .int .i64 lq, .int .i64 rk, S rn, .int .i64 rp, .int .i64 rm, .int .i64 rq] 224)) := (Below.refl _ w).alloc (Nat.le_refl _) _
 have b1 : (w.alloc (.cells #[.bool false, S wd, S qn, .int .i64 qp, .int .i64 lk, S ln, .int .i64 lp, .int .i64 lm, .int .i64 lq, .int .i64 rk, S rn, .int .i64 rp, .int .i64 rm, .int .i64 rq] 224)).heap[w.heap.size]? = some (.cells #[.bool false, S wd, S qn, .int .i64 qp, .int .i64 lk, S ln, .int .i64 lp, .int .i64 lm, .int .i64 lq, .int .i64 rk, S rn, .int .i64 rp, .int .i64 rm, .int .i64 rq] 224) := heap_new rfl
 have zz : (w.alloc (.cells #[.bool false, S wd, S qn, .int .i64 qp, .int .i64 lk, S ln, .int .i64 lp, .int .i64 lm, .int .i64 lq, .int .i64 rk, S rn, .int .i64 rp, .int .i64 rm, .int .i64 rq] 224)).heap.size = w.heap.size + 1 := by simp
 obtain ⟨c1, cf1⟩ := blk_cl b1
 have hA := h.below B
 have hFA : Fw lo wb w _ := Fw.of hlo B
 have htA := ht.mv (B.mono hlo)
 have lwb := h.lt
 have hnb : w.heap.size ≠ wb := by omega
 have hbx : Hid (∀ W : World, Fw lo wb (w.alloc (.cells #[.bool false, S wd, S qn, .int .i64 qp, .int .i64 lk, S ln, .int .i64 lp, .int .i64 lm, .int .i64 lq, .int .i64 rk, S rn, .int .i64 rp, .int .i64 rm, .int .i64 rq] 224)) W -> W.heap[w.heap.size]? = some (.cells #[.bool false, S wd, S qn, .int .i64 qp, .int .i64 lk, S ln, .int .i64 lp, .int .i64 lm, .int .i64 lq, .int .i64 rk, S rn, .int .i64 rp, .int .i64 rm, .int .i64 rq] 224)) := fun W hW => hW.box b1 hnb (by decide)
 have hw2 : (wd == [60]) = false := by simpa using hwd
 have HT := wtok2 hA wd qn hlen (by omega)
 rw [zz] at HT
 go_enter Tryz.func146, Tryz.ntmps146
 go_wp2_with (go_at_call 71; refine HT.mono ?_; rintro r w3 ⟨rfl, q2, q3⟩)
 exact bodyPost_ret (v := .tuple #[]) (by simp [results, Tryz.results146, go_sem]) rfl ⟨rfl, hFA.trans q2, q3⟩
end
section
variable {w : World} {lo wb : Nat} {l : List UInt8} {inl : Bool}
theorem wcond10 (h : Wt w lo wb l inl) (ht : Tb lo w) (hlo : lo <= w.heap.size) (wd qn : List UInt8) (qp lk : Nat) (ln : List UInt8) (lp lm lq rk : Nat) (rn : List UInt8) (rp rm rq : Nat) (hwd : wd ≠ [60]) (hlen : (tksS (tkS (l, inl) [110, 111, 116]) [wd, qn]).1.length <= 100000000000) : Calls Tryz.prog 146 #[.pointer (some ⟨wb, 0, none⟩), .agg #[.bool true, S wd, S qn, .int .i64 qp, .int .i64 lk, S ln, .int .i64 lp, .int .i64 lm, .int .i64 lq, .int .i64 rk, S rn, .int .i64 rp, .int .i64 rm, .int .i64 rq]] w (OutWt w lo wb (tksS (tkS (l, inl) [110, 111, 116]) [wd, qn])) := by
 have B : Below w.heap.size w (w.alloc (.cells #[.bool true, S wd, S qn, .int .i64 qp, .int .i64 lk, S ln, .int .i64 lp, .int .i64 lm, .int .i64 lq, .int .i64 rk, S rn, .int .i64 rp, .int .i64 rm, .int .i64 rq] 224)) := (Below.refl _ w).alloc (Nat.le_refl _) _
 have b1 : (w.alloc (.cells #[.bool true, S wd, S qn, .int .i64 qp, .int .i64 lk, S ln, .int .i64 lp, .int .i64 lm, .int .i64 lq, .int .i64 rk, S rn, .int .i64 rp, .int .i64 rm, .int .i64 rq] 224)).heap[w.heap.size]? = some (.cells #[.bool true, S wd, S qn, .int .i64 qp, .int .i64 lk, S ln, .int .i64 lp, .int .i64 lm, .int .i64 lq, .int .i64 rk, S rn, .int .i64 rp, .int .i64 rm, .int .i64 rq] 224) := heap_new rfl
 have zz : (w.alloc (.cells #[.bool true, S wd, S qn, .int .i64 qp, .int .i64 lk, S ln, .int .i64 lp, .int .i64 lm, .int .i64 lq, .int .i64 rk, S rn, .int .i64 rp, .int .i64 rm, .int .i64 rq] 224)).heap.size = w.heap.size + 1 := by simp
 obtain ⟨c1, cf1⟩ := blk_cl b1
 have hA := h.below B
 have hFA : Fw lo wb w _ := Fw.of hlo B
 have htA := ht.mv (B.mono hlo)
 have lwb := h.lt
 have hnb : w.heap.size ≠ wb := by omega
 have hbx : Hid (∀ W : World, Fw lo wb (w.alloc (.cells #[.bool true, S wd, S qn, .int .i64 qp, .int .i64 lk, S ln, .int .i64 lp, .int .i64 lm, .int .i64 lq, .int .i64 rk, S rn, .int .i64 rp, .int .i64 rm, .int .i64 rq] 224)) W -> W.heap[w.heap.size]? = some (.cells #[.bool true, S wd, S qn, .int .i64 qp, .int .i64 lk, S ln, .int .i64 lp, .int .i64 lm, .int .i64 lq, .int .i64 rk, S rn, .int .i64 rp, .int .i64 rm, .int .i64 rq] 224)) := fun W hW => hW.box b1 hnb (by decide)
 have hw2 : (wd == [60]) = false := by simpa using hwd
 have hl0 : (tkS (l, inl) [110, 111, 116]).1.length <= 100000000000 := Nat.le_trans (tksS_le _ _) hlen
 have HT0 := wtok1 hA [110, 111, 116] hl0 (by omega)
 rw [zz] at HT0
 go_enter Tryz.func146, Tryz.ntmps146
 go_wp2_with (go_at_call 71; (fail_if_success (have := p2)); refine HT0.mono ?_; rintro r w2 ⟨rfl, p2, p3⟩; obtain ⟨c2, cf2⟩ := blk_cl (hbx.out _ p2))
 have s2 := p2.bl.size
 refine (wtok2 p3 wd qn hlen (by omega)).mono ?_
 rintro r w3 ⟨rfl, q2, q3⟩
 go_wp2_with fail
 exact bodyPost_ret (v := .tuple #[]) (by simp [results, Tryz.results146, go_sem]) rfl ⟨rfl, (hFA.trans p2).trans q2, q3⟩
end
section
variable {w : World} {lo wb : Nat} {l : List UInt8} {inl : Bool}
theorem wcond01 (h : Wt w lo wb l inl) (ht : Tb lo w) (hlo : lo <= w.heap.size) (qn : List UInt8) (qp lk : Nat) (ln : List UInt8) (lp lm lq rk : Nat) (rn : List UInt8) (rp rm rq : Nat) (hl1 : lk <= 3) (hl2 : lm <= 100000) (hr1 : rk <= 3) (hr2 : rm <= 100000) (hlen : (valS (tkS (valS (l, inl) ⟨lk, (ln, lp), (lm, lq)⟩) [60]) ⟨rk, (rn, rp), (rm, rq)⟩).1.length <= 100000000000) : Calls Tryz.prog 146 #[.pointer (some ⟨wb, 0, none⟩), .agg #[.bool false, S [60], S qn, .int .i64 qp, .int .i64 lk, S ln, .int .i64 lp, .int .i64 lm, .int .i64 lq, .int .i64 rk, S rn, .int .i64 rp, .int .i64 rm, .int .i64 rq]] w (OutWt w lo wb (valS (tkS (valS (l, inl) ⟨lk, (ln, lp), (lm, lq)⟩) [60]) ⟨rk, (rn, rp), (rm, rq)⟩)) := by
 have B : Below w.heap.size w (w.alloc (.cells #[.bool false, S [60], S qn, .int .i64 qp, .int .i64 lk, S ln, .int .i64 lp, .int .i64 lm, .int .i64 lq, .int .i64 rk, S rn, .int .i64 rp, .int .i64 rm, .int .i64 rq] 224)) := (Below.refl _ w).alloc (Nat.le_refl _) _
 have b1 : (w.alloc (.cells #[.bool false, S [60], S qn, .int .i64 qp, .int .i64 lk, S ln, .int .i64 lp, .int .i64 lm, .int .i64 lq, .int .i64 rk, S rn, .int .i64 rp, .int .i64 rm, .int .i64 rq] 224)).heap[w.heap.size]? = some (.cells #[.bool false, S [60], S qn, .int .i64 qp, .int .i64 lk, S ln, .int .i64 lp, .int .i64 lm, .int .i64 lq, .int .i64 rk, S rn, .int .i64 rp, .int .i64 rm, .int .i64 rq] 224) := heap_new rfl
 have zz : (w.alloc (.cells #[.bool false, S [60], S qn, .int .i64 qp, .int .i64 lk, S ln, .int .i64 lp, .int .i64 lm, .int .i64 lq, .int .i64 rk, S rn, .int .i64 rp, .int .i64 rm, .int .i64 rq] 224)).heap.size = w.heap.size + 1 := by simp
 obtain ⟨c1, cf1⟩ := blk_cl b1
 have hA := h.below B
 have hFA : Fw lo wb w _ := Fw.of hlo B
 have htA := ht.mv (B.mono hlo)
 have lwb := h.lt
 have hnb : w.heap.size ≠ wb := by omega
 have hbx : Hid (∀ W : World, Fw lo wb (w.alloc (.cells #[.bool false, S [60], S qn, .int .i64 qp, .int .i64 lk, S ln, .int .i64 lp, .int .i64 lm, .int .i64 lq, .int .i64 rk, S rn, .int .i64 rp, .int .i64 rm, .int .i64 rq] 224)) W -> W.heap[w.heap.size]? = some (.cells #[.bool false, S [60], S qn, .int .i64 qp, .int .i64 lk, S ln, .int .i64 lp, .int .i64 lm, .int .i64 lq, .int .i64 rk, S rn, .int .i64 rp, .int .i64 rm, .int .i64 rq] 224)) := fun W hW => hW.box b1 hnb (by decide)
 have hl1' : (valS (l, inl) ⟨lk, (ln, lp), (lm, lq)⟩).1.length <= 100000000000 := Nat.le_trans (Nat.le_trans (tkS_le _ _) (valS_le _ _)) hlen
 have hl2' : (tkS (valS (l, inl) ⟨lk, (ln, lp), (lm, lq)⟩) [60]).1.length <= 100000000000 := Nat.le_trans (valS_le _ _) hlen
 have HV := wval hA htA (by omega) ⟨lk, (ln, lp), (lm, lq)⟩ hl1 hl2 hl1'
 go_enter Tryz.func146, Tryz.ntmps146
 go_wp2_with (go_at_call 156; refine HV.mono ?_; rintro r w3 ⟨rfl, q2, q3⟩; obtain ⟨c2, cf2⟩ := blk_cl (hbx.out _ q2))
 have F3 := q2
 have s3 := F3.bl.size
 obtain ⟨c3, cf3⟩ := blk_cl (hbx.out w3 F3)
 refine (wtok1 q3 [60] hl2' (by omega)).mono ?_
 rintro r w4 ⟨rfl, u2, u3⟩
 have F4 := F3.trans u2
 have s4 := F4.bl.size
 obtain ⟨c4, cf4⟩ := blk_cl (hbx.out w4 F4)
 go_wp2_with fail
 refine (wval u3 (htA.fw F4) (by omega) ⟨rk, (rn, rp), (rm, rq)⟩ hr1 hr2 hlen).mono ?_
 rintro r w5 ⟨rfl, v2, v3⟩
 go_wp2_with fail
 exact end0' Tryz.results146 rfl ⟨rfl, (hFA.trans F4).trans v2, v3⟩
end
section
variable {w : World} {lo wb : Nat} {l : List UInt8} {inl : Bool}
theorem wcond11 (h : Wt w lo wb l inl) (ht : Tb lo w) (hlo : lo <= w.heap.size) (qn : List UInt8) (qp lk : Nat) (ln : List UInt8) (lp lm lq rk : Nat) (rn : List UInt8) (rp rm rq : Nat) (hl1 : lk <= 3) (hl2 : lm <= 100000) (hr1 : rk <= 3) (hr2 : rm <= 100000) (hlen : (valS (tkS (valS (tkS (l, inl) [110, 111, 116]) ⟨lk, (ln, lp), (lm, lq)⟩) [60]) ⟨rk, (rn, rp), (rm, rq)⟩).1.length <= 100000000000) : Calls Tryz.prog 146 #[.pointer (some ⟨wb, 0, none⟩), .agg #[.bool true, S [60], S qn, .int .i64 qp, .int .i64 lk, S ln, .int .i64 lp, .int .i64 lm, .int .i64 lq, .int .i64 rk, S rn, .int .i64 rp, .int .i64 rm, .int .i64 rq]] w (OutWt w lo wb (valS (tkS (valS (tkS (l, inl) [110, 111, 116]) ⟨lk, (ln, lp), (lm, lq)⟩) [60]) ⟨rk, (rn, rp), (rm, rq)⟩)) := by
 have B : Below w.heap.size w (w.alloc (.cells #[.bool true, S [60], S qn, .int .i64 qp, .int .i64 lk, S ln, .int .i64 lp, .int .i64 lm, .int .i64 lq, .int .i64 rk, S rn, .int .i64 rp, .int .i64 rm, .int .i64 rq] 224)) := (Below.refl _ w).alloc (Nat.le_refl _) _
 have b1 : (w.alloc (.cells #[.bool true, S [60], S qn, .int .i64 qp, .int .i64 lk, S ln, .int .i64 lp, .int .i64 lm, .int .i64 lq, .int .i64 rk, S rn, .int .i64 rp, .int .i64 rm, .int .i64 rq] 224)).heap[w.heap.size]? = some (.cells #[.bool true, S [60], S qn, .int .i64 qp, .int .i64 lk, S ln, .int .i64 lp, .int .i64 lm, .int .i64 lq, .int .i64 rk, S rn, .int .i64 rp, .int .i64 rm, .int .i64 rq] 224) := heap_new rfl
 have zz : (w.alloc (.cells #[.bool true, S [60], S qn, .int .i64 qp, .int .i64 lk, S ln, .int .i64 lp, .int .i64 lm, .int .i64 lq, .int .i64 rk, S rn, .int .i64 rp, .int .i64 rm, .int .i64 rq] 224)).heap.size = w.heap.size + 1 := by simp
 obtain ⟨c1, cf1⟩ := blk_cl b1
 have hA := h.below B
 have hFA : Fw lo wb w _ := Fw.of hlo B
 have htA := ht.mv (B.mono hlo)
 have lwb := h.lt
 have hnb : w.heap.size ≠ wb := by omega
 have hbx : Hid (∀ W : World, Fw lo wb (w.alloc (.cells #[.bool true, S [60], S qn, .int .i64 qp, .int .i64 lk, S ln, .int .i64 lp, .int .i64 lm, .int .i64 lq, .int .i64 rk, S rn, .int .i64 rp, .int .i64 rm, .int .i64 rq] 224)) W -> W.heap[w.heap.size]? = some (.cells #[.bool true, S [60], S qn, .int .i64 qp, .int .i64 lk, S ln, .int .i64 lp, .int .i64 lm, .int .i64 lq, .int .i64 rk, S rn, .int .i64 rp, .int .i64 rm, .int .i64 rq] 224)) := fun W hW => hW.box b1 hnb (by decide)
 have hl0 : (tkS (l, inl) [110, 111, 116]).1.length <= 100000000000 := Nat.le_trans (Nat.le_trans (valS_le _ _) (Nat.le_trans (tkS_le _ _) (valS_le _ _))) hlen
 have HT0 := wtok1 hA [110, 111, 116] hl0 (by omega)
 rw [zz] at HT0
 have hl1' : (valS (tkS (l, inl) [110, 111, 116]) ⟨lk, (ln, lp), (lm, lq)⟩).1.length <= 100000000000 := Nat.le_trans (Nat.le_trans (tkS_le _ _) (valS_le _ _)) hlen
 have hl2' : (tkS (valS (tkS (l, inl) [110, 111, 116]) ⟨lk, (ln, lp), (lm, lq)⟩) [60]).1.length <= 100000000000 := Nat.le_trans (valS_le _ _) hlen
 go_enter Tryz.func146, Tryz.ntmps146
 go_wp2_with (go_at_call 71; (fail_if_success (have := p2)); refine HT0.mono ?_; rintro r w2 ⟨rfl, p2, p3⟩; obtain ⟨c2, cf2⟩ := blk_cl (hbx.out _ p2))
 have s2 := p2.bl.size
 refine (wval p3 (htA.fw p2) (by omega) ⟨lk, (ln, lp), (lm, lq)⟩ hl1 hl2 hl1').mono ?_
 rintro r w3 ⟨rfl, q2, q3⟩
 have F3 := p2.trans q2
 have s3 := F3.bl.size
 obtain ⟨c3, cf3⟩ := blk_cl (hbx.out w3 F3)
 go_wp2_with fail
 refine (wtok1 q3 [60] hl2' (by omega)).mono ?_
 rintro r w4 ⟨rfl, u2, u3⟩
 have F4 := F3.trans u2
 have s4 := F4.bl.size
 obtain ⟨c4, cf4⟩ := blk_cl (hbx.out w4 F4)
 go_wp2_with fail
 refine (wval u3 (htA.fw F4) (by omega) ⟨rk, (rn, rp), (rm, rq)⟩ hr1 hr2 hlen).mono ?_
 rintro r w5 ⟨rfl, v2, v3⟩
 go_wp2_with fail
 exact end0' Tryz.results146 rfl ⟨rfl, (hFA.trans F4).trans v2, v3⟩
end
theorem conT_le (s : Ws) (c : Cd) : s.1.length <= (conT s c).1.length := by
 unfold conT
 have h1 : s.1.length <= (if c.neg = true then tkS s [110, 111, 116] else s).1.length := by
  split
  ·exact tkS_le _ _
  ·exact Nat.le_refl _
 simp only
 split
 ·exact Nat.le_trans h1 (tksS_le _ _)
 ·exact Nat.le_trans h1 (Nat.le_trans (valS_le _ _) (Nat.le_trans (tkS_le _ _) (valS_le _ _)))
def okW (c : Cd) : Prop := c.word = [60] -> (c.left.kind <= 3 /\ c.left.num.1 <= 100000) /\ c.right.kind <= 3 /\ c.right.num.1 <= 100000
def plnN (s : Ws) (t : List UInt8) : Ws := if t ≠ [] then tkS s t else s
def plnS (s : Ws) (x : St) : Ws := tkS (if x.tail = true then tkS (plnN (plnN s x.name.1) (St.to x).1) [116, 97, 105, 108] else plnN (plnN s x.name.1) (St.to x).1) [59]
theorem plnN_le (s : Ws) (t : List UInt8) : s.1.length <= (plnN s t).1.length := by
 unfold plnN
 split
 ·exact tkS_le _ _
 ·exact Nat.le_refl _
theorem plnS_le2 (s : Ws) (x : St) : (plnN (plnN s x.name.1) (St.to x).1).1.length <= (plnS s x).1.length := by
 unfold plnS
 split
 ·exact Nat.le_trans (tkS_le _ _) (tkS_le _ _)
 ·exact tkS_le _ _
theorem plnS_le (s : Ws) (x : St) : s.1.length <= (plnS s x).1.length := Nat.le_trans (Nat.le_trans (plnN_le _ _) (plnN_le _ _)) (plnS_le2 s x)
section
variable {w : World} {lo wb : Nat} {l : List UInt8} {inl : Bool}
theorem wcond (h : Wt w lo wb l inl) (ht : Tb lo w) (hlo : lo <= w.heap.size) (c : Cd) (hc : okW c) (hlen : (conT (l, inl) c).1.length <= 100000000000) : Calls Tryz.prog 146 #[.pointer (some ⟨wb, 0, none⟩), .agg (cdA c)] w (OutWt w lo wb (conT (l, inl) c)) := by
 obtain ⟨neg, wd, ⟨qn, qp⟩, ⟨lk, ⟨ln, lp⟩, ⟨lm, lq⟩⟩, ⟨rk, ⟨rn, rp⟩, ⟨rm, rq⟩⟩⟩ := c
 unfold okW at hc
 unfold conT at hlen ⊢
 simp only at hc hlen ⊢
 by_cases e : wd = [60]
 ·subst e
  have hc := hc rfl
  cases neg with
  | true => exact wcond11 h ht hlo qn qp lk ln lp lm lq rk rn rp rm rq hc.1.1 hc.1.2 hc.2.1 hc.2.2 hlen
  | false => exact wcond01 h ht hlo qn qp lk ln lp lm lq rk rn rp rm rq hc.1.1 hc.1.2 hc.2.1 hc.2.2 hlen
 ·rw [if_pos e] at hlen ⊢
  cases neg with
  | true => exact wcond10 h ht hlo wd qn qp lk ln lp lm lq rk rn rp rm rq e hlen
  | false => exact wcond00 h ht hlo wd qn qp lk ln lp lm lq rk rn rp rm rq e hlen
theorem ix_nm (g o n cap k : Nat) (hk : k < n) : ∀ W : World, (Instr.indexAt 258 (.slice (some ⟨g, o, none⟩) n cap) (.int .i64 k)).run Tryz.prog W = .ok (.pointer (some ⟨g, o + k * 2, none⟩)) W := by
 intro W
 rw [run_indexAt_slice (h := by kernel_rfl), if_pos (by omega)]
 have : (sizeOf (Tryz.prog.elem 258)).run Tryz.prog W = .ok 2 W := by kernel_rfl
 rw [this]
 simp [Result.andThen, Addr.add]
end
end Go.Proofs.YtfddoieakfpagabGreatDoor
