import Derived.Test.YtippenbbibfmdabDoorW6
namespace Go.Proofs.YtippenbbibfmdabDoor
open Go.RowKit
theorem At.setRow {w : World} {b : Nat} {l : List UInt8} {t : Tok} {bl lo : Nat} (h : At w b l t bl lo) (g : Nat) (cs : Array Value) (hp : b ≠ g) : At (w.setRow g cs) b l t bl lo := by
  unfold At at *
  rw [setRow_other _ _ _ _ hp]; exact h
theorem But.setRow {b : Nat} {a w : World} (h : But b a w) {g : Nat} (hp : a.heap.size ≤ g) (cs : Array Value) : But b a (w.setRow g cs) :=
  ⟨h.os, h.tape, h.output, by have := h.size; simpa [World.setRow] using this, fun k hk hn => by
    rw [setRow_other _ _ _ _ (by omega)]; exact h.block k hk hn⟩
theorem RB.setRow {w0 w : World} {b : Nat} {l : List UInt8} {t : Tok} {bl lo : Nat} {X Y : Value} (h : RB w0 w b l t bl lo X Y) {g : Nat} (hn : w0.heap.size ≤ g) (cs : Array Value) : RB w0 (w.setRow g cs) b l t bl lo X Y := by
  have hz := h.z
  refine ⟨⟨h.r.rd.setRow _ _ (by omega), ?_, ?_, h.r.nsyn, h.r.ndeep, h.r.len, h.r.tk⟩, h.k.setRow hn cs, h.z⟩
  · exact (World.cell?_of_block (w := w) (setRow_other w g _ cs (by show 10 ≠ g; omega))).trans h.r.syn
  · exact (World.cell?_of_block (w := w) (setRow_other w g _ cs (by show 1 ≠ g; omega))).trans h.r.deep

theorem res_cell {P : Program} {fn : Func} {p : Tmp} {ty : TypeId} (h : fn.results = #[.cell p ty]) (tmps : Array Value) (w : World) (g : Nat) (cs : Array Value) (t : TypeId) (d : TypeDesc)
    (hp : tmps.getD p undef = .pointer (some ⟨g, 0, none⟩)) (hg : w.heap[g]? = some (.cells cs t)) (hu : P.underlying ty = some d) (hd : (match d with | .struct _ | .array _ _ => true | _ => false) = true) (hi : (P.info? ty).map (·.size) = some cs.size) :
    (results fn tmps).run P w = .ok (.agg cs) w := by
  have hl := run_loadVar_row (P := P) w g t ty cs (0, 0) d hg hu (by cases d <;> simp_all) hi
  have hp2 : tmps[p]?.getD undef = .pointer (some ⟨g, 0, none⟩) := by simpa using hp
  simp only [results, h]
  simp [hp2, asAddr, hl]

theorem bodyPost_cell {P : Program} {fn : Func} {R : Ending → World → Prop} {a : Act} {w : World} {p : Tmp} {ty : TypeId} (h : fn.results = #[.cell p ty]) (g : Nat) (cs : Array Value) (t : TypeId) (d : TypeDesc)
    (hp : a.tmps.getD p undef = .pointer (some ⟨g, 0, none⟩)) (hde : a.defers = []) (hg : w.heap[g]? = some (.cells cs t)) (hu : P.underlying ty = some d) (hd : (match d with | .struct _ | .array _ _ => true | _ => false) = true) (hi : (P.info? ty).map (·.size) = some cs.size)
    (hR : R (.returned (.agg cs)) w) : bodyPost P fn R .ret a w :=
  ⟨hde, _, res_cell h a.tmps w g cs t d hp hg hu (by cases d <;> simp_all) hi, hR⟩

def setAll (n : Nat) : List Value → Nat → World → World
  | [], _, w => w
  | v :: vs, i, w => setAll n vs (i + 1) (w.setCell ⟨n, i, none⟩ v)

theorem setAll_heap (n : Nat) (T : TypeId) : ∀ (vs : List Value) (w : World) (i : Nat) (c : Array Value), w.heap[n]? = some (.cells c T) → c.size = i + vs.length →
    (setAll n vs i w).heap[n]? = some (.cells (c.toList.take i ++ vs).toArray T)
  | [], w, i, c, h, hc => by
    simp only [setAll, List.append_nil]
    rw [List.take_of_length_le (by simp at hc; simp; omega)]
    simpa using h
  | v :: vs, w, i, c, h, hc => by
    have h2 := heap_setCell_same w n i v c T h
    have := setAll_heap n T vs (w.setCell ⟨n, i, none⟩ v) (i + 1) (c.setIfInBounds i v) h2 (by simp at hc ⊢; omega)
    simp only [setAll]
    rw [this]
    simp only [Array.toList_setIfInBounds]
    congr 3
    rw [List.take_add_one, List.take_set_of_le (Nat.le_refl _)]
    simp at hc
    simp [show i < c.size by omega]
theorem set5 (w : World) (n : Nat) (c : Array Value) (T : TypeId) (v0 v1 v2 v3 v4 : Value) (h : w.heap[n]? = some (.cells c T)) (hc : c.size = 5) :
    (((((w.setCell ⟨n, 0, none⟩ v0).setCell ⟨n, 1, none⟩ v1).setCell ⟨n, 2, none⟩ v2).setCell ⟨n, 3, none⟩ v3).setCell ⟨n, 4, none⟩ v4).heap[n]? = some (.cells #[v0, v1, v2, v3, v4] T) := by
  have := setAll_heap n T [v0, v1, v2, v3, v4] w 0 c h hc
  simpa only [setAll, List.take_zero, List.nil_append, Nat.zero_add, Nat.reduceAdd] using this
theorem set14 (w : World) (n : Nat) (c : Array Value) (T : TypeId) (v0 v1 v2 v3 v4 v5 v6 v7 v8 v9 v10 v11 v12 v13 : Value) (h : w.heap[n]? = some (.cells c T)) (hc : c.size = 14) :
    ((((((((((((((w.setCell ⟨n, 0, none⟩ v0).setCell ⟨n, 1, none⟩ v1).setCell ⟨n, 2, none⟩ v2).setCell ⟨n, 3, none⟩ v3).setCell ⟨n, 4, none⟩ v4).setCell ⟨n, 5, none⟩ v5).setCell ⟨n, 6, none⟩ v6).setCell ⟨n, 7, none⟩ v7).setCell ⟨n, 8, none⟩ v8).setCell ⟨n, 9, none⟩ v9).setCell ⟨n, 10, none⟩ v10).setCell ⟨n, 11, none⟩ v11).setCell ⟨n, 12, none⟩ v12).setCell ⟨n, 13, none⟩ v13).heap[n]? = some (.cells #[v0, v1, v2, v3, v4, v5, v6, v7, v8, v9, v10, v11, v12, v13] T) := by
  have := setAll_heap n T [v0, v1, v2, v3, v4, v5, v6, v7, v8, v9, v10, v11, v12, v13] w 0 c h hc
  simpa only [setAll, List.take_zero, List.nil_append, Nat.zero_add, Nat.reduceAdd] using this
theorem set25 (w : World) (n : Nat) (c : Array Value) (T : TypeId) (v0 v1 v2 v3 v4 v5 v6 v7 v8 v9 v10 v11 v12 v13 v14 v15 v16 v17 v18 v19 v20 v21 v22 v23 v24 : Value) (h : w.heap[n]? = some (.cells c T)) (hc : c.size = 25) :
    (((((((((((((((((((((((((w.setCell ⟨n, 0, none⟩ v0).setCell ⟨n, 1, none⟩ v1).setCell ⟨n, 2, none⟩ v2).setCell ⟨n, 3, none⟩ v3).setCell ⟨n, 4, none⟩ v4).setCell ⟨n, 5, none⟩ v5).setCell ⟨n, 6, none⟩ v6).setCell ⟨n, 7, none⟩ v7).setCell ⟨n, 8, none⟩ v8).setCell ⟨n, 9, none⟩ v9).setCell ⟨n, 10, none⟩ v10).setCell ⟨n, 11, none⟩ v11).setCell ⟨n, 12, none⟩ v12).setCell ⟨n, 13, none⟩ v13).setCell ⟨n, 14, none⟩ v14).setCell ⟨n, 15, none⟩ v15).setCell ⟨n, 16, none⟩ v16).setCell ⟨n, 17, none⟩ v17).setCell ⟨n, 18, none⟩ v18).setCell ⟨n, 19, none⟩ v19).setCell ⟨n, 20, none⟩ v20).setCell ⟨n, 21, none⟩ v21).setCell ⟨n, 22, none⟩ v22).setCell ⟨n, 23, none⟩ v23).setCell ⟨n, 24, none⟩ v24).heap[n]? = some (.cells #[v0, v1, v2, v3, v4, v5, v6, v7, v8, v9, v10, v11, v12, v13, v14, v15, v16, v17, v18, v19, v20, v21, v22, v23, v24] T) := by
  have := setAll_heap n T [v0, v1, v2, v3, v4, v5, v6, v7, v8, v9, v10, v11, v12, v13, v14, v15, v16, v17, v18, v19, v20, v21, v22, v23, v24] w 0 c h hc
  simpa only [setAll, List.take_zero, List.nil_append, Nat.zero_add, Nat.reduceAdd] using this
end Go.Proofs.YtippenbbibfmdabDoor
