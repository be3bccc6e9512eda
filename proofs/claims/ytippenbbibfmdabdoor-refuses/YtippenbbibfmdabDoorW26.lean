import Derived.Test.YtippenbbibfmdabDoorW25
namespace Go.Proofs.YtippenbbibfmdabDoor
open Go.RowKit

def Ck.stmt {β : Type} (blk : Ck → β → Ck) (s : Ck) (r : St × β × β) : Ck :=
  if r.1.word = [112, 117, 116] ∨ r.1.word = [101, 118, 105, 99, 116] ∨ r.1.word = [99, 111, 111, 108] then s.use r.1.name 0
  else if r.1.word = [115, 104, 105, 102, 116] then (s.use r.1.name 0).use r.1.to 0
  else if r.1.word = [105, 110, 99] ∨ r.1.word = [100, 101, 99] then s.use r.1.name 1
  else if r.1.word = [105, 102] then blk (blk (s.cond r.1.cond) r.2.1) r.2.2
  else if r.1.word = [114, 101, 112, 101, 97, 116] then blk ((s.bound r.1.times.1 r.1.times.2 50).cond r.1.cond) r.2.1
  else s

def Ck.block : (d : Nat) → Ck → BT d → Ck
  | 0, s, _ => s
  | d + 1, s, xs => List.foldl (fun s r => s.stmt (Ck.block d) r) s xs

def St.small (x : St) : Prop := x.name.1.length ≤ 700 ∧ x.to.1.length ≤ 700 ∧ x.cond.small

def smallL {β : Type} (P : β → Prop) : List (St × β × β) → Prop
  | [] => True
  | r :: rs => r.1.small ∧ P r.2.1 ∧ P r.2.2 ∧ smallL P rs

def smallB : (d : Nat) → BT d → Prop
  | 0, _ => True
  | d + 1, xs => smallL (smallB d) xs

/-- What is to be shown of block at depth d. -/
def CBlk (d : Nat) : Prop := ∀ (w : World) (lo c nb rb : Nat) (E : Nat → Value) (s : Ck) (v : Value) (x : BT d), CkAt w lo c nb rb E s → SlR d w (fun g => g < lo) v x → smallB d x →
  Calls Tryd.prog 42 #[ptr c, v] w fun e w' => OutC w lo c nb rb E (s.block d x) e w'

theorem SlR.kp {d : Nat} {w w' : World} {c nb rb lo : Nat} (hb : Kp c nb rb w w') (h1 : lo ≤ c) (h2 : lo ≤ nb) (h3 : lo ≤ rb) {v : Value} {x : BT d} (h : SlR d w (fun g => g < lo) v x) : SlR d w' (fun g => g < lo) v x :=
  SlR.move d (fun g hg hl => hb.block g hl (by omega) (by omega) (by omega)) v x h

set_option maxRecDepth 20000 in
set_option maxHeartbeats 1000000 in
theorem cstmt_put {d : Nat} (_HB : CBlk d) {w : World} {lo c nb rb : Nat} {E : Nat → Value} {s : Ck} (h : CkAt w lo c nb rb E s) (x : St) (y z : Value) (ty tz : BT d) (hy : SlR d w (fun g => g < lo) y ty) (hz : SlR d w (fun g => g < lo) z tz) (hx : x.small) (_hsy : smallB d ty) (_hsz : smallB d tz) (hw : x.word = [112, 117, 116]) :
    Calls Tryd.prog 54 #[ptr c, .agg (stA x y z)] w fun e w' => OutC w lo c nb rb E (s.stmt (Ck.block d) (x, ty, tz)) e w' := by
  have h1 := h.box (.cells (stA x y z) 136)
  have B1 : Kp c nb rb w (w.alloc (.cells (stA x y z) 136)) := (Kp.refl c nb rb w).alloc _
  have hin := h.in
  have hlow := h.low
  obtain ⟨y1, y2, y3, rfl⟩ := SlR.form d _ _ hy
  obtain ⟨z1, z2, z3, rfl⟩ := SlR.form d _ _ hz
  have e1 : s.stmt (Ck.block d) (x, ty, tz) = s.use x.name 0 := by simp [Ck.stmt, hw]
  rw [e1]
  clear e1
  have a_put : (x.word == [112, 117, 116]) = true := by rw [hw]; rfl
  have a_evict : (x.word == [101, 118, 105, 99, 116]) = false := by rw [hw]; rfl
  have a_cool : (x.word == [99, 111, 111, 108]) = false := by rw [hw]; rfl
  have a_shift : (x.word == [115, 104, 105, 102, 116]) = false := by rw [hw]; rfl
  have a_inc : (x.word == [105, 110, 99]) = false := by rw [hw]; rfl
  have a_dec : (x.word == [100, 101, 99]) = false := by rw [hw]; rfl
  have a_if : (x.word == [105, 102]) = false := by rw [hw]; rfl
  have a_repeat : (x.word == [114, 101, 112, 101, 97, 116]) = false := by rw [hw]; rfl
  clear hw
  go_enter Tryd.func54, Tryd.ntmps54
  go_wp2_with fail
  refine (cuse_any h1 x.name 0 hx.1).mono ?_
  rintro e w2 ⟨rfl, h2, K2⟩
  go_wp2_with fail
  exact end0 rfl rfl ⟨rfl, h2, B1.trans K2⟩

set_option maxRecDepth 20000 in
set_option maxHeartbeats 1000000 in
theorem cstmt_evict {d : Nat} (_HB : CBlk d) {w : World} {lo c nb rb : Nat} {E : Nat → Value} {s : Ck} (h : CkAt w lo c nb rb E s) (x : St) (y z : Value) (ty tz : BT d) (hy : SlR d w (fun g => g < lo) y ty) (hz : SlR d w (fun g => g < lo) z tz) (hx : x.small) (_hsy : smallB d ty) (_hsz : smallB d tz) (hw : x.word = [101, 118, 105, 99, 116]) :
    Calls Tryd.prog 54 #[ptr c, .agg (stA x y z)] w fun e w' => OutC w lo c nb rb E (s.stmt (Ck.block d) (x, ty, tz)) e w' := by
  have h1 := h.box (.cells (stA x y z) 136)
  have B1 : Kp c nb rb w (w.alloc (.cells (stA x y z) 136)) := (Kp.refl c nb rb w).alloc _
  have hin := h.in
  have hlow := h.low
  obtain ⟨y1, y2, y3, rfl⟩ := SlR.form d _ _ hy
  obtain ⟨z1, z2, z3, rfl⟩ := SlR.form d _ _ hz
  have e1 : s.stmt (Ck.block d) (x, ty, tz) = s.use x.name 0 := by simp [Ck.stmt, hw]
  rw [e1]
  clear e1
  have a_put : (x.word == [112, 117, 116]) = false := by rw [hw]; rfl
  have a_evict : (x.word == [101, 118, 105, 99, 116]) = true := by rw [hw]; rfl
  have a_cool : (x.word == [99, 111, 111, 108]) = false := by rw [hw]; rfl
  have a_shift : (x.word == [115, 104, 105, 102, 116]) = false := by rw [hw]; rfl
  have a_inc : (x.word == [105, 110, 99]) = false := by rw [hw]; rfl
  have a_dec : (x.word == [100, 101, 99]) = false := by rw [hw]; rfl
  have a_if : (x.word == [105, 102]) = false := by rw [hw]; rfl
  have a_repeat : (x.word == [114, 101, 112, 101, 97, 116]) = false := by rw [hw]; rfl
  clear hw
  go_enter Tryd.func54, Tryd.ntmps54
  go_wp2_with fail
  refine (cuse_any h1 x.name 0 hx.1).mono ?_
  rintro e w2 ⟨rfl, h2, K2⟩
  go_wp2_with fail
  exact end0 rfl rfl ⟨rfl, h2, B1.trans K2⟩

set_option maxRecDepth 20000 in
set_option maxHeartbeats 1000000 in
theorem cstmt_cool {d : Nat} (_HB : CBlk d) {w : World} {lo c nb rb : Nat} {E : Nat → Value} {s : Ck} (h : CkAt w lo c nb rb E s) (x : St) (y z : Value) (ty tz : BT d) (hy : SlR d w (fun g => g < lo) y ty) (hz : SlR d w (fun g => g < lo) z tz) (hx : x.small) (_hsy : smallB d ty) (_hsz : smallB d tz) (hw : x.word = [99, 111, 111, 108]) :
    Calls Tryd.prog 54 #[ptr c, .agg (stA x y z)] w fun e w' => OutC w lo c nb rb E (s.stmt (Ck.block d) (x, ty, tz)) e w' := by
  have h1 := h.box (.cells (stA x y z) 136)
  have B1 : Kp c nb rb w (w.alloc (.cells (stA x y z) 136)) := (Kp.refl c nb rb w).alloc _
  have hin := h.in
  have hlow := h.low
  obtain ⟨y1, y2, y3, rfl⟩ := SlR.form d _ _ hy
  obtain ⟨z1, z2, z3, rfl⟩ := SlR.form d _ _ hz
  have e1 : s.stmt (Ck.block d) (x, ty, tz) = s.use x.name 0 := by simp [Ck.stmt, hw]
  rw [e1]
  clear e1
  have a_put : (x.word == [112, 117, 116]) = false := by rw [hw]; rfl
  have a_evict : (x.word == [101, 118, 105, 99, 116]) = false := by rw [hw]; rfl
  have a_cool : (x.word == [99, 111, 111, 108]) = true := by rw [hw]; rfl
  have a_shift : (x.word == [115, 104, 105, 102, 116]) = false := by rw [hw]; rfl
  have a_inc : (x.word == [105, 110, 99]) = false := by rw [hw]; rfl
  have a_dec : (x.word == [100, 101, 99]) = false := by rw [hw]; rfl
  have a_if : (x.word == [105, 102]) = false := by rw [hw]; rfl
  have a_repeat : (x.word == [114, 101, 112, 101, 97, 116]) = false := by rw [hw]; rfl
  clear hw
  go_enter Tryd.func54, Tryd.ntmps54
  go_wp2_with fail
  refine (cuse_any h1 x.name 0 hx.1).mono ?_
  rintro e w2 ⟨rfl, h2, K2⟩
  go_wp2_with fail
  exact end0 rfl rfl ⟨rfl, h2, B1.trans K2⟩

set_option maxRecDepth 20000 in
set_option maxHeartbeats 1000000 in
theorem cstmt_inc {d : Nat} (_HB : CBlk d) {w : World} {lo c nb rb : Nat} {E : Nat → Value} {s : Ck} (h : CkAt w lo c nb rb E s) (x : St) (y z : Value) (ty tz : BT d) (hy : SlR d w (fun g => g < lo) y ty) (hz : SlR d w (fun g => g < lo) z tz) (hx : x.small) (_hsy : smallB d ty) (_hsz : smallB d tz) (hw : x.word = [105, 110, 99]) :
    Calls Tryd.prog 54 #[ptr c, .agg (stA x y z)] w fun e w' => OutC w lo c nb rb E (s.stmt (Ck.block d) (x, ty, tz)) e w' := by
  have h1 := h.box (.cells (stA x y z) 136)
  have B1 : Kp c nb rb w (w.alloc (.cells (stA x y z) 136)) := (Kp.refl c nb rb w).alloc _
  have hin := h.in
  have hlow := h.low
  obtain ⟨y1, y2, y3, rfl⟩ := SlR.form d _ _ hy
  obtain ⟨z1, z2, z3, rfl⟩ := SlR.form d _ _ hz
  have e1 : s.stmt (Ck.block d) (x, ty, tz) = s.use x.name 1 := by simp [Ck.stmt, hw]
  rw [e1]
  clear e1
  have a_put : (x.word == [112, 117, 116]) = false := by rw [hw]; rfl
  have a_evict : (x.word == [101, 118, 105, 99, 116]) = false := by rw [hw]; rfl
  have a_cool : (x.word == [99, 111, 111, 108]) = false := by rw [hw]; rfl
  have a_shift : (x.word == [115, 104, 105, 102, 116]) = false := by rw [hw]; rfl
  have a_inc : (x.word == [105, 110, 99]) = true := by rw [hw]; rfl
  have a_dec : (x.word == [100, 101, 99]) = false := by rw [hw]; rfl
  have a_if : (x.word == [105, 102]) = false := by rw [hw]; rfl
  have a_repeat : (x.word == [114, 101, 112, 101, 97, 116]) = false := by rw [hw]; rfl
  clear hw
  go_enter Tryd.func54, Tryd.ntmps54
  go_wp2_with fail
  refine (cuse_any h1 x.name 1 hx.1).mono ?_
  rintro e w2 ⟨rfl, h2, K2⟩
  go_wp2_with fail
  exact end0 rfl rfl ⟨rfl, h2, B1.trans K2⟩

set_option maxRecDepth 20000 in
set_option maxHeartbeats 1000000 in
theorem cstmt_dec {d : Nat} (_HB : CBlk d) {w : World} {lo c nb rb : Nat} {E : Nat → Value} {s : Ck} (h : CkAt w lo c nb rb E s) (x : St) (y z : Value) (ty tz : BT d) (hy : SlR d w (fun g => g < lo) y ty) (hz : SlR d w (fun g => g < lo) z tz) (hx : x.small) (_hsy : smallB d ty) (_hsz : smallB d tz) (hw : x.word = [100, 101, 99]) :
    Calls Tryd.prog 54 #[ptr c, .agg (stA x y z)] w fun e w' => OutC w lo c nb rb E (s.stmt (Ck.block d) (x, ty, tz)) e w' := by
  have h1 := h.box (.cells (stA x y z) 136)
  have B1 : Kp c nb rb w (w.alloc (.cells (stA x y z) 136)) := (Kp.refl c nb rb w).alloc _
  have hin := h.in
  have hlow := h.low
  obtain ⟨y1, y2, y3, rfl⟩ := SlR.form d _ _ hy
  obtain ⟨z1, z2, z3, rfl⟩ := SlR.form d _ _ hz
  have e1 : s.stmt (Ck.block d) (x, ty, tz) = s.use x.name 1 := by simp [Ck.stmt, hw]
  rw [e1]
  clear e1
  have a_put : (x.word == [112, 117, 116]) = false := by rw [hw]; rfl
  have a_evict : (x.word == [101, 118, 105, 99, 116]) = false := by rw [hw]; rfl
  have a_cool : (x.word == [99, 111, 111, 108]) = false := by rw [hw]; rfl
  have a_shift : (x.word == [115, 104, 105, 102, 116]) = false := by rw [hw]; rfl
  have a_inc : (x.word == [105, 110, 99]) = false := by rw [hw]; rfl
  have a_dec : (x.word == [100, 101, 99]) = true := by rw [hw]; rfl
  have a_if : (x.word == [105, 102]) = false := by rw [hw]; rfl
  have a_repeat : (x.word == [114, 101, 112, 101, 97, 116]) = false := by rw [hw]; rfl
  clear hw
  go_enter Tryd.func54, Tryd.ntmps54
  go_wp2_with fail
  refine (cuse_any h1 x.name 1 hx.1).mono ?_
  rintro e w2 ⟨rfl, h2, K2⟩
  go_wp2_with fail
  exact end0 rfl rfl ⟨rfl, h2, B1.trans K2⟩

set_option maxRecDepth 20000 in
set_option maxHeartbeats 1000000 in
theorem cstmt_shift {d : Nat} (_HB : CBlk d) {w : World} {lo c nb rb : Nat} {E : Nat → Value} {s : Ck} (h : CkAt w lo c nb rb E s) (x : St) (y z : Value) (ty tz : BT d) (hy : SlR d w (fun g => g < lo) y ty) (hz : SlR d w (fun g => g < lo) z tz) (hx : x.small) (_hsy : smallB d ty) (_hsz : smallB d tz) (hw : x.word = [115, 104, 105, 102, 116]) :
    Calls Tryd.prog 54 #[ptr c, .agg (stA x y z)] w fun e w' => OutC w lo c nb rb E (s.stmt (Ck.block d) (x, ty, tz)) e w' := by
  have h1 := h.box (.cells (stA x y z) 136)
  have B1 : Kp c nb rb w (w.alloc (.cells (stA x y z) 136)) := (Kp.refl c nb rb w).alloc _
  have hin := h.in
  have hlow := h.low
  obtain ⟨y1, y2, y3, rfl⟩ := SlR.form d _ _ hy
  obtain ⟨z1, z2, z3, rfl⟩ := SlR.form d _ _ hz
  have e1 : s.stmt (Ck.block d) (x, ty, tz) = (s.use x.name 0).use x.to 0 := by simp [Ck.stmt, hw]
  rw [e1]
  clear e1
  have a_put : (x.word == [112, 117, 116]) = false := by rw [hw]; rfl
  have a_evict : (x.word == [101, 118, 105, 99, 116]) = false := by rw [hw]; rfl
  have a_cool : (x.word == [99, 111, 111, 108]) = false := by rw [hw]; rfl
  have a_shift : (x.word == [115, 104, 105, 102, 116]) = true := by rw [hw]; rfl
  have a_inc : (x.word == [105, 110, 99]) = false := by rw [hw]; rfl
  have a_dec : (x.word == [100, 101, 99]) = false := by rw [hw]; rfl
  have a_if : (x.word == [105, 102]) = false := by rw [hw]; rfl
  have a_repeat : (x.word == [114, 101, 112, 101, 97, 116]) = false := by rw [hw]; rfl
  clear hw
  go_enter Tryd.func54, Tryd.ntmps54
  go_wp2_with fail
  refine (cuse_any h1 x.name 0 hx.1).mono ?_
  rintro e w2 ⟨rfl, h2, K2⟩
  have hb : w2.heap[w.heap.size]? = some (.cells (stA x (.slice y1 y2 y3) (.slice z1 z2 z3)) 136) := (K2.block _ (by simp) (by omega) (by omega) (by omega)).trans (heap_new rfl)
  have q3 : w2.cell? ⟨w.heap.size, 3, none⟩ = some (S x.to.1) := by simp [World.cell?, hb, S]
  have q4 : w2.cell? ⟨w.heap.size, 4, none⟩ = some (.int .i64 x.to.2) := by simp [World.cell?, hb]
  go_wp2_with fail
  refine (cuse_any h2 x.to 0 hx.2.1).mono ?_
  rintro e w3 ⟨rfl, h3, K3⟩
  go_wp2_with fail
  exact end0 rfl rfl ⟨rfl, h3, (B1.trans K2).trans K3⟩

set_option maxRecDepth 20000 in
set_option maxHeartbeats 1000000 in
theorem cstmt_if {d : Nat} (HB : CBlk d) {w : World} {lo c nb rb : Nat} {E : Nat → Value} {s : Ck} (h : CkAt w lo c nb rb E s) (x : St) (y z : Value) (ty tz : BT d) (hy : SlR d w (fun g => g < lo) y ty) (hz : SlR d w (fun g => g < lo) z tz) (hx : x.small) (hsy : smallB d ty) (hsz : smallB d tz) (hw : x.word = [105, 102]) :
    Calls Tryd.prog 54 #[ptr c, .agg (stA x y z)] w fun e w' => OutC w lo c nb rb E (s.stmt (Ck.block d) (x, ty, tz)) e w' := by
  have h1 := h.box (.cells (stA x y z) 136)
  have B1 : Kp c nb rb w (w.alloc (.cells (stA x y z) 136)) := (Kp.refl c nb rb w).alloc _
  have hin := h.in
  have hlow := h.low
  obtain ⟨y1, y2, y3, rfl⟩ := SlR.form d _ _ hy
  obtain ⟨z1, z2, z3, rfl⟩ := SlR.form d _ _ hz
  have e1 : s.stmt (Ck.block d) (x, ty, tz) = ((s.cond x.cond).block d ty).block d tz := by simp [Ck.stmt, hw]
  rw [e1]
  clear e1
  have a_put : (x.word == [112, 117, 116]) = false := by rw [hw]; rfl
  have a_evict : (x.word == [101, 118, 105, 99, 116]) = false := by rw [hw]; rfl
  have a_cool : (x.word == [99, 111, 111, 108]) = false := by rw [hw]; rfl
  have a_shift : (x.word == [115, 104, 105, 102, 116]) = false := by rw [hw]; rfl
  have a_inc : (x.word == [105, 110, 99]) = false := by rw [hw]; rfl
  have a_dec : (x.word == [100, 101, 99]) = false := by rw [hw]; rfl
  have a_if : (x.word == [105, 102]) = true := by rw [hw]; rfl
  have a_repeat : (x.word == [114, 101, 112, 101, 97, 116]) = false := by rw [hw]; rfl
  clear hw
  go_enter Tryd.func54, Tryd.ntmps54
  go_wp2_with fail
  refine (ccond_any h1 x.cond hx.2.2).mono ?_
  rintro e w2 ⟨rfl, h2, K2⟩
  have hb2 : w2.heap[w.heap.size]? = some (.cells (stA x (.slice y1 y2 y3) (.slice z1 z2 z3)) 136) := (K2.block _ (by first | (simp; done) | (have := K2.size; simp at this; omega) | (have := K2.size; have := K3.size; simp at this; omega)) (by omega) (by omega) (by omega)).trans (heap_new rfl)
  have q2_22 : w2.cell? ⟨w.heap.size, 22, none⟩ = some (.slice y1 y2 y3) := by simp [World.cell?, hb2]
  have hy2 := SlR.kp (B1.trans K2) hlow.2.1 hlow.2.2.1 hlow.2.2.2.1 hy
  go_wp2_with fail
  refine (HB _ _ _ _ _ _ _ _ _ h2 hy2 hsy).mono ?_
  rintro e w3 ⟨rfl, h3, K3⟩
  have hb3 : w3.heap[w.heap.size]? = some (.cells (stA x (.slice y1 y2 y3) (.slice z1 z2 z3)) 136) := (K3.block _ (by first | (simp; done) | (have := K2.size; simp at this; omega) | (have := K2.size; have := K3.size; simp at this; omega)) (by omega) (by omega) (by omega)).trans (hb2)
  have q3_24 : w3.cell? ⟨w.heap.size, 24, none⟩ = some (.slice z1 z2 z3) := by simp [World.cell?, hb3]
  have hz3 := SlR.kp ((B1.trans K2).trans K3) hlow.2.1 hlow.2.2.1 hlow.2.2.2.1 hz
  go_wp2_with fail
  refine (HB _ _ _ _ _ _ _ _ _ h3 hz3 hsz).mono ?_
  rintro e w4 ⟨rfl, h4, K4⟩
  go_wp2_with fail
  exact end0 rfl rfl ⟨rfl, h4, ((B1.trans K2).trans K3).trans K4⟩

set_option maxRecDepth 20000 in
set_option maxHeartbeats 1000000 in
theorem cstmt_repeat {d : Nat} (HB : CBlk d) {w : World} {lo c nb rb : Nat} {E : Nat → Value} {s : Ck} (h : CkAt w lo c nb rb E s) (x : St) (y z : Value) (ty tz : BT d) (hy : SlR d w (fun g => g < lo) y ty) (hz : SlR d w (fun g => g < lo) z tz) (hx : x.small) (hsy : smallB d ty) (_hsz : smallB d tz) (hw : x.word = [114, 101, 112, 101, 97, 116]) :
    Calls Tryd.prog 54 #[ptr c, .agg (stA x y z)] w fun e w' => OutC w lo c nb rb E (s.stmt (Ck.block d) (x, ty, tz)) e w' := by
  have h1 := h.box (.cells (stA x y z) 136)
  have B1 : Kp c nb rb w (w.alloc (.cells (stA x y z) 136)) := (Kp.refl c nb rb w).alloc _
  have hin := h.in
  have hlow := h.low
  obtain ⟨y1, y2, y3, rfl⟩ := SlR.form d _ _ hy
  obtain ⟨z1, z2, z3, rfl⟩ := SlR.form d _ _ hz
  have e1 : s.stmt (Ck.block d) (x, ty, tz) = ((s.bound x.times.1 x.times.2 50).cond x.cond).block d ty := by simp [Ck.stmt, hw]
  rw [e1]
  clear e1
  have a_put : (x.word == [112, 117, 116]) = false := by rw [hw]; rfl
  have a_evict : (x.word == [101, 118, 105, 99, 116]) = false := by rw [hw]; rfl
  have a_cool : (x.word == [99, 111, 111, 108]) = false := by rw [hw]; rfl
  have a_shift : (x.word == [115, 104, 105, 102, 116]) = false := by rw [hw]; rfl
  have a_inc : (x.word == [105, 110, 99]) = false := by rw [hw]; rfl
  have a_dec : (x.word == [100, 101, 99]) = false := by rw [hw]; rfl
  have a_if : (x.word == [105, 102]) = false := by rw [hw]; rfl
  have a_repeat : (x.word == [114, 101, 112, 101, 97, 116]) = true := by rw [hw]; rfl
  clear hw
  go_enter Tryd.func54, Tryd.ntmps54
  go_wp2_with fail
  refine (cbound_any h1 x.times.1 x.times.2 50).mono ?_
  rintro e w2 ⟨rfl, h2, K2⟩
  have hb2 : w2.heap[w.heap.size]? = some (.cells (stA x (.slice y1 y2 y3) (.slice z1 z2 z3)) 136) := (K2.block _ (by first | (simp; done) | (have := K2.size; simp at this; omega) | (have := K2.size; have := K3.size; simp at this; omega)) (by omega) (by omega) (by omega)).trans (heap_new rfl)
  have q2_8 : w2.cell? ⟨w.heap.size, 8, none⟩ = some (.bool x.cond.neg) := by simp [World.cell?, hb2]
  have q2_9 : w2.cell? ⟨w.heap.size, 9, none⟩ = some (S x.cond.word) := by simp [World.cell?, hb2, S]
  have q2_10 : w2.cell? ⟨w.heap.size, 10, none⟩ = some (S x.cond.queue.1) := by simp [World.cell?, hb2, S]
  have q2_11 : w2.cell? ⟨w.heap.size, 11, none⟩ = some (.int .i64 x.cond.queue.2) := by simp [World.cell?, hb2]
  have q2_12 : w2.cell? ⟨w.heap.size, 12, none⟩ = some (.int .i64 x.cond.left.kind) := by simp [World.cell?, hb2]
  have q2_13 : w2.cell? ⟨w.heap.size, 13, none⟩ = some (S x.cond.left.name.1) := by simp [World.cell?, hb2, S]
  have q2_14 : w2.cell? ⟨w.heap.size, 14, none⟩ = some (.int .i64 x.cond.left.name.2) := by simp [World.cell?, hb2]
  have q2_15 : w2.cell? ⟨w.heap.size, 15, none⟩ = some (.int .i64 x.cond.left.num.1) := by simp [World.cell?, hb2]
  have q2_16 : w2.cell? ⟨w.heap.size, 16, none⟩ = some (.int .i64 x.cond.left.num.2) := by simp [World.cell?, hb2]
  have q2_17 : w2.cell? ⟨w.heap.size, 17, none⟩ = some (.int .i64 x.cond.right.kind) := by simp [World.cell?, hb2]
  have q2_18 : w2.cell? ⟨w.heap.size, 18, none⟩ = some (S x.cond.right.name.1) := by simp [World.cell?, hb2, S]
  have q2_19 : w2.cell? ⟨w.heap.size, 19, none⟩ = some (.int .i64 x.cond.right.name.2) := by simp [World.cell?, hb2]
  have q2_20 : w2.cell? ⟨w.heap.size, 20, none⟩ = some (.int .i64 x.cond.right.num.1) := by simp [World.cell?, hb2]
  have q2_21 : w2.cell? ⟨w.heap.size, 21, none⟩ = some (.int .i64 x.cond.right.num.2) := by simp [World.cell?, hb2]
  go_wp2_with fail
  refine (ccond_any h2 x.cond hx.2.2).mono ?_
  rintro e w3 ⟨rfl, h3, K3⟩
  have hb3 : w3.heap[w.heap.size]? = some (.cells (stA x (.slice y1 y2 y3) (.slice z1 z2 z3)) 136) := (K3.block _ (by first | (simp; done) | (have := K2.size; simp at this; omega) | (have := K2.size; have := K3.size; simp at this; omega)) (by omega) (by omega) (by omega)).trans (hb2)
  have q3_22 : w3.cell? ⟨w.heap.size, 22, none⟩ = some (.slice y1 y2 y3) := by simp [World.cell?, hb3]
  have hy3 := SlR.kp ((B1.trans K2).trans K3) hlow.2.1 hlow.2.2.1 hlow.2.2.2.1 hy
  go_wp2_with fail
  refine (HB _ _ _ _ _ _ _ _ _ h3 hy3 hsy).mono ?_
  rintro e w4 ⟨rfl, h4, K4⟩
  go_wp2_with fail
  exact end0 rfl rfl ⟨rfl, h4, ((B1.trans K2).trans K3).trans K4⟩

end Go.Proofs.YtippenbbibfmdabDoor
