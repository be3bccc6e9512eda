import Derived.Test.YtippenbbibfmdabDoorW26
namespace Go.Proofs.YtippenbbibfmdabDoor
open Go.RowKit

set_option maxRecDepth 20000 in
set_option maxHeartbeats 1000000 in
theorem cstmt_any {d : Nat} (HB : CBlk d) {w : World} {lo c nb rb : Nat} {E : Nat → Value} {s : Ck} (h : CkAt w lo c nb rb E s) (x : St) (y z : Value) (ty tz : BT d) (hy : SlR d w (fun g => g < lo) y ty) (hz : SlR d w (fun g => g < lo) z tz) (hx : x.small) (hsy : smallB d ty) (hsz : smallB d tz) :
    Calls Tryd.prog 54 #[ptr c, .agg (stA x y z)] w fun e w' => OutC w lo c nb rb E (s.stmt (Ck.block d) (x, ty, tz)) e w' := by
  by_cases w_put : x.word = [112, 117, 116]
  · exact cstmt_put HB h x y z ty tz hy hz hx hsy hsz w_put
  by_cases w_evict : x.word = [101, 118, 105, 99, 116]
  · exact cstmt_evict HB h x y z ty tz hy hz hx hsy hsz w_evict
  by_cases w_cool : x.word = [99, 111, 111, 108]
  · exact cstmt_cool HB h x y z ty tz hy hz hx hsy hsz w_cool
  by_cases w_shift : x.word = [115, 104, 105, 102, 116]
  · exact cstmt_shift HB h x y z ty tz hy hz hx hsy hsz w_shift
  by_cases w_inc : x.word = [105, 110, 99]
  · exact cstmt_inc HB h x y z ty tz hy hz hx hsy hsz w_inc
  by_cases w_dec : x.word = [100, 101, 99]
  · exact cstmt_dec HB h x y z ty tz hy hz hx hsy hsz w_dec
  by_cases w_if : x.word = [105, 102]
  · exact cstmt_if HB h x y z ty tz hy hz hx hsy hsz w_if
  by_cases w_repeat : x.word = [114, 101, 112, 101, 97, 116]
  · exact cstmt_repeat HB h x y z ty tz hy hz hx hsy hsz w_repeat
  have h1 := h.box (.cells (stA x y z) 136)
  have B1 : Kp c nb rb w (w.alloc (.cells (stA x y z) 136)) := (Kp.refl c nb rb w).alloc _
  obtain ⟨y1, y2, y3, rfl⟩ := SlR.form d _ _ hy
  obtain ⟨z1, z2, z3, rfl⟩ := SlR.form d _ _ hz
  have e1 : s.stmt (Ck.block d) (x, ty, tz) = s := by simp [Ck.stmt, w_put, w_evict, w_cool, w_shift, w_inc, w_dec, w_if, w_repeat]
  rw [e1]
  clear e1
  have a_put : (x.word == [112, 117, 116]) = false := by simp [w_put]
  have a_evict : (x.word == [101, 118, 105, 99, 116]) = false := by simp [w_evict]
  have a_cool : (x.word == [99, 111, 111, 108]) = false := by simp [w_cool]
  have a_shift : (x.word == [115, 104, 105, 102, 116]) = false := by simp [w_shift]
  have a_inc : (x.word == [105, 110, 99]) = false := by simp [w_inc]
  have a_dec : (x.word == [100, 101, 99]) = false := by simp [w_dec]
  have a_if : (x.word == [105, 102]) = false := by simp [w_if]
  have a_repeat : (x.word == [114, 101, 112, 101, 97, 116]) = false := by simp [w_repeat]
  clear w_put w_evict w_cool w_shift w_inc w_dec w_if w_repeat
  go_enter Tryd.func54, Tryd.ntmps54
  go_wp2_with fail
  exact end0 rfl rfl ⟨rfl, h1, B1⟩
end Go.Proofs.YtippenbbibfmdabDoor
