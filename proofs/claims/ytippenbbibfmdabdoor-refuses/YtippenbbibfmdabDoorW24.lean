import Derived.Test.YtippenbbibfmdabDoorW23
namespace Go.Proofs.YtippenbbibfmdabDoor
open Go.RowKit

def Ck.value (s : Ck) (v : Vl) : Ck := if v.kind = 1 then s.use v.name 1 else if v.kind = 2 then s.use v.name 0 else s

set_option maxRecDepth 20000 in
theorem cvalue_any {w : World} {lo c nb rb : Nat} {E : Nat → Value} {s : Ck} (h : CkAt w lo c nb rb E s) (v : Vl) (hn : v.name.1.length ≤ 700) :
    Calls Tryd.prog 63 #[ptr c, vlV v] w fun e w' => OutC w lo c nb rb E (s.value v) e w' := by
  have h1 := h.box (.cells #[.int .i64 v.kind, S v.name.1, .int .i64 v.name.2, .int .i64 v.num.1, .int .i64 v.num.2] 132)
  have B1 : Kp c nb rb w (w.alloc (.cells #[.int .i64 v.kind, S v.name.1, .int .i64 v.name.2, .int .i64 v.num.1, .int .i64 v.num.2] 132)) := (Kp.refl c nb rb w).alloc _
  generalize hs : s.value v = s'
  have HS : Hid (s.value v = s') := hs
  clear hs
  by_cases h7 : v.kind = 1
  · have e1 : s' = s.use v.name 1 := by rw [← HS.out]; simp [Ck.value, h7]
    clear HS
    subst e1
    have a1 : (v.kind : Int) = 1 := by omega
    rw [a1] at h1 B1
    go_enter Tryd.func63, Tryd.ntmps63
    go_wp2_with fail
    refine (cuse_any h1 v.name 1 hn).mono ?_
    rintro e w' ⟨rfl, h2, h3⟩
    go_wp2_with fail
    exact end0 rfl rfl ⟨rfl, h2, B1.trans h3⟩
  · by_cases h8 : v.kind = 2
    · have e1 : s' = s.use v.name 0 := by rw [← HS.out]; simp [Ck.value, h8]
      clear HS
      subst e1
      have a1 : (v.kind : Int) = 2 := by omega
      rw [a1] at h1 B1
      go_enter Tryd.func63, Tryd.ntmps63
      go_wp2_with fail
      refine (cuse_any h1 v.name 0 hn).mono ?_
      rintro e w' ⟨rfl, h2, h3⟩
      go_wp2_with fail
      exact end0 rfl rfl ⟨rfl, h2, B1.trans h3⟩
    · have e1 : s' = s := by rw [← HS.out]; simp [Ck.value, h7, h8]
      clear HS
      subst e1
      have a1 : ¬ (v.kind : Int) = 1 := by omega
      have a2 : ¬ (v.kind : Int) = 2 := by omega
      go_enter Tryd.func63, Tryd.ntmps63
      go_wp2_with fail
      exact end0 rfl rfl ⟨rfl, h1, B1⟩
end Go.Proofs.YtippenbbibfmdabDoor
