import Derived.Test.YtippenbbibfmdabDoorW22
namespace Go.Proofs.YtippenbbibfmdabDoor
open Go.RowKit

/-- A number of the text: its value, and where it stands. -/
def Ck.bound (s : Ck) (v p most : Nat) : Ck := if v < 1 ∨ v > most then s.fault 5 p else s

set_option maxRecDepth 20000 in
theorem cbound_any {w : World} {lo c nb rb : Nat} {E : Nat → Value} {s : Ck} (h : CkAt w lo c nb rb E s) (v p most : Nat) :
    Calls Tryd.prog 40 #[ptr c, .agg #[.int .i64 v, .int .i64 p], .int .i64 most] w fun e w' => OutC w lo c nb rb E (s.bound v p most) e w' := by
  have h1 := (h.box (.cells #[.int .i64 v, .int .i64 p] 71))
  have B1 : Kp c nb rb w (w.alloc (.cells #[.int .i64 v, .int .i64 p] 71)) := (Kp.refl c nb rb w).alloc _
  have g5 := h1.gl 5 (by omega) (by omega)
  generalize hs : s.bound v p most = s'
  have HS : Hid (s.bound v p most = s') := hs
  clear hs
  by_cases hv : v < 1
  · have e1 : s' = s.fault 5 p := by rw [← HS.out]; simp [Ck.bound, hv]
    clear HS
    subst e1
    have a1 : decide ((v : Int) < 1) = true := by simpa using by omega
    go_enter Tryd.func40, Tryd.ntmps40
    go_wp2_with (refine (cfault_any h1 5 p).mono ?_; rintro e w' ⟨rfl, h2, h3⟩)
    all_goals exact end0 rfl rfl ⟨rfl, h2, B1.trans h3⟩
  · by_cases hm : v > most
    · have e1 : s' = s.fault 5 p := by rw [← HS.out]; simp [Ck.bound, hv, hm]
      clear HS
      subst e1
      go_enter Tryd.func40, Tryd.ntmps40
      go_wp2_with (refine (cfault_any h1 5 p).mono ?_; rintro e w' ⟨rfl, h2, h3⟩)
      all_goals exact end0 rfl rfl ⟨rfl, h2, B1.trans h3⟩
    · have e1 : s' = s := by rw [← HS.out]; unfold Ck.bound; rw [if_neg (by omega)]
      clear HS
      subst e1
      go_enter Tryd.func40, Tryd.ntmps40
      go_wp2_with fail
      all_goals exact end0 rfl rfl ⟨rfl, h1, B1⟩
end Go.Proofs.YtippenbbibfmdabDoor
