import Derived.Test.YtippenbbibfmdabDoorW21
namespace Go.Proofs.YtippenbbibfmdabDoor
open Go.RowKit

def Ck.use (s : Ck) (n : NP) (k : Nat) : Ck := match look n.1 s.names with
  | none => s.fault 3 n.2
  | some d => if d = k then s else s.fault 4 n.2

theorem CkAt.box {w : World} {lo c nb rb : Nat} {E : Nat → Value} {s : Ck} (h : CkAt w lo c nb rb E s) (o : Obj) : CkAt (w.alloc o) lo c nb rb E s := h.grow ((Below.refl _ _).alloc (Nat.le_refl _) _)

theorem CkAt.cells {w : World} {lo c nb rb : Nat} {E : Nat → Value} {s : Ck} (h : CkAt w lo c nb rb E s) : w.cell? ⟨c, 0, none⟩ = some (.map (some nb)) ∧ w.cell? ⟨c, 1, none⟩ = some (.int .i64 s.freqs) ∧ w.cell? ⟨c, 2, none⟩ = some (.map (some rb)) ∧ ∀ i, w.frozen? ⟨c, i, none⟩ = false := by
  obtain ⟨v, hc, _⟩ := h.cell
  exact ⟨by simp [World.cell?, hc], by simp [World.cell?, hc], by simp [World.cell?, hc], fun i => by simp [World.frozen?, hc]⟩

theorem CkAt.drew {w : World} {lo c nb rb : Nat} {E : Nat → Value} {s : Ck} (h : CkAt w lo c nb rb E s) : CkAt w.drew lo c nb rb E s := ⟨h.cell, h.names, h.rules, h.gl, h.low, h.few⟩

theorem OutC.from {w0 w : World} {lo c nb rb : Nat} {E : Nat → Value} {s : Ck} {e : Ending} {w' : World} (h : OutC w lo c nb rb E s e w') (hb : Kp c nb rb w0 w) : OutC w0 lo c nb rb E s e w' := ⟨h.1, h.2.1, hb.trans h.2.2⟩

set_option maxRecDepth 20000 in
theorem cuse_any {w : World} {lo c nb rb : Nat} {E : Nat → Value} {s : Ck} (h : CkAt w lo c nb rb E s) (n : NP) (k : Nat) (hn : n.1.length ≤ 700) :
    Calls Tryd.prog 41 #[ptr c, .agg #[S n.1, .int .i64 n.2], .int .i64 k] w fun e w' => OutC w lo c nb rb E (s.use n k) e w' := by
  have h1 := (h.box (.cells #[S n.1, .int .i64 n.2] 69)).drew
  have B1 : Kp c nb rb w (w.alloc (.cells #[S n.1, .int .i64 n.2] 69)).drew := ((Kp.refl c nb rb w).alloc _).drew
  obtain ⟨c0, c1, c2, cf⟩ := h1.cells
  have hg := h1.names.get_ok u80 u121 (z121 _) n.1 hn
  have g3 := h1.gl 3 (by omega) (by omega)
  have g4 := h1.gl 4 (by omega) (by omega)
  generalize hs : s.use n k = s'
  have HS : Hid (s.use n k = s') := hs
  clear hs
  cases hl : look n.1 s.names with
  | none =>
    rw [hl] at hg
    have e1 : s' = s.fault 3 n.2 := by rw [← HS.out]; simp [Ck.use, hl]
    clear HS
    subst e1
    go_enter Tryd.func41, Tryd.ntmps41
    go_wp2_with fail
    go_region
    all_goals go_wp2_with fail
    all_goals (refine (cfault_any h1 3 n.2).mono ?_; rintro e w' ⟨rfl, h2, h3⟩)
    all_goals go_wp2_with fail
    all_goals exact end0 rfl rfl ⟨rfl, h2, B1.trans h3⟩
  | some d =>
    rw [hl] at hg
    by_cases hd : d = k
    · have e1 : s' = s := by rw [← HS.out]; simp [Ck.use, hl, hd]
      clear HS
      subst e1
      subst hd
      go_enter Tryd.func41, Tryd.ntmps41
      go_wp2_with fail
      go_region
      all_goals go_wp2_with fail
      all_goals exact end0 rfl rfl ⟨rfl, h1, B1⟩
    · have e1 : s' = s.fault 4 n.2 := by rw [← HS.out]; simp [Ck.use, hl, hd]
      clear HS
      subst e1
      go_enter Tryd.func41, Tryd.ntmps41
      go_wp2_with fail
      go_region
      all_goals go_wp2_with fail
      all_goals (refine (cfault_any h1 4 n.2).mono ?_; rintro e w' ⟨rfl, h2, h3⟩)
      all_goals go_wp2_with fail
      all_goals exact end0 rfl rfl ⟨rfl, h2, B1.trans h3⟩
end Go.Proofs.YtippenbbibfmdabDoor
