import Derived.Test.YtippenbbibfmdabDoorW28
namespace Go.Proofs.YtippenbbibfmdabDoor
open Go.RowKit

def Ck.declare (s : Ck) (n : NP) (k : Nat) : Ck := match look n.1 s.names with
  | some _ => s.fault 2 n.2
  | none => if s.names.length = 8 then s.fault 7 n.2 else { s with names := (n.1, k) :: s.names }

theorem CkAt.apart {w : World} {lo c nb rb : Nat} {E : Nat → Value} {s : Ck} (h : CkAt w lo c nb rb E s) (hd : nb ≠ rb) {w' : World} (hg : w.grownBy w' (some nb)) {m : List (List UInt8 × Nat)} (hm : MapR w' 101 nb m.length m) (h8 : m.length ≤ 8) : CkAt w' lo c nb rb E { s with names := m } ∧ Kp c nb rb w w' := by
  obtain ⟨v, hc, hf⟩ := h.cell
  obtain ⟨n, hn, hr⟩ := h.rules
  have hne := h.ne
  have hin := h.in
  have hlow := h.low
  have K : ∀ k, k < w.heap.size → k ≠ nb → w'.heap[k]? = w.heap[k]? := fun k hk hh => hg.block k hk (by simpa using hh)
  refine ⟨⟨⟨v, (K _ hin.1 hne.1).trans hc, FirstR.move hf fun f x hx => K _ (Array.getElem?_eq_some_iff.1 hx).1 ?_⟩, hm, ⟨n, hn, hr.move (K _ hin.2.2 hd.symm)⟩, fun i h1 h2 => ?_, ⟨hlow.1, hlow.2.1, hlow.2.2.1, hlow.2.2.2.1, Nat.le_trans hlow.2.2.2.2 hg.size⟩, ⟨h8, h.few.2⟩⟩, hg.os, hg.tape, hg.output, hg.size, fun k hk _ h2 _ => K k hk h2⟩
  · rintro rfl
    obtain ⟨D, ⟨es, k, h1, _⟩, _⟩ := h.names
    rw [hx] at h1
    simp at h1
  · have := h.gl i h1 h2
    rw [← this]
    unfold World.cell?
    rw [K i (by omega) (by omega)]

set_option maxRecDepth 20000 in
theorem cdeclare_any {w : World} {lo c nb rb : Nat} {E : Nat → Value} {s : Ck} (h : CkAt w lo c nb rb E s) (hd : nb ≠ rb) (n : NP) (k : Nat) (hn : n.1.length ≤ 700) (hk : k ≤ 3000) :
    Calls Tryd.prog 39 #[ptr c, .agg #[S n.1, .int .i64 n.2], .int .i64 k] w fun e w' => OutC w lo c nb rb E (s.declare n k) e w' := by
  have h1 := (h.box (.cells #[S n.1, .int .i64 n.2] 69)).drew
  have B1 : Kp c nb rb w (w.alloc (.cells #[S n.1, .int .i64 n.2] 69)).drew := ((Kp.refl c nb rb w).alloc _).drew
  obtain ⟨c0, c1, c2, cf⟩ := h1.cells
  have hg := h1.names.get_ok u80 u121 (z121 _) n.1 hn
  have g3 := h1.gl 2 (by omega) (by omega)
  have g4 := h1.gl 7 (by omega) (by omega)
  have hlen := fun ty => h1.names.len u80 ty
  generalize hs : s.declare n k = s'
  have HS : Hid (s.declare n k = s') := hs
  clear hs
  cases hl : look n.1 s.names with
  | some d =>
    rw [hl] at hg
    have e1 : s' = s.fault 2 n.2 := by rw [← HS.out]; simp [Ck.declare, hl]
    clear HS
    subst e1
    go_enter Tryd.func39, Tryd.ntmps39
    go_wp2_with fail
    go_region
    all_goals go_wp2_with fail
    all_goals (refine (cfault_any h1 2 n.2).mono ?_; rintro e w' ⟨rfl, h2, h3⟩)
    all_goals go_wp2_with fail
    all_goals exact end0 rfl rfl ⟨rfl, h2, B1.trans h3⟩
  | none =>
    rw [hl] at hg
    by_cases hd8 : s.names.length = 8
    · have e1 : s' = s.fault 7 n.2 := by rw [← HS.out]; simp [Ck.declare, hl, hd8]
      clear HS
      subst e1
      go_enter Tryd.func39, Tryd.ntmps39
      go_wp2_with fail
      go_region
      all_goals go_wp2_with fail
      all_goals (refine (cfault_any h1 7 n.2).mono ?_; rintro e w' ⟨rfl, h2, h3⟩)
      all_goals go_wp2_with fail
      all_goals exact end0 rfl rfl ⟨rfl, h2, B1.trans h3⟩
    · have e1 : s' = { s with names := (n.1, k) :: s.names } := by rw [← HS.out]; simp [Ck.declare, hl, hd8]
      clear HS
      subst e1
      have hfew := h.few
      obtain ⟨w2, hput, hm2, hgr, hsz⟩ := h1.drew.names.put u80 u121 (by omega) n.1 hn k hk
      rw [hl] at hm2
      obtain ⟨h2, K2⟩ := h1.drew.apart hd hgr (m := (n.1, k) :: s.names) hm2 (by simp; omega)
      obtain ⟨d0, d1, d2, df⟩ := h1.drew.cells
      go_enter Tryd.func39, Tryd.ntmps39
      go_wp2_with fail
      go_region
      all_goals go_wp2_with fail
      all_goals go_region
      all_goals go_wp2_with fail
      all_goals exact end0 rfl rfl ⟨rfl, h2, B1.drew.trans K2⟩
end Go.Proofs.YtippenbbibfmdabDoor
