import Derived.Test.YtippenbbibfmdabDoorW30
namespace Go.Proofs.YtippenbbibfmdabDoor
open Go.RowKit

def Ck.count (s : Ck) (n : NP) : Ck := { s with rules := (n.1, (look n.1 s.rules).getD 0 + 1) :: s.rules }
def Ck.rule1 (s : Ck) (p : Nat) (n : NP) : Ck := if (look n.1 s.rules).getD 0 + 1 > 1 then (s.count n).fault 6 p else s.count n
def Ck.rule2 (s : Ck) (n : NP) : Ck := if n.1 = [109, 105, 115, 115] then s else s.use n 0
def Ck.rule (s : Ck) (r : Nat × NP × BT 8) : Ck := ((s.rule1 r.1 r.2.1).rule2 r.2.1).block 8 r.2.2

theorem CkAt.apartR {w : World} {lo c nb rb : Nat} {E : Nat → Value} {s : Ck} (h : CkAt w lo c nb rb E s) (hd : nb ≠ rb) {w' : World} (hg : w.grownBy w' (some rb)) {m : List (List UInt8 × Nat)} {n' : Nat} (hn' : n' ≤ m.length) (hm : MapR w' 3 rb n' m) (h8 : m.length ≤ 1000) : CkAt w' lo c nb rb E { s with rules := m } ∧ Kp c nb rb w w' := by
  obtain ⟨v, hc, hf⟩ := h.cell
  have hne := h.ne
  have hin := h.in
  have hlow := h.low
  have K : ∀ k, k < w.heap.size → k ≠ rb → w'.heap[k]? = w.heap[k]? := fun k hk hh => hg.block k hk (by simpa using hh)
  refine ⟨⟨⟨v, (K _ hin.1 hne.2).trans hc, FirstR.move hf fun f x hx => K _ (Array.getElem?_eq_some_iff.1 hx).1 ?_⟩, h.names.move (K _ hin.2.1 hd), ⟨n', hn', hm⟩, fun i h1 h2 => ?_, ⟨hlow.1, hlow.2.1, hlow.2.2.1, hlow.2.2.2.1, Nat.le_trans hlow.2.2.2.2 hg.size⟩, ⟨h.few.1, h8, h.few.2.2⟩⟩, hg.os, hg.tape, hg.output, hg.size, fun k hk _ _ h3 => K k hk h3⟩
  · rintro rfl
    obtain ⟨n, _, D, ⟨es, k, h1, _⟩, _⟩ := h.rules
    rw [hx] at h1
    simp at h1
  · have := h.gl i h1 h2
    rw [← this]
    unfold World.cell?
    rw [K i (by omega) (by omega)]

set_option maxRecDepth 20000 in
set_option maxHeartbeats 1000000 in
theorem crule_any {w : World} {lo c nb rb : Nat} {E : Nat → Value} {s : Ck} (h : CkAt w lo c nb rb E s) (hd : nb ≠ rb) (p : Nat) (n : NP) (v : Value) (x : BT 8) (hn : n.1.length ≤ 700) (hx : SlR 8 w (fun g => g < lo) v x) (hsm : smallB 8 x) (hl : s.rules.length < 1000) (hc : (look n.1 s.rules).getD 0 < 1000) :
    Calls Tryd.prog 19 #[ptr c, .agg (ruA p n v)] w fun e w' => OutC w lo c nb rb E (s.rule (p, n, x)) e w' := by
  obtain ⟨v1, v2, v3, rfl⟩ := SlR.form 8 _ _ hx
  have h1 := (h.box (.cells (ruA p n (.slice v1 v2 v3)) 77)).drew
  have B1 : Kp c nb rb w (w.alloc (.cells (ruA p n (.slice v1 v2 v3)) 77)).drew := ((Kp.refl c nb rb w).alloc _).drew
  obtain ⟨c0, c1, c2, cf⟩ := h1.cells
  obtain ⟨m, hm, hr⟩ := h1.rules
  have hget := hr.get u81 u3 (z3 _) n.1 hn
  have hput := hr.put u81 u3 (by omega) n.1 hn ((look n.1 s.rules).getD 0 + 1) (by omega)
  obtain ⟨w2, hrun, hm2, hgr, hsz⟩ := hput
  obtain ⟨h2, K2⟩ := h1.apartR hd hgr (m := (n.1, (look n.1 s.rules).getD 0 + 1) :: s.rules) (by simp; split <;> omega) hm2 (by simp; omega)
  have hin := h.in
  have hlow := h.low
  have hb2 : w2.heap[w.heap.size]? = some (.cells (ruA p n (.slice v1 v2 v3)) 77) := (K2.block _ (by show _ < (w.alloc _).heap.size; simp) (by omega) (by omega) (by omega)).trans (heap_new (w := w) rfl)
  have e2 : (((look n.1 s.rules).getD 0 + 1 : Nat) : Int) = ((look n.1 s.rules).getD 0 : Int) + 1 := by omega
  rw [e2] at hrun
  have z2 : w.heap.size < w2.heap.size := (Array.getElem?_eq_some_iff.1 hb2).1
  generalize hs : s.rule (p, n, x) = s'
  have HS : ((s.rule1 p n).rule2 n).block 8 x = s' := hs
  clear hs
  have h2 : CkAt w2 lo c nb rb E (s.count n) := h2
  have h3 := h2.drew
  obtain ⟨d0, d1, d2, df⟩ := h3.cells
  obtain ⟨m3, hm3, hr3⟩ := h3.rules
  have hget3 := hr3.get u81 u3 (z3 _) n.1 hn
  have lk : look n.1 (s.count n).rules = some ((look n.1 s.rules).getD 0 + 1) := by simp [Ck.count, look_cons]
  rw [lk] at hget3
  have g6 := h3.gl 6 (by omega) (by omega)
  have q0 : w2.drew.cell? ⟨w.heap.size, 0, none⟩ = some (.int .i64 p) := by simp [World.cell?, show w2.drew.heap[w.heap.size]? = _ from hb2]
  have q1 : w2.drew.cell? ⟨w.heap.size, 1, none⟩ = some (S n.1) := by simp [World.cell?, show w2.drew.heap[w.heap.size]? = _ from hb2, S]
  have q2 : w2.drew.cell? ⟨w.heap.size, 2, none⟩ = some (.int .i64 n.2) := by simp [World.cell?, show w2.drew.heap[w.heap.size]? = _ from hb2]
  have q3 : w2.drew.cell? ⟨w.heap.size, 3, none⟩ = some (.slice v1 v2 v3) := by simp [World.cell?, show w2.drew.heap[w.heap.size]? = _ from hb2]
  have K3 : Kp c nb rb w w2.drew := (B1.trans K2).drew
  by_cases hcn : (look n.1 s.rules).getD 0 + 1 > 1
  · rw [show s.rule1 p n = (s.count n).fault 6 p from if_pos hcn] at HS
    have HS : Hid ((((s.count n).fault 6 p).rule2 n).block 8 x = s') := HS
    go_enter Tryd.func19, Tryd.ntmps19
    go_wp2_with fail
    go_region
    all_goals go_wp2_with fail
    go_region
    go_wp2_with fail
    refine (cfault_any h3 6 p).mono ?_
    rintro e w4 ⟨rfl, h4, K4⟩
    have hb4 : w4.heap[w.heap.size]? = some (.cells (ruA p n (.slice v1 v2 v3)) 77) := (K4.block _ z2 (by omega) (by omega) (by omega)).trans hb2
    have z4 : w.heap.size < w4.heap.size := (Array.getElem?_eq_some_iff.1 hb4).1
    replace HS := HS.out
    clear q0 q1 q2 q3
    by_cases hmi : n.1 = [109, 105, 115, 115]
    · rw [show ((s.count n).fault 6 p).rule2 n = (s.count n).fault 6 p from if_pos hmi] at HS
      have a1 : (n.1 == [109, 105, 115, 115]) = true := by simp [hmi]
      clear hmi
      subst HS
      have q0 : w4.cell? ⟨w.heap.size, 0, none⟩ = some (.int .i64 p) := by simp [World.cell?, hb4]
      have q1 : w4.cell? ⟨w.heap.size, 1, none⟩ = some (S n.1) := by simp [World.cell?, hb4, S]
      have q2 : w4.cell? ⟨w.heap.size, 2, none⟩ = some (.int .i64 n.2) := by simp [World.cell?, hb4]
      have q3 : w4.cell? ⟨w.heap.size, 3, none⟩ = some (.slice v1 v2 v3) := by simp [World.cell?, hb4]
      go_wp2_with fail
      refine (cblk_all 8 _ _ _ _ _ _ _ _ _ h4 (SlR.kp (K3.trans K4) hlow.2.1 hlow.2.2.1 hlow.2.2.2.1 hx) hsm).mono ?_
      rintro e w9 ⟨rfl, h9, K9⟩
      go_wp2_with fail
      exact end0 rfl rfl ⟨rfl, h9, (K3.trans K4).trans K9⟩
    · rw [show ((s.count n).fault 6 p).rule2 n = ((s.count n).fault 6 p).use n 0 from if_neg hmi] at HS
      have a1 : (n.1 == [109, 105, 115, 115]) = false := by simp [hmi]
      clear hmi
      subst HS
      have q0 : w4.cell? ⟨w.heap.size, 0, none⟩ = some (.int .i64 p) := by simp [World.cell?, hb4]
      have q1 : w4.cell? ⟨w.heap.size, 1, none⟩ = some (S n.1) := by simp [World.cell?, hb4, S]
      have q2 : w4.cell? ⟨w.heap.size, 2, none⟩ = some (.int .i64 n.2) := by simp [World.cell?, hb4]
      have q3 : w4.cell? ⟨w.heap.size, 3, none⟩ = some (.slice v1 v2 v3) := by simp [World.cell?, hb4]
      go_wp2_with fail
      refine (cuse_any h4 n 0 hn).mono ?_
      rintro e w5 ⟨rfl, h5, K5⟩
      have hb5 : w5.heap[w.heap.size]? = some (.cells (ruA p n (.slice v1 v2 v3)) 77) := (K5.block _ z4 (by omega) (by omega) (by omega)).trans hb4
      have q35 : w5.cell? ⟨w.heap.size, 3, none⟩ = some (.slice v1 v2 v3) := by simp [World.cell?, hb5]
      go_wp2_with fail
      refine (cblk_all 8 _ _ _ _ _ _ _ _ _ h5 (SlR.kp ((K3.trans K4).trans K5) hlow.2.1 hlow.2.2.1 hlow.2.2.2.1 hx) hsm).mono ?_
      rintro e w9 ⟨rfl, h9, K9⟩
      go_wp2_with fail
      exact end0 rfl rfl ⟨rfl, h9, ((K3.trans K4).trans K5).trans K9⟩
  · rw [show s.rule1 p n = s.count n from if_neg hcn] at HS
    clear q0 q1 q2 q3
    have hbd : w2.drew.heap[w.heap.size]? = some (.cells (ruA p n (.slice v1 v2 v3)) 77) := hb2
    have zd : w.heap.size < w2.drew.heap.size := z2
    by_cases hmi : n.1 = [109, 105, 115, 115]
    · rw [show (s.count n).rule2 n = s.count n from if_pos hmi] at HS
      have a1 : (n.1 == [109, 105, 115, 115]) = true := by simp [hmi]
      clear hmi
      subst HS
      have q0 : w2.drew.cell? ⟨w.heap.size, 0, none⟩ = some (.int .i64 p) := by simp [World.cell?, hbd]
      have q1 : w2.drew.cell? ⟨w.heap.size, 1, none⟩ = some (S n.1) := by simp [World.cell?, hbd, S]
      have q2 : w2.drew.cell? ⟨w.heap.size, 2, none⟩ = some (.int .i64 n.2) := by simp [World.cell?, hbd]
      have q3 : w2.drew.cell? ⟨w.heap.size, 3, none⟩ = some (.slice v1 v2 v3) := by simp [World.cell?, hbd]
      go_enter Tryd.func19, Tryd.ntmps19
      go_wp2_with fail
      go_region
      all_goals go_wp2_with fail
      go_region
      go_wp2_with fail
      refine (cblk_all 8 _ _ _ _ _ _ _ _ _ h3 (SlR.kp (K3) hlow.2.1 hlow.2.2.1 hlow.2.2.2.1 hx) hsm).mono ?_
      rintro e w9 ⟨rfl, h9, K9⟩
      go_wp2_with fail
      exact end0 rfl rfl ⟨rfl, h9, (K3).trans K9⟩
    · rw [show (s.count n).rule2 n = (s.count n).use n 0 from if_neg hmi] at HS
      have a1 : (n.1 == [109, 105, 115, 115]) = false := by simp [hmi]
      clear hmi
      subst HS
      have q0 : w2.drew.cell? ⟨w.heap.size, 0, none⟩ = some (.int .i64 p) := by simp [World.cell?, hbd]
      have q1 : w2.drew.cell? ⟨w.heap.size, 1, none⟩ = some (S n.1) := by simp [World.cell?, hbd, S]
      have q2 : w2.drew.cell? ⟨w.heap.size, 2, none⟩ = some (.int .i64 n.2) := by simp [World.cell?, hbd]
      have q3 : w2.drew.cell? ⟨w.heap.size, 3, none⟩ = some (.slice v1 v2 v3) := by simp [World.cell?, hbd]
      go_enter Tryd.func19, Tryd.ntmps19
      go_wp2_with fail
      go_region
      all_goals go_wp2_with fail
      go_region
      go_wp2_with fail
      refine (cuse_any h3 n 0 hn).mono ?_
      rintro e w5 ⟨rfl, h5, K5⟩
      have hb5 : w5.heap[w.heap.size]? = some (.cells (ruA p n (.slice v1 v2 v3)) 77) := (K5.block _ zd (by omega) (by omega) (by omega)).trans hbd
      have q35 : w5.cell? ⟨w.heap.size, 3, none⟩ = some (.slice v1 v2 v3) := by simp [World.cell?, hb5]
      go_wp2_with fail
      refine (cblk_all 8 _ _ _ _ _ _ _ _ _ h5 (SlR.kp ((K3).trans K5) hlow.2.1 hlow.2.2.1 hlow.2.2.2.1 hx) hsm).mono ?_
      rintro e w9 ⟨rfl, h9, K9⟩
      go_wp2_with fail
      exact end0 rfl rfl ⟨rfl, h9, ((K3).trans K5).trans K9⟩
end Go.Proofs.YtippenbbibfmdabDoor
