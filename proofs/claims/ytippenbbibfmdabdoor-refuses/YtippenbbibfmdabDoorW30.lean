import Derived.Test.YtippenbbibfmdabDoorW29
namespace Go.Proofs.YtippenbbibfmdabDoor
open Go.RowKit

def Ck.decl (s : Ck) (d : Dc) : Ck :=
  if d.word = [113, 117, 101, 117, 101] ∨ d.word = [103, 104, 111, 115, 116] then (s.declare d.name 0).bound d.num.1 d.num.2 50
  else if d.word = [118, 97, 114] then (s.declare d.name 1).bound d.num.1 d.num.2 99
  else if d.word = [102, 114, 101, 113] then
    let s1 : Ck := { s with freqs := s.freqs + 1 }
    (if s1.freqs > 1 then s1.fault 2 d.pos else s1).bound d.num.1 d.num.2 99
  else s

theorem CkAt.freq {w : World} {lo c nb rb : Nat} {E : Nat → Value} {s : Ck} (h : CkAt w lo c nb rb E s) (hfq : s.freqs < 1000) : CkAt (w.setCell ⟨c, 1, none⟩ (.int .i64 ((s.freqs + 1 : Nat) : Int))) lo c nb rb E { s with freqs := s.freqs + 1 } ∧ Kp c nb rb w (w.setCell ⟨c, 1, none⟩ (.int .i64 ((s.freqs + 1 : Nat) : Int))) := by
  obtain ⟨v, hc, hf⟩ := h.cell
  obtain ⟨n, hn, hr⟩ := h.rules
  have hne := h.ne
  have hin := h.in
  have hlow := h.low
  have K : ∀ k, k ≠ c → (w.setCell ⟨c, 1, none⟩ (.int .i64 ((s.freqs + 1 : Nat) : Int))).heap[k]? = w.heap[k]? := fun k hh => Below.heap_setCell _ _ _ _ hh
  have hz : (w.setCell ⟨c, 1, none⟩ (.int .i64 ((s.freqs + 1 : Nat) : Int))).heap.size = w.heap.size := by simp [World.setCell]
  refine ⟨⟨⟨v, (heap_setCell_same _ _ _ _ _ _ hc).trans rfl, FirstR.move hf fun f x hx => K _ ?_⟩, h.names.move (K _ hne.1.symm), ⟨n, hn, hr.move (K _ hne.2.symm)⟩, fun i h1 h2 => ?_, ⟨hlow.1, hlow.2.1, hlow.2.2.1, hlow.2.2.2.1, by rw [hz]; exact hlow.2.2.2.2⟩, ⟨h.few.1, h.few.2.1, by simp; omega⟩⟩, rfl, rfl, rfl, by rw [hz]; exact Nat.le_refl _, fun k _ h1 _ _ => K k h1⟩
  · rintro rfl
    rw [hx] at hc
    simp at hc
  · have := h.gl i h1 h2
    rw [← this]
    unfold World.cell?
    rw [K i (by omega)]

set_option maxRecDepth 20000 in
set_option maxHeartbeats 1000000 in
theorem cdecl_queue {w : World} {lo c nb rb : Nat} {E : Nat → Value} {s : Ck} (h : CkAt w lo c nb rb E s) (hd : nb ≠ rb) (x : Dc) (hn : x.name.1.length ≤ 700) (_hfq : s.freqs < 1000) (hw : x.word = [113, 117, 101, 117, 101]) :
    Calls Tryd.prog 18 #[ptr c, .agg (dcA x)] w fun e w' => OutC w lo c nb rb E (s.decl x) e w' := by
  have h1 := h.box (.cells (dcA x) 73)
  have B1 : Kp c nb rb w (w.alloc (.cells (dcA x) 73)) := (Kp.refl c nb rb w).alloc _
  have hin := h.in
  have e1 : s.decl x = (s.declare x.name 0).bound x.num.1 x.num.2 50 := by simp [Ck.decl, hw]
  rw [e1]
  clear e1
  have a_queue : (x.word == [113, 117, 101, 117, 101]) = true := by rw [hw]; rfl
  have a_ghost : (x.word == [103, 104, 111, 115, 116]) = false := by rw [hw]; rfl
  have a_var : (x.word == [118, 97, 114]) = false := by rw [hw]; rfl
  have a_freq : (x.word == [102, 114, 101, 113]) = false := by rw [hw]; rfl
  clear hw
  go_enter Tryd.func18, Tryd.ntmps18
  go_wp2_with fail
  refine (cdeclare_any h1 hd x.name 0 hn (by omega)).mono ?_
  rintro e w2 ⟨rfl, h2, K2⟩
  have hb2 : w2.heap[w.heap.size]? = some (.cells (dcA x) 73) := (K2.block _ (by first | (simp; done) | (have := K2.size; simp at this; omega)) (by omega) (by omega) (by omega)).trans (heap_new rfl)
  have q24 : w2.cell? ⟨w.heap.size, 4, none⟩ = some (.int .i64 x.num.1) := by simp [World.cell?, hb2]
  have q25 : w2.cell? ⟨w.heap.size, 5, none⟩ = some (.int .i64 x.num.2) := by simp [World.cell?, hb2]
  go_wp2_with fail
  refine (cbound_any h2 x.num.1 x.num.2 50).mono ?_
  rintro e w3 ⟨rfl, h3, K3⟩
  go_wp2_with fail
  exact end0 rfl rfl ⟨rfl, h3, (B1.trans K2).trans K3⟩

set_option maxRecDepth 20000 in
set_option maxHeartbeats 1000000 in
theorem cdecl_ghost {w : World} {lo c nb rb : Nat} {E : Nat → Value} {s : Ck} (h : CkAt w lo c nb rb E s) (hd : nb ≠ rb) (x : Dc) (hn : x.name.1.length ≤ 700) (_hfq : s.freqs < 1000) (hw : x.word = [103, 104, 111, 115, 116]) :
    Calls Tryd.prog 18 #[ptr c, .agg (dcA x)] w fun e w' => OutC w lo c nb rb E (s.decl x) e w' := by
  have h1 := h.box (.cells (dcA x) 73)
  have B1 : Kp c nb rb w (w.alloc (.cells (dcA x) 73)) := (Kp.refl c nb rb w).alloc _
  have hin := h.in
  have e1 : s.decl x = (s.declare x.name 0).bound x.num.1 x.num.2 50 := by simp [Ck.decl, hw]
  rw [e1]
  clear e1
  have a_queue : (x.word == [113, 117, 101, 117, 101]) = false := by rw [hw]; rfl
  have a_ghost : (x.word == [103, 104, 111, 115, 116]) = true := by rw [hw]; rfl
  have a_var : (x.word == [118, 97, 114]) = false := by rw [hw]; rfl
  have a_freq : (x.word == [102, 114, 101, 113]) = false := by rw [hw]; rfl
  clear hw
  go_enter Tryd.func18, Tryd.ntmps18
  go_wp2_with fail
  refine (cdeclare_any h1 hd x.name 0 hn (by omega)).mono ?_
  rintro e w2 ⟨rfl, h2, K2⟩
  have hb2 : w2.heap[w.heap.size]? = some (.cells (dcA x) 73) := (K2.block _ (by first | (simp; done) | (have := K2.size; simp at this; omega)) (by omega) (by omega) (by omega)).trans (heap_new rfl)
  have q24 : w2.cell? ⟨w.heap.size, 4, none⟩ = some (.int .i64 x.num.1) := by simp [World.cell?, hb2]
  have q25 : w2.cell? ⟨w.heap.size, 5, none⟩ = some (.int .i64 x.num.2) := by simp [World.cell?, hb2]
  go_wp2_with fail
  refine (cbound_any h2 x.num.1 x.num.2 50).mono ?_
  rintro e w3 ⟨rfl, h3, K3⟩
  go_wp2_with fail
  exact end0 rfl rfl ⟨rfl, h3, (B1.trans K2).trans K3⟩

set_option maxRecDepth 20000 in
set_option maxHeartbeats 1000000 in
theorem cdecl_var {w : World} {lo c nb rb : Nat} {E : Nat → Value} {s : Ck} (h : CkAt w lo c nb rb E s) (hd : nb ≠ rb) (x : Dc) (hn : x.name.1.length ≤ 700) (_hfq : s.freqs < 1000) (hw : x.word = [118, 97, 114]) :
    Calls Tryd.prog 18 #[ptr c, .agg (dcA x)] w fun e w' => OutC w lo c nb rb E (s.decl x) e w' := by
  have h1 := h.box (.cells (dcA x) 73)
  have B1 : Kp c nb rb w (w.alloc (.cells (dcA x) 73)) := (Kp.refl c nb rb w).alloc _
  have hin := h.in
  have e1 : s.decl x = (s.declare x.name 1).bound x.num.1 x.num.2 99 := by simp [Ck.decl, hw]
  rw [e1]
  clear e1
  have a_queue : (x.word == [113, 117, 101, 117, 101]) = false := by rw [hw]; rfl
  have a_ghost : (x.word == [103, 104, 111, 115, 116]) = false := by rw [hw]; rfl
  have a_var : (x.word == [118, 97, 114]) = true := by rw [hw]; rfl
  have a_freq : (x.word == [102, 114, 101, 113]) = false := by rw [hw]; rfl
  clear hw
  go_enter Tryd.func18, Tryd.ntmps18
  go_wp2_with fail
  refine (cdeclare_any h1 hd x.name 1 hn (by omega)).mono ?_
  rintro e w2 ⟨rfl, h2, K2⟩
  have hb2 : w2.heap[w.heap.size]? = some (.cells (dcA x) 73) := (K2.block _ (by first | (simp; done) | (have := K2.size; simp at this; omega)) (by omega) (by omega) (by omega)).trans (heap_new rfl)
  have q24 : w2.cell? ⟨w.heap.size, 4, none⟩ = some (.int .i64 x.num.1) := by simp [World.cell?, hb2]
  have q25 : w2.cell? ⟨w.heap.size, 5, none⟩ = some (.int .i64 x.num.2) := by simp [World.cell?, hb2]
  go_wp2_with fail
  refine (cbound_any h2 x.num.1 x.num.2 99).mono ?_
  rintro e w3 ⟨rfl, h3, K3⟩
  go_wp2_with fail
  exact end0 rfl rfl ⟨rfl, h3, (B1.trans K2).trans K3⟩

set_option maxRecDepth 20000 in
set_option maxHeartbeats 1000000 in
theorem cdecl_freq {w : World} {lo c nb rb : Nat} {E : Nat → Value} {s : Ck} (h : CkAt w lo c nb rb E s) (_hd : nb ≠ rb) (x : Dc) (_hn : x.name.1.length ≤ 700) (hfq : s.freqs < 1000) (hw : x.word = [102, 114, 101, 113]) :
    Calls Tryd.prog 18 #[ptr c, .agg (dcA x)] w fun e w' => OutC w lo c nb rb E (s.decl x) e w' := by
  have h1 := h.box (.cells (dcA x) 73)
  have B1 : Kp c nb rb w (w.alloc (.cells (dcA x) 73)) := (Kp.refl c nb rb w).alloc _
  have hin := h.in
  have a_queue : (x.word == [113, 117, 101, 117, 101]) = false := by rw [hw]; rfl
  have a_ghost : (x.word == [103, 104, 111, 115, 116]) = false := by rw [hw]; rfl
  have a_var : (x.word == [118, 97, 114]) = false := by rw [hw]; rfl
  have a_freq : (x.word == [102, 114, 101, 113]) = true := by rw [hw]; rfl
  have h0 := h.freq hfq
  have e2 : ((s.freqs + 1 : Nat) : Int) = (s.freqs : Int) + 1 := by omega
  rw [e2] at h0
  obtain ⟨h2, K2⟩ := h0
  have h2 := h2.box (.cells (dcA x) 73)
  have K2 := K2.alloc (.cells (dcA x) 73)
  have hb : ((w.setCell ⟨c, 1, none⟩ (.int .i64 ((s.freqs : Int) + 1))).alloc (.cells (dcA x) 73)).heap[w.heap.size]? = some (.cells (dcA x) 73) := heap_new (by simp [World.setCell])
  have z2 : w.heap.size < ((w.setCell ⟨c, 1, none⟩ (.int .i64 ((s.freqs : Int) + 1))).alloc (.cells (dcA x) 73)).heap.size := by simp [World.setCell]
  obtain ⟨c0, c1, c2, cf⟩ := h1.cells
  by_cases hm : s.freqs + 1 > 1
  · have e1 : s.decl x = (({ s with freqs := s.freqs + 1 } : Ck).fault 2 x.pos).bound x.num.1 x.num.2 99 := by
      simp only [Ck.decl, hw]; rw [if_neg (by decide), if_neg (by decide), if_pos trivial, if_pos hm]
    rw [e1]
    clear e1 hw
    go_enter Tryd.func18, Tryd.ntmps18
    go_upto_region 11 with fail
    generalize ((w.setCell ⟨c, 1, none⟩ (.int .i64 ((s.freqs : Int) + 1))).alloc (.cells (dcA x) 73)) = w2 at *
    obtain ⟨d0, d1, d2, df⟩ := h2.cells
    have g3 := h2.gl 2 (by omega) (by omega)
    have q1 : w2.cell? ⟨w.heap.size, 1, none⟩ = some (.int .i64 x.pos) := by simp [World.cell?, hb]
    go_wp2_with fail
    refine (cfault_any h2 2 x.pos).mono ?_
    rintro e w3 ⟨rfl, h3, K3⟩
    have hb3 : w3.heap[w.heap.size]? = some (.cells (dcA x) 73) := (K3.block _ z2 (by omega) (by omega) (by omega)).trans hb
    have q4 : w3.cell? ⟨w.heap.size, 4, none⟩ = some (.int .i64 x.num.1) := by simp [World.cell?, hb3]
    have q5 : w3.cell? ⟨w.heap.size, 5, none⟩ = some (.int .i64 x.num.2) := by simp [World.cell?, hb3]
    go_wp2_with fail
    refine (cbound_any h3 x.num.1 x.num.2 99).mono ?_
    rintro e w4 ⟨rfl, h4, K4⟩
    go_wp2_with fail
    exact end0 rfl rfl ⟨rfl, h4, (K2.trans K3).trans K4⟩
  · have e1 : s.decl x = ({ s with freqs := s.freqs + 1 } : Ck).bound x.num.1 x.num.2 99 := by
      simp only [Ck.decl, hw]; rw [if_neg (by decide), if_neg (by decide), if_pos trivial, if_neg hm]
    rw [e1]
    clear e1 hw
    go_enter Tryd.func18, Tryd.ntmps18
    go_upto_region 11 with fail
    generalize ((w.setCell ⟨c, 1, none⟩ (.int .i64 ((s.freqs : Int) + 1))).alloc (.cells (dcA x) 73)) = w2 at *
    obtain ⟨d0, d1, d2, df⟩ := h2.cells
    have q4 : w2.cell? ⟨w.heap.size, 4, none⟩ = some (.int .i64 x.num.1) := by simp [World.cell?, hb]
    have q5 : w2.cell? ⟨w.heap.size, 5, none⟩ = some (.int .i64 x.num.2) := by simp [World.cell?, hb]
    go_wp2_with fail
    refine (cbound_any h2 x.num.1 x.num.2 99).mono ?_
    rintro e w4 ⟨rfl, h4, K4⟩
    go_wp2_with fail
    exact end0 rfl rfl ⟨rfl, h4, K2.trans K4⟩

set_option maxRecDepth 20000 in
set_option maxHeartbeats 1000000 in
theorem cdecl_any {w : World} {lo c nb rb : Nat} {E : Nat → Value} {s : Ck} (h : CkAt w lo c nb rb E s) (hd : nb ≠ rb) (x : Dc) (hn : x.name.1.length ≤ 700) (hfq : s.freqs < 1000) :
    Calls Tryd.prog 18 #[ptr c, .agg (dcA x)] w fun e w' => OutC w lo c nb rb E (s.decl x) e w' := by
  have h1 := h.box (.cells (dcA x) 73)
  have B1 : Kp c nb rb w (w.alloc (.cells (dcA x) 73)) := (Kp.refl c nb rb w).alloc _
  have hin := h.in
  by_cases w_queue : x.word = [113, 117, 101, 117, 101]
  · exact cdecl_queue h hd x hn hfq w_queue
  by_cases w_ghost : x.word = [103, 104, 111, 115, 116]
  · exact cdecl_ghost h hd x hn hfq w_ghost
  by_cases w_var : x.word = [118, 97, 114]
  · exact cdecl_var h hd x hn hfq w_var
  by_cases w_freq : x.word = [102, 114, 101, 113]
  · exact cdecl_freq h hd x hn hfq w_freq
  have e1 : s.decl x = s := by simp [Ck.decl, w_queue, w_ghost, w_var, w_freq]
  rw [e1]
  clear e1
  have a_queue : (x.word == [113, 117, 101, 117, 101]) = false := by simp [w_queue]
  have a_ghost : (x.word == [103, 104, 111, 115, 116]) = false := by simp [w_ghost]
  have a_var : (x.word == [118, 97, 114]) = false := by simp [w_var]
  have a_freq : (x.word == [102, 114, 101, 113]) = false := by simp [w_freq]
  clear w_queue w_ghost w_var w_freq
  go_enter Tryd.func18, Tryd.ntmps18
  go_wp2_with fail
  exact end0 rfl rfl ⟨rfl, h1, B1⟩
end Go.Proofs.YtippenbbibfmdabDoor
