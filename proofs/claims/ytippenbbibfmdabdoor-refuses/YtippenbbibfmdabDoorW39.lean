import Derived.Test.YtippenbbibfmdabDoorW38
namespace Go.Proofs.YtippenbbibfmdabDoor
open Go.RowKit

set_option maxRecDepth 20000 in
set_option maxHeartbeats 2000000 in
theorem errno_any {w : World} {A : Nat → Addr} (S : Sent w A) (f i : Nat) (i1 : i < 11) (i2 : i ≠ 9) (hf : w.cell? ⟨f, 0, none⟩ = some (.iface 143 (.pointer (some (A i))))) :
    Calls Tryd.prog 8 #[.iface 42 (.pointer (some ⟨f, 0, none⟩))] w fun e w' => e = .returned (.int .i64 (enoS i)) ∧ w' = w := by
  have g0 := S.g 0 (by omega) (by omega)
  have g1 := S.g 1 (by omega) (by omega)
  have g2 := S.g 2 (by omega) (by omega)
  have g3 := S.g 3 (by omega) (by omega)
  have g4 := S.g 4 (by omega) (by omega)
  have g5 := S.g 5 (by omega) (by omega)
  have g6 := S.g 6 (by omega) (by omega)
  have g7 := S.g 7 (by omega) (by omega)
  have g8 := S.g 8 (by omega) (by omega)
  have hI := is_idx S f i
  have hc : i = 0 ∨ i = 1 ∨ i = 2 ∨ i = 3 ∨ i = 4 ∨ i = 5 ∨ i = 6 ∨ i = 7 ∨ i = 8 ∨ i = 10 := by omega
  rcases hc with rfl | rfl | rfl | rfl | rfl | rfl | rfl | rfl | rfl | rfl
  all_goals
    go_enter Tryd.func8, Tryd.ntmps8
    go_wp2_with (go_at_call 12; refine (is_idx S f _ _ i1 i2 (by decide) (by decide) hf).mono ?_; rintro e w' ⟨rfl, rfl⟩)
    go_ret
    exact ⟨rfl, rfl⟩

set_option maxRecDepth 20000 in
set_option maxHeartbeats 2000000 in
theorem place_any {w : World} {A : Nat → Addr} (S : Sent w A) (f p : Nat) (x : Value) (hf : w.heap[f]? = some (.cells #[x, .int .i64 p] 44)) :
    Calls Tryd.prog 9 #[.iface 42 (.pointer (some ⟨f, 0, none⟩))] w fun e w' => e = .returned (.int .i64 p) ∧ Below w.heap.size w w' := by
  have hg : (w.alloc (.cells #[.pointer none] 42)).cell? ⟨9, 0, none⟩ = some (.iface 105 (.agg #[.pointer (some ⟨12, 35, none⟩)])) := by
    rw [World.cell?_alloc_lt _ _ ⟨9, 0, none⟩ (cell_lt S.e)]; exact S.e
  have hlt : f < w.heap.size := (Array.getElem?_eq_some_iff.1 hf).1
  go_enter Tryd.func9, Tryd.ntmps9
  go_wp2_with fail
  refine (as_hit ⟨f, 0, none⟩ ⟨w.heap.size, 0, none⟩ (.pointer none) _ hg (by simp) (by simp)).mono ?_
  rintro e w2 ⟨rfl, e2⟩
  have hc : w2.cell? ⟨w.heap.size, 0, none⟩ = some (.pointer (some ⟨f, 0, none⟩)) := by
    rw [e2]
    refine World.cell?_setCell_same _ _ _ (u := .pointer none) ?_
    have h0 : w.heap.size < (w.alloc (.cells #[.pointer none] 42)).heap.size := by simp
    rw [World.cell?_alloc_lt _ _ ⟨w.heap.size, 0, none⟩ (by first | (simp; done) | (simp; omega)), World.cell?_alloc_lt _ _ ⟨w.heap.size, 0, none⟩ (by first | (simp; done) | (simp; omega)), World.cell?_alloc_lt _ _ ⟨w.heap.size, 0, none⟩ (by first | (simp; done) | (simp; omega)), World.cell?_alloc_lt _ _ ⟨w.heap.size, 0, none⟩ (by first | (simp; done) | (simp; omega))]
    simp
  have hB : Below w.heap.size w w2 := by
    rw [e2]
    refine Below.setCell (p := ⟨w.heap.size, 0, none⟩) ?_ (Nat.le_refl _) _
    exact ((((((Below.refl _ w).alloc (Nat.le_refl _) _).alloc (by first | (simp; done) | (simp; omega)) _).alloc (by first | (simp; done) | (simp; omega)) _).alloc (by first | (simp; done) | (simp; omega)) _).alloc (by first | (simp; done) | (simp; omega)) _)
  clear e2
  have hp : w2.cell? ⟨f, 1, none⟩ = some (.int .i64 p) := by
    rw [hB.cell (p := ⟨f, 1, none⟩) hlt]; simp [World.cell?, hf]
  go_wp2_with fail
  go_ret
  exact ⟨rfl, hB⟩

/-- What Load answers. -/
def OutL (w : World) (r : Except (Nat × Nat) (List Dc × List (Nat × NP × BT 8))) (e : Ending) (w' : World) : Prop :=
  match r with
  | .ok x => ∃ g n vd vr rows, e = .returned (.tuple #[ptr g, .int .i64 0, .int .i64 0]) ∧ Below w.heap.size w w' ∧ w.heap.size ≤ g ∧ w'.heap[g]? = some (.cells #[ptr n] 41) ∧ w.heap.size ≤ n ∧ w'.heap[n]? = some (.cells #[vd, vr] 67) ∧ w'.ownsRow (n + 1) 73 6 vd x.1.length (flatD x.1) ∧ w'.ownsRow (n + 1) 77 4 vr rows.length (flatU rows) ∧ RelU (SlR 8 w' (fun g => n + 1 ≤ g)) rows x.2
  | .error (i, p) => e = .returned (.tuple #[.pointer none, .int .i64 (enoS i), .int .i64 p]) ∧ Below w.heap.size w w'

set_option maxRecDepth 20000 in
set_option maxHeartbeats 1000000 in
theorem load_any (l : List UInt8) {w : World} {A : Nat → Addr} (SS : Sent w A) :
    Calls Tryd.prog 6 #[S l] w fun e w' => OutL w (readS l) e w' := by
  have HP := read_any l w (fun i => .pointer (some (A i))) SS.g
  have hR : ∀ i p, readS l = .error (i, p) → i < 11 ∧ i ≠ 9 := fun i p h => readS_err h
  generalize readS l = r at *
  go_enter Tryd.func6, Tryd.ntmps6
  go_wp2_with fail
  refine HP.mono ?_
  clear HP
  rcases r with ⟨i, p⟩ | x
  · rintro e w1 ⟨f, rfl, B1, hf, hF⟩
    obtain ⟨i1, i2⟩ := hR i p rfl
    have S1 := SS.move B1
    have hc : w1.cell? ⟨f, 0, none⟩ = some (.iface 143 (.pointer (some (A i)))) := by simp [World.cell?, hF]
    have HE := errno_any S1 f i i1 i2 hc
    have HL := place_any S1 f p _ hF
    have z1 := B1.size
    clear hR SS
    go_wp2_with fail
    refine HE.mono ?_
    rintro e w2 ⟨rfl, rfl⟩
    go_wp2_with fail
    refine HL.mono ?_
    rintro e w3 ⟨rfl, B3⟩
    go_wp2_with fail
    exact bodyPost_ret (v := .tuple #[.pointer none, .int .i64 (enoS i), .int .i64 p]) (by simp [results, Tryd.results6, go_sem]) rfl ⟨rfl, B1.trans (B3.mono z1)⟩
  · rintro e w1 ⟨n, vd, vr, rows, rfl, B1, hn, hP, hod, hou, hrel⟩
    have z1 := B1.size
    clear hR SS
    go_wp2_with fail
    exact bodyPost_ret (v := .tuple #[ptr w1.heap.size, .int .i64 0, .int .i64 0]) (by simp [results, Tryd.results6, go_sem]) rfl ⟨w1.heap.size, n, vd, vr, rows, rfl, B1.alloc z1 _, z1, heap_new rfl, hn, (Below.heap_alloc _ _ n (Array.getElem?_eq_some_iff.1 hP).1).trans hP, ownsRow_moveB hod (fun g _ hl => Below.heap_alloc _ _ g hl), ownsRow_moveB hou (fun g _ hl => Below.heap_alloc _ _ g hl), RelU.mono (fun v x h => SlR.move 8 (fun g _ hl => Below.heap_alloc _ _ g hl) v x h) _ _ hrel⟩
end Go.Proofs.YtippenbbibfmdabDoor
