import Derived.Test.YtippenbbibfmdabDoorW42
import Derived.Test.YtippenbbibfmdabDoorW43
namespace Go.Proofs.YtippenbbibfmdabDoor
open Go.RowKit

theorem pick_any (c : Int) (w : World) (h1 : -9223372036854775808 ≤ c) (h2 : c ≤ 9223372036854775807) :
    Calls Tryd.prog 5 #[.int .i64 c, .int .i64 81] w fun e w' => ∃ k : Nat, k < 81 ∧ e = .returned (.int .i64 k) ∧ w' = w := by
  by_cases h : c < 0
  · have h4 : (-(c + 1)).tmod 81 = -(c + 1) % 81 := Int.tmod_eq_emod_of_nonneg (by omega)
    go_enter Tryd.func5, Tryd.ntmps5
    go_wp2_with fail
    go_ret
    refine ⟨(-(c + 1) % 81).toNat, by omega, ?_, rfl⟩
    have h3 : ((-(c + 1) % 81).toNat : Int) = -(c + 1) % 81 := by omega
    rw [h3]
    first | rfl | rw [← h4] | (congr 3; omega)
  · have h4 : c.tmod 81 = c % 81 := Int.tmod_eq_emod_of_nonneg (by omega)
    go_enter Tryd.func5, Tryd.ntmps5
    go_wp2_with fail
    go_ret
    refine ⟨(c % 81).toNat, by omega, ?_, rfl⟩
    have h3 : ((c % 81).toNat : Int) = c % 81 := by omega
    rw [h3]
    first | rfl | rw [← h4] | (congr 3; omega)

theorem enoS_pos (i : Nat) : 0 < enoS i := by
  unfold enoS
  repeat' split
  all_goals decide

theorem flatF_at : ∀ (L : List (List UInt8 × Nat × Nat)) (k : Nat) r, L[k]? = some r → ∀ j u, ([S r.1, .int .i64 r.2.1, .int .i64 r.2.2] : List Value)[j]? = some u → (flatF L)[k * 3 + j]? = some u := by
  intro L
  induction L with
  | nil => intro k r h; simp at h
  | cons q qs ih =>
    intro k r h j u hu
    have hj : j < 3 := by
      have := (List.getElem?_eq_some_iff.1 hu).1
      simpa using this
    cases k with
    | zero =>
      simp only [List.getElem?_cons_zero, Option.some.injEq] at h
      subst h
      simp only [flatF, List.flatMap_cons, Nat.zero_mul, Nat.zero_add]
      rw [List.getElem?_append_left (by simpa using hj)]
      exact hu
    | succ k =>
      simp only [flatF, List.flatMap_cons]
      rw [List.getElem?_append_right (by simp; omega)]
      have := ih k r (by simpa using h) j u hu
      simp only [flatF] at this
      rw [← this]
      congr 1
      simp
      omega

set_option maxRecDepth 20000 in
set_option maxHeartbeats 1000000 in
theorem refuses_any (c : Int) (h1 : -9223372036854775808 ≤ c) (h2 : c ≤ 9223372036854775807) {w : World} {A : Nat → Addr} (SS : Sent w A) :
    Calls Tryd.prog 3 #[.int .i64 c] w fun e w' => e = .returned (.bool true) ∧ Below w.heap.size w w' := by
  go_enter Tryd.func3, Tryd.ntmps3
  go_wp2_with fail
  refine (faults_any w).mono ?_
  rintro e w1 ⟨n, rfl, B1, hn, hF⟩
  go_wp2_with fail
  refine (pick_any c _ h1 h2).mono ?_
  rintro e w2 ⟨k, hk, rfl, rfl⟩
  have hr : k < faultsL.length := by rw [faultsL_len]; exact hk
  have hrow : faultsL[k]? = some faultsL[k] := List.getElem?_eq_getElem hr
  have hans := faults_right faultsL[k] (List.getElem_mem hr)
  have HL := fun o => load_any faultsL[k].1 (SS.move (B1.alloc B1.size o))
  generalize faultsL[k] = r at *
  obtain ⟨src, en, at'⟩ := r
  have hrg : w2.rangeAt n (k * 3) [S src, .int .i64 en, .int .i64 at'] := fun j u hu => by
    have := flatF_at faultsL k _ hrow j u hu
    simp [World.cell?, hF]
    exact this
  have hix : ∀ W : World, (Instr.indexAt 22 (.slice (some ⟨n, 0, none⟩) 81 81) (.int .i64 k)).run Tryd.prog W = .ok (.pointer (some ⟨n, k * 3, none⟩)) W := by
    intro W
    rw [run_indexAt_slice (h := by kernel_rfl), if_pos (by omega)]
    have : (sizeOf (Tryd.prog.elem 22)).run Tryd.prog W = .ok 3 W := by kernel_rfl
    rw [this]
    simp [Result.andThen, Addr.add]
    omega
  go_wp2_with (refine wpList_load_mid rfl 26 (.tmp 14) rfl n (k * 3) rfl [S src, .int .i64 en, .int .i64 at'] _ hrg Tryd.underlying26 rfl (by kernel_rfl) ?_)
  have hz := B1.size
  have B2 := B1.alloc hz (.cells #[S src, .int .i64 en, .int .i64 at'] 26)
  have HB := HL (.cells #[S src, .int .i64 en, .int .i64 at'] 26)
  have hb : (w2.alloc (.cells #[S src, .int .i64 en, .int .i64 at'] 26)).heap[w2.heap.size]? = some (.cells #[S src, .int .i64 en, .int .i64 at'] 26) := heap_new rfl
  clear HL SS
  refine HB.mono ?_
  clear HB
  unfold ansS at hans
  generalize readS src = rs at *
  generalize w2.alloc (.cells #[S src, .int .i64 en, .int .i64 at'] 26) = w3 at *
  rcases rs with ⟨i, p⟩ | x
  · rintro e w4 ⟨rfl, B3⟩
    simp only [Prod.mk.injEq] at hans
    obtain ⟨rfl, rfl⟩ := hans
    have hpos : 0 < enoS i := enoS_pos i
    have hb4 := (B3.block _ (Array.getElem?_eq_some_iff.1 hb).1).trans hb
    have c1 : w4.cell? ⟨w2.heap.size, 1, none⟩ = some (.int .i64 (enoS i)) := by simp [World.cell?, hb4]
    have c2 : w4.cell? ⟨w2.heap.size, 2, none⟩ = some (.int .i64 p) := by simp [World.cell?, hb4]
    generalize enoS i = en at *
    go_wp2_with fail
    go_ret
    exact ⟨by simp; omega, B2.trans (B3.mono B2.size)⟩
  · rintro e w4 ⟨g, n', vd, vr, rows, rfl, B3, hrest⟩
    simp only [Prod.mk.injEq] at hans
    obtain ⟨rfl, rfl⟩ := hans
    clear hrest
    have hb4 := (B3.block _ (Array.getElem?_eq_some_iff.1 hb).1).trans hb
    have c1 : w4.cell? ⟨w2.heap.size, 1, none⟩ = some (.int .i64 0) := by simp [World.cell?, hb4]
    have c2 : w4.cell? ⟨w2.heap.size, 2, none⟩ = some (.int .i64 0) := by simp [World.cell?, hb4]
    go_wp2_with fail
    go_ret
    exact ⟨by simp, B2.trans (B3.mono B2.size)⟩
end Go.Proofs.YtippenbbibfmdabDoor
