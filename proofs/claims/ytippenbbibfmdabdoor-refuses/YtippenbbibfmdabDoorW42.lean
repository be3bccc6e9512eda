import Derived.Test.YtippenbbibfmdabDoorW40
namespace Go.Proofs.YtippenbbibfmdabDoor
open Go.RowKit

/-- A run of plain operations, by computing. -/
def runL (P : Program) : List Oper → Act → World → Option (Act × World)
  | [], a, w => some (a, w)
  | o :: rest, a, w => match o.guard with
    | some _ => none
    | none => match (execOp a.eval o).run P w with
      | .ok (.value v) w' => runL P rest (a.put o.dst v) w'
      | _ => none

theorem wpList_runL {P : Program} {ops : Array Oper} {Q : Exit → Act → World → Prop} : ∀ (l : List Oper) (a : Act) (w : World) (a' : Act) (w' : World), runL P l a w = some (a', w') → Q .normal a' w' → wpList P ops Q l a w
  | [], a, w, a', w', h, hq => by
    simp only [runL, Option.some.injEq, Prod.mk.injEq] at h
    obtain ⟨rfl, rfl⟩ := h
    exact hq
  | o :: rest, a, w, a', w', h, hq => by
    unfold runL at h
    cases hg : o.guard with
    | some g => rw [hg] at h; simp at h
    | none =>
      rw [hg] at h
      simp only at h
      refine BigFrame.wpList_want (by simp [Region.wanted, hg]) ?_
      intro K hK
      unfold Oper.wp
      cases hr : (execOp a.eval o).run P w with
      | halt e w1 => rw [hr] at h; simp at h
      | ok x w1 =>
        rw [hr] at h
        cases x with
        | value v => exact hK _ _ (wpList_runL rest _ _ _ _ h hq)
        | _ => simp at h

theorem wpList_calc {P : Program} {ops : Array Oper} {Q : Exit → Act → World → Prop} {l : List Oper} {a : Act} {w w' : World} {v : Value}
    (h : (runL P l a w).map (fun p => (p.1.tmps.getD 0 undef, p.1.defers.length, p.2)) = some (v, 0, w')) (k : ∀ a' : Act, a'.tmps.getD 0 undef = v → a'.defers = [] → Q .normal a' w') : wpList P ops Q l a w := by
  obtain ⟨⟨a', w2⟩, h1, h2⟩ := Option.map_eq_some_iff.1 h
  simp only [Prod.mk.injEq] at h2
  obtain ⟨h2, h3, rfl⟩ := h2
  exact wpList_runL _ _ _ _ _ h1 (k a' h2 (List.eq_nil_of_length_eq_zero h3))

/-- The cells, as the program makes them. -/
def cellsF : Array Value := ([S (longB 678), .int .i64 0, .int .i64 0,
  .string (⟨(longB 678).toArray⟩ ++ ⟨#[32]⟩), .int .i64 1, .int .i64 0,
  .string (⟨(deepB 7).toArray⟩ ++ ⟨#[123, 32, 125]⟩ ++ ⟨(closedB 7).toArray⟩), .int .i64 0, .int .i64 0,
  .string (⟨(deepB 7).toArray⟩ ++ ⟨#[123, 32, 105, 102, 32, 102, 117, 108, 108, 32, 114, 32, 123, 32, 125, 32, 125]⟩ ++ ⟨(closedB 7).toArray⟩), .int .i64 3, .int .i64 115,
  .string (⟨(manyB 8).toArray⟩ ++ ⟨#[111, 110, 32, 109, 105, 115, 115, 32, 123, 32, 125]⟩), .int .i64 0, .int .i64 0,
  .string (⟨(manyB 8).toArray⟩ ++ ⟨#[118, 97, 114, 32, 120, 32, 49, 59, 32, 111, 110, 32, 109, 105, 115, 115, 32, 123, 32, 125]⟩), .int .i64 9, .int .i64 100,
  .string (⟨(manyB 8).toArray⟩ ++ ⟨#[102, 114, 101, 113, 32, 49, 59, 32, 111, 110, 32, 109, 105, 115, 115, 32, 123, 32, 125]⟩), .int .i64 0, .int .i64 0] ++ flatF faultsK).toArray

theorem cellsF_eq : cellsF = (flatF faultsL).toArray := by
  unfold cellsF
  have e2 := bapp (longB 678) [32]
  have e3 := bapp (deepB 7) [123, 32, 125]
  have e3' := bapp (deepB 7 ++ [123, 32, 125]) (closedB 7)
  have e4 := bapp (deepB 7) [123, 32, 105, 102, 32, 102, 117, 108, 108, 32, 114, 32, 123, 32, 125, 32, 125]
  have e4' := bapp (deepB 7 ++ [123, 32, 105, 102, 32, 102, 117, 108, 108, 32, 114, 32, 123, 32, 125, 32, 125]) (closedB 7)
  have e5 := bapp (manyB 8) [111, 110, 32, 109, 105, 115, 115, 32, 123, 32, 125]
  have e6 := bapp (manyB 8) [118, 97, 114, 32, 120, 32, 49, 59, 32, 111, 110, 32, 109, 105, 115, 115, 32, 123, 32, 125]
  have e7 := bapp (manyB 8) [102, 114, 101, 113, 32, 49, 59, 32, 111, 110, 32, 109, 105, 115, 115, 32, 123, 32, 125]
  rw [e2, e3, e3', e4, e4', e5, e6, e7]
  rfl

set_option maxRecDepth 20000 in
set_option maxHeartbeats 1000000 in
theorem faults_any (w : World) :
    Calls Tryd.prog 4 #[] w fun e w' => ∃ n, e = .returned (.slice (some ⟨n, 0, none⟩) 81 81) ∧ Below w.heap.size w w' ∧ w.heap.size ≤ n ∧ w'.heap[n]? = some (.cells (flatF faultsL).toArray 26) := by
  go_enter Tryd.func4, Tryd.ntmps4
  go_wp2_with fail
  go_loopg [1] 678 (fun f v wr => ∃ k, k + f = 678 ∧ v = S (longB k) ∧ wr = w)
  case atStart => exact ⟨0, rfl, rfl, rfl⟩
  case round =>
    obtain ⟨k, hk, rfl, rfl⟩ := hrel
    have hl : (longB k).length = 22 + k := by simp [longB]; omega
    by_cases hlt : k < 678
    · go_wp2_with fail
      go_roundg (gk - 1)
      case measure => omega
      case rel => exact ⟨k + 1, by omega, by rw [longB_succ]; exact congrArg Value.string (bapp _ _), rfl⟩
    · obtain rfl : k = 678 := by omega
      clear hlt hk hl
      have hl : (longB 678).length = 700 := by simp [longB]
      generalize hL : longB 678 = L at *
      go_wp2_with fail
      go_loopg [2, 3, 4] 7 (fun f v2 v3 v4 wr2 => ∃ k, k + f = 7 ∧ v2 = S (deepB k) ∧ v3 = S (closedB k) ∧ v4 = .int .i64 k ∧ wr2 = wr)
      case atStart => exact ⟨0, rfl, rfl, rfl, rfl, rfl⟩
      case round =>
        obtain ⟨k, hk, rfl, rfl, rfl, rfl⟩ := hrel
        have h2 : (deepB k).length = 19 + 12 * k := by simp [deepB]; omega
        have h3 : (closedB k).length = 2 * k := by simp [closedB]; omega
        by_cases hlt : k < 7
        · go_wp2_with fail
          go_roundg (gk - 1)
          case measure => omega
          case rel => exact ⟨k + 1, by omega, by rw [deepB_succ]; exact congrArg Value.string (bapp _ _), by rw [closedB_succ]; exact congrArg Value.string (bapp _ _), by simp, rfl⟩
        · obtain rfl : k = 7 := by omega
          clear hlt hk h2 h3
          generalize hD : deepB 7 = D at *
          generalize hC : closedB 7 = C at *
          go_wp2_with fail
          go_loopg [5, 6] 8 (fun f v5 v6 w3 => ∃ k, k + f = 8 ∧ v5 = S (manyB k) ∧ v6 = .int .i64 k ∧ Below wr.heap.size wr w3)
          case atStart => exact ⟨0, rfl, rfl, rfl, Below.refl _ _⟩
          case round =>
            obtain ⟨k, hk, rfl, rfl, HB⟩ := hrel
            have h5 : (manyB k).length = 12 * k := manyB_len k
            by_cases hlt : k < 8
            · have hu : ((97 : Int) + k) % 256 = 97 + k := by omega
              have hn : (UInt8.ofNat (97 + k)).toNat = 97 + k := by simp; omega
              have hcv := run_convert_bytes_back (P := Tryd.prog) (wr.alloc (.cells #[.int .u8 (97 + k)] 5)) 32 9 5 ⟨wr.heap.size, 0, none⟩ 1 [UInt8.ofNat (97 + k)] Tryd.underlying32 Tryd.underlying5 Tryd.underlying9
                (fun j hj => by
                  obtain rfl : j = 0 := by simpa using hj
                  simp [Addr.add]; omega)
              have e1 := bapp [113, 117, 101, 117, 101, 32, 113] [UInt8.ofNat (97 + k)]
              have z1 := HB.size
              simp only [List.length_singleton] at hcv
              generalize hU : UInt8.ofNat (97 + k) = u at *
              go_wp2_with fail
              go_roundg (gk - 1)
              case measure => omega
              case rel =>
                refine ⟨k + 1, by omega, ?_, by simp, HB.alloc z1 _⟩
                exact congrArg Value.string ((congrArg _ (bapp [113, 117, 101, 117, 101, 32, 113, u] [32, 49, 59, 32])).trans ((bapp (manyB k) _).trans (by rw [manyB, hU]; rfl)))
            · obtain rfl : k = 8 := by omega
              clear hlt hk h5
              subst hL hD hC
              clear hl
              go_upto_region 16 with fail
              refine wp_region_lit ?_
              refine wpList_calc (v := .slice (some ⟨wr.heap.size, 0, none⟩) 81 81) (w' := wr.alloc (.cells cellsF 26)) (by kernel_rfl) ?_
              intro a' h1 h2
              have hz := HB.size
              go_wp2_with fail
              refine bodyPost_ret (v := .slice (some ⟨wr.heap.size, 0, none⟩) 81 81) (by simp [results, Tryd.results4, go_sem]; simpa using h1) h2 ⟨wr.heap.size, rfl, HB.alloc hz _, hz, ?_⟩
              rw [← cellsF_eq]
              exact heap_new rfl
end Go.Proofs.YtippenbbibfmdabDoor
