import Derived.Test.YtfddoieakfpagabGreatDoorJI
namespace Go.Proofs.YtfddoieakfpagabGreatDoor
open Go.RowKit
/-! Known: three policies, and what single calls answer. -/
def knX : List UInt8 := [113, 117, 101, 117, 101, 32, 97, 32, 49, 59, 32, 113, 117, 101, 117, 101, 32, 98, 32, 50, 59, 32, 103, 104, 111, 115, 116, 32, 103, 32, 49, 59, 32, 118, 97, 114, 32, 118, 32, 51, 59, 32, 102, 114, 101, 113, 32, 50, 59, 32, 111, 110, 32, 97, 32, 123, 32, 98, 117, 109, 112, 59, 32, 105, 102, 32, 102, 114, 101, 113, 32, 60, 32, 50, 32, 123, 32, 105, 110, 99, 32, 118, 59, 32, 125, 32, 101, 108, 115, 101, 32, 123, 32, 112, 117, 116, 32, 103, 59, 32, 125, 32, 125, 32, 111, 110, 32, 98, 32, 123, 32, 100, 114, 111, 112, 59, 32, 125, 32, 111, 110, 32, 103, 32, 123, 32, 112, 117, 116, 32, 98, 32, 116, 97, 105, 108, 59, 32, 100, 101, 99, 32, 118, 59, 32, 125, 32, 111, 110, 32, 109, 105, 115, 115, 32, 123, 32, 105, 102, 32, 108, 101, 110, 32, 98, 32, 60, 32, 49, 32, 123, 32, 112, 117, 116, 32, 98, 59, 32, 125, 32, 101, 108, 115, 101, 32, 123, 32, 105, 102, 32, 101, 109, 112, 116, 121, 32, 97, 32, 123, 32, 112, 117, 116, 32, 97, 59, 32, 125, 32, 101, 108, 115, 101, 32, 123, 32, 115, 104, 105, 102, 116, 32, 97, 32, 98, 59, 32, 112, 117, 116, 32, 97, 59, 32, 125, 32, 125, 32, 125]
def knY : List UInt8 := [113, 117, 101, 117, 101, 32, 97, 32, 49, 59, 32, 111, 110, 32, 97, 32, 123, 32, 125, 32, 111, 110, 32, 109, 105, 115, 115, 32, 123, 32, 101, 118, 105, 99, 116, 32, 97, 59, 32, 125]
def knZ : List UInt8 := [113, 117, 101, 117, 101, 32, 97, 32, 49, 59, 32, 118, 97, 114, 32, 118, 32, 57, 59, 32, 102, 114, 101, 113, 32, 50, 59, 32, 111, 110, 32, 97, 32, 123, 32, 99, 111, 111, 108, 32, 97, 59, 32, 98, 117, 109, 112, 59, 32, 105, 102, 32, 119, 97, 114, 109, 32, 97, 32, 123, 32, 112, 117, 116, 32, 97, 59, 32, 105, 102, 32, 119, 97, 114, 109, 32, 97, 32, 123, 32, 100, 114, 111, 112, 59, 32, 125, 32, 125, 32, 125, 32, 111, 110, 32, 109, 105, 115, 115, 32, 123, 32, 105, 110, 99, 32, 118, 59, 32, 112, 117, 116, 32, 97, 59, 32, 125]
def txOf (l : List UInt8) : Tx := match readS l with
  | .ok x => x
  | .error _ => ([], [])
def okR (l : List UInt8) : Bool := match readS l with
  | .ok _ => true
  | .error _ => false
theorem tx_of {l : List UInt8} (h : okR l = true) : readS l = .ok (txOf l) := by
  unfold okR at h
  unfold txOf
  split at h
  · rename_i x hx
    rw [hx]
  · cases h
theorem kn_rX : readS knX = .ok (txOf knX) := tx_of (by kernel_rfl)
theorem kn_rY : readS knY = .ok (txOf knY) := tx_of (by kernel_rfl)
theorem kn_rZ : readS knZ = .ok (txOf knZ) := tx_of (by kernel_rfl)
/-- The states of the first, as the keys come. -/
def knS : Nat → Ex
  | 0 => ⟨[[], [], [], []], [0, 0, 0, 0], []⟩
  | 1 => ⟨[[], [(5, 0)], [], []], [0, 0, 0, 0], []⟩
  | 2 => ⟨[[(6, 0)], [(5, 0)], [], []], [0, 0, 0, 0], []⟩
  | 3 => ⟨[[(6, 1)], [(5, 0)], [], []], [0, 0, 0, 1], []⟩
  | 4 => ⟨[[], [(5, 0)], [(6, 2)], []], [0, 0, 0, 1], []⟩
  | 5 => ⟨[[], [(5, 0), (6, 2)], [], []], [0, 0, 0, 0], []⟩
  | 6 => ⟨[[], [(6, 2)], [], []], [0, 0, 0, 0], []⟩
  | 7 => ⟨[[(7, 0)], [(6, 2)], [], []], [0, 0, 0, 0], []⟩
  | _ => ⟨[[(8, 0)], [(7, 0), (6, 2)], [], []], [0, 0, 0, 0], []⟩
def knK : List Nat := [5, 6, 6, 6, 6, 5, 7, 8, 9, 9]
def knH : List Bool := [false, false, true, true, false, true, false, false, false, true]
def knO : Nat → List Nat
  | 3 => [6]
  | 5 => [5]
  | _ => []
theorem kn_start : (polOf (txOf knX)).start = knS 0 ∧ (polOf (txOf knY)).start = ⟨[[]], [0], []⟩ ∧ (polOf (txOf knZ)).start = ⟨[[], []], [0, 0], []⟩ := ⟨by kernel_rfl, by kernel_rfl, by kernel_rfl⟩
theorem kn_acc : ∀ k, k < 8 → (polOf (txOf knX)).access (knS k) (knK.getD k 0) = .ok (knH.getD k false, knO k, knS (k + 1))
  | 0, _ => by kernel_rfl
  | 1, _ => by kernel_rfl
  | 2, _ => by kernel_rfl
  | 3, _ => by kernel_rfl
  | 4, _ => by kernel_rfl
  | 5, _ => by kernel_rfl
  | 6, _ => by kernel_rfl
  | 7, _ => by kernel_rfl
  | k + 8, h => absurd h (by omega)
theorem kn_full : (polOf (txOf knX)).access (knS 8) 9 = .error 11 := by kernel_rfl
theorem kn_keys : (polOf (txOf knX)).keys (knS 8) [97] = some [8] ∧ (polOf (txOf knX)).keys (knS 8) [98] = some [7, 6] ∧ (polOf (txOf knX)).keys (knS 8) [103] = some [] ∧ (polOf (txOf knX)).value (knS 8) [118] = some 0 ∧ (polOf (txOf knX)).keys (knS 8) [118] = none ∧ (polOf (txOf knX)).value (knS 8) [97] = none := ⟨by kernel_rfl, by kernel_rfl, by kernel_rfl, by kernel_rfl, by kernel_rfl, by kernel_rfl⟩
def knZ1 : Ex := ⟨[[(1, 0)], []], [0, 1], []⟩
def knZ2 : Ex := ⟨[[], []], [0, 1], []⟩
theorem kn_z : (polOf (txOf knZ)).access ⟨[[], []], [0, 0], []⟩ 1 = .ok (false, [], knZ1) ∧ (polOf (txOf knZ)).access knZ1 2 = .error 11 ∧ (polOf (txOf knZ)).value knZ1 [118] = some 1 ∧ (polOf (txOf knZ)).access knZ1 1 = .ok (true, [1], knZ2) := ⟨by kernel_rfl, by kernel_rfl, by kernel_rfl, by kernel_rfl⟩
theorem kn_y : (polOf (txOf knY)).access ⟨[[]], [0], []⟩ 9223372036854775808 = .error 12 ∧ (⟨[[]], [0], []⟩ : Ex).removed 9223372036854775808 = (false, ⟨[[]], [0], []⟩) := ⟨by kernel_rfl, by kernel_rfl⟩
/-- The counts behind k keys. -/
def knN : Nat → Nat × Nat × Nat
  | 0 => (0, 0, 0)
  | k + 1 => cntE (knN k) (knH.getD k false) (knO k).length
theorem kn_n : knN 8 = (3, 5, 2) := by kernel_rfl
end Go.Proofs.YtfddoieakfpagabGreatDoor

namespace Go.Proofs.YtfddoieakfpagabGreatDoor
open Go.RowKit
theorem ix_bool (g o n cap k : Nat) (hk : k < n) : ∀ W : World, (Instr.indexAt 61 (.slice (some ⟨g, o, none⟩) n cap) (.int .i64 k)).run Tryz.prog W = .ok (.pointer (some ⟨g, o + k, none⟩)) W := by
  intro W
  rw [run_indexAt_slice (h := by kernel_rfl), if_pos (by omega)]
  have : (sizeOf (Tryz.prog.elem 61)).run Tryz.prog W = .ok 1 W := by kernel_rfl
  rw [this]
  simp [Result.andThen, Addr.add]
theorem ix_rows (g o n cap k : Nat) (hk : k < n) : ∀ W : World, (Instr.indexAt 62 (.slice (some ⟨g, o, none⟩) n cap) (.int .i64 k)).run Tryz.prog W = .ok (.pointer (some ⟨g, o + k, none⟩)) W := by
  intro W
  rw [run_indexAt_slice (h := by kernel_rfl), if_pos (by omega)]
  have : (sizeOf (Tryz.prog.elem 62)).run Tryz.prog W = .ok 1 W := by kernel_rfl
  rw [this]
  simp [Result.andThen, Addr.add]
theorem ix_eno (g o n cap k : Nat) (hk : k < n) : ∀ W : World, (Instr.indexAt 63 (.slice (some ⟨g, o, none⟩) n cap) (.int .i64 k)).run Tryz.prog W = .ok (.pointer (some ⟨g, o + k, none⟩)) W := by
  intro W
  rw [run_indexAt_slice (h := by kernel_rfl), if_pos (by omega)]
  have : (sizeOf (Tryz.prog.elem 63)).run Tryz.prog W = .ok 1 W := by kernel_rfl
  rw [this]
  simp [Result.andThen, Addr.add]
/-! Known: the tables. -/
def knT0 : Obj := .cells #[.int .u64 5, .int .u64 6, .int .u64 6, .int .u64 6, .int .u64 6, .int .u64 5, .int .u64 7, .int .u64 8, .int .u64 9, .int .u64 9] 27
def knT1 : Obj := .cells #[.bool false, .bool false, .bool true, .bool true, .bool false, .bool true, .bool false, .bool false, .bool false, .bool true] 4
def knT2 : Obj := .cells #[.int .u64 6] 27
def knT3 : Obj := .cells #[.int .u64 5] 27
def knT4 (z : Nat) : Obj := .cells #[.slice none 0 0, .slice none 0 0, .slice none 0 0, .slice (some ⟨z + 2, 0, none⟩) 1 1, .slice none 0 0, .slice (some ⟨z + 3, 0, none⟩) 1 1, .slice none 0 0, .slice none 0 0, .slice none 0 0, .slice none 0 0] 22
def knT5 : Obj := .cells #[.int .i64 0, .int .i64 0, .int .i64 0, .int .i64 0, .int .i64 0, .int .i64 0, .int .i64 0, .int .i64 0, .int .i64 11, .int .i64 0] 33
def knV (z : Nat) : Nat → Value
  | 3 => .slice (some ⟨z + 2, 0, none⟩) 1 1
  | 5 => .slice (some ⟨z + 3, 0, none⟩) 1 1
  | _ => .slice none 0 0
/-- The tables lie from z on. -/
structure KnT (z : Nat) (w : World) : Prop where
  t0 : w.heap[z]? = some knT0
  t1 : w.heap[z + 1]? = some knT1
  t2 : w.heap[z + 2]? = some knT2
  t3 : w.heap[z + 3]? = some knT3
  t4 : w.heap[z + 4]? = some (knT4 z)
  t5 : w.heap[z + 5]? = some knT5
theorem KnT.move {z : Nat} {w w' : World} (h : KnT z w) (hb : ∀ j, z ≤ j → j < z + 6 → w'.heap[j]? = w.heap[j]?) : KnT z w' :=
  ⟨(hb z (by omega) (by omega)).trans h.t0, (hb (z + 1) (by omega) (by omega)).trans h.t1, (hb (z + 2) (by omega) (by omega)).trans h.t2, (hb (z + 3) (by omega) (by omega)).trans h.t3, (hb (z + 4) (by omega) (by omega)).trans h.t4, (hb (z + 5) (by omega) (by omega)).trans h.t5⟩
theorem KnT.lt {z : Nat} {w : World} (h : KnT z w) : z + 5 < w.heap.size := (Array.getElem?_eq_some_iff.1 h.t5).1
theorem KnT.key {z : Nat} {w : World} (h : KnT z w) : ∀ k, k < 10 → w.cell? ⟨z, k, none⟩ = some (.int .u64 ((knK.getD k 0 : Nat) : Int)) := by
  intro k hk
  have := h.t0
  unfold knT0 at this
  unfold World.cell?
  simp only [this]
  rcases (show k = 0 ∨ k = 1 ∨ k = 2 ∨ k = 3 ∨ k = 4 ∨ k = 5 ∨ k = 6 ∨ k = 7 ∨ k = 8 ∨ k = 9 by omega) with rfl | rfl | rfl | rfl | rfl | rfl | rfl | rfl | rfl | rfl <;> rfl
theorem KnT.hit {z : Nat} {w : World} (h : KnT z w) : ∀ k, k < 10 → w.cell? ⟨z + 1, k, none⟩ = some (.bool (knH.getD k false)) := by
  intro k hk
  have := h.t1
  unfold knT1 at this
  unfold World.cell?
  simp only [this]
  rcases (show k = 0 ∨ k = 1 ∨ k = 2 ∨ k = 3 ∨ k = 4 ∨ k = 5 ∨ k = 6 ∨ k = 7 ∨ k = 8 ∨ k = 9 by omega) with rfl | rfl | rfl | rfl | rfl | rfl | rfl | rfl | rfl | rfl <;> rfl
theorem KnT.out {z : Nat} {w : World} (h : KnT z w) : ∀ k, k < 10 → w.cell? ⟨z + 4, k, none⟩ = some (knV z k) := by
  intro k hk
  have := h.t4
  unfold knT4 at this
  unfold World.cell?
  simp only [this]
  rcases (show k = 0 ∨ k = 1 ∨ k = 2 ∨ k = 3 ∨ k = 4 ∨ k = 5 ∨ k = 6 ∨ k = 7 ∨ k = 8 ∨ k = 9 by omega) with rfl | rfl | rfl | rfl | rfl | rfl | rfl | rfl | rfl | rfl <;> rfl
theorem KnT.err {z : Nat} {w : World} (h : KnT z w) : ∀ k, k < 8 → w.cell? ⟨z + 5, k, none⟩ = some (.int .i64 0) := by
  intro k hk
  have := h.t5
  unfold knT5 at this
  unfold World.cell?
  simp only [this]
  rcases (show k = 0 ∨ k = 1 ∨ k = 2 ∨ k = 3 ∨ k = 4 ∨ k = 5 ∨ k = 6 ∨ k = 7 by omega) with rfl | rfl | rfl | rfl | rfl | rfl | rfl | rfl <;> rfl
theorem Rk.one {w : World} {b k : Nat} (h : w.heap[b]? = some (.cells #[.int .u64 (k : Int)] 27)) : Rk w (.slice (some ⟨b, 0, none⟩) 1 1) [k] := ⟨_, _, rfl, by simp, by simp [maxLen], Or.inr ⟨b, 0, rfl, (Array.getElem?_eq_some_iff.1 h).1, fun j u hu => by
  rcases j with _ | j
  · simp at hu
    subst hu
    unfold World.cell?
    simp only [h]
    rfl
  · simp at hu⟩⟩
theorem KnT.rk {z : Nat} {w : World} (h : KnT z w) : ∀ k, k < 8 → Rk w (knV z k) (knO k) := by
  intro k hk
  rcases (show k = 0 ∨ k = 1 ∨ k = 2 ∨ k = 3 ∨ k = 4 ∨ k = 5 ∨ k = 6 ∨ k = 7 by omega) with rfl | rfl | rfl | rfl | rfl | rfl | rfl | rfl
  · exact Rk.nil
  · exact Rk.nil
  · exact Rk.nil
  · exact Rk.one (k := 6) h.t2
  · exact Rk.nil
  · exact Rk.one (k := 5) h.t3
  · exact Rk.nil
  · exact Rk.nil
/-- Where the first engine stands behind k keys. -/
structure KnL (w : World) (z g k : Nat) (wr : World) : Prop where
  ex : ∃ dom, Eg wr g dom (txOf knX) (knS k) (knN k) ∧ (∀ j, dom j → w.heap.size ≤ j) ∧ ∀ j, z ≤ j → j < z + 6 → ¬ (dom j ∨ j = g)
  lg : w.heap.size ≤ g
  lz : w.heap.size ≤ z
  t : KnT z wr
  b : Below w.heap.size w wr
theorem knN_le : ∀ k, k ≤ 8 → (knN k).1 ≤ 100 ∧ (knN k).2.1 ≤ 100 ∧ (knN k).2.2 ≤ 100 := by
  intro k hk
  rcases (show k = 0 ∨ k = 1 ∨ k = 2 ∨ k = 3 ∨ k = 4 ∨ k = 5 ∨ k = 6 ∨ k = 7 ∨ k = 8 by omega) with rfl | rfl | rfl | rfl | rfl | rfl | rfl | rfl | rfl <;> decide
theorem knK_lt : ∀ k, knK.getD k 0 < key64 := by
  intro k
  rcases (show k = 0 ∨ k = 1 ∨ k = 2 ∨ k = 3 ∨ k = 4 ∨ k = 5 ∨ k = 6 ∨ k = 7 ∨ k = 8 ∨ k = 9 ∨ 10 ≤ k by omega) with rfl | rfl | rfl | rfl | rfl | rfl | rfl | rfl | rfl | rfl | h
  all_goals first | decide | (rw [List.getD_eq_getElem?_getD, List.getElem?_eq_none (by simpa [knK] using h)]; decide)
theorem kn_round {w wr : World} {E : Nat → Addr} {z g k : Nat} (SS : Sent w E) (H : KnL w z g k wr) (hk : k < 8) :
    Calls Tryz.prog 23 #[ptr g, .int .u64 ((knK.getD k 0 : Nat) : Int)] wr fun e w1 => ∃ ev, e = .returned (.tuple #[.bool (knH.getD k false), ev, .int .i64 0]) ∧ KnT z w1 ∧
      Calls Tryz.prog 17 #[ev, knV z k] w1 fun e w2 => e = .returned (.bool true) ∧ KnL w z g (k + 1) w2 := by
  obtain ⟨dom, hE, hd, ho⟩ := H.ex
  have hn := knN_le k (by omega)
  have HA := eaccess_any hE (SS.move H.b) (knK.getD k 0) (knK_lt k) (by omega) (by omega) (by omega)
  rw [kn_acc k hk] at HA
  have hz := H.b.size
  have hlt := H.t.lt
  refine HA.mono ?_
  rintro e w1 ⟨ev, dom', rfl, hF, hE1, hd1, hown, hoff⟩
  have hT1 : KnT z w1 := H.t.move (fun j h1 h2 => hF.block j (by omega) (ho j h1 h2))
  have hlo : ∀ j, dom j ∨ j = g → w.heap.size ≤ j := fun j e => by
    rcases e with e | e
    · exact hd j e
    · exact e ▸ H.lg
  have hB1 : Below w.heap.size w w1 := H.b.trans (hF.lows hlo hz)
  refine ⟨ev, rfl, hT1, ?_⟩
  refine (same_yes (Rk.own hown) (hT1.rk k hk)).mono ?_
  rintro e w2 ⟨rfl, B2⟩
  have hl1 := hT1.lt
  refine ⟨rfl, ⟨dom', hE1.below B2, fun j hj => ?_, fun j h1 h2 hc => ?_⟩, H.lg, H.lz, hT1.move (fun j h1 h2 => B2.block j (by omega)), hB1.trans (B2.mono hB1.size)⟩
  · rcases hd1 j hj with hj | hj
    · exact hd j hj
    · omega
  · rcases hc with hc | hc
    · rcases hd1 j hc with hc | hc
      · exact ho j h1 h2 (Or.inl hc)
      · omega
    · exact ho j h1 h2 (Or.inr hc)
theorem kn_made (w : World) : Below w.heap.size w ((((((w.alloc knT0).alloc knT1).alloc knT2).alloc knT3).alloc (knT4 w.heap.size)).alloc knT5) ∧ KnT w.heap.size ((((((w.alloc knT0).alloc knT1).alloc knT2).alloc knT3).alloc (knT4 w.heap.size)).alloc knT5) := by
  have b : ∀ (W : World) o, w.heap.size ≤ W.heap.size → Below w.heap.size w W → Below w.heap.size w (W.alloc o) ∧ w.heap.size ≤ (W.alloc o).heap.size := fun W o h k => ⟨k.alloc h _, by simp; omega⟩
  have s0 := b w knT0 (Nat.le_refl _) (Below.refl _ _)
  have s1 := b _ knT1 s0.2 s0.1
  have s2 := b _ knT2 s1.2 s1.1
  have s3 := b _ knT3 s2.2 s2.1
  have s4 := b _ (knT4 w.heap.size) s3.2 s3.1
  have s5 := b _ knT5 s4.2 s4.1
  have u : ∀ (W : World) (o x : Obj) (j : Nat), j < W.heap.size → W.heap[j]? = some x → (W.alloc o).heap[j]? = some x := fun W o x j h1 h2 => (Below.heap_alloc _ _ _ h1).trans h2
  refine ⟨s5.1, ?_, ?_, ?_, ?_, ?_, ?_⟩
  · exact u _ _ _ _ (by simp <;> omega) (u _ _ _ _ (by simp <;> omega) (u _ _ _ _ (by simp <;> omega) (u _ _ _ _ (by simp <;> omega) (u _ _ _ _ (by simp) (heap_new rfl)))))
  · exact u _ _ _ _ (by simp <;> omega) (u _ _ _ _ (by simp <;> omega) (u _ _ _ _ (by simp <;> omega) (u _ _ _ _ (by simp) (heap_new (by simp)))))
  · exact u _ _ _ _ (by simp <;> omega) (u _ _ _ _ (by simp <;> omega) (u _ _ _ _ (by simp) (heap_new (by simp))))
  · exact u _ _ _ _ (by simp <;> omega) (u _ _ _ _ (by simp) (heap_new (by simp)))
  · exact u _ _ _ _ (by simp) (heap_new (by simp))
  · exact heap_new (by simp)
theorem kn_first {w w1 : World} {g : Nat} (B1 : Below w.heap.size w w1) (hg : w.heap.size ≤ g) (hE : Eg w1 g (fun k => w.heap.size ≤ k ∧ k < w1.heap.size ∧ k ≠ g) (txOf knX) (knS 0) (0, 0, 0)) : KnL w w1.heap.size g 0 ((((((w1.alloc knT0).alloc knT1).alloc knT2).alloc knT3).alloc (knT4 w1.heap.size)).alloc knT5) := by
  obtain ⟨h1, h2⟩ := kn_made w1
  have hl := hE.lt
  exact ⟨⟨_, hE.below h1, fun j hj => hj.1, fun j h3 h4 hc => by
    rcases hc with hc | hc
    · omega
    · omega⟩, hg, B1.size, h2, B1.trans (h1.mono B1.size)⟩
theorem Rk.two {w : World} {b k k2 : Nat} (h : w.heap[b]? = some (.cells #[.int .u64 (k : Int), .int .u64 (k2 : Int)] 27)) : Rk w (.slice (some ⟨b, 0, none⟩) 2 2) [k, k2] := ⟨_, _, rfl, by simp, by simp [maxLen], Or.inr ⟨b, 0, rfl, (Array.getElem?_eq_some_iff.1 h).1, fun j u hu => by
  rcases j with _ | _ | j
  · simp at hu
    subst hu
    unfold World.cell?
    simp only [h]
    rfl
  · simp at hu
    subst hu
    unfold World.cell?
    simp only [h]
    rfl
  · simp at hu⟩⟩
/-! One operation of a region that draws its order, its value named: by the kernel. -/
theorem quiet_val {P : Program} {ops : Array Oper} {C : World → Prop} {Q : Act → Prop} {a : Act} {o : Oper} {rest : List Oper} (v : Value) (hw : Region.wanted o (yielded ops a.tmps) = true) (h1 : ∀ w, C w → (execOp a.eval o).run P w = .ok (.value v) w) (h2 : wpQuiet P ops C Q rest (a.put o.dst v)) : wpQuiet P ops C Q (o :: rest) a :=
  quiet_next hw (fun w hC => quiet_at (h1 w hC) ⟨rfl, rfl⟩) h2
theorem quiet_call {P : Program} {ops : Array Oper} {C : World → Prop} {Q : Act → Prop} {a : Act} {o : Oper} {rest : List Oper} (v : Value) (f : FuncId) (args : Array Value) (hw : Region.wanted o (yielded ops a.tmps) = true) (h0 : ∀ w, (execOp a.eval o).run P w = .ok (.enter f args) w) (h1 : ∀ w, C w → Calls P f args w fun e w' => e = .returned v ∧ C w') (h2 : wpQuiet P ops C Q rest (a.put o.dst v)) : wpQuiet P ops C Q (o :: rest) a :=
  quiet_next hw (fun w hC => quiet_at (h0 w) ⟨rfl, h1 w hC⟩) h2
end Go.Proofs.YtfddoieakfpagabGreatDoor

namespace Go.Proofs.YtfddoieakfpagabGreatDoor
open Go.RowKit
set_option maxRecDepth 20000 in
set_option maxHeartbeats 20000000 in
theorem known_any {w : World} {E : Nat → Addr} (SS : Sent w E) : Calls Tryz.prog 8 #[] w fun e w' => e = .returned (.bool true) ∧ Below w.heap.size w w' := by
  have HL := eload_any knX SS
  rw [kn_rX] at HL
  go_enter Tryz.func8, Tryz.ntmps8
  go_upto_region 1 with fail
  go_wp2_with fail
  refine HL.mono ?_
  rintro e w1 ⟨B1, g, rfl, hg, hE⟩
  rw [kn_start.1] at hE
  clear HL
  have H0 := kn_first B1 hg hE
  go_upto_region 9 with fail
  go_wp2_with fail
  go_loopg [61] 8 (fun f v61 wr => ∃ k : Nat, v61 = .int .i64 k ∧ k + f = 8 ∧ KnL w w1.heap.size g k wr)
  case atStart => exact ⟨0, rfl, by omega, H0⟩
  case round =>
    obtain ⟨k, rfl, hk, H⟩ := hrel
    clear H0 hE
    have t1 : decide ((k : Int) < 10) = true := by simp; omega
    have c0 : wr.cell? ⟨w1.heap.size, k, none⟩ = some (.int .u64 ((knK.getD k 0 : Nat) : Int)) := H.t.key k (by omega)
    have ix0 := ix_u64 w1.heap.size 0 10 10 k (by omega)
    rw [Nat.zero_add] at ix0
    by_cases hk8 : k < 8
    · have t2 : ((k : Int) == 8) = false := by simp; omega
      have hk9 : Hid (k < 8 ∧ gk - 1 < gk ∧ k + 1 + (gk - 1) = 8) := ⟨hk8, by omega, by omega⟩
      have HR := kn_round SS H hk8
      have ix1 := ix_bool (w1.heap.size + 1) 0 10 10 k (by omega)
      have ix4 := ix_rows (w1.heap.size + 1 + 1 + 1 + 1) 0 10 10 k (by omega)
      have ix5 := ix_eno (w1.heap.size + 1 + 1 + 1 + 1 + 1) 0 10 10 k (by omega)
      rw [Nat.zero_add] at ix1 ix4 ix5
      have cT : Hid (∀ w2, KnT w1.heap.size w2 → w2.cell? ⟨w1.heap.size + 1, k, none⟩ = some (.bool (knH.getD k false)) ∧ w2.cell? ⟨w1.heap.size + 1 + 1 + 1 + 1, k, none⟩ = some (knV w1.heap.size k) ∧ w2.cell? ⟨w1.heap.size + 1 + 1 + 1 + 1 + 1, k, none⟩ = some (.int .i64 0)) := fun w2 h => ⟨h.hit k (by omega), h.out k (by omega), h.err k (by omega)⟩
      generalize knK.getD k 0 = key at *
      generalize knH.getD k false = hb at *
      generalize knV w1.heap.size k = ov at *
      clear hk8
      go_upto_region 13 with fail
      go_wp2_with fail
      refine HR.mono ?_
      rintro e w2 ⟨ev, rfl, T2, HS⟩
      obtain ⟨c1, c4, c5⟩ := cT.out w2 T2
      clear HR cT T2 c0
      go_upto_region 14 with fail
      go_wp2_with fail
      refine HS.mono ?_
      rintro e w3 ⟨rfl, H3⟩
      have c6 : w3.cell? ⟨w1.heap.size + 1 + 1 + 1 + 1 + 1, k, none⟩ = some (.int .i64 0) := H3.t.err k hk9.out.1
      clear HS
      go_wp2_with fail
      go_roundg (gk - 1)
      case measure => exact hk9.out.2.1
      case rel => exact ⟨k + 1, by simp, hk9.out.2.2, H3⟩
    · have t2 : ((k : Int) == 8) = true := by simp; omega
      have H8 : KnL w w1.heap.size g 8 wr := by rw [show (8 : Nat) = k from by omega]; exact H
      obtain ⟨dom, hE, hd, _⟩ := H8.ex
      rw [kn_n] at hE
      have BW := H8.b
      have hz := BW.size
      have hgl := hE.lt
      generalize knK.getD k 0 = key at *
      clear H H8
      obtain ⟨k1, k2, k3, k4, k5, k6⟩ := kn_keys
      have HK := ekeys_any hE (SS.move BW) [97]
      rw [k1] at HK
      go_upto_region 17 with fail
      go_wp2_with fail
      refine HK.mono ?_
      rintro e w2 ⟨B2, u2, rfl, o2⟩
      clear HK
      have C2 := B2
      have HK := ekeys_any (hE.below C2) (SS.move (BW.trans (C2.mono hz))) [98]
      rw [k2] at HK
      go_wp2_with fail
      refine HK.mono ?_
      rintro e w3 ⟨B3, u3, rfl, o3⟩
      clear HK
      have C3 := C2.trans (B3.mono C2.size)
      have HK := ekeys_any (hE.below C3) (SS.move (BW.trans (C3.mono hz))) [103]
      rw [k3] at HK
      go_wp2_with fail
      refine HK.mono ?_
      rintro e w4 ⟨B4, u4, rfl, o4⟩
      clear HK
      have C4 := C3.trans (B4.mono C3.size)
      have hu4 : ∃ ua uc, u4 = .slice ua 0 uc := by
        rcases o4.2 with ⟨k1, k2⟩ | ⟨g, cap, cur, k1, _⟩
        · exact ⟨none, 0, k1⟩
        · exact ⟨_, _, k1⟩
      obtain ⟨ua, uc, rfl⟩ := hu4
      have HV := evalue_any (hE.below C4) (SS.move (BW.trans (C4.mono hz))) [118]
      rw [k4] at HV
      go_wp2_with fail
      refine HV.mono ?_
      rintro e w5 ⟨B5, rfl⟩
      clear HV
      have C5 := C4.trans (B5.mono C4.size)
      have A5 : Below w5.heap.size w5 (w5.alloc (.cells #[.int .u64 8] 27)) := (Below.refl _ _).alloc (Nat.le_refl _) _
      have HS := same_yes (((((Rk.own o2).below B3).below B4).below B5).below A5) (Rk.one (k := 8) (w := w5.alloc (.cells #[.int .u64 8] 27)) (heap_new rfl))
      go_wp2_with fail
      refine HS.mono ?_
      rintro e w6 ⟨rfl, B6⟩
      clear HS
      have C6 := (C5.trans (A5.mono C5.size)).trans (B6.mono (Nat.le_trans C5.size A5.size))
      have A6 : Below w6.heap.size w6 (w6.alloc (.cells #[.int .u64 7, .int .u64 6] 27)) := (Below.refl _ _).alloc (Nat.le_refl _) _
      have HS := same_yes ((((((Rk.own o3).below B4).below B5).below A5).below B6).below A6) (Rk.two (k := 7) (k2 := 6) (w := w6.alloc (.cells #[.int .u64 7, .int .u64 6] 27)) (heap_new rfl))
      go_wp2_with fail
      refine HS.mono ?_
      rintro e w7 ⟨rfl, B7⟩
      clear HS
      have C7 := (C6.trans (A6.mono C6.size)).trans (B7.mono (Nat.le_trans C6.size A6.size))
      have HC : Calls Tryz.prog 22 #[ptr g] w7 fun e w' => Below w7.heap.size w7 w' ∧ e = .returned (.agg #[.int .i64 3, .int .i64 5, .int .i64 2]) := ecounts_any (hE.below C7)
      go_wp2_with fail
      refine HC.mono ?_
      rintro e w8 ⟨B8, rfl⟩
      clear HC
      have C8 := C7.trans (B8.mono C7.size)
      have A8 : Below w8.heap.size w8 (w8.alloc (.cells #[.int .i64 3, .int .i64 5, .int .i64 2] 47)) := (Below.refl _ _).alloc (Nat.le_refl _) _
      have hb8 : (w8.alloc (.cells #[.int .i64 3, .int .i64 5, .int .i64 2] 47)).heap[w8.heap.size]? = some (.cells #[.int .i64 3, .int .i64 5, .int .i64 2] 47) := heap_new rfl
      have D8 := C8.trans (A8.mono C8.size)
      have HA := eaccess_any (hE.below D8) (SS.move (BW.trans (D8.mono hz))) 9 (by decide) (by decide) (by decide) (by decide)
      rw [kn_full] at HA
      go_upto_region 24 with fail
      go_wp2_with fail
      refine HA.mono ?_
      rintro e w9 ⟨rfl, B9⟩
      clear HA
      have C9 := D8.trans (B9.mono D8.size)
      have hb9 := (B9.block w8.heap.size (by simp)).trans hb8
      have hl9 := (Array.getElem?_eq_some_iff.1 hb9).1
      clear hb8
      have hcW : Hid (∀ {W : World}, Below w9.heap.size w9 W → ∀ o, W.cell? ⟨w8.heap.size, o, none⟩ = (#[.int .i64 3, .int .i64 5, .int .i64 2] : Array Value)[o]?) := fun {W} hW o => (hW.cell (p := ⟨w8.heap.size, o, none⟩) hl9).trans ((blk_cl hb9).1 o)
      have hld : Hid (∀ {W : World}, Below w9.heap.size w9 W → ∀ (ev : Operand → Value) (o : Oper), o.op = .load 47 (.tmp 21) → ev (.tmp 21) = .pointer (some ⟨w8.heap.size, 0, none⟩) → (execOp ev o).run Tryz.prog W = .ok (.value (.agg #[.int .i64 3, .int .i64 5, .int .i64 2])) W) := fun {W} hW ev o h1 h2 => by
        have cW := hcW.out hW
        have c0 := cW 0
        have c1 := cW 1
        have c2 := cW 2
        unfold execOp
        rw [h1]
        simp only [h2]
        go_simp
      have HC : Hid (∀ {W : World}, Below w9.heap.size w9 W → Calls Tryz.prog 22 #[ptr g] W fun e w' => e = .returned (.agg #[.int .i64 3, .int .i64 5, .int .i64 2]) ∧ Below w9.heap.size w9 w') := fun {W} hW => (ecounts_any (hE.below (C9.trans (hW.mono C9.size)))).mono fun e w' h => ⟨h.2, hW.trans (h.1.mono hW.size)⟩
      go_upto_region 25 with fail
      refine wp_region_quiet (C := Below w9.heap.size w9) (by kernel_rfl) (by kernel_rfl) ((Below.refl _ w9).drew) ?_
      refine quiet_val (.bool false) (by kernel_rfl) (fun W _ => by kernel_rfl) ?_
      go_simp
      refine quiet_val (.bool false) (by kernel_rfl) (fun W _ => by kernel_rfl) ?_
      go_simp
      refine quiet_val (.slice none 0 0) (by kernel_rfl) (fun W _ => by kernel_rfl) ?_
      go_simp
      refine quiet_val (.int .i64 0) (by kernel_rfl) (fun W _ => by kernel_rfl) ?_
      go_simp
      refine quiet_val (.bool false) (by kernel_rfl) (fun W _ => by kernel_rfl) ?_
      go_simp
      refine quiet_val (.bool false) (by kernel_rfl) (fun W _ => by kernel_rfl) ?_
      go_simp
      refine quiet_val (.bool false) (by kernel_rfl) (fun W _ => by kernel_rfl) ?_
      go_simp
      refine quiet_val (.int .i64 11) (by kernel_rfl) (fun W _ => by kernel_rfl) ?_
      go_simp
      refine quiet_val (.bool false) (by kernel_rfl) (fun W _ => by kernel_rfl) ?_
      go_simp
      refine quiet_val (.bool false) (by kernel_rfl) (fun W _ => by kernel_rfl) ?_
      go_simp
      refine quiet_val (.bool false) (by kernel_rfl) (fun W _ => by kernel_rfl) ?_
      go_simp
      refine quiet_val (ptr g) (by kernel_rfl) (fun W _ => by kernel_rfl) ?_
      go_simp
      refine quiet_call (.agg #[.int .i64 3, .int .i64 5, .int .i64 2]) 22 #[ptr g] (by kernel_rfl) (fun W => by kernel_rfl) (fun W hW => HC.out hW) ?_
      go_simp
      refine quiet_val (.agg #[.int .i64 3, .int .i64 5, .int .i64 2]) (by kernel_rfl) (fun W hW => by refine hld.out hW _ _ ?_ ?_ <;> kernel_rfl) ?_
      go_simp
      refine quiet_val (.bool false) (by kernel_rfl) (fun W _ => by kernel_rfl) ?_
      go_simp
      refine quiet_val (.bool false) (by kernel_rfl) (fun W _ => by kernel_rfl) ?_
      go_simp
      refine wpQuiet_nil ?_
      intro wa Ba
      have hba := (Ba.block w8.heap.size hl9).trans hb9
      have Ca := C9.trans (Ba.mono C9.size)
      clear hld hcW HC
      have HK := ekeys_any (hE.below Ca) (SS.move (BW.trans (Ca.mono hz))) [97]
      rw [k1] at HK
      go_upto_region 27 with fail
      go_wp2_with fail
      refine HK.mono ?_
      rintro e wb ⟨Bb, ub, rfl, ob⟩
      clear HK
      have Cb := Ca.trans (Bb.mono Ca.size)
      have hla := (Array.getElem?_eq_some_iff.1 hba).1
      have hbb := (Bb.block w8.heap.size hla).trans hba
      have hlb := (Array.getElem?_eq_some_iff.1 hbb).1
      have Ab : Below wb.heap.size wb (wb.alloc (.cells #[.int .u64 8] 27)) := (Below.refl _ _).alloc (Nat.le_refl _) _
      have HS := same_yes ((Rk.own ob).below Ab) (Rk.one (k := 8) (w := wb.alloc (.cells #[.int .u64 8] 27)) (heap_new rfl))
      go_wp2_with fail
      refine HS.mono ?_
      rintro e wc ⟨rfl, Bc⟩
      clear HS
      have Cc' := (Cb.trans (Ab.mono Cb.size)).trans (Bc.mono (Nat.le_trans Cb.size Ab.size))
      have hbc := (Bc.block w8.heap.size (by have := Ab.size; omega)).trans ((Ab.block w8.heap.size hlb).trans hbb)
      obtain ⟨c1, cf1⟩ := blk_cl hbc
      have HK := ekeys_any (hE.below Cc') (SS.move (BW.trans (Cc'.mono hz))) [118]
      rw [k5] at HK
      go_wp2_with fail
      refine HK.mono ?_
      rintro e wd ⟨Bd, rfl⟩
      clear HK
      have Cd' := Cc'.trans (Bd.mono Cc'.size)
      have HV := evalue_any (hE.below Cd') (SS.move (BW.trans (Cd'.mono hz))) [97]
      rw [k6] at HV
      go_wp2_with fail
      refine HV.mono ?_
      rintro e we ⟨Be, rfl⟩
      clear HV
      have Ce := Cd'.trans (Be.mono Cd'.size)
      have HL := eload_any knY (SS.move (BW.trans (Ce.mono hz)))
      rw [kn_rY] at HL
      go_wp2_with fail
      refine HL.mono ?_
      rintro e wf ⟨Bf, gy, rfl, hgy, hEy⟩
      rw [kn_start.2.1] at hEy
      clear HL
      have Cf := Ce.trans (Bf.mono Ce.size)
      have HL := eload_any knZ (SS.move (BW.trans (Cf.mono hz)))
      rw [kn_rZ] at HL
      go_wp2_with fail
      refine HL.mono ?_
      rintro e wg ⟨Bg, gz, rfl, hgz, hEz⟩
      rw [kn_start.2.2] at hEz
      clear HL c1 cf1
      have Cg := Cf.trans (Bg.mono Cf.size)
      obtain ⟨z1, z2, z3, z4⟩ := kn_z
      have HA := eaccess_any hEz (SS.move (BW.trans (Cg.mono hz))) 1 (by decide) (by decide) (by decide) (by decide)
      rw [z1] at HA
      go_wp2_with fail
      refine HA.mono ?_
      rintro e wh ⟨evh, dom1, rfl, hF1, hE1, hd1, _, _⟩
      clear HA
      have hlo1 : ∀ k, (wf.heap.size ≤ k ∧ k < wg.heap.size ∧ k ≠ gz) ∨ k = gz → wf.heap.size ≤ k := fun k e => by
        rcases e with e | e
        · exact e.1
        · exact e ▸ hgz
      have Gh : Below wf.heap.size wf wh := Bg.trans (hF1.lows hlo1 Bg.size)
      have Ch := Cf.trans (Gh.mono Cf.size)
      have HA := eaccess_any hE1 (SS.move (BW.trans (Ch.mono hz))) 2 (by decide) (by decide) (by decide) (by decide)
      rw [z2] at HA
      go_wp2_with fail
      refine HA.mono ?_
      rintro e wi ⟨rfl, Bi⟩
      clear HA
      have Gi := Gh.trans (Bi.mono Gh.size)
      have Ci := Cf.trans (Gi.mono Cf.size)
      have HV := evalue_any (hE1.below Bi) (SS.move (BW.trans (Ci.mono hz))) [118]
      rw [z3] at HV
      go_wp2_with fail
      refine HV.mono ?_
      rintro e wj ⟨Bj, rfl⟩
      clear HV
      have Gj := Gi.trans (Bj.mono Gi.size)
      have Cj := Cf.trans (Gj.mono Cf.size)
      have HA := eaccess_any ((hE1.below Bi).below Bj) (SS.move (BW.trans (Cj.mono hz))) 1 (by decide) (by decide) (by decide) (by decide)
      rw [z4] at HA
      go_wp2_with fail
      refine HA.mono ?_
      rintro e wk ⟨evk, dom2, rfl, hF2, _, _, ok2, _⟩
      clear HA
      have hlo2 : ∀ k, dom1 k ∨ k = gz → wf.heap.size ≤ k := fun k e => by
        rcases e with e | e
        · rcases hd1 k e with e | e
          · exact e.1
          · have := Bg.size; omega
        · exact e ▸ hgz
      have Gk : Below wf.heap.size wf wk := Gj.trans (hF2.lows hlo2 Gj.size)
      have Ak : Below wk.heap.size wk (wk.alloc (.cells #[.int .u64 1] 27)) := (Below.refl _ _).alloc (Nat.le_refl _) _
      have HS := same_yes ((Rk.own ok2).below Ak) (Rk.one (k := 1) (w := wk.alloc (.cells #[.int .u64 1] 27)) (heap_new rfl))
      go_wp2_with fail
      refine HS.mono ?_
      rintro e wl ⟨rfl, Bl⟩
      clear HS
      have Gl := (Gk.trans (Ak.mono Gk.size)).trans (Bl.mono (Nat.le_trans Gk.size Ak.size))
      have Cl := Cf.trans (Gl.mono Cf.size)
      have HA := eaccess_any (hEy.below Gl) (SS.move (BW.trans (Cl.mono hz))) 9223372036854775808 (by decide) (by decide) (by decide) (by decide)
      rw [kn_y.1] at HA
      go_wp2_with fail
      refine HA.mono ?_
      rintro e wm ⟨rfl, Bm⟩
      clear HA
      have Gm := Gl.trans (Bm.mono Gl.size)
      have HR := eremove_any (hEy.below Gm) 9223372036854775808 (by decide)
      rw [kn_y.2] at HR
      go_wp2_with fail
      refine HR.mono ?_
      rintro e wn ⟨rfl, hFn, hEn⟩
      clear HR
      have HC : Calls Tryz.prog 22 #[ptr gy] wn fun e w' => Below wn.heap.size wn w' ∧ e = .returned (.agg #[.int .i64 0, .int .i64 0, .int .i64 0]) := ecounts_any hEn
      go_wp2_with fail
      refine HC.mono ?_
      rintro e wo ⟨Bo, rfl⟩
      clear HC
      have Bmw : Below w.heap.size w wm := (BW.trans (Cf.mono hz)).trans (Gm.mono (Nat.le_trans hz Cf.size))
      have Bnw : Below w.heap.size w wn := Bmw.trans (hFn.lows (fun k hk => Nat.le_trans hz (Nat.le_trans Ce.size hk.1)) Bmw.size)
      go_wp2_with fail
      go_ret
      exact ⟨rfl, Bnw.trans (Bo.mono Bnw.size)⟩
end Go.Proofs.YtfddoieakfpagabGreatDoor
