import Derived.Test.YtippenbbibfmdabDoorW19
import Derived.Maps.OwnSet
import Derived.StringKeys
namespace Go.Proofs.YtippenbbibfmdabDoor
open Go.RowKit Go.ChangeMaps Go.MapKept Go.WideShapes

theorem k9 : Maps.Keyed Tryd.prog 9 := Maps.string_keyed (by kernel_rfl)
theorem u80 : Tryd.prog.underlying 60 = some (.map 9 101) := by kernel_rfl
theorem u81 : Tryd.prog.underlying 61 = some (.map 9 3) := by kernel_rfl
theorem u121 : Tryd.prog.underlying 101 = some (.int .i64) := by kernel_rfl
theorem u3 : Tryd.prog.underlying 3 = some (.int .i64) := by kernel_rfl
theorem z121 (w : World) : (zeroValue 101).run Tryd.prog w = .ok (.int .i64 0) w := by kernel_rfl
theorem z3 (w : World) : (zeroValue 3).run Tryd.prog w = .ok (.int .i64 0) w := by kernel_rfl

/-- What an association says of a key. -/
def look (k : List UInt8) : List (List UInt8 × Nat) → Option Nat
  | [] => none
  | p :: r => if p.1 = k then some p.2 else look k r

theorem look_cons (k x : List UInt8) (v : Nat) (m : List (List UInt8 × Nat)) : look k ((x, v) :: m) = if x = k then some v else look k m := rfl

/-- The map in block b reads as the association m, and holds c entries. -/
def MapR (w : World) (e : TypeId) (b c : Nat) (m : List (List UInt8 × Nat)) : Prop :=
  ∃ D : DataW Unit, w.ownsMap Tryd.prog 9 (plainElem Tryd.prog e) b c D ∧
    (∀ k, Maps.has D (.string k) = (look k m).isSome) ∧ (∀ k, D.atKey (.string k) (.lit (.int .i64 0)) = .lit (.int .i64 (((look k m).getD 0 : Nat) : Int))) ∧
    Maps.size D = c

theorem tight {w : World} {P : Program} {k : TypeId} {R : Value → Option (DataW Unit × List MemPlace)} {b n : Nat} {D : DataW Unit} (h : w.ownsMap P k R b n D) : w.ownsMap P k R b (Maps.size D) D := by
  obtain ⟨es, clock, hb, F, hs, rfl⟩ := h
  exact ⟨es, clock, hb, F, by simp [Maps.size, length_sorted], rfl⟩

theorem MapR.made (w : World) (e : TypeId) : MapR (w.alloc (.map #[] 0)) e w.heap.size 0 [] :=
  ⟨.map [], World.ownsMap_made w _ _ _, fun _ => rfl, fun _ => rfl, rfl⟩

theorem MapR.lt {w : World} {e : TypeId} {b c : Nat} {m : List (List UInt8 × Nat)} (h : MapR w e b c m) : b < w.heap.size := by
  obtain ⟨D, h, _⟩ := h
  exact h.lt

theorem MapR.move {w w' : World} {e : TypeId} {b c : Nat} {m : List (List UInt8 × Nat)} (h : MapR w e b c m) (hb : w'.heap[b]? = w.heap[b]?) : MapR w' e b c m := by
  obtain ⟨D, ⟨es, clock, h1, h2⟩, h3⟩ := h
  exact ⟨D, ⟨es, clock, hb.trans h1, h2⟩, h3⟩

theorem key_S (k : List UInt8) (hk : k.length ≤ 700) : keyOf Tryd.prog 9 (S k) = some (.string k) := by
  have := Go.WideMaps.keyOf_string_mk (P := Tryd.prog) (k := 9) (by kernel_rfl) (s := ⟨k.toArray⟩) (by simp [ByteArray.size, maxLen]; omega)
  simpa [S] using this

theorem MapR.get_ok {w : World} {t e : TypeId} {b c : Nat} {m : List (List UInt8 × Nat)} (h : MapR w e b c m) (ht : Tryd.prog.underlying t = some (.map 9 e)) (he : Tryd.prog.underlying e = some (.int .i64)) (hz : (zeroValue e).run Tryd.prog w = .ok (.int .i64 0) w) (k : List UInt8) (hk : k.length ≤ 700) :
    (Instr.lookup t (.map (some b)) (S k) true).run Tryd.prog w = .ok (.tuple #[.int .i64 (((look k m).getD 0 : Nat) : Int), .bool (look k m).isSome]) w := by
  obtain ⟨D, ho, h1, h2, _⟩ := h
  obtain ⟨v, ps, hrun, hv⟩ := ho.look_ok k9 ht hz (plainElem_int he (by decide)) (key_S k hk)
  obtain ⟨a, rfl, hc, _⟩ := plainElem_int_inv he hv
  rw [hrun, h1]
  rw [h2] at hc
  simp at hc
  rw [← hc.1]

theorem MapR.get {w : World} {t e : TypeId} {b c : Nat} {m : List (List UInt8 × Nat)} (h : MapR w e b c m) (ht : Tryd.prog.underlying t = some (.map 9 e)) (he : Tryd.prog.underlying e = some (.int .i64)) (hz : (zeroValue e).run Tryd.prog w = .ok (.int .i64 0) w) (k : List UInt8) (hk : k.length ≤ 700) :
    (Instr.lookup t (.map (some b)) (S k) false).run Tryd.prog w = .ok (.int .i64 (((look k m).getD 0 : Nat) : Int)) w := by
  obtain ⟨D, ho, h1, h2, _⟩ := h
  obtain ⟨a, hrun, hat, _⟩ := ho.lookup_int k9 ht he hz (key_S k hk)
  rw [hrun]
  rw [h2] at hat
  simp at hat
  rw [← hat]

theorem MapR.put {w : World} {t e : TypeId} {b c : Nat} {m : List (List UInt8 × Nat)} (h : MapR w e b c m) (ht : Tryd.prog.underlying t = some (.map 9 e)) (he : Tryd.prog.underlying e = some (.int .i64)) (hc : c ≤ 3000) (k : List UInt8) (hk : k.length ≤ 700) (v : Nat) (hv : v ≤ 3000) :
    ∃ w', (Instr.mapUpdate t (.map (some b)) (S k) (.int .i64 v)).run Tryd.prog w = .ok () w' ∧ MapR w' e b (if (look k m).isSome then c else c + 1) ((k, v) :: m) ∧ w.grownBy w' (some b) ∧ w'.heap.size = w.heap.size := by
  obtain ⟨D, ho, h1, h2, h3⟩ := h
  obtain ⟨w', hrun, ho', ht'⟩ := ho.store k9 ht (by simp [maxLen]; omega) (key_S k hk) (plainElem_int (H := Unit) he (a := (v : Int)) (by simp [Lit.wf, IntKind.min, IntKind.max, IntKind.bits, IntKind.signed]; omega))
  refine ⟨w', hrun, ⟨D.put (.string k) (.lit (.int .i64 v)), ?_, ?_, ?_, ?_⟩, ht'.grown, ?_⟩
  · have := tight ho'
    rw [Maps.size_put (ho.tidy k9), h1, h3] at this
    exact this
  · intro x
    rw [look_cons]
    by_cases e : k = x
    · subst e; rw [Maps.has_put_same (k := .string k) ho.isMap trivial]; simp
    · rw [Maps.has_put_other (by simpa using fun h => e h.symm), h1, if_neg e]
  · intro x
    rw [look_cons]
    by_cases e : k = x
    · subst e; rw [Maps.atKey_put_same (k := .string k) ho.isMap trivial]; simp
    · rw [Maps.atKey_put_other (by simpa using fun h => e h.symm), h2, if_neg e]
  · rw [Maps.size_put (ho.tidy k9), h1, h3]
  · obtain ⟨es, clock, es', clock', hb, rfl⟩ := ht'
    simp [setBlock]

theorem MapR.len {w : World} {t e : TypeId} {b c : Nat} {m : List (List UInt8 × Nat)} (h : MapR w e b c m) (ht : Tryd.prog.underlying t = some (.map 9 e)) (ty : TypeId) : (Builtin.len_ #[t] ty #[.map (some b)]).run Tryd.prog w = .ok (.int .i64 c) w := by
  obtain ⟨D, ho, _, _, h3⟩ := h
  rw [ho.len ht ty, h3]
end Go.Proofs.YtippenbbibfmdabDoor
