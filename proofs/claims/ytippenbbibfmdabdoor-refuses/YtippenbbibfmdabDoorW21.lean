import Derived.Test.YtippenbbibfmdabDoorW20
namespace Go.Proofs.YtippenbbibfmdabDoor
open Go.RowKit

/-- What the checker knows: the names with their kinds, how many freqs, how many rules an event has, and the first fault (which sentinel, where). -/
structure Ck where
  names : List (List UInt8 × Nat)
  freqs : Nat
  rules : List (List UInt8 × Nat)
  first : Option (Nat × Nat)

def Ck.fault (s : Ck) (i p : Nat) : Ck := match s.first with
  | none => { s with first := some (i, p) }
  | some _ => s

/-- What the checker's last cell holds. -/
def FirstR (w : World) (lo : Nat) (E : Nat → Value) (v : Value) : Option (Nat × Nat) → Prop
  | none => v = .nilIface
  | some (i, p) => ∃ f, v = .iface 42 (ptr f) ∧ lo ≤ f ∧ w.heap[f]? = some (.cells #[.iface 143 (E i), .int .i64 p] 44)

/-- The checker lies in block c, all that it made lies from lo on. -/
structure CkAt (w : World) (lo c nb rb : Nat) (E : Nat → Value) (s : Ck) : Prop where
  cell : ∃ v, w.heap[c]? = some (.cells #[.map (some nb), .int .i64 s.freqs, .map (some rb), v] 63) ∧ FirstR w lo E v s.first
  names : MapR w 101 nb s.names.length s.names
  rules : ∃ n, n ≤ s.rules.length ∧ MapR w 3 rb n s.rules
  gl : ∀ i, 1 < i → i < 9 → w.cell? ⟨i, 0, none⟩ = some (.iface 143 (E i))
  low : 10 < lo ∧ lo ≤ c ∧ lo ≤ nb ∧ lo ≤ rb ∧ lo ≤ w.heap.size
  few : s.names.length ≤ 8 ∧ s.rules.length ≤ 1000 ∧ s.freqs ≤ 1000

theorem CkAt.ne {w : World} {lo c nb rb : Nat} {E : Nat → Value} {s : Ck} (h : CkAt w lo c nb rb E s) : c ≠ nb ∧ c ≠ rb := by
  obtain ⟨v, hc, _⟩ := h.cell
  obtain ⟨D, ⟨es, k, h1, _⟩, _⟩ := h.names
  obtain ⟨n, _, D', ⟨es', k', h1', _⟩, _⟩ := h.rules
  constructor
  · rintro rfl; rw [hc] at h1; simp at h1
  · rintro rfl; rw [hc] at h1'; simp at h1'

theorem FirstR.move {w w' : World} {lo : Nat} {E : Nat → Value} {v : Value} {o : Option (Nat × Nat)} (h : FirstR w lo E v o) (hb : ∀ (f : Nat) (x : Array Value), w.heap[f]? = some (Obj.cells x 44) → w'.heap[f]? = w.heap[f]?) : FirstR w' lo E v o := by
  cases o with
  | none => exact h
  | some q =>
    obtain ⟨f, h1, h2, h3⟩ := h
    exact ⟨f, h1, h2, (hb f _ h3).trans h3⟩

/-- New blocks alone. -/
theorem CkAt.grow {w w' : World} {lo c nb rb : Nat} {E : Nat → Value} {s : Ck} (h : CkAt w lo c nb rb E s) (hb : Below w.heap.size w w') : CkAt w' lo c nb rb E s := by
  obtain ⟨v, hc, hf⟩ := h.cell
  obtain ⟨n, hn, hr⟩ := h.rules
  refine ⟨⟨v, (hb.block _ (Array.getElem?_eq_some_iff.1 hc).1).trans hc, FirstR.move hf fun f x hx => hb.block _ (Array.getElem?_eq_some_iff.1 hx).1⟩, h.names.move (hb.block _ h.names.lt), ⟨n, hn, hr.move (hb.block _ hr.lt)⟩, fun i h1 h2 => ?_, ?_, h.few⟩
  · exact (hb.cell (p := ⟨i, 0, none⟩) (cell_lt (h.gl i h1 h2))).trans (h.gl i h1 h2)
  · have := h.low; have := hb.size; omega

/-- All blocks but the checker's own three are as they were. -/
structure Kp (c nb rb : Nat) (w w' : World) : Prop where
  os : w'.os = w.os
  tape : w'.tape = w.tape
  output : w'.output = w.output
  size : w.heap.size ≤ w'.heap.size
  block : ∀ k, k < w.heap.size → k ≠ c → k ≠ nb → k ≠ rb → w'.heap[k]? = w.heap[k]?

theorem Kp.refl (c nb rb : Nat) (w : World) : Kp c nb rb w w := ⟨rfl, rfl, rfl, Nat.le_refl _, fun _ _ _ _ _ => rfl⟩
theorem Kp.trans {c nb rb : Nat} {x y z : World} (h : Kp c nb rb x y) (k : Kp c nb rb y z) : Kp c nb rb x z :=
  ⟨k.os.trans h.os, k.tape.trans h.tape, k.output.trans h.output, Nat.le_trans h.size k.size, fun i hi h1 h2 h3 => (k.block i (Nat.lt_of_lt_of_le hi h.size) h1 h2 h3).trans (h.block i hi h1 h2 h3)⟩
theorem Kp.drew {c nb rb : Nat} {a w : World} (h : Kp c nb rb a w) : Kp c nb rb a w.drew := ⟨h.os, h.tape, h.output, h.size, h.block⟩
theorem Kp.alloc {c nb rb : Nat} {a w : World} (h : Kp c nb rb a w) (o : Obj) : Kp c nb rb a (w.alloc o) :=
  h.trans ⟨rfl, rfl, rfl, by simp, fun k hk _ _ _ => Below.heap_alloc _ _ _ hk⟩
theorem Kp.below {c nb rb lo : Nat} {w w' : World} (h : Kp c nb rb w w') (h0 : lo ≤ w.heap.size) (h1 : lo ≤ c) (h2 : lo ≤ nb) (h3 : lo ≤ rb) : Below lo w w' :=
  ⟨h.os, h.tape, h.output, h.size, fun k hk => h.block k (by omega) (by omega) (by omega) (by omega)⟩

def OutC (w : World) (lo c nb rb : Nat) (E : Nat → Value) (s : Ck) (e : Ending) (w' : World) : Prop :=
  e = .returned (.tuple #[]) ∧ CkAt w' lo c nb rb E s ∧ Kp c nb rb w w'

theorem end0 {fn : Func} {R : Ending → World → Prop} {a : Act} {w : World} (hr : fn.results = #[]) (hd : a.defers = []) (hR : R (.returned (.tuple #[])) w) : bodyPost Tryd.prog fn R .normal a w :=
  bodyPost_end (by simp [results, hr, go_sem]) hd hR
theorem ret0 {fn : Func} {R : Ending → World → Prop} {a : Act} {w : World} (hr : fn.results = #[]) (hd : a.defers = []) (hR : R (.returned (.tuple #[])) w) : bodyPost Tryd.prog fn R .ret a w :=
  bodyPost_ret (by simp [results, hr, go_sem]) hd hR

theorem cfault_any {w : World} {lo c nb rb : Nat} {E : Nat → Value} {s : Ck} (h : CkAt w lo c nb rb E s) (i p : Nat) :
    Calls Tryd.prog 20 #[ptr c, .iface 143 (E i), .int .i64 p] w fun e w' => OutC w lo c nb rb E (s.fault i p) e w' := by
  obtain ⟨v, hc, hf⟩ := h.cell
  have c3 : w.cell? ⟨c, 3, none⟩ = some v := by simp [World.cell?, hc]
  have hlt : c < w.heap.size := (Array.getElem?_eq_some_iff.1 hc).1
  have hlow := h.low
  generalize hs : s.fault i p = s'
  have HS : Hid (s.fault i p = s') := hs
  clear hs
  cases hfs : s.first with
  | some q =>
    rw [hfs] at hf
    obtain ⟨f, rfl, hlo, hF⟩ := hf
    go_enter Tryd.func20, Tryd.ntmps20
    go_wp2
    have e1 : s' = s := by rw [← HS.out]; simp [Ck.fault, hfs]
    subst e1
    exact end0 rfl rfl ⟨rfl, h, Kp.refl _ _ _ _⟩
  | none =>
    rw [hfs] at hf
    have hv : v = .nilIface := hf
    subst hv
    have f3 : (w.alloc (.cells #[.iface 143 (E i), .int .i64 p] 44)).frozen? ⟨c, 3, none⟩ = false := by
      have := Below.heap_alloc w (.cells #[.iface 143 (E i), .int .i64 p] 44) _ hlt
      simp [World.frozen?, this, hc]
    go_enter Tryd.func20, Tryd.ntmps20
    go_wp2
    have e1 : s' = { s with first := some (i, p) } := by rw [← HS.out]; simp [Ck.fault, hfs]
    have hne := h.ne
    obtain ⟨n, hn, hr⟩ := h.rules
    have K : Below lo w ((w.setCell ⟨c, 3, none⟩ (.iface 42 (ptr w.heap.size))).alloc (.cells #[.iface 143 (E i), .int .i64 p] 44)) := ((Below.refl lo w).setCell hlow.2.1 _).alloc (by simp [World.setCell]; omega) _
    have B : ∀ k, k < w.heap.size → k ≠ c → ((w.setCell ⟨c, 3, none⟩ (.iface 42 (ptr w.heap.size))).alloc (.cells #[.iface 143 (E i), .int .i64 p] 44)).heap[k]? = w.heap[k]? := fun k h1 h2 => by
      rw [Below.heap_alloc _ _ _ (by simpa [World.setCell] using h1), Below.heap_setCell _ _ _ _ h2]
    refine end0 rfl rfl ⟨rfl, ?_, K.os, K.tape, K.output, K.size, fun k h1 h2 _ _ => B k h1 h2⟩
    subst e1
    refine ⟨⟨.iface 42 (ptr w.heap.size), ?_, w.heap.size, rfl, hlow.2.2.2.2, ?_⟩, h.names.move (B _ h.names.lt hne.1.symm), ⟨n, hn, hr.move (B _ hr.lt hne.2.symm)⟩, ?_, ?_, h.few⟩
    · rw [Below.heap_alloc _ _ _ (by simpa [World.setCell] using hlt)]
      exact heap_setCell_same _ _ _ _ _ _ hc
    · exact heap_new (by simp [World.setCell])
    · intro j h1 h2
      exact (K.cell (p := ⟨j, 0, none⟩) (by simp; omega)).trans (h.gl j h1 h2)
    · exact ⟨hlow.1, hlow.2.1, hlow.2.2.1, hlow.2.2.2.1, Nat.le_trans hlow.2.2.2.2 K.size⟩
end Go.Proofs.YtippenbbibfmdabDoor
