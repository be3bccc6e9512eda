import Derived.Stop.LaidErr
namespace Go.Proofs.YtippenbbibfmdabDoor
open Go

/-- A listed sentinel: its variable's name, its text. -/
def sentinel (nm : String) (x : String × List UInt8) : String × DataW Unit := (x.1, .iface nm (.ptr (.agg [.lit (.string x.2)])))

/-- WHAT 'laid' GIVES AT A LIST OF SENTINELS: a pointer each, no two the same, each to an own block. -/
theorem laid_many {P : Program} {nm : String} {W : World} {ti tp te ts : TypeId} {ms : Array (String × TypeId)} {f : Field}
    (hi : P.underlying ti = some (.interface ms)) (hrow : ∀ u, P.typeName? 3 u = some nm → u = tp)
    (hp : P.underlying tp = some (.pointer te)) (he : P.underlying te = some (.struct #[f])) (hft : f.type = ts) (hfo : f.offset = 0) (hs : P.underlying ts = some .string) (hc : P.cellsOf te = 1) (hcs : P.cellsOf ts = 1) :
    ∀ (L : List (String × List UInt8)) (ps : List MemPlace), (∀ x ∈ L, ∃ g, P.globalNamed x.1 = some g ∧ (P.globals[g]?).map (·.type) = some ti) →
      DataW.LaidVars P W (L.map (sentinel nm)) ps → ps.Nodup →
      (∀ b off, MemPlace.cell b off ∈ ps → (∃ c t, W.heap[b]? = some (.cells c t (0, 0))) ∧ ∀ u v, W.cell? ⟨b, off, none⟩ = some (.iface u v) → Value.okWide P W .any 0 u v) →
      ∃ A : List Addr, A.length = L.length ∧ A.Nodup ∧ (∀ a ∈ A, MemPlace.cell a.block a.off ∈ ps ∧ ∃ c t, W.heap[a.block]? = some (.cells c t (0, 0))) ∧
        ∀ (i : Nat) x a, L[i]? = some x → A[i]? = some a → W.var? P x.1 = some #[.iface tp (.pointer (some a))]
  | [], ps, _, _, _, _ => by
    refine ⟨[], rfl, List.nodup_nil, ?_, ?_⟩
    · intro a h; cases h
    · intro i x a h; simp at h
  | y :: L, ps, hg, hv, hnd, hrows => by
    obtain ⟨g0, t0, cs0, f0, p0, q0, hg0, ht0, hv0, hd0, hq, e0⟩ := hv
    obtain ⟨g, hg1, hg2⟩ := hg y (List.mem_cons_self ..)
    obtain rfl := Option.some.inj (hg1.symm.trans hg0)
    obtain rfl := Option.some.inj (hg2.symm.trans ht0)
    subst e0
    obtain ⟨l0⟩ := cs0
    have ok0 : ∀ u v, l0 = [.iface u v] → Value.okWide P W .any 0 u v := fun u v e => by
      subst e
      exact (hrows g 0 (by simp [MemPlace.row])).2 u v (by simpa using World.var?_cell hg0 hv0 0)
    obtain ⟨a0, s0, rfl, hc0, hs0, hz0, rfl⟩ := errorString_of_trod hi hrow hp he hft hfo hs hc hcs hd0 ok0
    obtain ⟨A, h1, h2, h3, h4⟩ := laid_many hi hrow hp he hft hfo hs hc hcs L q0 (fun x hx => hg x (List.mem_cons_of_mem _ hx)) hq
      (List.Nodup.sublist (List.sublist_append_right _ _) hnd) (fun b off hm => hrows b off (List.mem_append_right _ hm))
    have hr0 := (hrows a0.block a0.off (by simp [MemPlace.row])).1
    refine ⟨a0 :: A, by simp [h1], List.nodup_cons.2 ⟨fun hm => ?_, h2⟩, ?_, ?_⟩
    · have := (h3 a0 hm).1
      rw [List.nodup_append] at hnd
      exact hnd.2.2 (.cell a0.block a0.off) (by simp [MemPlace.row]) _ this rfl
    · intro a hm
      rcases List.mem_cons.1 hm with rfl | hm
      · exact ⟨by simp [MemPlace.row], hr0⟩
      · exact ⟨List.mem_append_right _ (h3 a hm).1, (h3 a hm).2⟩
    · intro i x a hx ha
      cases i with
      | zero =>
        simp only [List.getElem?_cons_zero, Option.some.injEq] at hx ha
        subst hx ha
        exact hv0
      | succ i =>
        simp only [List.getElem?_cons_succ] at hx ha
        exact h4 i x a hx ha
end Go.Proofs.YtippenbbibfmdabDoor
