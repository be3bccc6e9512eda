import Derived.Test.YtfddoieakfpagaaGreatDoorTU
import Derived.Test.YtfddoieakfpagaaGreatDoorJT
import Derived.Test.YtfddoieakfpagaaGreatDoorGK
import Derived.Laws.AppendOwnNone
import Derived.Deep.RegionHeld
import Derived.BigQuiet
import Derived.Deep.RegionHeldLaw
namespace Go.Proofs.YtfddoieakfpagaaGreatDoor
open Go.RowKit
theorem pW {w : World} {lo size n : Nat} {e : TypeId} {v : Value} {xs : List Value} (h : w.ownsRow lo e size v n xs) (hn : 0 < n) : ∃ g cap, v = .slice (some ⟨g, 0, none⟩) n cap /\ g < w.heap.size /\ lo <= g /\ ∀ j, j < n * size -> w.cell? ⟨g, j, none⟩ = xs[j]? := by
 rcases h.2 with ⟨_, h2⟩ | ⟨g, cap, cur, rfl, h1, h2, _⟩
 ·omega
 ·exact ⟨g, cap, rfl, (zL h2), h1, fun j hj => h.cellAt j hj⟩
theorem oG {w : World} {lo size n : Nat} {e : TypeId} {v : Value} {xs : List Value} (h : w.ownsRow lo e size v n xs) : ∃ a cap, v = .slice a n cap := by
 rcases h.2 with ⟨rfl, rfl⟩ | ⟨g, cap, cur, rfl, _⟩
 ·exact ⟨_, _, rfl⟩
 ·exact ⟨_, _, rfl⟩
structure Pw (w : World) (pb : Nat) (L : List DL) (fr : Nat) : Prop where
 ex : ∃ la lc lo x2 x3 x4 x5, w.heap[pb]? = some (.cells #[.slice la L.length lc, .int .i64 fr, x2, x3, x4, x5] 82) /\ w.ownsRow lo 90 3 (.slice la L.length lc) L.length (oQ L)
 few : L.length <= 701
theorem aKk (g o n cap k : Nat) (hk : k < n) : ∀ W : World, (Instr.indexAt 77 (.slice (some ⟨g, o, none⟩) n cap) (.int .i64 k)).run Tryz.prog W = .ok (.pointer (some ⟨g, o + k * 3, none⟩)) W := by
 intro W
 rw [run_indexAt_slice (h := by kernel_rfl), if_pos (by omega)]
 have : (sizeOf (Tryz.prog.elem 77)).run Tryz.prog W = .ok 3 W := by kernel_rfl
 rw [this]
 simp [Result.andThen, Addr.add]
theorem Pw.at {w : World} {pb fr : Nat} {L : List DL} (h : Pw w pb L fr) {k : Nat} {d : DL} (hk : L[k]? = some d) : ∃ g c x2 x3 x4 x5, w.heap[pb]? = some (.cells #[.slice (some ⟨g, 0, none⟩) L.length c, .int .i64 fr, x2, x3, x4, x5] 82) /\ (w.cell? ⟨g, k * 3, none⟩ = some (S d.1) /\ w.cell? ⟨g, k * 3 + 1, none⟩ = some (S d.2.1) /\ w.cell? ⟨g, k * 3 + 2, none⟩ = some (.int .i64 d.2.2)) /\ g < w.heap.size /\ ∀ W : World, (Instr.indexAt 77 (.slice (some ⟨g, 0, none⟩) L.length c) (.int .i64 k)).run Tryz.prog W = .ok (.pointer (some ⟨g, k * 3, none⟩)) W := by
 obtain ⟨la, lc, lo, x2, x3, x4, x5, h1, h2⟩ := h.ex
 have hlt := (List.getElem?_eq_some_iff.1 hk).1
 obtain ⟨g, c, e, lg, _, hc⟩ := pW h2 (by omega)
 cases e
 have hf := fun j u hu => I7 L k d hk j u hu
 refine ⟨g, lc, x2, x3, x4, x5, h1, ⟨?_, ?_, ?_⟩, lg, ?_⟩
 ·rw [hc (k * 3) (by omega)]; exact hf 0 _ rfl
 ·rw [hc (k * 3 + 1) (by omega)]; exact hf 1 _ rfl
 ·rw [hc (k * 3 + 2) (by omega)]; exact hf 2 _ rfl
 ·have := aKk g 0 L.length lc k hlt
  rw [Nat.zero_add] at this
  exact this
section
variable {w : World} {lo sb pb fr : Nat} {vQ : Value} {vs : List Value} {Q : List (List (Nat × Nat))} {L : List DL} {x2 x3 x4 x5 : Value} {k : Nat} {l : List (Nat × Nat)} {d : DL}
theorem Pw.below {w' : World} (h : Pw w pb L fr) (hb : Below w.heap.size w w') : Pw w' pb L fr := by
 obtain ⟨la, lc, lo, y2, y3, y4, y5, h1, h2⟩ := h.ex
 exact ⟨⟨la, lc, lo, y2, y3, y4, y5, (hb.block pb (zL h1)).trans h1, aW h2 (fun b _ hl => hb.block b hl)⟩, h.few⟩
end
theorem aH {P : Program} {ops : Array Oper} {C : World -> Prop} {Q : Act -> Prop} {a : Act} {o : Oper} {rest : List Oper} (v : Value) (hw : Region.wanted o (yielded ops a.tmps) = true) (h1 : ∀ w, C w -> (execOp a.eval o).run P w = .ok (.value v) w) (h2 : wpQuiet P ops C Q rest (a.put o.dst v)) : wpQuiet P ops C Q (o :: rest) a :=
 aX hw (fun w hC => aBy (h1 w hC) ⟨rfl, rfl⟩) h2
theorem fU {P : Program} {ops : Array Oper} {C : World -> Prop} {Q : Act -> Prop} {a : Act} {o : Oper} {rest : List Oper} (v : Value) (f : FuncId) (args : Array Value) (hw : Region.wanted o (yielded ops a.tmps) = true) (h0 : ∀ w, (execOp a.eval o).run P w = .ok (.enter f args) w) (h1 : ∀ w, C w -> Calls P f args w fun e w' => e = .returned v /\ C w') (h2 : wpQuiet P ops C Q rest (a.put o.dst v)) : wpQuiet P ops C Q (o :: rest) a :=
 aX hw (fun w hC => aBy (h0 w) ⟨rfl, h1 w hC⟩) h2
section
variable {w : World} {lo rb sb pb fr key er : Nat} {dom : Nat -> Prop} {L : List DL}
def okV (L : List DL) (v : List UInt8 × Nat) : Prop := v.1 = [110, 117, 109] \/ (v.1 = [108, 101, 110] /\ v.2 < L.length) \/ (v.1 = [118, 97, 114] /\ v.2 < L.length) \/ v.1 = [102, 114, 101, 113]
end
def okP (L : List DL) (x : Rt) : Prop := x.op = [100, 114, 111, 112] \/ x.op = [98, 117, 109, 112] \/ (x.n < L.length /\ (x.op = [112, 117, 116] \/ x.op = [105, 110, 99] \/ x.op = [100, 101, 99] \/ x.op = [99, 111, 111, 108] \/ x.op = [101, 118, 105, 99, 116] \/ (x.op = [115, 104, 105, 102, 116] /\ x.m < L.length)))
def okC (L : List DL) (c : Rc) : Prop := (c.op = [102, 117, 108, 108] /\ c.n < L.length) \/ (c.op = [101, 109, 112, 116, 121] /\ c.n < L.length) \/ (c.op = [119, 97, 114, 109] /\ c.n < L.length) \/ (c.op = [60] /\ okV L c.a /\ okV L c.b)
def OkS {β : Type} (L : List DL) (P : β -> Prop) (r : Rt × β × β) : Prop := (r.1.op = [105, 102] /\ okC L r.1.bU /\ P r.2.1 /\ P r.2.2) \/ (r.1.op = [114, 101, 112, 101, 97, 116] /\ okC L r.1.bU /\ r.1.n <= 1000 /\ P r.2.1) \/ okP L r.1
def L9 {α : Type} (P : α -> Prop) : List α -> Prop
 | [] => True
 | x :: xs => P x /\ L9 P xs
def lnL {α : Type} (xs : List α) : Nat := xs.length
def O3 (L : List DL) : (d : Nat) -> RT d -> Prop
 | 0, _ => True
 | d + 1, xs => L9 (OkS L (O3 L d)) xs /\ lnL xs <= 1000000
theorem yV {α : Type} {P : α -> Prop} : ∀ {xs : List α} {k : Nat} {x : α}, L9 P xs -> xs[k]? = some x -> P x
 | [], k, x, _, h => by simp at h
 | y :: xs, 0, x, h, e => by simp at e; subst e; exact h.1
 | y :: xs, k + 1, x, h, e => yV (k := k) h.2 (by simpa using e)
theorem aDj {β : Type} {P : Value -> β -> Prop} : ∀ {rs : List (Rt × Value × Value)} {xs : List (Rt × β × β)} {k : Nat} {x : Rt × β × β}, mP P rs xs -> xs[k]? = some x -> ∃ r, rs[k]? = some r /\ r.1 = x.1 /\ P r.2.1 x.2.1 /\ P r.2.2 x.2.2
 | [], [], k, x, _, h => by simp at h
 | r :: rs, y :: xs, 0, x, h, e => by simp at e; subst e; exact ⟨r, rfl, h.1, h.2.1, h.2.2.1⟩
 | r :: rs, y :: xs, k + 1, x, h, e => by
  obtain ⟨r2, h2⟩ := aDj (k := k) h.2.2.2 (by simpa using e)
  exact ⟨r2, by simpa using h2⟩
 | [], y :: xs, k, x, h, _ => by cases h
 | r :: rs, [], k, x, h, _ => by cases h
theorem aDi {β : Type} {P : Value -> β -> Prop} : ∀ {rs : List (Rt × Value × Value)} {xs : List (Rt × β × β)}, mP P rs xs -> rs.length = xs.length
 | [], [], _ => rfl
 | r :: rs, y :: xs, h => by simp [aDi h.2.2.2]
 | [], y :: xs, h => by cases h
 | r :: rs, [], h => by cases h
section
variable {w : World} {lo rb sb pb fr key er : Nat} {dom : Nat -> Prop} {L : List DL}
theorem aRy (g o n cap k : Nat) (hk : k < n) : ∀ W : World, (Instr.indexAt 80 (.slice (some ⟨g, o, none⟩) n cap) (.int .i64 k)).run Tryz.prog W = .ok (.pointer (some ⟨g, o + k * 14, none⟩)) W := by
 intro W
 rw [run_indexAt_slice (h := by kernel_rfl), if_pos (by omega)]
 have : (sizeOf (Tryz.prog.elem 80)).run Tryz.prog W = .ok 14 W := by kernel_rfl
 rw [this]
 simp [Result.andThen, Addr.add]
end
theorem aRz (g o n cap k : Nat) (hk : k < n) : ∀ W : World, (Instr.indexAt 78 (.slice (some ⟨g, o, none⟩) n cap) (.int .i64 k)).run Tryz.prog W = .ok (.pointer (some ⟨g, o + k, none⟩)) W := by
 intro W
 rw [run_indexAt_slice (h := by kernel_rfl), if_pos (by omega)]
 have : (sizeOf (Tryz.prog.elem 78)).run Tryz.prog W = .ok 1 W := by kernel_rfl
 rw [this]
 simp [Result.andThen, Addr.add]
structure Pf (w : World) (hi pb : Nat) (L : List DL) (fr : Nat) (p : Pm) : Prop where
 ex : ∃ la lc gr gh Mv RA, w.heap[pb]? = some (.cells #[.slice la L.length lc, .int .i64 fr, .slice (some ⟨gr, 0, none⟩) L.length L.length, .slice (some ⟨gh, 0, none⟩) L.length L.length, Mv, .bool p.ms] 82) /\ w.ownsRow 0 90 3 (.slice la L.length lc) L.length (oQ L) /\ w.heap[gr]? = some (.cells RA 80) /\ w.heap[gh]? = some (.cells (p.has.map Value.bool).toArray 4) /\ RA.size = L.length /\ (∀ k, k < L.length -> dI 8 w (fun g => g < hi) (RA.getD k aF) (p.dS.getD k (aI 8))) /\ dI 8 w (fun g => g < hi) Mv p.tK /\ pb < hi /\ gr < hi /\ gh < hi /\ (∀ g, (Value.slice la L.length lc).ownBlock = some g -> g < hi)
 len : L.length <= 701
 hs : p.has.length = L.length
 ps : p.dS.length = L.length
section
variable {w : World} {hi pb fr : Nat} {L : List DL} {p : Pm}
theorem Pf.pw (h : Pf w hi pb L fr p) : Pw w pb L fr := by
 obtain ⟨la, lc, gr, gh, Mv, RA, h1, h2, _⟩ := h.ex
 exact ⟨⟨la, lc, 0, _, _, _, _, h1, h2⟩, h.len⟩
end
theorem qO {L : List DL} {nm : List UInt8} {n : Nat} {b : Bool} (h : NB L nm n b) : n < L.length := by
 obtain ⟨d, h1, _⟩ := h
 exact (List.getElem?_eq_some_iff.1 h1).1
theorem aJ0 {L : List DL} {v : Vl} {o : List UInt8 × Nat} (h : VR L v o) : okV L o := by
 rcases h with ⟨_, h, _⟩ | ⟨_, h, h2⟩ | ⟨_, h, h2⟩ | ⟨_, h⟩
 ·exact Or.inl h
 ·exact Or.inr (Or.inr (Or.inl ⟨h, qO h2⟩))
 ·exact Or.inr (Or.inl ⟨h, qO h2⟩)
 ·exact Or.inr (Or.inr (Or.inr h))
theorem aJ1 {L : List DL} {x : Cd} {c c' : Rc} (h : CR L x c') (hE : rcE c c') : okC L c := by
 obtain ⟨_, _, h⟩ := h
 obtain ⟨e1, _, e3, e4⟩ := hE
 rcases h with ⟨h | h | h, h2⟩ | ⟨h, h2, h3⟩
 ·have e : c.op = [102, 117, 108, 108] := e1.trans h
  exact Or.inl ⟨e, by rw [e4 (by rw [e]; decide)]; exact qO h2⟩
 ·have e : c.op = [101, 109, 112, 116, 121] := e1.trans h
  exact Or.inr (Or.inl ⟨e, by rw [e4 (by rw [e]; decide)]; exact qO h2⟩)
 ·have e : c.op = [119, 97, 114, 109] := e1.trans h
  exact Or.inr (Or.inr (Or.inl ⟨e, by rw [e4 (by rw [e]; decide)]; exact qO h2⟩))
 ·have e : c.op = [60] := e1.trans h
  have e5 := e3 (by rw [e]; decide)
  exact Or.inr (Or.inr (Or.inr ⟨e, by rw [e5.1]; exact aJ0 h2, by rw [e5.2]; exact aJ0 h3⟩))
theorem aP6 {L : List DL} {x : St} {r y : Rt} (h : PR1 L x y) (hE : rtE r y) : okP L r := by
 obtain ⟨_, h⟩ := h
 obtain ⟨e1, _, _, e4, e5, _⟩ := hE
 have hn : ∀ {w : List UInt8}, y.op = w -> w ≠ [105, 102] -> w ≠ [100, 114, 111, 112] -> w ≠ [98, 117, 109, 112] -> r.n = y.n := fun {w} e h1 h2 h3 => e5 (by rw [e1, e]; exact h1) (by rw [e1, e]; exact h2) (by rw [e1, e]; exact h3)
 rcases h with ⟨h, _, h2⟩ | ⟨h, _, h2, h3⟩ | ⟨h | h, h2⟩ | ⟨h | h, h2⟩ | h | h
 ·exact Or.inr (Or.inr ⟨by rw [hn h (by decide) (by decide) (by decide)]; exact qO h2, Or.inl (e1.trans h)⟩)
 ·have e := e1.trans h
  exact Or.inr (Or.inr ⟨by rw [hn h (by decide) (by decide) (by decide)]; exact qO h2, Or.inr (Or.inr (Or.inr (Or.inr (Or.inr ⟨e, by rw [e4 e]; exact qO h3⟩))))⟩)
 ·exact Or.inr (Or.inr ⟨by rw [hn h (by decide) (by decide) (by decide)]; exact qO h2, Or.inr (Or.inr (Or.inr (Or.inr (Or.inl (e1.trans h)))))⟩)
 ·exact Or.inr (Or.inr ⟨by rw [hn h (by decide) (by decide) (by decide)]; exact qO h2, Or.inr (Or.inr (Or.inr (Or.inl (e1.trans h))))⟩)
 ·exact Or.inr (Or.inr ⟨by rw [hn h (by decide) (by decide) (by decide)]; exact qO h2, Or.inr (Or.inl (e1.trans h))⟩)
 ·exact Or.inr (Or.inr ⟨by rw [hn h (by decide) (by decide) (by decide)]; exact qO h2, Or.inr (Or.inr (Or.inl (e1.trans h)))⟩)
 ·exact Or.inl (e1.trans h)
 ·exact Or.inr (Or.inl (e1.trans h))
theorem zZ (c : Cc) {L : List DL} : ∀ (d lp base : Nat) (x : BT d) (y r : RT d), TR L d lp x y -> qU d r y -> (dL c d base lp x).length <= 1000000 -> O3 L d r /\ O4 d r = O4 d y
 | 0, _, _, _, _, _, _, _, _ => ⟨trivial, rfl⟩
 | d + 1, lp, base, x, y, r, hT, hE, hl => by
  have key : ∀ (xs : List (St × BT d × BT d)) (ys rs : List (Rt × RT d × RT d)) (base : Nat), TRL (TRs L (TR L d) lp) xs ys -> aHx (fun (a b : Rt × RT d × RT d) => rtE a.1 b.1 /\ qU d a.2.1 b.2.1 /\ qU d a.2.2 b.2.2) rs ys -> (lU (dL c d) c base lp xs).length <= 1000000 -> L9 (OkS L (O3 L d)) rs /\ rs.length <= (lU (dL c d) c base lp xs).length /\ wtL (wtS (O4 d)) rs = wtL (wtS (O4 d)) ys := by
   intro xs
   induction xs with
   | nil =>
    intro ys rs base h1 h2 h3
    cases ys with
    | nil =>
     cases rs with
     | nil => exact ⟨trivial, Nat.zero_le _, rfl⟩
     | cons _ _ => cases h2
    | cons _ _ => cases h1
   | cons x xs ih =>
    intro ys rs base h1 h2 h3
    cases ys with
    | nil => cases h1
    | cons y ys =>
     cases rs with
     | nil => cases h2
     | cons r rs =>
      obtain ⟨h1, h1'⟩ := h1
      obtain ⟨⟨e0, e1, e2⟩, h2'⟩ := h2
      have hlen : (lU (dL c d) c base lp (x :: xs)).length = (kT (dL c d) c base lp x).length + (lU (dL c d) c (base + (kT (dL c d) c base lp x).length) lp xs).length := by
       show List.length (_ ++ _) = _
       rw [List.length_append]
      rw [hlen] at h3 ⊢
      obtain ⟨i1, i2, i3⟩ := ih ys rs (base + (kT (dL c d) c base lp x).length) h1' h2' (by omega)
      have hS : OkS L (O3 L d) r /\ 1 <= (kT (dL c d) c base lp x).length /\ wtS (O4 d) r = wtS (O4 d) y := by
       have hop := e0.1
       rcases h1 with ⟨a1, a2, a3, a4, a5, a6⟩ | ⟨a1, a2, a3, a4, a5, a6, a7⟩ | a1
       ·have er : r.1.op = [105, 102] := hop.trans a2
        have hg : kT (dL c d) c base lp x = _ := if_pos a1
        rw [hg] at h3 ⊢
        simp only [List.length_cons, List.length_append] at h3 ⊢
        have t1 := zZ c d lp (base + 1) x.2.1 y.2.1 r.2.1 a5 e1 (by omega)
        have t2 := zZ c d lp (base + (dL c d (base + 1) lp x.2.1).length + 2) x.2.2 y.2.2 r.2.2 a6 e2 (by omega)
        refine ⟨Or.inl ⟨er, aJ1 a3 (e0.2.2.2.2.2 (Or.inl er)), t1.1, t2.1⟩, by omega, ?_⟩
        unfold wtS
        rw [if_pos er, if_pos a2, t1.2, t2.2]
       ·have er : r.1.op = [114, 101, 112, 101, 97, 116] := hop.trans a2
        have en : r.1.n = y.1.n := e0.2.2.2.2.1 (by rw [er]; decide) (by rw [er]; decide) (by rw [er]; decide)
        have hx : ¬ x.1.word = [105, 102] := by rw [a1]; decide
        have hg : kT (dL c d) c base lp x = _ := (if_neg hx).trans (if_pos a1)
        rw [hg] at h3 ⊢
        simp only [List.length_cons, List.length_append] at h3 ⊢
        have t1 := zZ c d (lp + 1) (base + 3) x.2.1 y.2.1 r.2.1 a7 e1 (by omega)
        refine ⟨Or.inr (Or.inl ⟨er, aJ1 a3 (e0.2.2.2.2.2 (Or.inr er)), by omega, t1.1⟩), by omega, ?_⟩
        unfold wtS
        rw [if_neg (by rw [er]; decide), if_pos er, if_neg (by rw [a2]; decide), if_pos a2, t1.2, en]
       ·have hp := aP6 a1 e0
        have hn : y.1.op ≠ [105, 102] /\ y.1.op ≠ [114, 101, 112, 101, 97, 116] := by
         rcases a1.2 with ⟨h, _⟩ | ⟨h, _⟩ | ⟨h | h, _⟩ | ⟨h | h, _⟩ | h | h <;> rw [h] <;> decide
        have hx1 : ¬ x.1.word = [105, 102] := by rw [a1.1]; exact hn.1
        have hx2 : ¬ x.1.word = [114, 101, 112, 101, 97, 116] := by rw [a1.1]; exact hn.2
        have hg : kT (dL c d) c base lp x = _ := (if_neg hx1).trans (if_neg hx2)
        rw [hg]
        refine ⟨Or.inr (Or.inr hp), by simp, ?_⟩
        unfold wtS
        rw [if_neg (by rw [hop]; exact hn.1), if_neg (by rw [hop]; exact hn.2), if_neg hn.1, if_neg hn.2]
      refine ⟨⟨hS.1, i1⟩, by simp only [List.length_cons]; omega, ?_⟩
      show wtS (O4 d) r + wtL _ rs = wtS (O4 d) y + wtL _ ys
      rw [hS.2.2, i3]
  obtain ⟨k1, k2, k3⟩ := key x y r base hT hE hl
  exact ⟨⟨k1, Nat.le_trans k2 hl⟩, k3⟩
theorem aD7 {c : Cc} {P : Pol} {qi vi : Nat -> Nat} (hp : Prg c P qi vi) (ev : List UInt8) (r : RT 8) (hE : qU 8 r (P.tree ev)) : O3 P.L 8 r /\ O4 8 r < 10000000 := by
 have hr := hp.ru ev
 unfold Pol.tree at hE
 cases hv : P.dS ev with
 | none =>
  rw [hv] at hE
  have := zZ c (L := P.L) 8 0 0 ([] : List (St × BT 7 × BT 7)) (aI 8) r trivial hE (by show ([] : List Stp).length <= _; simp)
  refine ⟨this.1, ?_⟩
  rw [this.2]
  show 0 < 10000000
  omega
 | some y =>
  rw [hv] at hE hr
  obtain ⟨x, _, h1, h2, h3⟩ := hr
  have := zZ c (L := P.L) 8 0 0 x y r h1 hE (by omega)
  exact ⟨this.1, by rw [this.2]; omega⟩
end Go.Proofs.YtfddoieakfpagaaGreatDoor
