import Derived.Test.YtfddoieakfpagaaGreatDoorGG
import Derived.Test.YtfddoieakfpagaaGreatDoorGD
import Derived.Test.YtfddoieakfpagaaGreatDoorGB
import Derived.Test.YtfddoieakfpagaaGreatDoorHC
import Derived.Test.YtfddoieakfpagaaGreatDoorGC
namespace Go.Proofs.YtfddoieakfpagaaGreatDoor
open Go.RowKit
def uJ (names : List (List UInt8 × Nat)) (L : List DL) : Prop := ∀ x, look x names = (dV L x).map fun k => if ((L.getD k ([], [], 0)).1 == [118, 97, 114]) = true then 1 else 0
def WR (L : List DL) (ck : Ck) (s : Rs) : Prop := match ck.first with
 | none => s.wrong = 0 /\ uJ ck.names L
 | some e => s.wrong = oK e.1 /\ s.iF = e.2
theorem kQ (i : Nat) : oK i ≠ 0 := by
 unfold oK
 repeat' split
 all_goals decide
theorem WR.fault {L : List DL} {ck : Ck} {s : Rs} (h : WR L ck s) (hb : s.bad = 0) (i p : Nat) : WR L (ck.fault i p) (s.note (oK i) p) := by
 unfold WR at h
 unfold Ck.fault Rs.note
 cases hf : ck.first with
 | none =>
  rw [hf] at h
  rw [if_pos ⟨hb, h.1⟩]
  exact ⟨rfl, rfl⟩
 | some e =>
  rw [hf] at h
  have hw : s.wrong ≠ 0 := by rw [h.1]; exact kQ _
  rw [if_neg (fun hh => hw hh.2)]
  unfold WR
  rw [hf]
  exact h
theorem WR.same {L : List DL} {ck : Ck} {s s' : Rs} (h : WR L ck s) (h1 : s'.wrong = s.wrong) (h2 : s'.iF = s.iF) : WR L ck s' := by
 unfold WR at *
 cases hf : ck.first with
 | none => rw [hf] at h; exact ⟨h1.trans h.1, h.2⟩
 | some e => rw [hf] at h; exact ⟨h1.trans h.1, h2.trans h.2⟩
theorem WR.late {L L' : List DL} {ck ck' : Ck} {s s' : Rs} {e : Nat × Nat} (h : WR L ck s) (hf : ck.first = some e) (hf' : ck'.first = some e) (h1 : s'.wrong = s.wrong) (h2 : s'.iF = s.iF) : WR L' ck' s' := by
 unfold WR at *
 rw [hf] at h
 rw [hf']
 exact ⟨h1.trans h.1, h2.trans h.2⟩
theorem kD {s : Rs} (hw : s.wrong ≠ 0) (e p : Nat) : s.note e p = s := by unfold Rs.note; rw [if_neg (fun hh => hw hh.2)]
theorem aCs {l : List UInt8} {L : List DL} {ck : Ck} {s : Rs} {t : Tok} (h : WR L ck s) (hb : s.bad = 0) (hk : t.kind = 2) (hraw : bF l t.pos = t.txt) (va : Bool) :
  WR L (ck.use (np t) (if va = true then 1 else 0)) (s.bG l t L va).2 /\ (s.bG l t L va).2.bad = 0 /\ (s.bG l t L va).2.k = s.k + 1 := by
 have hB : bD t = [110, 97, 109, 101] := by unfold bD; rw [hk]; rfl
 have hN : s.need t [110, 97, 109, 101] = s.aG := by unfold Rs.need; rw [if_pos hb, if_pos hB]
 have hba : s.aG.bad = 0 := hb
 have h0 : WR L ck s.aG := h.same rfl rfl
 unfold Rs.bG
 rw [hN, hraw]
 cases hf : ck.first with
 | some e =>
  have hw : s.aG.wrong ≠ 0 := by
   have := h0
   unfold WR at this
   rw [hf] at this
   rw [this.1]; exact kQ _
  have hck : ck.use (np t) (if va = true then 1 else 0) = ck := by
   have hfl : ∀ i p, ck.fault i p = ck := fun i p => by unfold Ck.fault; rw [hf]
   unfold Ck.use
   cases look (np t).1 ck.names with
   | none => exact hfl _ _
   | some d => simp only [hfl, ite_self]
  rw [hck]
  cases dV L t.txt with
  | none => simp only; rw [kD hw]; exact ⟨h0, hba, rfl⟩
  | some k =>
   simp only
   split
   ·exact ⟨h0, hba, rfl⟩
   ·rw [kD hw]; exact ⟨h0, hba, rfl⟩
 | none =>
  have hnm : uJ ck.names L := by
   have := h
   unfold WR at this
   rw [hf] at this
   exact this.2
  have hl := hnm t.txt
  unfold Ck.use
  cases hi : dV L t.txt with
  | none =>
   rw [hi] at hl
   have hl : look (np t).1 ck.names = none := hl
   rw [hl]
   simp only
   have hn := h0.fault hba 3 t.pos
   refine ⟨hn, ?_, ?_⟩
   ·unfold Rs.note; split <;> exact hba
   ·rw [iO]; rfl
  | some k =>
   rw [hi] at hl
   have hl : look (np t).1 ck.names = some (if ((L.getD k ([], [], 0)).1 == [118, 97, 114]) = true then 1 else 0) := hl
   rw [hl]
   simp only
   generalize ((L.getD k ([], [], 0)).1 == [118, 97, 114]) = b
   have hn := h0.fault hba 4 t.pos
   have nb : (s.aG.note 6 t.pos).bad = 0 := by unfold Rs.note; split <;> exact hba
   have nk : (s.aG.note 6 t.pos).k = s.k + 1 := by rw [iO]; rfl
   cases b <;> cases va
   ·simp only [Bool.false_eq_true, if_false, if_true]; exact ⟨h0, hba, rfl⟩
   ·simp only [Bool.false_eq_true, if_false, if_true]; exact ⟨hn, nb, nk⟩
   ·simp only [Bool.true_eq_false, Bool.false_eq_true, if_false, if_true]; exact ⟨hn, nb, nk⟩
   ·simp only [if_true]; exact ⟨h0, hba, rfl⟩
theorem oU {l : List UInt8} {L : List DL} {s : Rs} {t : Tok} (hb : s.bad = 0) (hk : bD t ≠ [110, 97, 109, 101]) (va : Bool) :
  (s.bG l t L va).2.bad = 2 /\ (s.bG l t L va).2.fZ = t.pos := by
 have hN : s.need t [110, 97, 109, 101] = s.fail 2 t := by unfold Rs.need; rw [if_pos hb, if_neg hk]
 have hbn : (s.fail 2 t).bad ≠ 0 := by simp [Rs.fail]
 have nn : ∀ e p, (s.fail 2 t).note e p = s.fail 2 t := fun e p => by unfold Rs.note; rw [if_neg (fun hh => hbn hh.1)]
 unfold Rs.bG
 rw [hN]
 split
 ·simp only [nn]; exact ⟨rfl, rfl⟩
 ·simp only [nn, ite_self]; exact ⟨rfl, rfl⟩
theorem aBf (l : List UInt8) (i : Nat) : ((aN l i).kind = 2 -> O8 (aN l i).txt = false /\ ∀ c ∈ (aN l i).txt, dU c = true) /\ ((aN l i).kind = 3 -> ∀ c ∈ (aN l i).txt, dN c = true) /\ ((aN l i).kind = 0 \/ (aN l i).kind = 1 -> (aN l i).txt = []) := by
 by_cases hs : skip l i < l.length
 ·have hL := jS l i hs
  have hD := kX l i hs
  have hS := kV l i hs
  have hN := jT l i hs
  generalize aN l i = t at *
  generalize skip l i = j at *
  cases e1 : dU l[j] with
  | true =>
   rw [hL e1]
   have hall : ∀ c ∈ (l.drop j).takeWhile dU, dU c = true := fun c hc => List.all_eq_true.1 List.all_takeWhile c hc
   generalize (l.drop j).takeWhile dU = X at *
   unfold jW
   by_cases h8 : 8 < X.length
   ·rw [if_pos h8]; simp
   ·rw [if_neg h8]
    by_cases hk : O8 X = true
    ·rw [if_pos hk]; simp
    ·rw [if_neg hk]
     exact ⟨fun _ => ⟨by simpa using hk, hall⟩, by simp, by simp⟩
  | false =>
  cases e2 : dN l[j] with
  | true =>
   rw [hD e1 e2]
   have hall : ∀ c ∈ (l.drop j).takeWhile dN, dN c = true := fun c hc => List.all_eq_true.1 List.all_takeWhile c hc
   generalize (l.drop j).takeWhile dN = X at *
   unfold qG
   by_cases h3 : 3 < X.length
   ·rw [if_pos h3]; simp
   ·rw [if_neg h3]
    exact ⟨by simp, fun _ => hall, by simp⟩
  | false =>
  cases e3 : pO l[j] with
  | true => rw [hS e1 e2 e3]; simp
  | false => rw [hN e1 e2 e3]; simp
 ·rw [kW l i hs]; simp
def aIi (x : List UInt8) : Bool := (O8 x || x == [59] || x == [123] || x == [125] || x == [60])
theorem aNm (l : List UInt8) (i : Nat) (x : List UInt8) (hx : aIi x = true) (hn : x ≠ [110, 111, 110, 101] /\ x ≠ [101, 110, 100] /\ x ≠ [110, 97, 109, 101] /\ x ≠ [110, 117, 109] /\ x ≠ []) (hd : (x.all fun c => !dN c) = true) (hl : O8 x = true \/ (x.all fun c => !dU c) = true) : bD (aN l i) = x ↔ (aN l i).txt = x := by
 obtain ⟨t2, t3, t0⟩ := aBf l i
 have hone := pK l i
 generalize aN l i = t at *
 have hcases : t.kind = 0 \/ t.kind = 1 \/ t.kind = 2 \/ t.kind = 3 \/ t.kind = 4 := by
  by_cases h0 : t.kind = 0
  ·exact Or.inl h0
  by_cases h1 : t.kind = 1
  ·exact Or.inr (Or.inl h1)
  have he : gW t = false := by simp [gW, h0, h1]
  rcases (hone he).2.2 with h | h | h
  ·exact Or.inr (Or.inr (Or.inl h))
  ·exact Or.inr (Or.inr (Or.inr (Or.inl h)))
  ·exact Or.inr (Or.inr (Or.inr (Or.inr h.1)))
 have hne : ∃ c, c ∈ x := by
  cases x with
  | nil => exact absurd rfl hn.2.2.2.2
  | cons c r => exact ⟨c, by simp⟩
 obtain ⟨c, hc⟩ := hne
 have hdc : dN c = false := by simpa using List.all_eq_true.1 hd c hc
 unfold bD
 rcases hcases with h | h | h | h | h
 ·rw [h]
  have := t0 (Or.inl h)
  rw [this]
  exact ⟨fun e => absurd e.symm hn.1, fun e => absurd e.symm hn.2.2.2.2⟩
 ·rw [h]
  have := t0 (Or.inr h)
  rw [this]
  exact ⟨fun e => absurd e.symm hn.2.1, fun e => absurd e.symm hn.2.2.2.2⟩
 ·rw [h]
  refine ⟨fun e => absurd e.symm hn.2.2.1, fun e => ?_⟩
  exfalso
  obtain ⟨k1, k2⟩ := t2 h
  rw [e] at k1 k2
  rcases hl with hl | hl
  ·rw [hl] at k1; cases k1
  ·have h1 := k2 c hc
   have h2 : dU c = false := by simpa using List.all_eq_true.1 hl c hc
   rw [h1] at h2; cases h2
 ·rw [h]
  refine ⟨fun e => absurd e.symm hn.2.2.2.1, fun e => ?_⟩
  exfalso
  have k := t3 h
  rw [e] at k
  have := k c hc
  rw [hdc] at this; cases this
 ·rw [h]
  exact Iff.rfl
theorem aKm (l : List UInt8) (i : Nat) : bD (aN l i) = [110, 97, 109, 101] ↔ (aN l i).kind = 2 := by
 constructor
 ·intro h
  have he := bK h (by decide) (by decide)
  obtain ⟨_, _, h3⟩ := pK l i he
  unfold bD at h
  rcases h3 with h2 | h3 | ⟨h4, h5⟩
  ·exact h2
  ·rw [h3] at h
   have h : ([110, 117, 109] : List UInt8) = [110, 97, 109, 101] := h
   exact absurd h (by decide)
  ·rw [h4] at h
   have h : (aN l i).txt = [110, 97, 109, 101] := h
   rw [h] at h5
   rcases h5 with h5 | h5
   ·exact absurd h5 (by decide)
   ·simp at h5
 ·intro h; unfold bD; rw [h]; rfl
theorem aEd (l : List UInt8) (i : Nat) : bD (aN l i) = [110, 117, 109] ↔ (aN l i).kind = 3 := ⟨aGk, fun h => by unfold bD; rw [h]; rfl⟩
structure GA (l : List UInt8) (TL : List Tok) (s : Rs) (t : Tok) : Prop where
 bad : s.bad = 0
 k : s.k < TL.length
 cu : cur TL s = t
 at' : ∃ j, j <= l.length /\ t = aN l j
section
variable {l : List UInt8} {TL : List Tok} {L : List DL} {ck : Ck} {s : Rs} {t : Tok}
theorem GA.step (hc : Ch l TL) (g : GA l TL s t) (he : gW t = false) {r : Rs} (hb : r.bad = 0) (hk : r.k = s.k + 1) : GA l TL r (nx l t) := by
 have hn := hc.nxt s.k t (by rw [<- g.cu]; exact aT g.k) he
 have hlt : r.k < TL.length := by rw [hk]; exact (List.getElem?_eq_some_iff.1 hn).1
 obtain ⟨j, hj, rfl⟩ := g.at'
 refine ⟨hb, hlt, ?_, _, oO l j hj, rfl⟩
 have h1 := aT hlt
 rw [hk, hn] at h1
 exact (Option.some.inj h1).symm
theorem GA.raw (g : GA l TL s t) (he : gW t = false) : bF l t.pos = t.txt := by
 obtain ⟨j, hj, rfl⟩ := g.at'
 exact (pK l j he).2.1
theorem GA.fix (g : GA l TL s t) (x : List UInt8) (hx : aIi x = true) (hn : x ≠ [110, 111, 110, 101] /\ x ≠ [101, 110, 100] /\ x ≠ [110, 97, 109, 101] /\ x ≠ [110, 117, 109] /\ x ≠ []) (hd : (x.all fun c => !dN c) = true) (hl : O8 x = true \/ (x.all fun c => !dU c) = true) : bD t = x ↔ t.txt = x := by
 obtain ⟨j, hj, rfl⟩ := g.at'
 exact aNm l j x hx hn hd hl
theorem GA.name (g : GA l TL s t) : bD t = [110, 97, 109, 101] ↔ t.kind = 2 := by
 obtain ⟨j, hj, rfl⟩ := g.at'
 exact aKm l j
theorem GA.num (g : GA l TL s t) : bD t = [110, 117, 109] ↔ t.kind = 3 := by
 obtain ⟨j, hj, rfl⟩ := g.at'
 exact aEd l j
theorem e_num (hc : Ch l TL) (g : GA l TL s t) (h : WR L ck s) (hk : t.kind = 3) (a b : Nat) :
  (s.num l t a b).1 = fV t.txt 0 /\ GA l TL (s.num l t a b).2 (nx l t) /\ WR L (if fV t.txt 0 < a \/ fV t.txt 0 > b then ck.fault 5 t.pos else ck) (s.num l t a b).2 := by
 have hB := g.num.2 hk
 have he := bK hB (by decide) (by decide)
 have hN : s.need t [110, 117, 109] = s.aG := by unfold Rs.need; rw [if_pos g.bad, if_pos hB]
 have hba : s.aG.bad = 0 := g.bad
 have h0 : WR L ck s.aG := h.same rfl rfl
 have hn := h0.fault hba 5 t.pos
 unfold Rs.num
 simp only [hN, hba, if_true, g.raw he]
 refine ⟨trivial, ?_, ?_⟩
 ·split
  ·exact g.step hc he (by unfold Rs.note; split <;> exact hba) (by rw [iO]; rfl)
  ·exact g.step hc he hba rfl
 ·split
  ·exact hn
  ·exact h0
theorem aIl (hb : s.bad = 0) (hk : bD t ≠ [110, 117, 109]) (a b : Nat) : (s.num l t a b).2.bad = 2 /\ (s.num l t a b).2.fZ = t.pos := by
 have hN : s.need t [110, 117, 109] = s.fail 2 t := by unfold Rs.need; rw [if_pos hb, if_neg hk]
 have hbn : (s.fail 2 t).bad ≠ 0 := by simp [Rs.fail]
 have nn : ∀ e p, (s.fail 2 t).note e p = s.fail 2 t := fun e p => by unfold Rs.note; rw [if_neg (fun hh => hbn hh.1)]
 unfold Rs.num
 simp only [hN, nn, ite_self]
 exact ⟨rfl, rfl⟩
theorem e_val (hc : Ch l TL) (g : GA l TL s t) (h : WR L ck s) :
  match bW l t with
  | .ok (x, t') => GA l TL (s.val l TL L).2 t' /\ WR L (ck.value x) (s.val l TL L).2
  | .error (q, p) => (s.val l TL L).2.bad = (if q then 3 else 2) /\ (s.val l TL L).2.fZ = p := by
 have aQp := g.fix [108, 101, 110] (by decide) (by decide) (by decide) (by decide)
 have aQr := g.fix [102, 114, 101, 113] (by decide) (by decide) (by decide) (by decide)
 have hb := g.bad
 have hv : s.val l TL L = if s.bad = 0 /\ bD t = [110, 117, 109] then (([110, 117, 109], (s.num l t 0 999).1), (s.num l t 0 999).2)
   else if s.bad = 0 /\ bD t = [108, 101, 110] then (([108, 101, 110], (s.aG.bG l (cur TL s.aG) L false).1), (s.aG.bG l (cur TL s.aG) L false).2)
   else if s.bad = 0 /\ bD t = [102, 114, 101, 113] then (([102, 114, 101, 113], 0), s.aG)
   else (([118, 97, 114], (s.bG l t L true).1), (s.bG l t L true).2) := by unfold Rs.val; rw [g.cu]
 by_cases k3 : t.kind = 3
 ·have hB := g.num.2 k3
  have n1 : t.txt ≠ [108, 101, 110] := fun e => by rw [aQp.2 e] at hB; exact absurd hB (by decide)
  have n2 : t.txt ≠ [102, 114, 101, 113] := fun e => by rw [aQr.2 e] at hB; exact absurd hB (by decide)
  have e2 : bW l t = .ok (⟨0, ([], 0), (fV t.txt 0, t.pos)⟩, nx l t) := by unfold bW; rw [if_neg n1, if_neg n2, if_neg (by omega), if_pos k3]
  rw [if_pos ⟨hb, hB⟩] at hv
  rw [hv, e2]
  obtain ⟨_, g1, w1⟩ := e_num hc g h k3 0 999
  refine ⟨g1, ?_⟩
  have hbd : fV t.txt 0 <= 999 := by
   obtain ⟨j, hj, rfl⟩ := g.at'
   have := tk3 l j hj k3
   exact aAc _ this.2 this.1
  rw [if_neg (by omega)] at w1
  exact w1
 ·rw [if_neg (fun hh => k3 (g.num.1 hh.2))] at hv
  by_cases kl : t.txt = [108, 101, 110]
  ·have hB := aQp.2 kl
   have he := bK hB (by decide) (by decide)
   rw [if_pos ⟨hb, hB⟩] at hv
   have ga := g.step hc he (r := s.aG) hb rfl
   have h0 : WR L ck s.aG := h.same rfl rfl
   rw [ga.cu] at hv
   by_cases k2 : (nx l t).kind = 2
   ·have e2 : bW l t = .ok (⟨2, np (nx l t), (0, 0)⟩, nx l (nx l t)) := by unfold bW; rw [if_pos kl, if_pos k2]
    rw [hv, e2]
    have he2 : gW (nx l t) = false := by simp [gW, k2]
    obtain ⟨w1, b1, q1⟩ := aCs h0 ga.bad k2 (ga.raw he2) false
    exact ⟨ga.step hc he2 b1 q1, w1⟩
   ·have e2 : bW l t = .error (false, (nx l t).pos) := by unfold bW; rw [if_pos kl, if_neg k2]
    rw [hv, e2]
    exact oU (l := l) (L := L) ga.bad (fun e => k2 (ga.name.1 e)) false
  ·rw [if_neg (fun hh => kl (aQp.1 hh.2))] at hv
   by_cases kf : t.txt = [102, 114, 101, 113]
   ·have hB := aQr.2 kf
    have he := bK hB (by decide) (by decide)
    rw [if_pos ⟨hb, hB⟩] at hv
    have e2 : bW l t = .ok (⟨3, ([], 0), (0, 0)⟩, nx l t) := by unfold bW; rw [if_neg kl, if_pos kf]
    rw [hv, e2]
    exact ⟨g.step hc he hb rfl, h.same rfl rfl⟩
   ·rw [if_neg (fun hh => kf (aQr.1 hh.2))] at hv
    by_cases k2 : t.kind = 2
    ·have e2 : bW l t = .ok (⟨1, np t, (0, 0)⟩, nx l t) := by unfold bW; rw [if_neg kl, if_neg kf, if_pos k2]
     rw [hv, e2]
     have he2 : gW t = false := by simp [gW, k2]
     obtain ⟨w1, b1, q1⟩ := aCs h hb k2 (g.raw he2) true
     exact ⟨g.step hc he2 b1 q1, w1⟩
    ·have e2 : bW l t = .error (false, t.pos) := by unfold bW; rw [if_neg kl, if_neg kf, if_neg k2, if_neg k3]
     rw [hv, e2]
     exact oU (l := l) (L := L) hb (fun e => k2 (g.name.1 e)) true
end
section
variable {l : List UInt8} {TL : List Tok} {L : List DL} {ck : Ck} {s : Rs} {t : Tok}
theorem I9 (hc : Ch l TL) (g : GA l TL s t) (h : WR L ck s) (x : List UInt8) (hx : aIi x = true) (hn : x ≠ [110, 111, 110, 101] /\ x ≠ [101, 110, 100] /\ x ≠ [110, 97, 109, 101] /\ x ≠ [110, 117, 109] /\ x ≠ []) (hd : (x.all fun c => !dN c) = true) (hl : O8 x = true \/ (x.all fun c => !dU c) = true) :
  match dJ x l t with
  | .ok (_, t') => GA l TL (s.need t x) t' /\ WR L ck (s.need t x)
  | .error (q, p) => (s.need t x).bad = (if q then 3 else 2) /\ (s.need t x).fZ = p := by
 have f := g.fix x hx hn hd hl
 by_cases k : t.txt = x
 ·have hB := f.2 k
  have he := bK hB hn.1 hn.2.1
  have e1 : s.need t x = s.aG := by unfold Rs.need; rw [if_pos g.bad, if_pos hB]
  have e2 : dJ x l t = .ok ((), nx l t) := by unfold dJ; rw [if_pos k]
  rw [e1, e2]
  exact ⟨g.step hc he g.bad rfl, h.same rfl rfl⟩
 ·have e1 : s.need t x = s.fail 2 t := by unfold Rs.need; rw [if_pos g.bad, if_neg (fun e => k (f.1 e))]
  have e2 : dJ x l t = .error (false, t.pos) := by unfold dJ; rw [if_neg k]
  rw [e1, e2]
  exact ⟨rfl, rfl⟩
theorem aE3 (hc : Ch l TL) : ∀ (f1 f2 : Nat) (n : Bool) (s : Rs) (t : Tok), GA l TL s t -> WR L ck s -> TL.length <= f1 + s.k -> l.length + 1 <= f2 + t.pos ->
  GA l TL (s.bH TL f1).2 (iW l f2 n t).2 /\ WR L ck (s.bH TL f1).2 /\ (iW l f2 n t).1 = (n != decide ((s.bH TL f1).1 % 2 = 1))
 | 0, f2, n, s, t, g, h, h1, h2 => by have := g.k; omega
 | f1 + 1, 0, n, s, t, g, h, h1, h2 => by
  obtain ⟨j, hj, rfl⟩ := g.at'
  have := oO l j hj
  omega
 | f1 + 1, f2 + 1, n, s, t, g, h, h1, h2 => by
  have f := g.fix [110, 111, 116] (by decide) (by decide) (by decide) (by decide)
  by_cases k : t.txt = [110, 111, 116]
  ·have hB := f.2 k
   have he := bK hB (by decide) (by decide)
   have ga := g.step hc he (r := s.aG) g.bad rfl
   have hp : t.pos + 3 <= (nx l t).pos := by have := aAb l t; rw [k] at this; simpa using this
   have ih := aE3 hc f1 f2 (!n) s.aG (nx l t) ga (h.same rfl rfl) (by show TL.length <= f1 + (s.k + 1); omega) (by omega)
   have e1 : s.bH TL (f1 + 1) = ((s.aG.bH TL f1).1 + 1, (s.aG.bH TL f1).2) := by
    conv => lhs; unfold Rs.bH
    rw [g.cu, if_pos ⟨g.bad, hB⟩]
   have e2 : iW l (f2 + 1) n t = iW l f2 (!n) (nx l t) := by
    conv => lhs; unfold iW
    rw [if_pos k]
   rw [e1, e2]
   refine ⟨ih.1, ih.2.1, ih.2.2.trans ?_⟩
   generalize (s.aG.bH TL f1).1 = m
   rcases Nat.mod_two_eq_zero_or_one m with hm | hm
   ·have hm2 : (m + 1) % 2 = 1 := by omega
    simp only [hm, hm2]
    cases n <;> decide
   ·have hm2 : (m + 1) % 2 = 0 := by omega
    simp only [hm, hm2]
    cases n <;> decide
  ·have e1 : s.bH TL (f1 + 1) = (0, s) := by
    conv => lhs; unfold Rs.bH
    rw [g.cu, if_neg (fun hh => k (f.1 hh.2))]
   have e2 : iW l (f2 + 1) n t = (n, t) := by
    conv => lhs; unfold iW
    rw [if_neg k]
   rw [e1, e2]
   refine ⟨g, h, ?_⟩
   show n = (n != decide (0 % 2 = 1))
   cases n <;> rfl
theorem fM (hb : s.bad ≠ 0) (t : Tok) (x : List UInt8) : s.need t x = s := by unfold Rs.need; rw [if_neg hb]
theorem vV (hb : s.bad ≠ 0) (e p : Nat) : s.note e p = s := by unfold Rs.note; rw [if_neg (fun hh => hb hh.1)]
theorem aQ2 (hb : s.bad ≠ 0) (t : Tok) (a b : Nat) : (s.num l t a b).2 = s := by
 unfold Rs.num
 simp only [fM hb, vV hb, ite_self]
theorem aLr (hb : s.bad ≠ 0) (t : Tok) (va : Bool) : (s.bG l t L va).2 = s := by
 unfold Rs.bG
 simp only [fM hb, vV hb, ite_self]
 split <;> rfl
theorem aFc (hb : s.bad ≠ 0) : (s.val l TL L).2 = s := by
 unfold Rs.val
 rw [if_neg (fun hh => hb hh.1), if_neg (fun hh => hb hh.1), if_neg (fun hh => hb hh.1)]
 exact aLr hb _ _
theorem aOk (hb : s.bad ≠ 0) (f : Nat) : s.bH TL f = (0, s) := by
 cases f with
 | zero => rfl
 | succ f => unfold Rs.bH; rw [if_neg (fun hh => hb hh.1)]
theorem aOm (hb : s.bad ≠ 0) (m : Nat) : (s.dF l TL L m).2 = s := by
 unfold Rs.dF
 rw [if_neg (fun hh => hb hh.1), if_neg (fun hh => hb hh.1), if_neg (fun hh => hb hh.1)]
 simp only [aFc hb, fM hb]
theorem aLs (hb : s.bad ≠ 0) : (s.bU l TL L).2 = s := by
 unfold Rs.bU
 rw [aOk hb]
 exact aOm hb _
theorem oD (q : Bool) : (if q = true then 3 else 2 : Nat) ≠ 0 := by cases q <;> decide
theorem aQt (hc : Ch l TL) (g : GA l TL s t) (h : WR L ck s) (n : Bool) (m : Nat) :
  match iL l n t with
  | .ok (x, t') => GA l TL (s.dF l TL L m).2 t' /\ WR L (ck.cond x) (s.dF l TL L m).2
  | .error (q, p) => (s.dF l TL L m).2.bad = (if q then 3 else 2) /\ (s.dF l TL L m).2.fZ = p := by
 have f1 := g.fix [102, 117, 108, 108] (by decide) (by decide) (by decide) (by decide)
 have f2 := g.fix [101, 109, 112, 116, 121] (by decide) (by decide) (by decide) (by decide)
 have f3 := g.fix [119, 97, 114, 109] (by decide) (by decide) (by decide) (by decide)
 have hb := g.bad
 have one : ∀ x : List UInt8, (x = [102, 117, 108, 108] \/ x = [101, 109, 112, 116, 121] \/ x = [119, 97, 114, 109]) -> bD t = x -> t.txt = x -> (s.dF l TL L m).2 = (s.aG.bG l (cur TL s.aG) L false).2 ->
   (match iL l n t with
   | .ok (x, t') => GA l TL (s.dF l TL L m).2 t' /\ WR L (ck.cond x) (s.dF l TL L m).2
   | .error (q, p) => (s.dF l TL L m).2.bad = (if q then 3 else 2) /\ (s.dF l TL L m).2.fZ = p) := by
  intro x hx hB ht hcv
  have hxe : x ≠ [110, 111, 110, 101] /\ x ≠ [101, 110, 100] := by rcases hx with rfl | rfl | rfl <;> decide
  have he := bK hB hxe.1 hxe.2
  have ga := g.step hc he (r := s.aG) hb rfl
  have h0 : WR L ck s.aG := h.same rfl rfl
  rw [ga.cu] at hcv
  have hc1 : t.txt = [102, 117, 108, 108] \/ t.txt = [101, 109, 112, 116, 121] \/ t.txt = [119, 97, 114, 109] := by rw [ht]; exact hx
  have hlt : t.txt ≠ [60] := by rw [ht]; rcases hx with rfl | rfl | rfl <;> decide
  by_cases k2 : (nx l t).kind = 2
  ·have e2 : iL l n t = .ok (⟨n, t.txt, np (nx l t), xU, xU⟩, nx l (nx l t)) := by unfold iL; rw [if_pos hc1, if_pos k2]
   rw [hcv, e2]
   have he2 : gW (nx l t) = false := by simp [gW, k2]
   obtain ⟨w1, b1, q1⟩ := aCs h0 ga.bad k2 (ga.raw he2) false
   refine ⟨ga.step hc he2 b1 q1, ?_⟩
   unfold Ck.cond
   rw [if_neg hlt]
   exact w1
  ·have e2 : iL l n t = .error (false, (nx l t).pos) := by unfold iL; rw [if_pos hc1, if_neg k2]
   rw [hcv, e2]
   exact oU (l := l) (L := L) ga.bad (fun e => k2 (ga.name.1 e)) false
 by_cases c1 : bD t = [102, 117, 108, 108]
 ·exact one _ (Or.inl rfl) c1 (f1.1 c1) (by unfold Rs.dF; rw [g.cu, if_pos ⟨hb, c1⟩])
 by_cases c2 : bD t = [101, 109, 112, 116, 121]
 ·exact one _ (Or.inr (Or.inl rfl)) c2 (f2.1 c2) (by unfold Rs.dF; rw [g.cu, if_neg (fun hh => c1 hh.2), if_pos ⟨hb, c2⟩])
 by_cases c3 : bD t = [119, 97, 114, 109]
 ·exact one _ (Or.inr (Or.inr rfl)) c3 (f3.1 c3) (by unfold Rs.dF; rw [g.cu, if_neg (fun hh => c1 hh.2), if_neg (fun hh => c2 hh.2), if_pos ⟨hb, c3⟩])
 have hcv : (s.dF l TL L m).2 = (((s.val l TL L).2.need (cur TL (s.val l TL L).2) [60]).val l TL L).2 := by unfold Rs.dF; rw [g.cu, if_neg (fun hh => c1 hh.2), if_neg (fun hh => c2 hh.2), if_neg (fun hh => c3 hh.2)]
 have hnc : ¬ (t.txt = [102, 117, 108, 108] \/ t.txt = [101, 109, 112, 116, 121] \/ t.txt = [119, 97, 114, 109]) := by
  rintro (e | e | e)
  ·exact c1 (f1.2 e)
  ·exact c2 (f2.2 e)
  ·exact c3 (f3.2 e)
 have hv := e_val (L := L) hc g h
 rw [hcv]
 unfold iL
 rw [if_neg hnc]
 cases hva : bW l t with
 | error q =>
  obtain ⟨q, p⟩ := q
  rw [hva] at hv
  have hbn : (s.val l TL L).2.bad ≠ 0 := by rw [hv.1]; exact oD q
  rw [fM hbn, aFc hbn]
  exact hv
 | ok a =>
  obtain ⟨a, t1⟩ := a
  rw [hva] at hv
  obtain ⟨g1, w1⟩ := hv
  have hn := I9 hc g1 w1 [60] (by decide) (by decide) (by decide) (by decide)
  rw [g1.cu]
  simp only
  by_cases k : t1.txt = [60]
  ·rw [if_pos k]
   have e3 : dJ [60] l t1 = .ok ((), nx l t1) := by unfold dJ; rw [if_pos k]
   rw [e3] at hn
   obtain ⟨g2, w2⟩ := hn
   have hv2 := e_val (L := L) hc g2 w2
   cases hvb : bW l (nx l t1) with
   | error q =>
    obtain ⟨q, p⟩ := q
    rw [hvb] at hv2
    exact hv2
   | ok b =>
    obtain ⟨b, t2⟩ := b
    rw [hvb] at hv2
    refine ⟨hv2.1, ?_⟩
    unfold Ck.cond
    rw [if_pos k]
    exact hv2.2
  ·rw [if_neg k]
   have e3 : dJ [60] l t1 = .error (false, t1.pos) := by unfold dJ; rw [if_neg k]
   rw [e3] at hn
   have hbn : ((s.val l TL L).2.need t1 [60]).bad ≠ 0 := by rw [hn.1]; decide
   rw [aFc hbn]
   exact hn
theorem aSt (hc : Ch l TL) (g : GA l TL s t) (h : WR L ck s) :
  match gZ l t with
  | .ok (x, t') => GA l TL (s.bU l TL L).2 t' /\ WR L (ck.cond x) (s.bU l TL L).2
  | .error (q, p) => (s.bU l TL L).2.bad = (if q then 3 else 2) /\ (s.bU l TL L).2.fZ = p := by
 obtain ⟨g1, w1, _⟩ := aE3 (L := L) (ck := ck) hc TL.length (l.length + 1) false s t g h (by omega) (by omega)
 exact aQt hc g1 w1 _ _
end
section
variable {l : List UInt8} {TL : List Tok} {L : List DL} {ck : Ck} {s : Rs} {t : Tok}
def ER {α : Type} (l : List UInt8) (TL : List Tok) (L : List DL) (ckf : α -> Ck) (r : PR α) (s' : Rs) : Prop := match r with
 | .ok (x, t') => GA l TL s' t' /\ WR L (ckf x) s'
 | .error (q, p) => s'.bad = (if q then 3 else 2) /\ s'.fZ = p
theorem ER.bind {α β : Type} {c1 : α -> Ck} {c2 : β -> Ck} {r : PR α} {f : α -> Tok -> PR β} {s1 s2 : Rs} (h : ER l TL L c1 r s1) (hb : s1.bad ≠ 0 -> s2 = s1) (hk : ∀ x t', GA l TL s1 t' -> WR L (c1 x) s1 -> ER l TL L c2 (f x t') s2) : ER l TL L c2 (aK r f) s2 := by
 cases r with
 | error q =>
  obtain ⟨q, p⟩ := q
  have hbn : s1.bad ≠ 0 := by rw [h.1]; exact oD q
  rw [hb hbn]
  exact h
 | ok x =>
  obtain ⟨x, t'⟩ := x
  exact hk x t' h.1 h.2
theorem qE (hc : Ch l TL) (g : GA l TL s t) (h : WR L ck s) (va : Bool) : ER l TL L (fun n => ck.use n (if va = true then 1 else 0)) (dK l t) (s.bG l t L va).2 := by
 by_cases k2 : t.kind = 2
 ·have e2 : dK l t = .ok (np t, nx l t) := by unfold dK; rw [if_pos k2]
  rw [e2]
  have he2 : gW t = false := by simp [gW, k2]
  obtain ⟨w1, b1, q1⟩ := aCs h g.bad k2 (g.raw he2) va
  exact ⟨g.step hc he2 b1 q1, w1⟩
 ·have e2 : dK l t = .error (false, t.pos) := by unfold dK; rw [if_neg k2]
  rw [e2]
  exact oU (l := l) (L := L) g.bad (fun e => k2 (g.name.1 e)) va
theorem yM {α : Type} {_c : α -> Ck} (hc : Ch l TL) (g : GA l TL s t) (x : St) (cx : St -> Ck) (h : WR L (cx x) s) : ER l TL L cx (iJ l x t) (s.need t [59]) := by
 have hn := I9 hc g h [59] (by decide) (by decide) (by decide) (by decide)
 by_cases k : t.txt = [59]
 ·have e1 : iJ l x t = .ok (x, nx l t) := by unfold iJ; rw [if_pos k]
  have e2 : dJ [59] l t = .ok ((), nx l t) := by unfold dJ; rw [if_pos k]
  rw [e2] at hn
  rw [e1]
  exact hn
 ·have e1 : iJ l x t = .error (false, t.pos) := by unfold iJ; rw [if_neg k]
  have e2 : dJ [59] l t = .error (false, t.pos) := by unfold dJ; rw [if_neg k]
  rw [e2] at hn
  rw [e1]
  exact hn
theorem yL (hc : Ch l TL) (g : GA l TL s t) (h : WR L ck s) :
  GA l TL (if decide (s.bad = 0 /\ bD (cur TL s) = [116, 97, 105, 108]) = true then s.aG else s) (fF l t).2 /\ WR L ck (if decide (s.bad = 0 /\ bD (cur TL s) = [116, 97, 105, 108]) = true then s.aG else s) /\ decide (s.bad = 0 /\ bD (cur TL s) = [116, 97, 105, 108]) = (fF l t).1 := by
 have f := g.fix [116, 97, 105, 108] (by decide) (by decide) (by decide) (by decide)
 rw [g.cu]
 by_cases k : t.txt = [116, 97, 105, 108]
 ·have hB := f.2 k
  have he := bK hB (by decide) (by decide)
  have e1 : fF l t = (true, nx l t) := by unfold fF; rw [if_pos k]
  rw [decide_eq_true (⟨g.bad, hB⟩ : s.bad = 0 /\ bD t = [116, 97, 105, 108]), e1]
  exact ⟨g.step hc he g.bad rfl, h.same rfl rfl, rfl⟩
 ·have e1 : fF l t = (false, t) := by unfold fF; rw [if_neg k]
  rw [decide_eq_false (fun hh : s.bad = 0 /\ bD t = [116, 97, 105, 108] => k (f.1 hh.2)), e1]
  exact ⟨g, h, rfl⟩
end
section
variable {l : List UInt8} {TL : List Tok} {L : List DL} {ck : Ck} {s : Rs} {t : Tok}
theorem J8 (hb : s.bad ≠ 0) : (if decide (s.bad = 0 /\ bD (cur TL s) = [116, 97, 105, 108]) = true then s.aG else s) = s := by
 rw [decide_eq_false (fun hh : s.bad = 0 /\ bD (cur TL s) = [116, 97, 105, 108] => hb hh.1)]; rfl
theorem aLa {β γ : Type} (bk : Ck -> β -> Ck) (z : β) (blk : Rs -> γ × Rs) (nil : γ) (hc : Ch l TL) (g : GA l TL s t) (h : WR L ck s) (n1 : t.txt ≠ [105, 102]) (n2 : t.txt ≠ [114, 101, 112, 101, 97, 116]) :
  ER l TL L (fun x : St => ck.stmt bk (x, z, z)) (bI l t) (s.bJ blk nil l TL L).2 := by
 have hb := g.bad
 have fx : ∀ x : List UInt8, O8 x = true -> x ≠ [110, 111, 110, 101] /\ x ≠ [101, 110, 100] /\ x ≠ [110, 97, 109, 101] /\ x ≠ [110, 117, 109] /\ x ≠ [] -> (x.all fun c => !dN c) = true -> (bD t = x ↔ t.txt = x) := fun x hx hn hd => g.fix x (by unfold aIi; rw [hx]; rfl) hn hd (Or.inl hx)
 have f1 := fx [112, 117, 116] (by decide) (by decide) (by decide)
 have f2 := fx [101, 118, 105, 99, 116] (by decide) (by decide) (by decide)
 have f3 := fx [99, 111, 111, 108] (by decide) (by decide) (by decide)
 have f4 := fx [115, 104, 105, 102, 116] (by decide) (by decide) (by decide)
 have f5 := fx [105, 110, 99] (by decide) (by decide) (by decide)
 have f6 := fx [100, 101, 99] (by decide) (by decide) (by decide)
 have f7 := fx [100, 114, 111, 112] (by decide) (by decide) (by decide)
 have f8 := fx [98, 117, 109, 112] (by decide) (by decide) (by decide)
 have f9 := fx [105, 102] (by decide) (by decide) (by decide)
 have f10 := fx [114, 101, 112, 101, 97, 116] (by decide) (by decide) (by decide)
 have h0 : WR L ck s.aG := h.same rfl rfl
 have ad : ∀ x, bD t = x -> x ≠ [110, 111, 110, 101] -> x ≠ [101, 110, 100] -> GA l TL s.aG (nx l t) := fun x hB h1 h2 => g.step hc (bK hB h1 h2) (r := s.aG) hb rfl
 by_cases c1 : t.txt = [112, 117, 116]
 ·have hB := f1.2 c1
  have ga := ad _ hB (by decide) (by decide)
  have e1 : (s.bJ blk nil l TL L).2 = (if decide ((s.aG.bG l (nx l t) L false).2.bad = 0 /\ bD (cur TL (s.aG.bG l (nx l t) L false).2) = [116, 97, 105, 108]) = true then (s.aG.bG l (nx l t) L false).2.aG else (s.aG.bG l (nx l t) L false).2).need (cur TL (if decide ((s.aG.bG l (nx l t) L false).2.bad = 0 /\ bD (cur TL (s.aG.bG l (nx l t) L false).2) = [116, 97, 105, 108]) = true then (s.aG.bG l (nx l t) L false).2.aG else (s.aG.bG l (nx l t) L false).2)) [59] := by
   unfold Rs.bJ; rw [g.cu, hB, ga.cu]; rfl
  have e2 : bI l t = aK (dK l (nx l t)) fun n t2 => iJ l { fC t.txt with name := n, tail := (fF l t2).1 } (fF l t2).2 := by unfold bI; rw [if_pos c1]
  rw [e1, e2]
  refine ER.bind (qE hc ga h0 false) (fun hbn => by rw [J8 hbn, fM hbn]) (fun n t2 g1 w1 => ?_)
  obtain ⟨g2, w2, _⟩ := yL hc g1 w1
  rw [g2.cu]
  refine yM (_c := fun _ : St => ck) hc g2 _ _ ?_
  show WR L (ck.stmt bk _) _
  unfold Ck.stmt
  rw [if_pos (Or.inl c1)]
  exact w2
 by_cases c4 : t.txt = [115, 104, 105, 102, 116]
 ·have hB := f4.2 c4
  have ga := ad _ hB (by decide) (by decide)
  have e2 : bI l t = aK (dK l (nx l t)) fun n t2 => aK (dK l t2) fun m t3 => iJ l ⟨t.txt, n, m, (fF l t3).1, (0, 0), cd0, false⟩ (fF l t3).2 := by unfold bI; rw [if_neg c1, if_pos c4]
  have e1 : (s.bJ blk nil l TL L).2 = (if decide (((s.aG.bG l (nx l t) L false).2.bG l (cur TL (s.aG.bG l (nx l t) L false).2) L false).2.bad = 0 /\ bD (cur TL ((s.aG.bG l (nx l t) L false).2.bG l (cur TL (s.aG.bG l (nx l t) L false).2) L false).2) = [116, 97, 105, 108]) = true then ((s.aG.bG l (nx l t) L false).2.bG l (cur TL (s.aG.bG l (nx l t) L false).2) L false).2.aG else ((s.aG.bG l (nx l t) L false).2.bG l (cur TL (s.aG.bG l (nx l t) L false).2) L false).2).need (cur TL (if decide (((s.aG.bG l (nx l t) L false).2.bG l (cur TL (s.aG.bG l (nx l t) L false).2) L false).2.bad = 0 /\ bD (cur TL ((s.aG.bG l (nx l t) L false).2.bG l (cur TL (s.aG.bG l (nx l t) L false).2) L false).2) = [116, 97, 105, 108]) = true then ((s.aG.bG l (nx l t) L false).2.bG l (cur TL (s.aG.bG l (nx l t) L false).2) L false).2.aG else ((s.aG.bG l (nx l t) L false).2.bG l (cur TL (s.aG.bG l (nx l t) L false).2) L false).2)) [59] := by
   unfold Rs.bJ; rw [g.cu, hB, ga.cu]; rfl
  rw [e1, e2]
  refine ER.bind (qE hc ga h0 false) (fun hbn => by rw [aLr hbn, J8 hbn, fM hbn]) (fun n t2 g1 w1 => ?_)
  rw [g1.cu]
  refine ER.bind (qE hc g1 w1 false) (fun hbn => by rw [J8 hbn, fM hbn]) (fun m t3 g3 w3 => ?_)
  obtain ⟨g2, w2, _⟩ := yL hc g3 w3
  rw [g2.cu]
  refine yM (_c := fun _ : St => ck) hc g2 _ _ ?_
  show WR L (ck.stmt bk _) _
  unfold Ck.stmt
  rw [if_neg (by show ¬ (t.txt = _ \/ t.txt = _ \/ t.txt = _); rw [c4]; decide), if_pos (by exact c4)]
  exact w2
 by_cases c2 : t.txt = [101, 118, 105, 99, 116] \/ t.txt = [99, 111, 111, 108] \/ t.txt = [105, 110, 99] \/ t.txt = [100, 101, 99]
 ·have hone : oN t.txt = true := by rcases c2 with e | e | e | e <;> rw [e] <;> decide
  have e2 : bI l t = aK (dK l (nx l t)) fun n t2 => iJ l { fC t.txt with name := n } t2 := by unfold bI; rw [if_neg c1, if_neg c4, if_pos hone]
  have go : ∀ (va : Bool), (∀ (x : List UInt8), bD t = x -> x ≠ [110, 111, 110, 101] -> x ≠ [101, 110, 100] -> (s.bJ blk nil l TL L).2 = (s.aG.bG l (nx l t) L va).2.need (cur TL (s.aG.bG l (nx l t) L va).2) [59] -> (∀ n : NP, ck.stmt bk ({ fC t.txt with name := n }, z, z) = ck.use n (if va = true then 1 else 0)) -> ER l TL L (fun x : St => ck.stmt bk (x, z, z)) (bI l t) (s.bJ blk nil l TL L).2) := by
   intro va x hB h1 h2 e1 e3
   have ga := ad _ hB h1 h2
   rw [e1, e2]
   refine ER.bind (qE hc ga h0 va) (fun hbn => fM hbn _ _) (fun n t2 g1 w1 => ?_)
   rw [g1.cu]
   refine yM (_c := fun _ : St => ck) hc g1 _ _ ?_
   show WR L (ck.stmt bk _) _
   rw [e3]
   exact w1
  rcases c2 with e | e | e | e
  ·have hB := f2.2 e
   refine go false _ hB (by decide) (by decide) (by unfold Rs.bJ; rw [g.cu, hB, (ad _ hB (by decide) (by decide)).cu]; rfl) (fun n => ?_)
   unfold Ck.stmt
   rw [if_pos (Or.inr (Or.inl e))]
   rfl
  ·have hB := f3.2 e
   refine go false _ hB (by decide) (by decide) (by unfold Rs.bJ; rw [g.cu, hB, (ad _ hB (by decide) (by decide)).cu]; rfl) (fun n => ?_)
   unfold Ck.stmt
   rw [if_pos (Or.inr (Or.inr e))]
   rfl
  ·have hB := f5.2 e
   refine go true _ hB (by decide) (by decide) (by unfold Rs.bJ; rw [g.cu, hB, (ad _ hB (by decide) (by decide)).cu]; rfl) (fun n => ?_)
   unfold Ck.stmt
   rw [if_neg (by show ¬ (t.txt = _ \/ t.txt = _ \/ t.txt = _); rw [e]; decide), if_neg (by exact c4), if_pos (Or.inl e)]
   rfl
  ·have hB := f6.2 e
   refine go true _ hB (by decide) (by decide) (by unfold Rs.bJ; rw [g.cu, hB, (ad _ hB (by decide) (by decide)).cu]; rfl) (fun n => ?_)
   unfold Ck.stmt
   rw [if_neg (by show ¬ (t.txt = _ \/ t.txt = _ \/ t.txt = _); rw [e]; decide), if_neg (by exact c4), if_pos (Or.inr e)]
   rfl
 have hno : oN t.txt = false := by
  cases ho : oN t.txt with
  | false => rfl
  | true =>
   exfalso
   apply c2
   unfold oN at ho
   simp only [Bool.or_eq_true, beq_iff_eq] at ho
   rcases ho with ((e | e) | e) | e
   ·exact Or.inl e
   ·exact Or.inr (Or.inr (Or.inl e))
   ·exact Or.inr (Or.inr (Or.inr e))
   ·exact Or.inr (Or.inl e)
 by_cases c3 : t.txt = [100, 114, 111, 112] \/ t.txt = [98, 117, 109, 112]
 ·have hz : lK t.txt = true := by rcases c3 with e | e <;> rw [e] <;> decide
  have e2 : bI l t = iJ l (fC t.txt) (nx l t) := by unfold bI; rw [if_neg c1, if_neg c4, if_neg (by simp [hno]), if_pos hz]
  have e4 : ck.stmt bk (fC t.txt, z, z) = ck := by
   unfold Ck.stmt
   rcases c3 with e | e
   all_goals rw [if_neg (by show ¬ (t.txt = _ \/ t.txt = _ \/ t.txt = _); rw [e]; decide), if_neg (by exact c4), if_neg (by show ¬ (t.txt = _ \/ t.txt = _); rw [e]; decide), if_neg (by exact n1), if_neg (by exact n2)]
  have go : ∀ (x : List UInt8), bD t = x -> x ≠ [110, 111, 110, 101] -> x ≠ [101, 110, 100] -> (s.bJ blk nil l TL L).2 = s.aG.need (nx l t) [59] -> ER l TL L (fun x : St => ck.stmt bk (x, z, z)) (bI l t) (s.bJ blk nil l TL L).2 := by
   intro x hB h1 h2 e1
   rw [e1, e2]
   refine yM (_c := fun _ : St => ck) hc (ad _ hB h1 h2) _ _ ?_
   show WR L (ck.stmt bk _) _
   rw [e4]
   exact h0
  rcases c3 with e | e
  ·have hB := f7.2 e
   exact go _ hB (by decide) (by decide) (by unfold Rs.bJ; rw [g.cu, hB, (ad _ hB (by decide) (by decide)).cu]; rfl)
  ·have hB := f8.2 e
   exact go _ hB (by decide) (by decide) (by unfold Rs.bJ; rw [g.cu, hB, (ad _ hB (by decide) (by decide)).cu]; rfl)
 have hzn : lK t.txt = false := by
  cases ho : lK t.txt with
  | false => rfl
  | true =>
   exfalso
   apply c3
   unfold lK at ho
   simpa only [Bool.or_eq_true, beq_iff_eq] using ho
 have e2 : bI l t = .error (false, t.pos) := by unfold bI; rw [if_neg c1, if_neg c4, if_neg (by simp [hno]), if_neg (by simp [hzn])]
 have e1 : (s.bJ blk nil l TL L).2 = s.fail 2 t := by
  unfold Rs.bJ
  rw [g.cu]
  simp only
  rw [if_neg (fun e => c1 (f1.1 e)), if_neg (fun e => c2 (e.elim (fun e => Or.inl (f2.1 e)) (fun e => Or.inr (Or.inl (f3.1 e))))), if_neg (fun e => c4 (f4.1 e)), if_neg (fun e => c2 (e.elim (fun e => Or.inr (Or.inr (Or.inl (f5.1 e)))) (fun e => Or.inr (Or.inr (Or.inr (f6.1 e)))))), if_neg (fun e => c3 (e.elim (fun e => Or.inl (f7.1 e)) (fun e => Or.inr (f8.1 e)))), if_neg (fun e => n1 (f9.1 e)), if_neg (fun e => n2 (f10.1 e))]
 rw [e1, e2]
 exact ⟨rfl, rfl⟩
end
section
variable {l : List UInt8} {TL : List Tok} {L : List DL} {ck : Ck} {s : Rs} {t : Tok}
theorem ER.bind' {α β : Type} {c1 : α -> Ck} {c2 : β -> Ck} {r : PR α} {f : α -> Tok -> PR β} {s1 s2 : Rs} (h : ER l TL L c1 r s1) (hb : s1.bad ≠ 0 -> s2.bad = s1.bad /\ s2.fZ = s1.fZ) (hk : ∀ x t', GA l TL s1 t' -> WR L (c1 x) s1 -> ER l TL L c2 (f x t') s2) : ER l TL L c2 (aK r f) s2 := by
 cases r with
 | error q =>
  obtain ⟨q, p⟩ := q
  have hbn : s1.bad ≠ 0 := by rw [h.1]; exact oD q
  obtain ⟨h1, h2⟩ := hb hbn
  exact ⟨h1.trans h.1, h2.trans h.2⟩
 | ok x =>
  obtain ⟨x, t'⟩ := x
  exact hk x t' h.1 h.2
theorem aAq (hc : Ch l TL) (g : GA l TL s t) (h : WR L ck s) : ER l TL L (fun c : Cd => ck.cond c) (gZ l t) (s.bU l TL L).2 := by
 have h1 := aSt (L := L) hc g h
 unfold ER
 revert h1
 cases gZ l t with
 | error q => obtain ⟨q, p⟩ := q; exact id
 | ok q => obtain ⟨q, p⟩ := q; exact id
theorem J7 (d : Nat) (hb : s.bad ≠ 0) : (s.blk l TL L d).2 = s := by
 have h0 : s.lQ TL = s := by unfold Rs.lQ; rw [if_neg (fun hh => hb hh.1.1)]
 have h1 : s.opn TL = { s with deep := s.deep + 1 } := by unfold Rs.opn; rw [h0, fM hb]
 have hb1 : (s.opn TL).bad ≠ 0 := by rw [h1]; exact hb
 rw [yR d hb1]
 show (s.opn TL).cls TL = s
 unfold Rs.cls
 rw [fM hb1, h1]
 rfl
theorem aIz (d : Nat) (c : Ck) : c.block d (aZ d) = c := by cases d <;> rfl
def EB (l : List UInt8) (TL : List Tok) (L : List DL) (d : Nat) : Prop := ∀ (ck : Ck) (s : Rs) (t : Tok), GA l TL s t -> WR L ck s -> s.deep + d = 8 -> s.loops <= 2 -> ER l TL L (fun x : BT d => ck.block d x) (aJ l d s.loops t) (s.blk l TL L d).2
theorem aSs {d : Nat} (HB : EB l TL L d) (hc : Ch l TL) (g : GA l TL s t) (h : WR L ck s) (hd : s.deep + d = 8) (hlo : s.loops <= 2) (c9 : t.txt = [105, 102]) :
  ER l TL L (fun r : St × BT d × BT d => ck.stmt (Ck.block d) r) (dB (aJ l d) (aZ d) l s.loops t) (s.bJ (Rs.blk l TL L d) (aI d) l TL L).2 := by
 have hb := g.bad
 have hB := (g.fix [105, 102] (by decide) (by decide) (by decide) (by decide)).2 c9
 have ga := g.step hc (bK hB (by decide) (by decide)) (r := s.aG) hb rfl
 have h0 : WR L ck s.aG := h.same rfl rfl
 have e2 : dB (aJ l d) (aZ d) l s.loops t = aK (gZ l (nx l t)) fun c t1 => aK (aJ l d s.loops t1) fun x t2 =>
   if t2.txt = [101, 108, 115, 101] then aK (aJ l d s.loops (nx l t2)) fun y t3 => .ok (({ fC t.txt with cond := c, other := true }, x, y), t3)
   else .ok (({ fC t.txt with cond := c }, x, aZ d), t2) := by unfold dB ifS; rw [if_pos c9]
 have dc := rP s.aG l TL L
 have hcon := aAq (L := L) hc ga h0
 have e1 : (s.bJ (Rs.blk l TL L d) (aI d) l TL L).2 = if ((s.aG.bU l TL L).2.blk l TL L d).2.bad = 0 /\ bD (cur TL ((s.aG.bU l TL L).2.blk l TL L d).2) = [101, 108, 115, 101] then (((s.aG.bU l TL L).2.blk l TL L d).2.aG.blk l TL L d).2 else ((s.aG.bU l TL L).2.blk l TL L d).2 := by
  unfold Rs.bJ
  rw [g.cu, hB]
  simp only
  rw [if_neg (by decide), if_neg (by decide), if_neg (by decide), if_neg (by decide), if_neg (by decide), if_pos trivial]
  split <;> rfl
 rw [e1, e2]
 have hw : ∀ (c : Cd) (o : Bool) (x y : BT d), ck.stmt (Ck.block d) (⟨t.txt, ([], 0), ([], 0), false, (0, 0), c, o⟩, x, y) = ((ck.cond c).block d x).block d y := by
  intro c o x y
  unfold Ck.stmt
  rw [if_neg (by show ¬ (t.txt = _ \/ t.txt = _ \/ t.txt = _); rw [c9]; decide), if_neg (by show ¬ t.txt = _; rw [c9]; decide), if_neg (by show ¬ (t.txt = _ \/ t.txt = _); rw [c9]; decide), if_pos (by exact c9)]
 generalize s.aG.bU l TL L = r at *
 refine ER.bind hcon (fun hbn => by rw [J7 d hbn, if_neg (fun hh => hbn hh.1)]) (fun c t1 g1 w1 => ?_)
 have dl1 : r.2.loops = s.loops := dc.2
 have dd1 : r.2.deep = s.deep := dc.1
 have hblk := HB (ck.cond c) r.2 t1 g1 w1 (by omega) (by omega)
 have hgb := vX (L := L) hc d r.2 g1.k
 rw [dl1] at hblk
 generalize r.2.blk l TL L d = p at *
 refine ER.bind hblk (fun hbn => by rw [if_neg (fun hh => hbn hh.1)]) (fun x t2 g2 w2 => ?_)
 have f := g2.fix [101, 108, 115, 101] (by decide) (by decide) (by decide) (by decide)
 rw [g2.cu]
 by_cases k : t2.txt = [101, 108, 115, 101]
 ·have hBe := f.2 k
  rw [if_pos k, if_pos ⟨g2.bad, hBe⟩]
  have g3 := g2.step hc (bK hBe (by decide) (by decide)) (r := p.2.aG) g2.bad rfl
  have w3 : WR L ((ck.cond c).block d x) p.2.aG := w2.same rfl rfl
  have hl3 : p.2.aG.loops = s.loops := hgb.2.2.trans dl1
  have hd3 : p.2.aG.deep = s.deep := hgb.2.1.trans dd1
  have hblk2 := HB _ p.2.aG (nx l t2) g3 w3 (by omega) (by omega)
  rw [hl3] at hblk2
  refine ER.bind hblk2 (fun _ => rfl) (fun y t3 g4 w4 => ⟨g4, ?_⟩)
  show WR L (ck.stmt (Ck.block d) _) _
  rw [hw]
  exact w4
 ·rw [if_neg k, if_neg (fun hh => k (f.1 hh.2))]
  refine ⟨g2, ?_⟩
  show WR L (ck.stmt (Ck.block d) _) _
  rw [hw, aIz]
  exact w2
end
section
variable {l : List UInt8} {TL : List Tok} {L : List DL} {ck : Ck} {s : Rs} {t : Tok}
theorem aE1 (hc : Ch l TL) (g : GA l TL s t) (h : WR L ck s) (b : Nat) : ER l TL L (fun n : Nat × Nat => ck.bound n.1 n.2 b) (iV l t) (s.num l t 1 b).2 := by
 by_cases k3 : t.kind = 3
 ·have e2 : iV l t = .ok ((fV t.txt 0, t.pos), nx l t) := by unfold iV; rw [if_pos k3]
  rw [e2]
  obtain ⟨_, g1, w1⟩ := e_num hc g h k3 1 b
  exact ⟨g1, w1⟩
 ·have e2 : iV l t = .error (false, t.pos) := by unfold iV; rw [if_neg k3]
  rw [e2]
  exact aIl (l := l) g.bad (fun e => k3 (g.num.1 e)) 1 b
theorem aGw {α : Type} (hc : Ch l TL) (g : GA l TL s t) (c : Unit -> Ck) (h : WR L (c ()) s) (x : List UInt8) (hx : aIi x = true) (hn : x ≠ [110, 111, 110, 101] /\ x ≠ [101, 110, 100] /\ x ≠ [110, 97, 109, 101] /\ x ≠ [110, 117, 109] /\ x ≠ []) (hd : (x.all fun c => !dN c) = true) (hl : O8 x = true \/ (x.all fun c => !dU c) = true) (_ : α) :
  ER l TL L c (dJ x l t) (s.need t x) := by
 have h1 := I9 hc g h x hx hn hd hl
 unfold ER
 revert h1
 cases dJ x l t with
 | error q => obtain ⟨q, p⟩ := q; exact id
 | ok q => obtain ⟨q, p⟩ := q; exact id
theorem aQs {d : Nat} (HB : EB l TL L d) (hc : Ch l TL) (g : GA l TL s t) (h : WR L ck s) (hd : s.deep + d = 8) (hlo : s.loops <= 2) (c9 : t.txt = [114, 101, 112, 101, 97, 116]) :
  ER l TL L (fun r : St × BT d × BT d => ck.stmt (Ck.block d) r) (dB (aJ l d) (aZ d) l s.loops t) (s.bJ (Rs.blk l TL L d) (aI d) l TL L).2 := by
 have hb := g.bad
 have hB := (g.fix [114, 101, 112, 101, 97, 116] (by decide) (by decide) (by decide) (by decide)).2 c9
 have ga := g.step hc (bK hB (by decide) (by decide)) (r := s.aG) hb rfl
 have h0 : WR L ck s.aG := h.same rfl rfl
 have e2 : dB (aJ l d) (aZ d) l s.loops t = pV (aJ l d) (aZ d) l s.loops t := by unfold dB; rw [if_neg (by rw [c9]; decide), if_pos c9]
 have e0 : (s.bJ (Rs.blk l TL L d) (aI d) l TL L).2 = if s.loops = 2 then s.fail 3 t else
   { (Rs.blk l TL L d { (((s.aG.num l (nx l t) 1 50).2.need (cur TL (s.aG.num l (nx l t) 1 50).2) [119, 104, 105, 108, 101]).bU l TL L).2 with loops := (((s.aG.num l (nx l t) 1 50).2.need (cur TL (s.aG.num l (nx l t) 1 50).2) [119, 104, 105, 108, 101]).bU l TL L).2.loops + 1 }).2 with loops := (Rs.blk l TL L d { (((s.aG.num l (nx l t) 1 50).2.need (cur TL (s.aG.num l (nx l t) 1 50).2) [119, 104, 105, 108, 101]).bU l TL L).2 with loops := (((s.aG.num l (nx l t) 1 50).2.need (cur TL (s.aG.num l (nx l t) 1 50).2) [119, 104, 105, 108, 101]).bU l TL L).2.loops + 1 }).2.loops - 1 } := by
  unfold Rs.bJ
  rw [g.cu, hB, ga.cu]
  simp only
  rw [if_neg (by decide), if_neg (by decide), if_neg (by decide), if_neg (by decide), if_neg (by decide), if_neg (by decide), if_pos trivial]
  split <;> rfl
 rw [e0, e2]
 unfold pV
 by_cases h2 : s.loops = 2
 ·rw [if_pos h2, if_pos h2]
  exact ⟨rfl, rfl⟩
 rw [if_neg h2, if_neg h2]
 have hnum := aE1 hc ga h0 50
 have dn := wP s.aG l (nx l t) 1 50
 generalize s.aG.num l (nx l t) 1 50 = q at *
 refine ER.bind' hnum (fun hbn => ?_) (fun n t1 g1 w1 => ?_)
 ·rw [fM hbn, aLs hbn, J7 d (by exact hbn)]
  exact ⟨rfl, rfl⟩
 rw [g1.cu]
 have hnd := aGw hc g1 (fun _ => ck.bound n.1 n.2 50) w1 [119, 104, 105, 108, 101] (by decide) (by decide) (by decide) (by decide) ()
 have dw := jE q.2 t1 [119, 104, 105, 108, 101]
 generalize q.2.need t1 [119, 104, 105, 108, 101] = s3 at *
 refine ER.bind' hnd (fun hbn => ?_) (fun _ t2 g2 w2 => ?_)
 ·rw [aLs hbn, J7 d (by exact hbn)]
  exact ⟨rfl, rfl⟩
 have hcn := aAq (L := L) hc g2 w2
 have dc := rP s3 l TL L
 generalize s3.bU l TL L = r at *
 refine ER.bind' hcn (fun hbn => ?_) (fun c t3 g3 w3 => ?_)
 ·rw [J7 d (by exact hbn)]
  exact ⟨rfl, rfl⟩
 have dl : r.2.loops = s.loops := dc.2.trans (dw.2.trans dn.2)
 have dd : r.2.deep = s.deep := dc.1.trans (dw.1.trans dn.1)
 have g4 : GA l TL { r.2 with loops := r.2.loops + 1 } t3 := ⟨g3.bad, g3.k, g3.cu, g3.at'⟩
 have hblk := HB ((ck.bound n.1 n.2 50).cond c) { r.2 with loops := r.2.loops + 1 } t3 g4 (w3.same rfl rfl) (by show r.2.deep + d = 8; omega) (by show r.2.loops + 1 <= 2; omega)
 have hl2 : ({ r.2 with loops := r.2.loops + 1 } : Rs).loops = s.loops + 1 := by show r.2.loops + 1 = _; omega
 rw [hl2] at hblk
 generalize Rs.blk l TL L d { r.2 with loops := r.2.loops + 1 } = p at *
 refine ER.bind' hblk (fun _ => ⟨rfl, rfl⟩) (fun x t4 g5 w5 => ⟨⟨g5.bad, g5.k, g5.cu, g5.at'⟩, ?_⟩)
 show WR L (ck.stmt (Ck.block d) _) _
 have hw : ck.stmt (Ck.block d) (⟨t.txt, ([], 0), ([], 0), false, n, c, false⟩, x, aZ d) = ((ck.bound n.1 n.2 50).cond c).block d x := by
  unfold Ck.stmt
  rw [if_neg (by show ¬ (t.txt = _ \/ t.txt = _ \/ t.txt = _); rw [c9]; decide), if_neg (by show ¬ t.txt = _; rw [c9]; decide), if_neg (by show ¬ (t.txt = _ \/ t.txt = _); rw [c9]; decide), if_neg (by show ¬ t.txt = _; rw [c9]; decide), if_pos (by exact c9)]
 rw [hw]
 exact w5.same rfl rfl
theorem aK9 {d : Nat} (HB : EB l TL L d) (hc : Ch l TL) (g : GA l TL s t) (h : WR L ck s) (hd : s.deep + d = 8) (hlo : s.loops <= 2) :
  ER l TL L (fun r : St × BT d × BT d => ck.stmt (Ck.block d) r) (dB (aJ l d) (aZ d) l s.loops t) (s.bJ (Rs.blk l TL L d) (aI d) l TL L).2 := by
 by_cases c1 : t.txt = [105, 102]
 ·exact aSs HB hc g h hd hlo c1
 by_cases c2 : t.txt = [114, 101, 112, 101, 97, 116]
 ·exact aQs HB hc g h hd hlo c2
 have e2 : dB (aJ l d) (aZ d) l s.loops t = aK (bI l t) fun s t1 => .ok ((s, aZ d, aZ d), t1) := by unfold dB; rw [if_neg c1, if_neg c2]
 rw [e2]
 exact ER.bind (aLa (Ck.block d) (aZ d) (Rs.blk l TL L d) (aI d) hc g h c1 c2) (fun _ => rfl) (fun x t' g1 w1 => ⟨g1, w1⟩)
end
section
variable {l : List UInt8} {TL : List Tok} {L : List DL} {ck : Ck} {s : Rs} {t : Tok}
theorem ER.aSx {α β : Type} {c1 : α -> Ck} {c2 : β -> Ck} {r : PR α} {f : α -> Tok -> PR β} {s1 s2 : Rs} (h : ER l TL L c1 r s1) (hb : s1.bad ≠ 0 -> s2.bad = s1.bad /\ s2.fZ = s1.fZ) (hk : ∀ x t', r = .ok (x, t') -> GA l TL s1 t' -> WR L (c1 x) s1 -> ER l TL L c2 (f x t') s2) : ER l TL L c2 (aK r f) s2 := by
 cases r with
 | error q =>
  obtain ⟨q, p⟩ := q
  have hbn : s1.bad ≠ 0 := by rw [h.1]; exact oD q
  obtain ⟨h1, h2⟩ := hb hbn
  exact ⟨h1.trans h.1, h2.trans h.2⟩
 | ok x =>
  obtain ⟨x, t'⟩ := x
  exact hk x t' rfl h.1 h.2
theorem GA.rbr (g : GA l TL s t) : bD t = [125] ↔ t.txt = [125] := g.fix [125] (by decide) (by decide) (by decide) (Or.inr (by decide))
theorem GA.lbr (g : GA l TL s t) : bD t = [123] ↔ t.txt = [123] := g.fix [123] (by decide) (by decide) (by decide) (Or.inr (by decide))
theorem aGv {d : Nat} (HB : EB l TL L d) (hc : Ch l TL) : ∀ (f1 f2 : Nat) (ck : Ck) (s : Rs) (t : Tok), GA l TL s t -> WR L ck s -> s.deep + d = 8 -> s.loops <= 2 -> TL.length <= f1 + s.k -> l.length + 1 <= f2 + t.pos ->
  ER l TL L (fun xs : List (St × BT d × BT d) => List.foldl (fun c r => c.stmt (Ck.block d) r) ck xs) (dQ (dB (aJ l d) (aZ d) l s.loops) l f2 t) ((gX (fun s => s.bJ (Rs.blk l TL L d) (aI d) l TL L) TL f1 s).2.cls TL)
 | 0, _, _, s, _, g, _, _, _, h1, _ => by have := g.k; omega
 | f1 + 1, 0, _, s, t, g, _, _, _, _, h2 => by
  obtain ⟨j, hj, rfl⟩ := g.at'
  have := oO l j hj
  omega
 | f1 + 1, f2 + 1, ck, s, t, g, h, hd, hlo, h1, h2 => by
  by_cases k : t.txt = [125]
  ·have hB := g.rbr.2 k
   have he := bK hB (by decide) (by decide)
   have e1 : gX (fun s => s.bJ (Rs.blk l TL L d) (aI d) l TL L) TL (f1 + 1) s = ([], s) := wE _ (fun hh => hh.2 (by rw [g.cu]; exact hB))
   have e2 : dQ (dB (aJ l d) (aZ d) l s.loops) l (f2 + 1) t = .ok ([], nx l t) := by unfold dQ; rw [if_pos k]
   have e3 : s.need (cur TL s) [125] = s.aG := by unfold Rs.need; rw [g.cu, if_pos g.bad, if_pos hB]
   have e4 : s.cls TL = { s.aG with deep := s.aG.deep - 1 } := by unfold Rs.cls; rw [e3]
   rw [e1, e2]
   show ER l TL L _ _ (s.cls TL)
   rw [e4]
   exact ⟨g.step hc he g.bad rfl, h.same rfl rfl⟩
  ·have hB : ¬ bD t = [125] := fun e => k (g.rbr.1 e)
   have e1 : (gX (fun s => s.bJ (Rs.blk l TL L d) (aI d) l TL L) TL (f1 + 1) s).2 = (gX (fun s => s.bJ (Rs.blk l TL L d) (aI d) l TL L) TL f1 (s.bJ (Rs.blk l TL L d) (aI d) l TL L).2).2 := by
    conv => lhs; unfold gX
    rw [g.cu, if_pos ⟨g.bad, hB⟩]
   have e2 : dQ (dB (aJ l d) (aZ d) l s.loops) l (f2 + 1) t = aK (dB (aJ l d) (aZ d) l s.loops t) fun x t1 => aK (dQ (dB (aJ l d) (aZ d) l s.loops) l f2 t1) fun xs t2 => .ok (x :: xs, t2) := by
    conv => lhs; unfold dQ
    rw [if_neg k]
   have hst := aK9 HB hc g h hd hlo
   have hgo := aAk (nil := aI d) (L := L) (fun s hk => vX (L := L) hc d s hk) hc g.k
   rw [e1, e2]
   generalize s.bJ (Rs.blk l TL L d) (aI d) l TL L = q at *
   refine ER.aSx hst (fun hbn => ?_) (fun x t1 hx g1 w1 => ?_)
   ·rw [aBm _ hbn]
    show (q.2.cls TL).bad = _ /\ (q.2.cls TL).fZ = _
    unfold Rs.cls
    rw [fM hbn]
    exact ⟨rfl, rfl⟩
   ·have hpos := aDs (fun lo t x t' => yQ d lo t x t') hx
    have hl : q.2.loops = s.loops := hgo.1.2.2
    have hdp : q.2.deep = s.deep := hgo.1.2.1
    have hk : s.k < q.2.k := by
     rcases hgo.2 with hh | hh
     ·exact absurd g1.bad hh
     ·exact hh
    have ih := aGv HB hc f1 f2 (ck.stmt (Ck.block d) x) q.2 t1 g1 w1 (by omega) (by omega) (by omega) (by omega)
    rw [hl] at ih
    exact ER.bind ih (fun _ => rfl) (fun xs t2 g2 w2 => ⟨g2, w2⟩)
theorem aE2 (hc : Ch l TL) : ∀ d, EB l TL L d
 | 0 => by
  intro ck s t g h hd hlo
  have h8 : s.deep = 8 := by omega
  by_cases k : t.txt = [123]
  ·have hB := g.lbr.2 k
   have e2 : aJ l 0 s.loops t = .error (true, t.pos) := by unfold aJ; rw [if_pos k]
   have e0 : s.lQ TL = s.fail 3 t := by unfold Rs.lQ; rw [g.cu, if_pos ⟨⟨g.bad, hB⟩, h8⟩]
   have hbn : (s.fail 3 t).bad ≠ 0 := by simp [Rs.fail]
   have e1 : s.opn TL = { s.fail 3 t with deep := (s.fail 3 t).deep + 1 } := by unfold Rs.opn; rw [e0, fM hbn]
   have hb1 : (s.opn TL).bad ≠ 0 := by rw [e1]; exact hbn
   rw [e2]
   show ((s.opn TL).cls TL).bad = _ /\ ((s.opn TL).cls TL).fZ = _
   unfold Rs.cls
   rw [fM hb1, e1]
   exact ⟨rfl, rfl⟩
  ·have hB : ¬ bD t = [123] := fun e => k (g.lbr.1 e)
   have e2 : aJ l 0 s.loops t = .error (false, t.pos) := by unfold aJ; rw [if_neg k]
   have e0 : s.lQ TL = s := by unfold Rs.lQ; rw [g.cu, if_neg (fun hh => hB hh.1.2)]
   have en : s.need t [123] = s.fail 2 t := by unfold Rs.need; rw [if_pos g.bad, if_neg hB]
   have e1 : s.opn TL = { s.fail 2 t with deep := (s.fail 2 t).deep + 1 } := by unfold Rs.opn; rw [e0, g.cu, en]
   have hb1 : (s.opn TL).bad ≠ 0 := by rw [e1]; simp [Rs.fail]
   rw [e2]
   show ((s.opn TL).cls TL).bad = _ /\ ((s.opn TL).cls TL).fZ = _
   unfold Rs.cls
   rw [fM hb1, e1]
   exact ⟨rfl, rfl⟩
 | d + 1 => by
  intro ck s t g h hd hlo
  have h8 : s.deep ≠ 8 := by omega
  have e0 : s.lQ TL = s := by unfold Rs.lQ; rw [if_neg (fun hh => h8 hh.2)]
  by_cases k : t.txt = [123]
  ·have hB := g.lbr.2 k
   have he := bK hB (by decide) (by decide)
   have e2 := jC l d s.loops t k
   have en : s.need t [123] = s.aG := by unfold Rs.need; rw [if_pos g.bad, if_pos hB]
   have e1 : s.opn TL = { s.aG with deep := s.aG.deep + 1 } := by unfold Rs.opn; rw [e0, g.cu, en]
   have g1 : GA l TL (s.opn TL) (nx l t) := by rw [e1]; exact g.step hc he g.bad rfl
   have w1 : WR L ck (s.opn TL) := by rw [e1]; exact h.same rfl rfl
   have hl1 : (s.opn TL).loops = s.loops := by rw [e1]; rfl
   have hd1 : (s.opn TL).deep = s.deep + 1 := by rw [e1]; rfl
   have hst := aGv (aE2 hc d) hc TL.length (l.length + 1) ck (s.opn TL) (nx l t) g1 w1 (by omega) (by omega) (by omega) (by omega)
   rw [hl1, <- e2] at hst
   exact hst
  ·have hB : ¬ bD t = [123] := fun e => k (g.lbr.1 e)
   have e2 := lF l d s.loops t k
   have en : s.need t [123] = s.fail 2 t := by unfold Rs.need; rw [if_pos g.bad, if_neg hB]
   have e1 : s.opn TL = { s.fail 2 t with deep := (s.fail 2 t).deep + 1 } := by unfold Rs.opn; rw [e0, g.cu, en]
   have hb1 : (s.opn TL).bad ≠ 0 := by rw [e1]; simp [Rs.fail]
   rw [yR (d + 1) hb1]
   have e3 : aJ l (d + 1) s.loops t = (.error (false, t.pos) : PR (BT (d + 1))) := e2
   rw [e3]
   show ((s.opn TL).cls TL).bad = _ /\ ((s.opn TL).cls TL).fZ = _
   unfold Rs.cls
   rw [fM hb1, e1]
   exact ⟨rfl, rfl⟩
end
section
variable {l : List UInt8} {TL : List Tok} {L : List DL} {ck : Ck} {s : Rs} {t : Tok}
def WD (L : List DL) (ck : Ck) (s : Rs) : Prop := WR L ck s /\ (ck.first = none -> ck.names.length = L.length /\ ck.aO = s.aO)
theorem V9 (d : DL) (x : List UInt8) : ∀ (L : List DL), dV (L ++ [d]) x = match dV L x with
  | some k => some k
  | none => if d.2.1 == x then some L.length else none
 | [] => by
  show dV [d] x = _
  rw [kZ]
  by_cases h : (d.2.1 == x) = true
  ·rw [if_pos h]; simp [dV, h]
  ·rw [if_neg h]; simp [dV, h]
 | e :: L => by
  show dV (e :: (L ++ [d])) x = _
  rw [kZ, kZ, V9 d x L]
  by_cases h : (e.2.1 == x) = true
  ·rw [if_pos h, if_pos h]
  ·rw [if_neg h, if_neg h]
   cases dV L x with
   | some k => rfl
   | none =>
    by_cases h2 : (d.2.1 == x) = true
    ·simp [h2]
    ·simp [h2]
theorem aD9 {names : List (List UInt8 × Nat)} {kd n : List UInt8} {m k : Nat} (h : uJ names L) (hn : dV L n = none) (hk : k = if (kd == [118, 97, 114]) = true then 1 else 0) : uJ ((n, k) :: names) (L ++ [(kd, n, m)]) := by
 intro x
 rw [gK, V9, h x]
 by_cases e : n = x
 ·subst e
  rw [if_pos rfl, hn]
  simp only [BEq.rfl, if_true, Option.map_some]
  have : (L ++ [(kd, n, m)]).getD L.length ([], [], 0) = (kd, n, m) := by simp
  rw [this, hk]
 ·rw [if_neg e]
  cases hi : dV L x with
  | none =>
   have : (n == x) = false := by simpa using e
   simp [this]
  | some j =>
   have hj := vK L x j hi
   simp only [Option.map_some]
   have : (L ++ [(kd, n, m)]).getD j ([], [], 0) = L.getD j ([], [], 0) := by rw [List.getD_eq_getElem?_getD, List.getD_eq_getElem?_getD, List.getElem?_append_left hj]
   rw [this]
theorem WD.same {s' : Rs} (h : WD L ck s) (h1 : s'.wrong = s.wrong) (h2 : s'.iF = s.iF) (h3 : s'.aO = s.aO) : WD L ck s' := ⟨h.1.same h1 h2, fun hf => ⟨(h.2 hf).1, (h.2 hf).2.trans h3.symm⟩⟩
theorem aIm (h : WD L ck s) (hb : s.bad = 0) (n : NP) (kd : List UInt8) (k m : Nat) (hk : k = if (kd == [118, 97, 114]) = true then 1 else 0) (s2 s3 : Rs)
  (e2 : s2 = if (dV L n.1).isSome = true then s.note 4 n.2 else s) (e3 : s3 = if L.length = 8 then s2.note 9 n.2 else s2) :
  WD (L ++ [(kd, n.1, m)]) (ck.declare n k) s3 /\ s3.bad = 0 /\ s3.k = s.k := by
 have nb : ∀ (s : Rs) e p, s.bad = 0 -> (s.note e p).bad = 0 := fun s e p hb => by unfold Rs.note; split <;> exact hb
 have hb2 : s2.bad = 0 := by rw [e2]; split; exact nb _ _ _ hb; exact hb
 have hb3 : s3.bad = 0 := by rw [e3]; split; exact nb _ _ _ hb2; exact hb2
 have hk2 : s2.k = s.k := by rw [e2]; split; exact iO _ _; rfl
 have hk3 : s3.k = s.k := by rw [e3]; split; exact (iO _ _).trans hk2; exact hk2
 refine ⟨?_, hb3, hk3⟩
 obtain ⟨hw, hl⟩ := h
 cases hf : ck.first with
 | some e =>
  have hws : s.wrong ≠ 0 := by
   have := hw
   unfold WR at this
   rw [hf] at this
   rw [this.1]; exact kQ _
  have es2 : s2 = s := by rw [e2]; split; exact kD hws _ _; rfl
  have es3 : s3 = s := by rw [e3, es2]; split; exact kD hws _ _; rfl
  have hfl : ∀ i p, ck.fault i p = ck := fun i p => by unfold Ck.fault; rw [hf]
  have hfd : (ck.declare n k).first = some e := by
   unfold Ck.declare
   cases look n.1 ck.names with
   | some d => simp only [hfl]; exact hf
   | none => simp only [hfl]; split; exact hf; exact hf
  rw [es3]
  exact ⟨hw.late hf hfd rfl rfl, fun hh => by rw [hfd] at hh; cases hh⟩
 | none =>
  obtain ⟨hll, hfq⟩ := hl hf
  have hnm : uJ ck.names L /\ s.wrong = 0 := by
   have := hw
   unfold WR at this
   rw [hf] at this
   exact ⟨this.2, this.1⟩
  have hlook := hnm.1 n.1
  unfold Ck.declare
  cases hi : dV L n.1 with
  | some j =>
   rw [hi] at hlook e2
   simp only [Option.map_some] at hlook
   rw [hlook]
   simp only [Option.isSome_some, if_true] at e2
   simp only
   have w1 := hw.fault hb 2 n.2
   rw [show oK 2 = 4 from rfl, <- e2] at w1
   have hff : (ck.fault 2 n.2).first = some (2, n.2) := by unfold Ck.fault; rw [hf]
   have hw2 : s2.wrong ≠ 0 := by
    have := w1
    unfold WR at this
    rw [hff] at this
    rw [this.1]; exact kQ _
   have es3 : s3 = s2 := by rw [e3]; split; exact kD hw2 _ _; rfl
   rw [es3]
   exact ⟨w1.late hff hff rfl rfl, fun hh => by rw [hff] at hh; cases hh⟩
  | none =>
   rw [hi] at hlook e2
   simp only [Option.map_none] at hlook
   rw [hlook]
   simp only [Option.isSome_none, Bool.false_eq_true, if_false] at e2
   simp only
   rw [e2] at e3
   by_cases h8 : L.length = 8
   ·rw [if_pos h8] at e3
    rw [if_pos (hll.trans h8)]
    have w1 := hw.fault hb 7 n.2
    rw [show oK 7 = 9 from rfl, <- e3] at w1
    have hff : (ck.fault 7 n.2).first = some (7, n.2) := by unfold Ck.fault; rw [hf]
    exact ⟨w1.late hff hff rfl rfl, fun hh => by rw [hff] at hh; cases hh⟩
   ·rw [if_neg h8] at e3
    rw [if_neg (fun e => h8 (hll.symm.trans e)), e3]
    refine ⟨?_, fun _ => ⟨by simp [hll], hfq⟩⟩
    unfold WR
    show match ck.first with | none => _ | some e => _
    rw [hf]
    exact ⟨hnm.2, aD9 hnm.1 hi hk⟩
end
section
variable {l : List UInt8} {TL : List Tok} {L : List DL} {ck : Ck} {s : Rs} {t : Tok}
theorem eU (c : Ck) (i p : Nat) : (c.fault i p).names = c.names /\ (c.fault i p).aO = c.aO /\ (c.fault i p).first ≠ none := by
 unfold Ck.fault
 cases hf : c.first with
 | none => exact ⟨rfl, rfl, by simp⟩
 | some e => exact ⟨rfl, rfl, by rw [hf]; simp⟩
theorem aFd (c : Ck) (v p m : Nat) : (c.bound v p m).names = c.names /\ (c.bound v p m).aO = c.aO /\ ((c.bound v p m).first = none -> c.first = none) := by
 unfold Ck.bound
 split
 ·exact ⟨(eU c _ p).1, (eU c _ p).2.1, fun h => absurd h (eU c _ p).2.2⟩
 ·exact ⟨rfl, rfl, id⟩
theorem qC (s : Rs) (t : Tok) (x : List UInt8) : (s.need t x).aO = s.aO := by
 unfold Rs.need
 repeat' split
 all_goals rfl
theorem yK (s : Rs) (e p : Nat) : (s.note e p).aO = s.aO := by
 unfold Rs.note
 split <;> rfl
theorem aEn (s : Rs) (l : List UInt8) (t : Tok) (a b : Nat) : (s.num l t a b).2.aO = s.aO := by
 unfold Rs.num
 simp only
 repeat' split
 all_goals first | exact (yK _ _ _).trans (qC _ _ _) | exact qC _ _ _
theorem X8 {α : Type} (hc : Ch l TL) (g : GA l TL s t) (h : WD L ck s) (b : Nat) (mk : Nat × Nat -> α) (cf : α -> Ck) (hcf : ∀ n : Nat × Nat, cf (mk n) = ck.bound n.1 n.2 b) :
  match (aK (iV l t) fun n t1 => aK (dJ [59] l t1) fun _ t2 => .ok (mk n, t2) : PR α) with
  | .ok (d, t') => GA l TL ((s.num l t 1 b).2.need (cur TL (s.num l t 1 b).2) [59]) t' /\ WD L (cf d) ((s.num l t 1 b).2.need (cur TL (s.num l t 1 b).2) [59])
  | .error (q, p) => ((s.num l t 1 b).2.need (cur TL (s.num l t 1 b).2) [59]).bad = (if q then 3 else 2) /\ ((s.num l t 1 b).2.need (cur TL (s.num l t 1 b).2) [59]).fZ = p := by
 have hn := aE1 (L := L) hc g h.1 b
 have fq := aEn s l t 1 b
 generalize s.num l t 1 b = q at *
 cases hx : iV l t with
 | error e =>
  obtain ⟨e, p⟩ := e
  rw [hx] at hn
  have hbn : q.2.bad ≠ 0 := by rw [hn.1]; exact oD e
  rw [fM hbn]
  exact hn
 | ok n =>
  obtain ⟨n, t1⟩ := n
  rw [hx] at hn
  obtain ⟨g1, w1⟩ := hn
  rw [g1.cu]
  have hs := I9 hc g1 w1 [59] (by decide) (by decide) (by decide) (Or.inr (by decide))
  have fs := qC q.2 t1 [59]
  show match (aK (dJ [59] l t1) fun _ t2 => (.ok (mk n, t2) : PR α)) with | .ok (d, t') => _ | .error (q, p) => _
  cases hy : dJ [59] l t1 with
  | error e =>
   obtain ⟨e, p⟩ := e
   rw [hy] at hs
   exact hs
  | ok u =>
   obtain ⟨u, t2⟩ := u
   rw [hy] at hs
   refine ⟨hs.1, ?_⟩
   rw [hcf]
   obtain ⟨k1, k2, k3⟩ := aFd ck n.1 n.2 b
   refine ⟨hs.2, fun hf => ?_⟩
   obtain ⟨a1, a2⟩ := h.2 (k3 hf)
   exact ⟨by rw [k1]; exact a1, by rw [k2, fs, fq]; exact a2⟩
theorem aGy (hc : Ch l TL) (g : GA l TL s t) (h : WD L ck s) (c : t.txt = [102, 114, 101, 113]) :
  match eX l t with
  | .ok (d, t') => GA l TL (s.lY l TL).2 t' /\ WD L (ck.decl d) (s.lY l TL).2
  | .error (q, p) => (s.lY l TL).2.bad = (if q then 3 else 2) /\ (s.lY l TL).2.fZ = p := by
 have hB := (g.fix [102, 114, 101, 113] (by decide) (by decide) (by decide) (by decide)).2 c
 have he := bK hB (by decide) (by decide)
 have nb : ∀ (s : Rs) e p, s.bad = 0 -> (s.note e p).bad = 0 := fun s e p hb => by unfold Rs.note; split <;> exact hb
 have hb0 : (s.eF TL).bad = 0 := by unfold Rs.eF; split; exact nb _ _ _ g.bad; exact g.bad
 have hk0 : (s.eF TL).k = s.k + 1 := by unfold Rs.eF; split; exact iO _ _; rfl
 have g0 : GA l TL (s.eF TL) (nx l t) := g.step hc he hb0 hk0
 have hw0 : WD L (if ck.aO + 1 > 1 then ({ ck with aO := ck.aO + 1 } : Ck).fault 2 t.pos else { ck with aO := ck.aO + 1 }) (s.eF TL) := by
  obtain ⟨hw, hl⟩ := h
  have hw1 : WR L ({ ck with aO := ck.aO + 1 } : Ck) { s.aG with aO := s.aO + 1 } := by
   unfold WR at hw ⊢
   exact hw
  have hcase : ck.first = none \/ ∃ e, ck.first = some e := by cases ck.first <;> simp
  rcases hcase with hf | ⟨e, hf⟩
  ·obtain ⟨a1, a2⟩ := hl hf
   unfold Rs.eF
   rw [g.cu, <- a2]
   by_cases hq : ck.aO + 1 > 1
   ·rw [if_pos hq, if_pos hq]
    have := hw1.fault (show ({ s.aG with aO := s.aO + 1 } : Rs).bad = 0 from g.bad) 2 t.pos
    rw [<- a2] at this
    exact ⟨this, fun hh => absurd hh (eU _ _ _).2.2⟩
   ·rw [if_neg hq, if_neg hq]
    rw [<- a2] at hw1
    exact ⟨hw1, fun _ => ⟨a1, rfl⟩⟩
  ·have hws : ({ s.aG with aO := s.aO + 1 } : Rs).wrong ≠ 0 := by
    have := hw
    unfold WR at this
    rw [hf] at this
    show s.wrong ≠ 0
    rw [this.1]; exact kQ _
   have es : s.eF TL = { s.aG with aO := s.aO + 1 } := by unfold Rs.eF; split; exact kD hws _ _; rfl
   have hfl : (if ck.aO + 1 > 1 then ({ ck with aO := ck.aO + 1 } : Ck).fault 2 t.pos else { ck with aO := ck.aO + 1 }).first = some e := by
    split
    ·have hff : ({ ck with aO := ck.aO + 1 } : Ck).first = some e := hf
     unfold Ck.fault
     rw [hff]
    ·exact hf
   rw [es]
   exact ⟨hw.late hf hfl rfl rfl, fun hh => by rw [hfl] at hh; cases hh⟩
 have e2 : eX l t = aK (iV l (nx l t)) fun n t1 => aK (dJ [59] l t1) fun _ t2 => .ok (⟨t.txt, t.pos, ([], 0), n⟩, t2) := by unfold eX; rw [if_pos c]
 have e1 : (s.lY l TL).2 = ((s.eF TL).num l (nx l t) 1 99).2.need (cur TL ((s.eF TL).num l (nx l t) 1 99).2) [59] := by unfold Rs.lY; rw [g0.cu]
 rw [e1, e2]
 have hfin := X8 hc g0 hw0 99 (fun n => (⟨t.txt, t.pos, ([], 0), n⟩ : Dc)) (fun d => ck.decl d) (fun n => by
  unfold Ck.decl
  rw [if_neg (by show ¬ (t.txt = _ \/ t.txt = _); rw [c]; decide), if_neg (by show ¬ t.txt = _; rw [c]; decide), if_pos (by exact c)])
 revert hfin
 generalize (aK (iV l (nx l t)) fun n t1 => aK (dJ [59] l t1) fun _ t2 => (.ok ((⟨t.txt, t.pos, ([], 0), n⟩ : Dc), t2) : PR Dc)) = R
 cases R with
 | error q => obtain ⟨q, p⟩ := q; exact id
 | ok q => obtain ⟨q, p⟩ := q; exact id
end
section
variable {l : List UInt8} {TL : List Tok} {L : List DL} {ck : Ck} {s : Rs} {t : Tok}
theorem aOl (h1 : s.aG.bad = 0) (hn : bD (cur TL s.aG) ≠ [110, 97, 109, 101]) (kd : List UInt8) : (s.jV l TL L kd).2.bad = 2 /\ (s.jV l TL L kd).2.fZ = (cur TL s.aG).pos := by
 have e1 : s.aG.need (cur TL s.aG) [110, 97, 109, 101] = s.aG.fail 2 (cur TL s.aG) := by unfold Rs.need; rw [if_pos h1, if_neg hn]
 have hb : (s.aG.fail 2 (cur TL s.aG)).bad ≠ 0 := by simp [Rs.fail]
 have e2 : s.kR l TL L = s.aG.fail 2 (cur TL s.aG) := by unfold Rs.kR; rw [e1, vV hb]; split <;> rfl
 have e3 : s.fA l TL L = s.aG.fail 2 (cur TL s.aG) := by unfold Rs.fA; rw [e2, vV hb]; split <;> rfl
 unfold Rs.jV
 simp only [e3]
 rw [aQ2 hb, fM hb]
 exact ⟨rfl, rfl⟩
theorem aGx (hc : Ch l TL) (g : GA l TL s t) (h : WD L ck s) (c : t.txt = [113, 117, 101, 117, 101] \/ t.txt = [103, 104, 111, 115, 116] \/ t.txt = [118, 97, 114]) :
  bD t = t.txt /\ match eX l t with
  | .ok (d, t') => GA l TL (s.jV l TL L t.txt).2 t' /\ WD (L ++ [(s.jV l TL L t.txt).1]) (ck.decl d) (s.jV l TL L t.txt).2
  | .error (q, p) => (s.jV l TL L t.txt).2.bad = (if q then 3 else 2) /\ (s.jV l TL L t.txt).2.fZ = p := by
 have hB : bD t = t.txt := by
  rcases c with c | c | c
  ·rw [c]; exact (g.fix [113, 117, 101, 117, 101] (by decide) (by decide) (by decide) (by decide)).2 c
  ·rw [c]; exact (g.fix [103, 104, 111, 115, 116] (by decide) (by decide) (by decide) (by decide)).2 c
  ·rw [c]; exact (g.fix [118, 97, 114] (by decide) (by decide) (by decide) (by decide)).2 c
 refine ⟨hB, ?_⟩
 have hnf : t.txt ≠ [102, 114, 101, 113] := by rcases c with c | c | c <;> rw [c] <;> decide
 have he : gW t = false := by rcases c with c | c | c <;> exact bK (hB.trans c) (by decide) (by decide)
 have g1 : GA l TL s.aG (nx l t) := g.step hc he g.bad rfl
 have e0 : eX l t = aK (dK l (nx l t)) fun m t1 => aK (iV l t1) fun n t2 => aK (dJ [59] l t2) fun _ t3 => .ok (⟨t.txt, t.pos, m, n⟩, t3) := by unfold eX; rw [if_neg hnf]
 by_cases k2 : (nx l t).kind = 2
 ·have hn := g1.name.2 k2
  have he2 : gW (nx l t) = false := by simp [gW, k2]
  have hraw := g1.raw he2
  have e2 : dK l (nx l t) = .ok (np (nx l t), nx l (nx l t)) := by unfold dK; rw [if_pos k2]
  have en : s.aG.need (nx l t) [110, 97, 109, 101] = s.aG.aG := by unfold Rs.need; rw [if_pos g1.bad, if_pos hn]
  have hw : WD L ck s.aG.aG := h.same rfl rfl rfl
  have hd := aIm hw g1.bad (np (nx l t)) t.txt (if (t.txt == [118, 97, 114]) = true then 1 else 0) (((s.fA l TL L).num l (cur TL (s.fA l TL L)) 1 (if t.txt = [118, 97, 114] then 99 else 50)).1) rfl (s.kR l TL L) (s.fA l TL L)
   (by unfold Rs.kR; rw [g1.cu, en, hraw]; rfl) (by unfold Rs.fA; rw [g1.cu]; rfl)
  have e1 : s.jV l TL L t.txt = ((t.txt, (np (nx l t)).1, ((s.fA l TL L).num l (cur TL (s.fA l TL L)) 1 (if t.txt = [118, 97, 114] then 99 else 50)).1), ((s.fA l TL L).num l (cur TL (s.fA l TL L)) 1 (if t.txt = [118, 97, 114] then 99 else 50)).2.need (cur TL ((s.fA l TL L).num l (cur TL (s.fA l TL L)) 1 (if t.txt = [118, 97, 114] then 99 else 50)).2) [59]) := by
   unfold Rs.jV
   simp only
   rw [g1.cu, hraw]
   rfl
  obtain ⟨hw3, hb3, hk3⟩ := hd
  have g3 : GA l TL (s.fA l TL L) (nx l (nx l t)) := g1.step hc he2 hb3 hk3
  have e4 : eX l t = aK (iV l (nx l (nx l t))) fun n t2 => aK (dJ [59] l t2) fun _ t3 => .ok (⟨t.txt, t.pos, np (nx l t), n⟩, t3) := by rw [e0, e2]; rfl
  rw [e1, e4]
  generalize s.fA l TL L = s3 at *
  rw [g3.cu] at hw3 ⊢
  have hd2 : ∀ n : Nat × Nat, ck.decl (⟨t.txt, t.pos, np (nx l t), n⟩ : Dc) = (ck.declare (np (nx l t)) (if (t.txt == [118, 97, 114]) = true then 1 else 0)).bound n.1 n.2 (if t.txt = [118, 97, 114] then 99 else 50) := by
   intro n
   rcases c with c | c | c
   ·have q1 : (if (t.txt == [118, 97, 114]) = true then 1 else 0 : Nat) = 0 := by rw [c]; decide
    have q2 : (if t.txt = [118, 97, 114] then 99 else 50 : Nat) = 50 := by rw [c]; decide
    rw [q1, q2]
    unfold Ck.decl
    rw [if_pos (Or.inl c)]
   ·have q1 : (if (t.txt == [118, 97, 114]) = true then 1 else 0 : Nat) = 0 := by rw [c]; decide
    have q2 : (if t.txt = [118, 97, 114] then 99 else 50 : Nat) = 50 := by rw [c]; decide
    rw [q1, q2]
    unfold Ck.decl
    rw [if_pos (Or.inr c)]
   ·have q1 : (if (t.txt == [118, 97, 114]) = true then 1 else 0 : Nat) = 1 := by rw [c]; decide
    have q2 : (if t.txt = [118, 97, 114] then 99 else 50 : Nat) = 99 := by rw [c]; decide
    have q3 : ¬ (t.txt = [113, 117, 101, 117, 101] \/ t.txt = [103, 104, 111, 115, 116]) := by rw [c]; decide
    rw [q1, q2]
    unfold Ck.decl
    rw [if_neg q3, if_pos c]
  generalize (if (t.txt == [118, 97, 114]) = true then 1 else 0 : Nat) = kk at *
  generalize (if t.txt = [118, 97, 114] then 99 else 50 : Nat) = bb at *
  clear e0 e2 e4 en hraw hw hn he2 k2 hb3 hk3 e1
  generalize nx l (nx l t) = t2 at *
  generalize np (nx l t) = n0 at *
  have hfin := X8 hc g3 hw3 bb (fun n => (⟨t.txt, t.pos, n0, n⟩ : Dc)) (fun d => ck.decl d) hd2
  revert hfin
  generalize (aK (iV l t2) fun n t2 => aK (dJ [59] l t2) fun _ t3 => (.ok ((⟨t.txt, t.pos, n0, n⟩ : Dc), t3) : PR Dc)) = R
  cases R with
  | error q => obtain ⟨q, p⟩ := q; exact id
  | ok q => obtain ⟨q, p⟩ := q; exact id
 ·have hn : bD (nx l t) ≠ [110, 97, 109, 101] := fun e => k2 (g1.name.1 e)
  have e2 : dK l (nx l t) = .error (false, (nx l t).pos) := by unfold dK; rw [if_neg k2]
  have hbn := aOl (l := l) (L := L) g1.bad (by rw [g1.cu]; exact hn) t.txt
  rw [g1.cu] at hbn
  rw [e0, e2]
  exact hbn
end
section
variable {l : List UInt8} {TL : List Tok} {L : List DL} {ck : Ck} {s : Rs} {t : Tok} {p : Pm}
theorem aAj : ∀ (L : List DL) (x : List UInt8) (k : Nat), dV L x = some k -> (L.getD k ([], [], 0)).2.1 = x
 | [], _, _, h => by simp [dV] at h
 | d :: L, x, k, h => by
  rw [kZ] at h
  split at h
  ·rename_i hd
   simp at h; subst h; simpa using hd
  ·obtain ⟨m, hm, rfl⟩ := Option.map_eq_some_iff.1 h
   have := aAj L x m hm
   simpa using this
def cnt (ck : Ck) (x : List UInt8) : Nat := (look x ck.rules).getD 0
structure RR (L : List DL) (ck : Ck) (p : Pm) : Prop where
 len : p.has.length = L.length
 tK : cnt ck [109, 105, 115, 115] = 0 ↔ p.ms = false
 has : ∀ x k, x ≠ [109, 105, 115, 115] -> dV L x = some k -> (cnt ck x = 0 ↔ p.has.getD k false = false)
 none : ∀ x, x ≠ [109, 105, 115, 115] -> dV L x = none -> cnt ck x = 0
 var : ∀ k, ((L.getD k ([], [], 0)).1 == [118, 97, 114]) = true -> p.has.getD k false = false
def WU (L : List DL) (ck : Ck) (s : Rs) (p : Pm) : Prop := WR L ck s /\ (ck.first = none -> RR L ck p)
theorem jY (ck : Ck) (p : Nat) (n : NP) : (cnt ck n.1 = 0 -> ck.fO p n = ck.count n) /\ (cnt ck n.1 ≠ 0 -> ck.fO p n = (ck.count n).fault 6 p) := by
 unfold Ck.fO cnt
 constructor
 ·intro h; rw [if_neg (by omega)]
 ·intro h; rw [if_pos (by omega)]
theorem aLp (ck : Ck) (n : NP) (x : List UInt8) {c : Ck} (h : c.rules = (n.1, (look n.1 ck.rules).getD 0 + 1) :: ck.rules) : cnt c x = if n.1 = x then cnt ck x + 1 else cnt ck x := by
 unfold cnt
 rw [h, gK]
 split
 ·rename_i e; subst e; rfl
 ·rfl
theorem aO7 (h : WU L ck s p) (hb : s.bad = 0) (pos np : Nat) (s' : Rs) (hs : s' = if p.ms = true then s.note 8 pos else s) :
  WR L ((ck.fO pos ([109, 105, 115, 115], np)).rule2 ([109, 105, 115, 115], np)) s' /\ s'.bad = 0 /\ s'.k = s.k := by
 have nb : ∀ (s : Rs) e p, s.bad = 0 -> (s.note e p).bad = 0 := fun s e p hb => by unfold Rs.note; split <;> exact hb
 have hb2 : s'.bad = 0 := by rw [hs]; split; exact nb _ _ _ hb; exact hb
 have hk2 : s'.k = s.k := by rw [hs]; split; exact iO _ _; rfl
 refine ⟨?_, hb2, hk2⟩
 have e2 : (ck.fO pos ([109, 105, 115, 115], np)).rule2 ([109, 105, 115, 115], np) = ck.fO pos ([109, 105, 115, 115], np) := by unfold Ck.rule2; rw [if_pos rfl]
 rw [e2]
 obtain ⟨hw, hr⟩ := h
 cases hf : ck.first with
 | some e =>
  have hws : s.wrong ≠ 0 := by
   have := hw
   unfold WR at this
   rw [hf] at this
   rw [this.1]; exact kQ _
  have es : s' = s := by rw [hs]; split; exact kD hws _ _; rfl
  rw [es]
  exact hw.late hf (rO hf _ _) rfl rfl
 | none =>
  have hR := hr hf
  have hw1 : WR L (ck.count ([109, 105, 115, 115], np)) s := by unfold WR at hw ⊢; exact hw
  by_cases hc : cnt ck [109, 105, 115, 115] = 0
  ·rw [(jY ck pos ([109, 105, 115, 115], np)).1 hc, hs, hR.tK.1 hc]
   exact hw1
  ·have hm : p.ms = true := by cases hm : p.ms; exact absurd (hR.tK.2 hm) hc; rfl
   rw [(jY ck pos ([109, 105, 115, 115], np)).2 hc, hs, if_pos hm]
   exact hw1.fault hb 6 pos
theorem aO6 (h : WU L ck s p) (hb : s.bad = 0) (hk : t.kind = 2) (hraw : bF l t.pos = t.txt) (hnm : t.txt ≠ [109, 105, 115, 115]) (pos : Nat) (s' : Rs) (hs : s' = if p.twice (false, (s.bG l t L false).1) = true then (s.bG l t L false).2.note 8 pos else (s.bG l t L false).2) :
  WR L ((ck.fO pos (np t)).rule2 (np t)) s' /\ s'.bad = 0 /\ s'.k = s.k + 1 := by
 have nb : ∀ (s : Rs) e p, s.bad = 0 -> (s.note e p).bad = 0 := fun s e p hb => by unfold Rs.note; split <;> exact hb
 obtain ⟨hw, hr⟩ := h
 obtain ⟨w1, b1, k1⟩ := aCs hw hb hk hraw false
 have hb2 : s'.bad = 0 := by rw [hs]; split; exact nb _ _ _ b1; exact b1
 have hk2 : s'.k = s.k + 1 := by rw [hs]; split; exact (iO _ _).trans k1; exact k1
 refine ⟨?_, hb2, hk2⟩
 have e2 : (ck.fO pos (np t)).rule2 (np t) = (ck.fO pos (np t)).use (np t) 0 := by unfold Ck.rule2; rw [if_neg (show ¬ (np t).1 = [109, 105, 115, 115] from hnm)]
 rw [e2]
 simp only [Bool.false_eq_true, if_false] at w1
 have late : ∀ e, (ck.use (np t) 0).first = some e -> ((ck.fO pos (np t)).use (np t) 0).first = some e -> WR L ((ck.fO pos (np t)).use (np t) 0) s' := fun e h1 h2 => by
  have hws : (s.bG l t L false).2.wrong ≠ 0 := by
   have := w1
   unfold WR at this
   rw [h1] at this
   rw [this.1]; exact kQ _
  have es : s' = (s.bG l t L false).2 := by rw [hs]; split; exact kD hws _ _; rfl
  rw [es]
  exact w1.late h1 h2 rfl rfl
 cases hf : ck.first with
 | some e => exact late e (rJ hf _ _) (rJ (rO hf _ _) _ _)
 | none =>
  have hR := hr hf
  have hnr : uJ ck.names L := by
   have := hw
   unfold WR at this
   rw [hf] at this
   exact this.2
  have hlook := hnr t.txt
  have hnx : (np t).1 = t.txt := rfl
  cases hi : dV L t.txt with
  | none =>
   have c0 := hR.none t.txt hnm hi
   have e1 := (jY ck pos (np t)).1 c0
   rw [hi] at hlook
   have lk : look t.txt ck.names = none := hlook
   have u1 : (ck.use (np t) 0).first = some (3, t.pos) := by unfold Ck.use; rw [hnx, lk]; simp only; unfold Ck.fault; rw [hf]; rfl
   have u2 : ((ck.fO pos (np t)).use (np t) 0).first = some (3, t.pos) := by
    rw [e1]
    unfold Ck.use
    rw [hnx, show (ck.count (np t)).names = ck.names from rfl, lk]
    simp only
    unfold Ck.fault
    rw [show (ck.count (np t)).first = none from hf]; rfl
   exact late _ u1 u2
  | some k =>
   rw [hi] at hlook
   have lk : look t.txt ck.names = some (if ((L.getD k ([], [], 0)).1 == [118, 97, 114]) = true then 1 else 0) := hlook
   by_cases hv : ((L.getD k ([], [], 0)).1 == [118, 97, 114]) = true
   ·have c0 : cnt ck t.txt = 0 := (hR.has t.txt k hnm hi).2 (hR.var k hv)
    have e1 := (jY ck pos (np t)).1 c0
    rw [if_pos hv] at lk
    have u1 : (ck.use (np t) 0).first = some (4, t.pos) := by unfold Ck.use; rw [hnx, lk]; simp only; rw [if_neg (by decide)]; unfold Ck.fault; rw [hf]; rfl
    have u2 : ((ck.fO pos (np t)).use (np t) 0).first = some (4, t.pos) := by
     rw [e1]
     unfold Ck.use
     rw [hnx, show (ck.count (np t)).names = ck.names from rfl, lk]
     simp only
     rw [if_neg (by decide)]
     unfold Ck.fault
     rw [show (ck.count (np t)).first = none from hf]; rfl
    exact late _ u1 u2
   ·rw [if_neg hv] at lk
    have us : ∀ c : Ck, c.names = ck.names -> c.use (np t) 0 = c := fun c hc => by unfold Ck.use; rw [hnx, hc, lk]; simp
    have ef : ∀ i q, ((ck.count (np t)).fault i q).names = ck.names := fun i q => (eU _ _ _).1
    have hn1 : (s.bG l t L false).1 = k := by unfold Rs.bG; rw [hraw, hi]
    rw [us ck rfl] at w1
    have hw1 : WR L (ck.count (np t)) (s.bG l t L false).2 := by unfold WR at w1 ⊢; exact w1
    rw [hn1] at hs
    have htw : p.twice (false, k) = p.has.getD k false := rfl
    rw [htw] at hs
    by_cases hc : cnt ck t.txt = 0
    ·rw [(jY ck pos (np t)).1 hc, us (ck.count (np t)) rfl, hs, (hR.has t.txt k hnm hi).1 hc]
     exact hw1
    ·have hm : p.has.getD k false = true := by
      cases hm : p.has.getD k false
      ·exact absurd ((hR.has t.txt k hnm hi).2 hm) hc
      ·rfl
     rw [(jY ck pos (np t)).2 hc, us _ (ef _ _), hs, if_pos hm]
     exact hw1.fault b1 6 pos
end
section
variable {l : List UInt8} {TL : List Tok} {L : List DL} {ck : Ck} {s : Rs} {t : Tok} {p : Pm}
theorem aCj (l : List Bool) (k j : Nat) (v : Bool) (hk : k < l.length) : (l.set k v).getD j false = if k = j then v else l.getD j false := by
 rw [List.getD_eq_getElem?_getD, List.getD_eq_getElem?_getD, List.getElem?_set]
 split
 ·rename_i e; subst e; simp []
 ·rfl
theorem aLc (hc : Ch l TL) (g : GA l TL s t) (h : WU L ck s p) (hd : s.deep = 0) (hlo : s.loops = 0) (c : t.txt = [111, 110]) :
  match gV l t with
  | .ok (r, t') => GA l TL (s.dS l TL L p).2 t' /\ WU L (ck.rule r) (s.dS l TL L p).2 (s.dS l TL L p).1
  | .error (q, pp) => (s.dS l TL L p).2.bad = (if q then 3 else 2) /\ (s.dS l TL L p).2.fZ = pp := by
 have hB : bD t = [111, 110] := (g.fix [111, 110] (by decide) (by decide) (by decide) (by decide)).2 c
 have he := bK hB (by decide) (by decide)
 have g1 : GA l TL s.aG (nx l t) := g.step hc he g.bad rfl
 have h1 : WU L ck s.aG p := ⟨h.1.same rfl rfl, h.2⟩
 have rest : ∀ (n : NP) (t1 : Tok), GA l TL (s.jI l TL L p) t1 -> WR L ((ck.fO t.pos n).rule2 n) (s.jI l TL L p) -> iP l (nx l t) = .ok (n, t1) ->
   (∀ x : RT 8, ((ck.fO t.pos n).rule2 n).first = none -> ∀ c : Ck, c.rules = (n.1, (look n.1 ck.rules).getD 0 + 1) :: ck.rules -> RR L c (p.step (s.nG l TL L).1 x)) ->
   match gV l t with
   | .ok (r, t') => GA l TL (s.dS l TL L p).2 t' /\ WU L (ck.rule r) (s.dS l TL L p).2 (s.dS l TL L p).1
   | .error (q, pp) => (s.dS l TL L p).2.bad = (if q then 3 else 2) /\ (s.dS l TL L p).2.fZ = pp := by
  intro n t1 gB wB hev hrr
  have g3 := yI (L := L) hc g1.k p
  have hdB : (s.jI l TL L p).deep = 0 := g3.2.1.trans hd
  have hlB : (s.jI l TL L p).loops = 0 := g3.2.2.trans hlo
  have hbk := aE2 (L := L) hc 8 ((ck.fO t.pos n).rule2 n) (s.jI l TL L p) t1 gB wB (by omega) (by omega)
  rw [hlB] at hbk
  have e1 : gV l t = aK (aJ l 8 0 t1) fun x t2 => .ok ((t.pos, n, x), t2) := by unfold gV; rw [hev]; rfl
  rw [e1]
  cases hx : aJ l 8 0 t1 with
  | error q =>
   obtain ⟨q, pp⟩ := q
   rw [hx] at hbk
   exact hbk
  | ok x =>
   obtain ⟨x, t2⟩ := x
   rw [hx] at hbk
   refine ⟨hbk.1, hbk.2, fun hf => ?_⟩
   have hf1 : ((ck.fO t.pos n).rule2 n).first = none := gQ (fun e h => lV 8 _ x h) hf
   exact hrr _ hf1 _ (o7 ck (t.pos, n, x))
 by_cases k : (nx l t).txt = [109, 105, 115, 115]
 ·have hM : bD (nx l t) = [109, 105, 115, 115] := (g1.fix [109, 105, 115, 115] (by decide) (by decide) (by decide) (by decide)).2 k
  have he2 := bK hM (by decide) (by decide)
  have eA : s.nG l TL L = ((true, 0), s.aG.aG) := by unfold Rs.nG; rw [if_pos ⟨g.bad, by rw [g1.cu]; exact hM⟩]
  have eB : s.jI l TL L p = if p.ms = true then s.aG.aG.note 8 t.pos else s.aG.aG := by unfold Rs.jI; rw [eA, g.cu]; rfl
  have h2 : WU L ck s.aG.aG p := ⟨h.1.same rfl rfl, h.2⟩
  obtain ⟨w2, b2, k2⟩ := aO7 h2 g.bad t.pos (nx l t).pos _ eB
  have hnp : np (nx l t) = ([109, 105, 115, 115], (nx l t).pos) := by unfold np; rw [k]
  have hev : iP l (nx l t) = .ok (([109, 105, 115, 115], (nx l t).pos), nx l (nx l t)) := by unfold iP; rw [if_pos k, hnp]
  refine rest _ _ (g1.step hc he2 b2 k2) w2 hev (fun x hf c hcr => ?_)
  have hf0 : ck.first = none := gQ (fun e h => rM (rO h _ _) _) hf
  have hR := h.2 hf0
  have ct := fun y => aLp ck ([109, 105, 115, 115], (nx l t).pos) y hcr
  rw [eA]
  refine ⟨hR.len, ?_, fun y k hy hi => ?_, fun y hy hi => ?_, hR.var⟩
  ·rw [ct, if_pos rfl]
   constructor
   ·intro hh; omega
   ·intro hh; cases hh
  ·rw [ct, if_neg (fun e => hy e.symm)]; exact hR.has y k hy hi
  ·rw [ct, if_neg (fun e => hy e.symm)]; exact hR.none y hy hi
 ·have hM : bD (nx l t) ≠ [109, 105, 115, 115] := fun e => k ((g1.fix [109, 105, 115, 115] (by decide) (by decide) (by decide) (by decide)).1 e)
  have eA : s.nG l TL L = ((false, (s.aG.bG l (nx l t) L false).1), (s.aG.bG l (nx l t) L false).2) := by
   unfold Rs.nG
   rw [if_neg (fun hh => hM (by rw [<- g1.cu]; exact hh.2)), g1.cu]
  have eB : s.jI l TL L p = if p.twice (false, (s.aG.bG l (nx l t) L false).1) = true then (s.aG.bG l (nx l t) L false).2.note 8 t.pos else (s.aG.bG l (nx l t) L false).2 := by unfold Rs.jI; rw [eA, g.cu]
  by_cases k2 : (nx l t).kind = 2
  ·have he2 : gW (nx l t) = false := by simp [gW, k2]
   have hraw := g1.raw he2
   obtain ⟨w2, b2, q2⟩ := aO6 h1 g.bad k2 hraw k t.pos _ eB
   have hev : iP l (nx l t) = .ok (np (nx l t), nx l (nx l t)) := by unfold iP dK; rw [if_neg k, if_pos k2]
   refine rest _ _ (g1.step hc he2 b2 q2) w2 hev (fun x hf c hcr => ?_)
   have hf0 : ck.first = none := gQ (fun e h => rM (rO h _ _) _) hf
   have hf1 : (ck.fO t.pos (np (nx l t))).first = none := gQ (fun e h => rM h _) hf
   have hR := h.2 hf0
   have hnr : uJ ck.names L := by
    have := h.1
    unfold WR at this
    rw [hf0] at this
    exact this.2
   have hlook := hnr (nx l t).txt
   have c0 : cnt ck (nx l t).txt = 0 := by
    by_cases hc0 : cnt ck (nx l t).txt = 0
    ·exact hc0
    ·rw [(jY ck t.pos (np (nx l t))).2 hc0] at hf1
     exact absurd hf1 (eU _ _ _).2.2
   have e2 : (ck.fO t.pos (np (nx l t))).rule2 (np (nx l t)) = (ck.count (np (nx l t))).use (np (nx l t)) 0 := by
    unfold Ck.rule2
    rw [if_neg (show ¬ (np (nx l t)).1 = [109, 105, 115, 115] from k), (jY ck t.pos (np (nx l t))).1 c0]
   rw [e2] at hf
   have ct := fun y => aLp ck (np (nx l t)) y hcr
   cases hi : dV L (nx l t).txt with
   | none =>
    rw [hi] at hlook
    have lk : look (nx l t).txt ck.names = none := hlook
    have hbad : ((ck.count (np (nx l t))).use (np (nx l t)) 0).first ≠ none := by
     unfold Ck.use
     rw [show (np (nx l t)).1 = (nx l t).txt from rfl, show (ck.count (np (nx l t))).names = ck.names from rfl, lk]
     exact (eU _ _ _).2.2
    exact absurd hf hbad
   | some j =>
    rw [hi] at hlook
    have lk : look (nx l t).txt ck.names = some (if ((L.getD j ([], [], 0)).1 == [118, 97, 114]) = true then 1 else 0) := hlook
    have hv : ¬ ((L.getD j ([], [], 0)).1 == [118, 97, 114]) = true := by
     intro hv
     rw [if_pos hv] at lk
     have hbad : ((ck.count (np (nx l t))).use (np (nx l t)) 0).first ≠ none := by
      unfold Ck.use
      rw [show (np (nx l t)).1 = (nx l t).txt from rfl, show (ck.count (np (nx l t))).names = ck.names from rfl, lk]
      simp only
      rw [if_neg (by decide)]
      exact (eU _ _ _).2.2
     exact absurd hf hbad
    have hn1 : (s.aG.bG l (nx l t) L false).1 = j := by unfold Rs.bG; rw [hraw, hi]
    have hjl := vK L _ j hi
    have hjp : j < p.has.length := by rw [hR.len]; exact hjl
    have eS : p.step (s.nG l TL L).1 x = { p with has := p.has.set j true, dS := p.dS.set j x } := by
     rw [eA, hn1]
     unfold Pm.step
     rw [if_neg (fun hh => by cases hh), if_pos (show ((false, j), (s.aG.bG l (nx l t) L false).2).1.2 < p.has.length from hjp)]
    rw [eS]
    refine ⟨by simpa using hR.len, ?_, fun y i hy hyi => ?_, fun y hy hyi => ?_, fun i hiv => ?_⟩
    ·rw [ct, if_neg (show ¬ (np (nx l t)).1 = [109, 105, 115, 115] from k)]; exact hR.tK
    ·have hg : (p.has.set j true).getD i false = if j = i then true else p.has.getD i false := aCj _ _ _ _ hjp
     show _ ↔ (p.has.set j true).getD i false = false
     rw [ct, hg]
     by_cases e : (np (nx l t)).1 = y
     ·have e' : (nx l t).txt = y := e
      rw [e', hyi] at hi
      have : i = j := by simpa using hi
      rw [if_pos e, if_pos this.symm]
      constructor
      ·intro hh; omega
      ·intro hh; cases hh
     ·have hne : ¬ j = i := fun ee => by
       subst ee
       exact e ((aAj L _ _ hi).symm.trans (aAj L _ _ hyi))
      rw [if_neg e, if_neg hne]
      exact hR.has y i hy hyi
    ·have e : ¬ (np (nx l t)).1 = y := fun e => by
      have e' : (nx l t).txt = y := e
      rw [e', hyi] at hi; cases hi
     rw [ct, if_neg e]
     exact hR.none y hy hyi
    ·have hg : (p.has.set j true).getD i false = if j = i then true else p.has.getD i false := aCj _ _ _ _ hjp
     show (p.has.set j true).getD i false = false
     rw [hg, if_neg (fun ee => hv (by rw [ee]; exact hiv))]
     exact hR.var i hiv
  ·have hn : bD (nx l t) ≠ [110, 97, 109, 101] := fun e => k2 (g1.name.1 e)
   have hev : iP l (nx l t) = .error (false, (nx l t).pos) := by unfold iP dK; rw [if_neg k, if_neg k2]
   have e1 : gV l t = .error (false, (nx l t).pos) := by unfold gV; rw [hev]; rfl
   obtain ⟨b1, b2⟩ := oU (l := l) (L := L) g1.bad hn false
   have hbn : (s.aG.bG l (nx l t) L false).2.bad ≠ 0 := by rw [b1]; decide
   have eB2 : s.jI l TL L p = (s.aG.bG l (nx l t) L false).2 := by rw [eB, vV hbn]; split <;> rfl
   have hbb := J7 (L := L) (l := l) (TL := TL) (s := s.jI l TL L p) 8 (by rw [eB2]; exact hbn)
   rw [e1]
   show (Rs.blk l TL L 8 (s.jI l TL L p)).2.bad = _ /\ (Rs.blk l TL L 8 (s.jI l TL L p)).2.fZ = _
   rw [hbb, eB2, b1, b2]
   exact ⟨rfl, rfl⟩
end
section
variable {l : List UInt8} {TL : List Tok}
theorem oV (f : Nat) (s : Rs) (L : List DL) (fr : Nat) (h : ¬ (s.bad = 0 /\ iD (bD (cur TL s)) = true)) : Rs.dZ l TL f s L fr = (s, L, fr) := by
 cases f with
 | zero => rfl
 | succ f => unfold Rs.dZ; rw [if_neg h]
theorem oM (L : List DL) (f : Nat) (s : Rs) (p : Pm) (h : ¬ (s.bad = 0 /\ bD (cur TL s) = [111, 110])) : Rs.kM l TL L f s p = (s, p) := by
 cases f with
 | zero => rfl
 | succ f => unfold Rs.kM; rw [if_neg h]
theorem oW (x : List UInt8) : iD x = true ↔ (x = [113, 117, 101, 117, 101] \/ x = [103, 104, 111, 115, 116] \/ x = [118, 97, 114]) \/ x = [102, 114, 101, 113] := by
 unfold iD
 simp only [Bool.or_eq_true, beq_iff_eq, or_assoc]
theorem GA.decl {s : Rs} {t : Tok} (g : GA l TL s t) : iD (bD t) = true ↔ iD t.txt = true := by
 rw [oW, oW, g.fix [113, 117, 101, 117, 101] (by decide) (by decide) (by decide) (by decide), g.fix [103, 104, 111, 115, 116] (by decide) (by decide) (by decide) (by decide), g.fix [118, 97, 114] (by decide) (by decide) (by decide) (by decide), g.fix [102, 114, 101, 113] (by decide) (by decide) (by decide) (by decide)]
theorem aAr (hc : Ch l TL) : ∀ (f1 f2 : Nat) (ck : Ck) (s : Rs) (t : Tok) (L : List DL) (fr : Nat), GA l TL s t -> WD L ck s -> s.deep = 0 -> s.loops = 0 -> TL.length <= f1 + s.k -> l.length + 1 <= f2 + t.pos ->
  match dD l f2 t with
  | .ok (ds, t') => GA l TL (Rs.dZ l TL f1 s L fr).1 t' /\ WD (Rs.dZ l TL f1 s L fr).2.1 (ds.foldl Ck.decl ck) (Rs.dZ l TL f1 s L fr).1 /\ (Rs.dZ l TL f1 s L fr).1.deep = 0 /\ (Rs.dZ l TL f1 s L fr).1.loops = 0
  | .error (q, p) => (Rs.dZ l TL f1 s L fr).1.bad = (if q then 3 else 2) /\ (Rs.dZ l TL f1 s L fr).1.fZ = p
 | 0, _, _, s, _, _, _, g, _, _, _, h1, _ => by have := g.k; omega
 | f1 + 1, 0, _, s, t, _, _, g, _, _, _, _, h2 => by
  obtain ⟨j, hj, rfl⟩ := g.at'
  have := oO l j hj
  omega
 | f1 + 1, f2 + 1, ck, s, t, L, fr, g, h, hd, hlo, h1, h2 => by
  by_cases k : iD t.txt = true
  ·have hBd := g.decl.2 k
   have e2 : dD l (f2 + 1) t = aK (eX l t) fun d t1 => aK (dD l f2 t1) fun ds t2 => .ok (d :: ds, t2) := by
    conv => lhs; unfold dD
    rw [if_pos k]
   by_cases kf : t.txt = [102, 114, 101, 113]
   ·have hB : bD t = [102, 114, 101, 113] := (g.fix [102, 114, 101, 113] (by decide) (by decide) (by decide) (by decide)).2 kf
    have hka : s.aG.k < TL.length := (g.step hc (bK hB (by decide) (by decide)) (r := s.aG) g.bad rfl).k
    have e1 : Rs.dZ l TL (f1 + 1) s L fr = Rs.dZ l TL f1 (s.lY l TL).2 L (s.lY l TL).1 := by
     conv => lhs; unfold Rs.dZ
     rw [g.cu, if_pos ⟨g.bad, hBd⟩, if_pos hB]
    have hst := aGy hc g h kf
    have hg := aAp hc hka
    rw [e1, e2]
    generalize s.lY l TL = q at *
    cases hx : eX l t with
    | error r =>
     obtain ⟨r, p⟩ := r
     rw [hx] at hst
     have hbn : q.2.bad ≠ 0 := by rw [hst.1]; exact oD r
     rw [oV _ _ _ _ (fun hh => hbn hh.1)]
     exact hst
    | ok r =>
     obtain ⟨d, t1⟩ := r
     rw [hx] at hst
     have hpos := aAu k hx
     have hk1 : s.k + 1 <= q.2.k := hg.1.1
     have ih := aAr hc f1 f2 (ck.decl d) q.2 t1 L q.1 hst.1 hst.2 (hg.2.1.trans hd) (hg.2.2.trans hlo) (by omega) (by omega)
     show match aK (dD l f2 t1) fun ds t2 => (.ok (d :: ds, t2) : PR (List Dc)) with | .ok (ds, t') => _ | .error (q, p) => _
     cases hy : dD l f2 t1 with
     | error r => obtain ⟨r, p⟩ := r; rw [hy] at ih; exact ih
     | ok r => obtain ⟨ds, t2⟩ := r; rw [hy] at ih; exact ih
   ·have kn : t.txt = [113, 117, 101, 117, 101] \/ t.txt = [103, 104, 111, 115, 116] \/ t.txt = [118, 97, 114] := by
     rcases (oW _).1 k with h | h
     ·exact h
     ·exact absurd h kf
    obtain ⟨hB, hst⟩ := aGx hc g h kn
    have he : gW t = false := by rcases kn with c | c | c <;> exact bK (hB.trans c) (by decide) (by decide)
    have hka : s.aG.k < TL.length := (g.step hc he (r := s.aG) g.bad rfl).k
    have e1 : Rs.dZ l TL (f1 + 1) s L fr = Rs.dZ l TL f1 (s.jV l TL L t.txt).2 (L ++ [(s.jV l TL L t.txt).1]) fr := by
     conv => lhs; unfold Rs.dZ
     rw [g.cu, if_pos ⟨g.bad, hBd⟩, hB, if_neg kf]
    have hg := aAo (L := L) hc hka t.txt
    rw [e1, e2]
    generalize s.jV l TL L t.txt = q at *
    cases hx : eX l t with
    | error r =>
     obtain ⟨r, p⟩ := r
     rw [hx] at hst
     have hbn : q.2.bad ≠ 0 := by rw [hst.1]; exact oD r
     rw [oV _ _ _ _ (fun hh => hbn hh.1)]
     exact hst
    | ok r =>
     obtain ⟨d, t1⟩ := r
     rw [hx] at hst
     have hpos := aAu k hx
     have hk1 : s.k + 1 <= q.2.k := hg.1.1
     have ih := aAr hc f1 f2 (ck.decl d) q.2 t1 (L ++ [q.1]) fr hst.1 hst.2 (hg.2.1.trans hd) (hg.2.2.trans hlo) (by omega) (by omega)
     show match aK (dD l f2 t1) fun ds t2 => (.ok (d :: ds, t2) : PR (List Dc)) with | .ok (ds, t') => _ | .error (q, p) => _
     cases hy : dD l f2 t1 with
     | error r => obtain ⟨r, p⟩ := r; rw [hy] at ih; exact ih
     | ok r => obtain ⟨ds, t2⟩ := r; rw [hy] at ih; exact ih
  ·have hBd : ¬ iD (bD t) = true := fun e => k (g.decl.1 e)
   have e2 : dD l (f2 + 1) t = .ok ([], t) := by unfold dD; rw [if_neg k]
   rw [e2, oV _ _ _ _ (fun hh => hBd (by rw [<- g.cu]; exact hh.2))]
   exact ⟨g, h, hd, hlo⟩
theorem aLb (hc : Ch l TL) {L : List DL} : ∀ (f1 f2 : Nat) (ck : Ck) (s : Rs) (t : Tok) (p : Pm), GA l TL s t -> WU L ck s p -> s.deep = 0 -> s.loops = 0 -> TL.length <= f1 + s.k -> l.length + 1 <= f2 + t.pos ->
  match bY l f2 t with
  | .ok (rs, t') => GA l TL (Rs.kM l TL L f1 s p).1 t' /\ WU L (rs.foldl Ck.rule ck) (Rs.kM l TL L f1 s p).1 (Rs.kM l TL L f1 s p).2
  | .error (q, pp) => (Rs.kM l TL L f1 s p).1.bad = (if q then 3 else 2) /\ (Rs.kM l TL L f1 s p).1.fZ = pp
 | 0, _, _, s, _, _, g, _, _, _, h1, _ => by have := g.k; omega
 | f1 + 1, 0, _, s, t, _, g, _, _, _, _, h2 => by
  obtain ⟨j, hj, rfl⟩ := g.at'
  have := oO l j hj
  omega
 | f1 + 1, f2 + 1, ck, s, t, p, g, h, hd, hlo, h1, h2 => by
  by_cases k : t.txt = [111, 110]
  ·have hB : bD t = [111, 110] := (g.fix [111, 110] (by decide) (by decide) (by decide) (by decide)).2 k
   have e2 : bY l (f2 + 1) t = aK (gV l t) fun d t1 => aK (bY l f2 t1) fun ds t2 => .ok (d :: ds, t2) := by
    conv => lhs; unfold bY
    rw [if_pos k]
   have hka : s.aG.k < TL.length := (g.step hc (bK hB (by decide) (by decide)) (r := s.aG) g.bad rfl).k
   have e1 : Rs.kM l TL L (f1 + 1) s p = Rs.kM l TL L f1 (s.dS l TL L p).2 (s.dS l TL L p).1 := by
    conv => lhs; unfold Rs.kM
    rw [g.cu, if_pos ⟨g.bad, hB⟩]
   have hst := aLc hc g h hd hlo k
   have hg := aEl (L := L) hc hka p
   rw [e1, e2]
   generalize s.dS l TL L p = q at *
   cases hx : gV l t with
   | error r =>
    obtain ⟨r, pp⟩ := r
    rw [hx] at hst
    have hbn : q.2.bad ≠ 0 := by rw [hst.1]; exact oD r
    rw [oM _ _ _ _ (fun hh => hbn hh.1)]
    exact hst
   | ok r =>
    obtain ⟨d, t1⟩ := r
    rw [hx] at hst
    have hpos := aDw k hx
    have hk1 : s.k + 1 <= q.2.k := hg.1.1
    have ih := aLb hc f1 f2 (ck.rule d) q.2 t1 q.1 hst.1 hst.2 (hg.2.1.trans hd) (hg.2.2.trans hlo) (by omega) (by omega)
    show match aK (bY l f2 t1) fun ds t2 => (.ok (d :: ds, t2) : PR (List (Nat × NP × BT 8))) with | .ok (ds, t') => _ | .error (q, p) => _
    cases hy : bY l f2 t1 with
    | error r => obtain ⟨r, p⟩ := r; rw [hy] at ih; exact ih
    | ok r => obtain ⟨ds, t2⟩ := r; rw [hy] at ih; exact ih
  ·have hB : ¬ bD t = [111, 110] := fun e => k ((g.fix [111, 110] (by decide) (by decide) (by decide) (by decide)).1 e)
   have e2 : bY l (f2 + 1) t = .ok ([], t) := by unfold bY; rw [if_neg k]
   rw [e2, oM _ _ _ _ (fun hh => hB (by rw [<- g.cu]; exact hh.2))]
   exact ⟨g, h⟩
theorem rH (n k : Nat) : (List.replicate n false).getD k false = false := by
 rw [List.getD_eq_getElem?_getD, List.getElem?_replicate]
 split <;> rfl
theorem xB (ds : List Dc) (ck : Ck) : (ds.foldl Ck.decl ck).rules = ck.rules := by
 induction ds generalizing ck with
 | nil => rfl
 | cons d ds ih => show (ds.foldl Ck.decl (ck.decl d)).rules = _; rw [ih, (aAv ck d).2]
theorem aKn (l : List UInt8) (i : Nat) (h : bD (aN l i) = [101, 110, 100]) : (aN l i).kind = 1 := by
 by_cases k1 : (aN l i).kind = 1
 ·exact k1
 by_cases k0 : (aN l i).kind = 0
 ·unfold bD at h
  rw [if_pos k0] at h
  exact absurd h (by decide)
 have he : gW (aN l i) = false := by simp [gW, k0, k1]
 obtain ⟨_, _, h3⟩ := pK l i he
 unfold bD at h
 rcases h3 with h2 | h3 | ⟨h4, h5⟩
 ·rw [h2] at h
  have h : ([110, 97, 109, 101] : List UInt8) = [101, 110, 100] := h
  exact absurd h (by decide)
 ·rw [h3] at h
  have h : ([110, 117, 109] : List UInt8) = [101, 110, 100] := h
  exact absurd h (by decide)
 ·rw [h4] at h
  have h : (aN l i).txt = [101, 110, 100] := h
  rw [h] at h5
  rcases h5 with h5 | h5
  ·exact absurd h5 (by decide)
  ·simp at h5
theorem aLd (hc : Ch l TL) (hl : l.length <= 700) (h0 : TL[0]? = some (aN l 0)) :
  match dM l with
  | .ok _ => kF (qZ l TL).1 (qZ l TL).2.2.ms = (0, 0)
  | .error (i, p) => kF (qZ l TL).1 (qZ l TL).2.2.ms = (oK i, p) := by
 have hk0 : 0 < TL.length := (List.getElem?_eq_some_iff.1 h0).1
 have g0 : GA l TL nN (aN l 0) := ⟨rfl, hk0, by
  have := aT (TL := TL) (s := nN) hk0
  rw [show nN.k = 0 from rfl, h0] at this
  exact (Option.some.inj this).symm, 0, Nat.zero_le _, rfl⟩
 have w0 : WD [] qR nN := ⟨⟨rfl, fun x => rfl⟩, fun _ => ⟨rfl, rfl⟩⟩
 have hd := aAr hc (TL.length + 1) (l.length + 1) qR nN (aN l 0) [] 0 g0 w0 rfl rfl (by omega) (by omega)
 have hdr := xB
 have eR : (qZ l TL).1 = (Rs.kM l TL (Rs.dZ l TL (TL.length + 1) nN [] 0).2.1 (TL.length + 1) (Rs.dZ l TL (TL.length + 1) nN [] 0).1 (yD (Rs.dZ l TL (TL.length + 1) nN [] 0).2.1.length)).1.need (cur TL (Rs.kM l TL (Rs.dZ l TL (TL.length + 1) nN [] 0).2.1 (TL.length + 1) (Rs.dZ l TL (TL.length + 1) nN [] 0).1 (yD (Rs.dZ l TL (TL.length + 1) nN [] 0).2.1.length)).1) [101, 110, 100] := rfl
 have eM : (qZ l TL).2.2.ms = (Rs.kM l TL (Rs.dZ l TL (TL.length + 1) nN [] 0).2.1 (TL.length + 1) (Rs.dZ l TL (TL.length + 1) nN [] 0).1 (yD (Rs.dZ l TL (TL.length + 1) nN [] 0).2.1.length)).2.ms := rfl
 rw [eR, eM]
 generalize Rs.dZ l TL (TL.length + 1) nN [] 0 = D at *
 have bad : ∀ (s : Rs) (m : Bool) (q : Bool) (p : Nat), s.bad = (if q then 3 else 2) -> s.fZ = p -> kF (s.need (cur TL s) [101, 110, 100]) m = (oK (if q then 1 else 14), p) := by
  intro s m q p h1 h2
  have hbn : s.bad ≠ 0 := by rw [h1]; exact oD q
  rw [fM hbn]
  unfold kF
  rw [if_pos hbn, h1, h2]
  cases q <;> rfl
 unfold dM
 rw [if_neg (by omega)]
 cases hx : dD l (l.length + 1) (aN l 0) with
 | error r =>
  obtain ⟨q, p⟩ := r
  rw [hx] at hd
  have hbn : D.1.bad ≠ 0 := by rw [hd.1]; exact oD q
  have e1 : dH l (aN l 0) = .error (q, p) := by unfold dH; rw [hx]; rfl
  rw [e1, oM _ _ _ _ (fun hh => hbn hh.1)]
  exact bad _ _ q p hd.1 hd.2
 | ok r =>
  obtain ⟨ds, t1⟩ := r
  rw [hx] at hd
  obtain ⟨g1, w1, d1, d2⟩ := hd
  have hr0 : (ds.foldl Ck.decl qR).rules = [] := hdr ds qR
  have cn : ∀ x, cnt (ds.foldl Ck.decl qR) x = 0 := fun x => by unfold cnt; rw [hr0]; rfl
  have u1 : WU D.2.1 (ds.foldl Ck.decl qR) D.1 (yD D.2.1.length) := ⟨w1.1, fun _ => ⟨by simp [yD], ⟨fun _ => rfl, fun _ => cn _⟩, fun x k _ _ => ⟨fun _ => rH _ _, fun _ => cn x⟩, fun x _ _ => cn x, fun k _ => rH _ _⟩⟩
  have hpos : t1.pos <= l.length := by
   obtain ⟨j, hj, rfl⟩ := g1.at'
   have := oO l j hj
   omega
  have hr := aLb hc (L := D.2.1) (TL.length + 1) (l.length + 1) _ D.1 t1 _ g1 u1 d1 d2 (by omega) (by omega)
  generalize Rs.kM l TL D.2.1 (TL.length + 1) D.1 (yD D.2.1.length) = R at *
  cases hy : bY l (l.length + 1) t1 with
  | error r =>
   obtain ⟨q, p⟩ := r
   rw [hy] at hr
   have e1 : dH l (aN l 0) = .error (q, p) := by unfold dH; rw [hx]; show aK (bY l (l.length + 1) t1) _ = _; rw [hy]; rfl
   rw [e1]
   exact bad _ _ q p hr.1 hr.2
  | ok r =>
   obtain ⟨rs, t2⟩ := r
   rw [hy] at hr
   obtain ⟨g2, w2, hRR⟩ := hr
   have e1 : dH l (aN l 0) = qF l ds rs t2 := by unfold dH; rw [hx]; show aK (bY l (l.length + 1) t1) _ = _; rw [hy]; rfl
   rw [e1, g2.cu]
   unfold qF
   by_cases ke : t2.kind = 1
   ·have hB : bD t2 = [101, 110, 100] := by unfold bD; rw [ke]; rfl
    have en : R.1.need t2 [101, 110, 100] = R.1.aG := by unfold Rs.need; rw [if_pos g2.bad, if_pos hB]
    rw [if_pos ke, en]
    have hb : R.1.aG.bad = 0 := g2.bad
    show match (match (jB ds rs).first with | some e => .error e | none => .ok (ds, rs) : Except (Nat × Nat) (List Dc × List (Nat × NP × BT 8))) with | .ok _ => _ | .error (i, p) => _
    have eC : jB ds rs = missS (rs.foldl Ck.rule (ds.foldl Ck.decl qR)) := rfl
    rw [eC]
    generalize rs.foldl Ck.rule (ds.foldl Ck.decl qR) = c at *
    have hcm : (look [109, 105, 115, 115] c.rules).getD 0 = cnt c [109, 105, 115, 115] := rfl
    unfold kF
    rw [if_neg (fun h => h hb)]
    cases hf : c.first with
    | some e =>
     have hm : (missS c).first = some e := by unfold missS; split; exact jO hf _ _; exact hf
     rw [hm]
     unfold WR at w2
     rw [hf] at w2
     have hw : R.1.aG.wrong ≠ 0 := by show R.1.wrong ≠ 0; rw [w2.1]; exact kQ _
     show (if _ then _ else _) = (oK e.1, e.2)
     rw [if_pos hw]
     show (R.1.wrong, R.1.iF) = _
     rw [w2.1, w2.2]
    | none =>
     have hR := hRR hf
     unfold WR at w2
     rw [hf] at w2
     have hw : ¬ R.1.aG.wrong ≠ 0 := fun h => h w2.1
     rw [if_neg hw]
     by_cases hm : R.2.ms = false
     ·have h1 : (missS c).first = some (8, 0) := by unfold missS; rw [hcm, if_pos (hR.tK.2 hm)]; unfold Ck.fault; rw [hf]
      rw [h1, if_pos hm]
      rfl
     ·have h1 : (missS c).first = none := by unfold missS; rw [hcm, if_neg (fun h => hm (hR.tK.1 h))]; exact hf
      rw [h1, if_neg hm]
   ·have hB : ¬ bD t2 = [101, 110, 100] := by
     intro e
     obtain ⟨j, hj, rfl⟩ := g2.at'
     exact ke (aKn l j e)
    have en : R.1.need t2 [101, 110, 100] = R.1.fail 2 t2 := by unfold Rs.need; rw [if_pos g2.bad, if_neg hB]
    rw [if_neg ke, en]
    rfl
end
end Go.Proofs.YtfddoieakfpagaaGreatDoor
