import Derived.Test.YtfddoieakfpagaaGreatDoorGH
import Derived.Test.YtfddoieakfpagaaGreatDoorJT
namespace Go.Proofs.YtfddoieakfpagaaGreatDoor
open Go.RowKit
def wB (x : List UInt8) : Bool := x == [102, 117, 108, 108] || x == [101, 109, 112, 116, 121] || x == [119, 97, 114, 109]
def rcE (c c' : Rc) : Prop := c.op = c'.op /\ c.bH % 2 = c'.bH % 2 /\ (wB c.op = false -> c.a = c'.a /\ c.b = c'.b) /\ (wB c.op = true -> c.n = c'.n)
def rtE (x x' : Rt) : Prop := x.op = x'.op /\ x.tail = x'.tail /\ x.other = x'.other /\ (x.op = [115, 104, 105, 102, 116] -> x.m = x'.m) /\ (x.op ≠ [105, 102] -> x.op ≠ [100, 114, 111, 112] -> x.op ≠ [98, 117, 109, 112] -> x.n = x'.n) /\ (x.op = [105, 102] \/ x.op = [114, 101, 112, 101, 97, 116] -> rcE x.bU x'.bU)
def aHx {α : Type} (P : α -> α -> Prop) : List α -> List α -> Prop
 | [], [] => True
 | a :: l, b :: m => P a b /\ aHx P l m
 | _, _ => False
def qU : (d : Nat) -> RT d -> RT d -> Prop
 | 0, _, _ => True
 | d + 1, xs, ys => aHx (fun (a b : Rt × RT d × RT d) => rtE a.1 b.1 /\ qU d a.2.1 b.2.1 /\ qU d a.2.2 b.2.2) xs ys
theorem vY : ∀ d, qU d (aI d) (aI d)
 | 0 => trivial
 | _ + 1 => trivial
section
variable {l : List UInt8} {TL : List Tok} {L : List DL} {ck : Ck} {s : Rs} {t : Tok}
theorem nS (s : Rs) (l : List UInt8) (t : Tok) (L : List DL) (va : Bool) : (s.bG l t L va).1 = (dV L (bF l t.pos)).getD 0 := by
 unfold Rs.bG
 split
 ·rename_i e; rw [e]; rfl
 ·rename_i k e; rw [e]; rfl
theorem GA.aCc (g : GA l TL s t) (hk : t.kind = 2) : bF l t.pos = t.txt := g.raw (by simp [gW, hk])
theorem aOu (hc : Ch l TL) (g : GA l TL s t) (h : WR L ck s) {v : Vl} {t' : Tok} (hv : bW l t = .ok (v, t')) : (s.val l TL L).1 = aHh L v := by
 have f1 := g.fix [108, 101, 110] (by decide) (by decide) (by decide) (by decide)
 have f2 := g.fix [102, 114, 101, 113] (by decide) (by decide) (by decide) (by decide)
 have hb := g.bad
 unfold bW at hv
 unfold Rs.val
 rw [g.cu]
 by_cases c1 : t.txt = [108, 101, 110]
 ·rw [if_pos c1] at hv
  have hB := f1.2 c1
  have ga := g.step hc (bK hB (by decide) (by decide)) (r := s.aG) hb rfl
  by_cases k2 : (nx l t).kind = 2
  ·rw [if_pos k2] at hv
   cases hv
   rw [if_neg (fun hh => by rw [hB] at hh; exact absurd hh.2 (by decide)), if_pos ⟨hb, hB⟩, ga.cu, nS, ga.aCc k2]
   rfl
  ·rw [if_neg k2] at hv; cases hv
 ·rw [if_neg c1] at hv
  by_cases c2 : t.txt = [102, 114, 101, 113]
  ·rw [if_pos c2] at hv
   cases hv
   have hB := f2.2 c2
   rw [if_neg (fun hh => by rw [hB] at hh; exact absurd hh.2 (by decide)), if_neg (fun hh => by rw [hB] at hh; exact absurd hh.2 (by decide)), if_pos ⟨hb, hB⟩]
   rfl
  ·rw [if_neg c2] at hv
   by_cases k2 : t.kind = 2
   ·rw [if_pos k2] at hv
    cases hv
    have hB := g.name.2 k2
    rw [if_neg (fun hh => by rw [hB] at hh; exact absurd hh.2 (by decide)), if_neg (fun hh => by rw [hB] at hh; exact absurd hh.2 (by decide)), if_neg (fun hh => by rw [hB] at hh; exact absurd hh.2 (by decide)), nS, g.aCc k2]
    rfl
   ·rw [if_neg k2] at hv
    by_cases k3 : t.kind = 3
    ·rw [if_pos k3] at hv
     cases hv
     rw [if_pos ⟨hb, g.num.2 k3⟩, (e_num hc g h k3 0 999).1]
     rfl
    ·rw [if_neg k3] at hv; cases hv
end
section
variable {l : List UInt8} {TL : List Tok} {L : List DL} {ck : Ck} {s : Rs} {t : Tok}
theorem aPq (hc : Ch l TL) (g : GA l TL s t) (h : WR L ck s) {n : Bool} {m : Nat} (hn : n = decide (m % 2 = 1)) {x : Cd} {t' : Tok} (hv : iL l n t = .ok (x, t')) : rcE (s.dF l TL L m).1 (aJs L x) := by
 have hb := g.bad
 have f1 := g.fix [102, 117, 108, 108] (by decide) (by decide) (by decide) (by decide)
 have f2 := g.fix [101, 109, 112, 116, 121] (by decide) (by decide) (by decide) (by decide)
 have f3 := g.fix [119, 97, 114, 109] (by decide) (by decide) (by decide) (by decide)
 have hm : m % 2 = (if n = true then 1 else 0) % 2 := by
  rw [hn]
  by_cases e : m % 2 = 1
  ·simp [e]
  ·simp [e]; omega
 unfold iL at hv
 by_cases c1 : t.txt = [102, 117, 108, 108] \/ t.txt = [101, 109, 112, 116, 121] \/ t.txt = [119, 97, 114, 109]
 ·rw [if_pos c1] at hv
  by_cases k2 : (nx l t).kind = 2
  ·rw [if_pos k2] at hv
   cases hv
   have key : ∀ w : List UInt8, bD t = w -> w ≠ [110, 111, 110, 101] -> w ≠ [101, 110, 100] -> t.txt = w -> wB w = true -> (s.dF l TL L m).1 = ⟨w, (s.aG.bG l (cur TL s.aG) L false).1, ([], 0), ([], 0), m⟩ -> rcE (s.dF l TL L m).1 (aJs L ⟨n, t.txt, np (nx l t), xU, xU⟩) := fun w hB h1 h2 ht hw he => by
    have ga := g.step hc (bK hB h1 h2) (r := s.aG) hb rfl
    rw [he]
    refine ⟨ht.symm, hm, fun e => ?_, fun _ => ?_⟩
    ·exact absurd e (by rw [show (⟨w, (s.aG.bG l (cur TL s.aG) L false).1, ([], 0), ([], 0), m⟩ : Rc).op = w from rfl, hw]; decide)
    ·show (s.aG.bG l (cur TL s.aG) L false).1 = (dV L (nx l t).txt).getD 0
     rw [nS, ga.cu, ga.aCc k2]
   rcases c1 with e | e | e
   ·have hB := f1.2 e
    exact key _ hB (by decide) (by decide) e (by decide) (by unfold Rs.dF; rw [g.cu, if_pos ⟨hb, hB⟩])
   ·have hB := f2.2 e
    exact key _ hB (by decide) (by decide) e (by decide) (by unfold Rs.dF; rw [g.cu, if_neg (fun hh => by rw [hB] at hh; exact absurd hh.2 (by decide)), if_pos ⟨hb, hB⟩])
   ·have hB := f3.2 e
    exact key _ hB (by decide) (by decide) e (by decide) (by unfold Rs.dF; rw [g.cu, if_neg (fun hh => by rw [hB] at hh; exact absurd hh.2 (by decide)), if_neg (fun hh => by rw [hB] at hh; exact absurd hh.2 (by decide)), if_pos ⟨hb, hB⟩])
  ·rw [if_neg k2] at hv; cases hv
 ·rw [if_neg c1] at hv
  have e1 : (s.dF l TL L m).1 = ⟨[60], 0, (s.val l TL L).1, (((s.val l TL L).2.need (cur TL (s.val l TL L).2) [60]).val l TL L).1, m⟩ := by
   unfold Rs.dF
   rw [g.cu, if_neg (fun hh => c1 (Or.inl (f1.1 hh.2))), if_neg (fun hh => c1 (Or.inr (Or.inl (f2.1 hh.2)))), if_neg (fun hh => c1 (Or.inr (Or.inr (f3.1 hh.2))))]
  rw [e1]
  have E1 := e_val (L := L) hc g h
  cases hv1 : bW l t with
  | error e => rw [hv1] at hv; cases hv
  | ok p =>
   obtain ⟨a, t1⟩ := p
   rw [hv1] at hv E1
   obtain ⟨g1, w1⟩ := E1
   simp only at hv
   by_cases c2 : t1.txt = [60]
   ·rw [if_pos c2] at hv
    have E2 := I9 hc g1 w1 [60] (by decide) (by decide) (by decide) (by decide)
    have e2 : dJ [60] l t1 = .ok ((), nx l t1) := by unfold dJ; rw [if_pos c2]
    rw [e2] at E2
    obtain ⟨g2, w2⟩ := E2
    cases hv2 : bW l (nx l t1) with
    | error e => rw [hv2] at hv; cases hv
    | ok p =>
     obtain ⟨b, t2⟩ := p
     rw [hv2] at hv
     cases hv
     have a1 := aOu hc g h hv1
     have a2 : (((s.val l TL L).2.need (cur TL (s.val l TL L).2) [60]).val l TL L).1 = aHh L b := by
      rw [g1.cu]
      exact aOu hc g2 w2 hv2
     rw [a1, a2]
     exact ⟨c2.symm, hm, fun _ => ⟨rfl, rfl⟩, fun e => absurd e (by show ¬ wB [60] = true; decide)⟩
   ·rw [if_neg c2] at hv; cases hv
theorem aOv (hc : Ch l TL) (g : GA l TL s t) (h : WR L ck s) {x : Cd} {t' : Tok} (hv : gZ l t = .ok (x, t')) : rcE (s.bU l TL L).1 (aJs L x) := by
 obtain ⟨g1, w1, hn⟩ := aE3 (ck := ck) (L := L) hc TL.length (l.length + 1) false s t g h (by omega) (by omega)
 unfold gZ at hv
 exact aPq hc g1 w1 (by rw [hn]; simp) hv
theorem aMk {γ : Type} (blk : Rs -> γ × Rs) (nil : γ) (hc : Ch l TL) (g : GA l TL s t) (h : WR L ck s) {x : St} {t' : Tok} (hv : bI l t = .ok (x, t')) : rtE (s.bJ blk nil l TL L).1.1 (eH L x) /\ (s.bJ blk nil l TL L).1.2 = (nil, nil) := by
 have hb := g.bad
 have fx : ∀ x : List UInt8, O8 x = true -> x ≠ [110, 111, 110, 101] /\ x ≠ [101, 110, 100] /\ x ≠ [110, 97, 109, 101] /\ x ≠ [110, 117, 109] /\ x ≠ [] -> (x.all fun c => !dN c) = true -> (bD t = x ↔ t.txt = x) := fun x hx hn hd => g.fix x (by unfold aIi; rw [hx]; rfl) hn hd (Or.inl hx)
 have h0 : WR L ck s.aG := h.same rfl rfl
 have ad : ∀ x, bD t = x -> x ≠ [110, 111, 110, 101] -> x ≠ [101, 110, 100] -> GA l TL s.aG (nx l t) := fun x hB h1 h2 => g.step hc (bK hB h1 h2) (r := s.aG) hb rfl
 have nm : ∀ {l' : List UInt8} {u : Tok} {n : NP} {u' : Tok}, dK l' u = .ok (n, u') -> u.kind = 2 /\ n = np u /\ u' = nx l' u := fun {l' u n u'} hh => by
  unfold dK at hh
  split at hh
  ·rename_i e; cases hh; exact ⟨e, rfl, rfl⟩
  ·cases hh
 have sm : ∀ {y z : St} {u u' : Tok}, iJ l y u = .ok (z, u') -> z = y := fun {y z u u'} hh => by
  unfold iJ at hh
  split at hh
  ·cases hh; rfl
  ·cases hh
 unfold bI at hv
 by_cases c1 : t.txt = [112, 117, 116]
 ·rw [if_pos c1] at hv
  obtain ⟨n, t2, h1, h2⟩ := aB hv
  have e2 := sm h2
  have hB := (fx [112, 117, 116] (by decide) (by decide) (by decide)).2 c1
  have ga := ad _ hB (by decide) (by decide)
  have E1 := qE (L := L) hc ga h0 false
  rw [h1] at E1
  obtain ⟨g1, w1⟩ := E1
  obtain ⟨_, _, ht⟩ := yL hc g1 w1
  obtain ⟨k2, hn, _⟩ := nm h1
  have e1 : (s.bJ blk nil l TL L).1 = (⟨[112, 117, 116], (s.aG.bG l (nx l t) L false).1, 0, decide ((s.aG.bG l (nx l t) L false).2.bad = 0 /\ bD (cur TL (s.aG.bG l (nx l t) L false).2) = [116, 97, 105, 108]), N9, false⟩, nil, nil) := by
   unfold Rs.bJ; rw [g.cu, hB, ga.cu]; rfl
  rw [e1, ht, nS, ga.aCc k2, e2, hn]
  refine ⟨⟨c1.symm, rfl, rfl, fun e => absurd e (by show ¬ [112, 117, 116] = [115, 104, 105, 102, 116]; decide), fun _ _ _ => ?_, fun e => absurd e (by show ¬ ([112, 117, 116] = [105, 102] \/ [112, 117, 116] = [114, 101, 112, 101, 97, 116]); decide)⟩, rfl⟩
  show _ = if t.txt = [114, 101, 112, 101, 97, 116] then _ else _
  rw [if_neg (by rw [c1]; decide)]
  rfl
 rw [if_neg c1] at hv
 by_cases c4 : t.txt = [115, 104, 105, 102, 116]
 ·rw [if_pos c4] at hv
  obtain ⟨n, t2, h1, h2⟩ := aB hv
  obtain ⟨n2, t3, h3, h4⟩ := aB h2
  have e2 := sm h4
  have hB := (fx [115, 104, 105, 102, 116] (by decide) (by decide) (by decide)).2 c4
  have ga := ad _ hB (by decide) (by decide)
  have E1 := qE (L := L) hc ga h0 false
  rw [h1] at E1
  obtain ⟨g1, w1⟩ := E1
  have E2 := qE (L := L) hc g1 w1 false
  rw [h3] at E2
  obtain ⟨g2, w2⟩ := E2
  obtain ⟨_, _, ht⟩ := yL hc g2 w2
  obtain ⟨k2, hn, _⟩ := nm h1
  obtain ⟨k3, hn2, _⟩ := nm h3
  have e1 : (s.bJ blk nil l TL L).1 = (⟨[115, 104, 105, 102, 116], (s.aG.bG l (nx l t) L false).1, ((s.aG.bG l (nx l t) L false).2.bG l (cur TL (s.aG.bG l (nx l t) L false).2) L false).1, decide (((s.aG.bG l (nx l t) L false).2.bG l (cur TL (s.aG.bG l (nx l t) L false).2) L false).2.bad = 0 /\ bD (cur TL ((s.aG.bG l (nx l t) L false).2.bG l (cur TL (s.aG.bG l (nx l t) L false).2) L false).2) = [116, 97, 105, 108]), N9, false⟩, nil, nil) := by
   unfold Rs.bJ; rw [g.cu, hB, ga.cu]; rfl
  rw [e1, g1.cu, ht, nS, nS, ga.aCc k2, g1.aCc k3, e2, hn, hn2]
  refine ⟨⟨c4.symm, rfl, rfl, fun _ => rfl, fun _ _ _ => ?_, fun e => absurd e (by show ¬ ([115, 104, 105, 102, 116] = [105, 102] \/ [115, 104, 105, 102, 116] = [114, 101, 112, 101, 97, 116]); decide)⟩, rfl⟩
  show _ = if t.txt = [114, 101, 112, 101, 97, 116] then _ else _
  rw [if_neg (by rw [c4]; decide)]
  rfl
 rw [if_neg c4] at hv
 by_cases c2 : oN t.txt = true
 ·rw [if_pos c2] at hv
  obtain ⟨n, t2, h1, h2⟩ := aB hv
  have e2 := sm h2
  obtain ⟨k2, hn, _⟩ := nm h1
  have key : ∀ (w : List UInt8) (va : Bool), bD t = w -> w ≠ [110, 111, 110, 101] -> w ≠ [101, 110, 100] -> t.txt = w -> w ≠ [115, 104, 105, 102, 116] -> w ≠ [105, 102] /\ w ≠ [114, 101, 112, 101, 97, 116] -> (GA l TL s.aG (nx l t) -> (s.bJ blk nil l TL L).1 = (⟨w, (s.aG.bG l (nx l t) L va).1, 0, false, N9, false⟩, nil, nil)) -> rtE (s.bJ blk nil l TL L).1.1 (eH L x) /\ (s.bJ blk nil l TL L).1.2 = (nil, nil) := fun w va hB n1 n2 ht n3 n4 he => by
   have ga := ad _ hB n1 n2
   rw [he ga, nS, ga.aCc k2, e2, hn]
   refine ⟨⟨ht.symm, rfl, rfl, fun e => absurd e n3, fun _ _ _ => ?_, fun e => ?_⟩, rfl⟩
   ·show _ = if t.txt = [114, 101, 112, 101, 97, 116] then _ else _
    rw [if_neg (by rw [ht]; exact n4.2)]
    rfl
   ·rcases e with e | e
    ·exact absurd e n4.1
    ·exact absurd e n4.2
  have c3 : t.txt = [101, 118, 105, 99, 116] \/ t.txt = [99, 111, 111, 108] \/ t.txt = [105, 110, 99] \/ t.txt = [100, 101, 99] := by
   unfold oN at c2
   simp only [Bool.or_eq_true, beq_iff_eq] at c2
   rcases c2 with ((e | e) | e) | e
   ·exact Or.inl e
   ·exact Or.inr (Or.inr (Or.inl e))
   ·exact Or.inr (Or.inr (Or.inr e))
   ·exact Or.inr (Or.inl e)
  rcases c3 with e | e | e | e
  ·have hB := (fx [101, 118, 105, 99, 116] (by decide) (by decide) (by decide)).2 e
   exact key _ false hB (by decide) (by decide) e (by decide) (by decide) (fun ga => by unfold Rs.bJ; rw [g.cu, hB, ga.cu]; rfl)
  ·have hB := (fx [99, 111, 111, 108] (by decide) (by decide) (by decide)).2 e
   exact key _ false hB (by decide) (by decide) e (by decide) (by decide) (fun ga => by unfold Rs.bJ; rw [g.cu, hB, ga.cu]; rfl)
  ·have hB := (fx [105, 110, 99] (by decide) (by decide) (by decide)).2 e
   exact key _ true hB (by decide) (by decide) e (by decide) (by decide) (fun ga => by unfold Rs.bJ; rw [g.cu, hB, ga.cu]; rfl)
  ·have hB := (fx [100, 101, 99] (by decide) (by decide) (by decide)).2 e
   exact key _ true hB (by decide) (by decide) e (by decide) (by decide) (fun ga => by unfold Rs.bJ; rw [g.cu, hB, ga.cu]; rfl)
 rw [if_neg c2] at hv
 by_cases c5 : lK t.txt = true
 ·rw [if_pos c5] at hv
  have e2 := sm hv
  have c3 : t.txt = [100, 114, 111, 112] \/ t.txt = [98, 117, 109, 112] := by
   unfold lK at c5
   simpa only [Bool.or_eq_true, beq_iff_eq] using c5
  rcases c3 with e | e
  ·have hB := (fx [100, 114, 111, 112] (by decide) (by decide) (by decide)).2 e
   have e1 : (s.bJ blk nil l TL L).1 = (rt0 [100, 114, 111, 112], nil, nil) := by unfold Rs.bJ; rw [g.cu, hB]; rfl
   rw [e1, e2]
   exact ⟨⟨e.symm, rfl, rfl, fun e => absurd e (by show ¬ [100, 114, 111, 112] = [115, 104, 105, 102, 116]; decide), fun _ e _ => absurd rfl e, fun e => absurd e (by show ¬ ([100, 114, 111, 112] = [105, 102] \/ [100, 114, 111, 112] = [114, 101, 112, 101, 97, 116]); decide)⟩, rfl⟩
  ·have hB := (fx [98, 117, 109, 112] (by decide) (by decide) (by decide)).2 e
   have e1 : (s.bJ blk nil l TL L).1 = (rt0 [98, 117, 109, 112], nil, nil) := by unfold Rs.bJ; rw [g.cu, hB]; rfl
   rw [e1, e2]
   exact ⟨⟨e.symm, rfl, rfl, fun e => absurd e (by show ¬ [98, 117, 109, 112] = [115, 104, 105, 102, 116]; decide), fun _ _ e => absurd rfl e, fun e => absurd e (by show ¬ ([98, 117, 109, 112] = [105, 102] \/ [98, 117, 109, 112] = [114, 101, 112, 101, 97, 116]); decide)⟩, rfl⟩
 ·rw [if_neg c5] at hv; cases hv
end
section
variable {l : List UInt8} {TL : List Tok} {L : List DL} {ck : Ck} {s : Rs} {t : Tok}
def UB (l : List UInt8) (TL : List Tok) (L : List DL) (d : Nat) : Prop := ∀ (ck : Ck) (s : Rs) (t : Tok) (x : BT d) (t' : Tok), GA l TL s t -> WR L ck s -> s.deep + d = 8 -> s.loops <= 2 -> aJ l d s.loops t = .ok (x, t') -> qU d (s.blk l TL L d).1 (aP L d x)
theorem uS (L : List DL) : ∀ d, aP L d (aZ d) = aI d
 | 0 => rfl
 | _ + 1 => rfl
theorem aS5 {d : Nat} (HB : EB l TL L d) (HU : UB l TL L d) (hc : Ch l TL) (g : GA l TL s t) (h : WR L ck s) (hd : s.deep + d = 8) (hlo : s.loops <= 2) (c9 : t.txt = [105, 102]) {r : St × BT d × BT d} {t' : Tok} (hv : dB (aJ l d) (aZ d) l s.loops t = .ok (r, t')) :
  rtE (s.bJ (Rs.blk l TL L d) (aI d) l TL L).1.1 (eH L r.1) /\ qU d (s.bJ (Rs.blk l TL L d) (aI d) l TL L).1.2.1 (aP L d r.2.1) /\ qU d (s.bJ (Rs.blk l TL L d) (aI d) l TL L).1.2.2 (aP L d r.2.2) := by
 have hb := g.bad
 have hB := (g.fix [105, 102] (by decide) (by decide) (by decide) (by decide)).2 c9
 have ga := g.step hc (bK hB (by decide) (by decide)) (r := s.aG) hb rfl
 have h0 : WR L ck s.aG := h.same rfl rfl
 have e2 : dB (aJ l d) (aZ d) l s.loops t = aK (gZ l (nx l t)) fun c t1 => aK (aJ l d s.loops t1) fun x t2 =>
   if t2.txt = [101, 108, 115, 101] then aK (aJ l d s.loops (nx l t2)) fun y t3 => .ok (({ fC t.txt with cond := c, other := true }, x, y), t3)
   else .ok (({ fC t.txt with cond := c }, x, aZ d), t2) := by unfold dB ifS; rw [if_pos c9]
 rw [e2] at hv
 obtain ⟨c, t1, h1, hv⟩ := aB hv
 obtain ⟨x, t2, h2, hv⟩ := aB hv
 have dc := rP s.aG l TL L
 have hcon := aAq (L := L) hc ga h0
 rw [h1] at hcon
 obtain ⟨g1, w1⟩ := hcon
 have uc := aOv hc ga h0 h1
 have e1 : (s.bJ (Rs.blk l TL L d) (aI d) l TL L).1 = if ((s.aG.bU l TL L).2.blk l TL L d).2.bad = 0 /\ bD (cur TL ((s.aG.bU l TL L).2.blk l TL L d).2) = [101, 108, 115, 101] then (⟨[105, 102], 0, 0, false, (s.aG.bU l TL L).1, true⟩, ((s.aG.bU l TL L).2.blk l TL L d).1, (((s.aG.bU l TL L).2.blk l TL L d).2.aG.blk l TL L d).1) else (⟨[105, 102], 0, 0, false, (s.aG.bU l TL L).1, false⟩, ((s.aG.bU l TL L).2.blk l TL L d).1, aI d) := by
  unfold Rs.bJ
  rw [g.cu, hB]
  simp only
  rw [if_neg (by decide), if_neg (by decide), if_neg (by decide), if_neg (by decide), if_neg (by decide), if_pos trivial]
  split <;> rfl
 rw [e1]
 generalize s.aG.bU l TL L = q at *
 have dl1 : q.2.loops = s.loops := dc.2
 have dd1 : q.2.deep = s.deep := dc.1
 have hblk := HB (ck.cond c) q.2 t1 g1 w1 (by omega) (by omega)
 have aMj := HU (ck.cond c) q.2 t1 x t2 g1 w1 (by omega) (by omega) (by rw [dl1]; exact h2)
 have hgb := vX (L := L) hc d q.2 g1.k
 rw [dl1, h2] at hblk
 obtain ⟨g2, w2⟩ := hblk
 generalize q.2.blk l TL L d = p at *
 have f := g2.fix [101, 108, 115, 101] (by decide) (by decide) (by decide) (by decide)
 rw [g2.cu]
 have hrt : ∀ o : Bool, rtE ⟨[105, 102], 0, 0, false, q.1, o⟩ (eH L ⟨t.txt, ([], 0), ([], 0), false, (0, 0), c, o⟩) := fun o => ⟨c9.symm, rfl, rfl, fun e => absurd e (by show ¬ [105, 102] = [115, 104, 105, 102, 116]; decide), fun e => absurd rfl e, fun _ => uc⟩
 by_cases k : t2.txt = [101, 108, 115, 101]
 ·have hBe := f.2 k
  rw [if_pos k] at hv
  rw [if_pos ⟨g2.bad, hBe⟩]
  obtain ⟨y, t3, h3, hv⟩ := aB hv
  cases hv
  have g3 := g2.step hc (bK hBe (by decide) (by decide)) (r := p.2.aG) g2.bad rfl
  have w3 : WR L ((ck.cond c).block d x) p.2.aG := w2.same rfl rfl
  have hl3 : p.2.aG.loops = s.loops := hgb.2.2.trans dl1
  have hd3 : p.2.aG.deep = s.deep := hgb.2.1.trans dd1
  exact ⟨hrt true, aMj, HU _ p.2.aG (nx l t2) y _ g3 w3 (by omega) (by omega) (by rw [hl3]; exact h3)⟩
 ·rw [if_neg k] at hv
  rw [if_neg (fun hh => k (f.1 hh.2))]
  cases hv
  exact ⟨hrt false, aMj, by rw [uS]; exact vY d⟩
theorem aRj {d : Nat} (_HB : EB l TL L d) (HU : UB l TL L d) (hc : Ch l TL) (g : GA l TL s t) (h : WR L ck s) (hd : s.deep + d = 8) (hlo : s.loops <= 2) (c9 : t.txt = [114, 101, 112, 101, 97, 116]) {r : St × BT d × BT d} {t' : Tok} (hv : dB (aJ l d) (aZ d) l s.loops t = .ok (r, t')) :
  rtE (s.bJ (Rs.blk l TL L d) (aI d) l TL L).1.1 (eH L r.1) /\ qU d (s.bJ (Rs.blk l TL L d) (aI d) l TL L).1.2.1 (aP L d r.2.1) /\ qU d (s.bJ (Rs.blk l TL L d) (aI d) l TL L).1.2.2 (aP L d r.2.2) := by
 have hb := g.bad
 have hB := (g.fix [114, 101, 112, 101, 97, 116] (by decide) (by decide) (by decide) (by decide)).2 c9
 have ga := g.step hc (bK hB (by decide) (by decide)) (r := s.aG) hb rfl
 have h0 : WR L ck s.aG := h.same rfl rfl
 have e2 : dB (aJ l d) (aZ d) l s.loops t = pV (aJ l d) (aZ d) l s.loops t := by unfold dB; rw [if_neg (by rw [c9]; decide), if_pos c9]
 rw [e2] at hv
 unfold pV at hv
 by_cases h2 : s.loops = 2
 ·rw [if_pos h2] at hv; cases hv
 rw [if_neg h2] at hv
 obtain ⟨n, t1, v1, hv⟩ := aB hv
 obtain ⟨_, t2, v2, hv⟩ := aB hv
 obtain ⟨c, t3, v3, hv⟩ := aB hv
 obtain ⟨x, t4, v4, hv⟩ := aB hv
 cases hv
 have e0 : (s.bJ (Rs.blk l TL L d) (aI d) l TL L).1 = (⟨[114, 101, 112, 101, 97, 116], (s.aG.num l (nx l t) 1 50).1, 0, false, (((s.aG.num l (nx l t) 1 50).2.need (cur TL (s.aG.num l (nx l t) 1 50).2) [119, 104, 105, 108, 101]).bU l TL L).1, false⟩, (Rs.blk l TL L d { (((s.aG.num l (nx l t) 1 50).2.need (cur TL (s.aG.num l (nx l t) 1 50).2) [119, 104, 105, 108, 101]).bU l TL L).2 with loops := (((s.aG.num l (nx l t) 1 50).2.need (cur TL (s.aG.num l (nx l t) 1 50).2) [119, 104, 105, 108, 101]).bU l TL L).2.loops + 1 }).1, aI d) := by
  unfold Rs.bJ
  rw [g.cu, hB, ga.cu]
  simp only
  rw [if_neg (by decide), if_neg (by decide), if_neg (by decide), if_neg (by decide), if_neg (by decide), if_neg (by decide), if_pos trivial, if_neg h2]
 rw [e0]
 have hnum := aE1 hc ga h0 50
 rw [v1] at hnum
 obtain ⟨g1, w1⟩ := hnum
 have dn := wP s.aG l (nx l t) 1 50
 have hn1 : (s.aG.num l (nx l t) 1 50).1 = n.1 := by
  unfold iV at v1
  split at v1
  ·rename_i k3
   cases v1
   exact (e_num hc ga h0 k3 1 50).1
  ·cases v1
 rw [hn1]
 generalize s.aG.num l (nx l t) 1 50 = q at *
 rw [g1.cu]
 have hnd := aGw hc g1 (fun _ => ck.bound n.1 n.2 50) w1 [119, 104, 105, 108, 101] (by decide) (by decide) (by decide) (by decide) ()
 rw [v2] at hnd
 obtain ⟨g2, w2⟩ := hnd
 have dw := jE q.2 t1 [119, 104, 105, 108, 101]
 generalize q.2.need t1 [119, 104, 105, 108, 101] = s3 at *
 have hcn := aAq (L := L) hc g2 w2
 rw [v3] at hcn
 obtain ⟨g3, w3⟩ := hcn
 have uc := aOv hc g2 w2 v3
 have dc := rP s3 l TL L
 generalize s3.bU l TL L = r at *
 have dl : r.2.loops = s.loops := dc.2.trans (dw.2.trans dn.2)
 have dd : r.2.deep = s.deep := dc.1.trans (dw.1.trans dn.1)
 have g4 : GA l TL { r.2 with loops := r.2.loops + 1 } t3 := ⟨g3.bad, g3.k, g3.cu, g3.at'⟩
 have hl2 : ({ r.2 with loops := r.2.loops + 1 } : Rs).loops = s.loops + 1 := by show r.2.loops + 1 = _; omega
 have aMj := HU ((ck.bound n.1 n.2 50).cond c) { r.2 with loops := r.2.loops + 1 } t3 x _ g4 (w3.same rfl rfl) (by show r.2.deep + d = 8; omega) (by show r.2.loops + 1 <= 2; omega) (by rw [hl2]; exact v4)
 refine ⟨⟨c9.symm, rfl, rfl, fun e => absurd e (by show ¬ [114, 101, 112, 101, 97, 116] = [115, 104, 105, 102, 116]; decide), fun _ _ _ => ?_, fun _ => uc⟩, aMj, by rw [uS]; exact vY d⟩
 show _ = if t.txt = [114, 101, 112, 101, 97, 116] then _ else _
 rw [if_pos c9]
theorem aRi {d : Nat} (HB : EB l TL L d) (HU : UB l TL L d) (hc : Ch l TL) (g : GA l TL s t) (h : WR L ck s) (hd : s.deep + d = 8) (hlo : s.loops <= 2) {r : St × BT d × BT d} {t' : Tok} (hv : dB (aJ l d) (aZ d) l s.loops t = .ok (r, t')) :
  rtE (s.bJ (Rs.blk l TL L d) (aI d) l TL L).1.1 (eH L r.1) /\ qU d (s.bJ (Rs.blk l TL L d) (aI d) l TL L).1.2.1 (aP L d r.2.1) /\ qU d (s.bJ (Rs.blk l TL L d) (aI d) l TL L).1.2.2 (aP L d r.2.2) := by
 by_cases c1 : t.txt = [105, 102]
 ·exact aS5 HB HU hc g h hd hlo c1 hv
 by_cases c2 : t.txt = [114, 101, 112, 101, 97, 116]
 ·exact aRj HB HU hc g h hd hlo c2 hv
 unfold dB at hv
 rw [if_neg c1, if_neg c2] at hv
 obtain ⟨x, t1, h1, hv⟩ := aB hv
 cases hv
 obtain ⟨a1, a2⟩ := aMk (Rs.blk l TL L d) (aI d) hc g h h1
 rw [a2]
 exact ⟨a1, by rw [uS]; exact vY d, by rw [uS]; exact vY d⟩
theorem aJc {d : Nat} (HB : EB l TL L d) (HU : UB l TL L d) (hc : Ch l TL) : ∀ (f1 f2 : Nat) (ck : Ck) (s : Rs) (t : Tok) (xs : List (St × BT d × BT d)) (t' : Tok), GA l TL s t -> WR L ck s -> s.deep + d = 8 -> s.loops <= 2 -> TL.length <= f1 + s.k -> dQ (dB (aJ l d) (aZ d) l s.loops) l f2 t = .ok (xs, t') ->
  qU (d + 1) (gX (fun s => s.bJ (Rs.blk l TL L d) (aI d) l TL L) TL f1 s).1 (aP L (d + 1) xs)
 | 0, _, _, s, _, _, _, g, _, _, _, h1, _ => by have := g.k; omega
 | f1 + 1, 0, _, s, t, _, _, g, _, _, _, _, hv => by cases hv
 | f1 + 1, f2 + 1, ck, s, t, xs, t', g, h, hd, hlo, h1, hv => by
  by_cases k : t.txt = [125]
  ·have hB := g.rbr.2 k
   have e1 : gX (fun s => s.bJ (Rs.blk l TL L d) (aI d) l TL L) TL (f1 + 1) s = ([], s) := wE _ (fun hh => hh.2 (by rw [g.cu]; exact hB))
   have e2 : dQ (dB (aJ l d) (aZ d) l s.loops) l (f2 + 1) t = .ok ([], nx l t) := by unfold dQ; rw [if_pos k]
   rw [e2] at hv
   cases hv
   rw [e1]
   exact trivial
  ·have hB : ¬ bD t = [125] := fun e => k (g.rbr.1 e)
   have e1 : (gX (fun s => s.bJ (Rs.blk l TL L d) (aI d) l TL L) TL (f1 + 1) s).1 = (s.bJ (Rs.blk l TL L d) (aI d) l TL L).1 :: (gX (fun s => s.bJ (Rs.blk l TL L d) (aI d) l TL L) TL f1 (s.bJ (Rs.blk l TL L d) (aI d) l TL L).2).1 := by
    conv => lhs; unfold gX
    rw [g.cu, if_pos ⟨g.bad, hB⟩]
   have e2 : dQ (dB (aJ l d) (aZ d) l s.loops) l (f2 + 1) t = aK (dB (aJ l d) (aZ d) l s.loops t) fun x t1 => aK (dQ (dB (aJ l d) (aZ d) l s.loops) l f2 t1) fun xs t2 => .ok (x :: xs, t2) := by
    conv => lhs; unfold dQ
    rw [if_neg k]
   rw [e2] at hv
   obtain ⟨x, t1, v1, hv⟩ := aB hv
   obtain ⟨ys, t2, v2, hv⟩ := aB hv
   cases hv
   have hst := aK9 HB hc g h hd hlo
   have ust := aRi HB HU hc g h hd hlo v1
   have hgo := aAk (nil := aI d) (L := L) (fun s hk => vX (L := L) hc d s hk) hc g.k
   rw [v1] at hst
   obtain ⟨g1, w1⟩ := hst
   rw [e1]
   generalize s.bJ (Rs.blk l TL L d) (aI d) l TL L = q at *
   have hl : q.2.loops = s.loops := hgo.1.2.2
   have hdp : q.2.deep = s.deep := hgo.1.2.1
   have hk : s.k < q.2.k := by
    rcases hgo.2 with hh | hh
    ·exact absurd g1.bad hh
    ·exact hh
   exact ⟨ust, aJc HB HU hc f1 f2 _ q.2 t1 ys _ g1 w1 (by omega) (by omega) (by omega) (by rw [hl]; exact v2)⟩
theorem aJb (hc : Ch l TL) : ∀ d, UB l TL L d
 | 0 => fun _ _ _ _ _ _ _ _ _ _ => trivial
 | d + 1 => by
  intro ck s t x t' g h hd hlo hv
  have h8 : s.deep ≠ 8 := by omega
  have e0 : s.lQ TL = s := by unfold Rs.lQ; rw [if_neg (fun hh => h8 hh.2)]
  by_cases k : t.txt = [123]
  ·have hB := g.lbr.2 k
   have he := bK hB (by decide) (by decide)
   have e2 := jC l d s.loops t k
   have en : s.need t [123] = s.aG := by unfold Rs.need; rw [if_pos g.bad, if_pos hB]
   have e1 : s.opn TL = { s.aG with deep := s.aG.deep + 1 } := by unfold Rs.opn; rw [e0, g.cu, en]
   have g1 : GA l TL (s.opn TL) (nx l t) := by rw [e1]; exact g.step hc he g.bad rfl
   have w1 : WR L ck (s.opn TL) := by rw [e1]; exact h.same rfl rfl
   have hl1 : (s.opn TL).loops = s.loops := by rw [e1]; rfl
   have hd1 : (s.opn TL).deep = s.deep + 1 := by rw [e1]; rfl
   rw [e2] at hv
   exact aJc (aE2 hc d) (aJb hc d) hc TL.length _ ck (s.opn TL) (nx l t) x t' g1 w1 (by omega) (by omega) (by omega) (by rw [hl1]; exact hv)
  ·have e2 : aJ l (d + 1) s.loops t = .error (false, t.pos) := if_neg k
   rw [e2] at hv
   cases hv
end
section
variable {l : List UInt8} {TL : List Tok} {L : List DL} {ck : Ck} {s : Rs} {t : Tok} {p : Pm}
theorem aGb (g : GA l TL s t) (k3 : t.kind = 3) (a b : Nat) : (s.num l t a b).1 = fV t.txt 0 := by
 have hB := g.num.2 k3
 have he := bK hB (by decide) (by decide)
 have hn : (s.need t [110, 117, 109]).bad = 0 := by unfold Rs.need; rw [if_pos g.bad, if_pos hB]; exact g.bad
 unfold Rs.num
 simp only [hn, if_true, g.raw he]
theorem D6 (s : Rs) (e p : Nat) (h : s.bad = 0) : (s.note e p).bad = 0 := by unfold Rs.note; split <;> exact h
theorem aAe (s : Rs) (e p : Nat) : (s.note e p).k = s.k := by unfold Rs.note; split <;> rfl
theorem aGc {n : Nat × Nat} {t' : Tok} (h : iV l t = .ok (n, t')) : t.kind = 3 /\ n.1 = fV t.txt 0 := by
 unfold iV at h
 split at h
 ·rename_i e; cases h; exact ⟨e, rfl⟩
 ·cases h
theorem aPo (hc : Ch l TL) (g : GA l TL s t) (c : t.txt = [113, 117, 101, 117, 101] \/ t.txt = [103, 104, 111, 115, 116] \/ t.txt = [118, 97, 114]) {d : Dc} {t' : Tok} (hv : eX l t = .ok (d, t')) : (s.jV l TL L t.txt).1 = nO d /\ d.word = t.txt := by
 have hB : bD t = t.txt := by
  rcases c with c | c | c
  ·rw [c]; exact (g.fix [113, 117, 101, 117, 101] (by decide) (by decide) (by decide) (by decide)).2 c
  ·rw [c]; exact (g.fix [103, 104, 111, 115, 116] (by decide) (by decide) (by decide) (by decide)).2 c
  ·rw [c]; exact (g.fix [118, 97, 114] (by decide) (by decide) (by decide) (by decide)).2 c
 have hnf : t.txt ≠ [102, 114, 101, 113] := by rcases c with c | c | c <;> rw [c] <;> decide
 have he : gW t = false := by rcases c with c | c | c <;> exact bK (hB.trans c) (by decide) (by decide)
 have g1 : GA l TL s.aG (nx l t) := g.step hc he g.bad rfl
 unfold eX at hv
 rw [if_neg hnf] at hv
 obtain ⟨m, t1, h1, hv⟩ := aB hv
 obtain ⟨n, t2, h2, hv⟩ := aB hv
 obtain ⟨_, t3, _, hv⟩ := aB hv
 cases hv
 have k2 : (nx l t).kind = 2 /\ m = np (nx l t) /\ t1 = nx l (nx l t) := by
  unfold dK at h1
  split at h1
  ·rename_i e; cases h1; exact ⟨e, rfl, rfl⟩
  ·cases h1
 obtain ⟨k2, rfl, rfl⟩ := k2
 obtain ⟨k3, hn⟩ := aGc h2
 have hN := g1.name.2 k2
 have he2 : gW (nx l t) = false := by simp [gW, k2]
 have en : s.aG.need (nx l t) [110, 97, 109, 101] = s.aG.aG := by unfold Rs.need; rw [if_pos g1.bad, if_pos hN]
 have hb2 : (s.kR l TL L).bad = 0 /\ (s.kR l TL L).k = s.k + 2 := by
  unfold Rs.kR
  rw [g1.cu, en]
  split
  ·exact ⟨D6 _ _ _ g.bad, aAe _ _ _⟩
  ·exact ⟨g.bad, rfl⟩
 have hb3 : (s.fA l TL L).bad = 0 /\ (s.fA l TL L).k = s.k + 2 := by
  unfold Rs.fA
  split
  ·exact ⟨D6 _ _ _ hb2.1, (aAe _ _ _).trans hb2.2⟩
  ·exact hb2
 have g3 : GA l TL (s.fA l TL L) (nx l (nx l t)) := g1.step hc he2 hb3.1 hb3.2
 refine ⟨?_, rfl⟩
 unfold Rs.jV
 simp only
 rw [g3.cu, aGb g3 k3, g1.cu, g1.aCc k2, <- hn]
 rfl
theorem aPp (hc : Ch l TL) (g : GA l TL s t) (c : t.txt = [102, 114, 101, 113]) {d : Dc} {t' : Tok} (hv : eX l t = .ok (d, t')) : (s.lY l TL).1 = d.num.1 /\ d.word = [102, 114, 101, 113] := by
 have hB := (g.fix [102, 114, 101, 113] (by decide) (by decide) (by decide) (by decide)).2 c
 have he := bK hB (by decide) (by decide)
 unfold eX at hv
 rw [if_pos c] at hv
 obtain ⟨n, t1, h1, hv⟩ := aB hv
 obtain ⟨_, t2, _, hv⟩ := aB hv
 cases hv
 obtain ⟨k3, hn⟩ := aGc h1
 have hb0 : (s.eF TL).bad = 0 /\ (s.eF TL).k = s.k + 1 := by
  unfold Rs.eF
  split
  ·exact ⟨D6 _ _ _ g.bad, aAe _ _ _⟩
  ·exact ⟨g.bad, rfl⟩
 have g1 : GA l TL (s.eF TL) (nx l t) := g.step hc he hb0.1 hb0.2
 refine ⟨?_, c⟩
 unfold Rs.lY
 simp only
 rw [g1.cu, aGb g1 k3, <- hn]
def frq (m : Nat) (d : Dc) : Nat := if d.word = [102, 114, 101, 113] then d.num.1 else m
theorem uI (d : Dc) (ds : List Dc) : aV (d :: ds) = if d.word = [102, 114, 101, 113] then aV ds else nO d :: aV ds := by
 unfold aV
 by_cases e : d.word = [102, 114, 101, 113]
 ·simp [e]
 ·rw [if_neg e, List.filter_cons, if_pos (by simpa using e)]
  rfl
theorem aDq (hc : Ch l TL) : ∀ (f1 f2 : Nat) (ck : Ck) (s : Rs) (t : Tok) (L : List DL) (fr : Nat) (ds : List Dc) (t' : Tok), GA l TL s t -> WD L ck s -> s.deep = 0 -> s.loops = 0 -> TL.length <= f1 + s.k -> dD l f2 t = .ok (ds, t') ->
  (Rs.dZ l TL f1 s L fr).2 = (L ++ aV ds, ds.foldl frq fr)
 | 0, _, _, s, _, _, _, _, _, g, _, _, _, h1, _ => by have := g.k; omega
 | f1 + 1, 0, _, s, t, _, _, _, _, g, _, _, _, _, hv => by cases hv
 | f1 + 1, f2 + 1, ck, s, t, L, fr, ds, t', g, h, hd, hlo, h1, hv => by
  by_cases k : iD t.txt = true
  ·have hBd := g.decl.2 k
   have e2 : dD l (f2 + 1) t = aK (eX l t) fun d t1 => aK (dD l f2 t1) fun ds t2 => .ok (d :: ds, t2) := by
    conv => lhs; unfold dD
    rw [if_pos k]
   rw [e2] at hv
   obtain ⟨d, t1, v1, hv⟩ := aB hv
   obtain ⟨ds1, t2, v2, hv⟩ := aB hv
   cases hv
   by_cases kf : t.txt = [102, 114, 101, 113]
   ·have hB : bD t = [102, 114, 101, 113] := (g.fix [102, 114, 101, 113] (by decide) (by decide) (by decide) (by decide)).2 kf
    have hka : s.aG.k < TL.length := (g.step hc (bK hB (by decide) (by decide)) (r := s.aG) g.bad rfl).k
    have e1 : Rs.dZ l TL (f1 + 1) s L fr = Rs.dZ l TL f1 (s.lY l TL).2 L (s.lY l TL).1 := by
     conv => lhs; unfold Rs.dZ
     rw [g.cu, if_pos ⟨g.bad, hBd⟩, if_pos hB]
    have hst := aGy hc g h kf
    have hg := aAp hc hka
    obtain ⟨u1, u2⟩ := aPp hc g kf v1
    rw [v1] at hst
    rw [e1, u1]
    generalize s.lY l TL = q at *
    have hk1 : s.k + 1 <= q.2.k := hg.1.1
    rw [aDq hc f1 f2 (ck.decl d) q.2 t1 L d.num.1 ds1 _ hst.1 hst.2 (hg.2.1.trans hd) (hg.2.2.trans hlo) (by omega) v2, uI, if_pos u2, List.foldl_cons]
    unfold frq
    rw [if_pos u2]
   ·have kn : t.txt = [113, 117, 101, 117, 101] \/ t.txt = [103, 104, 111, 115, 116] \/ t.txt = [118, 97, 114] := by
     rcases (oW _).1 k with h | h
     ·exact h
     ·exact absurd h kf
    obtain ⟨hB, hst⟩ := aGx hc g h kn
    have he : gW t = false := by rcases kn with c | c | c <;> exact bK (hB.trans c) (by decide) (by decide)
    have hka : s.aG.k < TL.length := (g.step hc he (r := s.aG) g.bad rfl).k
    have e1 : Rs.dZ l TL (f1 + 1) s L fr = Rs.dZ l TL f1 (s.jV l TL L t.txt).2 (L ++ [(s.jV l TL L t.txt).1]) fr := by
     conv => lhs; unfold Rs.dZ
     rw [g.cu, if_pos ⟨g.bad, hBd⟩, hB, if_neg kf]
    have hg := aAo (L := L) hc hka t.txt
    obtain ⟨u1, u2⟩ := aPo (L := L) hc g kn v1
    rw [v1] at hst
    rw [e1]
    have hk1 : s.k + 1 <= (s.jV l TL L t.txt).2.k := hg.1.1
    rw [aDq hc f1 f2 (ck.decl d) (s.jV l TL L t.txt).2 t1 (L ++ [(s.jV l TL L t.txt).1]) fr ds1 _ hst.1 hst.2 (hg.2.1.trans hd) (hg.2.2.trans hlo) (by omega) v2, u1, uI, if_neg (by rw [u2]; exact kf), List.foldl_cons]
    unfold frq
    rw [if_neg (by rw [u2]; exact kf)]
    simp
  ·have hBd : ¬ iD (bD t) = true := fun e => k (g.decl.1 e)
   have e2 : dD l (f2 + 1) t = .ok ([], t) := by unfold dD; rw [if_neg k]
   rw [e2] at hv
   cases hv
   rw [oV _ _ _ _ (fun hh => hBd (by rw [<- g.cu]; exact hh.2))]
   simp [aV]
def I8 (L : List DL) (r : Nat × NP × BT 8) : Bool × Nat := if r.2.1.1 = [109, 105, 115, 115] then (true, 0) else (false, (dV L r.2.1.1).getD 0)
theorem aPm (hc : Ch l TL) (g : GA l TL s t) (h : WU L ck s p) (hd : s.deep = 0) (hlo : s.loops = 0) (c : t.txt = [111, 110]) {r : Nat × NP × BT 8} {t' : Tok} (hv : gV l t = .ok (r, t')) : ∃ T, qU 8 T (aP L 8 r.2.2) /\ (s.dS l TL L p).1 = p.step (I8 L r) T := by
 have hB : bD t = [111, 110] := (g.fix [111, 110] (by decide) (by decide) (by decide) (by decide)).2 c
 have he := bK hB (by decide) (by decide)
 have g1 : GA l TL s.aG (nx l t) := g.step hc he g.bad rfl
 have h1 : WU L ck s.aG p := ⟨h.1.same rfl rfl, h.2⟩
 unfold gV at hv
 obtain ⟨n, t1, v1, hv⟩ := aB hv
 obtain ⟨x, t2, v2, hv⟩ := aB hv
 cases hv
 have rest : ∀ (n : NP), GA l TL (s.jI l TL L p) t1 -> WR L ((ck.fO t.pos n).rule2 n) (s.jI l TL L p) -> qU 8 (Rs.blk l TL L 8 (s.jI l TL L p)).1 (aP L 8 x) := fun n gB wB => by
  have g3 := yI (L := L) hc g1.k p
  have hdB : (s.jI l TL L p).deep = 0 := g3.2.1.trans hd
  have hlB : (s.jI l TL L p).loops = 0 := g3.2.2.trans hlo
  exact aJb (L := L) hc 8 _ (s.jI l TL L p) t1 x _ gB wB (by omega) (by omega) (by rw [hlB]; exact v2)
 by_cases k : (nx l t).txt = [109, 105, 115, 115]
 ·have hM : bD (nx l t) = [109, 105, 115, 115] := (g1.fix [109, 105, 115, 115] (by decide) (by decide) (by decide) (by decide)).2 k
  have he2 := bK hM (by decide) (by decide)
  have eA : s.nG l TL L = ((true, 0), s.aG.aG) := by unfold Rs.nG; rw [if_pos ⟨g.bad, by rw [g1.cu]; exact hM⟩]
  have eB : s.jI l TL L p = if p.ms = true then s.aG.aG.note 8 t.pos else s.aG.aG := by unfold Rs.jI; rw [eA, g.cu]; rfl
  have h2 : WU L ck s.aG.aG p := ⟨h.1.same rfl rfl, h.2⟩
  obtain ⟨w2, b2, k2⟩ := aO7 h2 g.bad t.pos (nx l t).pos _ eB
  have hnp : np (nx l t) = ([109, 105, 115, 115], (nx l t).pos) := by unfold np; rw [k]
  have hev : iP l (nx l t) = .ok (([109, 105, 115, 115], (nx l t).pos), nx l (nx l t)) := by unfold iP; rw [if_pos k, hnp]
  rw [hev] at v1
  cases v1
  refine ⟨_, rest _ (g1.step hc he2 b2 k2) w2, ?_⟩
  unfold Rs.dS
  rw [eA]
  rfl
 ·have hM : bD (nx l t) ≠ [109, 105, 115, 115] := fun e => k ((g1.fix [109, 105, 115, 115] (by decide) (by decide) (by decide) (by decide)).1 e)
  have eA : s.nG l TL L = ((false, (s.aG.bG l (nx l t) L false).1), (s.aG.bG l (nx l t) L false).2) := by
   unfold Rs.nG
   rw [if_neg (fun hh => hM (by rw [<- g1.cu]; exact hh.2)), g1.cu]
  have eB : s.jI l TL L p = if p.twice (false, (s.aG.bG l (nx l t) L false).1) = true then (s.aG.bG l (nx l t) L false).2.note 8 t.pos else (s.aG.bG l (nx l t) L false).2 := by unfold Rs.jI; rw [eA, g.cu]
  unfold iP at v1
  rw [if_neg k] at v1
  have k2 : (nx l t).kind = 2 /\ n = np (nx l t) /\ t1 = nx l (nx l t) := by
   unfold dK at v1
   split at v1
   ·rename_i e; cases v1; exact ⟨e, rfl, rfl⟩
   ·cases v1
  obtain ⟨k2, rfl, rfl⟩ := k2
  have he2 : gW (nx l t) = false := by simp [gW, k2]
  have hraw := g1.raw he2
  obtain ⟨w2, b2, q2⟩ := aO6 h1 g.bad k2 hraw k t.pos _ eB
  refine ⟨_, rest _ (g1.step hc he2 b2 q2) w2, ?_⟩
  unfold Rs.dS
  rw [eA]
  unfold I8
  rw [if_neg (by exact k)]
  show p.step (false, (s.aG.bG l (nx l t) L false).1) _ = p.step (false, (dV L (nx l t).txt).getD 0) _
  rw [nS, hraw]
def Pms (L : List DL) : Pm -> List (Nat × NP × BT 8) -> Pm -> Prop
 | p, [], p' => p' = p
 | p, r :: rs, p' => ∃ T, qU 8 T (aP L 8 r.2.2) /\ Pms L (p.step (I8 L r) T) rs p'
theorem aJd (hc : Ch l TL) {L : List DL} : ∀ (f1 f2 : Nat) (ck : Ck) (s : Rs) (t : Tok) (p : Pm) (rs : List (Nat × NP × BT 8)) (t' : Tok), GA l TL s t -> WU L ck s p -> s.deep = 0 -> s.loops = 0 -> TL.length <= f1 + s.k -> bY l f2 t = .ok (rs, t') -> Pms L p rs (Rs.kM l TL L f1 s p).2
 | 0, _, _, s, _, _, _, _, g, _, _, _, h1, _ => by have := g.k; omega
 | f1 + 1, 0, _, s, t, _, _, _, g, _, _, _, _, hv => by cases hv
 | f1 + 1, f2 + 1, ck, s, t, p, rs, t', g, h, hd, hlo, h1, hv => by
  by_cases k : t.txt = [111, 110]
  ·have hB : bD t = [111, 110] := (g.fix [111, 110] (by decide) (by decide) (by decide) (by decide)).2 k
   have e2 : bY l (f2 + 1) t = aK (gV l t) fun d t1 => aK (bY l f2 t1) fun ds t2 => .ok (d :: ds, t2) := by
    conv => lhs; unfold bY
    rw [if_pos k]
   rw [e2] at hv
   obtain ⟨r, t1, v1, hv⟩ := aB hv
   obtain ⟨rs1, t2, v2, hv⟩ := aB hv
   cases hv
   have hka : s.aG.k < TL.length := (g.step hc (bK hB (by decide) (by decide)) (r := s.aG) g.bad rfl).k
   have e1 : Rs.kM l TL L (f1 + 1) s p = Rs.kM l TL L f1 (s.dS l TL L p).2 (s.dS l TL L p).1 := by
    conv => lhs; unfold Rs.kM
    rw [g.cu, if_pos ⟨g.bad, hB⟩]
   have hst := aLc hc g h hd hlo k
   have hg := aEl (L := L) hc hka p
   obtain ⟨T, hT, hs⟩ := aPm hc g h hd hlo k v1
   rw [v1] at hst
   rw [e1]
   have hk1 : s.k + 1 <= (s.dS l TL L p).2.k := hg.1.1
   refine ⟨T, hT, ?_⟩
   rw [<- hs]
   exact aJd hc f1 f2 (ck.rule r) (s.dS l TL L p).2 t1 (s.dS l TL L p).1 rs1 _ hst.1 hst.2 (hg.2.1.trans hd) (hg.2.2.trans hlo) (by omega) v2
  ·have hB : ¬ bD t = [111, 110] := fun e => k ((g.fix [111, 110] (by decide) (by decide) (by decide) (by decide)).1 e)
   have e2 : bY l (f2 + 1) t = .ok ([], t) := by unfold bY; rw [if_neg k]
   rw [e2] at hv
   cases hv
   rw [oM _ _ _ _ (fun hh => hB (by rw [<- g.cu]; exact hh.2))]
   rfl
end
section
variable {l : List UInt8} {TL : List Tok} {L : List DL}
theorem aPn (hc : Ch l TL) (h0 : TL[0]? = some (aN l 0)) {x : List Dc × List (Nat × NP × BT 8)} (hx : dM l = .ok x) : (qZ l TL).2.1 = (aV x.1, x.1.foldl frq 0) /\ Pms (aV x.1) (yD (aV x.1).length) x.2 (qZ l TL).2.2 := by
 have hk0 : 0 < TL.length := (List.getElem?_eq_some_iff.1 h0).1
 have g0 : GA l TL nN (aN l 0) := ⟨rfl, hk0, by
  have := aT (TL := TL) (s := nN) hk0
  rw [show nN.k = 0 from rfl, h0] at this
  exact (Option.some.inj this).symm, 0, Nat.zero_le _, rfl⟩
 have w0 : WD [] qR nN := ⟨⟨rfl, fun x => rfl⟩, fun _ => ⟨rfl, rfl⟩⟩
 have hd := aAr hc (TL.length + 1) (l.length + 1) qR nN (aN l 0) [] 0 g0 w0 rfl rfl (by omega) (by omega)
 unfold dM at hx
 split at hx
 ·cases hx
 split at hx
 ·cases hx
 rename_i y t2 hp
 split at hx
 ·cases hx
 cases hx
 unfold dH at hp
 obtain ⟨ds, t1, v1, hp⟩ := aB hp
 obtain ⟨rs, t3, v2, hp⟩ := aB hp
 have hxy : x = (ds, rs) := by
  unfold qF at hp
  split at hp
  ·cases hp; rfl
  ·cases hp
 subst hxy
 have ud := aDq hc (TL.length + 1) (l.length + 1) qR nN (aN l 0) [] 0 ds t1 g0 w0 rfl rfl (by omega) v1
 rw [List.nil_append] at ud
 rw [v1] at hd
 obtain ⟨g1, w1, d1, d2⟩ := hd
 have hr0 : (ds.foldl Ck.decl qR).rules = [] := xB ds qR
 have cn : ∀ x, cnt (ds.foldl Ck.decl qR) x = 0 := fun x => by unfold cnt; rw [hr0]; rfl
 have eR : (qZ l TL).2 = ((Rs.dZ l TL (TL.length + 1) nN [] 0).2, (Rs.kM l TL (Rs.dZ l TL (TL.length + 1) nN [] 0).2.1 (TL.length + 1) (Rs.dZ l TL (TL.length + 1) nN [] 0).1 (yD (Rs.dZ l TL (TL.length + 1) nN [] 0).2.1.length)).2) := rfl
 rw [eR]
 generalize Rs.dZ l TL (TL.length + 1) nN [] 0 = D at *
 obtain ⟨D1, D2⟩ := D
 simp only at ud
 subst ud
 have u1 : WU (aV ds) (ds.foldl Ck.decl qR) D1 (yD (aV ds).length) := ⟨w1.1, fun _ => ⟨by simp [yD], ⟨fun _ => rfl, fun _ => cn _⟩, fun x k _ _ => ⟨fun _ => rH _ _, fun _ => cn x⟩, fun x _ _ => cn x, fun k _ => rH _ _⟩⟩
 exact ⟨rfl, aJd hc (TL.length + 1) (l.length + 1) _ D1 t1 _ rs t3 g1 u1 d1 d2 (by omega) v2⟩
theorem aBn (p : Pm) (e : Bool × Nat) (T : RT 8) : (p.step e T).has.length = p.has.length /\ (p.step e T).dS.length = p.dS.length := by
 unfold Pm.step
 split
 ·exact ⟨rfl, rfl⟩
 ·split
  ·simp
  ·exact ⟨rfl, rfl⟩
theorem wZ {rs : List (Nat × NP × BT 8)} {ev : List UInt8} (h : ev ∉ rs.map fun r => r.2.1.1) : dO rs ev = none := by
 induction rs with
 | nil => rfl
 | cons r rs ih =>
  simp at h
  rw [iU, if_neg (fun e => h.1 e.symm)]
  exact ih (by simpa using h.2)
theorem aBz : ∀ (rs : List (Nat × NP × BT 8)) (p p' : Pm), Pms L p rs p' -> (rs.map fun r => r.2.1.1).Nodup -> match dO rs [109, 105, 115, 115] with
  | some b => p'.ms = true /\ qU 8 p'.tK (aP L 8 b)
  | none => p'.ms = p.ms /\ p'.tK = p.tK
 | [], p, p', h, _ => by
  have h : p' = p := h
  subst h
  exact ⟨rfl, rfl⟩
 | r :: rs, p, p', h, hn => by
  obtain ⟨T, hT, h⟩ := h
  rw [List.map_cons, List.nodup_cons] at hn
  have ih := aBz rs _ p' h hn.2
  rw [iU]
  by_cases e : r.2.1.1 = [109, 105, 115, 115]
  ·rw [wZ (e ▸ hn.1)] at ih
   rw [if_pos e]
   have e2 : I8 L r = (true, 0) := by unfold I8; rw [if_pos e]
   rw [e2] at ih
   exact ⟨ih.1, by rw [ih.2]; exact hT⟩
  ·rw [if_neg e]
   have e2 : I8 L r = (false, (dV L r.2.1.1).getD 0) := by unfold I8; rw [if_neg e]
   have e3 : (p.step (I8 L r) T).ms = p.ms /\ (p.step (I8 L r) T).tK = p.tK := by
    rw [e2]
    unfold Pm.step
    rw [if_neg (by simp)]
    split <;> exact ⟨rfl, rfl⟩
   cases hr : dO rs [109, 105, 115, 115] with
   | some b => rw [hr] at ih; exact ih
   | none => rw [hr] at ih; exact ⟨ih.1.trans e3.1, ih.2.trans e3.2⟩
theorem sO {α : Type} (l : List α) (k j : Nat) (v z : α) (hk : k < l.length) : (l.set k v).getD j z = if k = j then v else l.getD j z := by
 rw [List.getD_eq_getElem?_getD, List.getD_eq_getElem?_getD, List.getElem?_set]
 split
 ·rename_i e; subst e; simp []
 ·rfl
theorem aF6 (uq : ∀ (k : Nat) d (k' : Nat) d', L[k]? = some d -> L[k']? = some d' -> d.2.1 = d'.2.1 -> k = k') {k : Nat} {d : DL} (hk : L[k]? = some d) (hm : d.2.1 ≠ [109, 105, 115, 115]) : ∀ (rs : List (Nat × NP × BT 8)) (p p' : Pm), Pms L p rs p' -> (rs.map fun r => r.2.1.1).Nodup -> (∀ r ∈ rs, r.2.1.1 = [109, 105, 115, 115] \/ ∃ (k : Nat) (d : DL), L[k]? = some d /\ d.2.1 = r.2.1.1) -> p.has.length = L.length -> p.dS.length = L.length -> match dO rs d.2.1 with
  | some b => p'.has.getD k false = true /\ qU 8 (p'.dS.getD k (aI 8)) (aP L 8 b)
  | none => p'.has.getD k false = p.has.getD k false /\ p'.dS.getD k (aI 8) = p.dS.getD k (aI 8)
 | [], p, p', h, _, _, _, _ => by
  have h : p' = p := h
  subst h
  exact ⟨rfl, rfl⟩
 | r :: rs, p, p', h, hn, hd, hl1, hl2 => by
  obtain ⟨T, hT, h⟩ := h
  rw [List.map_cons, List.nodup_cons] at hn
  have hsl := aBn p (I8 L r) T
  have ih := aF6 uq hk hm rs _ p' h hn.2 (fun r hr => hd r (by simp [hr])) (hsl.1.trans hl1) (hsl.2.trans hl2)
  rw [iU]
  have hkl : k < L.length := (List.getElem?_eq_some_iff.1 hk).1
  by_cases e : r.2.1.1 = d.2.1
  ·rw [wZ (e ▸ hn.1)] at ih
   rw [if_pos e]
   have e2 : I8 L r = (false, k) := by
    unfold I8
    rw [if_neg (by rw [e]; exact hm), e, aEf uq hk]
    rfl
   have e3 : p.step (I8 L r) T = { p with has := p.has.set k true, dS := p.dS.set k T } := by
    rw [e2]
    unfold Pm.step
    rw [if_neg (by simp), if_pos (by show k < p.has.length; omega)]
   rw [e3] at ih
   refine ⟨ih.1.trans ?_, ?_⟩
   ·show (p.has.set k true).getD k false = true
    rw [sO _ _ _ _ _ (by omega), if_pos rfl]
   ·rw [ih.2]
    show qU 8 ((p.dS.set k T).getD k (aI 8)) _
    rw [sO _ _ _ _ _ (by omega), if_pos rfl]
    exact hT
  ·rw [if_neg e]
   have e3 : (p.step (I8 L r) T).has.getD k false = p.has.getD k false /\ (p.step (I8 L r) T).dS.getD k (aI 8) = p.dS.getD k (aI 8) := by
    rcases hd r (by simp) with hr | ⟨k', d', hk', hd'⟩
    ·have e2 : I8 L r = (true, 0) := by unfold I8; rw [if_pos hr]
     rw [e2]
     exact ⟨rfl, rfl⟩
    ·by_cases hr : r.2.1.1 = [109, 105, 115, 115]
     ·have e2 : I8 L r = (true, 0) := by unfold I8; rw [if_pos hr]
      rw [e2]
      exact ⟨rfl, rfl⟩
     ·have e2 : I8 L r = (false, k') := by
       unfold I8
       rw [if_neg hr, <- hd', aEf uq hk']
       rfl
      have hkl' : k' < L.length := (List.getElem?_eq_some_iff.1 hk').1
      have hne : k' ≠ k := fun e4 => by
       subst e4
       rw [hk] at hk'
       cases hk'
       exact e hd'.symm
      have e4 : p.step (I8 L r) T = { p with has := p.has.set k' true, dS := p.dS.set k' T } := by
       rw [e2]
       unfold Pm.step
       rw [if_neg (by simp), if_pos (by show k' < p.has.length; omega)]
      rw [e4]
      refine ⟨?_, ?_⟩
      ·show (p.has.set k' true).getD k false = _
       rw [sO _ _ _ _ _ (by omega), if_neg hne]
      ·show (p.dS.set k' T).getD k (aI 8) = _
       rw [sO _ _ _ _ _ (by omega), if_neg hne]
   cases hr : dO rs d.2.1 with
   | some b => rw [hr] at ih; exact ih
   | none => rw [hr] at ih; exact ⟨ih.1.trans e3.1, ih.2.trans e3.2⟩
theorem aPt (l : List UInt8) (j : Nat) (h : (aN l j).kind = 2) : O8 (aN l j).txt = false := by
 unfold aN at h ⊢
 split at h
 ·simp at h
 ·rename_i c r hd
  split at h
  ·rename_i e1
   rw [if_pos e1]
   unfold jW at h ⊢
   split at h
   ·simp at h
   ·rename_i e2
    rw [if_neg e2]
    split at h
    ·simp at h
    ·rename_i e3
     rw [if_neg e3]
     simpa using e3
  ·split at h
   ·unfold qG at h
    split at h <;> simp at h
   ·split at h <;> simp at h
theorem aCt : ∀ (f : Nat) (t : Tok) (ds : List Dc) (t' : Tok), dD l f t = .ok (ds, t') -> ∀ d ∈ aV ds, O8 d.2.1 = false
 | 0, _, _, _, h => by cases h
 | f + 1, t, ds, t', h => by
  unfold dD at h
  split at h
  ·obtain ⟨d, t1, h1, h⟩ := aB h
   obtain ⟨ds1, t2, h2, h⟩ := aB h
   cases h
   have ih := aCt f t1 ds1 _ h2
   rw [uI]
   by_cases e : d.word = [102, 114, 101, 113]
   ·rw [if_pos e]; exact ih
   ·rw [if_neg e]
    intro x hx
    rcases List.mem_cons.1 hx with rfl | hx
    ·unfold eX at h1
     split at h1
     ·rename_i e2
      obtain ⟨n, t3, _, h1⟩ := aB h1
      obtain ⟨_, t4, _, h1⟩ := aB h1
      cases h1
      exact absurd e2 e
     ·obtain ⟨m, t3, h3, h1⟩ := aB h1
      obtain ⟨n, t4, _, h1⟩ := aB h1
      obtain ⟨_, t5, _, h1⟩ := aB h1
      cases h1
      unfold dK at h3
      split at h3
      ·rename_i k2
       cases h3
       exact aPt l _ k2
      ·cases h3
    ·exact ih x hx
  ·cases h
   intro d hd
   cases hd
structure aDf (L : List DL) (p : Pm) (P : Pol) : Prop where
 hl : p.has.length = L.length /\ p.dS.length = L.length
 q : ∀ (k : Nat) (d : DL), L[k]? = some d -> p.has.getD k false = (P.dS d.2.1).isSome /\ qU 8 (p.dS.getD k (aI 8)) (P.tree d.2.1)
 m : p.ms = true /\ qU 8 p.tK (P.tree [109, 105, 115, 115])
theorem yC (n : Nat) : (yD n).has.length = n /\ (yD n).dS.length = n := ⟨List.length_replicate, List.length_replicate⟩
theorem aF5 : ∀ (rs : List (Nat × NP × BT 8)) (p p' : Pm), Pms L p rs p' -> p'.has.length = p.has.length /\ p'.dS.length = p.dS.length
 | [], p, p', h => by
  have h : p' = p := h
  subst h
  exact ⟨rfl, rfl⟩
 | r :: rs, p, p', h => by
  obtain ⟨T, _, h⟩ := h
  have ih := aF5 rs _ p' h
  have hs := aBn p (I8 L r) T
  exact ⟨ih.1.trans hs.1, ih.2.trans hs.2⟩
theorem aE5 : ∀ (ds : List Dc) (c : Cc), (ds.foldl Cc.jH c).mf = ds.foldl frq c.mf
 | [], _ => rfl
 | d :: ds, c => by
  rw [List.foldl_cons, List.foldl_cons, aE5 ds]
  congr 1
  unfold Cc.jH frq
  by_cases e1 : d.word = [113, 117, 101, 117, 101]
  ·rw [if_pos e1, if_neg (by rw [e1]; decide)]
  ·rw [if_neg e1]
   by_cases e2 : d.word = [103, 104, 111, 115, 116]
   ·rw [if_pos e2, if_neg (by rw [e2]; decide)]
   ·rw [if_neg e2]
    by_cases e3 : d.word = [118, 97, 114]
    ·rw [if_pos e3, if_neg (by rw [e3]; decide)]
    ·rw [if_neg e3]
     split <;> rfl
theorem aRk (hc : Ch l TL) (h0 : TL[0]? = some (aN l 0)) {x : List Dc × List (Nat × NP × BT 8)} (hx : dM l = .ok x) : (qZ l TL).2.1 = ((bM x).L, (bM x).mf) /\ aDf (bM x).L (qZ l TL).2.2 (bM x) := by
 obtain ⟨u1, u2⟩ := aPn hc h0 hx
 have hF := kC hx
 have hwf := yB hx
 have D := hF.dx
 obtain ⟨r1, r2, _⟩ := nD (L := aV x.1) x.2 (x.1.foldl Ck.decl qR) D.nmr hwf (jA hF.ck).1
 have hP := zW hx
 have hmf : (bM x).mf = x.1.foldl frq 0 := by
  have e := mQ x.2 (x.1.foldl Cc.jH qL)
  have : (kU x).mf = (x.1.foldl Cc.jH qL).mf := by have := congrArg Cc.mf e; exact this
  show (kU x).mf = _
  rw [this, aE5]
  rfl
 have hnk : ∀ d ∈ aV x.1, d.2.1 ≠ [109, 105, 115, 115] := by
  have hx2 := hx
  unfold dM at hx2
  split at hx2
  ·cases hx2
  split at hx2
  ·cases hx2
  rename_i y t2 hp
  split at hx2
  ·cases hx2
  cases hx2
  unfold dH at hp
  obtain ⟨ds, t1, v1, hp⟩ := aB hp
  obtain ⟨rs, t3, v2, hp⟩ := aB hp
  have hxy : x = (ds, rs) := by
   unfold qF at hp
   split at hp
   ·cases hp; rfl
   ·cases hp
  subst hxy
  intro d hd e
  have := aCt _ _ _ _ v1 d hd
  rw [e] at this
  exact absurd this (by decide)
 refine ⟨by rw [u1, hmf]; rfl, ?_⟩
 generalize (qZ l TL).2.2 = p at *
 have hL : (bM x).L = aV x.1 := rfl
 have hlen := aF5 _ _ _ u2
 have hdecl : ∀ r ∈ x.2, r.2.1.1 = [109, 105, 115, 115] \/ ∃ (k : Nat) (d : DL), (aV x.1)[k]? = some d /\ d.2.1 = r.2.1.1 := fun r hr => by
  rcases (r1 r hr).2.1 with e | e
  ·exact Or.inl e
  ·exact Or.inr (D.nm2 _ _ e)
 refine ⟨⟨hlen.1.trans (yC _).1, hlen.2.trans (yC _).2⟩, fun k d hk => ?_, ?_⟩
 ·rw [hL] at hk
  have hg := aF6 D.uq hk (hnk d (List.mem_of_getElem? hk)) x.2 _ p u2 r2 hdecl (yC _).1 (yC _).2
  show _ = ((dO x.2 d.2.1).map (aP (aV x.1) 8)).isSome /\ qU 8 _ (((dO x.2 d.2.1).map (aP (aV x.1) 8)).getD (aI 8))
  cases hr : dO x.2 d.2.1 with
  | some b => rw [hr] at hg; exact hg
  | none =>
   rw [hr] at hg
   refine ⟨hg.1.trans (rH _ _), ?_⟩
   rw [hg.2]
   have : (yD (aV x.1).length).dS.getD k (aI 8) = aI 8 := by
    show (List.replicate _ (aI 8)).getD k (aI 8) = _
    rw [List.getD_eq_getElem?_getD, List.getElem?_replicate]
    split <;> rfl
   rw [this]
   exact vY 8
 ·have hm := aBz x.2 _ p u2 r2
  obtain ⟨y, hy⟩ := hP.miss
  have hy : (dO x.2 [109, 105, 115, 115]).map (aP (aV x.1) 8) = some y := hy
  show _ /\ qU 8 _ (((dO x.2 [109, 105, 115, 115]).map (aP (aV x.1) 8)).getD (aI 8))
  cases hr : dO x.2 [109, 105, 115, 115] with
  | some b => rw [hr] at hm; exact hm
  | none => rw [hr] at hy; cases hy
end
end Go.Proofs.YtfddoieakfpagaaGreatDoor
