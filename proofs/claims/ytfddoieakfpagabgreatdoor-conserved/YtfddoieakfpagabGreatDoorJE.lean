import Derived.Test.YtfddoieakfpagabGreatDoorJD
import Derived.Test.YtfddoieakfpagabGreatDoorHC
namespace Go.Proofs.YtfddoieakfpagabGreatDoor
open Go.RowKit
def CodeAt (st : List Stp) (a : Nat) (code : List Stp) : Prop := ∀ i, i < code.length -> st[a + i]? = code[i]?
theorem CodeAt.left {st : List Stp} {a : Nat} {x y : List Stp} (h : CodeAt st a (x ++ y)) : CodeAt st a x := fun i hi => by
 rw [h i (by simp; omega), List.getElem?_append_left hi]
theorem CodeAt.right {st : List Stp} {a b : Nat} {x y : List Stp} (h : CodeAt st a (x ++ y)) (hb : b = a + x.length) : CodeAt st b y := fun i hi => by
 subst hb
 have := h (x.length + i) (by simp; omega)
 rw [<- Nat.add_assoc] at this
 rw [this, List.getElem?_append_right (by omega)]
 congr 1
 omega
theorem CodeAt.head {st : List Stp} {a : Nat} {s : Stp} {y : List Stp} (h : CodeAt st a (s :: y)) : st[a]? = some s := by
 have := h 0 (by simp)
 simpa using this
theorem CodeAt.tail {st : List Stp} {a b : Nat} {s : Stp} {y : List Stp} (h : CodeAt st a (s :: y)) (hb : b = a + 1) : CodeAt st b y := h.right (x := [s]) (by simpa using hb)
def BlkOk (c : Cc) (L : List DL) (qi vi : Nat -> Nat) (key : Nat) (st : List Stp) (lp a b : Nat) (R : Rn) (t : Except Nat Ex) : Prop := match t with
 | .ok s' => ∃ R' Qm', Sim c L qi vi R' s' Qm' /\ (∀ j, j < lp -> R'.lf j = R.lf j) /\ ∀ r, Goes c key st b R' r -> Goes c key st a R r
 | .error e => ∃ i p, (e = 11 /\ i = 10 \/ e = 12 /\ i = 11) /\ Goes c key st a R (.error (i, p))
section
variable {c : Cc} {L : List DL} {qi vi : Nat -> Nat} {key : Nat} {st : List Stp}
theorem BlkOk.ahead {lp a a' b : Nat} {R R0 : Rn} {t : Except Nat Ex} (h : BlkOk c L qi vi key st lp a b R t) (hg : ∀ r, Goes c key st a R r -> Goes c key st a' R0 r) (hl : ∀ j, j < lp -> R.lf j = R0.lf j) : BlkOk c L qi vi key st lp a' b R0 t := by
 cases t with
 | ok s' =>
  obtain ⟨R', Qm', h1, h2, h3⟩ := h
  exact ⟨R', Qm', h1, fun j hj => (h2 j hj).trans (hl j hj), fun r hr => hg r (h3 r hr)⟩
 | error e =>
  obtain ⟨i, p, h1, h2⟩ := h
  exact ⟨i, p, h1, hg _ h2⟩
theorem BlkOk.behind {lp a b b' : Nat} {R : Rn} {t : Except Nat Ex} (h : BlkOk c L qi vi key st lp a b R t) (hg : ∀ R' r, Goes c key st b' R' r -> Goes c key st b R' r) : BlkOk c L qi vi key st lp a b' R t := by
 cases t with
 | ok s' =>
  obtain ⟨R', Qm', h1, h2, h3⟩ := h
  exact ⟨R', Qm', h1, h2, fun r hr => h3 r (hg R' r hr)⟩
 | error e => exact h
theorem Sim.left {R R' : Rn} {s : Ex} {Qm : Nat -> List (Nat × Nat)} (h : Sim c L qi vi R s Qm) (h1 : R'.A = R.A) (h2 : R'.vars = R.vars) (h3 : R'.ev = R.ev) : Sim c L qi vi R' s Qm :=
 ⟨by rw [h1]; exact h.ar, h.ls, h.vl, by rw [h2]; exact h.rl, by rw [h2]; exact h.vv, by rw [h3]; exact h.ev, h.fb⟩
theorem setL_ok (R : Rn) {j : Nat} (hj : j < 2) (v : Nat) : ∃ R', R.setL j v = some R' /\ R'.A = R.A /\ R'.vars = R.vars /\ R'.ev = R.ev /\ R'.lf j = some v /\ ∀ i, i < j -> R'.lf i = R.lf i := by
 have : j = 0 \/ j = 1 := by omega
 rcases this with rfl | rfl
 ·exact ⟨_, rfl, rfl, rfl, rfl, rfl, fun i hi => by omega⟩
 ·exact ⟨_, rfl, rfl, rfl, rfl, rfl, fun i hi => by
   have : i = 0 := by omega
   subst this
   rfl⟩
def SimB (c : Cc) (L : List DL) (qi vi : Nat -> Nat) (key : Nat) (st : List Stp) (d : Nat) : Prop := ∀ (lp base : Nat) (x : BT d) (y : RT d) (R : Rn) (s : Ex) (Qm : Nat -> List (Nat × Nat)), TR L d lp x y -> Sim c L qi vi R s Qm -> CodeAt st base (genB c d base lp x) -> s.gone.length + wtB d y <= 1000000000 ->
 BlkOk c L qi vi key st lp base (base + (genB c d base lp x).length) R (Ex.blk L c.mf key d y s)
theorem sim_loop {d : Nat} (D : Dm c L qi vi) (ih : SimB c L qi vi key st d) {lp base : Nat} (hlp : lp < 2) {x : BT d} {y : RT d} {xc : Cd} {yc : Rc} (hx : CR L xc yc) (htr : TR L d (lp + 1) x y) (hcode : CodeAt st (base + 3) (genB c d (base + 3) (lp + 1) x))
  (h1 : st[base + 1]? = some ⟨13, (0, 0), (0, 0), false, false, (0, 0), (0, 0), lp, 0, base + (genB c d (base + 3) (lp + 1) x).length + 4⟩)
  (h2 : st[base + 2]? = some { c.tsx xc with target := base + (genB c d (base + 3) (lp + 1) x).length + 4 })
  (h3 : st[base + 3 + (genB c d (base + 3) (lp + 1) x).length]? = some (jmpS (base + 1))) :
  ∀ (n : Nat) (R : Rn) (s : Ex) (Qm : Nat -> List (Nat × Nat)), Sim c L qi vi R s Qm -> R.lf lp = some n -> n <= 50 -> s.gone.length + n * wtB d y <= 1000000000 ->
  BlkOk c L qi vi key st lp (base + 1) (base + (genB c d (base + 3) (lp + 1) x).length + 4) R (loopX (fun s => s.cond L key yc) (Ex.blk L c.mf key d y) n s)
 | 0, R, s, Qm, hS, hn, _, hw => ⟨R, Qm, hS, fun _ _ => rfl, fun r hr => goes_count0 h1 rfl hn hr⟩
 | n + 1, R, s, Qm, hS, hn, h50, hw => by
  obtain ⟨R1, e1, e2, e3, e4, e5, e6⟩ := setL_ok R hlp n
  have hS1 : Sim c L qi vi R1 s Qm := hS.left e2 e3 e4
  have hc : ∀ r, Goes c key st (base + 2) R1 r -> Goes c key st (base + 1) R r := fun r hr => goes_count h1 rfl (by omega) hn e1 hr
  obtain ⟨y1, y2, y3, y4⟩ := hS1.yes D key hx (base + (genB c d (base + 3) (lp + 1) x).length + 4)
  have ht : ∀ r, Goes c key st (if s.yes L key yc = (c.tsx xc).neg then base + (genB c d (base + 3) (lp + 1) x).length + 4 else base + 3) R1 r -> Goes c key st (base + 2) R1 r := fun r hr => goes_test h2 y3 y4 y1 hr
  rw [y2] at ht
  unfold loopX
  by_cases e : s.cond L key yc = true
  ·rw [if_pos e]
   have hne : s.yes L key yc ≠ (yc.nots % 2 == 1) := by
    unfold Ex.cond at e
    simpa using e
   rw [if_neg hne] at ht
   have hw2 : s.gone.length + wtB d y <= 1000000000 := by rw [Nat.add_mul] at hw; omega
   have hb := ih (lp + 1) (base + 3) x y R1 s Qm htr hS1 hcode hw2
   cases hr : Ex.blk L c.mf key d y s with
   | error e =>
    rw [hr] at hb
    obtain ⟨i, p, k1, k2⟩ := hb
    exact ⟨i, p, k1, hc _ (ht _ k2)⟩
   | ok t =>
    rw [hr] at hb
    obtain ⟨R2, Qm2, k1, k2, k3⟩ := hb
    have hl := blk_le d y s t hr
    have := sim_loop D ih hlp hx htr hcode h1 h2 h3 n R2 t Qm2 k1 ((k2 lp (by omega)).trans e5) (by omega) (by rw [Nat.add_mul] at hw; omega)
    refine this.ahead (fun r hr => hc r (ht r (k3 r ?_))) (fun j hj => (k2 j (by omega)).trans (e6 j hj))
    exact goes_jump h3 rfl hr
  ·rw [if_neg e]
   have hne : s.yes L key yc = (yc.nots % 2 == 1) := by
    unfold Ex.cond at e
    simpa using e
   rw [if_pos hne] at ht
   exact ⟨R1, Qm, hS1, e6, fun r hr => hc r (ht r hr)⟩
theorem sim_stm {d : Nat} (D : Dm c L qi vi) (hkey : key < keyMax) (ih : SimB c L qi vi key st d) {lp base : Nat} {x : St × BT d × BT d} {y : Rt × RT d × RT d} {R : Rn} {s : Ex} {Qm : Nat -> List (Nat × Nat)} (htr : TRs L (TR L d) lp x y) (hS : Sim c L qi vi R s Qm) (hcode : CodeAt st base (genS (genB c d) c base lp x)) (hw : s.gone.length + wtS (wtB d) y <= 1000000000) :
  BlkOk c L qi vi key st lp base (base + (genS (genB c d) c base lp x).length) R (Ex.stm (Ex.blk L c.mf key d) L c.mf key y s) := by
 rcases htr with ⟨hx, hy, hc, _, h1, h2⟩ | ⟨hx, hy, hc, hn, h50, hlp, h1⟩ | hp
 ·have eg : genS (genB c d) c base lp x = { c.tsx x.1.cond with target := base + (genB c d (base + 1) lp x.2.1).length + 2 } :: (genB c d (base + 1) lp x.2.1 ++ jmpS (base + (genB c d (base + 1) lp x.2.1).length + 2 + (genB c d (base + (genB c d (base + 1) lp x.2.1).length + 2) lp x.2.2).length) :: genB c d (base + (genB c d (base + 1) lp x.2.1).length + 2) lp x.2.2) := by unfold genS; rw [if_pos hx]
  have ew : wtS (wtB d) y = wtB d y.2.1 + wtB d y.2.2 := by unfold wtS; rw [if_pos hy]
  have es : Ex.stm (Ex.blk L c.mf key d) L c.mf key y s = if s.cond L key y.1.con = true then Ex.blk L c.mf key d y.2.1 s else Ex.blk L c.mf key d y.2.2 s := by unfold Ex.stm; rw [if_pos hy]
  rw [eg] at hcode ⊢
  rw [es]
  generalize hT : genB c d (base + 1) lp x.2.1 = T at *
  generalize hE : genB c d (base + T.length + 2) lp x.2.2 = E at *
  have hct := hcode.head
  have hc1 := hcode.tail (b := base + 1) rfl
  have hcT := hc1.left
  have hc2 := hc1.right (b := base + 1 + T.length) rfl
  have hcj := hc2.head
  have hcE := hc2.tail (b := base + T.length + 2) (by omega)
  obtain ⟨y1, y2, y3, y4⟩ := hS.yes D key hc (base + T.length + 2)
  have ht : ∀ r, Goes c key st (if s.yes L key y.1.con = (c.tsx x.1.cond).neg then base + T.length + 2 else base + 1) R r -> Goes c key st base R r := fun r hr => goes_test hct y3 y4 y1 hr
  rw [y2] at ht
  have el : base + ({ c.tsx x.1.cond with target := base + T.length + 2 } :: (T ++ jmpS (base + T.length + 2 + E.length) :: E) : List Stp).length = base + T.length + 2 + E.length := by simp; omega
  rw [el]
  by_cases e : s.cond L key y.1.con = true
  ·rw [if_pos e]
   have hne : s.yes L key y.1.con ≠ (y.1.con.nots % 2 == 1) := by
    unfold Ex.cond at e
    simpa using e
   rw [if_neg hne] at ht
   have hb := ih lp (base + 1) x.2.1 y.2.1 R s Qm h1 hS (by rw [hT]; exact hcT) (by omega)
   rw [hT] at hb
   exact (hb.ahead ht (fun _ _ => rfl)).behind (fun R' r hr => goes_jump hcj rfl hr)
  ·rw [if_neg e]
   have hne : s.yes L key y.1.con = (y.1.con.nots % 2 == 1) := by
    unfold Ex.cond at e
    simpa using e
   rw [if_pos hne] at ht
   have hb := ih lp (base + T.length + 2) x.2.2 y.2.2 R s Qm h2 hS (by rw [hE]; exact hcE) (by omega)
   rw [hE] at hb
   exact hb.ahead ht (fun _ _ => rfl)
 ·have hxi : x.1.word ≠ [105, 102] := by rw [hx]; decide
  have hyi : y.1.op ≠ [105, 102] := by rw [hy]; decide
  have eg : genS (genB c d) c base lp x = ⟨12, (0, 0), (0, 0), false, false, (0, 0), (0, 0), lp, x.1.times.1, 0⟩ :: ⟨13, (0, 0), (0, 0), false, false, (0, 0), (0, 0), lp, 0, base + (genB c d (base + 3) (lp + 1) x.2.1).length + 4⟩ :: { c.tsx x.1.cond with target := base + (genB c d (base + 3) (lp + 1) x.2.1).length + 4 } :: (genB c d (base + 3) (lp + 1) x.2.1 ++ [jmpS (base + 1)]) := by unfold genS; rw [if_neg hxi, if_pos hx]
  have ew : wtS (wtB d) y = y.1.n * wtB d y.2.1 := by unfold wtS; rw [if_neg hyi, if_pos hy]
  have es : Ex.stm (Ex.blk L c.mf key d) L c.mf key y s = loopX (fun s => s.cond L key y.1.con) (Ex.blk L c.mf key d y.2.1) y.1.n s := by unfold Ex.stm; rw [if_neg hyi, if_pos hy]
  rw [eg] at hcode
  have el : base + (genS (genB c d) c base lp x).length = base + (genB c d (base + 3) (lp + 1) x.2.1).length + 4 := by rw [eg]; simp; omega
  rw [el, es]
  have hc0 := hcode.head
  have hc1 := hcode.tail (b := base + 1) rfl
  have hc2 := hc1.tail (b := base + 2) rfl
  have hc3 := hc2.tail (b := base + 3) rfl
  have hcj := (hc3.right (b := base + 3 + (genB c d (base + 3) (lp + 1) x.2.1).length) rfl).head
  obtain ⟨R1, e1, e2, e3, e4, e5, e6⟩ := setL_ok R hlp x.1.times.1
  have := sim_loop D ih hlp hc h1 hc3.left hc1.head hc2.head hcj y.1.n R1 s Qm (hS.left e2 e3 e4) (by rw [hn]; exact e5) h50 (by rw [<- ew]; exact hw)
  exact this.ahead (fun r hr => goes_start hc0 rfl e1 hr) e6
 ·have hop := hp.2
  have hni : x.1.word ≠ [105, 102] /\ x.1.word ≠ [114, 101, 112, 101, 97, 116] /\ y.1.op ≠ [105, 102] /\ y.1.op ≠ [114, 101, 112, 101, 97, 116] /\ kindN x.1.word <= 7 := by
   rw [hp.1]
   rcases hop with ⟨hop, _⟩ | ⟨hop, _⟩ | ⟨hop, _⟩ | ⟨hop, _⟩ | hop | hop
   ·rw [hop]; decide
   ·rw [hop]; decide
   ·rcases hop with hop | hop <;> (rw [hop]; decide)
   ·rcases hop with hop | hop <;> (rw [hop]; decide)
   ·rw [hop]; decide
   ·rw [hop]; decide
  obtain ⟨n1, n2, n3, n4, n5⟩ := hni
  have eg : genS (genB c d) c base lp x = [c.pln x.1] := by unfold genS; rw [if_neg n1, if_neg n2]
  have ew : wtS (wtB d) y = 1 := by unfold wtS; rw [if_neg n3, if_neg n4]
  have es : Ex.stm (Ex.blk L c.mf key d) L c.mf key y s = s.plain L c.mf key y.1 := by unfold Ex.stm; rw [if_neg n3, if_neg n4]
  rw [eg] at hcode ⊢
  rw [es]
  have hl : R.ev.length <= 1000000000 := by rw [hS.ev]; omega
  have hst := hS.plain D hkey hp hl
  have hk : (c.pln x.1).kind <= 7 := n5
  cases hr : s.plain L c.mf key y.1 with
  | ok s' =>
   rw [hr] at hst
   obtain ⟨R', Qm', k1, k2, k3, k4⟩ := hst
   exact ⟨R', Qm', k2, fun j hj => by unfold Rn.lf; rw [k3, k4], fun r hr => goes_ok hcode.head hk k1 hr⟩
  | error e =>
   rw [hr] at hst
   obtain ⟨i, p, k1, k2⟩ := hst
   exact ⟨i, p, k1, goes_err hcode.head hk k2⟩
theorem sim_blk (D : Dm c L qi vi) (hkey : key < keyMax) : ∀ d, SimB c L qi vi key st d
 | 0 => fun lp base x y R s Qm _ hS _ _ => ⟨R, Qm, hS, fun _ _ => rfl, fun _ hr => hr⟩
 | d + 1 => fun lp base x y R s Qm htr hS hcode hw => by
  have ih := sim_blk D hkey d
  have : ∀ (xs : List (St × BT d × BT d)) (ys : List (Rt × RT d × RT d)) (base : Nat) (R : Rn) (s : Ex) (Qm : Nat -> List (Nat × Nat)), TRL (TRs L (TR L d) lp) xs ys -> Sim c L qi vi R s Qm -> CodeAt st base (genL (genB c d) c base lp xs) -> s.gone.length + wtL (wtS (wtB d)) ys <= 1000000000 ->
    BlkOk c L qi vi key st lp base (base + (genL (genB c d) c base lp xs).length) R (seqX (Ex.stm (Ex.blk L c.mf key d) L c.mf key) ys s) := by
   intro xs
   induction xs with
   | nil =>
    intro ys base R s Qm h hS _ _
    cases ys with
    | nil => exact ⟨R, Qm, hS, fun _ _ => rfl, fun _ hr => hr⟩
    | cons y ys => exact absurd h (by simp [TRL])
   | cons x xs ihl =>
    intro ys base R s Qm h hS hcode hw
    cases ys with
    | nil => exact absurd h (by simp [TRL])
    | cons y ys =>
     obtain ⟨h1, h2⟩ := h
     unfold wtL at hw
     unfold genL at hcode ⊢
     have hb := sim_stm D hkey ih h1 hS hcode.left (by omega)
     unfold seqX
     cases hr : Ex.stm (Ex.blk L c.mf key d) L c.mf key y s with
     | error e =>
      rw [hr] at hb
      exact hb
     | ok t =>
      rw [hr] at hb
      obtain ⟨R', Qm', k1, k2, k3⟩ := hb
      have hl := stm_le (blk_le d) y s t hr
      have hb2 := ihl ys _ R' t Qm' h2 k1 (hcode.right rfl) (by omega)
      have := hb2.ahead k3 k2
      rw [List.length_append, <- Nat.add_assoc]
      exact this
  exact this x y base R s Qm htr hS hcode hw
theorem sim_rule (D : Dm c L qi vi) (hkey : key < keyMax) {x : BT 8} {y : RT 8} {R : Rn} {s : Ex} {Qm : Nat -> List (Nat × Nat)} (htr : TR L 8 0 x y) (hS : Sim c L qi vi R s Qm) (hw : s.gone.length + wtB 8 y <= 1000000000) :
  match Ex.blk L c.mf key 8 y s with
  | .ok s' => ∃ R' Qm', Sim c L qi vi R' s' Qm' /\ Goes c key (genB c 8 0 0 x) 0 R (.ok R')
  | .error e => ∃ i p, (e = 11 /\ i = 10 \/ e = 12 /\ i = 11) /\ Goes c key (genB c 8 0 0 x) 0 R (.error (i, p)) := by
 have := sim_blk (st := genB c 8 0 0 x) D hkey 8 0 0 x y R s Qm htr hS (fun i _ => by rw [Nat.zero_add]) hw
 cases hr : Ex.blk L c.mf key 8 y s with
 | error e => rw [hr] at this; exact this
 | ok s' =>
  rw [hr] at this
  obtain ⟨R', Qm', k1, _, k3⟩ := this
  exact ⟨R', Qm', k1, k3 _ (goes_end (by omega))⟩
end
def vlOf (L : List DL) (v : Vl) : List UInt8 × Nat := if v.kind = 0 then ([110, 117, 109], v.num.1) else if v.kind = 1 then ([118, 97, 114], (idxL L v.name.1).getD 0) else if v.kind = 2 then ([108, 101, 110], (idxL L v.name.1).getD 0) else ([102, 114, 101, 113], 0)
def rcOf (L : List DL) (x : Cd) : Rc := ⟨x.word, (idxL L x.queue.1).getD 0, vlOf L x.left, vlOf L x.right, if x.neg = true then 1 else 0⟩
def rtOf (L : List DL) (x : St) : Rt := ⟨x.word, if x.word = [114, 101, 112, 101, 97, 116] then x.times.1 else (idxL L x.name.1).getD 0, (idxL L (St.to x).1).getD 0, x.tail, rcOf L x.cond, x.other⟩
def treeOf (L : List DL) : (d : Nat) -> BT d -> RT d
 | 0, _ => ()
 | d + 1, xs => List.map (fun r => (rtOf L r.1, treeOf L d r.2.1, treeOf L d r.2.2)) xs
def wfV (v : Vl) : Prop := v.kind <= 3
def wfC (x : Cd) : Prop := (x.word = [102, 117, 108, 108] \/ x.word = [101, 109, 112, 116, 121] \/ x.word = [119, 97, 114, 109]) \/ (x.word = [60] /\ wfV x.left /\ wfV x.right)
def wfP (x : St) : Prop := x.word = [112, 117, 116] \/ x.word = [115, 104, 105, 102, 116] \/ (x.word = [101, 118, 105, 99, 116] \/ x.word = [99, 111, 111, 108]) \/ (x.word = [105, 110, 99] \/ x.word = [100, 101, 99]) \/ x.word = [100, 114, 111, 112] \/ x.word = [98, 117, 109, 112]
def wfS {β : Type} (P : Nat -> β -> Prop) (lp : Nat) (r : St × β × β) : Prop := (r.1.word = [105, 102] /\ wfC r.1.cond /\ P lp r.2.1 /\ P lp r.2.2) \/ (r.1.word = [114, 101, 112, 101, 97, 116] /\ wfC r.1.cond /\ lp < 2 /\ P (lp + 1) r.2.1) \/ wfP r.1
def wfL {α : Type} (P : α -> Prop) : List α -> Prop
 | [] => True
 | r :: rs => P r /\ wfL P rs
def wfB : (d : Nat) -> Nat -> BT d -> Prop
 | 0, _, _ => True
 | d + 1, lp, xs => wfL (wfS (wfB d) lp) xs
theorem wf_nil : ∀ d lp, wfB d lp (BTnil d)
 | 0, _ => trivial
 | _ + 1, _ => trivial
theorem value_wf {l : List UInt8} {t t' : Tok} {v : Vl} (h : valueS l t = .ok (v, t')) : wfV v := by
 unfold valueS at h
 unfold wfV
 split at h
 ·split at h
  ·cases h; simp
  ·cases h
 ·split at h
  ·cases h; simp
  ·split at h
   ·cases h; simp
   ·split at h
    ·cases h; simp
    ·cases h
theorem cond_wf {l : List UInt8} {t t' : Tok} {x : Cd} (h : condS l t = .ok (x, t')) : wfC x := by
 unfold condS condT at h
 split at h
 ·rename_i hw
  split at h
  ·cases h; exact Or.inl hw
  ·cases h
 ·split at h
  ·cases h
  ·rename_i a t1 ha
   split at h
   ·rename_i h1
    split at h
    ·cases h
    ·rename_i c t2 hc
     cases h
     exact Or.inr ⟨h1, value_wf ha, value_wf hc⟩
   ·cases h
theorem semi_ok {l : List UInt8} {s x : St} {t t' : Tok} (h : semi l s t = .ok (x, t')) : x = s := by
 unfold semi at h
 split at h
 ·cases h; rfl
 ·cases h
theorem plain_wf {l : List UInt8} {t t' : Tok} {x : St} (h : plainS l t = .ok (x, t')) : wfP x := by
 unfold plainS at h
 unfold wfP
 split at h
 ·rename_i hw
  obtain ⟨n, t1, _, h⟩ := bindR_ok h
  rw [semi_ok h]
  exact Or.inl hw
 ·split at h
  ·rename_i hw
   obtain ⟨n, t1, _, h⟩ := bindR_ok h
   obtain ⟨m, t2, _, h⟩ := bindR_ok h
   rw [semi_ok h]
   exact Or.inr (Or.inl hw)
  ·split at h
   ·rename_i hw
    obtain ⟨n, t1, _, h⟩ := bindR_ok h
    rw [semi_ok h]
    simp only [oneB, Bool.or_eq_true, beq_iff_eq] at hw
    rcases hw with ((hw | hw) | hw) | hw
    ·exact Or.inr (Or.inr (Or.inl (Or.inl hw)))
    ·exact Or.inr (Or.inr (Or.inr (Or.inl (Or.inl hw))))
    ·exact Or.inr (Or.inr (Or.inr (Or.inl (Or.inr hw))))
    ·exact Or.inr (Or.inr (Or.inl (Or.inr hw)))
   ·split at h
    ·rename_i hw
     rw [semi_ok h]
     simp only [zeroB, Bool.or_eq_true, beq_iff_eq] at hw
     rcases hw with hw | hw
     ·exact Or.inr (Or.inr (Or.inr (Or.inr (Or.inl hw))))
     ·exact Or.inr (Or.inr (Or.inr (Or.inr (Or.inr hw))))
    ·cases h
theorem stmt_wf {d : Nat} {l : List UInt8} {lo : Nat} (hlo : lo <= 2) (hb : ∀ lo t x t', lo <= 2 -> blockS l d lo t = .ok (x, t') -> wfB d lo x) {t t' : Tok} {x : St × BT d × BT d} (h : stmtS (blockS l d) (BTnil d) l lo t = .ok (x, t')) : wfS (wfB d) lo x := by
 unfold stmtS at h
 split at h
 ·rename_i hw
  unfold ifS at h
  obtain ⟨c, t1, h1, h⟩ := bindR_ok h
  obtain ⟨x1, t2, h2, h⟩ := bindR_ok h
  split at h
  ·obtain ⟨y, t3, h3, h⟩ := bindR_ok h
   cases h
   exact Or.inl ⟨hw, cond_wf h1, hb _ _ _ _ hlo h2, hb _ _ _ _ hlo h3⟩
  ·cases h
   exact Or.inl ⟨hw, cond_wf h1, hb _ _ _ _ hlo h2, wf_nil d lo⟩
 ·split at h
  ·rename_i hw
   unfold repS at h
   split at h
   ·cases h
   ·obtain ⟨n, t1, h1, h⟩ := bindR_ok h
    obtain ⟨_, t2, h2, h⟩ := bindR_ok h
    obtain ⟨c, t3, h3, h⟩ := bindR_ok h
    obtain ⟨y, t4, h4, h⟩ := bindR_ok h
    cases h
    exact Or.inr (Or.inl ⟨hw, cond_wf h3, by omega, hb _ _ _ _ (by omega) h4⟩)
  ·obtain ⟨s, t1, h1, h⟩ := bindR_ok h
   cases h
   exact Or.inr (Or.inr (plain_wf h1))
theorem stmts_wf {α : Type} {stm : Tok -> PR α} {l : List UInt8} {P : α -> Prop} (hs : ∀ t x t', stm t = .ok (x, t') -> P x) : ∀ (n : Nat) (t t' : Tok) (xs : List α), stmtsS stm l n t = .ok (xs, t') -> wfL P xs
 | 0, _, _, _, h => by cases h
 | n + 1, t, t', xs, h => by
  unfold stmtsS at h
  split at h
  ·cases h; trivial
  ·obtain ⟨x, t1, h1, h⟩ := bindR_ok h
   obtain ⟨ys, t2, h2, h⟩ := bindR_ok h
   have := stmts_wf hs n t1 t2 ys h2
   cases h
   exact ⟨hs _ _ _ h1, this⟩
theorem block_wf {l : List UInt8} : ∀ (d lo : Nat) (t : Tok) (x : BT d) (t' : Tok), lo <= 2 -> blockS l d lo t = .ok (x, t') -> wfB d lo x
 | 0, _, _, _, _, _, _ => trivial
 | d + 1, lo, t, x, t', hlo, h => by
  by_cases hc : t.txt = [123]
  ·have e := (blockS_yes l d lo t hc).symm.trans h
   exact stmts_wf (fun t x t' h => stmt_wf hlo (fun lo t x t' hl => block_wf d lo t x t' hl) h) _ _ _ _ e
  ·have e := (blockS_no l d lo t hc).symm.trans h
   cases e
theorem rules_wf {l : List UInt8} : ∀ (n : Nat) (t t' : Tok) (rs : List (Nat × NP × BT 8)), rulesS l n t = .ok (rs, t') -> ∀ r ∈ rs, wfB 8 0 r.2.2
 | 0, _, _, _, h => by cases h
 | n + 1, t, t', ds, h => by
  unfold rulesS at h
  split at h
  ·obtain ⟨d, t1, h1, h⟩ := bindR_ok h
   obtain ⟨es, t2, h2, h⟩ := bindR_ok h
   have ih := rules_wf n t1 t2 es h2
   cases h
   intro x hx
   rcases List.mem_cons.1 hx with rfl | hx
   ·unfold ruleS at h1
    obtain ⟨n, t3, _, h1⟩ := bindR_ok h1
    obtain ⟨y, t4, h4, h1⟩ := bindR_ok h1
    have := block_wf 8 0 t3 y t4 (by omega) h4
    cases h1
    exact this
   ·exact ih x hx
  ·cases h
   exact fun _ hx => (by cases hx)
theorem read_wf {l : List UInt8} {x : List Dc × List (Nat × NP × BT 8)} (h : readS l = .ok x) : ∀ r ∈ x.2, wfB 8 0 r.2.2 := by
 unfold readS at h
 split at h
 ·cases h
 ·cases hp : policyS l (tokAt l 0) with
  | error e => rw [hp] at h; cases h
  | ok p =>
   obtain ⟨y, t'⟩ := p
   rw [hp] at h
   simp only at h
   cases hc : (checkS y.1 y.2).first with
   | some e => rw [hc] at h; cases h
   | none =>
    rw [hc] at h
    simp only [Except.ok.injEq] at h
    subst h
    unfold policyS at hp
    obtain ⟨ds, t1, h1, hp⟩ := bindR_ok hp
    obtain ⟨rs, t2, h2, hp⟩ := bindR_ok hp
    unfold endS at hp
    split at hp
    ·simp only [Except.ok.injEq, Prod.mk.injEq] at hp
     obtain ⟨rfl, _⟩ := hp
     exact rules_wf _ _ _ _ h2
    ·cases hp
theorem use_none {s : Ck} {n : NP} {k : Nat} (h : (s.use n k).first = none) : look n.1 s.names = some k /\ s.use n k = s := by
 unfold Ck.use at h ⊢
 split at h
 ·exact absurd h fault_none
 ·rename_i d hd
  split at h
  ·rename_i e
   subst e
   rw [hd]
   exact ⟨rfl, if_pos rfl⟩
  ·exact absurd h fault_none
def NmR (names : List (List UInt8 × Nat)) (L : List DL) : Prop := ∀ nm k, look nm names = some k -> ∃ i d, idxL L nm = some i /\ L[i]? = some d /\ d.2.1 = nm /\ (k = 0 -> d.1 ≠ [118, 97, 114]) /\ (k = 1 -> d.1 = [118, 97, 114])
theorem NmR.q {names : List (List UInt8 × Nat)} {L : List DL} (h : NmR names L) {nm : List UInt8} (hl : look nm names = some 0) : NB L nm ((idxL L nm).getD 0) false := by
 obtain ⟨i, d, h1, h2, h3, h4, _⟩ := h nm 0 hl
 rw [h1]
 exact ⟨d, h2, (fun e => by cases e), fun _ => h4 rfl, h3⟩
theorem NmR.v {names : List (List UInt8 × Nat)} {L : List DL} (h : NmR names L) {nm : List UInt8} (hl : look nm names = some 1) : NB L nm ((idxL L nm).getD 0) true := by
 obtain ⟨i, d, h1, h2, h3, _, h4⟩ := h nm 1 hl
 rw [h1]
 exact ⟨d, h2, fun _ => h4 rfl, (fun e => by cases e), h3⟩
theorem value_none {s : Ck} {v : Vl} (h : (s.value v).first = none) : s.value v = s /\ (v.kind = 1 -> look v.name.1 s.names = some 1) /\ (v.kind = 2 -> look v.name.1 s.names = some 0) := by
 unfold Ck.value at h ⊢
 split at h
 ·rename_i e
  obtain ⟨h1, h2⟩ := use_none h
  rw [if_pos e]
  exact ⟨h2, fun _ => h1, fun e2 => by omega⟩
 ·rename_i e
  rw [if_neg e]
  split at h
  ·rename_i e2
   obtain ⟨h1, h2⟩ := use_none h
   rw [if_pos e2]
   exact ⟨h2, fun e3 => by omega, fun _ => h1⟩
  ·rename_i e2
   rw [if_neg e2]
   exact ⟨rfl, fun e3 => by omega, fun e3 => by omega⟩
theorem vr_of {names : List (List UInt8 × Nat)} {L : List DL} (h : NmR names L) {v : Vl} (hw : wfV v) (h1 : v.kind = 1 -> look v.name.1 names = some 1) (h2 : v.kind = 2 -> look v.name.1 names = some 0) : VR L v (vlOf L v) := by
 unfold wfV at hw
 unfold vlOf VR
 have : v.kind = 0 \/ v.kind = 1 \/ v.kind = 2 \/ v.kind = 3 := by omega
 rcases this with e | e | e | e
 ·rw [if_pos e]; exact Or.inl ⟨e, rfl, rfl⟩
 ·rw [if_neg (by omega), if_pos e]; exact Or.inr (Or.inl ⟨e, rfl, h.v (h1 e)⟩)
 ·rw [if_neg (by omega), if_neg (by omega), if_pos e]; exact Or.inr (Or.inr (Or.inl ⟨e, rfl, h.q (h2 e)⟩))
 ·rw [if_neg (by omega), if_neg (by omega), if_neg (by omega)]; exact Or.inr (Or.inr (Or.inr ⟨e, rfl⟩))
theorem cr_of {s : Ck} {L : List DL} (hn : NmR s.names L) {x : Cd} (hw : wfC x) (h : (s.cond x).first = none) : s.cond x = s /\ CR L x (rcOf L x) := by
 unfold Ck.cond at h ⊢
 have hneg : x.neg = ((if x.neg = true then 1 else 0) % 2 == 1) := by cases x.neg <;> rfl
 split at h
 ·rename_i e
  rw [if_pos e]
  have hf : (s.value x.left).first = none := none_of (fun _ he => fs_value he x.right) h
  obtain ⟨a1, a2, a3⟩ := value_none hf
  rw [a1] at h ⊢
  obtain ⟨b1, b2, b3⟩ := value_none h
  refine ⟨b1, hneg, rfl, Or.inr ⟨e, ?_⟩⟩
  rcases hw with hw | ⟨_, hl, hr⟩
  ·rw [e] at hw
   exact absurd hw (by decide)
  ·exact ⟨vr_of hn hl a2 a3, vr_of hn hr b2 b3⟩
 ·rename_i e
  rw [if_neg e]
  obtain ⟨a1, a2⟩ := use_none h
  refine ⟨a2, hneg, rfl, Or.inl ⟨?_, hn.q a1⟩⟩
  rcases hw with hw | ⟨hw, _⟩
  ·exact hw
  ·exact absurd hw e
def costS {β : Type} (f : β -> Nat) (r : St × β × β) : Nat := 4 + f r.2.1 + f r.2.2
theorem stmt_tr {d : Nat} {L : List DL} (hb : ∀ (lp : Nat) (x : BT d) (s : Ck), NmR s.names L -> wfB d lp x -> (s.block d x).first = none -> s.block d x = s /\ TR L d lp x (treeOf L d x) /\ wtB d (treeOf L d x) <= 50 ^ (2 - lp) * costB d x) {s : Ck} (hn : NmR s.names L) {lp : Nat} {r : St × BT d × BT d} (hw : wfS (wfB d) lp r) (h : (s.stmt (Ck.block d) r).first = none) :
  s.stmt (Ck.block d) r = s /\ TRs L (TR L d) lp r (rtOf L r.1, treeOf L d r.2.1, treeOf L d r.2.2) /\ wtS (wtB d) (rtOf L r.1, treeOf L d r.2.1, treeOf L d r.2.2) <= 50 ^ (2 - lp) * costS (costB d) r := by
 have hop : (rtOf L r.1).op = r.1.word := rfl
 have hpos : 1 <= 50 ^ (2 - lp) := Nat.one_le_pow _ _ (by decide)
 rcases hw with ⟨e, hc, w1, w2⟩ | ⟨e, hc, hlp, w1⟩ | hp
 ·have es : s.stmt (Ck.block d) r = Ck.block d (Ck.block d (s.cond r.1.cond) r.2.1) r.2.2 := by unfold Ck.stmt; simp [e]
  rw [es] at h ⊢
  have f1 : (Ck.block d (s.cond r.1.cond) r.2.1).first = none := none_of (fun _ he => fs_block d _ _ he) h
  have f0 : (s.cond r.1.cond).first = none := none_of (fun _ he => fs_block d _ _ he) f1
  obtain ⟨c1, c2⟩ := cr_of hn hc f0
  rw [c1] at f1 h ⊢
  obtain ⟨b1, b2, b3⟩ := hb lp r.2.1 s hn w1 f1
  rw [b1] at h ⊢
  obtain ⟨d1, d2, d3⟩ := hb lp r.2.2 s hn w2 h
  refine ⟨d1, Or.inl ⟨e, e, c2, rfl, b2, d2⟩, ?_⟩
  unfold wtS costS
  rw [if_pos (show (rtOf L r.1).op = _ from e)]
  simp only
  rw [Nat.mul_add, Nat.mul_add]
  omega
 ·have es : s.stmt (Ck.block d) r = Ck.block d ((s.bound r.1.times.1 r.1.times.2 50).cond r.1.cond) r.2.1 := by unfold Ck.stmt; simp [e]
  rw [es] at h ⊢
  have f1 : ((s.bound r.1.times.1 r.1.times.2 50).cond r.1.cond).first = none := none_of (fun _ he => fs_block d _ _ he) h
  have f0 : (s.bound r.1.times.1 r.1.times.2 50).first = none := none_of (fun _ he => fs_cond he _) f1
  obtain ⟨_, _, k2, k3⟩ := bound_none f0
  rw [k3] at f1 h ⊢
  obtain ⟨c1, c2⟩ := cr_of hn hc f1
  rw [c1] at h ⊢
  obtain ⟨b1, b2, b3⟩ := hb (lp + 1) r.2.1 s hn w1 h
  have hn1 : (rtOf L r.1).n = r.1.times.1 := if_pos e
  refine ⟨b1, Or.inr (Or.inl ⟨e, e, c2, hn1, by rw [hn1]; exact k2, hlp, b2⟩), ?_⟩
  unfold wtS costS
  rw [if_neg (show (rtOf L r.1).op ≠ _ by rw [hop, e]; decide), if_pos (show (rtOf L r.1).op = _ from e)]
  simp only [hn1]
  have e50 : 50 ^ (2 - lp) = 50 * 50 ^ (2 - (lp + 1)) := by
   rw [show 2 - lp = (2 - (lp + 1)) + 1 by omega, Nat.pow_succ, Nat.mul_comm]
  calc r.1.times.1 * wtB d (treeOf L d r.2.1) <= 50 * (50 ^ (2 - (lp + 1)) * costB d r.2.1) := Nat.mul_le_mul k2 b3
   _ = 50 ^ (2 - lp) * costB d r.2.1 := by rw [e50, Nat.mul_assoc]
   _ <= 50 ^ (2 - lp) * (4 + costB d r.2.1 + costB d r.2.2) := Nat.mul_le_mul (Nat.le_refl _) (by omega)
 ·have hnr : r.1.word ≠ [114, 101, 112, 101, 97, 116] /\ r.1.word ≠ [105, 102] := by
   unfold wfP at hp
   rcases hp with e | e | e | e | e | e
   ·rw [e]; decide
   ·rw [e]; decide
   ·rcases e with e | e <;> (rw [e]; decide)
   ·rcases e with e | e <;> (rw [e]; decide)
   ·rw [e]; decide
   ·rw [e]; decide
  have en : (rtOf L r.1).n = (idxL L r.1.name.1).getD 0 := if_neg hnr.1
  have hwt : wtS (wtB d) (rtOf L r.1, treeOf L d r.2.1, treeOf L d r.2.2) <= 50 ^ (2 - lp) * costS (costB d) r := by
   unfold wtS costS
   rw [if_neg (show (rtOf L r.1).op ≠ _ from hnr.2), if_neg (show (rtOf L r.1).op ≠ _ from hnr.1)]
   rw [Nat.mul_add, Nat.mul_add]
   omega
  refine (?_ : s.stmt (Ck.block d) r = s /\ PR1 L r.1 (rtOf L r.1)) |> fun hh => ⟨hh.1, Or.inr (Or.inr hh.2), hwt⟩
  unfold PR1
  rw [en]
  unfold wfP at hp
  rcases hp with e | e | e | e | e | e
  ·have es : s.stmt (Ck.block d) r = s.use r.1.name 0 := by unfold Ck.stmt; simp [e]
   rw [es] at h ⊢
   obtain ⟨u1, u2⟩ := use_none h
   exact ⟨u2, rfl, Or.inl ⟨e, rfl, hn.q u1⟩⟩
  ·have es : s.stmt (Ck.block d) r = (s.use r.1.name 0).use (St.to r.1) 0 := by unfold Ck.stmt; simp [e]
   rw [es] at h ⊢
   have f0 : (s.use r.1.name 0).first = none := none_of (fun _ he => fs_use he _ _) h
   obtain ⟨u1, u2⟩ := use_none f0
   rw [u2] at h ⊢
   obtain ⟨v1, v2⟩ := use_none h
   exact ⟨v2, rfl, Or.inr (Or.inl ⟨e, rfl, hn.q u1, hn.q v1⟩)⟩
  ·have es : s.stmt (Ck.block d) r = s.use r.1.name 0 := by unfold Ck.stmt; rcases e with e | e <;> simp [e]
   rw [es] at h ⊢
   obtain ⟨u1, u2⟩ := use_none h
   exact ⟨u2, rfl, Or.inr (Or.inr (Or.inl ⟨e, hn.q u1⟩))⟩
  ·have es : s.stmt (Ck.block d) r = s.use r.1.name 1 := by unfold Ck.stmt; rcases e with e | e <;> simp [e]
   rw [es] at h ⊢
   obtain ⟨u1, u2⟩ := use_none h
   exact ⟨u2, rfl, Or.inr (Or.inr (Or.inr (Or.inl ⟨e, hn.v u1⟩)))⟩
  ·have es : s.stmt (Ck.block d) r = s := by unfold Ck.stmt; simp [e]
   exact ⟨es, rfl, Or.inr (Or.inr (Or.inr (Or.inr (Or.inl e))))⟩
  ·have es : s.stmt (Ck.block d) r = s := by unfold Ck.stmt; simp [e]
   exact ⟨es, rfl, Or.inr (Or.inr (Or.inr (Or.inr (Or.inr e))))⟩
theorem block_tr {L : List DL} : ∀ (d lp : Nat) (x : BT d) (s : Ck), NmR s.names L -> wfB d lp x -> (s.block d x).first = none -> s.block d x = s /\ TR L d lp x (treeOf L d x) /\ wtB d (treeOf L d x) <= 50 ^ (2 - lp) * costB d x
 | 0, _, _, _, _, _, _ => ⟨rfl, trivial, Nat.zero_le _⟩
 | d + 1, lp, x, s, hn, hw, h => by
  have : ∀ (xs : List (St × BT d × BT d)), wfL (wfS (wfB d) lp) xs -> (List.foldl (fun s r => s.stmt (Ck.block d) r) s xs).first = none -> List.foldl (fun s r => s.stmt (Ck.block d) r) s xs = s /\ TRL (TRs L (TR L d) lp) xs (List.map (fun r => (rtOf L r.1, treeOf L d r.2.1, treeOf L d r.2.2)) xs) /\ wtL (wtS (wtB d)) (List.map (fun r => (rtOf L r.1, treeOf L d r.2.1, treeOf L d r.2.2)) xs) <= 50 ^ (2 - lp) * costL (costB d) xs := by
   intro xs
   induction xs with
   | nil => intro _ _; exact ⟨rfl, trivial, Nat.zero_le _⟩
   | cons r rs ih =>
    intro hw h
    rw [List.foldl_cons] at h ⊢
    have f0 : (s.stmt (Ck.block d) r).first = none := none_of (fun _ he => fs_fold (fun s x hx => fs_stmt (fun s x hx => fs_block d s x hx) hx x) rs _ he) h
    obtain ⟨a1, a2, a3⟩ := stmt_tr (fun lp x s => block_tr d lp x s) hn hw.1 f0
    rw [a1] at h ⊢
    obtain ⟨b1, b2, b3⟩ := ih hw.2 h
    refine ⟨b1, ⟨a2, b2⟩, ?_⟩
    show wtS (wtB d) _ + wtL (wtS (wtB d)) _ <= 50 ^ (2 - lp) * (4 + costB d r.2.1 + costB d r.2.2 + costL (costB d) rs)
    unfold costS at a3
    rw [Nat.mul_add]
    exact Nat.add_le_add a3 b3
  exact this x hw h
def dlOf (d : Dc) : DL := (d.word, d.name.1, d.num.1)
def declL (ds : List Dc) : List DL := (ds.filter fun d => !(d.word == [102, 114, 101, 113])).map dlOf
def nvB (d : DL) : Bool := !(d.1 == [118, 97, 114])
def vrB (d : DL) : Bool := d.1 == [118, 97, 114]
def cntL (p : DL -> Bool) (L : List DL) (k : Nat) : Nat := ((L.take k).filter p).length
theorem cnt_at (p : DL -> Bool) : ∀ (L : List DL) (k : Nat) (d : DL), L[k]? = some d -> p d = true -> (L.filter p)[cntL p L k]? = some d
 | [], k, d, h, _ => by simp at h
 | a :: L, 0, d, h, hp => by
  simp at h
  subst h
  simp [cntL, hp]
 | a :: L, k + 1, d, h, hp => by
  have ih := cnt_at p L k d (by simpa using h) hp
  unfold cntL at ih ⊢
  rw [List.take_succ_cons, List.filter_cons, List.filter_cons]
  cases p a <;> simpa using ih
theorem cnt_sur (p : DL -> Bool) : ∀ (L : List DL) (q : Nat), q < (L.filter p).length -> ∃ (k : Nat) (d : DL), L[k]? = some d /\ p d = true /\ cntL p L k = q
 | [], q, h => by simp at h
 | a :: L, q, h => by
  rw [List.filter_cons] at h
  by_cases e : p a = true
  ·rw [if_pos e] at h
   cases q with
   | zero => exact ⟨0, a, rfl, e, by simp [cntL]⟩
   | succ q =>
    obtain ⟨k, d, h1, h2, h3⟩ := cnt_sur p L q (by simpa using h)
    refine ⟨k + 1, d, by simpa using h1, h2, ?_⟩
    unfold cntL at h3 ⊢
    rw [List.take_succ_cons, List.filter_cons, if_pos e]
    simpa using h3
  ·rw [if_neg e] at h
   obtain ⟨k, d, h1, h2, h3⟩ := cnt_sur p L q h
   refine ⟨k + 1, d, by simpa using h1, h2, ?_⟩
   unfold cntL at h3 ⊢
   rw [List.take_succ_cons, List.filter_cons, if_neg e]
   exact h3
theorem cnt_snoc (p : DL -> Bool) (L : List DL) (x : DL) {k : Nat} (hk : k <= L.length) : cntL p (L ++ [x]) k = cntL p L k := by
 unfold cntL
 rw [List.take_append_of_le_length hk]
theorem cnt_all (p : DL -> Bool) (L : List DL) : cntL p L L.length = (L.filter p).length := by
 unfold cntL
 rw [List.take_length]
structure Dx (c : Cc) (s : Ck) (L : List DL) : Prop where
 ro : c.ro = (L.filter nvB).map fun d => d.2.2
 gh : c.gh = (L.filter nvB).map fun d => !(d.1 == [113, 117, 101, 117, 101])
 ev : c.ev = (L.filter nvB).map fun d => d.2.1
 mo : c.mo = (L.filter vrB).map fun d => d.2.2
 vn : c.vn = (L.filter vrB).map fun d => d.2.1
 ix : ∀ (k : Nat) d, L[k]? = some d -> look d.2.1 c.ix = some (if d.1 = [118, 97, 114] then cntL vrB L k else cntL nvB L k)
 nm : ∀ (k : Nat) d, L[k]? = some d -> look d.2.1 s.names = some (if d.1 = [118, 97, 114] then 1 else 0)
 nm2 : ∀ nm j, look nm s.names = some j -> ∃ (k : Nat) (d : DL), L[k]? = some d /\ d.2.1 = nm
 nl : s.names.length = L.length /\ L.length <= 8
 uq : ∀ (k : Nat) d (k' : Nat) d', L[k]? = some d -> L[k']? = some d' -> d.2.1 = d'.2.1 -> k = k'
 mx : ∀ d ∈ L, 1 <= d.2.2 /\ d.2.2 <= 99 /\ (d.1 ≠ [118, 97, 114] -> d.2.2 <= 50)
 kd : ∀ d ∈ L, d.1 = [113, 117, 101, 117, 101] \/ d.1 = [103, 104, 111, 115, 116] \/ d.1 = [118, 97, 114]
 mf : c.mf <= 99
theorem Dx.start : Dx cc0 ck0 [] := ⟨rfl, rfl, rfl, rfl, rfl, (fun k d h => by simp at h), (fun k d h => by simp at h), (fun nm j h => by cases h), ⟨rfl, by simp⟩, (fun k d k' d' h => by simp at h), (fun d h => by cases h), (fun d h => by cases h), by decide⟩
theorem snoc_at {L : List DL} {x d : DL} {k : Nat} (h : (L ++ [x])[k]? = some d) : (k < L.length /\ L[k]? = some d) \/ (k = L.length /\ d = x) := by
 by_cases e : k < L.length
 ·rw [List.getElem?_append_left e] at h; exact Or.inl ⟨e, h⟩
 ·rw [List.getElem?_append_right (by omega)] at h
  have h2 := (List.getElem?_eq_some_iff.1 h).1
  simp at h2
  have : k = L.length := by omega
  subst this
  simp at h
  exact Or.inr ⟨rfl, h.symm⟩
theorem Dx.more {c : Cc} {s : Ck} {L : List DL} (h : Dx c s L) {c' : Cc} {s' : Ck} (x : DL) (j : Nat) (hj : j = if x.1 = [118, 97, 114] then 1 else 0) (hnew : look x.2.1 s.names = none) (h8 : s.names.length ≠ 8) (hn : s'.names = (x.2.1, j) :: s.names)
  (hro : c'.ro = if nvB x = true then c.ro ++ [x.2.2] else c.ro) (hgh : c'.gh = if nvB x = true then c.gh ++ [!(x.1 == [113, 117, 101, 117, 101])] else c.gh) (hev : c'.ev = if nvB x = true then c.ev ++ [x.2.1] else c.ev)
  (hmo : c'.mo = if vrB x = true then c.mo ++ [x.2.2] else c.mo) (hvn : c'.vn = if vrB x = true then c.vn ++ [x.2.1] else c.vn)
  (hix : c'.ix = (x.2.1, if x.1 = [118, 97, 114] then c.mo.length else c.ro.length) :: c.ix) (hmx : 1 <= x.2.2 /\ x.2.2 <= 99 /\ (x.1 ≠ [118, 97, 114] -> x.2.2 <= 50)) (hkd : x.1 = [113, 117, 101, 117, 101] \/ x.1 = [103, 104, 111, 115, 116] \/ x.1 = [118, 97, 114]) (hmf : c'.mf = c.mf) : Dx c' s' (L ++ [x]) := by
 have hne : ∀ (k : Nat) d, L[k]? = some d -> d.2.1 ≠ x.2.1 := fun k d hk e => by
  have := h.nm k d hk
  rw [e, hnew] at this
  cases this
 have hfil : ∀ p : DL -> Bool, (L ++ [x]).filter p = if p x = true then L.filter p ++ [x] else L.filter p := fun p => by
  rw [List.filter_append, List.filter_cons]
  cases p x <;> simp
 refine ⟨?_, ?_, ?_, ?_, ?_, fun k d hk => ?_, fun k d hk => ?_, fun nm i hk => ?_, ?_, fun k d k' d' hk hk' e => ?_, fun d hd => ?_, fun d hd => ?_, by rw [hmf]; exact h.mf⟩
 ·rw [hro, hfil, h.ro]; split <;> simp
 ·rw [hgh, hfil, h.gh]; split <;> simp
 ·rw [hev, hfil, h.ev]; split <;> simp
 ·rw [hmo, hfil, h.mo]; split <;> simp
 ·rw [hvn, hfil, h.vn]; split <;> simp
 ·rw [hix, look_cons]
  rcases snoc_at hk with ⟨h1, h2⟩ | ⟨rfl, rfl⟩
  ·rw [if_neg (Ne.symm (hne k d h2)), h.ix k d h2, cnt_snoc _ _ _ (by omega), cnt_snoc _ _ _ (by omega)]
  ·rw [if_pos rfl, cnt_snoc _ _ _ (Nat.le_refl _), cnt_snoc _ _ _ (Nat.le_refl _), cnt_all, cnt_all, h.mo, h.ro]
   simp
 ·rw [hn, look_cons]
  rcases snoc_at hk with ⟨h1, h2⟩ | ⟨rfl, rfl⟩
  ·rw [if_neg (Ne.symm (hne k d h2)), h.nm k d h2]
  ·rw [if_pos rfl, hj]
 ·rw [hn, look_cons] at hk
  split at hk
  ·rename_i e
   exact ⟨L.length, x, by simp, e⟩
  ·obtain ⟨k, d, h1, h2⟩ := h.nm2 nm i hk
   exact ⟨k, d, by rw [List.getElem?_append_left (List.getElem?_eq_some_iff.1 h1).1]; exact h1, h2⟩
 ·have := h.nl
  rw [hn]
  simp
  omega
 ·rcases snoc_at hk with ⟨h1, h2⟩ | ⟨h1, h2⟩ <;> rcases snoc_at hk' with ⟨h3, h4⟩ | ⟨h3, h4⟩
  ·exact h.uq k d k' d' h2 h4 e
  ·subst h4; exact absurd e (hne k d h2)
  ·subst h2; exact absurd e.symm (hne k' d' h4)
  ·omega
 ·rcases List.mem_append.1 hd with hd | hd
  ·exact h.mx d hd
  ·simp at hd; subst hd; exact hmx
 ·rcases List.mem_append.1 hd with hd | hd
  ·exact h.kd d hd
  ·simp at hd; subst hd; exact hkd
theorem Dx.decls : ∀ (ds : List Dc) (c : Cc) (s : Ck) (L : List DL), Dx c s L -> (ds.foldl Ck.decl s).first = none -> (∀ d ∈ ds, d.word = [113, 117, 101, 117, 101] \/ d.word = [103, 104, 111, 115, 116] \/ d.word = [118, 97, 114] \/ d.word = [102, 114, 101, 113]) -> Dx (ds.foldl Cc.dcl c) (ds.foldl Ck.decl s) (L ++ declL ds)
 | [], c, s, L, h, _, _ => by simpa [declL] using h
 | d :: ds, c, s, L, h, hf, hw => by
  rw [List.foldl_cons] at hf
  rw [List.foldl_cons, List.foldl_cons]
  have hf1 : (s.decl d).first = none := (decls_none ds (s.decl d) hf).1
  obtain ⟨_, k1, k2, k3⟩ := decl_none hf1
  have hw2 : ∀ x ∈ ds, x.word = [113, 117, 101, 117, 101] \/ x.word = [103, 104, 111, 115, 116] \/ x.word = [118, 97, 114] \/ x.word = [102, 114, 101, 113] := fun x hx => hw x (by simp [hx])
  rcases hw d (by simp) with e | e | e | e
  ·obtain ⟨a1, a2, a3, a4, a5⟩ := k1 (Or.inl e)
   have hd : declL (d :: ds) = dlOf d :: declL ds := by simp [declL, e]
   rw [hd, show L ++ dlOf d :: declL ds = (L ++ [dlOf d]) ++ declL ds by simp]
   refine Dx.decls ds _ _ _ (h.more (dlOf d) 0 ?_ a3 a4 a5 ?_ ?_ ?_ ?_ ?_ ?_ ⟨a1, by show d.num.1 <= 99; omega, fun _ => a2⟩ (Or.inl e) ?_) hf hw2
   all_goals (simp [Cc.dcl, dlOf, nvB, vrB, e])
  ·obtain ⟨a1, a2, a3, a4, a5⟩ := k1 (Or.inr e)
   have hd : declL (d :: ds) = dlOf d :: declL ds := by simp [declL, e]
   rw [hd, show L ++ dlOf d :: declL ds = (L ++ [dlOf d]) ++ declL ds by simp]
   refine Dx.decls ds _ _ _ (h.more (dlOf d) 0 ?_ a3 a4 a5 ?_ ?_ ?_ ?_ ?_ ?_ ⟨a1, by show d.num.1 <= 99; omega, fun _ => a2⟩ (Or.inr (Or.inl e)) ?_) hf hw2
   all_goals (simp [Cc.dcl, dlOf, nvB, vrB, e])
  ·obtain ⟨a1, a2, a3, a4, a5⟩ := k2 e
   have hd : declL (d :: ds) = dlOf d :: declL ds := by simp [declL, e]
   rw [hd, show L ++ dlOf d :: declL ds = (L ++ [dlOf d]) ++ declL ds by simp]
   refine Dx.decls ds _ _ _ (h.more (dlOf d) 1 ?_ a3 a4 a5 ?_ ?_ ?_ ?_ ?_ ?_ ⟨a1, a2, fun hn => absurd e hn⟩ (Or.inr (Or.inr e)) ?_) hf hw2
   all_goals (simp [Cc.dcl, dlOf, nvB, vrB, e])
  ·obtain ⟨a1, a2, _, _, a5⟩ := k3 e
   have hd : declL (d :: ds) = declL ds := by simp [declL, e]
   rw [hd]
   have ec : c.dcl d = { c with mf := d.num.1 } := by simp [Cc.dcl, e]
   refine Dx.decls ds _ _ _ ⟨?_, ?_, ?_, ?_, ?_, ?_, ?_, ?_, ?_, h.uq, h.mx, h.kd, ?_⟩ hf hw2
   ·rw [ec]; exact h.ro
   ·rw [ec]; exact h.gh
   ·rw [ec]; exact h.ev
   ·rw [ec]; exact h.mo
   ·rw [ec]; exact h.vn
   ·rw [ec]; exact h.ix
   ·rw [a5]; exact h.nm
   ·rw [a5]; exact h.nm2
   ·rw [a5]; exact h.nl
   ·rw [ec]; exact a2
theorem idx_of {L : List DL} (uq : ∀ (k : Nat) d (k' : Nat) d', L[k]? = some d -> L[k']? = some d' -> d.2.1 = d'.2.1 -> k = k') {k : Nat} {d : DL} (h : L[k]? = some d) : idxL L d.2.1 = some k := by
 induction L generalizing k with
 | nil => simp at h
 | cons a L ih =>
  rw [idxL_cons]
  cases k with
  | zero =>
   simp at h
   subst h
   simp
  | succ k =>
   have hne : (a.2.1 == d.2.1) = false := by
    simp only [beq_eq_false_iff_ne]
    intro e
    have := uq 0 a (k + 1) d rfl h e
    omega
   rw [hne]
   have := ih (fun k d k' d' h1 h2 e => by have := uq (k + 1) d (k' + 1) d' (by simpa using h1) (by simpa using h2) e; omega) (k := k) (by simpa using h)
   simp [this]
theorem Dx.nmr {c : Cc} {s : Ck} {L : List DL} (h : Dx c s L) : NmR s.names L := by
 intro nm k hk
 obtain ⟨i, d, h1, h2⟩ := h.nm2 nm k hk
 subst h2
 have h3 := h.nm i d h1
 rw [hk] at h3
 refine ⟨i, d, idx_of h.uq h1, h1, rfl, fun e => ?_, fun e => ?_⟩
 ·subst e
  intro e2
  simp [e2] at h3
 ·subst e
  by_cases e2 : d.1 = [118, 97, 114]
  ·exact e2
  ·simp [e2] at h3
theorem Dx.dm {c c' : Cc} {s : Ck} {L : List DL} (h : Dx c s L) (e1 : c'.ro = c.ro) (e2 : c'.gh = c.gh) (e3 : c'.mo = c.mo) (e4 : c'.ix = c.ix) (e5 : c'.mf = c.mf) : Dm c' L (cntL nvB L) (cntL vrB L) := by
 have hnv : ∀ d : DL, d.1 ≠ [118, 97, 114] -> nvB d = true := fun d hd => by simp [nvB, hd]
 have hvr : ∀ d : DL, d.1 = [118, 97, 114] -> vrB d = true := fun d hd => by simp [vrB, hd]
 refine ⟨fun k d h1 h2 => ?_, fun k d h1 h2 => ?_, fun k d k' d' h1 h2 h3 h4 e => ?_, fun k d k' d' h1 h2 h3 h4 e => ?_, fun q hq => ?_, by rw [e5]; exact h.mf, fun k d h1 => (h.mx d (List.mem_of_getElem? h1)).2.1⟩
 ·have h3 := cnt_at nvB L k d h1 (hnv d h2)
  rw [e1, e2, e4, h.ro, h.gh, h.ix k d h1, if_neg h2]
  refine ⟨?_, ?_, ?_, rfl⟩
  ·have := (List.getElem?_eq_some_iff.1 h3).1; simpa using this
  ·simp [h3]
  ·simp [h3]
 ·have h3 := cnt_at vrB L k d h1 (hvr d h2)
  rw [e3, e4, h.mo, h.ix k d h1, if_pos h2]
  refine ⟨?_, ?_, rfl⟩
  ·have := (List.getElem?_eq_some_iff.1 h3).1; simpa using this
  ·simp [h3]
 ·have a := cnt_at nvB L k d h1 (hnv d h3)
  have b := cnt_at nvB L k' d' h2 (hnv d' h4)
  rw [e, b] at a
  cases a
  exact h.uq k d k' d h1 h2 rfl
 ·have a := cnt_at vrB L k d h1 (hvr d h3)
  have b := cnt_at vrB L k' d' h2 (hvr d' h4)
  rw [e, b] at a
  cases a
  exact h.uq k d k' d h1 h2 rfl
 ·rw [e1, h.ro] at hq
  obtain ⟨k, d, h1, h2, h3⟩ := cnt_sur nvB L q (by simpa using hq)
  exact ⟨k, d, h1, by simpa [nvB] using h2, h3⟩
theorem Fine.dx {x : List Dc × List (Nat × NP × BT 8)} (h : Fine x) : Dx (x.1.foldl Cc.dcl cc0) (x.1.foldl Ck.decl ck0) (declL x.1) := by
 have := Dx.decls x.1 cc0 ck0 [] Dx.start (check_none h.ck).2 h.dw
 simpa using this
theorem Fine.dm {x : List Dc × List (Nat × NP × BT 8)} (h : Fine x) : Dm (compS x) (declL x.1) (cntL nvB (declL x.1)) (cntL vrB (declL x.1)) := by
 have e := ruls_core x.2 (x.1.foldl Cc.dcl cc0)
 exact h.dx.dm (by have := congrArg Cc.ro e; exact this) (by have := congrArg Cc.gh e; exact this) (by have := congrArg Cc.mo e; exact this) (by have := congrArg Cc.ix e; exact this) (by have := congrArg Cc.mf e; exact this)
def ruleOf (rs : List (Nat × NP × BT 8)) (ev : List UInt8) : Option (BT 8) := match rs with
 | [] => none
 | r :: rs => if r.2.1.1 = ev then some r.2.2 else ruleOf rs ev
theorem ruleOf_cons (r : Nat × NP × BT 8) (rs : List (Nat × NP × BT 8)) (ev : List UInt8) : ruleOf (r :: rs) ev = if r.2.1.1 = ev then some r.2.2 else ruleOf rs ev := rfl
theorem genB_ix {c c' : Cc} (h : c'.ix = c.ix) : ∀ d, genB c' d = genB c d
 | 0 => rfl
 | d + 1 => by
  have ih := genB_ix h d
  have hr : ∀ n, c'.ref n = c.ref n := fun n => by unfold Cc.ref; rw [h]
  have ho : ∀ n, c'.opd n = c.opd n := fun n => by unfold Cc.opd; rw [h]
  have ht : ∀ x, c'.tsx x = c.tsx x := fun x => by unfold Cc.tsx; rw [hr, ho, ho]
  have hp : ∀ x, c'.pln x = c.pln x := fun x => by unfold Cc.pln; rw [hr, hr]
  have hS : ∀ base lp r, genS (genB c d) c' base lp r = genS (genB c d) c base lp r := fun base lp r => by unfold genS; rw [ht, hp]
  funext base lp xs
  show genL (genB c' d) c' base lp xs = genL (genB c d) c base lp xs
  rw [ih]
  have : ∀ (xs : List (St × BT d × BT d)) base, genL (genB c d) c' base lp xs = genL (genB c d) c base lp xs := by
   intro xs
   induction xs with
   | nil => intro _; rfl
   | cons r rs ihl =>
    intro base
    show genS (genB c d) c' base lp r ++ genL (genB c d) c' (base + (genS (genB c d) c' base lp r).length) lp rs = genS (genB c d) c base lp r ++ genL (genB c d) c (base + (genS (genB c d) c base lp r).length) lp rs
    rw [hS, ihl]
  exact this xs base
theorem rul_eq (c : Cc) (r : Nat × NP × BT 8) (h1 : c.st = []) (h2 : c.lp = 0) : (c.rul r).rt = (r.2.1.1, genB c 8 0 0 r.2.2) :: c.rt /\ (c.rul r).st = [] /\ (c.rul r).lp = 0 /\ (c.rul r).ix = c.ix := by
 have e := gen_ok 8 c r.2.2
 rw [h1, h2] at e
 unfold Cc.rul
 rw [e]
 refine ⟨?_, rfl, rfl, rfl⟩
 simp [Cc.nost, Cc.more, Cc.with]
theorem ruls_rt : ∀ (rs : List (Nat × NP × BT 8)) (c : Cc), c.st = [] -> c.lp = 0 -> (rs.map fun r => r.2.1.1).Nodup -> ∀ ev, lookV ev (rs.foldl Cc.rul c).rt = match ruleOf rs ev with
  | some b => some (genB c 8 0 0 b)
  | none => lookV ev c.rt
 | [], c, _, _, _, ev => rfl
 | r :: rs, c, h1, h2, hd, ev => by
  obtain ⟨e1, e2, e3, e4⟩ := rul_eq c r h1 h2
  rw [List.map_cons, List.nodup_cons] at hd
  rw [List.foldl_cons, ruls_rt rs (c.rul r) e2 e3 hd.2 ev, genB_ix e4, e1, ruleOf_cons]
  by_cases e : r.2.1.1 = ev
  ·have hn : ruleOf rs ev = none := by
    have : ∀ (rs : List (Nat × NP × BT 8)), ev ∉ rs.map (fun r => r.2.1.1) -> ruleOf rs ev = none := by
     intro rs
     induction rs with
     | nil => intro _; rfl
     | cons a rs ih =>
      intro hm
      simp at hm
      rw [ruleOf_cons, if_neg (fun e => hm.1 e.symm)]
      exact ih (by simpa using hm.2)
    exact this rs (e ▸ hd.1)
   rw [hn, if_pos e]
   show (if r.2.1.1 = ev then _ else _) = _
   rw [if_pos e]
  ·rw [if_neg e]
   cases ruleOf rs ev with
   | some b => rfl
   | none =>
    show (if r.2.1.1 = ev then _ else _) = _
    rw [if_neg e]
theorem rule_none {L : List DL} {s : Ck} (hn : NmR s.names L) {r : Nat × NP × BT 8} (hw : wfB 8 0 r.2.2) (h : (s.rule r).first = none) :
  (look r.2.1.1 s.rules).getD 0 = 0 /\ (r.2.1.1 = [109, 105, 115, 115] \/ look r.2.1.1 s.names = some 0) /\ TR L 8 0 r.2.2 (treeOf L 8 r.2.2) /\ wtB 8 (treeOf L 8 r.2.2) <= 50 ^ 2 * costB 8 r.2.2 /\ (s.rule r).names = s.names /\ (s.rule r).rules = (r.2.1.1, 1) :: s.rules := by
 unfold Ck.rule at h ⊢
 have f2 : ((s.rule1 r.1 r.2.1).rule2 r.2.1).first = none := none_of (fun _ he => fs_block 8 _ _ he) h
 have f1 : (s.rule1 r.1 r.2.1).first = none := none_of (fun _ he => fs_rule2 he _) f2
 have h1 : (look r.2.1.1 s.rules).getD 0 = 0 /\ s.rule1 r.1 r.2.1 = s.count r.2.1 := by
  unfold Ck.rule1 at f1 ⊢
  split at f1
  ·exact absurd f1 fault_none
  ·rename_i hc
   rw [if_neg hc]
   exact ⟨by omega, rfl⟩
 obtain ⟨k1, k2⟩ := h1
 rw [k2] at f2 h ⊢
 have h2 : (r.2.1.1 = [109, 105, 115, 115] \/ look r.2.1.1 s.names = some 0) /\ (s.count r.2.1).rule2 r.2.1 = s.count r.2.1 := by
  unfold Ck.rule2 at f2 ⊢
  split at f2
  ·rename_i e
   rw [if_pos e]
   exact ⟨Or.inl e, rfl⟩
  ·rename_i e
   rw [if_neg e]
   obtain ⟨u1, u2⟩ := use_none f2
   exact ⟨Or.inr u1, u2⟩
 obtain ⟨k3, k4⟩ := h2
 rw [k4] at h ⊢
 obtain ⟨b1, b2, b3⟩ := block_tr 8 0 r.2.2 (s.count r.2.1) hn hw h
 rw [b1]
 refine ⟨k1, k3, b2, b3, rfl, ?_⟩
 show (r.2.1.1, (look r.2.1.1 s.rules).getD 0 + 1) :: s.rules = _
 rw [k1]
theorem rules_none {L : List DL} : ∀ (rs : List (Nat × NP × BT 8)) (s : Ck), NmR s.names L -> (∀ r ∈ rs, wfB 8 0 r.2.2) -> (rs.foldl Ck.rule s).first = none ->
  (∀ r ∈ rs, (look r.2.1.1 s.rules).getD 0 = 0 /\ (r.2.1.1 = [109, 105, 115, 115] \/ look r.2.1.1 s.names = some 0) /\ TR L 8 0 r.2.2 (treeOf L 8 r.2.2) /\ wtB 8 (treeOf L 8 r.2.2) <= 50 ^ 2 * costB 8 r.2.2) /\ (rs.map fun r => r.2.1.1).Nodup /\ ∀ ev, (look ev (rs.foldl Ck.rule s).rules).getD 0 ≠ 0 -> (look ev s.rules).getD 0 ≠ 0 \/ ∃ b, ruleOf rs ev = some b
 | [], s, _, _, _ => ⟨fun _ hx => (by cases hx), by simp, fun ev h => Or.inl h⟩
 | r :: rs, s, hn, hw, h => by
  rw [List.foldl_cons] at h ⊢
  have f0 : (s.rule r).first = none := none_of (fun _ he => fs_fold (fun s x hx => fs_rule hx x) rs _ he) h
  obtain ⟨a1, a2, a3, a4, a5, a6⟩ := rule_none hn (hw r (by simp)) f0
  obtain ⟨b1, b2, b3⟩ := rules_none rs (s.rule r) (by rw [a5]; exact hn) (fun x hx => hw x (by simp [hx])) h
  have hne : ∀ x ∈ rs, x.2.1.1 ≠ r.2.1.1 := fun x hx e => by
   have := (b1 x hx).1
   rw [a6, look_cons, if_pos e.symm] at this
   simp at this
  refine ⟨fun x hx => ?_, ?_, fun ev hev => ?_⟩
  ·rcases List.mem_cons.1 hx with rfl | hx
   ·exact ⟨a1, a2, a3, a4⟩
   ·obtain ⟨c1, c2, c3, c4⟩ := b1 x hx
    rw [a6, look_cons, if_neg (Ne.symm (hne x hx))] at c1
    rw [a5] at c2
    exact ⟨c1, c2, c3, c4⟩
  ·rw [List.map_cons, List.nodup_cons]
   refine ⟨fun hm => ?_, b2⟩
   obtain ⟨x, hx, e⟩ := List.mem_map.1 hm
   exact hne x hx e
  ·rw [ruleOf_cons]
   by_cases e : r.2.1.1 = ev
   ·rw [if_pos e]; exact Or.inr ⟨_, rfl⟩
   ·rw [if_neg e]
    rcases b3 ev hev with h3 | h3
    ·rw [a6, look_cons, if_neg e] at h3
     exact Or.inl h3
    ·exact Or.inr h3
theorem ruleOf_mem : ∀ {rs : List (Nat × NP × BT 8)} {ev : List UInt8} {b : BT 8}, ruleOf rs ev = some b -> ∃ r ∈ rs, r.2.1.1 = ev /\ r.2.2 = b
 | [], _, _, h => by cases h
 | r :: rs, ev, b, h => by
  unfold ruleOf at h
  split at h
  ·rename_i e
   cases h
   exact ⟨r, by simp, e, rfl⟩
  ·obtain ⟨x, hx, h1⟩ := ruleOf_mem h
   exact ⟨x, by simp [hx], h1⟩
theorem read_cost {l : List UInt8} {x : List Dc × List (Nat × NP × BT 8)} (h : readS l = .ok x) : ∀ r ∈ x.2, costB 8 r.2.2 <= 2800 := by
 unfold readS at h
 split at h
 ·cases h
 ·rename_i hl
  cases hp : policyS l (tokAt l 0) with
  | error e => rw [hp] at h; cases h
  | ok p =>
   obtain ⟨y, t'⟩ := p
   rw [hp] at h
   simp only at h
   cases hc : (checkS y.1 y.2).first with
   | some e => rw [hc] at h; cases h
   | none =>
    rw [hc] at h
    simp only [Except.ok.injEq] at h
    subst h
    unfold policyS at hp
    obtain ⟨ds, t1, h1, hp⟩ := bindR_ok hp
    obtain ⟨rs, t2, h2, hp⟩ := bindR_ok hp
    have ht1 := (gd_decls _ _ (nx_ok l 0 (Nat.zero_le _)) ds t1 h1).2
    have ht2 := (gd_rules (by omega) _ t1 ht1 rs t2 h2).2
    have k2 := rules_c _ _ _ _ h2
    unfold endS at hp
    split at hp
    ·simp only [Except.ok.injEq, Prod.mk.injEq] at hp
     obtain ⟨rfl, _⟩ := hp
     intro r hr
     have := k2.1 r hr
     unfold Tk at ht2
     omega
    ·cases hp
structure Pol where
 L : List DL
 mf : Nat
 rul : List UInt8 -> Option (RT 8)
def polOf (x : List Dc × List (Nat × NP × BT 8)) : Pol := ⟨declL x.1, (compS x).mf, fun ev => (ruleOf x.2 ev).map (treeOf (declL x.1) 8)⟩
structure Prg (c : Cc) (P : Pol) (qi vi : Nat -> Nat) : Prop where
 dm : Dm c P.L qi vi
 mf : P.mf = c.mf
 ru : ∀ ev, match P.rul ev with
  | some y => ∃ x, lookV ev c.rt = some (genB c 8 0 0 x) /\ TR P.L 8 0 x y /\ wtB 8 y <= 7000000 /\ (genB c 8 0 0 x).length <= 800000
  | none => lookV ev c.rt = none
 ev : ∀ (k : Nat) d, P.L[k]? = some d -> d.1 ≠ [118, 97, 114] -> c.ev[qi k]? = some d.2.1
 vn : ∀ (k : Nat) d, P.L[k]? = some d -> d.1 = [118, 97, 114] -> c.vn[vi k]? = some d.2.1
 le : c.ev.length = c.ro.length /\ c.vn.length = c.mo.length /\ c.ro.length <= 8 /\ c.mo.length <= 8
 miss : ∃ y, P.rul [109, 105, 115, 115] = some y
 uq : ∀ (k : Nat) d (k' : Nat) d', P.L[k]? = some d -> P.L[k']? = some d' -> d.2.1 = d'.2.1 -> k = k'
 kd : ∀ d ∈ P.L, d.1 = [113, 117, 101, 117, 101] \/ d.1 = [103, 104, 111, 115, 116] \/ d.1 = [118, 97, 114]
 mx : ∀ d ∈ P.L, 1 <= d.2.2 /\ d.2.2 <= 99 /\ (d.1 ≠ [118, 97, 114] -> d.2.2 <= 50)
 ll : P.L.length <= 8
 sv : ∀ q, q < c.mo.length -> ∃ (k : Nat) (d : DL), P.L[k]? = some d /\ d.1 = [118, 97, 114] /\ vi k = q
theorem genS_len {β : Type} {gen : Nat -> Nat -> β -> List Stp} {f : β -> Nat} (hg : ∀ b l x, (gen b l x).length <= f x) (c : Cc) (base lp : Nat) (r : St × β × β) : (genS gen c base lp r).length <= 4 + f r.2.1 + f r.2.2 := by
 unfold genS
 have a1 := hg (base + 1) lp r.2.1
 have a2 := hg (base + 3) (lp + 1) r.2.1
 have a3 := hg (base + (gen (base + 1) lp r.2.1).length + 2) lp r.2.2
 split
 ·simp; omega
 ·split
  ·simp; omega
  ·simp; omega
theorem genB_len (c : Cc) : ∀ (d base lp : Nat) (x : BT d), (genB c d base lp x).length <= costB d x
 | 0, _, _, _ => Nat.zero_le _
 | d + 1, base, lp, xs => by
  have : ∀ (xs : List (St × BT d × BT d)) base, (genL (genB c d) c base lp xs).length <= costL (costB d) xs := by
   intro xs
   induction xs with
   | nil => intro _; exact Nat.zero_le _
   | cons r rs ih =>
    intro base
    have h1 := genS_len (genB_len c d) c base lp r
    have h2 := ih (base + (genS (genB c d) c base lp r).length)
    show (genS (genB c d) c base lp r ++ _).length <= 4 + costB d r.2.1 + costB d r.2.2 + costL (costB d) rs
    rw [List.length_append]
    omega
  exact this xs base
theorem prg_of {l : List UInt8} {x : List Dc × List (Nat × NP × BT 8)} (h : readS l = .ok x) : Prg (compS x) (polOf x) (cntL nvB (declL x.1)) (cntL vrB (declL x.1)) := by
 have hF := read_fine h
 have hwf := read_wf h
 have hco := read_cost h
 have D := hF.dx
 have e := ruls_core x.2 (x.1.foldl Cc.dcl cc0)
 have hR := rules_none (L := declL x.1) x.2 (x.1.foldl Ck.decl ck0) D.nmr hwf (check_none hF.ck).1
 obtain ⟨r1, r2, r3⟩ := hR
 have hst : (x.1.foldl Cc.dcl cc0).st = [] /\ (x.1.foldl Cc.dcl cc0).lp = 0 /\ (x.1.foldl Cc.dcl cc0).rt = [] := by
  have : ∀ (ds : List Dc) (c : Cc), (ds.foldl Cc.dcl c).st = c.st /\ (ds.foldl Cc.dcl c).lp = c.lp /\ (ds.foldl Cc.dcl c).rt = c.rt := by
   intro ds
   induction ds with
   | nil => intro c; exact ⟨rfl, rfl, rfl⟩
   | cons d ds ih =>
    intro c
    rw [List.foldl_cons]
    obtain ⟨a, b, f⟩ := ih (c.dcl d)
    have hd : (c.dcl d).st = c.st /\ (c.dcl d).lp = c.lp /\ (c.dcl d).rt = c.rt := by refine ⟨?_, ?_, ?_⟩ <;> unfold Cc.dcl <;> (repeat' split) <;> rfl
    exact ⟨a.trans hd.1, b.trans hd.2.1, f.trans hd.2.2⟩
  exact this x.1 cc0
 have hix : (compS x).ix = (x.1.foldl Cc.dcl cc0).ix := by have := congrArg Cc.ix e; exact this
 have hev : (compS x).ev = (x.1.foldl Cc.dcl cc0).ev := by have := congrArg Cc.ev e; exact this
 have hvn : (compS x).vn = (x.1.foldl Cc.dcl cc0).vn := by have := congrArg Cc.vn e; exact this
 have hro : (compS x).ro = (x.1.foldl Cc.dcl cc0).ro := by have := congrArg Cc.ro e; exact this
 have hmo : (compS x).mo = (x.1.foldl Cc.dcl cc0).mo := by have := congrArg Cc.mo e; exact this
 have hl8 := D.nl.2
 have hfl : ∀ p : DL -> Bool, ((declL x.1).filter p).length <= 8 := fun p => Nat.le_trans (List.length_filter_le _ _) hl8
 refine ⟨hF.dm, rfl, fun ev => ?_, fun k d h1 h2 => ?_, fun k d h1 h2 => ?_, ?_, ?_, D.uq, D.kd, D.mx, hl8, fun q hq => ?_⟩
 ·have hrt := ruls_rt x.2 (x.1.foldl Cc.dcl cc0) hst.1 hst.2.1 r2 ev
  show match (ruleOf x.2 ev).map (treeOf (declL x.1) 8) with
   | some y => _
   | none => _
  cases hr : ruleOf x.2 ev with
  | none =>
   rw [hr, hst.2.2] at hrt
   exact hrt
  | some b =>
   rw [hr] at hrt
   obtain ⟨r, hm, _, rfl⟩ := ruleOf_mem hr
   obtain ⟨_, _, t1, t2⟩ := r1 r hm
   have hc := hco r hm
   refine ⟨r.2.2, ?_, t1, by omega, Nat.le_trans (genB_len _ 8 0 0 _) (by omega)⟩
   rw [genB_ix hix]
   exact hrt
 ·have h3 := cnt_at nvB (declL x.1) k d h1 (by simp [nvB, h2])
  rw [hev, D.ev]
  simp [h3]
 ·have h3 := cnt_at vrB (declL x.1) k d h1 (by simp [vrB, h2])
  rw [hvn, D.vn]
  simp [h3]
 ·rw [hev, hro, hvn, hmo, D.ev, D.ro, D.vn, D.mo]
  simp [hfl]
 ·have hm : (look [109, 105, 115, 115] (x.2.foldl Ck.rule (x.1.foldl Ck.decl ck0)).rules).getD 0 ≠ 0 := by
   intro e0
   have := hF.ck
   unfold checkS missS at this
   rw [if_pos e0] at this
   exact fault_none this
  have hrl : (x.1.foldl Ck.decl ck0).rules = [] := by
   have hdr : ∀ (s : Ck) (n : NP) (k : Nat), (s.declare n k).rules = s.rules := fun s n k => by
    unfold Ck.declare Ck.fault
    repeat' split
    all_goals rfl
   have hbr : ∀ (s : Ck) (v p m : Nat), (s.bound v p m).rules = s.rules := fun s v p m => by
    unfold Ck.bound Ck.fault
    repeat' split
    all_goals rfl
   have hd1 : ∀ (s : Ck) (d : Dc), (s.decl d).rules = s.rules := fun s d => by
    unfold Ck.decl
    split
    ·rw [hbr, hdr]
    ·split
     ·rw [hbr, hdr]
     ·split
      ·rw [hbr]
       unfold Ck.fault
       repeat' split
       all_goals rfl
      ·rfl
   have : ∀ (ds : List Dc) (s : Ck), (ds.foldl Ck.decl s).rules = s.rules := by
    intro ds
    induction ds with
    | nil => intro s; rfl
    | cons d ds ih => intro s; rw [List.foldl_cons, ih, hd1]
   exact this x.1 ck0
  rcases r3 _ hm with h3 | ⟨b, h3⟩
  ·rw [hrl] at h3
   exact absurd rfl h3
  ·exact ⟨treeOf (declL x.1) 8 b, by show (ruleOf x.2 _).map _ = _; rw [h3]; rfl⟩
 ·rw [hmo, D.mo] at hq
  obtain ⟨k, d, h1, h2, h3⟩ := cnt_sur vrB (declL x.1) q (by simpa using hq)
  exact ⟨k, d, h1, by simpa [vrB] using h2, h3⟩
def evOf (c : Cc) (A : Ar) (key : Nat) : Option (List UInt8) := (A.find key).bind fun p => if p.2 then c.ev[p.1]? else some [109, 105, 115, 115]
def Pol.tree (P : Pol) (ev : List UInt8) : RT 8 := (P.rul ev).getD (RTnil 8)
def Pol.event (P : Pol) (s : Ex) (key : Nat) : List UInt8 := match whereX s.Q key with
 | none => [109, 105, 115, 115]
 | some p => match P.L[p.1]? with
  | some d => d.2.1
  | none => []
def Pol.hit (P : Pol) (s : Ex) (key : Nat) : Bool := match whereX s.Q key with
 | none => false
 | some p => resX P.L p.1
def Ex.fresh (s : Ex) : Ex := { s with gone := [] }
def Pol.access (P : Pol) (s : Ex) (key : Nat) : Except Nat (Bool × List Nat × Ex) := match Ex.blk P.L P.mf key 8 (P.tree (P.event s key)) s.fresh with
 | .error e => .error e
 | .ok t => .ok (P.hit s key, t.gone, t.fresh)
def MS (c : Cc) (P : Pol) (qi vi : Nat -> Nat) (A : Ar) (V : List Nat) (s : Ex) : Prop := ∃ Qm, Sim c P.L qi vi ⟨A, V, [], 0, 0⟩ s.fresh Qm
theorem genS_tg {β : Type} {gen : Nat -> Nat -> β -> List Stp} (hg : ∀ b l x, ∀ s ∈ gen b l x, s.target <= b + (gen b l x).length) (c : Cc) (base lp : Nat) (r : St × β × β) : ∀ s ∈ genS gen c base lp r, s.target <= base + (genS gen c base lp r).length := by
 intro s hs
 unfold genS at hs ⊢
 have a1 := hg (base + 1) lp r.2.1
 have a2 := hg (base + 3) (lp + 1) r.2.1
 have a3 := hg (base + (gen (base + 1) lp r.2.1).length + 2) lp r.2.2
 generalize gen (base + (gen (base + 1) lp r.2.1).length + 2) lp r.2.2 = E at *
 generalize gen (base + 1) lp r.2.1 = T at *
 generalize gen (base + 3) (lp + 1) r.2.1 = U at *
 split at hs
 ·rename_i e
  rw [if_pos e]
  simp at hs ⊢
  rcases hs with rfl | hs | rfl | hs
  ·simp; omega
  ·have := a1 s hs; omega
  ·simp [jmpS]
   try omega
  ·have := a3 s hs; omega
 ·rename_i e
  rw [if_neg e]
  split at hs
  ·rename_i e
   rw [if_pos e]
   simp at hs ⊢
   rcases hs with rfl | rfl | rfl | hs | rfl
   ·simp
   ·simp; omega
   ·simp; omega
   ·have := a2 s hs; omega
   ·simp [jmpS]
    try omega
  ·rename_i e
   rw [if_neg e]
   simp at hs ⊢
   subst hs
   simp [Cc.pln]
theorem genB_tg (c : Cc) : ∀ (d base lp : Nat) (x : BT d), ∀ s ∈ genB c d base lp x, s.target <= base + (genB c d base lp x).length
 | 0, _, _, _, s, hs => by cases hs
 | d + 1, base, lp, xs, s, hs => by
  have : ∀ (xs : List (St × BT d × BT d)) base, ∀ s ∈ genL (genB c d) c base lp xs, s.target <= base + (genL (genB c d) c base lp xs).length := by
   intro xs
   induction xs with
   | nil => intro _ s hs; cases hs
   | cons r rs ih =>
    intro base s hs
    have hs : s ∈ genS (genB c d) c base lp r ++ genL (genB c d) c (base + (genS (genB c d) c base lp r).length) lp rs := hs
    show s.target <= base + (genS (genB c d) c base lp r ++ genL (genB c d) c (base + (genS (genB c d) c base lp r).length) lp rs).length
    rw [List.length_append]
    rcases List.mem_append.1 hs with h | h
    ·have := genS_tg (genB_tg c d) c base lp r s h; omega
    ·have := ih _ s h; omega
  exact this xs base s hs
section
variable {c : Cc} {P : Pol} {qi vi : Nat -> Nat} {A : Ar} {V : List Nat} {s : Ex}
structure AccN (c : Cc) (A : Ar) (V : List Nat) (key : Nat) (ev : List UInt8) (hit : Bool) : Prop where
 he : evOf c A key = some ev
 hh : cachedS c A key = some hit
 sn : ((lookV ev c.rt).getD []).length <= 900000
 tg : ∀ s ∈ (lookV ev c.rt).getD [], s.target <= 900000
 nn : A.nodes.length <= 1000000
 qn : A.qs.length <= 1000000
 vn : V.length <= 1000000
theorem AbsR.small {nq : Nat} {cap : Nat -> Nat} {Q : Nat -> List (Nat × Nat)} (h : AbsR A nq cap Q) : A.nodes.length <= 1000 /\ A.qs.length <= 8 := by
 obtain ⟨I, fr, h, _⟩ := h
 have := h.nlb; have := h.nm; have := h.qn
 omega
theorem acc_spec (hp : Prg c P qi vi) (hs : MS c P qi vi A V s) {key : Nat} (hkey : key < keyMax) :
  ∃ ev, AccN c A V key ev (P.hit s key) /\ match P.access s key with
  | .error e => ∃ f i p, (e = 11 /\ i = 10 \/ e = 12 /\ i = 11) /\ Rn.go c key ((lookV ev c.rt).getD []) f 0 ⟨A, V, [], 0, 0⟩ = some (.error (i, p))
  | .ok (_, gone, t) => ∃ f R, Rn.go c key ((lookV ev c.rt).getD []) f 0 ⟨A, V, [], 0, 0⟩ = some (.ok R) /\ R.ev = gone /\ MS c P qi vi R.A R.vars t /\ t.gone = [] := by
 obtain ⟨Qm, hS⟩ := hs
 have hsm : A.nodes.length <= 1000 /\ A.qs.length <= 8 := AbsR.small hS.ar
 have hvl : V.length = c.mo.length := hS.rl
 have hle := hp.le
 have hwh : (whereX s.Q key = none /\ evOf c A key = some [109, 105, 115, 115] /\ cachedS c A key = some false) \/ ∃ k i d, whereX s.Q key = some (k, i) /\ P.L[k]? = some d /\ d.1 ≠ [118, 97, 114] /\ evOf c A key = some d.2.1 /\ cachedS c A key = some (resX P.L k) := by
  rcases hS.ar.where' key with ⟨q, f, l1, l2, hi⟩ | hn
  ·obtain ⟨k, d, h1, h2, rfl, h4, h5⟩ := hS.ls.at_in hp.dm hi
   refine Or.inr ⟨k, l1.length, d, h4, h1, h2, ?_, cached_in hS.ar hp.dm h1 h2 hi⟩
   unfold evOf
   have := (hS.ar.find_in hi).1
   simp only at this
   rw [this]
   simp [hp.ev k d h1 h2]
  ·refine Or.inl ⟨hS.ls.at_no hp.dm hn, ?_, cached_no hS.ar hn⟩
   unfold evOf
   have := (hS.ar.find_no hn).1
   simp only at this
   rw [this]
   rfl
 have hev : evOf c A key = some (P.event s key) /\ cachedS c A key = some (P.hit s key) := by
  unfold Pol.event Pol.hit
  rcases hwh with ⟨h1, h2, h3⟩ | ⟨k, i, d, h1, h2, h3, h4, h5⟩
  ·rw [h1]; exact ⟨h2, h3⟩
  ·rw [h1]
   simp only [h2]
   exact ⟨h4, h5⟩
 have hru := hp.ru (P.event s key)
 have key2 : ∃ x, (lookV (P.event s key) c.rt).getD [] = genB c 8 0 0 x /\ TR P.L 8 0 x (P.tree (P.event s key)) /\ wtB 8 (P.tree (P.event s key)) <= 7000000 /\ (genB c 8 0 0 x).length <= 800000 := by
  unfold Pol.tree
  cases hr : P.rul (P.event s key) with
  | none =>
   rw [hr] at hru
   refine ⟨BTnil 8, ?_, trivial, by decide, Nat.zero_le _⟩
   rw [hru]
   rfl
  | some y =>
   rw [hr] at hru
   obtain ⟨x, h1, h2, h3, h4⟩ := hru
   exact ⟨x, by rw [h1]; rfl, h2, h3, h4⟩
 obtain ⟨x, k1, k2, k3, k4⟩ := key2
 refine ⟨P.event s key, ⟨hev.1, hev.2, by rw [k1]; omega, fun s hs => ?_, by omega, by omega, by omega⟩, ?_⟩
 ·rw [k1] at hs
  have := genB_tg c 8 0 0 x s hs
  omega
 ·rw [k1]
  have hr := sim_rule hp.dm hkey k2 hS (by show 0 + _ <= _; omega)
  unfold Pol.access
  rw [hp.mf]
  cases hx : Ex.blk P.L c.mf key 8 (P.tree (P.event s key)) s.fresh with
  | error e =>
   rw [hx] at hr
   obtain ⟨i, p, h1, f, h2⟩ := hr
   exact ⟨f, i, p, h1, h2⟩
  | ok t =>
   rw [hx] at hr
   obtain ⟨R, Qm', h1, f, h2⟩ := hr
   exact ⟨f, R, h2, h1.ev, ⟨Qm', h1.ar, h1.ls, h1.vl, h1.rl, h1.vv, rfl, h1.fb⟩, rfl⟩
end
def Pol.start (P : Pol) : Ex := ⟨List.replicate P.L.length [], List.replicate P.L.length 0, []⟩
def arS (ro : List Nat) : Ar := ⟨nds ro.length, -1, [], 0, ro.map fun r => (0, r)⟩
theorem nds_at {n k : Nat} (h : k < n) : (nds n)[k]? = some ⟨0, 0, k, k, k⟩ := by simp [nds, h]
theorem rep_start (ro : List Nat) (h8 : ro.length <= 8) (h50 : ∀ r ∈ ro, r <= 50) : Rep (arS ro) ro.length (fun q => ro.getD q 0) (fun _ => []) [] [] := by
 have htot : ∀ n, tot n (fun _ => []) = 0 := by
  intro n
  induction n with
  | zero => rfl
  | succ n ih => show tot n _ + 0 = 0; rw [ih]
 refine ⟨by simp [arS], fun q hq => ?_, fun q hq => ?_, (fun q _ => by simp), (fun q _ n hn => by cases hn), (fun n hn => by cases hn), (fun k n hk => by cases hk), rfl, by simp, (fun n hn => by cases hn), ?_, ?_, (fun q hq => by simp), fun q hq => ?_, h8, ?_⟩
 ·simp [arS, hq]
 ·refine ⟨⟨?_, ?_⟩, trivial⟩
  ·unfold nxt; show ((nds ro.length)[q]?).map _ = _; rw [nds_at hq]; rfl
  ·unfold prv; show ((nds ro.length)[q]?).map _ = _; rw [nds_at hq]; rfl
 ·simp [arS, nds, htot]
 ·simp [arS, htot]
 ·simp only [List.getD_eq_getElem?_getD, List.getElem?_eq_getElem hq, Option.getD_some]
  exact h50 _ (List.getElem_mem hq)
 ·simp [arS, nds]
  try omega
theorem ms_start {c : Cc} {P : Pol} {qi vi : Nat -> Nat} (hp : Prg c P qi vi) : MS c P qi vi (arS c.ro) (List.replicate c.mo.length 0) P.start := by
 have h50 : ∀ r ∈ c.ro, r <= 50 := fun r hr => by
  obtain ⟨q, hq, rfl⟩ := List.getElem_of_mem hr
  obtain ⟨k, d, h1, h2, h3⟩ := hp.dm.sur q hq
  have h4 := (hp.dm.isq k d h1 h2).2.1
  rw [h3, List.getElem?_eq_getElem hq] at h4
  have h5 := (hp.mx d (List.mem_of_getElem? h1)).2.2 h2
  simp at h4
  omega
 have hrep := rep_start c.ro hp.le.2.2.1 h50
 refine ⟨fun _ => [], ⟨_, _, hrep, fun q _ => rfl⟩, ⟨by simp [Pol.start, Ex.fresh], fun k d h1 h2 => ?_, fun k d h1 h2 => ?_⟩, by simp [Pol.start, Ex.fresh], by simp, fun k d h1 h2 => ?_, rfl, (fun q _ e he => by cases he)⟩
 ·have := (List.getElem?_eq_some_iff.1 h1).1
  simp [Pol.start, Ex.fresh, this]
 ·have := (List.getElem?_eq_some_iff.1 h1).1
  simp [Pol.start, Ex.fresh, this]
 ·have := (List.getElem?_eq_some_iff.1 h1).1
  have hv := (hp.dm.isv k d h1 h2).1
  exact ⟨0, by simp [Pol.start, Ex.fresh, this], by simp [hv], Nat.zero_le _⟩
def Pol.find (P : Pol) (name : List UInt8) : Option (Nat × DL) := match idxL P.L name with
 | none => none
 | some k => match P.L[k]? with
  | some d => some (k, d)
  | none => none
def Pol.keys (P : Pol) (s : Ex) (name : List UInt8) : Option (List Nat) := match P.find name with
 | none => none
 | some (k, d) => if d.1 = [118, 97, 114] then none else some ((s.Q.getD k []).map Prod.fst)
def Pol.value (P : Pol) (s : Ex) (name : List UInt8) : Option Nat := match P.find name with
 | none => none
 | some (k, d) => if d.1 = [118, 97, 114] then some (s.V.getD k 0) else none
def Ex.removed (s : Ex) (key : Nat) : Bool × Ex := match whereX s.Q key with
 | none => (false, s)
 | some p => (true, s.out p.1 p.2)
section
variable {c : Cc} {P : Pol} {qi vi : Nat -> Nat} {A : Ar} {V : List Nat} {s : Ex}
theorem find_of (hp : Prg c P qi vi) {k : Nat} {d : DL} (h : P.L[k]? = some d) : P.find d.2.1 = some (k, d) := by
 unfold Pol.find
 rw [idx_of hp.uq h]
 simp only [h]
theorem idx_at : ∀ {L : List DL} {x : List UInt8} {k : Nat}, idxL L x = some k -> ∃ d, L[k]? = some d /\ d.2.1 = x
 | [], _, _, h => by cases h
 | a :: L, x, k, h => by
  rw [idxL_cons] at h
  split at h
  ·rename_i e
   cases h
   exact ⟨a, rfl, by simpa using e⟩
  ·simp only [Option.map_eq_some_iff] at h
   obtain ⟨j, hj, rfl⟩ := h
   obtain ⟨d, h1, h2⟩ := idx_at hj
   exact ⟨d, by simpa using h1, h2⟩
theorem find_some' {x : List UInt8} {k : Nat} {d : DL} (h : P.find x = some (k, d)) : P.L[k]? = some d /\ d.2.1 = x := by
 unfold Pol.find at h
 split at h
 ·cases h
 ·rename_i j hj
  obtain ⟨d', h1, h2⟩ := idx_at hj
  rw [h1] at h
  simp only [Option.some.injEq, Prod.mk.injEq] at h
  obtain ⟨rfl, rfl⟩ := h
  exact ⟨h1, h2⟩
theorem rem_spec (hp : Prg c P qi vi) (hs : MS c P qi vi A V s) (key : Nat) : ∃ B, A.forget key = some ((s.removed key).1, B) /\ MS c P qi vi B V (s.removed key).2 := by
 obtain ⟨Qm, hS⟩ := hs
 rcases hS.ar.where' key with ⟨q, f, l1, l2, hi⟩ | hn
 ·obtain ⟨k, d, h1, h2, rfl, h4, h5⟩ := hS.ls.at_in hp.dm hi
  obtain ⟨B, b1, b2⟩ := hS.ar.forget_in hi
  have h4 : whereX s.Q key = some (k, l1.length) := h4
  unfold Ex.removed
  rw [h4]
  refine ⟨B, b1, fun p => delK key (Qm p), b2, ?_, hS.vl, hS.rl, hS.vv, rfl, fun q hq e he => hS.fb q hq e ((List.eraseP_sublist).subset he)⟩
  refine (hS.ls.mod hp.dm h1 h2 (fun l => l.eraseIdx l1.length)).congr hp.dm (fun q hq => ?_)
  by_cases e : q = qi k
  ·subst e
   rw [upd_same, hi.del.1, hi.at']
   rw [List.eraseIdx_append_of_length_le (Nat.le_refl _)]
   simp
  ·rw [upd_other _ _ e, hi.del.2 q hq e]
 ·have h4 : whereX s.Q key = none := hS.ls.at_no hp.dm hn
  unfold Ex.removed
  rw [h4]
  exact ⟨A, hS.ar.forget_no hn, Qm, hS⟩
end
end Go.Proofs.YtfddoieakfpagabGreatDoor
