import Derived.Deep.DeepCutAuto
import Derived.BigRegion
import Derived.Shelf.SlMaps.Clone
import Derived.Test.YtfddoieakfpagaaGreatDoorHC
import Derived.Test.YtfddoieakfpagaaGreatDoorHA
import Derived.BigQuiet
import Derived.Test.YtfddoieakfpagaaGreatDoorGD
import Derived.Test.YtfddoieakfpagaaGreatDoorHB
import Derived.Test.YtfddoieakfpagaaGreatDoorGF
import Derived.ScopeJumps
import Derived.WalkMore
import Derived.Deep.MidRow
import Derived.Test.YtfddoieakfpagaaGreatDoorGC
import Derived.Laws.MakeOwn
namespace Go.Proofs.YtfddoieakfpagaaGreatDoor
open Go.RowKit
theorem aNd {w : World} {lo lo' size n : Nat} {e : TypeId} {v : Value} {xs : List Value} (h : w.ownsRow lo e size v n xs) (hl : lo' <= lo) : w.ownsRow lo' e size v n xs := by
 obtain ⟨h1, h2⟩ := h
 refine ⟨h1, ?_⟩
 rcases h2 with h2 | ⟨g, cap, cur, a, b, c⟩
 ·exact Or.inl h2
 ·exact Or.inr ⟨g, cap, cur, a, by omega, c⟩
def kT {β : Type} (gen : Nat -> Nat -> β -> List Stp) (c : Cc) (base lp : Nat) (r : St × β × β) : List Stp :=
 if r.1.word = [105, 102] then
  { c.nM r.1.cond with target := base + (gen (base + 1) lp r.2.1).length + 2 } :: (gen (base + 1) lp r.2.1 ++ jL (base + (gen (base + 1) lp r.2.1).length + 2 + (gen (base + (gen (base + 1) lp r.2.1).length + 2) lp r.2.2).length) :: gen (base + (gen (base + 1) lp r.2.1).length + 2) lp r.2.2)
 else if r.1.word = [114, 101, 112, 101, 97, 116] then
  ⟨12, (0, 0), (0, 0), false, false, (0, 0), (0, 0), lp, r.1.times.1, 0⟩ :: ⟨13, (0, 0), (0, 0), false, false, (0, 0), (0, 0), lp, 0, base + (gen (base + 3) (lp + 1) r.2.1).length + 4⟩ :: { c.nM r.1.cond with target := base + (gen (base + 3) (lp + 1) r.2.1).length + 4 } :: (gen (base + 3) (lp + 1) r.2.1 ++ [jL (base + 1)])
 else [c.pln r.1]
def lU {β : Type} (gen : Nat -> Nat -> β -> List Stp) (c : Cc) : Nat -> Nat -> List (St × β × β) -> List Stp
 | _, _, [] => []
 | base, lp, r :: rs => kT gen c base lp r ++ lU gen c (base + (kT gen c base lp r).length) lp rs
def dL (c : Cc) : (d : Nat) -> Nat -> Nat -> BT d -> List Stp
 | 0, _, _, _ => []
 | d + 1, base, lp, xs => lU (dL c d) c base lp xs
theorem vC {α : Type} (f : α -> α) (x : α) (r : List α) : ∀ (l : List α) (n : Nat), n = l.length -> (l ++ x :: r).modify n f = l ++ f x :: r
 | [], n, h => by subst h; simp
 | a :: l, n, h => by subst h; simp [vC f x r l l.length rfl]
def Cc.with (c : Cc) (st : List Stp) (lp : Nat) : Cc := { c with st := st, lp := lp }
theorem mW (c : Cc) (st : List Stp) (lp : Nat) : ∀ (d : Nat), dL (c.with st lp) d = dL c d
 | 0 => rfl
 | d + 1 => by
  have ih := mW c st lp d
  funext base lp' xs
  show lU (dL (c.with st lp) d) (c.with st lp) base lp' xs = lU (dL c d) c base lp' xs
  rw [ih]
  have hS : ∀ base r, kT (dL c d) (c.with st lp) base lp' r = kT (dL c d) c base lp' r := fun _ _ => rfl
  have : ∀ (xs : List (St × BT d × BT d)) base, lU (dL c d) (c.with st lp) base lp' xs = lU (dL c d) c base lp' xs := by
   intro xs
   induction xs with
   | nil => intro _; rfl
   | cons r rs ih => intro base; show kT (dL c d) (c.with st lp) base lp' r ++ lU (dL c d) (c.with st lp) _ lp' rs = _; rw [ih]; rfl
  exact this xs base
def aPc (d : Nat) : Prop := ∀ (c : Cc) (x : BT d), c.blk d x = c.with (c.st ++ dL c d c.st.length c.lp x) c.lp
theorem aMx {d : Nat} (hd : aPc d) (c : Cc) (r : St × BT d × BT d) : c.bJ (Cc.blk d) r = c.with (c.st ++ kT (dL c d) c c.st.length c.lp r) c.lp := by
 unfold Cc.bJ kT
 split
 ·unfold Cc.ifs
  simp only
  rw [hd (c.add (c.nM r.1.cond)) r.2.1]
  have e1 : (c.add (c.nM r.1.cond)).st.length = c.st.length + 1 := by simp [Cc.add]
  have e2 : dL (c.add (c.nM r.1.cond)) d = dL c d := mW c (c.st ++ [c.nM r.1.cond]) c.lp d
  rw [e1, e2]
  have e3 : (c.add (c.nM r.1.cond)).lp = c.lp := rfl
  rw [e3]
  generalize hT : dL c d (c.st.length + 1) c.lp r.2.1 = T
  have e4 : (((c.add (c.nM r.1.cond)).with ((c.add (c.nM r.1.cond)).st ++ T) c.lp).add (jL 0)).land c.st.length = c.with (c.st ++ { c.nM r.1.cond with target := c.st.length + T.length + 2 } :: (T ++ [jL 0])) c.lp := by
   unfold Cc.land Cc.with Cc.add
   simp only [Cc.mk.injEq, true_and, and_true]
   rw [List.append_assoc, List.append_assoc, List.singleton_append, vC _ _ _ _ _ rfl]
   simp
   omega
  rw [e4, hd]
  have e5 : (c.with (c.st ++ { c.nM r.1.cond with target := c.st.length + T.length + 2 } :: (T ++ [jL 0])) c.lp).st.length = c.st.length + T.length + 2 := by simp [Cc.with]; omega
  have e6 : dL (c.with (c.st ++ { c.nM r.1.cond with target := c.st.length + T.length + 2 } :: (T ++ [jL 0])) c.lp) d = dL c d := mW c _ c.lp d
  rw [e5, e6]
  have e7 : (c.with (c.st ++ { c.nM r.1.cond with target := c.st.length + T.length + 2 } :: (T ++ [jL 0])) c.lp).lp = c.lp := rfl
  rw [e7]
  generalize dL c d (c.st.length + T.length + 2) c.lp r.2.2 = E
  unfold Cc.land Cc.with Cc.add
  simp only [Cc.mk.injEq, true_and, and_true]
  have e8 : c.st ++ { c.nM r.1.cond with target := c.st.length + T.length + 2 } :: (T ++ [jL 0]) ++ E = (c.st ++ { c.nM r.1.cond with target := c.st.length + T.length + 2 } :: T) ++ jL 0 :: E := by simp
  rw [e8, vC _ _ _ _ _ (by simp <;> omega)]
  simp [jL]
  try omega
 ·split
  ·unfold Cc.rep
   simp only
   generalize hA : (⟨12, (0, 0), (0, 0), false, false, (0, 0), (0, 0), c.lp, r.1.times.1, 0⟩ : Stp) = a
   have e0 : ({ ((c.add a).add ⟨13, (0, 0), (0, 0), false, false, (0, 0), (0, 0), c.lp, 0, 0⟩).add (Cc.nM ((c.add a).add ⟨13, (0, 0), (0, 0), false, false, (0, 0), (0, 0), c.lp, 0, 0⟩) r.1.cond) with lp := (((c.add a).add ⟨13, (0, 0), (0, 0), false, false, (0, 0), (0, 0), c.lp, 0, 0⟩).add (Cc.nM ((c.add a).add ⟨13, (0, 0), (0, 0), false, false, (0, 0), (0, 0), c.lp, 0, 0⟩) r.1.cond)).lp + 1 } : Cc) = c.with (c.st ++ a :: ⟨13, (0, 0), (0, 0), false, false, (0, 0), (0, 0), c.lp, 0, 0⟩ :: [c.nM r.1.cond]) (c.lp + 1) := by
    unfold Cc.with Cc.add
    simp
    rfl
   rw [e0, hd]
   have e5 : (c.with (c.st ++ a :: ⟨13, (0, 0), (0, 0), false, false, (0, 0), (0, 0), c.lp, 0, 0⟩ :: [c.nM r.1.cond]) (c.lp + 1)).st.length = c.st.length + 3 := by simp [Cc.with]
   have e6 : dL (c.with (c.st ++ a :: ⟨13, (0, 0), (0, 0), false, false, (0, 0), (0, 0), c.lp, 0, 0⟩ :: [c.nM r.1.cond]) (c.lp + 1)) d = dL c d := mW c _ _ d
   have e7 : (c.with (c.st ++ a :: ⟨13, (0, 0), (0, 0), false, false, (0, 0), (0, 0), c.lp, 0, 0⟩ :: [c.nM r.1.cond]) (c.lp + 1)).lp = c.lp + 1 := rfl
   rw [e5, e6, e7]
   generalize dL c d (c.st.length + 3) (c.lp + 1) r.2.1 = T
   unfold Cc.land Cc.with Cc.add
   simp only [Cc.mk.injEq, true_and, and_true, Nat.add_sub_cancel]
   have e8 : c.st ++ a :: ⟨13, (0, 0), (0, 0), false, false, (0, 0), (0, 0), c.lp, 0, 0⟩ :: [c.nM r.1.cond] ++ T ++ [jL (c.st.length + 1)] = (c.st ++ [a]) ++ ⟨13, (0, 0), (0, 0), false, false, (0, 0), (0, 0), c.lp, 0, 0⟩ :: (c.nM r.1.cond :: (T ++ [jL (c.st.length + 1)])) := by simp
   rw [e8, vC _ _ _ _ _ (by simp)]
   have e9 : ∀ z : Stp, (c.st ++ [a]) ++ z :: (c.nM r.1.cond :: (T ++ [jL (c.st.length + 1)])) = (c.st ++ a :: [z]) ++ c.nM r.1.cond :: (T ++ [jL (c.st.length + 1)]) := fun z => by simp
   rw [e9, vC _ _ _ _ _ (by simp)]
   simp
   omega
  ·rfl
theorem aK1 : ∀ d, aPc d
 | 0 => fun c x => by show c = c.with (c.st ++ []) c.lp; simp [Cc.with]
 | d + 1 => fun c x => by
  show List.foldl (fun c r => c.bJ (Cc.blk d) r) c x = c.with (c.st ++ lU (dL c d) c c.st.length c.lp x) c.lp
  have ih := aK1 d
  have : ∀ (xs : List (St × BT d × BT d)) (c : Cc), List.foldl (fun c r => c.bJ (Cc.blk d) r) c xs = c.with (c.st ++ lU (dL c d) c c.st.length c.lp xs) c.lp := by
   intro xs
   induction xs with
   | nil => intro c; show c = c.with (c.st ++ []) c.lp; simp [Cc.with]
   | cons r rs ihl =>
    intro c
    rw [List.foldl_cons, ihl, aMx ih]
    generalize hX : kT (dL c d) c c.st.length c.lp r = X
    have e1 : dL (c.with (c.st ++ X) c.lp) d = dL c d := mW c _ _ d
    have hG : ∀ base, lU (dL c d) (c.with (c.st ++ X) c.lp) base c.lp rs = lU (dL c d) c base c.lp rs := by
     have := mW c (c.st ++ X) c.lp (d + 1)
     intro base
     have h2 := congrFun (congrFun (congrFun this base) c.lp) rs
     have h3 : lU (dL (c.with (c.st ++ X) c.lp) d) (c.with (c.st ++ X) c.lp) base c.lp rs = lU (dL c d) c base c.lp rs := h2
     rw [e1] at h3
     exact h3
    rw [e1]
    show (c.with (c.st ++ X) c.lp).with ((c.st ++ X) ++ lU (dL c d) (c.with (c.st ++ X) c.lp) (c.st ++ X).length c.lp rs) c.lp = c.with (c.st ++ (kT (dL c d) c c.st.length c.lp r ++ lU (dL c d) c (c.st.length + (kT (dL c d) c c.st.length c.lp r).length) c.lp rs)) c.lp
    rw [hG, hX]
    simp [Cc.with]
  exact this x c
structure Dm (c : Cc) (L : List DL) (qi vi : Nat -> Nat) : Prop where
 isq : ∀ (k : Nat) d, L[k]? = some d -> d.1 ≠ [118, 97, 114] -> qi k < c.ro.length /\ c.ro[qi k]? = some d.2.2 /\ c.gh[qi k]? = some (!(d.1 == [113, 117, 101, 117, 101])) /\ look d.2.1 c.ix = some (qi k)
 isv : ∀ (k : Nat) d, L[k]? = some d -> d.1 = [118, 97, 114] -> vi k < c.mo.length /\ c.mo[vi k]? = some d.2.2 /\ look d.2.1 c.ix = some (vi k)
 inq : ∀ (k : Nat) d (k' : Nat) d', L[k]? = some d -> L[k']? = some d' -> d.1 ≠ [118, 97, 114] -> d'.1 ≠ [118, 97, 114] -> qi k = qi k' -> k = k'
 inv : ∀ (k : Nat) d (k' : Nat) d', L[k]? = some d -> L[k']? = some d' -> d.1 = [118, 97, 114] -> d'.1 = [118, 97, 114] -> vi k = vi k' -> k = k'
 sur : ∀ q, q < c.ro.length -> ∃ (k : Nat) (d : DL), L[k]? = some d /\ d.1 ≠ [118, 97, 114] /\ qi k = q
 mf : c.mf <= 99
 mx : ∀ (k : Nat) d, L[k]? = some d -> d.2.2 <= 99
def NB (L : List DL) (nm : List UInt8) (n : Nat) (va : Bool) : Prop := ∃ d, L[n]? = some d /\ (va = true -> d.1 = [118, 97, 114]) /\ (va = false -> d.1 ≠ [118, 97, 114]) /\ d.2.1 = nm
def VR (L : List DL) (v : Vl) (o : List UInt8 × Nat) : Prop :=
 (v.kind = 0 /\ o.1 = [110, 117, 109] /\ o.2 = v.num.1) \/ (v.kind = 1 /\ o.1 = [118, 97, 114] /\ NB L v.name.1 o.2 true) \/ (v.kind = 2 /\ o.1 = [108, 101, 110] /\ NB L v.name.1 o.2 false) \/ (v.kind = 3 /\ o.1 = [102, 114, 101, 113])
def CR (L : List DL) (x : Cd) (c : Rc) : Prop := x.neg = (c.bH % 2 == 1) /\ x.word = c.op /\ (((c.op = [102, 117, 108, 108] \/ c.op = [101, 109, 112, 116, 121] \/ c.op = [119, 97, 114, 109]) /\ NB L x.queue.1 c.n false) \/ (c.op = [60] /\ VR L x.left c.a /\ VR L x.right c.b))
def PR1 (L : List DL) (x : St) (r : Rt) : Prop := x.word = r.op /\
 ((r.op = [112, 117, 116] /\ x.tail = r.tail /\ NB L x.name.1 r.n false) \/ (r.op = [115, 104, 105, 102, 116] /\ x.tail = r.tail /\ NB L x.name.1 r.n false /\ NB L (St.to x).1 r.m false) \/ ((r.op = [101, 118, 105, 99, 116] \/ r.op = [99, 111, 111, 108]) /\ NB L x.name.1 r.n false) \/ ((r.op = [105, 110, 99] \/ r.op = [100, 101, 99]) /\ NB L x.name.1 r.n true) \/ r.op = [100, 114, 111, 112] \/ r.op = [98, 117, 109, 112])
def TRL {α γ : Type} (S : α -> γ -> Prop) : List α -> List γ -> Prop
 | [], [] => True
 | x :: xs, y :: ys => S x y /\ TRL S xs ys
 | _, _ => False
def TRs {β γ : Type} (L : List DL) (P : Nat -> β -> γ -> Prop) (lp : Nat) (x : St × β × β) (y : Rt × γ × γ) : Prop :=
 (x.1.word = [105, 102] /\ y.1.op = [105, 102] /\ CR L x.1.cond y.1.bU /\ x.1.other = y.1.other /\ P lp x.2.1 y.2.1 /\ P lp x.2.2 y.2.2) \/
 (x.1.word = [114, 101, 112, 101, 97, 116] /\ y.1.op = [114, 101, 112, 101, 97, 116] /\ CR L x.1.cond y.1.bU /\ y.1.n = x.1.times.1 /\ y.1.n <= 50 /\ lp < 2 /\ P (lp + 1) x.2.1 y.2.1) \/
 PR1 L x.1 y.1
def TR (L : List DL) : (d : Nat) -> Nat -> BT d -> RT d -> Prop
 | 0, _, _, _ => True
 | d + 1, lp, xs, ys => TRL (TRs L (TR L d) lp) xs ys
def wtS {γ : Type} (w : γ -> Nat) (y : Rt × γ × γ) : Nat := if y.1.op = [105, 102] then w y.2.1 + w y.2.2 else if y.1.op = [114, 101, 112, 101, 97, 116] then y.1.n * w y.2.1 else 1
def wtL {α : Type} (w : α -> Nat) : List α -> Nat
 | [] => 0
 | y :: ys => w y + wtL w ys
def O4 : (d : Nat) -> RT d -> Nat
 | 0, _ => 0
 | d + 1, ys => wtL (wtS (O4 d)) ys
def aHh (L : List DL) (v : Vl) : List UInt8 × Nat := if v.kind = 0 then ([110, 117, 109], v.num.1) else if v.kind = 1 then ([118, 97, 114], (dV L v.name.1).getD 0) else if v.kind = 2 then ([108, 101, 110], (dV L v.name.1).getD 0) else ([102, 114, 101, 113], 0)
def aJs (L : List DL) (x : Cd) : Rc := ⟨x.word, (dV L x.queue.1).getD 0, aHh L x.left, aHh L x.right, if x.neg = true then 1 else 0⟩
def eH (L : List DL) (x : St) : Rt := ⟨x.word, if x.word = [114, 101, 112, 101, 97, 116] then x.times.1 else (dV L x.name.1).getD 0, (dV L (St.to x).1).getD 0, x.tail, aJs L x.cond, x.other⟩
def aP (L : List DL) : (d : Nat) -> BT d -> RT d
 | 0, _ => ()
 | d + 1, xs => List.map (fun r => (eH L r.1, aP L d r.2.1, aP L d r.2.2)) xs
def wfV (v : Vl) : Prop := v.kind <= 3
def wfC (x : Cd) : Prop := (x.word = [102, 117, 108, 108] \/ x.word = [101, 109, 112, 116, 121] \/ x.word = [119, 97, 114, 109]) \/ (x.word = [60] /\ wfV x.left /\ wfV x.right)
def wfP (x : St) : Prop := x.word = [112, 117, 116] \/ x.word = [115, 104, 105, 102, 116] \/ (x.word = [101, 118, 105, 99, 116] \/ x.word = [99, 111, 111, 108]) \/ (x.word = [105, 110, 99] \/ x.word = [100, 101, 99]) \/ x.word = [100, 114, 111, 112] \/ x.word = [98, 117, 109, 112]
def wfS {β : Type} (P : Nat -> β -> Prop) (lp : Nat) (r : St × β × β) : Prop := (r.1.word = [105, 102] /\ wfC r.1.cond /\ P lp r.2.1 /\ P lp r.2.2) \/ (r.1.word = [114, 101, 112, 101, 97, 116] /\ wfC r.1.cond /\ lp < 2 /\ P (lp + 1) r.2.1) \/ wfP r.1
def wfL {α : Type} (P : α -> Prop) : List α -> Prop
 | [] => True
 | r :: rs => P r /\ wfL P rs
def wfB : (d : Nat) -> Nat -> BT d -> Prop
 | 0, _, _ => True
 | d + 1, lp, xs => wfL (wfS (wfB d) lp) xs
theorem aPi : ∀ d lp, wfB d lp (aZ d)
 | 0, _ => trivial
 | _ + 1, _ => trivial
theorem aA8 {l : List UInt8} {t t' : Tok} {v : Vl} (h : bW l t = .ok (v, t')) : wfV v := by
 unfold bW at h
 unfold wfV
 split at h
 ·split at h
  ·cases h; simp
  ·cases h
 ·split at h
  ·cases h; simp
  ·split at h
   ·cases h; simp
   ·split at h
    ·cases h; simp
    ·cases h
theorem aAx {l : List UInt8} {t t' : Tok} {x : Cd} (h : gZ l t = .ok (x, t')) : wfC x := by
 unfold gZ iL at h
 split at h
 ·rename_i hw
  split at h
  ·cases h; exact Or.inl hw
  ·cases h
 ·split at h
  ·cases h
  ·rename_i a t1 ha
   split at h
   ·rename_i h1
    split at h
    ·cases h
    ·rename_i c t2 hc
     cases h
     exact Or.inr ⟨h1, aA8 ha, aA8 hc⟩
   ·cases h
theorem jP {l : List UInt8} {s x : St} {t t' : Tok} (h : iJ l s t = .ok (x, t')) : x = s := by
 unfold iJ at h
 split at h
 ·cases h; rfl
 ·cases h
theorem aJv {l : List UInt8} {t t' : Tok} {x : St} (h : bI l t = .ok (x, t')) : wfP x := by
 unfold bI at h
 unfold wfP
 split at h
 ·rename_i hw
  obtain ⟨n, t1, _, h⟩ := aB h
  rw [jP h]
  exact Or.inl hw
 ·split at h
  ·rename_i hw
   obtain ⟨n, t1, _, h⟩ := aB h
   obtain ⟨m, t2, _, h⟩ := aB h
   rw [jP h]
   exact Or.inr (Or.inl hw)
  ·split at h
   ·rename_i hw
    obtain ⟨n, t1, _, h⟩ := aB h
    rw [jP h]
    simp only [oN, Bool.or_eq_true, beq_iff_eq] at hw
    rcases hw with ((hw | hw) | hw) | hw
    ·exact Or.inr (Or.inr (Or.inl (Or.inl hw)))
    ·exact Or.inr (Or.inr (Or.inr (Or.inl (Or.inl hw))))
    ·exact Or.inr (Or.inr (Or.inr (Or.inl (Or.inr hw))))
    ·exact Or.inr (Or.inr (Or.inl (Or.inr hw)))
   ·split at h
    ·rename_i hw
     rw [jP h]
     simp only [lK, Bool.or_eq_true, beq_iff_eq] at hw
     rcases hw with hw | hw
     ·exact Or.inr (Or.inr (Or.inr (Or.inr (Or.inl hw))))
     ·exact Or.inr (Or.inr (Or.inr (Or.inr (Or.inr hw))))
    ·cases h
theorem aMr {d : Nat} {l : List UInt8} {lo : Nat} (hlo : lo <= 2) (hb : ∀ lo t x t', lo <= 2 -> aJ l d lo t = .ok (x, t') -> wfB d lo x) {t t' : Tok} {x : St × BT d × BT d} (h : dB (aJ l d) (aZ d) l lo t = .ok (x, t')) : wfS (wfB d) lo x := by
 unfold dB at h
 split at h
 ·rename_i hw
  unfold ifS at h
  obtain ⟨c, t1, h1, h⟩ := aB h
  obtain ⟨x1, t2, h2, h⟩ := aB h
  split at h
  ·obtain ⟨y, t3, h3, h⟩ := aB h
   cases h
   exact Or.inl ⟨hw, aAx h1, hb _ _ _ _ hlo h2, hb _ _ _ _ hlo h3⟩
  ·cases h
   exact Or.inl ⟨hw, aAx h1, hb _ _ _ _ hlo h2, aPi d lo⟩
 ·split at h
  ·rename_i hw
   unfold pV at h
   split at h
   ·cases h
   ·obtain ⟨n, t1, h1, h⟩ := aB h
    obtain ⟨_, t2, h2, h⟩ := aB h
    obtain ⟨c, t3, h3, h⟩ := aB h
    obtain ⟨y, t4, h4, h⟩ := aB h
    cases h
    exact Or.inr (Or.inl ⟨hw, aAx h3, by omega, hb _ _ _ _ (by omega) h4⟩)
  ·obtain ⟨s, t1, h1, h⟩ := aB h
   cases h
   exact Or.inr (Or.inr (aJv h1))
theorem aBk {α : Type} {bJ : Tok -> PR α} {l : List UInt8} {P : α -> Prop} (hs : ∀ t x t', bJ t = .ok (x, t') -> P x) : ∀ (n : Nat) (t t' : Tok) (xs : List α), dQ bJ l n t = .ok (xs, t') -> wfL P xs
 | 0, _, _, _, h => by cases h
 | n + 1, t, t', xs, h => by
  unfold dQ at h
  split at h
  ·cases h; trivial
  ·obtain ⟨x, t1, h1, h⟩ := aB h
   obtain ⟨ys, t2, h2, h⟩ := aB h
   have := aBk hs n t1 t2 ys h2
   cases h
   exact ⟨hs _ _ _ h1, this⟩
theorem aC9 {l : List UInt8} : ∀ (d lo : Nat) (t : Tok) (x : BT d) (t' : Tok), lo <= 2 -> aJ l d lo t = .ok (x, t') -> wfB d lo x
 | 0, _, _, _, _, _, _ => trivial
 | d + 1, lo, t, x, t', hlo, h => by
  by_cases hc : t.txt = [123]
  ·have e := (jC l d lo t hc).symm.trans h
   exact aBk (fun t x t' h => aMr hlo (fun lo t x t' hl => aC9 d lo t x t' hl) h) _ _ _ _ e
  ·have e := (lF l d lo t hc).symm.trans h
   cases e
theorem aBr {l : List UInt8} : ∀ (n : Nat) (t t' : Tok) (rs : List (Nat × NP × BT 8)), bY l n t = .ok (rs, t') -> ∀ r ∈ rs, wfB 8 0 r.2.2
 | 0, _, _, _, h => by cases h
 | n + 1, t, t', ds, h => by
  unfold bY at h
  split at h
  ·obtain ⟨d, t1, h1, h⟩ := aB h
   obtain ⟨es, t2, h2, h⟩ := aB h
   have ih := aBr n t1 t2 es h2
   cases h
   intro x hx
   rcases List.mem_cons.1 hx with rfl | hx
   ·unfold gV at h1
    obtain ⟨n, t3, _, h1⟩ := aB h1
    obtain ⟨y, t4, h4, h1⟩ := aB h1
    have := aC9 8 0 t3 y t4 (by omega) h4
    cases h1
    exact this
   ·exact ih x hx
  ·cases h
   exact fun _ hx => (by cases hx)
theorem yB {l : List UInt8} {x : List Dc × List (Nat × NP × BT 8)} (h : dM l = .ok x) : ∀ r ∈ x.2, wfB 8 0 r.2.2 := by
 unfold dM at h
 split at h
 ·cases h
 ·cases hp : dH l (aN l 0) with
  | error e => rw [hp] at h; cases h
  | ok p =>
   obtain ⟨y, t'⟩ := p
   rw [hp] at h
   simp only at h
   cases hc : (jB y.1 y.2).first with
   | some e => rw [hc] at h; cases h
   | none =>
    rw [hc] at h
    simp only [Except.ok.injEq] at h
    subst h
    unfold dH at hp
    obtain ⟨ds, t1, h1, hp⟩ := aB hp
    obtain ⟨rs, t2, h2, hp⟩ := aB hp
    unfold qF at hp
    split at hp
    ·simp only [Except.ok.injEq, Prod.mk.injEq] at hp
     obtain ⟨rfl, _⟩ := hp
     exact aBr _ _ _ _ h2
    ·cases hp
theorem kH {s : Ck} {n : NP} {k : Nat} (h : (s.use n k).first = none) : look n.1 s.names = some k /\ s.use n k = s := by
 unfold Ck.use at h ⊢
 split at h
 ·exact absurd h iY
 ·rename_i d hd
  split at h
  ·rename_i e
   subst e
   rw [hd]
   exact ⟨rfl, if_pos rfl⟩
  ·exact absurd h iY
def NmR (names : List (List UInt8 × Nat)) (L : List DL) : Prop := ∀ nm k, look nm names = some k -> ∃ i d, dV L nm = some i /\ L[i]? = some d /\ d.2.1 = nm /\ (k = 0 -> d.1 ≠ [118, 97, 114]) /\ (k = 1 -> d.1 = [118, 97, 114])
theorem NmR.q {names : List (List UInt8 × Nat)} {L : List DL} (h : NmR names L) {nm : List UInt8} (hl : look nm names = some 0) : NB L nm ((dV L nm).getD 0) false := by
 obtain ⟨i, d, h1, h2, h3, h4, _⟩ := h nm 0 hl
 rw [h1]
 exact ⟨d, h2, (fun e => by cases e), fun _ => h4 rfl, h3⟩
theorem NmR.v {names : List (List UInt8 × Nat)} {L : List DL} (h : NmR names L) {nm : List UInt8} (hl : look nm names = some 1) : NB L nm ((dV L nm).getD 0) true := by
 obtain ⟨i, d, h1, h2, h3, _, h4⟩ := h nm 1 hl
 rw [h1]
 exact ⟨d, h2, fun _ => h4 rfl, (fun e => by cases e), h3⟩
theorem zB {s : Ck} {v : Vl} (h : (s.value v).first = none) : s.value v = s /\ (v.kind = 1 -> look v.name.1 s.names = some 1) /\ (v.kind = 2 -> look v.name.1 s.names = some 0) := by
 unfold Ck.value at h ⊢
 split at h
 ·rename_i e
  obtain ⟨h1, h2⟩ := kH h
  rw [if_pos e]
  exact ⟨h2, fun _ => h1, fun e2 => by omega⟩
 ·rename_i e
  rw [if_neg e]
  split at h
  ·rename_i e2
   obtain ⟨h1, h2⟩ := kH h
   rw [if_pos e2]
   exact ⟨h2, fun e3 => by omega, fun _ => h1⟩
  ·rename_i e2
   rw [if_neg e2]
   exact ⟨rfl, fun e3 => by omega, fun e3 => by omega⟩
theorem aOt {names : List (List UInt8 × Nat)} {L : List DL} (h : NmR names L) {v : Vl} (hw : wfV v) (h1 : v.kind = 1 -> look v.name.1 names = some 1) (h2 : v.kind = 2 -> look v.name.1 names = some 0) : VR L v (aHh L v) := by
 unfold wfV at hw
 unfold aHh VR
 have : v.kind = 0 \/ v.kind = 1 \/ v.kind = 2 \/ v.kind = 3 := by omega
 rcases this with e | e | e | e
 ·rw [if_pos e]; exact Or.inl ⟨e, rfl, rfl⟩
 ·rw [if_neg (by omega), if_pos e]; exact Or.inr (Or.inl ⟨e, rfl, h.v (h1 e)⟩)
 ·rw [if_neg (by omega), if_neg (by omega), if_pos e]; exact Or.inr (Or.inr (Or.inl ⟨e, rfl, h.q (h2 e)⟩))
 ·rw [if_neg (by omega), if_neg (by omega), if_neg (by omega)]; exact Or.inr (Or.inr (Or.inr ⟨e, rfl⟩))
theorem aO8 {s : Ck} {L : List DL} (hn : NmR s.names L) {x : Cd} (hw : wfC x) (h : (s.cond x).first = none) : s.cond x = s /\ CR L x (aJs L x) := by
 unfold Ck.cond at h ⊢
 have hneg : x.neg = ((if x.neg = true then 1 else 0) % 2 == 1) := by cases x.neg <;> rfl
 split at h
 ·rename_i e
  rw [if_pos e]
  have hf : (s.value x.left).first = none := gQ (fun _ he => G5 he x.right) h
  obtain ⟨a1, a2, a3⟩ := zB hf
  rw [a1] at h ⊢
  obtain ⟨b1, b2, b3⟩ := zB h
  refine ⟨b1, hneg, rfl, Or.inr ⟨e, ?_⟩⟩
  rcases hw with hw | ⟨_, hl, hr⟩
  ·rw [e] at hw
   exact absurd hw (by decide)
  ·exact ⟨aOt hn hl a2 a3, aOt hn hr b2 b3⟩
 ·rename_i e
  rw [if_neg e]
  obtain ⟨a1, a2⟩ := kH h
  refine ⟨a2, hneg, rfl, Or.inl ⟨?_, hn.q a1⟩⟩
  rcases hw with hw | ⟨hw, _⟩
  ·exact hw
  ·exact absurd hw e
def Y1 {β : Type} (f : β -> Nat) (r : St × β × β) : Nat := 4 + f r.2.1 + f r.2.2
theorem aMs {d : Nat} {L : List DL} (hb : ∀ (lp : Nat) (x : BT d) (s : Ck), NmR s.names L -> wfB d lp x -> (s.block d x).first = none -> s.block d x = s /\ TR L d lp x (aP L d x) /\ O4 d (aP L d x) <= 50 ^ (2 - lp) * bP d x) {s : Ck} (hn : NmR s.names L) {lp : Nat} {r : St × BT d × BT d} (hw : wfS (wfB d) lp r) (h : (s.stmt (Ck.block d) r).first = none) :
  s.stmt (Ck.block d) r = s /\ TRs L (TR L d) lp r (eH L r.1, aP L d r.2.1, aP L d r.2.2) /\ wtS (O4 d) (eH L r.1, aP L d r.2.1, aP L d r.2.2) <= 50 ^ (2 - lp) * Y1 (bP d) r := by
 have hop : (eH L r.1).op = r.1.word := rfl
 have hpos : 1 <= 50 ^ (2 - lp) := Nat.one_le_pow _ _ (by decide)
 rcases hw with ⟨e, hc, w1, w2⟩ | ⟨e, hc, hlp, w1⟩ | hp
 ·have es : s.stmt (Ck.block d) r = Ck.block d (Ck.block d (s.cond r.1.cond) r.2.1) r.2.2 := by unfold Ck.stmt; simp [e]
  rw [es] at h ⊢
  have f1 : (Ck.block d (s.cond r.1.cond) r.2.1).first = none := gQ (fun _ he => lV d _ _ he) h
  have f0 : (s.cond r.1.cond).first = none := gQ (fun _ he => lV d _ _ he) f1
  obtain ⟨c1, c2⟩ := aO8 hn hc f0
  rw [c1] at f1 h ⊢
  obtain ⟨b1, b2, b3⟩ := hb lp r.2.1 s hn w1 f1
  rw [b1] at h ⊢
  obtain ⟨d1, d2, d3⟩ := hb lp r.2.2 s hn w2 h
  refine ⟨d1, Or.inl ⟨e, e, c2, rfl, b2, d2⟩, ?_⟩
  unfold wtS Y1
  rw [if_pos (show (eH L r.1).op = _ from e)]
  simp only
  rw [Nat.mul_add, Nat.mul_add]
  omega
 ·have es : s.stmt (Ck.block d) r = Ck.block d ((s.bound r.1.times.1 r.1.times.2 50).cond r.1.cond) r.2.1 := by unfold Ck.stmt; simp [e]
  rw [es] at h ⊢
  have f1 : ((s.bound r.1.times.1 r.1.times.2 50).cond r.1.cond).first = none := gQ (fun _ he => lV d _ _ he) h
  have f0 : (s.bound r.1.times.1 r.1.times.2 50).first = none := gQ (fun _ he => aGt he _) f1
  obtain ⟨_, _, k2, k3⟩ := qM f0
  rw [k3] at f1 h ⊢
  obtain ⟨c1, c2⟩ := aO8 hn hc f1
  rw [c1] at h ⊢
  obtain ⟨b1, b2, b3⟩ := hb (lp + 1) r.2.1 s hn w1 h
  have hn1 : (eH L r.1).n = r.1.times.1 := if_pos e
  refine ⟨b1, Or.inr (Or.inl ⟨e, e, c2, hn1, by rw [hn1]; exact k2, hlp, b2⟩), ?_⟩
  unfold wtS Y1
  rw [if_neg (show (eH L r.1).op ≠ _ by rw [hop, e]; decide), if_pos (show (eH L r.1).op = _ from e)]
  simp only [hn1]
  have e50 : 50 ^ (2 - lp) = 50 * 50 ^ (2 - (lp + 1)) := by
   rw [show 2 - lp = (2 - (lp + 1)) + 1 by omega, Nat.pow_succ, Nat.mul_comm]
  calc r.1.times.1 * O4 d (aP L d r.2.1) <= 50 * (50 ^ (2 - (lp + 1)) * bP d r.2.1) := Nat.mul_le_mul k2 b3
   _ = 50 ^ (2 - lp) * bP d r.2.1 := by rw [e50, Nat.mul_assoc]
   _ <= 50 ^ (2 - lp) * (4 + bP d r.2.1 + bP d r.2.2) := Nat.mul_le_mul zR (by omega)
 ·have hnr : r.1.word ≠ [114, 101, 112, 101, 97, 116] /\ r.1.word ≠ [105, 102] := by
   unfold wfP at hp
   rcases hp with e | e | e | e | e | e
   ·rw [e]; decide
   ·rw [e]; decide
   ·rcases e with e | e <;> (rw [e]; decide)
   ·rcases e with e | e <;> (rw [e]; decide)
   ·rw [e]; decide
   ·rw [e]; decide
  have en : (eH L r.1).n = (dV L r.1.name.1).getD 0 := if_neg hnr.1
  have hwt : wtS (O4 d) (eH L r.1, aP L d r.2.1, aP L d r.2.2) <= 50 ^ (2 - lp) * Y1 (bP d) r := by
   unfold wtS Y1
   rw [if_neg (show (eH L r.1).op ≠ _ from hnr.2), if_neg (show (eH L r.1).op ≠ _ from hnr.1)]
   rw [Nat.mul_add, Nat.mul_add]
   omega
  refine (?_ : s.stmt (Ck.block d) r = s /\ PR1 L r.1 (eH L r.1)) |> fun hh => ⟨hh.1, Or.inr (Or.inr hh.2), hwt⟩
  unfold PR1
  rw [en]
  unfold wfP at hp
  rcases hp with e | e | e | e | e | e
  ·have es : s.stmt (Ck.block d) r = s.use r.1.name 0 := by unfold Ck.stmt; simp [e]
   rw [es] at h ⊢
   obtain ⟨u1, u2⟩ := kH h
   exact ⟨u2, rfl, Or.inl ⟨e, rfl, hn.q u1⟩⟩
  ·have es : s.stmt (Ck.block d) r = (s.use r.1.name 0).use (St.to r.1) 0 := by unfold Ck.stmt; simp [e]
   rw [es] at h ⊢
   have f0 : (s.use r.1.name 0).first = none := gQ (fun _ he => rJ he _ _) h
   obtain ⟨u1, u2⟩ := kH f0
   rw [u2] at h ⊢
   obtain ⟨v1, v2⟩ := kH h
   exact ⟨v2, rfl, Or.inr (Or.inl ⟨e, rfl, hn.q u1, hn.q v1⟩)⟩
  ·have es : s.stmt (Ck.block d) r = s.use r.1.name 0 := by unfold Ck.stmt; rcases e with e | e <;> simp [e]
   rw [es] at h ⊢
   obtain ⟨u1, u2⟩ := kH h
   exact ⟨u2, rfl, Or.inr (Or.inr (Or.inl ⟨e, hn.q u1⟩))⟩
  ·have es : s.stmt (Ck.block d) r = s.use r.1.name 1 := by unfold Ck.stmt; rcases e with e | e <;> simp [e]
   rw [es] at h ⊢
   obtain ⟨u1, u2⟩ := kH h
   exact ⟨u2, rfl, Or.inr (Or.inr (Or.inr (Or.inl ⟨e, hn.v u1⟩)))⟩
  ·have es : s.stmt (Ck.block d) r = s := by unfold Ck.stmt; simp [e]
   exact ⟨es, rfl, Or.inr (Or.inr (Or.inr (Or.inr (Or.inl e))))⟩
  ·have es : s.stmt (Ck.block d) r = s := by unfold Ck.stmt; simp [e]
   exact ⟨es, rfl, Or.inr (Or.inr (Or.inr (Or.inr (Or.inr e))))⟩
theorem aDa {L : List DL} : ∀ (d lp : Nat) (x : BT d) (s : Ck), NmR s.names L -> wfB d lp x -> (s.block d x).first = none -> s.block d x = s /\ TR L d lp x (aP L d x) /\ O4 d (aP L d x) <= 50 ^ (2 - lp) * bP d x
 | 0, _, _, _, _, _, _ => ⟨rfl, trivial, Nat.zero_le _⟩
 | d + 1, lp, x, s, hn, hw, h => by
  have : ∀ (xs : List (St × BT d × BT d)), wfL (wfS (wfB d) lp) xs -> (List.foldl (fun s r => s.stmt (Ck.block d) r) s xs).first = none -> List.foldl (fun s r => s.stmt (Ck.block d) r) s xs = s /\ TRL (TRs L (TR L d) lp) xs (List.map (fun r => (eH L r.1, aP L d r.2.1, aP L d r.2.2)) xs) /\ wtL (wtS (O4 d)) (List.map (fun r => (eH L r.1, aP L d r.2.1, aP L d r.2.2)) xs) <= 50 ^ (2 - lp) * iZ (bP d) xs := by
   intro xs
   induction xs with
   | nil => intro _ _; exact ⟨rfl, trivial, Nat.zero_le _⟩
   | cons r rs ih =>
    intro hw h
    rw [List.foldl_cons] at h ⊢
    have f0 : (s.stmt (Ck.block d) r).first = none := gQ (fun _ he => vP (fun s x hx => aGr (fun s x hx => lV d s x hx) hx x) rs _ he) h
    obtain ⟨a1, a2, a3⟩ := aMs (fun lp x s => aDa d lp x s) hn hw.1 f0
    rw [a1] at h ⊢
    obtain ⟨b1, b2, b3⟩ := ih hw.2 h
    refine ⟨b1, ⟨a2, b2⟩, ?_⟩
    show wtS (O4 d) _ + wtL (wtS (O4 d)) _ <= 50 ^ (2 - lp) * (4 + bP d r.2.1 + bP d r.2.2 + iZ (bP d) rs)
    unfold Y1 at a3
    rw [Nat.mul_add]
    exact Nat.add_le_add a3 b3
  exact this x hw h
def nO (d : Dc) : DL := (d.word, d.name.1, d.num.1)
def aV (ds : List Dc) : List DL := (ds.filter fun d => !(d.word == [102, 114, 101, 113])).map nO
def O0 (d : DL) : Bool := !(d.1 == [118, 97, 114])
def Q7 (d : DL) : Bool := d.1 == [118, 97, 114]
def pG (p : DL -> Bool) (L : List DL) (k : Nat) : Nat := ((L.take k).filter p).length
theorem qJ (p : DL -> Bool) : ∀ (L : List DL) (k : Nat) (d : DL), L[k]? = some d -> p d = true -> (L.filter p)[pG p L k]? = some d
 | [], k, d, h, _ => by simp at h
 | a :: L, 0, d, h, hp => by
  simp at h
  subst h
  simp [pG, hp]
 | a :: L, k + 1, d, h, hp => by
  have ih := qJ p L k d (by simpa using h) hp
  unfold pG at ih ⊢
  rw [List.take_succ_cons, List.filter_cons, List.filter_cons]
  cases p a <;> simpa using ih
theorem yO (p : DL -> Bool) : ∀ (L : List DL) (q : Nat), q < (L.filter p).length -> ∃ (k : Nat) (d : DL), L[k]? = some d /\ p d = true /\ pG p L k = q
 | [], q, h => by simp at h
 | a :: L, q, h => by
  rw [List.filter_cons] at h
  by_cases e : p a = true
  ·rw [if_pos e] at h
   cases q with
   | zero => exact ⟨0, a, rfl, e, by simp [pG]⟩
   | succ q =>
    obtain ⟨k, d, h1, h2, h3⟩ := yO p L q (by simpa using h)
    refine ⟨k + 1, d, by simpa using h1, h2, ?_⟩
    unfold pG at h3 ⊢
    rw [List.take_succ_cons, List.filter_cons, if_pos e]
    simpa using h3
  ·rw [if_neg e] at h
   obtain ⟨k, d, h1, h2, h3⟩ := yO p L q h
   refine ⟨k + 1, d, by simpa using h1, h2, ?_⟩
   unfold pG at h3 ⊢
   rw [List.take_succ_cons, List.filter_cons, if_neg e]
   exact h3
theorem vT (p : DL -> Bool) (L : List DL) (x : DL) {k : Nat} (hk : k <= L.length) : pG p (L ++ [x]) k = pG p L k := by
 unfold pG
 rw [List.take_append_of_le_length hk]
theorem aG9 (p : DL -> Bool) (L : List DL) : pG p L L.length = (L.filter p).length := by
 unfold pG
 rw [List.take_length]
structure Dx (c : Cc) (s : Ck) (L : List DL) : Prop where
 ro : c.ro = (L.filter O0).map fun d => d.2.2
 gh : c.gh = (L.filter O0).map fun d => !(d.1 == [113, 117, 101, 117, 101])
 ev : c.ev = (L.filter O0).map fun d => d.2.1
 mo : c.mo = (L.filter Q7).map fun d => d.2.2
 vn : c.vn = (L.filter Q7).map fun d => d.2.1
 ix : ∀ (k : Nat) d, L[k]? = some d -> look d.2.1 c.ix = some (if d.1 = [118, 97, 114] then pG Q7 L k else pG O0 L k)
 nm : ∀ (k : Nat) d, L[k]? = some d -> look d.2.1 s.names = some (if d.1 = [118, 97, 114] then 1 else 0)
 nm2 : ∀ nm j, look nm s.names = some j -> ∃ (k : Nat) (d : DL), L[k]? = some d /\ d.2.1 = nm
 nl : s.names.length = L.length /\ L.length <= 8
 uq : ∀ (k : Nat) d (k' : Nat) d', L[k]? = some d -> L[k']? = some d' -> d.2.1 = d'.2.1 -> k = k'
 mx : ∀ d ∈ L, 1 <= d.2.2 /\ d.2.2 <= 99 /\ (d.1 ≠ [118, 97, 114] -> d.2.2 <= 50)
 kd : ∀ d ∈ L, d.1 = [113, 117, 101, 117, 101] \/ d.1 = [103, 104, 111, 115, 116] \/ d.1 = [118, 97, 114]
 mf : c.mf <= 99
theorem Dx.start : Dx qL qR [] := ⟨rfl, rfl, rfl, rfl, rfl, (fun k d h => by simp at h), (fun k d h => by simp at h), (fun nm j h => by cases h), ⟨rfl, by simp⟩, (fun k d k' d' h => by simp at h), (fun d h => by cases h), (fun d h => by cases h), by decide⟩
theorem xX {L : List DL} {x d : DL} {k : Nat} (h : (L ++ [x])[k]? = some d) : (k < L.length /\ L[k]? = some d) \/ (k = L.length /\ d = x) := by
 by_cases e : k < L.length
 ·rw [List.getElem?_append_left e] at h; exact Or.inl ⟨e, h⟩
 ·rw [List.getElem?_append_right (by omega)] at h
  have h2 := (List.getElem?_eq_some_iff.1 h).1
  simp at h2
  have : k = L.length := by omega
  subst this
  simp at h
  exact Or.inr ⟨rfl, h.symm⟩
theorem Dx.more {c : Cc} {s : Ck} {L : List DL} (h : Dx c s L) {c' : Cc} {s' : Ck} (x : DL) (j : Nat) (hj : j = if x.1 = [118, 97, 114] then 1 else 0) (hnew : look x.2.1 s.names = none) (h8 : s.names.length ≠ 8) (hn : s'.names = (x.2.1, j) :: s.names)
  (hro : c'.ro = if O0 x = true then c.ro ++ [x.2.2] else c.ro) (hgh : c'.gh = if O0 x = true then c.gh ++ [!(x.1 == [113, 117, 101, 117, 101])] else c.gh) (hev : c'.ev = if O0 x = true then c.ev ++ [x.2.1] else c.ev)
  (hmo : c'.mo = if Q7 x = true then c.mo ++ [x.2.2] else c.mo) (hvn : c'.vn = if Q7 x = true then c.vn ++ [x.2.1] else c.vn)
  (hix : c'.ix = (x.2.1, if x.1 = [118, 97, 114] then c.mo.length else c.ro.length) :: c.ix) (hmx : 1 <= x.2.2 /\ x.2.2 <= 99 /\ (x.1 ≠ [118, 97, 114] -> x.2.2 <= 50)) (hkd : x.1 = [113, 117, 101, 117, 101] \/ x.1 = [103, 104, 111, 115, 116] \/ x.1 = [118, 97, 114]) (hmf : c'.mf = c.mf) : Dx c' s' (L ++ [x]) := by
 have hne : ∀ (k : Nat) d, L[k]? = some d -> d.2.1 ≠ x.2.1 := fun k d hk e => by
  have := h.nm k d hk
  rw [e, hnew] at this
  cases this
 have hfil : ∀ p : DL -> Bool, (L ++ [x]).filter p = if p x = true then L.filter p ++ [x] else L.filter p := fun p => by
  rw [List.filter_append, List.filter_cons]
  cases p x <;> simp
 refine ⟨?_, ?_, ?_, ?_, ?_, fun k d hk => ?_, fun k d hk => ?_, fun nm i hk => ?_, ?_, fun k d k' d' hk hk' e => ?_, fun d hd => ?_, fun d hd => ?_, by rw [hmf]; exact h.mf⟩
 ·rw [hro, hfil, h.ro]; split <;> simp
 ·rw [hgh, hfil, h.gh]; split <;> simp
 ·rw [hev, hfil, h.ev]; split <;> simp
 ·rw [hmo, hfil, h.mo]; split <;> simp
 ·rw [hvn, hfil, h.vn]; split <;> simp
 ·rw [hix, gK]
  rcases xX hk with ⟨h1, h2⟩ | ⟨rfl, rfl⟩
  ·rw [if_neg (Ne.symm (hne k d h2)), h.ix k d h2, vT _ _ _ (by omega), vT _ _ _ (by omega)]
  ·rw [if_pos rfl, vT _ _ _ zR, vT _ _ _ zR, aG9, aG9, h.mo, h.ro]
   simp
 ·rw [hn, gK]
  rcases xX hk with ⟨h1, h2⟩ | ⟨rfl, rfl⟩
  ·rw [if_neg (Ne.symm (hne k d h2)), h.nm k d h2]
  ·rw [if_pos rfl, hj]
 ·rw [hn, gK] at hk
  split at hk
  ·rename_i e
   exact ⟨L.length, x, by simp, e⟩
  ·obtain ⟨k, d, h1, h2⟩ := h.nm2 nm i hk
   exact ⟨k, d, by rw [List.getElem?_append_left (List.getElem?_eq_some_iff.1 h1).1]; exact h1, h2⟩
 ·have := h.nl
  rw [hn]
  simp
  omega
 ·rcases xX hk with ⟨h1, h2⟩ | ⟨h1, h2⟩ <;> rcases xX hk' with ⟨h3, h4⟩ | ⟨h3, h4⟩
  ·exact h.uq k d k' d' h2 h4 e
  ·subst h4; exact absurd e (hne k d h2)
  ·subst h2; exact absurd e.symm (hne k' d' h4)
  ·omega
 ·rcases List.mem_append.1 hd with hd | hd
  ·exact h.mx d hd
  ·simp at hd; subst hd; exact hmx
 ·rcases List.mem_append.1 hd with hd | hd
  ·exact h.kd d hd
  ·simp at hd; subst hd; exact hkd
theorem Dx.decls : ∀ (ds : List Dc) (c : Cc) (s : Ck) (L : List DL), Dx c s L -> (ds.foldl Ck.decl s).first = none -> (∀ d ∈ ds, d.word = [113, 117, 101, 117, 101] \/ d.word = [103, 104, 111, 115, 116] \/ d.word = [118, 97, 114] \/ d.word = [102, 114, 101, 113]) -> Dx (ds.foldl Cc.jH c) (ds.foldl Ck.decl s) (L ++ aV ds)
 | [], c, s, L, h, _, _ => by simpa [aV] using h
 | d :: ds, c, s, L, h, hf, hw => by
  rw [List.foldl_cons] at hf
  rw [List.foldl_cons, List.foldl_cons]
  have hf1 : (s.decl d).first = none := (lC ds (s.decl d) hf).1
  obtain ⟨_, k1, k2, k3⟩ := X9 hf1
  have hw2 : ∀ x ∈ ds, x.word = [113, 117, 101, 117, 101] \/ x.word = [103, 104, 111, 115, 116] \/ x.word = [118, 97, 114] \/ x.word = [102, 114, 101, 113] := fun x hx => hw x (by simp [hx])
  rcases hw d (by simp) with e | e | e | e
  ·obtain ⟨a1, a2, a3, a4, a5⟩ := k1 (Or.inl e)
   have hd : aV (d :: ds) = nO d :: aV ds := by simp [aV, e]
   rw [hd, show L ++ nO d :: aV ds = (L ++ [nO d]) ++ aV ds by simp]
   refine Dx.decls ds _ _ _ (h.more (nO d) 0 ?_ a3 a4 a5 ?_ ?_ ?_ ?_ ?_ ?_ ⟨a1, by show d.num.1 <= 99; omega, fun _ => a2⟩ (Or.inl e) ?_) hf hw2
   all_goals (simp [Cc.jH, nO, O0, Q7, e])
  ·obtain ⟨a1, a2, a3, a4, a5⟩ := k1 (Or.inr e)
   have hd : aV (d :: ds) = nO d :: aV ds := by simp [aV, e]
   rw [hd, show L ++ nO d :: aV ds = (L ++ [nO d]) ++ aV ds by simp]
   refine Dx.decls ds _ _ _ (h.more (nO d) 0 ?_ a3 a4 a5 ?_ ?_ ?_ ?_ ?_ ?_ ⟨a1, by show d.num.1 <= 99; omega, fun _ => a2⟩ (Or.inr (Or.inl e)) ?_) hf hw2
   all_goals (simp [Cc.jH, nO, O0, Q7, e])
  ·obtain ⟨a1, a2, a3, a4, a5⟩ := k2 e
   have hd : aV (d :: ds) = nO d :: aV ds := by simp [aV, e]
   rw [hd, show L ++ nO d :: aV ds = (L ++ [nO d]) ++ aV ds by simp]
   refine Dx.decls ds _ _ _ (h.more (nO d) 1 ?_ a3 a4 a5 ?_ ?_ ?_ ?_ ?_ ?_ ⟨a1, a2, fun hn => absurd e hn⟩ (Or.inr (Or.inr e)) ?_) hf hw2
   all_goals (simp [Cc.jH, nO, O0, Q7, e])
  ·obtain ⟨a1, a2, _, _, a5⟩ := k3 e
   have hd : aV (d :: ds) = aV ds := by simp [aV, e]
   rw [hd]
   have ec : c.jH d = { c with mf := d.num.1 } := by simp [Cc.jH, e]
   refine Dx.decls ds _ _ _ ⟨?_, ?_, ?_, ?_, ?_, ?_, ?_, ?_, ?_, h.uq, h.mx, h.kd, ?_⟩ hf hw2
   ·rw [ec]; exact h.ro
   ·rw [ec]; exact h.gh
   ·rw [ec]; exact h.ev
   ·rw [ec]; exact h.mo
   ·rw [ec]; exact h.vn
   ·rw [ec]; exact h.ix
   ·rw [a5]; exact h.nm
   ·rw [a5]; exact h.nm2
   ·rw [a5]; exact h.nl
   ·rw [ec]; exact a2
theorem aEf {L : List DL} (uq : ∀ (k : Nat) d (k' : Nat) d', L[k]? = some d -> L[k']? = some d' -> d.2.1 = d'.2.1 -> k = k') {k : Nat} {d : DL} (h : L[k]? = some d) : dV L d.2.1 = some k := by
 induction L generalizing k with
 | nil => simp at h
 | cons a L ih =>
  rw [kZ]
  cases k with
  | zero =>
   simp at h
   subst h
   simp
  | succ k =>
   have hne : (a.2.1 == d.2.1) = false := by
    simp only [beq_eq_false_iff_ne]
    intro e
    have := uq 0 a (k + 1) d rfl h e
    omega
   rw [hne]
   have := ih (fun k d k' d' h1 h2 e => by have := uq (k + 1) d (k' + 1) d' (by simpa using h1) (by simpa using h2) e; omega) (k := k) (by simpa using h)
   simp [this]
theorem Dx.nmr {c : Cc} {s : Ck} {L : List DL} (h : Dx c s L) : NmR s.names L := by
 intro nm k hk
 obtain ⟨i, d, h1, h2⟩ := h.nm2 nm k hk
 subst h2
 have h3 := h.nm i d h1
 rw [hk] at h3
 refine ⟨i, d, aEf h.uq h1, h1, rfl, fun e => ?_, fun e => ?_⟩
 ·subst e
  intro e2
  simp [e2] at h3
 ·subst e
  by_cases e2 : d.1 = [118, 97, 114]
  ·exact e2
  ·simp [e2] at h3
theorem Dx.dm {c c' : Cc} {s : Ck} {L : List DL} (h : Dx c s L) (e1 : c'.ro = c.ro) (e2 : c'.gh = c.gh) (e3 : c'.mo = c.mo) (e4 : c'.ix = c.ix) (e5 : c'.mf = c.mf) : Dm c' L (pG O0 L) (pG Q7 L) := by
 have hnv : ∀ d : DL, d.1 ≠ [118, 97, 114] -> O0 d = true := fun d hd => by simp [O0, hd]
 have hvr : ∀ d : DL, d.1 = [118, 97, 114] -> Q7 d = true := fun d hd => by simp [Q7, hd]
 refine ⟨fun k d h1 h2 => ?_, fun k d h1 h2 => ?_, fun k d k' d' h1 h2 h3 h4 e => ?_, fun k d k' d' h1 h2 h3 h4 e => ?_, fun q hq => ?_, by rw [e5]; exact h.mf, fun k d h1 => (h.mx d (List.mem_of_getElem? h1)).2.1⟩
 ·have h3 := qJ O0 L k d h1 (hnv d h2)
  rw [e1, e2, e4, h.ro, h.gh, h.ix k d h1, if_neg h2]
  refine ⟨?_, ?_, ?_, rfl⟩
  ·have := (List.getElem?_eq_some_iff.1 h3).1; simpa using this
  ·simp [h3]
  ·simp [h3]
 ·have h3 := qJ Q7 L k d h1 (hvr d h2)
  rw [e3, e4, h.mo, h.ix k d h1, if_pos h2]
  refine ⟨?_, ?_, rfl⟩
  ·have := (List.getElem?_eq_some_iff.1 h3).1; simpa using this
  ·simp [h3]
 ·have a := qJ O0 L k d h1 (hnv d h3)
  have b := qJ O0 L k' d' h2 (hnv d' h4)
  rw [e, b] at a
  cases a
  exact h.uq k d k' d h1 h2 rfl
 ·have a := qJ Q7 L k d h1 (hvr d h3)
  have b := qJ Q7 L k' d' h2 (hvr d' h4)
  rw [e, b] at a
  cases a
  exact h.uq k d k' d h1 h2 rfl
 ·rw [e1, h.ro] at hq
  obtain ⟨k, d, h1, h2, h3⟩ := yO O0 L q (by simpa using hq)
  exact ⟨k, d, h1, by simpa [O0] using h2, h3⟩
theorem Fine.dx {x : List Dc × List (Nat × NP × BT 8)} (h : Fine x) : Dx (x.1.foldl Cc.jH qL) (x.1.foldl Ck.decl qR) (aV x.1) := by
 have := Dx.decls x.1 qL qR [] Dx.start (jA h.ck).2 h.dw
 simpa using this
theorem Fine.dm {x : List Dc × List (Nat × NP × BT 8)} (h : Fine x) : Dm (kU x) (aV x.1) (pG O0 (aV x.1)) (pG Q7 (aV x.1)) := by
 have e := mQ x.2 (x.1.foldl Cc.jH qL)
 exact h.dx.dm (by have := congrArg Cc.ro e; exact this) (by have := congrArg Cc.gh e; exact this) (by have := congrArg Cc.mo e; exact this) (by have := congrArg Cc.ix e; exact this) (by have := congrArg Cc.mf e; exact this)
def dO (rs : List (Nat × NP × BT 8)) (ev : List UInt8) : Option (BT 8) := match rs with
 | [] => none
 | r :: rs => if r.2.1.1 = ev then some r.2.2 else dO rs ev
theorem iU (r : Nat × NP × BT 8) (rs : List (Nat × NP × BT 8)) (ev : List UInt8) : dO (r :: rs) ev = if r.2.1.1 = ev then some r.2.2 else dO rs ev := rfl
theorem aAm {c c' : Cc} (h : c'.ix = c.ix) : ∀ d, dL c' d = dL c d
 | 0 => rfl
 | d + 1 => by
  have ih := aAm h d
  have hr : ∀ n, c'.ref n = c.ref n := fun n => by unfold Cc.ref; rw [h]
  have ho : ∀ n, c'.U9 n = c.U9 n := fun n => by unfold Cc.U9; rw [h]
  have ht : ∀ x, c'.nM x = c.nM x := fun x => by unfold Cc.nM; rw [hr, ho, ho]
  have hp : ∀ x, c'.pln x = c.pln x := fun x => by unfold Cc.pln; rw [hr, hr]
  have hS : ∀ base lp r, kT (dL c d) c' base lp r = kT (dL c d) c base lp r := fun base lp r => by unfold kT; rw [ht, hp]
  funext base lp xs
  show lU (dL c' d) c' base lp xs = lU (dL c d) c base lp xs
  rw [ih]
  have : ∀ (xs : List (St × BT d × BT d)) base, lU (dL c d) c' base lp xs = lU (dL c d) c base lp xs := by
   intro xs
   induction xs with
   | nil => intro _; rfl
   | cons r rs ihl =>
    intro base
    show kT (dL c d) c' base lp r ++ lU (dL c d) c' (base + (kT (dL c d) c' base lp r).length) lp rs = kT (dL c d) c base lp r ++ lU (dL c d) c (base + (kT (dL c d) c base lp r).length) lp rs
    rw [hS, ihl]
  exact this xs base
theorem aPy (c : Cc) (r : Nat × NP × BT 8) (h1 : c.st = []) (h2 : c.lp = 0) : (c.dS r).rt = (r.2.1.1, dL c 8 0 0 r.2.2) :: c.rt /\ (c.dS r).st = [] /\ (c.dS r).lp = 0 /\ (c.dS r).ix = c.ix := by
 have e := aK1 8 c r.2.2
 rw [h1, h2] at e
 unfold Cc.dS
 rw [e]
 refine ⟨?_, rfl, rfl, rfl⟩
 simp [Cc.uC, Cc.more, Cc.with]
theorem aF1 : ∀ (rs : List (Nat × NP × BT 8)) (c : Cc), c.st = [] -> c.lp = 0 -> (rs.map fun r => r.2.1.1).Nodup -> ∀ ev, vF ev (rs.foldl Cc.dS c).rt = match dO rs ev with
  | some b => some (dL c 8 0 0 b)
  | none => vF ev c.rt
 | [], c, _, _, _, ev => rfl
 | r :: rs, c, h1, h2, hd, ev => by
  obtain ⟨e1, e2, e3, e4⟩ := aPy c r h1 h2
  rw [List.map_cons, List.nodup_cons] at hd
  rw [List.foldl_cons, aF1 rs (c.dS r) e2 e3 hd.2 ev, aAm e4, e1, iU]
  by_cases e : r.2.1.1 = ev
  ·have hn : dO rs ev = none := by
    have : ∀ (rs : List (Nat × NP × BT 8)), ev ∉ rs.map (fun r => r.2.1.1) -> dO rs ev = none := by
     intro rs
     induction rs with
     | nil => intro _; rfl
     | cons a rs ih =>
      intro hm
      simp at hm
      rw [iU, if_neg (fun e => hm.1 e.symm)]
      exact ih (by simpa using hm.2)
    exact this rs (e ▸ hd.1)
   rw [hn, if_pos e]
   show (if r.2.1.1 = ev then _ else _) = _
   rw [if_pos e]
  ·rw [if_neg e]
   cases dO rs ev with
   | some b => rfl
   | none =>
    show (if r.2.1.1 = ev then _ else _) = _
    rw [if_neg e]
theorem aHp {L : List DL} {s : Ck} (hn : NmR s.names L) {r : Nat × NP × BT 8} (hw : wfB 8 0 r.2.2) (h : (s.rule r).first = none) :
  (look r.2.1.1 s.rules).getD 0 = 0 /\ (r.2.1.1 = [109, 105, 115, 115] \/ look r.2.1.1 s.names = some 0) /\ TR L 8 0 r.2.2 (aP L 8 r.2.2) /\ O4 8 (aP L 8 r.2.2) <= 50 ^ 2 * bP 8 r.2.2 /\ (s.rule r).names = s.names /\ (s.rule r).rules = (r.2.1.1, 1) :: s.rules := by
 unfold Ck.rule at h ⊢
 have f2 : ((s.fO r.1 r.2.1).rule2 r.2.1).first = none := gQ (fun _ he => lV 8 _ _ he) h
 have f1 : (s.fO r.1 r.2.1).first = none := gQ (fun _ he => rM he _) f2
 have h1 : (look r.2.1.1 s.rules).getD 0 = 0 /\ s.fO r.1 r.2.1 = s.count r.2.1 := by
  unfold Ck.fO at f1 ⊢
  split at f1
  ·exact absurd f1 iY
  ·rename_i hc
   rw [if_neg hc]
   exact ⟨by omega, rfl⟩
 obtain ⟨k1, k2⟩ := h1
 rw [k2] at f2 h ⊢
 have h2 : (r.2.1.1 = [109, 105, 115, 115] \/ look r.2.1.1 s.names = some 0) /\ (s.count r.2.1).rule2 r.2.1 = s.count r.2.1 := by
  unfold Ck.rule2 at f2 ⊢
  split at f2
  ·rename_i e
   rw [if_pos e]
   exact ⟨Or.inl e, rfl⟩
  ·rename_i e
   rw [if_neg e]
   obtain ⟨u1, u2⟩ := kH f2
   exact ⟨Or.inr u1, u2⟩
 obtain ⟨k3, k4⟩ := h2
 rw [k4] at h ⊢
 obtain ⟨b1, b2, b3⟩ := aDa 8 0 r.2.2 (s.count r.2.1) hn hw h
 rw [b1]
 refine ⟨k1, k3, b2, b3, rfl, ?_⟩
 show (r.2.1.1, (look r.2.1.1 s.rules).getD 0 + 1) :: s.rules = _
 rw [k1]
theorem nD {L : List DL} : ∀ (rs : List (Nat × NP × BT 8)) (s : Ck), NmR s.names L -> (∀ r ∈ rs, wfB 8 0 r.2.2) -> (rs.foldl Ck.rule s).first = none ->
  (∀ r ∈ rs, (look r.2.1.1 s.rules).getD 0 = 0 /\ (r.2.1.1 = [109, 105, 115, 115] \/ look r.2.1.1 s.names = some 0) /\ TR L 8 0 r.2.2 (aP L 8 r.2.2) /\ O4 8 (aP L 8 r.2.2) <= 50 ^ 2 * bP 8 r.2.2) /\ (rs.map fun r => r.2.1.1).Nodup /\ ∀ ev, (look ev (rs.foldl Ck.rule s).rules).getD 0 ≠ 0 -> (look ev s.rules).getD 0 ≠ 0 \/ ∃ b, dO rs ev = some b
 | [], s, _, _, _ => ⟨fun _ hx => (by cases hx), by simp, fun ev h => Or.inl h⟩
 | r :: rs, s, hn, hw, h => by
  rw [List.foldl_cons] at h ⊢
  have f0 : (s.rule r).first = none := gQ (fun _ he => vP (fun s x hx => aGs hx x) rs _ he) h
  obtain ⟨a1, a2, a3, a4, a5, a6⟩ := aHp hn (hw r (by simp)) f0
  obtain ⟨b1, b2, b3⟩ := nD rs (s.rule r) (by rw [a5]; exact hn) (fun x hx => hw x (by simp [hx])) h
  have hne : ∀ x ∈ rs, x.2.1.1 ≠ r.2.1.1 := fun x hx e => by
   have := (b1 x hx).1
   rw [a6, gK, if_pos e.symm] at this
   simp at this
  refine ⟨fun x hx => ?_, ?_, fun ev hev => ?_⟩
  ·rcases List.mem_cons.1 hx with rfl | hx
   ·exact ⟨a1, a2, a3, a4⟩
   ·obtain ⟨c1, c2, c3, c4⟩ := b1 x hx
    rw [a6, gK, if_neg (Ne.symm (hne x hx))] at c1
    rw [a5] at c2
    exact ⟨c1, c2, c3, c4⟩
  ·rw [List.map_cons, List.nodup_cons]
   refine ⟨fun hm => ?_, b2⟩
   obtain ⟨x, hx, e⟩ := List.mem_map.1 hm
   exact hne x hx e
  ·rw [iU]
   by_cases e : r.2.1.1 = ev
   ·rw [if_pos e]; exact Or.inr ⟨_, rfl⟩
   ·rw [if_neg e]
    rcases b3 ev hev with h3 | h3
    ·rw [a6, gK, if_neg e] at h3
     exact Or.inl h3
    ·exact Or.inr h3
theorem uA : ∀ {rs : List (Nat × NP × BT 8)} {ev : List UInt8} {b : BT 8}, dO rs ev = some b -> ∃ r ∈ rs, r.2.1.1 = ev /\ r.2.2 = b
 | [], _, _, h => by cases h
 | r :: rs, ev, b, h => by
  unfold dO at h
  split at h
  ·rename_i e
   cases h
   exact ⟨r, by simp, e, rfl⟩
  ·obtain ⟨x, hx, h1⟩ := uA h
   exact ⟨x, by simp [hx], h1⟩
theorem aHy {l : List UInt8} {x : List Dc × List (Nat × NP × BT 8)} (h : dM l = .ok x) : ∀ r ∈ x.2, bP 8 r.2.2 <= 2800 := by
 unfold dM at h
 split at h
 ·cases h
 ·rename_i hl
  cases hp : dH l (aN l 0) with
  | error e => rw [hp] at h; cases h
  | ok p =>
   obtain ⟨y, t'⟩ := p
   rw [hp] at h
   simp only at h
   cases hc : (jB y.1 y.2).first with
   | some e => rw [hc] at h; cases h
   | none =>
    rw [hc] at h
    simp only [Except.ok.injEq] at h
    subst h
    unfold dH at hp
    obtain ⟨ds, t1, h1, hp⟩ := aB hp
    obtain ⟨rs, t2, h2, hp⟩ := aB hp
    have ht1 := (vO _ _ (oO l 0 (Nat.zero_le _)) ds t1 h1).2
    have ht2 := (vN (by omega) _ t1 ht1 rs t2 h2).2
    have k2 := o6 _ _ _ _ h2
    unfold qF at hp
    split at hp
    ·simp only [Except.ok.injEq, Prod.mk.injEq] at hp
     obtain ⟨rfl, _⟩ := hp
     intro r hr
     have := k2.1 r hr
     unfold Tk at ht2
     omega
    ·cases hp
structure Pol where
 L : List DL
 mf : Nat
 dS : List UInt8 -> Option (RT 8)
def bM (x : List Dc × List (Nat × NP × BT 8)) : Pol := ⟨aV x.1, (kU x).mf, fun ev => (dO x.2 ev).map (aP (aV x.1) 8)⟩
structure Prg (c : Cc) (P : Pol) (qi vi : Nat -> Nat) : Prop where
 dm : Dm c P.L qi vi
 mf : P.mf = c.mf
 ru : ∀ ev, match P.dS ev with
  | some y => ∃ x, vF ev c.rt = some (dL c 8 0 0 x) /\ TR P.L 8 0 x y /\ O4 8 y <= 7000000 /\ (dL c 8 0 0 x).length <= 800000
  | none => vF ev c.rt = none
 ev : ∀ (k : Nat) d, P.L[k]? = some d -> d.1 ≠ [118, 97, 114] -> c.ev[qi k]? = some d.2.1
 vn : ∀ (k : Nat) d, P.L[k]? = some d -> d.1 = [118, 97, 114] -> c.vn[vi k]? = some d.2.1
 le : c.ev.length = c.ro.length /\ c.vn.length = c.mo.length /\ c.ro.length <= 8 /\ c.mo.length <= 8
 miss : ∃ y, P.dS [109, 105, 115, 115] = some y
 uq : ∀ (k : Nat) d (k' : Nat) d', P.L[k]? = some d -> P.L[k']? = some d' -> d.2.1 = d'.2.1 -> k = k'
 kd : ∀ d ∈ P.L, d.1 = [113, 117, 101, 117, 101] \/ d.1 = [103, 104, 111, 115, 116] \/ d.1 = [118, 97, 114]
 mx : ∀ d ∈ P.L, 1 <= d.2.2 /\ d.2.2 <= 99 /\ (d.1 ≠ [118, 97, 114] -> d.2.2 <= 50)
 ll : P.L.length <= 8
 sv : ∀ q, q < c.mo.length -> ∃ (k : Nat) (d : DL), P.L[k]? = some d /\ d.1 = [118, 97, 114] /\ vi k = q
theorem aK2 {β : Type} {gen : Nat -> Nat -> β -> List Stp} {f : β -> Nat} (hg : ∀ b l x, (gen b l x).length <= f x) (c : Cc) (base lp : Nat) (r : St × β × β) : (kT gen c base lp r).length <= 4 + f r.2.1 + f r.2.2 := by
 unfold kT
 have a1 := hg (base + 1) lp r.2.1
 have a2 := hg (base + 3) (lp + 1) r.2.1
 have a3 := hg (base + (gen (base + 1) lp r.2.1).length + 2) lp r.2.2
 split
 ·simp; omega
 ·split
  ·simp; omega
  ·simp; omega
theorem aCk (c : Cc) : ∀ (d base lp : Nat) (x : BT d), (dL c d base lp x).length <= bP d x
 | 0, _, _, _ => Nat.zero_le _
 | d + 1, base, lp, xs => by
  have : ∀ (xs : List (St × BT d × BT d)) base, (lU (dL c d) c base lp xs).length <= iZ (bP d) xs := by
   intro xs
   induction xs with
   | nil => intro _; exact Nat.zero_le _
   | cons r rs ih =>
    intro base
    have h1 := aK2 (aCk c d) c base lp r
    have h2 := ih (base + (kT (dL c d) c base lp r).length)
    show (kT (dL c d) c base lp r ++ _).length <= 4 + bP d r.2.1 + bP d r.2.2 + iZ (bP d) rs
    rw [List.length_append]
    omega
  exact this xs base
theorem zW {l : List UInt8} {x : List Dc × List (Nat × NP × BT 8)} (h : dM l = .ok x) : Prg (kU x) (bM x) (pG O0 (aV x.1)) (pG Q7 (aV x.1)) := by
 have hF := kC h
 have hwf := yB h
 have hco := aHy h
 have D := hF.dx
 have e := mQ x.2 (x.1.foldl Cc.jH qL)
 have hR := nD (L := aV x.1) x.2 (x.1.foldl Ck.decl qR) D.nmr hwf (jA hF.ck).1
 obtain ⟨r1, r2, r3⟩ := hR
 have hst : (x.1.foldl Cc.jH qL).st = [] /\ (x.1.foldl Cc.jH qL).lp = 0 /\ (x.1.foldl Cc.jH qL).rt = [] := by
  have : ∀ (ds : List Dc) (c : Cc), (ds.foldl Cc.jH c).st = c.st /\ (ds.foldl Cc.jH c).lp = c.lp /\ (ds.foldl Cc.jH c).rt = c.rt := by
   intro ds
   induction ds with
   | nil => intro c; exact ⟨rfl, rfl, rfl⟩
   | cons d ds ih =>
    intro c
    rw [List.foldl_cons]
    obtain ⟨a, b, f⟩ := ih (c.jH d)
    have hd : (c.jH d).st = c.st /\ (c.jH d).lp = c.lp /\ (c.jH d).rt = c.rt := by refine ⟨?_, ?_, ?_⟩ <;> unfold Cc.jH <;> (repeat' split) <;> rfl
    exact ⟨a.trans hd.1, b.trans hd.2.1, f.trans hd.2.2⟩
  exact this x.1 qL
 have hix : (kU x).ix = (x.1.foldl Cc.jH qL).ix := by have := congrArg Cc.ix e; exact this
 have hev : (kU x).ev = (x.1.foldl Cc.jH qL).ev := by have := congrArg Cc.ev e; exact this
 have hvn : (kU x).vn = (x.1.foldl Cc.jH qL).vn := by have := congrArg Cc.vn e; exact this
 have hro : (kU x).ro = (x.1.foldl Cc.jH qL).ro := by have := congrArg Cc.ro e; exact this
 have hmo : (kU x).mo = (x.1.foldl Cc.jH qL).mo := by have := congrArg Cc.mo e; exact this
 have hl8 := D.nl.2
 have hfl : ∀ p : DL -> Bool, ((aV x.1).filter p).length <= 8 := fun p => Nat.le_trans (List.length_filter_le _ _) hl8
 refine ⟨hF.dm, rfl, fun ev => ?_, fun k d h1 h2 => ?_, fun k d h1 h2 => ?_, ?_, ?_, D.uq, D.kd, D.mx, hl8, fun q hq => ?_⟩
 ·have hrt := aF1 x.2 (x.1.foldl Cc.jH qL) hst.1 hst.2.1 r2 ev
  show match (dO x.2 ev).map (aP (aV x.1) 8) with
   | some y => _
   | none => _
  cases hr : dO x.2 ev with
  | none =>
   rw [hr, hst.2.2] at hrt
   exact hrt
  | some b =>
   rw [hr] at hrt
   obtain ⟨r, hm, _, rfl⟩ := uA hr
   obtain ⟨_, _, t1, t2⟩ := r1 r hm
   have hc := hco r hm
   refine ⟨r.2.2, ?_, t1, by omega, Nat.le_trans (aCk _ 8 0 0 _) (by omega)⟩
   rw [aAm hix]
   exact hrt
 ·have h3 := qJ O0 (aV x.1) k d h1 (by simp [O0, h2])
  rw [hev, D.ev]
  simp [h3]
 ·have h3 := qJ Q7 (aV x.1) k d h1 (by simp [Q7, h2])
  rw [hvn, D.vn]
  simp [h3]
 ·rw [hev, hro, hvn, hmo, D.ev, D.ro, D.vn, D.mo]
  simp [hfl]
 ·have hm : (look [109, 105, 115, 115] (x.2.foldl Ck.rule (x.1.foldl Ck.decl qR)).rules).getD 0 ≠ 0 := by
   intro e0
   have := hF.ck
   unfold jB missS at this
   rw [if_pos e0] at this
   exact iY this
  have hrl : (x.1.foldl Ck.decl qR).rules = [] := by
   have hdr : ∀ (s : Ck) (n : NP) (k : Nat), (s.declare n k).rules = s.rules := fun s n k => by
    unfold Ck.declare Ck.fault
    repeat' split
    all_goals rfl
   have hbr : ∀ (s : Ck) (v p m : Nat), (s.bound v p m).rules = s.rules := fun s v p m => by
    unfold Ck.bound Ck.fault
    repeat' split
    all_goals rfl
   have hd1 : ∀ (s : Ck) (d : Dc), (s.decl d).rules = s.rules := fun s d => by
    unfold Ck.decl
    split
    ·rw [hbr, hdr]
    ·split
     ·rw [hbr, hdr]
     ·split
      ·rw [hbr]
       unfold Ck.fault
       repeat' split
       all_goals rfl
      ·rfl
   have : ∀ (ds : List Dc) (s : Ck), (ds.foldl Ck.decl s).rules = s.rules := by
    intro ds
    induction ds with
    | nil => intro s; rfl
    | cons d ds ih => intro s; rw [List.foldl_cons, ih, hd1]
   exact this x.1 qR
  rcases r3 _ hm with h3 | ⟨b, h3⟩
  ·rw [hrl] at h3
   exact absurd rfl h3
  ·exact ⟨aP (aV x.1) 8 b, by show (dO x.2 _).map _ = _; rw [h3]; rfl⟩
 ·rw [hmo, D.mo] at hq
  obtain ⟨k, d, h1, h2, h3⟩ := yO Q7 (aV x.1) q (by simpa using hq)
  exact ⟨k, d, h1, by simpa [Q7] using h2, h3⟩
def Pol.tree (P : Pol) (ev : List UInt8) : RT 8 := (P.dS ev).getD (aI 8)
abbrev Tx := List Dc × List (Nat × NP × BT 8)
end Go.Proofs.YtfddoieakfpagaaGreatDoor
