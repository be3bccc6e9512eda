import Derived.ScopeJumps
import Derived.WalkMore
import Derived.Deep.MidRow
import Derived.Test.YtfddoieakfpagabGreatDoorJC
import Derived.Test.YtfddoieakfpagabGreatDoorJB
import Derived.Test.YtfddoieakfpagabGreatDoorGC
namespace Go.Proofs.YtfddoieakfpagabGreatDoor
set_option maxHeartbeats 8000000
set_option maxRecDepth 20000
open Go.RowKit
structure Dm (c : Cc) (L : List DL) (qi vi : Nat -> Nat) : Prop where
 isq : ∀ (k : Nat) d, L[k]? = some d -> d.1 ≠ [118, 97, 114] -> qi k < c.ro.length /\ c.ro[qi k]? = some d.2.2 /\ c.gh[qi k]? = some (!(d.1 == [113, 117, 101, 117, 101])) /\ look d.2.1 c.ix = some (qi k)
 isv : ∀ (k : Nat) d, L[k]? = some d -> d.1 = [118, 97, 114] -> vi k < c.mo.length /\ c.mo[vi k]? = some d.2.2 /\ look d.2.1 c.ix = some (vi k)
 inq : ∀ (k : Nat) d (k' : Nat) d', L[k]? = some d -> L[k']? = some d' -> d.1 ≠ [118, 97, 114] -> d'.1 ≠ [118, 97, 114] -> qi k = qi k' -> k = k'
 inv : ∀ (k : Nat) d (k' : Nat) d', L[k]? = some d -> L[k']? = some d' -> d.1 = [118, 97, 114] -> d'.1 = [118, 97, 114] -> vi k = vi k' -> k = k'
 sur : ∀ q, q < c.ro.length -> ∃ (k : Nat) (d : DL), L[k]? = some d /\ d.1 ≠ [118, 97, 114] /\ qi k = q
 mf : c.mf <= 99
 mx : ∀ (k : Nat) d, L[k]? = some d -> d.2.2 <= 99
structure Lst (c : Cc) (L : List DL) (qi : Nat -> Nat) (Q : List (List (Nat × Nat))) (Qm : Nat -> List (Nat × Nat)) : Prop where
 len : Q.length = L.length
 qq : ∀ (k : Nat) d, L[k]? = some d -> d.1 ≠ [118, 97, 114] -> Q[k]? = some (Qm (qi k))
 qv : ∀ (k : Nat) d, L[k]? = some d -> d.1 = [118, 97, 114] -> Q[k]? = some []
structure Sim (c : Cc) (L : List DL) (qi vi : Nat -> Nat) (R : Rn) (s : Ex) (Qm : Nat -> List (Nat × Nat)) : Prop where
 ar : AbsR R.A c.ro.length (fun q => c.ro.getD q 0) Qm
 ls : Lst c L qi s.Q Qm
 vl : s.V.length = L.length
 rl : R.vars.length = c.mo.length
 vv : ∀ (k : Nat) d, L[k]? = some d -> d.1 = [118, 97, 114] -> ∃ v, s.V[k]? = some v /\ R.vars[vi k]? = some v /\ v <= d.2.2
 ev : R.ev = s.gone
 fb : ∀ q, q < c.ro.length -> ∀ e ∈ Qm q, e.2 <= c.mf
section
variable {c : Cc} {L : List DL} {qi vi : Nat -> Nat} {R : Rn} {s : Ex} {Qm : Nat -> List (Nat × Nat)} {Q : List (List (Nat × Nat))}
theorem Lst.mod (h : Lst c L qi Q Qm) (D : Dm c L qi vi) {k0 : Nat} {d0 : DL} (hk : L[k0]? = some d0) (hv : d0.1 ≠ [118, 97, 114]) (f : List (Nat × Nat) -> List (Nat × Nat)) : Lst c L qi (Q.modify k0 f) (upd Qm (qi k0) (f (Qm (qi k0)))) := by
 refine ⟨by rw [List.length_modify]; exact h.len, fun k d h1 h2 => ?_, fun k d h1 h2 => ?_⟩
 ·rw [List.getElem?_modify, h.qq k d h1 h2]
  by_cases e : k0 = k
  ·subst e
   rw [upd_same]
   simp
  ·have : qi k ≠ qi k0 := fun e2 => e (D.inq k d k0 d0 h1 hk h2 hv e2).symm
   rw [upd_other _ _ this]
   simp [e]
 ·rw [List.getElem?_modify, h.qv k d h1 h2]
  have : k0 ≠ k := by rintro rfl; rw [hk] at h1; cases h1; exact hv h2
  simp [this]
theorem Lst.congr (h : Lst c L qi Q Qm) (D : Dm c L qi vi) {Qm' : Nat -> List (Nat × Nat)} (he : ∀ q, q < c.ro.length -> Qm q = Qm' q) : Lst c L qi Q Qm' :=
 ⟨h.len, fun k d h1 h2 => by rw [<- he _ (D.isq k d h1 h2).1]; exact h.qq k d h1 h2, h.qv⟩
theorem Lst.getD (h : Lst c L qi Q Qm) {k : Nat} {d : DL} (h1 : L[k]? = some d) (h2 : d.1 ≠ [118, 97, 114]) : Q.getD k [] = Qm (qi k) := by
 rw [List.getD_eq_getElem?_getD, h.qq k d h1 h2]
 rfl
theorem Lst.at_in (h : Lst c L qi Q Qm) (D : Dm c L qi vi) {key q f : Nat} {l1 l2 : List (Nat × Nat)} (hi : InQ c.ro.length Qm key q f l1 l2) : ∃ (k : Nat) (d : DL), L[k]? = some d /\ d.1 ≠ [118, 97, 114] /\ qi k = q /\ whereX Q key = some (k, l1.length) /\ Q[k]? = some (l1 ++ (key, f) :: l2) := by
 obtain ⟨k, d, h1, h2, h3⟩ := D.sur q hi.lt
 subst h3
 have h4 := h.qq k d h1 h2
 rw [hi.at'] at h4
 refine ⟨k, d, h1, h2, rfl, whereX_some hi.n1 h4 (fun i l hlt hl => ?_), h4⟩
 have hlen : i < L.length := by rw [<- h.len]; exact (List.getElem?_eq_some_iff.1 hl).1
 have h5 : L[i]? = some L[i] := List.getElem?_eq_getElem hlen
 by_cases e : (L[i]).1 = [118, 97, 114]
 ·have := h.qv i _ h5 e
  rw [hl] at this
  simp at this
  subst this
  intro e he
  cases he
 ·have := h.qq i _ h5 e
  rw [hl] at this
  simp at this
  subst this
  exact hi.no _ (D.isq i _ h5 e).1 (fun e2 => by have := D.inq i _ k d h5 h1 e h2 e2; omega)
theorem Lst.at_no (h : Lst c L qi Q Qm) (D : Dm c L qi vi) {key : Nat} (hi : NoQ c.ro.length Qm key) : whereX Q key = none := by
 refine whereX_none (fun l hl => ?_)
 obtain ⟨i, hlt, rfl⟩ := List.getElem_of_mem hl
 have hl2 : Q[i]? = some Q[i] := List.getElem?_eq_getElem hlt
 have h5 : L[i]? = some (L[i]'(by rw [<- h.len]; exact hlt)) := List.getElem?_eq_getElem _
 by_cases e : (L[i]'(by rw [<- h.len]; exact hlt)).1 = [118, 97, 114]
 ·have := h.qv i _ h5 e
  rw [hl2] at this
  simp at this
  rw [this]
  intro e he
  cases he
 ·have := h.qq i _ h5 e
  rw [hl2] at this
  simp at this
  rw [this]
  exact hi _ (D.isq i _ h5 e).1
theorem resX_eq {k : Nat} {d : DL} (h : L[k]? = some d) : resX L k = (d.1 == [113, 117, 101, 117, 101]) := by unfold resX; rw [h]
theorem maxX_eq {k : Nat} {d : DL} (h : L[k]? = some d) : maxX L k = d.2.2 := by unfold maxX; rw [h]
theorem Dm.cap (D : Dm c L qi vi) {k : Nat} {d : DL} (h : L[k]? = some d) (h2 : d.1 ≠ [118, 97, 114]) : c.ro.getD (qi k) 0 = d.2.2 := by
 rw [List.getD_eq_getElem?_getD, (D.isq k d h h2).2.1]
 rfl
theorem cached_in {A : Ar} (h : AbsR A c.ro.length (fun q => c.ro.getD q 0) Qm) (D : Dm c L qi vi) {key f k : Nat} {d : DL} {l1 l2 : List (Nat × Nat)} (h1 : L[k]? = some d) (h2 : d.1 ≠ [118, 97, 114]) (hi : InQ c.ro.length Qm key (qi k) f l1 l2) : cachedS c A key = some (resX L k) := by
 unfold cachedS
 rw [(h.find_in hi).1, resX_eq h1]
 simp [(D.isq k d h1 h2).2.2.1]
theorem cached_no {A : Ar} (h : AbsR A c.ro.length (fun q => c.ro.getD q 0) Qm) {key : Nat} (hi : NoQ c.ro.length Qm key) : cachedS c A key = some false := by
 unfold cachedS
 rw [(h.find_no hi).1]
 rfl
theorem NoQ.del {nq : Nat} {Q : Nat -> List (Nat × Nat)} {k q f : Nat} {l1 l2 : List (Nat × Nat)} (hi : InQ nq Q k q f l1 l2) : NoQ nq (fun p => delK k (Q p)) k := by
 intro p hp e he
 by_cases e2 : p = q
 ·subst e2
  have : e ∈ delK k (Q p) := he
  rw [hi.del.1] at this
  rcases List.mem_append.1 this with h | h
  ·exact hi.n1 e h
  ·exact hi.n2 e h
 ·have : e ∈ delK k (Q p) := he
  rw [hi.del.2 p hp e2] at this
  exact hi.no p hp e2 e this
theorem putE_mem {tail : Bool} {e x : Nat × Nat} {l : List (Nat × Nat)} : x ∈ putE tail e l ↔ x = e \/ x ∈ l := by
 cases tail <;> simp [putE, or_comm]
theorem InQ.put {nq : Nat} {Q : Nat -> List (Nat × Nat)} {k q f : Nat} (hq : q < nq) (hn : NoQ nq Q k) (tail : Bool) : ∃ l1 l2, InQ nq (upd Q q (putE tail (k, f) (Q q))) k q f l1 l2 := by
 have hne : ∀ p, p < nq -> p ≠ q -> ∀ e ∈ upd Q q (putE tail (k, f) (Q q)) p, e.1 ≠ k := fun p hp hpq e he => by rw [upd_other _ _ hpq] at he; exact hn p hp e he
 cases tail with
 | true => exact ⟨Q q, [], hq, by rw [upd_same]; rfl, hn q hq, by simp, hne⟩
 | false => exact ⟨[], Q q, hq, by rw [upd_same]; rfl, by simp, hn q hq, hne⟩
theorem tell_eq (hl : R.ev.length <= 1000000000) {k : Nat} {was now : Bool} (hc : cachedS c R.A k = some now) : R.tell c k was = some (if was = true /\ now = false then { R with ev := R.ev ++ [k] } else R) := by
 unfold Rn.tell
 rw [if_pos hl]
 cases was with
 | false => simp
 | true => rw [hc]; cases now <;> simp
theorem Sim.moved (h : Sim c L qi vi R s Qm) (D : Dm c L qi vi) {key : Nat} (hkey : key < keyMax) {kt : Nat} {dt : DL} (ht : L[kt]? = some dt) (htv : dt.1 ≠ [118, 97, 114]) (pos : Nat) (tail : Bool) (hl : R.ev.length <= 1000000000) :
  match s.moved L key kt tail with
  | .ok s' => ∃ R' Qm', R.move c key (qi kt, pos) tail = some (.ok R') /\ Sim c L qi vi R' s' Qm' /\ R'.l0 = R.l0 /\ R'.l1 = R.l1
  | .error e => e = 11 /\ R.move c key (qi kt, pos) tail = some (.error (10, pos)) := by
 have hqt := (D.isq kt dt ht htv).1
 have hcap := D.cap ht htv
 rcases h.ar.where' key with ⟨q, f, l1, l2, hi⟩ | hn
 ·obtain ⟨k, d, h1, h2, rfl, h4, h5⟩ := h.ls.at_in D hi
  have hfb := h.fb _ hi.lt (key, f) (by rw [hi.at']; simp)
  have hcached := cached_in h.ar D h1 h2 hi
  obtain ⟨m1, m2⟩ := h.ar.move_in hi hqt tail
  have hg : (s.Q.getD k []).getD l1.length (0, 0) = (key, f) := by
   have e : s.Q.getD k [] = l1 ++ (key, f) :: l2 := by rw [List.getD_eq_getElem?_getD, h5]; rfl
   rw [e]
   simp
  have hout : Lst c L qi (s.out k l1.length).Q (fun p => delK key (Qm p)) := by
   refine (h.ls.mod D h1 h2 (fun l => l.eraseIdx l1.length)).congr D (fun q hq => ?_)
   by_cases e : q = qi k
   ·subst e
    rw [upd_same, hi.del.1, hi.at']
    rw [List.eraseIdx_append_of_length_le (Nat.le_refl _)]
    simp
   ·rw [upd_other _ _ e, hi.del.2 q hq e]
  have hgd := hout.getD ht htv
  unfold Ex.moved
  rw [h4]
  simp only [hg]
  unfold Ex.comes Ex.inn
  rw [hgd, maxX_eq ht]
  have hle : (delK key (Qm (qi kt))).length <= dt.2.2 := by
   have a1 := (h.ar.len_eq hqt).2.2.1
   have a2 : (delK key (Qm (qi kt))).length <= (Qm (qi kt)).length := (List.eraseP_sublist).length_le
   simp only [hcap] at a1
   omega
  simp only [hcap] at m1 m2
  unfold Rn.move
  rw [hcached]
  simp only [Option.bind_some]
  by_cases hf : dt.2.2 <= (delK key (Qm (qi kt))).length
  ·rw [if_pos hf]
   simp only
   rw [m1 (by omega)]
   exact ⟨trivial, rfl⟩
  ·rw [if_neg hf]
   simp only
   obtain ⟨B, b1, b2⟩ := m2 (by omega)
   rw [b1]
   simp only [Option.bind_some, if_true]
   obtain ⟨n1, n2, hi2⟩ := InQ.put (f := f) hqt (NoQ.del hi) tail
   have hc2 := cached_in b2 D ht htv hi2
   rw [tell_eq (R := { R with A := B }) (c := c) hl hc2]
   refine ⟨_, upd (fun r => delK key (Qm r)) (qi kt) (putE tail (key, f) (delK key (Qm (qi kt)))), rfl, ?_, ?_, ?_⟩
   ·have hls := hout.mod D ht htv (putE tail (key, f))
    have hfb2 : ∀ q, q < c.ro.length -> ∀ e ∈ upd (fun r => delK key (Qm r)) (qi kt) (putE tail (key, f) (delK key (Qm (qi kt)))) q, e.2 <= c.mf := fun q hq e he => by
     by_cases e2 : q = qi kt
     ·subst e2
      rw [upd_same] at he
      rcases putE_mem.1 he with rfl | he
      ·exact hfb
      ·exact h.fb _ hq e ((List.eraseP_sublist).subset he)
     ·rw [upd_other _ _ e2] at he
      exact h.fb q hq e ((List.eraseP_sublist).subset he)
    show Sim c L qi vi (if resX L k = true /\ resX L kt = false then _ else _) (if resX L kt = true then _ else Ex.leavesO L _ (some k) key) _
    unfold Ex.leavesO
    simp only
    unfold Ex.leaves
    cases e1 : resX L kt <;> cases e2 : resX L k <;> simp
    ·exact ⟨b2, hls, h.vl, h.rl, h.vv, h.ev, hfb2⟩
    ·exact ⟨b2, hls, h.vl, h.rl, h.vv, by show R.ev ++ [key] = s.gone ++ [key]; rw [h.ev], hfb2⟩
    ·exact ⟨b2, hls, h.vl, h.rl, h.vv, h.ev, hfb2⟩
    ·exact ⟨b2, hls, h.vl, h.rl, h.vv, h.ev, hfb2⟩
   ·split <;> rfl
   ·split <;> rfl
 ·have h4 := h.ls.at_no D hn
  have hcached := cached_no h.ar hn
  obtain ⟨m1, m2⟩ := h.ar.move_no hn hkey hqt tail
  have hgd := h.ls.getD ht htv
  unfold Ex.moved
  rw [h4]
  simp only
  unfold Ex.comes Ex.inn
  rw [hgd, maxX_eq ht]
  have a1 := (h.ar.len_eq hqt).2.2.1
  simp only [hcap] at m1 m2 a1
  unfold Rn.move
  rw [hcached]
  simp only [Option.bind_some]
  by_cases hf : dt.2.2 <= (Qm (qi kt)).length
  ·rw [if_pos hf]
   simp only
   rw [m1 (by omega)]
   exact ⟨trivial, rfl⟩
  ·rw [if_neg hf]
   simp only
   obtain ⟨B, b1, b2⟩ := m2 (by omega)
   rw [b1]
   simp only [Option.bind_some, if_true]
   obtain ⟨n1, n2, hi2⟩ := InQ.put (f := 0) hqt hn tail
   have hc2 := cached_in b2 D ht htv hi2
   rw [tell_eq (R := { R with A := B }) (c := c) hl hc2]
   refine ⟨_, upd Qm (qi kt) (putE tail (key, 0) (Qm (qi kt))), rfl, ?_, ?_, ?_⟩
   ·have hls := h.ls.mod D ht htv (putE tail (key, 0))
    have hfb2 : ∀ q, q < c.ro.length -> ∀ e ∈ upd Qm (qi kt) (putE tail (key, 0) (Qm (qi kt))) q, e.2 <= c.mf := fun q hq e he => by
     by_cases e2 : q = qi kt
     ·subst e2
      rw [upd_same] at he
      rcases putE_mem.1 he with rfl | he
      ·exact Nat.zero_le _
      ·exact h.fb _ hq e he
     ·rw [upd_other _ _ e2] at he
      exact h.fb q hq e he
    simp only [Ex.leavesO, ite_self]
    exact ⟨b2, hls, h.vl, h.rl, h.vv, h.ev, hfb2⟩
   ·split <;> rfl
   ·split <;> rfl
theorem Sim.dropped (h : Sim c L qi vi R s Qm) (D : Dm c L qi vi) (key : Nat) (hl : R.ev.length <= 1000000000) :
  ∃ R' Qm', R.forget c key = some R' /\ Sim c L qi vi R' (s.dropped L key) Qm' /\ R'.l0 = R.l0 /\ R'.l1 = R.l1 /\ ((R.A.forget key).map Prod.fst = some (whereX s.Q key).isSome) := by
 rcases h.ar.where' key with ⟨q, f, l1, l2, hi⟩ | hn
 ·obtain ⟨k, d, h1, h2, rfl, h4, h5⟩ := h.ls.at_in D hi
  have hcached := cached_in h.ar D h1 h2 hi
  obtain ⟨B, b1, b2⟩ := h.ar.forget_in hi
  have hout : Lst c L qi (s.out k l1.length).Q (fun p => delK key (Qm p)) := by
   refine (h.ls.mod D h1 h2 (fun l => l.eraseIdx l1.length)).congr D (fun q hq => ?_)
   by_cases e : q = qi k
   ·subst e
    rw [upd_same, hi.del.1, hi.at']
    rw [List.eraseIdx_append_of_length_le (Nat.le_refl _)]
    simp
   ·rw [upd_other _ _ e, hi.del.2 q hq e]
  unfold Rn.forget Ex.dropped
  rw [hcached, b1, h4]
  simp only [Option.bind_some]
  rw [tell_eq (R := { R with A := B }) (c := c) hl (cached_no b2 (NoQ.del hi))]
  refine ⟨_, fun p => delK key (Qm p), rfl, ?_, ?_, ?_, rfl⟩
  ·have hfb2 : ∀ q, q < c.ro.length -> ∀ e ∈ delK key (Qm q), e.2 <= c.mf := fun q hq e he => h.fb q hq e ((List.eraseP_sublist).subset he)
   unfold Ex.leaves
   cases e2 : resX L k <;> simp
   ·exact ⟨b2, hout, h.vl, h.rl, h.vv, h.ev, hfb2⟩
   ·exact ⟨b2, hout, h.vl, h.rl, h.vv, by show R.ev ++ [key] = s.gone ++ [key]; rw [h.ev], hfb2⟩
  ·split <;> rfl
  ·split <;> rfl
 ·have h4 := h.ls.at_no D hn
  have hcached := cached_no h.ar hn
  have b1 := h.ar.forget_no hn
  unfold Rn.forget Ex.dropped
  rw [hcached, b1, h4]
  simp only [Option.bind_some]
  rw [tell_eq (R := { R with A := R.A }) (c := c) hl hcached]
  refine ⟨_, Qm, rfl, ?_, ?_, ?_, rfl⟩
  ·simp
   exact h
  ·split <;> rfl
  ·split <;> rfl
end
def NB (L : List DL) (nm : List UInt8) (n : Nat) (va : Bool) : Prop := ∃ d, L[n]? = some d /\ (va = true -> d.1 = [118, 97, 114]) /\ (va = false -> d.1 ≠ [118, 97, 114]) /\ d.2.1 = nm
def VR (L : List DL) (v : Vl) (o : List UInt8 × Nat) : Prop :=
 (v.kind = 0 /\ o.1 = [110, 117, 109] /\ o.2 = v.num.1) \/ (v.kind = 1 /\ o.1 = [118, 97, 114] /\ NB L v.name.1 o.2 true) \/ (v.kind = 2 /\ o.1 = [108, 101, 110] /\ NB L v.name.1 o.2 false) \/ (v.kind = 3 /\ o.1 = [102, 114, 101, 113])
def CR (L : List DL) (x : Cd) (c : Rc) : Prop := x.neg = (c.nots % 2 == 1) /\ x.word = c.op /\ (((c.op = [102, 117, 108, 108] \/ c.op = [101, 109, 112, 116, 121] \/ c.op = [119, 97, 114, 109]) /\ NB L x.queue.1 c.n false) \/ (c.op = [60] /\ VR L x.left c.a /\ VR L x.right c.b))
def PR1 (L : List DL) (x : St) (r : Rt) : Prop := x.word = r.op /\
 ((r.op = [112, 117, 116] /\ x.tail = r.tail /\ NB L x.name.1 r.n false) \/ (r.op = [115, 104, 105, 102, 116] /\ x.tail = r.tail /\ NB L x.name.1 r.n false /\ NB L (St.to x).1 r.m false) \/ ((r.op = [101, 118, 105, 99, 116] \/ r.op = [99, 111, 111, 108]) /\ NB L x.name.1 r.n false) \/ ((r.op = [105, 110, 99] \/ r.op = [100, 101, 99]) /\ NB L x.name.1 r.n true) \/ r.op = [100, 114, 111, 112] \/ r.op = [98, 117, 109, 112])
section
variable {c : Cc} {L : List DL} {qi vi : Nat -> Nat} {R : Rn} {s : Ex} {Qm : Nat -> List (Nat × Nat)} {Q : List (List (Nat × Nat))}
theorem NB.q (D : Dm c L qi vi) {nm : NP} {n : Nat} (h : NB L nm.1 n false) : ∃ d, L[n]? = some d /\ d.1 ≠ [118, 97, 114] /\ c.ref nm = (qi n, nm.2) := by
 obtain ⟨d, h1, _, h2, h3⟩ := h
 refine ⟨d, h1, h2 rfl, ?_⟩
 unfold Cc.ref
 rw [<- h3, (D.isq n d h1 (h2 rfl)).2.2.2]
 rfl
theorem NB.v (D : Dm c L qi vi) {nm : NP} {n : Nat} (h : NB L nm.1 n true) : ∃ d, L[n]? = some d /\ d.1 = [118, 97, 114] /\ c.ref nm = (vi n, nm.2) := by
 obtain ⟨d, h1, h2, _, h3⟩ := h
 refine ⟨d, h1, h2 rfl, ?_⟩
 unfold Cc.ref
 rw [<- h3, (D.isv n d h1 (h2 rfl)).2.2]
 rfl
theorem Sim.freq (h : Sim c L qi vi R s Qm) (D : Dm c L qi vi) (key : Nat) : R.A.freq key = some (s.fr key) /\ s.fr key <= c.mf := by
 unfold Ex.fr
 rcases h.ar.where' key with ⟨q, f, l1, l2, hi⟩ | hn
 ·obtain ⟨k, d, h1, h2, rfl, h4, h5⟩ := h.ls.at_in D hi
  have hfb := h.fb _ hi.lt (key, f) (by rw [hi.at']; simp)
  have e : s.Q.getD k [] = l1 ++ (key, f) :: l2 := by rw [List.getD_eq_getElem?_getD, h5]; rfl
  rw [h4, (h.ar.find_in hi).2]
  simp only [e]
  simp
  exact hfb
 ·rw [h.ls.at_no D hn, (h.ar.find_no hn).2]
  simp
theorem Sim.val (h : Sim c L qi vi R s Qm) (D : Dm c L qi vi) (key : Nat) {v : Vl} {o : List UInt8 × Nat} (hv : VR L v o) : R.val key (c.opd v) = some (s.val key o) := by
 unfold Rn.val Ex.val Cc.opd
 rcases hv with ⟨h1, h2, h3⟩ | ⟨h1, h2, h3⟩ | ⟨h1, h2, h3⟩ | ⟨h1, h2⟩
 ·rw [h1, h2, h3]; simp
 ·obtain ⟨d, k1, k2, k3⟩ := h3.v D
  obtain ⟨x, v1, v2, _⟩ := h.vv o.2 d k1 k2
  have k4 : (look v.name.1 c.ix).getD 0 = vi o.2 := congrArg Prod.fst k3
  rw [h1, h2]
  simp [k4, v1, v2]
 ·obtain ⟨d, k1, k2, k3⟩ := h3.q D
  have k4 : (look v.name.1 c.ix).getD 0 = qi o.2 := congrArg Prod.fst k3
  have k5 := h.ls.getD k1 k2
  have k6 := (h.ar.len_eq (D.isq o.2 d k1 k2).1).1
  rw [h1, h2, k5]
  simp [k4, k6]
 ·rw [h1, h2]
  simp
  exact (h.freq D key).1
theorem last_of {l : List (Nat × Nat)} (h : l ≠ []) : ∃ m k f, l = m ++ [(k, f)] := ⟨l.dropLast, (l.getLast h).1, (l.getLast h).2, (List.dropLast_concat_getLast h).symm⟩
theorem Sim.yes (h : Sim c L qi vi R s Qm) (D : Dm c L qi vi) (key : Nat) {x : Cd} {r : Rc} (hx : CR L x r) (t : Nat) : R.so key { c.tsx x with target := t } = some (s.yes L key r) /\ (c.tsx x).neg = (r.nots % 2 == 1) /\ 8 <= (c.tsx x).kind /\ (c.tsx x).kind <= 11 := by
 obtain ⟨h0, hw, hx⟩ := hx
 have hkd : (c.tsx x).kind = kindN x.word := rfl
 have hng : (c.tsx x).neg = x.neg := rfl
 rw [hkd, hng, hw]
 refine ⟨?_, h0, ?_⟩
 ·rcases hx with ⟨hop, hnb⟩ | ⟨hop, ha, hb⟩
  ·obtain ⟨d, k1, k2, k3⟩ := hnb.q D
   have hq := (D.isq r.n d k1 k2).1
   have hon : (c.tsx x).on.1 = qi r.n := congrArg Prod.fst k3
   have hgd := h.ls.getD k1 k2
   have hcap := D.cap k1 k2
   have hle := h.ar.len_eq hq
   simp only [hcap] at hle
   unfold Rn.so Ex.yes
   simp only [hkd, hw, hon, hgd, maxX_eq k1]
   rcases hop with hop | hop | hop
   ·rw [hop]
    simp [kindN]
    rw [hle.2.1]
    simp
    have := hle.2.2.1
    by_cases e : (Qm (qi r.n)).length = d.2.2
    ·simp [e]
    ·simp [e, show ¬ d.2.2 <= (Qm (qi r.n)).length by omega]
   ·rw [hop]
    simp [kindN]
    rw [hle.1]
    simp
    cases (Qm (qi r.n)) <;> rfl
   ·rw [hop]
    simp [kindN]
    by_cases e : Qm (qi r.n) = []
    ·rw [(h.ar.tail_eq hq).1 e, e]
     simp
    ·obtain ⟨m, k, f, e2⟩ := last_of e
     obtain ⟨t1, t2, t3⟩ := (h.ar.tail_eq hq).2 m k f e2
     rw [t1, e2]
     simp
     refine ⟨t2, ?_⟩
     rw [(h.ar.find_in t3).2]
     simp
  ·unfold Rn.so Ex.yes
   simp only [hkd, hw]
   rw [hop]
   simp [kindN]
   have e1 : R.val key (c.tsx x).left = some (s.val key r.a) := h.val D key ha
   have e2 : R.val key (c.tsx x).right = some (s.val key r.b) := h.val D key hb
   rw [e1, e2]
   rfl
 ·rcases hx with ⟨hop, _⟩ | ⟨hop, _⟩
  ·rcases hop with hop | hop | hop <;> rw [hop] <;> simp [kindN]
  ·rw [hop]; simp [kindN]
theorem Sim.setf (h : Sim c L qi vi R s Qm) (D : Dm c L qi vi) {key k f f' : Nat} {d : DL} {l1 l2 : List (Nat × Nat)} (h1 : L[k]? = some d) (h2 : d.1 ≠ [118, 97, 114]) (hi : InQ c.ro.length Qm key (qi k) f l1 l2) (g : List (Nat × Nat) -> List (Nat × Nat)) (hg : g (l1 ++ (key, f) :: l2) = l1 ++ (key, f') :: l2) (hf : f' <= c.mf) :
  ∃ B Qm', R.A.setFreq key f' = some B /\ Sim c L qi vi { R with A := B } { s with Q := s.Q.modify k g } Qm' := by
 obtain ⟨B, b1, b2⟩ := h.ar.setFreq_in hi f'
 have hid : ∀ l : List (Nat × Nat), (∀ e ∈ l, e.1 ≠ key) -> l.map (setK key f') = l := fun l hl => by
  conv => rhs; rw [<- List.map_id l]
  exact List.map_congr_left (fun e he => by unfold setK; rw [if_neg (hl e he)]; rfl)
 have hset : ∀ q, q < c.ro.length -> upd Qm (qi k) (g (Qm (qi k))) q = (Qm q).map (setK key f') := fun q hq => by
  by_cases e : q = qi k
  ·subst e
   rw [upd_same, hi.at', hg, List.map_append, List.map_cons, hid l1 hi.n1, hid l2 hi.n2]
   simp [setK]
  ·rw [upd_other _ _ e, hid _ (hi.no q hq e)]
 refine ⟨B, _, b1, b2, (h.ls.mod D h1 h2 g).congr D hset, h.vl, h.rl, h.vv, h.ev, fun q hq e he => ?_⟩
 obtain ⟨e', he', rfl⟩ := List.mem_map.1 he
 unfold setK
 split
 ·exact hf
 ·exact h.fb q hq e' he'
theorem mod_at {α : Type} (f : α -> α) (x : α) (l r : List α) : (l ++ x :: r).modify l.length f = l ++ f x :: r := mod_mid f x r l _ rfl
theorem ne_of_mf {f mf : Nat} : (max 0 (min ((f : Int) + 1) (mf : Int))).toNat = min (f + 1) mf := by omega
def StepOk (c : Cc) (L : List DL) (qi vi : Nat -> Nat) (R : Rn) (t : Except Nat Ex) (u : Option (Except (Nat × Nat) Rn)) : Prop := match t with
 | .ok s' => ∃ R' Qm', u = some (.ok R') /\ Sim c L qi vi R' s' Qm' /\ R'.l0 = R.l0 /\ R'.l1 = R.l1
 | .error e => ∃ i p, (e = 11 /\ i = 10 \/ e = 12 /\ i = 11) /\ u = some (.error (i, p))
theorem Sim.movedS (h : Sim c L qi vi R s Qm) (D : Dm c L qi vi) {key : Nat} (hkey : key < keyMax) {kt : Nat} {dt : DL} (ht : L[kt]? = some dt) (htv : dt.1 ≠ [118, 97, 114]) (pos : Nat) (tail : Bool) (hl : R.ev.length <= 1000000000) : StepOk c L qi vi R (s.moved L key kt tail) (R.move c key (qi kt, pos) tail) := by
 have := h.moved D hkey ht htv pos tail hl
 cases hs : s.moved L key kt tail with
 | ok s' => rw [hs] at this; exact this
 | error e =>
  rw [hs] at this
  exact ⟨_, _, Or.inl ⟨this.1, rfl⟩, this.2⟩
theorem Sim.plain (h : Sim c L qi vi R s Qm) (D : Dm c L qi vi) {key : Nat} (hkey : key < keyMax) {x : St} {r : Rt} (hx : PR1 L x r) (hl : R.ev.length <= 1000000000) : StepOk c L qi vi R (s.plain L c.mf key r) (R.step c key (c.pln x)) := by
 obtain ⟨hw, hx⟩ := hx
 have hmf := D.mf
 have hkd : (c.pln x).kind = kindN r.op := by rw [<- hw]; rfl
 have htl : (c.pln x).tail = x.tail := rfl
 rcases hx with ⟨hop, ht, hn⟩ | ⟨hop, ht, hn, hm⟩ | ⟨hop, hn⟩ | ⟨hop, hn⟩ | hop | hop
 ·obtain ⟨d, k1, k2, k3⟩ := hn.q D
  have hon : (c.pln x).on = (qi r.n, x.name.2) := k3
  have hk : (c.pln x).kind = 0 := by rw [hkd, hop]; rfl
  have e1 : R.step c key (c.pln x) = R.move c key (qi r.n, x.name.2) r.tail := by unfold Rn.step; rw [if_pos hk, hon, htl, ht]
  have e2 : s.plain L c.mf key r = s.moved L key r.n r.tail := by unfold Ex.plain; rw [if_pos hop]
  rw [e1, e2]
  exact h.movedS D hkey k1 k2 x.name.2 r.tail hl
 ·obtain ⟨d, k1, k2, k3⟩ := hn.q D
  obtain ⟨d', j1, j2, j3⟩ := hm.q D
  have hon : (c.pln x).on = (qi r.n, x.name.2) := k3
  have hdst : (c.pln x).dst = (qi r.m, (St.to x).2) := j3
  have hq := (D.isq r.n d k1 k2).1
  have hgd := h.ls.getD k1 k2
  have hk : (c.pln x).kind = 2 := by rw [hkd, hop]; rfl
  have e1 : R.step c key (c.pln x) = R.atTail c (c.pln x) := by unfold Rn.step; rw [if_neg (by omega), if_pos (by omega)]
  have e2 : s.plain L c.mf key r = s.last L r := by unfold Ex.plain; simp [hop]
  rw [e1, e2]
  by_cases e : Qm (qi r.n) = []
  ·have e3 : R.atTail c (c.pln x) = some (.error (11, x.name.2)) := by
    unfold Rn.atTail
    rw [hon, (h.ar.tail_eq hq).1 e]
    rfl
   have e4 : s.last L r = .error 12 := by
    unfold Ex.last
    rw [hgd, e]
    rfl
   rw [e3, e4]
   exact ⟨_, _, Or.inr ⟨rfl, rfl⟩, rfl⟩
  ·obtain ⟨m, k, f, e2⟩ := last_of e
   obtain ⟨t1, t2, t3⟩ := (h.ar.tail_eq hq).2 m k f e2
   obtain ⟨k', dd, a1, a2, a3, a4, a5⟩ := h.ls.at_in D t3
   have ek : k' = r.n := D.inq k' dd r.n d a1 k1 a2 k2 a3
   subst ek
   have hk64 : k < key64 := t2
   have e3 : R.atTail c (c.pln x) = R.move c k (qi r.m, (St.to x).2) r.tail := by
    unfold Rn.atTail
    rw [hon, t1]
    simp [hk64, hk, hdst, htl, ht]
   have e4 : s.last L r = s.moved L k r.m r.tail := by
    unfold Ex.last Ex.moved
    rw [hgd, e2, a4]
    have e : s.Q.getD r.n [] = m ++ [(k, f)] := by rw [List.getD_eq_getElem?_getD, a5]; rfl
    simp only [e]
    simp [hop]
   rw [e3, e4]
   exact h.movedS D t2 j1 j2 (St.to x).2 r.tail hl
 ·obtain ⟨d, k1, k2, k3⟩ := hn.q D
  have hon : (c.pln x).on = (qi r.n, x.name.2) := k3
  have hq := (D.isq r.n d k1 k2).1
  have hgd := h.ls.getD k1 k2
  have hk : (c.pln x).kind = 1 \/ (c.pln x).kind = 7 := by
   rw [hkd]
   rcases hop with hop | hop
   ·exact Or.inl (by rw [hop]; rfl)
   ·exact Or.inr (by rw [hop]; rfl)
  have e1 : R.step c key (c.pln x) = R.atTail c (c.pln x) := by unfold Rn.step; rw [if_neg (by omega), if_pos (by omega)]
  have e2 : s.plain L c.mf key r = s.last L r := by unfold Ex.plain; rcases hop with hop | hop <;> simp [hop]
  rw [e1, e2]
  by_cases e : Qm (qi r.n) = []
  ·have e3 : R.atTail c (c.pln x) = some (.error (11, x.name.2)) := by
    unfold Rn.atTail
    rw [hon, (h.ar.tail_eq hq).1 e]
    rfl
   have e4 : s.last L r = .error 12 := by
    unfold Ex.last
    rw [hgd, e]
    rfl
   rw [e3, e4]
   exact ⟨_, _, Or.inr ⟨rfl, rfl⟩, rfl⟩
  ·obtain ⟨m, k, f, e2⟩ := last_of e
   obtain ⟨t1, t2, t3⟩ := (h.ar.tail_eq hq).2 m k f e2
   obtain ⟨k', dd, a1, a2, a3, a4, a5⟩ := h.ls.at_in D t3
   have ek : k' = r.n := D.inq k' dd r.n d a1 k1 a2 k2 a3
   subst ek
   have hk64 : k < key64 := t2
   rcases hop with hop | hop
   ·have hk : (c.pln x).kind = 1 := by rw [hkd, hop]; rfl
    obtain ⟨R', Qm', b1, b2, b3, b4, _⟩ := h.dropped D k hl
    have e3 : R.atTail c (c.pln x) = some (.ok R') := by
     unfold Rn.atTail
     rw [hon, t1]
     simp [hk64, hk, b1]
    have e4 : s.last L r = .ok (s.dropped L k) := by
     unfold Ex.last Ex.dropped
     rw [hgd, e2, a4]
     simp [hop]
    rw [e3, e4]
    exact ⟨R', Qm', rfl, b2, b3, b4⟩
   ·have hk : (c.pln x).kind = 7 := by rw [hkd, hop]; rfl
    have hfb := h.fb _ hq (k, f) (by rw [t3.at']; simp)
    have hfb : f <= c.mf := hfb
    obtain ⟨B, Qm', b1, b2⟩ := h.setf D a1 a2 t3 (f' := f - 1) (fun l => l.modify (l.length - 1) fun e => (e.1, e.2 - 1)) (by
     have : (m ++ [(k, f)]).length - 1 = m.length := by simp
     simp only [this, mod_at]) (by omega)
    have ef : (max 0 (min ((f : Int) + -1) (c.mf : Int))).toNat = f - 1 := by omega
    have e0 : R.addFreq c k (-1) = some { R with A := B } := by
     unfold Rn.addFreq
     rw [(h.ar.find_in t3).2]
     simp only [Option.bind_some]
     rw [if_pos ⟨by omega, by omega⟩, ef, b1]
     rfl
    have e3 : R.atTail c (c.pln x) = some (.ok { R with A := B }) := by
     unfold Rn.atTail
     rw [hon, t1]
     simp [hk64, hk, e0]
    have e4 : s.last L r = .ok { s with Q := s.Q.modify r.n fun l => l.modify (l.length - 1) fun e => (e.1, e.2 - 1) } := by
     unfold Ex.last
     rw [hgd, e2]
     simp [hop]
    rw [e3, e4]
    exact ⟨_, Qm', rfl, b2, rfl, rfl⟩
 ·obtain ⟨d, k1, k2, k3⟩ := hn.v D
  have hon : (c.pln x).on = (vi r.n, x.name.2) := k3
  obtain ⟨v, v1, v2, v3⟩ := h.vv r.n d k1 k2
  obtain ⟨m1, m2, _⟩ := D.isv r.n d k1 k2
  have hmx := D.mx r.n d k1
  have hvl : vi r.n < R.vars.length := (List.getElem?_eq_some_iff.1 v2).1
  have hvar : ∀ (v' : Nat) (g : Nat -> Nat), g v = v' -> v' <= d.2.2 -> Sim c L qi vi { R with vars := R.vars.set (vi r.n) v' } { s with V := s.V.modify r.n g } Qm := fun v' g hg hv' => by
   refine ⟨h.ar, h.ls, by rw [<- h.vl]; exact List.length_modify .., by rw [<- h.rl]; exact List.length_set .., fun k d' j1 j2 => ?_, h.ev, h.fb⟩
   obtain ⟨y, y1, y2, y3⟩ := h.vv k d' j1 j2
   by_cases e : k = r.n
   ·subst e
    rw [k1] at j1
    cases j1
    refine ⟨v', ?_, ?_, hv'⟩
    ·show (s.V.modify r.n g)[r.n]? = _
     rw [List.getElem?_modify, v1]
     simp [hg]
    ·show (R.vars.set (vi r.n) v')[vi r.n]? = _
     rw [List.getElem?_set]
     simp [hvl]
   ·have hne : vi r.n ≠ vi k := fun e2 => e (D.inv k d' r.n d j1 k1 j2 k2 e2.symm)
    refine ⟨y, ?_, ?_, y3⟩
    ·show (s.V.modify r.n g)[k]? = _
     rw [List.getElem?_modify, y1]
     simp [Ne.symm e]
    ·show (R.vars.set (vi r.n) v')[vi k]? = _
     rw [List.getElem?_set, if_neg hne]
     exact y2
  rcases hop with hop | hop
  ·have hk : (c.pln x).kind = 4 := by rw [hkd, hop]; rfl
   have e1 : R.step c key (c.pln x) = some (.ok { R with vars := R.vars.set (vi r.n) (min (v + 1) d.2.2) }) := by
    unfold Rn.step
    rw [if_neg (by omega), if_neg (by omega), if_neg (by omega), if_pos hk, hon, v2, m2]
    simp only [Option.bind_some]
    rw [if_pos (by omega)]
   have e2 : s.plain L c.mf key r = .ok { s with V := s.V.modify r.n fun v => if v < maxX L r.n then v + 1 else v } := by unfold Ex.plain; simp [hop]
   rw [e1, e2]
   refine ⟨_, Qm, rfl, hvar (min (v + 1) d.2.2) _ ?_ (by omega), rfl, rfl⟩
   rw [maxX_eq k1]
   split <;> omega
  ·have hk : (c.pln x).kind = 5 := by rw [hkd, hop]; rfl
   have e1 : R.step c key (c.pln x) = some (.ok { R with vars := R.vars.set (vi r.n) (v - 1) }) := by
    unfold Rn.step
    rw [if_neg (by omega), if_neg (by omega), if_neg (by omega), if_neg (by omega), if_pos hk, hon, v2]
    simp only [Option.bind_some]
    rw [if_pos (by omega)]
   have e2 : s.plain L c.mf key r = .ok { s with V := s.V.modify r.n fun v => v - 1 } := by unfold Ex.plain; simp [hop]
   rw [e1, e2]
   exact ⟨_, Qm, rfl, hvar (v - 1) _ rfl (by omega), rfl, rfl⟩
 ·obtain ⟨R', Qm', b1, b2, b3, b4, _⟩ := h.dropped D key hl
  have hk : (c.pln x).kind = 3 := by rw [hkd, hop]; rfl
  have e1 : R.step c key (c.pln x) = some (.ok R') := by
   unfold Rn.step
   rw [if_neg (by omega), if_neg (by omega), if_pos hk, b1]
   rfl
  have e2 : s.plain L c.mf key r = .ok (s.dropped L key) := by unfold Ex.plain; simp [hop]
  rw [e1, e2]
  exact ⟨R', Qm', rfl, b2, b3, b4⟩
 ·have hk : (c.pln x).kind = 6 := by rw [hkd, hop]; rfl
  have e2 : s.plain L c.mf key r = .ok (s.bump c.mf key) := by unfold Ex.plain; simp [hop]
  have e1 : R.step c key (c.pln x) = (R.addFreq c key 1).map .ok := by
   unfold Rn.step
   rw [if_neg (by omega), if_neg (by omega), if_neg (by omega), if_neg (by omega), if_neg (by omega), if_pos hk]
  rw [e1, e2]
  rcases h.ar.where' key with ⟨q, f, l1, l2, hi⟩ | hn
  ·obtain ⟨k, d, h1, h2, rfl, h4, h5⟩ := h.ls.at_in D hi
   have hfb := h.fb _ hi.lt (key, f) (by rw [hi.at']; simp)
   have hfb : f <= c.mf := hfb
   obtain ⟨B, Qm', b1, b2⟩ := h.setf D h1 h2 hi (f' := min (f + 1) c.mf) (fun l => l.modify l1.length fun e => if e.2 < c.mf then (e.1, e.2 + 1) else e) (by
    simp only [mod_at]
    congr 2
    split <;> simp <;> omega) (by omega)
   have e3 : R.addFreq c key 1 = some { R with A := B } := by
    unfold Rn.addFreq
    rw [(h.ar.find_in hi).2]
    simp only [Option.bind_some]
    rw [if_pos ⟨by omega, by omega⟩, ne_of_mf, b1]
    rfl
   have e4 : s.bump c.mf key = { s with Q := s.Q.modify k fun l => l.modify l1.length fun e => if e.2 < c.mf then (e.1, e.2 + 1) else e } := by
    unfold Ex.bump
    rw [h4]
   rw [e3, e4]
   exact ⟨_, Qm', rfl, b2, rfl, rfl⟩
  ·have e3 : R.addFreq c key 1 = some R := by
    unfold Rn.addFreq
    rw [(h.ar.find_no hn).2]
    simp only [Option.bind_some]
    rw [if_pos ⟨by omega, by omega⟩, h.ar.setFreq_no hn]
    rfl
   have e4 : s.bump c.mf key = s := by
    unfold Ex.bump
    rw [h.ls.at_no D hn]
   rw [e3, e4]
   exact ⟨_, Qm, rfl, h, rfl, rfl⟩
end
def Rn.lf (R : Rn) (j : Nat) : Option Nat := if j = 0 then some R.l0 else if j = 1 then some R.l1 else none
def Rn.setL (R : Rn) (j v : Nat) : Option Rn := if j = 0 then some { R with l0 := v } else if j = 1 then some { R with l1 := v } else none
def Rn.go (c : Cc) (key : Nat) (st : List Stp) : Nat -> Nat -> Rn -> Option (Except (Nat × Nat) Rn)
 | 0, _, _ => none
 | f + 1, a, R =>
  if a = st.length then some (.ok R)
  else (st[a]?).bind fun s =>
   if s.kind = 12 then (R.setL s.loop s.times).bind fun R' => Rn.go c key st f (a + 1) R'
   else if s.kind = 13 then (R.lf s.loop).bind fun n => if n = 0 then Rn.go c key st f s.target R else if n <= 1000000 then (R.setL s.loop (n - 1)).bind fun R' => Rn.go c key st f (a + 1) R' else none
   else if s.kind = 8 \/ s.kind = 9 \/ s.kind = 10 \/ s.kind = 11 then (R.so key s).bind fun b => if b = s.neg then Rn.go c key st f s.target R else Rn.go c key st f (a + 1) R
   else if s.kind = 14 then Rn.go c key st f s.target R
   else (R.step c key s).bind fun r => match r with
    | .error e => some (.error e)
    | .ok R' => Rn.go c key st f (a + 1) R'
def Goes (c : Cc) (key : Nat) (st : List Stp) (a : Nat) (R : Rn) (r : Except (Nat × Nat) Rn) : Prop := ∃ f, Rn.go c key st f a R = some r
section
variable {c : Cc} {key : Nat} {st : List Stp} {a : Nat} {R : Rn} {r : Except (Nat × Nat) Rn}
theorem ne_len {s : Stp} (h : st[a]? = some s) : a ≠ st.length := by have := (List.getElem?_eq_some_iff.1 h).1; omega
theorem goes_end (h : a = st.length) : Goes c key st a R (.ok R) := ⟨1, by unfold Rn.go; rw [if_pos h]⟩
theorem goes_start {s : Stp} (h : st[a]? = some s) (hk : s.kind = 12) {R' : Rn} (hs : R.setL s.loop s.times = some R') (hg : Goes c key st (a + 1) R' r) : Goes c key st a R r := by
 obtain ⟨f, hf⟩ := hg
 refine ⟨f + 1, ?_⟩
 unfold Rn.go
 rw [if_neg (ne_len h), h]
 simp only [Option.bind_some]
 rw [if_pos hk, hs]
 exact hf
theorem goes_count0 {s : Stp} (h : st[a]? = some s) (hk : s.kind = 13) (hs : R.lf s.loop = some 0) (hg : Goes c key st s.target R r) : Goes c key st a R r := by
 obtain ⟨f, hf⟩ := hg
 refine ⟨f + 1, ?_⟩
 unfold Rn.go
 rw [if_neg (ne_len h), h]
 simp only [Option.bind_some]
 rw [if_neg (by omega), if_pos hk, hs]
 exact hf
theorem goes_count {s : Stp} (h : st[a]? = some s) (hk : s.kind = 13) {n : Nat} (hn : n <= 50) (hs : R.lf s.loop = some (n + 1)) {R' : Rn} (hs2 : R.setL s.loop n = some R') (hg : Goes c key st (a + 1) R' r) : Goes c key st a R r := by
 obtain ⟨f, hf⟩ := hg
 refine ⟨f + 1, ?_⟩
 unfold Rn.go
 rw [if_neg (ne_len h), h]
 simp only [Option.bind_some]
 rw [if_neg (by omega), if_pos hk, hs]
 simp only [Option.bind_some]
 rw [if_neg (by omega), if_pos (by omega), Nat.add_sub_cancel, hs2]
 exact hf
theorem goes_test {s : Stp} (h : st[a]? = some s) (hk1 : 8 <= s.kind) (hk2 : s.kind <= 11) {b : Bool} (hs : R.so key s = some b) (hg : Goes c key st (if b = s.neg then s.target else a + 1) R r) : Goes c key st a R r := by
 obtain ⟨f, hf⟩ := hg
 refine ⟨f + 1, ?_⟩
 unfold Rn.go
 rw [if_neg (ne_len h), h]
 simp only [Option.bind_some]
 rw [if_neg (by omega), if_neg (by omega), if_pos (by omega), hs]
 simp only [Option.bind_some]
 by_cases e : b = s.neg
 ·rw [if_pos e] at hf ⊢; exact hf
 ·rw [if_neg e] at hf ⊢; exact hf
theorem goes_jump {s : Stp} (h : st[a]? = some s) (hk : s.kind = 14) (hg : Goes c key st s.target R r) : Goes c key st a R r := by
 obtain ⟨f, hf⟩ := hg
 refine ⟨f + 1, ?_⟩
 unfold Rn.go
 rw [if_neg (ne_len h), h]
 simp only [Option.bind_some]
 rw [if_neg (by omega), if_neg (by omega), if_neg (by omega), if_pos hk]
 exact hf
theorem goes_ok {s : Stp} (h : st[a]? = some s) (hk : s.kind <= 7) {R' : Rn} (hs : R.step c key s = some (.ok R')) (hg : Goes c key st (a + 1) R' r) : Goes c key st a R r := by
 obtain ⟨f, hf⟩ := hg
 refine ⟨f + 1, ?_⟩
 unfold Rn.go
 rw [if_neg (ne_len h), h]
 simp only [Option.bind_some]
 rw [if_neg (by omega), if_neg (by omega), if_neg (by omega), if_neg (by omega), hs]
 exact hf
theorem goes_err {s : Stp} (h : st[a]? = some s) (hk : s.kind <= 7) {e : Nat × Nat} (hs : R.step c key s = some (.error e)) : Goes c key st a R (.error e) := by
 refine ⟨1, ?_⟩
 unfold Rn.go
 rw [if_neg (ne_len h), h]
 simp only [Option.bind_some]
 rw [if_neg (by omega), if_neg (by omega), if_neg (by omega), if_neg (by omega), hs]
 rfl
end
def TRL {α γ : Type} (S : α -> γ -> Prop) : List α -> List γ -> Prop
 | [], [] => True
 | x :: xs, y :: ys => S x y /\ TRL S xs ys
 | _, _ => False
def TRs {β γ : Type} (L : List DL) (P : Nat -> β -> γ -> Prop) (lp : Nat) (x : St × β × β) (y : Rt × γ × γ) : Prop :=
 (x.1.word = [105, 102] /\ y.1.op = [105, 102] /\ CR L x.1.cond y.1.con /\ x.1.other = y.1.other /\ P lp x.2.1 y.2.1 /\ P lp x.2.2 y.2.2) \/
 (x.1.word = [114, 101, 112, 101, 97, 116] /\ y.1.op = [114, 101, 112, 101, 97, 116] /\ CR L x.1.cond y.1.con /\ y.1.n = x.1.times.1 /\ y.1.n <= 50 /\ lp < 2 /\ P (lp + 1) x.2.1 y.2.1) \/
 PR1 L x.1 y.1
def TR (L : List DL) : (d : Nat) -> Nat -> BT d -> RT d -> Prop
 | 0, _, _, _ => True
 | d + 1, lp, xs, ys => TRL (TRs L (TR L d) lp) xs ys
def wtS {γ : Type} (w : γ -> Nat) (y : Rt × γ × γ) : Nat := if y.1.op = [105, 102] then w y.2.1 + w y.2.2 else if y.1.op = [114, 101, 112, 101, 97, 116] then y.1.n * w y.2.1 else 1
def wtL {α : Type} (w : α -> Nat) : List α -> Nat
 | [] => 0
 | y :: ys => w y + wtL w ys
def wtB : (d : Nat) -> RT d -> Nat
 | 0, _ => 0
 | d + 1, ys => wtL (wtS (wtB d)) ys
section
variable {L : List DL} {mf key : Nat}
theorem leaves_le (s : Ex) (q k : Nat) : (s.leaves L q k).gone.length <= s.gone.length + 1 := by
 unfold Ex.leaves
 split <;> simp
theorem comes_le {s s' : Ex} {e : Nat × Nat} {fro : Option Nat} {tq : Nat} {tail : Bool} (h : s.comes L e fro tq tail = .ok s') : s'.gone.length <= s.gone.length + 1 := by
 unfold Ex.comes Ex.inn at h
 split at h
 ·cases h
 ·rename_i t ht
  split at ht
  ·cases ht
  ·cases ht
   simp only [Except.ok.injEq] at h
   subst h
   split
   ·simp
   ·unfold Ex.leavesO
    split
    ·simp
    ·exact leaves_le _ _ _
theorem plain_le {x : Rt} {s s' : Ex} (h : s.plain L mf key x = .ok s') : s'.gone.length <= s.gone.length + 1 := by
 unfold Ex.plain at h
 split at h
 ·unfold Ex.moved at h
  split at h
  ·have := comes_le h; exact this
  ·have := comes_le h; exact this
 ·split at h
  ·cases h
   unfold Ex.dropped
   split
   ·simp
   ·exact leaves_le _ _ _
  ·split at h
   ·cases h; simp
   ·split at h
    ·cases h; simp
    ·split at h
     ·cases h
      unfold Ex.bump
      split <;> simp
     ·unfold Ex.last at h
      split at h
      ·cases h
      ·split at h
       ·cases h; simp
       ·split at h
        ·cases h; exact leaves_le _ _ _
        ·split at h
         ·have := comes_le h; exact this
         ·cases h; simp
theorem loop_le {cond : Ex -> Bool} {body : Ex -> Except Nat Ex} {w : Nat} (hb : ∀ s s', body s = .ok s' -> s'.gone.length <= s.gone.length + w) : ∀ (n : Nat) (s s' : Ex), loopX cond body n s = .ok s' -> s'.gone.length <= s.gone.length + n * w
 | 0, s, s', h => by cases h; simp
 | n + 1, s, s', h => by
  unfold loopX at h
  split at h
  ·split at h
   ·cases h
   ·rename_i t ht
    have h1 := hb s t ht
    have h2 := loop_le hb n t s' h
    rw [Nat.add_mul]
    omega
  ·cases h; simp
theorem seq_le {α : Type} {f : α -> Ex -> Except Nat Ex} {w : α -> Nat} (hb : ∀ x s s', f x s = .ok s' -> s'.gone.length <= s.gone.length + w x) : ∀ (xs : List α) (s s' : Ex), seqX f xs s = .ok s' -> s'.gone.length <= s.gone.length + wtL w xs
 | [], s, s', h => by cases h; simp [wtL]
 | x :: xs, s, s', h => by
  unfold seqX at h
  split at h
  ·cases h
  ·rename_i t ht
   have h1 := hb x s t ht
   have h2 := seq_le hb xs t s' h
   unfold wtL
   omega
theorem stm_le {γ : Type} {blk : γ -> Ex -> Except Nat Ex} {w : γ -> Nat} (hb : ∀ x s s', blk x s = .ok s' -> s'.gone.length <= s.gone.length + w x) (y : Rt × γ × γ) (s s' : Ex) (h : Ex.stm blk L mf key y s = .ok s') : s'.gone.length <= s.gone.length + wtS w y := by
 unfold Ex.stm at h
 unfold wtS
 split at h
 ·rename_i e
  rw [if_pos e]
  split at h
  ·have := hb _ _ _ h; omega
  ·have := hb _ _ _ h; omega
 ·rename_i e
  rw [if_neg e]
  split at h
  ·rename_i e2
   rw [if_pos e2]
   exact loop_le (hb y.2.1) _ _ _ h
  ·rename_i e2
   rw [if_neg e2]
   exact plain_le h
theorem blk_le : ∀ (d : Nat) (y : RT d) (s s' : Ex), Ex.blk L mf key d y s = .ok s' -> s'.gone.length <= s.gone.length + wtB d y
 | 0, _, s, s', h => by cases h; simp
 | d + 1, ys, s, s', h => seq_le (fun x s s' h => stm_le (blk_le d) x s s' h) ys s s' h
end
def ExJ (J : Nat -> Act -> World -> Prop) (Q : Exit -> Act -> World -> Prop) : Exit -> Act -> World -> Prop
 | .goto l, a, w => J l a w
 | e, a, w => Q e a w
theorem scope_jumps {P : Program} {a : Act} {w : World} {Q : Exit -> Act -> World -> Prop} {c : Code} (rest : Nat -> Code) (J : Nat -> Nat -> Act -> World -> Prop) (hf : ∀ l n a w, J l n a w -> findLabel c l = some (rest l))
  (first : c.wp P (ExJ (fun l a' w' => ∃ n, J l n a' w') Q) a w)
  (pass : ∀ l n a w, J l n a w -> (rest l).wp P (ExJ (fun l' a' w' => ∃ m, m < n /\ J l' m a' w') Q) a w) : (Code.scope c).wp P Q a w := by
 intro b k cs
 have hg : ∀ l, findLabel c l = some (rest l) -> gotoIn l (.inScope c :: k) = some (.code (rest l) :: .inScope c :: k) := fun l h => by simp [gotoIn, h]
 have key : ∀ n l a w, J l n a w -> ∃ e a' w', Q e a' w' /\ Arrives P (lone (b.at a (.code (rest l) :: .inScope c :: k)) cs w) b k cs e a' w' := by
  intro n
  induction n using Nat.strongRecOn with
  | _ n ih =>
   intro l a w hJ
   obtain ⟨e, a₁, w₁, hq, harr⟩ := pass l n a w hJ b (.inScope c :: k) cs
   cases e with
   | normal => exact ⟨.normal, a₁, w₁, hq, Steps.trans harr (.one step_inScope)⟩
   | exit id => exact ⟨.exit id, a₁, w₁, hq, fun k' hk => harr k' (by simp [exitTo, hk])⟩
   | goto l' =>
    obtain ⟨m, hlt, hJ'⟩ := hq
    obtain ⟨e₂, a₂, w₂, hq₂, harr₂⟩ := ih m hlt l' a₁ w₁ hJ'
    exact ⟨e₂, a₂, w₂, hq₂, .of_steps (harr _ (hg l' (hf _ _ _ _ hJ'))) harr₂⟩
   | ret => exact ⟨_, a₁, w₁, hq, harr⟩
   | panic ch => exact ⟨_, a₁, w₁, hq, harr⟩
   | outgrown => exact ⟨_, a₁, w₁, hq, harr⟩
 obtain ⟨e, a₁, w₁, hq, harr⟩ := first b (.inScope c :: k) cs
 cases e with
 | normal => exact ⟨.normal, a₁, w₁, hq, .head step_scope (Steps.trans harr (.one step_inScope))⟩
 | exit id => exact ⟨.exit id, a₁, w₁, hq, fun k' hk => .head step_scope (harr k' (by simp [exitTo, hk]))⟩
 | goto l' =>
  obtain ⟨n, hJ'⟩ := hq
  obtain ⟨e₂, a₂, w₂, hq₂, harr₂⟩ := key n l' a₁ w₁ hJ'
  exact ⟨e₂, a₂, w₂, hq₂, .of_steps (.head step_scope (harr _ (hg l' (hf _ _ _ _ hJ')))) harr₂⟩
 | ret => exact ⟨_, a₁, w₁, hq, .of_steps (.one step_scope) harr⟩
 | panic ch => exact ⟨_, a₁, w₁, hq, .of_steps (.one step_scope) harr⟩
 | outgrown => exact ⟨_, a₁, w₁, hq, .of_steps (.one step_scope) harr⟩
theorem wp_skip_seq {P : Program} {a : Act} {w : World} {Q : Exit -> Act -> World -> Prop} {c : Code} (h : c.wp P Q a w) : (Code.seq Code.skip c).wp P Q a w := wp_seq (wp_skip h)
theorem scope_jumps2 {P : Program} {a : Act} {w : World} {Q : Exit -> Act -> World -> Prop} {c r0 r1 : Code} (h0 : findLabel c 0 = some (Code.seq Code.skip r0)) (h1 : findLabel c 1 = some (Code.seq Code.skip r1)) (J : Nat -> Nat -> Act -> World -> Prop) (hl : ∀ l n a w, J l n a w -> l = 0 \/ l = 1)
  (first : (∀ n a w, J 0 n a w -> r0.wp P (ExJ (fun l a' w' => ∃ n, J l n a' w') Q) a w) -> c.wp P (ExJ (fun l a' w' => ∃ n, J l n a' w') Q) a w)
  (pass0 : ∀ n a w, J 0 n a w -> r0.wp P (ExJ (fun l' a' w' => ∃ m, m < n /\ J l' m a' w') Q) a w)
  (pass1 : ∀ n a w, J 1 n a w -> r1.wp P (ExJ (fun l' a' w' => ∃ m, m < n /\ J l' m a' w') Q) a w) : (Code.scope c).wp P Q a w := by
 refine scope_jumps (fun l => if l = 0 then Code.seq Code.skip r0 else Code.seq Code.skip r1) J (fun l n a w hj => ?_) (first (fun n a w hj => ?_)) (fun l n a w hj => ?_)
 ·rcases hl l n a w hj with rfl | rfl
  ·exact h0
  ·exact h1
 ·refine wp_mono (pass0 n a w hj) (fun e a w hq => ?_)
  cases e with
  | goto l =>
   obtain ⟨m, _, hm⟩ := hq
   exact ⟨m, hm⟩
  | normal => exact hq
  | exit => exact hq
  | ret => exact hq
  | panic => exact hq
  | outgrown => exact hq
 ·rcases hl l n a w hj with rfl | rfl
  ·exact wp_skip_seq (pass0 n a w hj)
  ·exact wp_skip_seq (pass1 n a w hj)
abbrev boxF (sb : Nat) (s : Stp) : Nat -> Option Obj := fun k => if k = sb then some (.cells (spA s) 193) else none
abbrev noF : Nat -> Option Obj := fun _ => none
section
variable {w w' : World} {lo rb mb ab mp : Nat} {x y vs ev : Value} {fz fz' : Nat -> Option Obj} {key : Nat} {R S : Rn} {c : Cc} {E : Nat -> Addr}
theorem Rx.with (h : Rx w lo rb mb ab mp x y vs ev fz key R) (hf : ∀ k o, fz' k = some o -> w.heap[k]? = some o /\ k ≠ rb /\ ¬ AMine ab mp x y k /\ vs.ownBlock ≠ some k /\ ev.ownBlock ≠ some k) : Rx w lo rb mb ab mp x y vs ev fz' key R :=
 ⟨h.at', h.ar, h.va, h.el, h.off, h.offV, h.offE, h.low, hf⟩
theorem RH.unbox (h : RH w lo rb mb ab mp vs fz key c E R) : RH w lo rb mb ab mp vs noF key c E R := by
 obtain ⟨x, y, ev, hx⟩ := h.rx
 exact ⟨⟨x, y, ev, hx.with (fun k o hk => by cases hk)⟩, h.pq, h.e1, h.e2, h.l1, h.l2⟩
theorem RH.box (h : RH w lo rb mb ab mp vs noF key c E R) (s : Stp) : RH (w.alloc (.cells (spA s) 193)) lo rb mb ab mp vs (boxF w.heap.size s) key c E R := by
 have hb : Below w.heap.size w (w.alloc (.cells (spA s) 193)) := (Below.refl _ _).alloc (Nat.le_refl _) _
 obtain ⟨x, y, ev, hx⟩ := h.rx
 have h2 := h.grow hb
 refine ⟨⟨x, y, ev, (hx.grow hb).with (fun k o hk => ?_)⟩, h2.pq, h2.e1, h2.e2, h2.l1, h2.l2⟩
 simp only [boxF] at hk
 split at hk
 ·rename_i e
  subst e
  simp only [Option.some.injEq] at hk
  subst hk
  exact ⟨heap_new rfl, by have := hx.rlt; omega, fun hm => by have := (hx.ar.lt hm).2; omega, fun e => by have := (hx.va.lt _ e).2; omega, fun e => by have := (hx.el.lt _ e).2; omega⟩
 ·cases hk
theorem RH.boxAt {sb : Nat} {s : Stp} (h : RH w lo rb mb ab mp vs (boxF sb s) key c E R) : w.heap[sb]? = some (.cells (spA s) 193) := by
 obtain ⟨x, y, ev, hx⟩ := h.rx
 exact (hx.fx sb _ (if_pos rfl)).1
theorem RH.tof (h : RH w lo rb mb ab mp vs fz key c E R) (hb : Below lo w w') (hr : ∃ x y ev, Rx w' lo rb mb ab mp x y vs ev fz' key S) : RH w' lo rb mb ab mp vs fz' key c E S :=
 ⟨hr, h.pq.below hb, (hb.cell (p := ⟨10, 0, none⟩) h.l1).trans h.e1, (hb.cell (p := ⟨11, 0, none⟩) h.l2).trans h.e2, h.l1, h.l2⟩
theorem RH.rebox {sb : Nat} {s : Stp} (h : RH w lo rb mb ab mp vs (boxF sb s) key c E R) (s' : Stp) (hbl : Below lo w w') (hat : w'.heap[sb]? = some (.cells (spA s') 193)) (hb : ∀ k, k ≠ sb -> w'.heap[k]? = w.heap[k]?) : RH w' lo rb mb ab mp vs (boxF sb s') key c E R := by
 obtain ⟨x, y, ev, hx⟩ := h.rx
 obtain ⟨_, n1, n2, n3, n4⟩ := hx.fx sb _ (if_pos rfl)
 refine h.tof hbl ⟨x, y, ev, ?_⟩
 refine ⟨(hb rb (Ne.symm n1)).trans hx.at', hx.ar.keep (fun k hm => hb k (fun e => n2 (e ▸ hm))), own_mv hx.va (fun g hg _ => hb g (fun e => n3 (e ▸ hg))), own_mv hx.el (fun g hg _ => hb g (fun e => n4 (e ▸ hg))), hx.off, hx.offV, hx.offE, hx.low, fun k o hk => ?_⟩
 simp only [boxF] at hk
 split at hk
 ·rename_i e
  subst e
  simp only [Option.some.injEq] at hk
  subst hk
  exact ⟨hat, n1, n2, n3, n4⟩
 ·cases hk
theorem RH.left (h : RH w lo rb mb ab mp vs fz key c E R) {j v : Nat} {S : Rn} (hs : R.setL j v = some S) : RH (w.setCell ⟨rb, 5 + j, none⟩ (.int .i64 v)) lo rb mb ab mp vs fz key c E S /\ Below lo w (w.setCell ⟨rb, 5 + j, none⟩ (.int .i64 v)) := by
 obtain ⟨x, y, ev, hx⟩ := h.rx
 have hb : ∀ k, k ≠ rb -> (w.setCell ⟨rb, 5 + j, none⟩ (.int .i64 v)).heap[k]? = w.heap[k]? := fun k hk => Below.heap_setCell _ _ _ _ hk
 have hbl : Below lo w (w.setCell ⟨rb, 5 + j, none⟩ (.int .i64 v)) := (Below.refl lo w).setCell (p := ⟨rb, 5 + j, none⟩) hx.low _
 refine ⟨h.to hbl ⟨x, y, ev, ?_⟩, hbl⟩
 have hk : ∀ S : Rn, S.A = R.A -> S.vars = R.vars -> S.ev = R.ev -> (w.setCell ⟨rb, 5 + j, none⟩ (.int .i64 v)).heap[rb]? = some (.cells #[ptr mb, ptr ab, vs, .int .u64 key, ev, .int .i64 S.l0, .int .i64 S.l1] 127) -> Rx (w.setCell ⟨rb, 5 + j, none⟩ (.int .i64 v)) lo rb mb ab mp x y vs ev fz key S := fun S e1 e2 e3 hat =>
  ⟨hat, by rw [e1]; exact hx.ar.keep (fun k hm => hb k (fun e => hx.off (e ▸ hm))), by rw [e2]; exact own_mv hx.va (fun g hg _ => hb g (hx.offV g hg).1), by rw [e3]; exact own_mv hx.el (fun g hg _ => hb g (hx.offE g hg).1), hx.off, hx.offV, hx.offE, hx.low, fun k o hk => ⟨(hb k (hx.fx k o hk).2.1).trans (hx.fx k o hk).1, (hx.fx k o hk).2⟩⟩
 unfold Rn.setL at hs
 split at hs
 ·rename_i e
  subst e
  simp only [Option.some.injEq] at hs
  subst hs
  exact hk _ rfl rfl rfl ((heap_setCell_same _ _ 5 _ _ _ hx.at').trans rfl)
 ·split at hs
  ·rename_i e
   subst e
   simp only [Option.some.injEq] at hs
   subst hs
   exact hk _ rfl rfl rfl ((heap_setCell_same _ _ 6 _ _ _ hx.at').trans rfl)
  ·cases hs
theorem RH.lfAt (h : RH w lo rb mb ab mp vs fz key c E R) {j v : Nat} (hs : R.lf j = some v) : w.cell? ⟨rb, 5 + j, none⟩ = some (.int .i64 v) /\ w.frozen? ⟨rb, 5 + j, none⟩ = false /\ j < 2 := by
 obtain ⟨x, y, ev, hx⟩ := h.rx
 obtain ⟨c1, c2⟩ := blk_cl hx.at'
 unfold Rn.lf at hs
 split at hs
 ·rename_i e
  subst e
  simp only [Option.some.injEq] at hs
  subst hs
  exact ⟨(c1 5).trans rfl, c2 5, by omega⟩
 ·split at hs
  ·rename_i e
   subst e
   simp only [Option.some.injEq] at hs
   subst hs
   exact ⟨(c1 6).trans rfl, c2 6, by omega⟩
  ·cases hs
theorem arr_range (t : Array Value) : t = ((List.range t.size).map fun i => t.getD i undef).toArray := by
 apply Array.ext
 ·simp
 ·intro i h1 h2
  simp [Array.getD, h1]
theorem arr72 (t : Array Value) (h : t.size = 72) : t = #[t.getD 0 undef, t.getD 1 undef, t.getD 2 undef, t.getD 3 undef, t.getD 4 undef, t.getD 5 undef, t.getD 6 undef, t.getD 7 undef, t.getD 8 undef, t.getD 9 undef, t.getD 10 undef, t.getD 11 undef, t.getD 12 undef, t.getD 13 undef, t.getD 14 undef, t.getD 15 undef, t.getD 16 undef, t.getD 17 undef, t.getD 18 undef, t.getD 19 undef, t.getD 20 undef, t.getD 21 undef, t.getD 22 undef, t.getD 23 undef, t.getD 24 undef, t.getD 25 undef, t.getD 26 undef, t.getD 27 undef, t.getD 28 undef, t.getD 29 undef, t.getD 30 undef, t.getD 31 undef, t.getD 32 undef, t.getD 33 undef, t.getD 34 undef, t.getD 35 undef, t.getD 36 undef, t.getD 37 undef, t.getD 38 undef, t.getD 39 undef, t.getD 40 undef, t.getD 41 undef, t.getD 42 undef, t.getD 43 undef, t.getD 44 undef, t.getD 45 undef, t.getD 46 undef, t.getD 47 undef, t.getD 48 undef, t.getD 49 undef, t.getD 50 undef, t.getD 51 undef, t.getD 52 undef, t.getD 53 undef, t.getD 54 undef, t.getD 55 undef, t.getD 56 undef, t.getD 57 undef, t.getD 58 undef, t.getD 59 undef, t.getD 60 undef, t.getD 61 undef, t.getD 62 undef, t.getD 63 undef, t.getD 64 undef, t.getD 65 undef, t.getD 66 undef, t.getD 67 undef, t.getD 68 undef, t.getD 69 undef, t.getD 70 undef, t.getD 71 undef] := by
 have := arr_range t
 rw [h] at this
 exact this
theorem fr72 {sv : Value} {sb i : Nat} (t : Array Value) (h : t.size = 72) (h0 : t.getD 0 undef = ptr rb) (h1 : t.getD 1 undef = sv) (h4 : t.getD 4 undef = .nilIface) (h5 : t.getD 5 undef = ptr sb) (h6 : t.getD 6 undef = .int .i64 (i : Int)) : ∃ u : Nat -> Value, ({ tmps := t, defers := [] } : Act) = { tmps := #[ptr rb, sv, u 2, u 3, .nilIface, ptr sb, .int .i64 (i : Int), u 7, u 8, u 9, u 10, u 11, u 12, u 13, u 14, u 15, u 16, u 17, u 18, u 19, u 20, u 21, u 22, u 23, u 24, u 25, u 26, u 27, u 28, u 29, u 30, u 31, u 32, u 33, u 34, u 35, u 36, u 37, u 38, u 39, u 40, u 41, u 42, u 43, u 44, u 45, u 46, u 47, u 48, u 49, u 50, u 51, u 52, u 53, u 54, u 55, u 56, u 57, u 58, u 59, u 60, u 61, u 62, u 63, u 64, u 65, u 66, u 67, u 68, u 69, u 70, u 71], defers := [] } := by
 refine ⟨fun n => t.getD n undef, ?_⟩
 rw [<- h0, <- h1, <- h4, <- h5, <- h6]
 exact congrArg (fun t => ({ tmps := t, defers := [] } : Act)) (arr72 t h)
def GJ (w : World) (lo rb mb ab mp sb : Nat) (vs sv : Value) (key : Nat) (c : Cc) (E : Nat -> Addr) (st : List Stp) (r : Except (Nat × Nat) Rn) (l n : Nat) (a' : Act) (w' : World) : Prop :=
 ∃ (f i : Nat) (R : Rn) (s : Stp), (∃ u : Nat -> Value, a' = { tmps := #[ptr rb, sv, u 2, u 3, .nilIface, ptr sb, .int .i64 (i : Int), u 7, u 8, u 9, u 10, u 11, u 12, u 13, u 14, u 15, u 16, u 17, u 18, u 19, u 20, u 21, u 22, u 23, u 24, u 25, u 26, u 27, u 28, u 29, u 30, u 31, u 32, u 33, u 34, u 35, u 36, u 37, u 38, u 39, u 40, u 41, u 42, u 43, u 44, u 45, u 46, u 47, u 48, u 49, u 50, u 51, u 52, u 53, u 54, u 55, u 56, u 57, u 58, u 59, u 60, u 61, u 62, u 63, u 64, u 65, u 66, u 67, u 68, u 69, u 70, u 71], defers := [] }) /\ RH w' lo rb mb ab mp vs (boxF sb s) key c E R /\ Below lo w w' /\ i <= 1000000 /\ s.target <= 900000 /\
  (l = 0 /\ n = 2 * f /\ Rn.go c key st f i R = some r \/ l = 1 /\ n = 2 * f + 1 /\ Rn.go c key st f s.target R = some r)
theorem flatP_range {W : World} {lo0 g cap : Nat} {st : List Stp} {i : Nat} {s : Stp} (h : W.ownsRow lo0 193 14 (.slice (some ⟨g, 0, none⟩) st.length cap) st.length (flatP st)) (hs : st[i]? = some s) : W.rangeAt g (i * 14) (spA s).toList := fun j u hu => by
 have hi := (List.getElem?_eq_some_iff.1 hs).1
 have hj : j < 14 := by have := (List.getElem?_eq_some_iff.1 hu).1; simpa using this
 obtain ⟨g', cap', e1, e2, e3, e4⟩ := row_at h (by omega)
 simp only [Value.slice.injEq, Option.some.injEq, Addr.mk.injEq, and_true, true_and] at e1
 obtain ⟨rfl, rfl⟩ := e1
 rw [e4 (i * 14 + j) (by omega)]
 exact flat_at (fun s => (spA s).toList) 14 (fun _ => rfl) st i s hs j u hu
theorem OutE.box {s : Stp} {sb : Nat} {w0 : World} {r : Except (Nat × Nat) Rn} {e : Ending} (h : OutE w lo rb mb ab mp vs (boxF sb s) key E r e w') (hb : Below lo w0 w) : OutE w0 lo rb mb ab mp vs noF key E r e w' := by
 obtain ⟨h1, h2⟩ := h
 refine ⟨hb.trans h1, ?_⟩
 cases r with
 | ok S =>
  obtain ⟨h3, x, y, ev, h4⟩ := h2
  exact ⟨h3, x, y, ev, h4.with (fun k o hk => by cases hk)⟩
 | error q => exact h2
theorem ix_left (rb k : Nat) (hk : k < 2) : ∀ W : World, (Instr.indexAt 125 (.pointer (some ⟨rb, 5, none⟩)) (.int .i64 k)).run Tryz.prog W = .ok (.pointer (some ⟨rb, 5 + k, none⟩)) W := by
 intro W
 have hl : Tryz.prog.arrayLen 125 = 2 := by kernel_rfl
 rw [run_indexAt_array (h := by kernel_rfl), hl, if_pos (by omega)]
 have : (sizeOf (Tryz.prog.elem 125)).run Tryz.prog W = .ok 1 W := by kernel_rfl
 rw [this]
 simp [Result.andThen, Addr.add]
end
section
variable {w w' : World} {lo rb mb ab mp : Nat} {x y vs ev : Value} {fz fz' : Nat -> Option Obj} {key : Nat} {R S : Rn} {c : Cc} {E : Nat -> Addr}
theorem kd_of {k n : Nat} (h : k = n) : ((k : Int) == (n : Int)) = true := by simp; omega
theorem kd_no {k n : Nat} (h : k ≠ n) : ((k : Int) == (n : Int)) = false := by simp; omega
theorem rgo_any (h : RH w lo rb mb ab mp vs noF key c E R) (hk : key < key64) (st : List Stp) (sa : Option Addr) (sc : Nat) {lo0 : Nat} (hst : w.ownsRow lo0 193 14 (.slice sa st.length sc) st.length (flatP st)) (hsl : ∀ g, (Value.slice sa st.length sc).ownBlock = some g -> g < lo) (hsn : st.length <= 900000) (htg : ∀ s ∈ st, s.target <= 900000) (f0 : Nat) (r : Except (Nat × Nat) Rn) (hgo : Rn.go c key st f0 0 R = some r) :
  Calls Tryz.prog 51 #[ptr rb, .slice sa st.length sc] w (OutE w lo rb mb ab mp vs noF key E r) := by
 have H0 := h.box stp0
 have hsz := h.pq.sz
 have B0 : Below lo w (w.alloc (.cells (spA stp0) 193)) := (Below.refl _ w).alloc hsz _
 go_enter Tryz.func51, Tryz.ntmps51
 go_wp2_with fail
 refine scope_jumps2 rfl rfl (GJ w lo rb mb ab mp w.heap.size vs (.slice sa st.length sc) key c E st r) ?hl ?first ?pass0 ?pass1
 case hl =>
  rintro l n a w' ⟨f, i, R', s, _, _, _, _, _, h2⟩
  rcases h2 with ⟨h2, _⟩ | ⟨h2, _⟩
  ·exact Or.inl h2
  ·exact Or.inr h2
 case first =>
  intro hp
  go_wp2_with fail
  refine wp_label ?_
  rename_i K hK
  refine hK _ _ (hp (2 * f0) _ _ ⟨f0, 0, R, stp0, fr72 _ rfl rfl rfl rfl rfl rfl, H0, B0, by omega, by decide, Or.inl ⟨rfl, rfl, hgo⟩⟩)
 case pass0 =>
  rintro n a' w' ⟨f, i, R', s, ⟨u, rfl⟩, H1, B1, hi, hs, h2⟩
  rcases h2 with ⟨_, rfl, hg⟩ | ⟨h2, _⟩
  case inr => omega
  cases f with
  | zero => cases hg
  | succ f =>
  unfold Rn.go at hg
  by_cases hend : i = st.length
  ·rw [if_pos hend] at hg
   have hE := kd_of hend
   simp only [Option.some.injEq] at hg
   have HR : Hid (r = .ok R') := hg.symm
   clear hg
   go_wp2_with fail
   simp only [ExJ]
   go_ret
   rw [HR.out]
   exact ⟨B1, rfl, H1.unbox.rx⟩
  ·rw [if_neg hend] at hg
   have hE := kd_no hend
   simp only [Option.bind_eq_some_iff] at hg
   obtain ⟨s1, hs1, hg⟩ := hg
   have hlt : i < st.length := (List.getElem?_eq_some_iff.1 hs1).1
   have hst1 := own_mv hst (fun g hg hl => B1.block g (hsl g hg))
   have hsg : ∃ g, sa = some ⟨g, 0, none⟩ := by
    rcases hst.2 with ⟨h1, h2⟩ | ⟨g, cap, cur, h1, _⟩
    ·omega
    ·simp at h1; exact ⟨g, h1.1⟩
   obtain ⟨g, rfl⟩ := hsg
   have hrg := flatP_range hst1 hs1
   have hix := ix_step g st.length sc i hlt
   have hbox := H1.boxAt
   have htg1 := htg s1 (List.mem_of_getElem? hs1)
   have B2 : Below lo w' (w'.setRow w.heap.size (spA s1)) := ⟨rfl, rfl, rfl, by simp [World.setRow], fun k hk => setRow_other _ _ _ _ (by omega)⟩
   have H2 : RH (w'.setRow w.heap.size (spA s1)) lo rb mb ab mp vs (boxF w.heap.size s1) key c E R' := H1.rebox s1 B2 (setRow_heap _ _ _ _ _ _ hbox) (fun k hk => setRow_other _ _ _ _ hk)
   have B3 := B1.trans B2
   clear hend hst1
   go_upto_region 5 with fail
   refine wp_region_lit ?_
   iterate 9 go_step
   refine wpList_load_mid rfl 193 (.tmp 14) rfl g (i * 14) rfl (spA s1).toList _ hrg Tryz.underlying193 rfl (by kernel_rfl) ?_
   refine wpList_store_row rfl 193 (.tmp 5) (.tmp 15) rfl w.heap.size (spA s1) rfl rfl 193 (spA s) hbox (by kernel_rfl) rfl (by simp [Value.oneCell']) ?_
   generalize w'.setRow w.heap.size (spA s1) = W at *
   clear hrg hix hbox H1 B1 B2
   have hfr : Hid (∀ (w2 : World) (R2 : Rn), RH w2 lo rb mb ab mp vs (boxF w.heap.size s1) key c E R2 -> RH w2.drew lo rb mb ab mp vs (boxF w.heap.size s1) key c E R2) := fun w2 R2 h2 => h2.grow (bdrw (Below.refl _ _))
   obtain ⟨c2, cf2⟩ := blk_cl H2.boxAt
   by_cases k12 : s1.kind = 12
   ·rw [if_pos k12] at hg
    simp only [Option.bind_eq_some_iff] at hg
    obtain ⟨R2, hR2, hg⟩ := hg
    have f12 : ((s1.kind : Int) == 12) = true := by simp; omega
    obtain ⟨H3, B4⟩ := H2.left hR2
    have hl2 : s1.loop < 2 := by
     unfold Rn.setL at hR2
     split at hR2
     ·omega
     ·split at hR2
      ·omega
      ·cases hR2
    have hix := ix_left rb s1.loop hl2
    obtain ⟨x1, y1, ev1, HX⟩ := H2.rx
    obtain ⟨c1, cf1⟩ := blk_cl HX.at'
    have hcl : ∃ v, W.cell? ⟨rb, 5 + s1.loop, none⟩ = some v := by
     have : s1.loop = 0 \/ s1.loop = 1 := by omega
     rcases this with e | e <;> rw [e]
     ·exact ⟨_, (c1 5).trans rfl⟩
     ·exact ⟨_, (c1 6).trans rfl⟩
    obtain ⟨v0, hcl⟩ := hcl
    have hfz := cf1 (5 + s1.loop)
    have H4 := hfr.out _ _ H3
    have B5 := bdrw (B3.trans B4)
    clear H3 B4 k12 hR2 hfr c1 cf1
    go_wp2_with fail
    go_region
    all_goals
     go_wp2_with fail
     refine wp_goto ?_
     exact ⟨2 * f, by omega, f, i + 1, R2, s1, fr72 _ rfl rfl rfl rfl rfl rfl, H4, B5, by omega, htg1, Or.inl ⟨rfl, rfl, hg⟩⟩
   ·rw [if_neg k12] at hg
    have f12 : ((s1.kind : Int) == 12) = false := by simp; omega
    by_cases k13 : s1.kind = 13
    ·rw [if_pos k13] at hg
     simp only [Option.bind_eq_some_iff] at hg
     obtain ⟨m, hm, hg⟩ := hg
     have f13 : ((s1.kind : Int) == 13) = true := by simp; omega
     obtain ⟨hcl, hfz, hl2⟩ := H2.lfAt hm
     have hix := ix_left rb s1.loop hl2
     by_cases hm0 : m = 0
     ·rw [if_pos hm0] at hg
      have fm : ((m : Int) == 0) = true := by simp; omega
      have H4 := hfr.out _ _ H2
      have B5 := bdrw B3
      clear k12 k13 hfr hm0
      go_wp2_with fail
      go_region
      all_goals
       go_wp2_with fail
       refine wp_goto ?_
       exact ⟨2 * f + 1, by omega, f, i + 1, R', s1, fr72 _ rfl rfl rfl rfl rfl rfl, H4, B5, by omega, htg1, Or.inr ⟨rfl, rfl, hg⟩⟩
     ·rw [if_neg hm0] at hg
      split at hg
      case isFalse => cases hg
      rename_i hmb
      simp only [Option.bind_eq_some_iff] at hg
      obtain ⟨R2, hR2, hg⟩ := hg
      have fm : ((m : Int) == 0) = false := by simp; omega
      obtain ⟨H3, B4⟩ := H2.left hR2
      have em : (((m - 1 : Nat)) : Int) = (m : Int) - 1 := by omega
      rw [em] at H3 B4
      have H4 := hfr.out _ _ (hfr.out _ _ H3)
      have B5 := bdrw (bdrw (B3.trans B4))
      have hm1 : 1 <= m := by omega
      clear k12 k13 hfr hm0 hR2 H3 B4 em
      go_wp2_with fail
      go_region
      all_goals
       go_wp2_with fail
       go_region
       all_goals
        go_wp2_with fail
        refine wp_goto ?_
        exact ⟨2 * f, by omega, f, i + 1, R2, s1, fr72 _ rfl rfl rfl rfl rfl rfl, H4, B5, by omega, htg1, Or.inl ⟨rfl, rfl, hg⟩⟩
    ·rw [if_neg k13] at hg
     have f13 : ((s1.kind : Int) == 13) = false := by simp; omega
     by_cases kt : s1.kind = 8 \/ s1.kind = 9 \/ s1.kind = 10 \/ s1.kind = 11
     ·rw [if_pos kt] at hg
      simp only [Option.bind_eq_some_iff] at hg
      obtain ⟨b, hb, hg⟩ := hg
      obtain ⟨x1, y1, ev1, HX⟩ := H2.rx
      have HS := rso_any HX.drew hk s1 b hb
      have hbx : (W.drew).heap[w.heap.size]? = some (.cells (spA s1) 193) := H2.boxAt
      have hbl : w.heap.size < (W.drew).heap.size := (Array.getElem?_eq_some_iff.1 hbx).1
      have HG : Hid (∀ w2, Below (W.drew).heap.size W.drew w2 -> RH w2 lo rb mb ab mp vs (boxF w.heap.size s1) key c E R' /\ Below lo w w2) := fun w2 B6 => ⟨(hfr.out _ _ H2).grow B6, (bdrw B3).trans (B6.mono (hfr.out _ _ H2).pq.sz)⟩
      have hneg : Hid ((b = s1.neg) -> Rn.go c key st f s1.target R' = some r) := fun e => by rw [if_pos e] at hg; exact hg
      have hpos : Hid ((b ≠ s1.neg) -> Rn.go c key st f (i + 1) R' = some r) := fun e => by rw [if_neg e] at hg; exact hg
      have hkk : (((s1.kind : Int) == 8) = true) \/ (((s1.kind : Int) == 8) = false /\ ((s1.kind : Int) == 9) = true) \/ (((s1.kind : Int) == 8) = false /\ ((s1.kind : Int) == 9) = false /\ ((s1.kind : Int) == 10) = true) \/ (((s1.kind : Int) == 8) = false /\ ((s1.kind : Int) == 9) = false /\ ((s1.kind : Int) == 10) = false /\ ((s1.kind : Int) == 11) = true) := by
       rcases kt with e | e | e | e <;> rw [e] <;> decide
      clear k12 k13 kt hg hb H2 HX hfr
      cases hbb : (b == s1.neg) with
      | true =>
       have hg := hneg.out (by simpa using hbb)
       rcases hkk with g8 | ⟨g8, g9⟩ | ⟨g8, g9, g10⟩ | ⟨g8, g9, g10, g11⟩
       all_goals
        go_wp2_with fail
        go_region_with (go_at_call 77; refine HS.mono ?_; rintro e w2 ⟨rfl, B6⟩; obtain ⟨c6, cf6⟩ := blk_cl ((B6.block _ hbl).trans hbx))
        all_goals
         go_wp2_with fail
         refine wp_goto ?_
         exact ⟨2 * f + 1, by omega, f, i + 1, R', s1, fr72 _ rfl rfl rfl rfl rfl rfl, (HG.out _ B6).1, (HG.out _ B6).2, by omega, htg1, Or.inr ⟨rfl, rfl, hg⟩⟩
      | false =>
       have hg := hpos.out (by simpa using hbb)
       rcases hkk with g8 | ⟨g8, g9⟩ | ⟨g8, g9, g10⟩ | ⟨g8, g9, g10, g11⟩
       all_goals
        go_wp2_with fail
        go_region_with (go_at_call 77; refine HS.mono ?_; rintro e w2 ⟨rfl, B6⟩; obtain ⟨c6, cf6⟩ := blk_cl ((B6.block _ hbl).trans hbx))
        all_goals
         go_wp2_with fail
         refine wp_goto ?_
         exact ⟨2 * f, by omega, f, i + 1, R', s1, fr72 _ rfl rfl rfl rfl rfl rfl, (HG.out _ B6).1, (HG.out _ B6).2, by omega, htg1, Or.inl ⟨rfl, rfl, hg⟩⟩
     ·rw [if_neg kt] at hg
      have g8 : ((s1.kind : Int) == 8) = false := by simp; omega
      have g9 : ((s1.kind : Int) == 9) = false := by simp; omega
      have g10 : ((s1.kind : Int) == 10) = false := by simp; omega
      have g11 : ((s1.kind : Int) == 11) = false := by simp; omega
      by_cases k14 : s1.kind = 14
      ·rw [if_pos k14] at hg
       have f14 : ((s1.kind : Int) == 14) = true := by simp; omega
       clear k12 k13 kt k14
       go_wp2_with fail
       refine wp_goto ?_
       exact ⟨2 * f + 1, by omega, f, i + 1, R', s1, fr72 _ rfl rfl rfl rfl rfl rfl, H2, B3, by omega, htg1, Or.inr ⟨rfl, rfl, hg⟩⟩
      ·rw [if_neg k14] at hg
       have f14 : ((s1.kind : Int) == 14) = false := by simp; omega
       simp only [Option.bind_eq_some_iff] at hg
       obtain ⟨q, hq, hg⟩ := hg
       have HD := rdo_any H2 hk s1 q hq
       have hbx := H2.boxAt
       have HT : Hid (∀ w2 S, Below lo W w2 -> (∃ x y ev, Rx w2 lo rb mb ab mp x y vs ev (boxF w.heap.size s1) key S) -> RH w2 lo rb mb ab mp vs (boxF w.heap.size s1) key c E S /\ Below lo w w2) := fun w2 S B6 hr => ⟨H2.tof B6 hr, B3.trans B6⟩
       have HO : Hid (∀ e w2, OutE W lo rb mb ab mp vs (boxF w.heap.size s1) key E q e w2 -> OutE w lo rb mb ab mp vs noF key E q e w2) := fun e w2 h2 => h2.box B3
       clear k12 k13 kt k14 hfr hq H2
       go_upto_region 19 with fail
       refine wp_region_lit ?_
       iterate 3 go_step
       refine wpList_load_row rfl 193 (.tmp 5) rfl w.heap.size rfl 193 _ _ _ hbx Tryz.underlying193 rfl (by kernel_rfl) ?_
       go_wp2_with fail
       refine HD.mono ?_
       rintro e w2 h5
       have h6 := HO.out e w2 h5
       obtain ⟨B6, h5⟩ := h5
       clear HD HO
       cases q with
       | ok S =>
        obtain ⟨rfl, h5⟩ := h5
        obtain ⟨H7, B7⟩ := HT.out w2 S B6 h5
        simp only at hg
        clear h5 h6 HT
        go_wp2_with fail
        refine wp_goto ?_
        exact ⟨2 * f, by omega, f, i + 1, S, s1, fr72 _ rfl rfl rfl rfl rfl rfl, H7, B7, by omega, htg1, Or.inl ⟨rfl, rfl, hg⟩⟩
       | error p =>
        simp only [Option.some.injEq] at hg
        have HR : Hid (r = .error p) := hg.symm
        clear hg HT
        obtain ⟨pi, pp⟩ := p
        obtain ⟨fb, rfl, h5⟩ := h5
        go_wp2_with fail
        simp only [ExJ]
        go_ret
        rw [HR.out]
        exact h6
 case pass1 =>
  rintro n a' w' ⟨f, i, R', s, ⟨u, rfl⟩, H1, B1, hi, hs, h2⟩
  rcases h2 with ⟨h2, _⟩ | ⟨_, rfl, hg⟩
  case inl => omega
  obtain ⟨c2, cf2⟩ := blk_cl H1.boxAt
  go_wp2_with fail
  refine wp_goto ?_
  exact ⟨2 * f, by omega, f, s.target, R', s, fr72 _ rfl rfl rfl rfl rfl rfl, H1, B1, by omega, hs, Or.inl ⟨rfl, rfl, hg⟩⟩
end
section
variable {w w' : World} {lo rb mb ab mp : Nat} {x y vs ev : Value} {A : Ar}
theorem Aw.lower {lo' : Nat} (h : Aw w lo ab mp x y A) (hl : lo' <= lo) : Aw w lo' ab mp x y A :=
 ⟨h.at', h.wh, own_low h.nd hl, own_low h.qu hl, h.sep, h.off, h.ne, Nat.le_trans hl h.low.1, Nat.le_trans hl h.low.2⟩
def OutSt (w : World) (A : Ar) (V : List Nat) (e : Ending) (w' : World) : Prop :=
 ∃ ab mp x y vs, e = .returned (.agg #[ptr ab, vs]) /\ Aw w' w.heap.size ab mp x y A /\ w'.ownsRow w.heap.size 3 1 vs V.length (ints V) /\ (∀ g, vs.ownBlock = some g -> ¬ AMine ab mp x y g) /\ Below w.heap.size w w'
theorem sclone_any {lo' : Nat} (h : Aw w lo ab mp x y A) (hn : A.nodes.length <= 1000000) (hqn : A.qs.length <= 1000000) (V : List Nat) (va : Option Addr) (vc : Nat) (hv : w.ownsRow lo' 3 1 (.slice va V.length vc) V.length (ints V)) (hvn : V.length <= 1000000) :
  Calls Tryz.prog 49 #[.agg #[ptr ab, .slice va V.length vc]] w (OutSt w A V) := by
 have B0 : Below w.heap.size w ((w.alloc (.cells #[ptr ab, .slice va V.length vc] 91)).alloc (.cells #[.pointer none, Value.slice none 0 0] 91)) := ((Below.refl _ w).alloc (Nat.le_refl _) _).alloc (by simp) _
 have H := h.grow B0
 have hv0 := own_grow hv B0
 have b1 : ((w.alloc (.cells #[ptr ab, .slice va V.length vc] 91)).alloc (.cells #[.pointer none, Value.slice none 0 0] 91)).heap[w.heap.size]? = some (.cells #[ptr ab, .slice va V.length vc] 91) := (Below.heap_alloc _ _ _ (by simp)).trans (heap_new rfl)
 have b2 : ((w.alloc (.cells #[ptr ab, .slice va V.length vc] 91)).alloc (.cells #[.pointer none, Value.slice none 0 0] 91)).heap[w.heap.size + 1]? = some (.cells #[.pointer none, Value.slice none 0 0] 91) := heap_new (by simp)
 have hsz : ((w.alloc (.cells #[ptr ab, .slice va V.length vc] 91)).alloc (.cells #[.pointer none, Value.slice none 0 0] 91)).heap.size = w.heap.size + 2 := by simp
 go_enter Tryz.func49, Tryz.ntmps49
 go_upto_region 1 with fail
 generalize ((w.alloc (.cells #[ptr ab, .slice va V.length vc] 91)).alloc (.cells #[.pointer none, Value.slice none 0 0] 91)) = w1 at *
 have H := H.drew
 have hv0 := own_mv hv0 (w' := w1.drew) (fun _ _ _ => rfl)
 have BB := bdrw B0
 have b1 : w1.drew.heap[w.heap.size]? = _ := b1
 have b2 : w1.drew.heap[w.heap.size + 1]? = _ := b2
 have hsz : w1.drew.heap.size = w.heap.size + 2 := hsz
 obtain ⟨c1, cf1⟩ := blk_cl b1
 obtain ⟨c2, cf2⟩ := blk_cl b2
 go_region_law (first
  | (refine wanted_pos rfl ?_; go_simp; go_at_call 74; go_must (refine Calls.mono (aclone_any H hn hqn) ?_; rintro e wa ⟨ab', mp', x', y', rfl, hA, Ba⟩; have za := Ba.size; have hAi : ∀ k, AMine ab' mp' x' y' k -> _ <= k /\ k < wa.heap.size := (fun k hk => Aw.lt hA hk); have H := H.grow Ba; have hv0 := own_grow hv0 Ba; have BB := BB.trans (Ba.mono BB.size); have b1 := (Ba.block _ (Array.getElem?_eq_some_iff.1 b1).1).trans b1; have b2 := (Ba.block _ (Array.getElem?_eq_some_iff.1 b2).1).trans b2; (try have hvn2 := own_grow hvn2 Ba); obtain ⟨c3, cf3⟩ := blk_cl b1; obtain ⟨c4, cf4⟩ := blk_cl b2))
  | (refine wanted_pos rfl ?_; go_simp; go_at_call 75; go_must (refine Calls.mono (clone_ints V hv0 hvn) ?_; rintro e wb ⟨vn, rfl, hvn2, Bb⟩; obtain ⟨ya, yk, yc, rfl⟩ := ownsRow_form2 hvn2; have zb := Bb.size; have H := H.grow Bb; have hv0 := own_grow hv0 Bb; have BB := BB.trans (Bb.mono BB.size); have hvi := own_in hvn2; have b1 := (Bb.block _ (Array.getElem?_eq_some_iff.1 b1).1).trans b1; have b2 := (Bb.block _ (Array.getElem?_eq_some_iff.1 b2).1).trans b2; (try have hA := Aw.grow hA Bb); obtain ⟨c5, cf5⟩ := blk_cl b1; obtain ⟨c6, cf6⟩ := blk_cl b2)))
 all_goals
  go_wp2_with fail
  have hset : ∀ (W : World) (k : Nat), k ≠ w.heap.size + 1 -> ((W.setCell ⟨w.heap.size + 1, 0, none⟩ (ptr ab')).setCell ⟨w.heap.size + 1, 1, none⟩ (.slice ya yk yc)).heap[k]? = W.heap[k]? := fun W k hk => (Below.heap_setCell _ ⟨w.heap.size + 1, 1, none⟩ _ k hk).trans (Below.heap_setCell _ ⟨w.heap.size + 1, 0, none⟩ _ k hk)
  refine bodyPost_cell Tryz.results49 (w.heap.size + 1) _ _ _ rfl rfl ((heap_setCell_same _ _ 1 _ _ _ (heap_setCell_same _ _ 0 _ _ _ b2)).trans rfl) Tryz.underlying91 rfl (by kernel_rfl) ⟨ab', mp', x', y', .slice ya yk yc, rfl, ((hA.keep (fun k hk => hset _ k (by have := hAi k hk; omega)))).lower (by omega), own_low (own_mv hvn2 (fun g hg _ => hset _ g (by have := hvi g hg; omega))) (by omega), fun g hg hk => ?_, (BB.setCell (p := ⟨w.heap.size + 1, 0, none⟩) (by simp) _).setCell (p := ⟨w.heap.size + 1, 1, none⟩) (by simp) _⟩
  have h1 := hvi g hg
  have h2 := hAi g hk
  omega
end
end Go.Proofs.YtfddoieakfpagabGreatDoor
