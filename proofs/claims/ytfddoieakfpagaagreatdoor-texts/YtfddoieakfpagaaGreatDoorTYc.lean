import Derived.Test.YtfddoieakfpagaaGreatDoorTYb
import Derived.Deep.DeepCutAuto
namespace Go.Proofs.YtfddoieakfpagaaGreatDoor
set_option maxHeartbeats 8000000
set_option maxRecDepth 20000
open Go.RowKit
theorem J9 (x y : List UInt8) (h : x.length + y.length <= 1000000000000) (W : World) (ev : Operand -> Value) (o : Oper) (p q : Operand) (h1 : o.op = .binOp .add 9 p q 9) (h2 : ev p = S x) (h3 : ev q = S y) : (execOp ev o).run Tryz.prog W = .ok (.value (S (x ++ y))) W := by
 have := aOo x y h W
 unfold execOp
 rw [h1]
 have hg : (eqGuard .add 9 p q (S x) (S y)).run Tryz.prog W = .ok () W := rfl
 simp only [h2, h3, Sem.run_bind, hg, this, Result.andThen]
 rfl
theorem ldS {W : World} {a : Addr} {t : List UInt8} (hc : W.cell? a = some (S t)) (ev : Operand -> Value) (o : Oper) (k : Nat) (h1 : o.op = .load 9 (.tmp k)) (h2 : ev (.tmp k) = .pointer (some a)) : (execOp ev o).run Tryz.prog W = .ok (.value (S t)) W := by
 unfold execOp
 rw [h1]
 simp only [h2]
 go_simp
theorem ldI {W : World} {a : Addr} {n : Nat} (hc : W.cell? a = some (.int .i64 n)) (ev : Operand -> Value) (o : Oper) (k : Nat) (h1 : o.op = .load 3 (.tmp k)) (h2 : ev (.tmp k) = .pointer (some a)) : (execOp ev o).run Tryz.prog W = .ok (.value (.int .i64 n)) W := by
 unfold execOp
 rw [h1]
 simp only [h2]
 go_simp
theorem ldR {W : World} {a : Addr} {x : Option Addr} {n c : Nat} (hc : W.cell? a = some (.slice x n c)) (ev : Operand -> Value) (o : Oper) (k : Nat) (h1 : o.op = .load 78 (.tmp k)) (h2 : ev (.tmp k) = .pointer (some a)) : (execOp ev o).run Tryz.prog W = .ok (.value (.slice x n c)) W := by
 unfold execOp
 rw [h1]
 simp only [h2]
 go_simp
theorem ldB {W : World} {a : Addr} {x : Option Addr} {n c : Nat} (hc : W.cell? a = some (.slice x n c)) (ev : Operand -> Value) (o : Oper) (k : Nat) (h1 : o.op = .load 80 (.tmp k)) (h2 : ev (.tmp k) = .pointer (some a)) : (execOp ev o).run Tryz.prog W = .ok (.value (.slice x n c)) W := by
 unfold execOp
 rw [h1]
 simp only [h2]
 go_simp
theorem ixQ {g n c k : Nat} (hk : k < n) (W : World) (ev : Operand -> Value) (o : Oper) (i j : Nat) (h1 : o.op = .indexAddr 78 (.tmp i) (.tmp j)) (h2 : ev (.tmp i) = .slice (some ⟨g, 0, none⟩) n c) (h3 : ev (.tmp j) = .int .i64 k) : (execOp ev o).run Tryz.prog W = .ok (.value (.pointer (some ⟨g, k, none⟩))) W := by
 have ix := aRz g 0 n c k hk W
 rw [Nat.zero_add] at ix
 unfold execOp
 rw [h1]
 simp only [h2, h3, Sem.run_bind, ix, Result.andThen]
 rfl
def aE6 (d : DL) : List UInt8 := d.1 ++ [32] ++ d.2.1 ++ [32] ++ gJ d.2.2 ++ [59, 10]
def iE (L : List DL) : List UInt8 := L.flatMap aE6
def wO (fr : Nat) : List UInt8 := if fr > 0 then [102, 114, 101, 113, 32] ++ gJ fr ++ [59, 10] else []
def o8 (L : List DL) (p : Pm) (k : Nat) : List UInt8 := if p.has.getD k false = true then [111, 110, 32] ++ jJ L k ++ [32] ++ dA L 8 (p.dS.getD k (aI 8)) ++ [10] else []
def lN (L : List DL) (p : Pm) (n : Nat) : List UInt8 := (List.range n).flatMap (o8 L p)
def wC (L : List DL) (fr : Nat) (p : Pm) : List UInt8 := iE L ++ wO fr ++ lN L p L.length ++ [111, 110, 32, 109, 105, 115, 115, 32] ++ dA L 8 p.tK ++ [10]
section
variable {w : World} {pb fr : Nat} {L : List DL}
theorem zT {p : Pm} {k : Nat} (h : p.has.getD k false = true) : o8 L p k = [111, 110, 32] ++ jJ L k ++ [32] ++ dA L 8 (p.dS.getD k (aI 8)) ++ [10] := if_pos h
theorem aF2 {p : Pm} {k : Nat} (h : p.has.getD k false = false) : o8 L p k = [] := if_neg (by rw [h]; simp)
theorem zN {p : Pm} (k : Nat) : lN L p (k + 1) = lN L p k ++ o8 L p k := by
 unfold lN
 rw [List.range_succ, List.flatMap_append]
 simp
theorem zO {p : Pm} : ∀ {k n : Nat}, k <= n -> (lN L p k).length <= (lN L p n).length
 | k, 0, h => by
  have : k = 0 := by omega
  subst this
  exact zR
 | k, n + 1, h => by
  by_cases e : k = n + 1
  ·subst e
   exact zR
  ·refine Nat.le_trans (zO (show k <= n by omega)) ?_
   rw [zN]
   simp
theorem aR1 (g o n cap k : Nat) (hk : k < n) : ∀ W : World, (Instr.indexAt 79 (.slice (some ⟨g, o, none⟩) n cap) (.int .i64 k)).run Tryz.prog W = .ok (.pointer (some ⟨g, o + k, none⟩)) W := by
 intro W
 rw [run_indexAt_slice (h := by kernel_rfl), if_pos (by omega)]
 have : (sizeOf (Tryz.prog.elem 79)).run Tryz.prog W = .ok 1 W := by kernel_rfl
 rw [this]
 simp [Result.andThen, Addr.add]
theorem aE4 {k : Nat} {d : DL} (h : L[k]? = some d) : iE (L.take (k + 1)) = iE (L.take k) ++ aE6 d := by
 have hk := (List.getElem?_eq_some_iff.1 h).1
 rw [List.take_succ_eq_append_getElem hk, show L[k] = d from Option.some.inj ((List.getElem?_eq_getElem hk).symm.trans h)]
 unfold iE
 rw [List.flatMap_append]
 simp
theorem aLi (k : Nat) : (iE (L.take k)).length <= (iE L).length := by
 have : iE L = iE (L.take k) ++ iE (L.drop k) := by
  unfold iE
  rw [<- List.flatMap_append, List.take_append_drop]
 rw [this]
 simp
theorem aQ8 {hi : Nat} {p : Pm} (hP : Pf w hi pb L fr p) (hdl : ∀ d ∈ L, d.1.length <= 1000 /\ d.2.1.length <= 1000 /\ d.2.2 <= 100000) (hfr : fr <= 100000) (hL : L.length <= 700) (hok : ∀ k, k < L.length -> O3 L 8 (p.dS.getD k (aI 8)) /\ nuT 8 (p.dS.getD k (aI 8))) (hom : O3 L 8 p.tK /\ nuT 8 p.tK) (hlen : (wC L fr p).length <= 100000000000) : Calls Tryz.prog 20 #[ptr pb] w fun e w' => e = .returned (S (wC L fr p)) /\ Below w.heap.size w w' := by
 have hp := hP.pw
 have hnm : ∀ k, (jJ L k).length <= 1000 := fun k => by
  unfold jJ
  rw [List.getD_eq_getElem?_getD]
  cases hk : L[k]? with
  | none => simp
  | some d => exact (hdl d (List.mem_of_getElem? hk)).2.1
 have hlen2 : (iE L).length + (wO fr).length + (lN L p L.length).length + (dA L 8 p.tK).length <= 100000000000 := by
  unfold wC at hlen
  simp at hlen
  omega
 obtain ⟨la, lc, gr, gh, Mv, RA, q1, q2, q3, q4, q5, q6, q7, q8, q9, q10, q11⟩ := hP.ex
 have lpb := (zL q1)
 have hpW : Hid (∀ W : World, Below w.heap.size w W -> Pw W pb L fr) := fun W hW => hp.below hW
 have hq1 : Hid (∀ W : World, Below w.heap.size w W -> W.heap[pb]? = some (.cells #[.slice la L.length lc, .int .i64 fr, .slice (some ⟨gr, 0, none⟩) L.length L.length, .slice (some ⟨gh, 0, none⟩) L.length L.length, Mv, .bool p.ms] 82)) := fun W hW => (hW.block pb lpb).trans q1
 obtain ⟨cp, cfp⟩ := aA q1
 have fP : Hid ((iE L).length + (wO fr).length + (lN L p L.length).length + (dA L 8 p.tK).length <= 100000000000) := hlen2
 have aSj : Hid (∀ d ∈ L, d.1.length <= 1000 /\ d.2.1.length <= 1000 /\ d.2.2 <= 100000) := hdl
 have aSk : Hid (∀ (W : World) (k : Nat), Below w.heap.size w W -> k < L.length -> ∃ g d, la = some ⟨g, 0, none⟩ /\ L[k]? = some d /\ W.cell? ⟨g, k * 3, none⟩ = some (S d.1) /\ W.cell? ⟨g, k * 3 + 1, none⟩ = some (S d.2.1) /\ W.cell? ⟨g, k * 3 + 2, none⟩ = some (.int .i64 d.2.2)) := fun W k hW hk => by
  have hd : L[k]? = some L[k] := List.getElem?_eq_getElem hk
  obtain ⟨g, c, x2, x3, x4, x5, h1, ⟨p0, p1, p2⟩, lg, ix⟩ := (hp.below hW).at hd
  have := hq1.out W hW
  rw [h1] at this
  simp at this
  exact ⟨g, L[k], this.1.1.symm, hd, p0, p1, p2⟩
 have hl7 : Hid (L.length <= 700) := hL
 have aN1 : Hid (∀ k, (jJ L k).length <= 1000) := hnm
 have aNz : Hid (∀ k, k < L.length -> O3 L 8 (p.dS.getD k (aI 8)) /\ nuT 8 (p.dS.getD k (aI 8))) := hok
 have aSa : Hid (O3 L 8 p.tK /\ nuT 8 p.tK) := hom
 have aTz : Hid (p.has.length = L.length) := hP.hs
 clear hlen hlen2 hdl q2 q11
 go_enter Tryz.func20, Tryz.ntmps20
 go_wp2_with fail
 go_loopg [3, 13] L.length (fun f vs v wr => ∃ (k : Nat) (sk : List UInt8), vs = S sk /\ v = .int .i64 k /\ k + f = L.length /\ Below w.heap.size w wr /\ Hid (sk = iE (L.take k)))
 case atStart => exact ⟨0, [], rfl, rfl, by omega, Below.refl _ _, rfl⟩
 case round =>
  obtain ⟨k, sk, rfl, rfl, hk, uM, hsk⟩ := hrel
  have aR6 : sk.length <= 100000000000 := by
   rw [hsk.out]
   have := aLi (L := L) k
   have := fP.out
   omega
  by_cases hkl : k < L.length
  ·have t1 : decide ((k : Int) < (L.length : Int)) = true := by simp; omega
   obtain ⟨g, d, rfl, hd, d0, d1, d2⟩ := aSk.out wr k uM hkl
   obtain ⟨hd1, hd2, hd3⟩ := aSj.out d (List.mem_of_getElem? hd)
   have htk : Hid (iE (L.take (k + 1)) = iE (L.take k) ++ aE6 d) := aE4 hd
   have ix := aKk g 0 L.length lc k hkl
   rw [Nat.zero_add] at ix
   clear hd
   have B1 : Below wr.heap.size wr (wr.alloc (.cells #[S d.1, S d.2.1, .int .i64 d.2.2] 90)) := (Below.refl _ wr).alloc zR _
   have b1 : (wr.alloc (.cells #[S d.1, S d.2.1, .int .i64 d.2.2] 90)).heap[wr.heap.size]? = some (.cells #[S d.1, S d.2.1, .int .i64 d.2.2] 90) := aC rfl
   obtain ⟨c1, cf1⟩ := aA b1
   have hzz : (wr.alloc (.cells #[S d.1, S d.2.1, .int .i64 d.2.2] 90)).heap.size = wr.heap.size + 1 := by simp
   have hcW : Hid (∀ W : World, Below (wr.heap.size + 1) (wr.alloc (.cells #[S d.1, S d.2.1, .int .i64 d.2.2] 90)) W -> ∀ o, W.cell? ⟨wr.heap.size, o, none⟩ = (#[S d.1, S d.2.1, .int .i64 d.2.2] : Array Value)[o]?) := fun W hW o => (hW.cell (p := ⟨wr.heap.size, o, none⟩) (Nat.lt_succ_self _)).trans ((aA b1).1 o)
   have HD : Hid (∀ W : World, Below (wr.heap.size + 1) (wr.alloc (.cells #[S d.1, S d.2.1, .int .i64 d.2.2] 90)) W -> Calls Tryz.prog 48 #[.int .i64 d.2.2] W fun e w' => e = .returned (S (gJ d.2.2)) /\ Below (wr.heap.size + 1) (wr.alloc (.cells #[S d.1, S d.2.1, .int .i64 d.2.2] 90)) w') := fun W hW => (aNa d.2.2 hd3 W).mono fun e w' q => ⟨q.1, hW.trans (q.2.mono (by have := hW.size; omega))⟩
   have ld := sS d.2.2 hd3
   obtain ⟨s1, h1⟩ : ∃ t : List UInt8, Hid (t = d.1 ++ [32]) := ⟨d.1 ++ [32], rfl⟩
   obtain ⟨s2, h2⟩ : ∃ t : List UInt8, Hid (t = s1 ++ d.2.1) := ⟨s1 ++ d.2.1, rfl⟩
   obtain ⟨s3, h3⟩ : ∃ t : List UInt8, Hid (t = s2 ++ [32]) := ⟨s2 ++ [32], rfl⟩
   obtain ⟨s4, h4⟩ : ∃ t : List UInt8, Hid (t = s3 ++ gJ d.2.2) := ⟨s3 ++ gJ d.2.2, rfl⟩
   obtain ⟨s5, h5⟩ : ∃ t : List UInt8, Hid (t = s4 ++ [59, 10]) := ⟨s4 ++ [59, 10], rfl⟩
   obtain ⟨s6, h6⟩ : ∃ t : List UInt8, Hid (t = sk ++ s5) := ⟨sk ++ s5, rfl⟩
   have e6 : Hid (s6 = sk ++ aE6 d) := by show _ = _; rw [h6.out, h5.out, h4.out, h3.out, h2.out, h1.out]; rfl
   have k1 : s1.length <= 1010 := by rw [h1.out]; simp; omega
   have k2 : s2.length <= 2020 := by rw [h2.out]; simp; omega
   have k3 : s3.length <= 2030 := by rw [h3.out]; simp; omega
   have k4 : s4.length <= 200000 := by rw [h4.out]; simp; omega
   have k5 : s5.length <= 200010 := by rw [h5.out]; simp; omega
   go_upto_region 5 with fail
   refine wp_region_quiet (C := Below (wr.heap.size + 1) (wr.alloc (.cells #[S d.1, S d.2.1, .int .i64 d.2.2] 90))) (by kernel_rfl) (by kernel_rfl) ((Below.refl _ _).drew) ?_
   refine aH (S sk) (by kernel_rfl) (fun W _ => by kernel_rfl) ?_
   go_simp
   refine aH (.pointer (some ⟨wr.heap.size, 0, none⟩)) (by kernel_rfl) (fun W _ => by kernel_rfl) ?_
   go_simp
   refine aH (S d.1) (by kernel_rfl) (fun W hW => by refine ldS ((fun W hW => hcW.out W hW 0) W hW) _ _ 18 ?_ ?_ <;> kernel_rfl) ?_
   go_simp
   refine aH (S s1) (by kernel_rfl) (fun W _ => by rw [h1.out]; refine J9 (d.1) ([32]) (by first | omega | (simp; done) | (simp; omega)) W _ _ (.tmp 19) (.const (S [32])) ?_ ?_ ?_ <;> kernel_rfl) ?_
   go_simp
   refine aH (.pointer (some ⟨wr.heap.size, 1, none⟩)) (by kernel_rfl) (fun W _ => by kernel_rfl) ?_
   go_simp
   refine aH (S d.2.1) (by kernel_rfl) (fun W hW => by refine ldS ((fun W hW => hcW.out W hW 1) W hW) _ _ 21 ?_ ?_ <;> kernel_rfl) ?_
   go_simp
   refine aH (S s2) (by kernel_rfl) (fun W _ => by rw [h2.out]; refine J9 (s1) (d.2.1) (by first | omega | (simp; done) | (simp; omega)) W _ _ (.tmp 20) (.tmp 22) ?_ ?_ ?_ <;> kernel_rfl) ?_
   go_simp
   refine aH (S s3) (by kernel_rfl) (fun W _ => by rw [h3.out]; refine J9 (s2) ([32]) (by first | omega | (simp; done) | (simp; omega)) W _ _ (.tmp 23) (.const (S [32])) ?_ ?_ ?_ <;> kernel_rfl) ?_
   go_simp
   refine aH (.pointer (some ⟨wr.heap.size, 2, none⟩)) (by kernel_rfl) (fun W _ => by kernel_rfl) ?_
   go_simp
   refine aH (.int .i64 d.2.2) (by kernel_rfl) (fun W hW => by refine ldI ((fun W hW => hcW.out W hW 2) W hW) _ _ 25 ?_ ?_ <;> kernel_rfl) ?_
   go_simp
   refine fU (S (gJ d.2.2)) 48 #[.int .i64 d.2.2] (by kernel_rfl) (fun W => by kernel_rfl) (fun W hW => HD.out W hW) ?_
   go_simp
   refine aH (S s4) (by kernel_rfl) (fun W _ => by rw [h4.out]; refine J9 (s3) (gJ d.2.2) (by first | omega | (simp; done) | (simp; omega)) W _ _ (.tmp 24) (.tmp 27) ?_ ?_ ?_ <;> kernel_rfl) ?_
   go_simp
   refine aH (S s5) (by kernel_rfl) (fun W _ => by rw [h5.out]; refine J9 (s4) ([59, 10]) (by first | omega | (simp; done) | (simp; omega)) W _ _ (.tmp 28) (.const (S [59, 10])) ?_ ?_ ?_ <;> kernel_rfl) ?_
   go_simp
   refine aH (S s6) (by kernel_rfl) (fun W _ => by rw [h6.out]; refine J9 (sk) (s5) (by first | omega | (simp; done) | (simp; omega)) W _ _ (.tmp 17) (.tmp 29) ?_ ?_ ?_ <;> kernel_rfl) ?_
   go_simp
   refine aH (S s6) (by kernel_rfl) (fun W _ => by kernel_rfl) ?_
   refine wpQuiet_nil ?_
   intro wa Ba
   have BB : Below w.heap.size w wa := uM.trans ((B1.trans (Ba.mono (by omega))).mono uM.size)
   go_wp2_with fail
   go_roundg (gk - 1)
   case measure => omega
   case rel => exact ⟨k + 1, s6, rfl, by simp, by omega, BB, by show _ = _; rw [e6.out, hsk.out, htk.out]⟩
  ·have t1 : decide ((k : Int) < (L.length : Int)) = false := by simp; omega
   have e8 : Hid (sk = iE L) := by
    have := hsk.out
    rw [List.take_of_length_le (by omega)] at this
    exact this
   clear hsk
   have aTg := gI sk
   obtain ⟨cq, cfq⟩ := aA (hq1.out wr uM)
   go_upto_if 36 with fail
   go_cut [3] (fun v wx => ∃ s8 : List UInt8, v = S s8 /\ Below w.heap.size w wx /\ Hid (s8 = iE L ++ wO fr))
   case first =>
    by_cases hf0 : fr = 0
    ·subst hf0
     go_wp2_with fail
     go_meet
     exact ⟨sk, rfl, uM, by show _ = _; rw [e8.out]; simp [wO]⟩
    ·have hgt : decide ((fr : Int) > 0) = true := by simp; omega
     have hgt2 : decide ((0 : Int) < (fr : Int)) = true := by simp; omega
     have e7 : Hid (iE L ++ wO fr = sk ++ ([102, 114, 101, 113, 32] ++ gJ fr ++ [59, 10])) := by show _ = _; rw [e8.out]; unfold wO; rw [if_pos (by omega)]
     have HD := aNa fr hfr wr
     have ldf := sS fr hfr
     have aVg := gI (gJ fr)
     generalize gJ fr = df at *
     have hB9 : Hid (∀ W : World, Below wr.heap.size wr W -> Below w.heap.size w W) := fun W hW => uM.trans (hW.mono uM.size)
     go_wp2_with (go_at_call 48; refine HD.mono ?_; rintro e w5 ⟨rfl, q⟩; have HB5 := hB9.out w5 q; clear q)
     go_meet
     exact ⟨iE L ++ wO fr, by rw [e7.out]; refine congrArg Value.string ?_; apply ByteArray.ext; simp [ByteArray.data_append], HB5, rfl⟩
   case rest =>
   obtain ⟨s8, rfl, HB8, hs8⟩ := hcut
   obtain ⟨cq8, aVq⟩ := aA (hq1.out _ HB8)
   go_wp2_with fail
   go_loopg [3, 51] L.length (fun f vs v wr => ∃ (k : Nat) (sk : List UInt8), vs = S sk /\ v = .int .i64 k /\ k + f = L.length /\ Below w.heap.size w wr /\ Hid (sk = iE L ++ wO fr ++ lN L p k))
   case atStart => exact ⟨0, s8, rfl, rfl, by omega, HB8, by show _ = _; rw [hs8.out]; simp [lN]⟩
   case round =>
    obtain ⟨k, sk, rfl, rfl, hk, uM, hsk⟩ := hrel
    have aR6 : sk.length <= 100000000000 := by
     rw [hsk.out]
     have := zO (L := L) (p := p) (show k <= L.length by omega)
     have := fP.out
     simp
     omega
    obtain ⟨cq, cfq⟩ := aA (hq1.out wr uM)
    by_cases hkl : k < L.length
    ·have t1 : decide ((k : Int) < (L.length : Int)) = true := by simp; omega
     obtain ⟨g, d, rfl, hd, d0, d1, d2⟩ := aSk.out wr k uM hkl
     obtain ⟨hd1, hd2, hd3⟩ := aSj.out d (List.mem_of_getElem? hd)
     have hdn : Hid (jJ L k = d.2.1) := by show _ = _; unfold jJ; rw [List.getD_eq_getElem?_getD, hd]; rfl
     have ix := aKk g 0 L.length lc k hkl
     rw [Nat.zero_add] at ix
     have ixb := aR1 gh 0 L.length L.length k hkl
     rw [Nat.zero_add] at ixb
     have hru : Hid (lN L p (k + 1) = lN L p k ++ o8 L p k) := zN k
     have aTj : Hid ((lN L p (k + 1)).length <= 100000000000) := by
      have := zO (L := L) (p := p) (show k + 1 <= L.length by omega)
      have := fP.out
      show _ <= _
      omega
     have lgh := (zL q4)
     have hbk : wr.cell? ⟨gh, k, none⟩ = some (.bool (p.has.getD k false)) := by
      rw [(aA ((uM.block gh lgh).trans q4)).1 k]
      have : k < p.has.length := by rw [aTz.out]; exact hkl
      simp [this]
     clear hd
     cases hhas : p.has.getD k false with
     | false =>
      rw [hhas] at hbk
      have hno : Hid (o8 L p k = []) := aF2 hhas
      have B1 : Below wr.heap.size wr (wr.alloc (.cells #[S d.1, S d.2.1, .int .i64 d.2.2] 90)) := (Below.refl _ wr).alloc zR _
      have b1 : (wr.alloc (.cells #[S d.1, S d.2.1, .int .i64 d.2.2] 90)).heap[wr.heap.size]? = some (.cells #[S d.1, S d.2.1, .int .i64 d.2.2] 90) := aC rfl
      obtain ⟨c1, cf1⟩ := aA b1
      have hbk1 := (B1.cell (p := ⟨gh, k, none⟩) (by have := uM.size; show gh < _; omega)).trans hbk
      obtain ⟨cq1, aUb⟩ := aA (hq1.out _ (uM.trans (B1.mono uM.size)))
      have BB : Hid (Below w.heap.size w (wr.alloc (.cells #[S d.1, S d.2.1, .int .i64 d.2.2] 90))) := uM.trans (B1.mono uM.size)
      go_wp2_with fail
      go_roundg (gk - 1)
      case measure => omega
      case rel => exact ⟨k + 1, sk, rfl, by simp, by omega, BB.out, by show _ = _; rw [hsk.out, hru.out, hno.out]; simp⟩
     | true =>
      rw [hhas] at hbk
      have hbk1 : (wr.alloc (.cells #[S d.1, S d.2.1, .int .i64 d.2.2] 90)).cell? ⟨gh, k, none⟩ = some (.bool true) := (((Below.refl wr.heap.size wr).alloc zR _).cell (p := ⟨gh, k, none⟩) (by have := uM.size; show gh < _; omega)).trans hbk
      obtain ⟨cq1, aUb⟩ := aA (hq1.out (wr.alloc (.cells #[S d.1, S d.2.1, .int .i64 d.2.2] 90)) (uM.trans (((Below.refl wr.heap.size wr).alloc zR _).mono uM.size)))
      have B1 : Below wr.heap.size wr (wr.alloc (.cells #[S d.1, S d.2.1, .int .i64 d.2.2] 90)) := (Below.refl _ wr).alloc zR _
      have b1 : (wr.alloc (.cells #[S d.1, S d.2.1, .int .i64 d.2.2] 90)).heap[wr.heap.size]? = some (.cells #[S d.1, S d.2.1, .int .i64 d.2.2] 90) := aC rfl
      obtain ⟨c1, cf1⟩ := aA b1
      have hzz : (wr.alloc (.cells #[S d.1, S d.2.1, .int .i64 d.2.2] 90)).heap.size = wr.heap.size + 1 := by simp
      have hcW : Hid (∀ W : World, Below (wr.heap.size + 1) (wr.alloc (.cells #[S d.1, S d.2.1, .int .i64 d.2.2] 90)) W -> ∀ o, W.cell? ⟨wr.heap.size, o, none⟩ = (#[S d.1, S d.2.1, .int .i64 d.2.2] : Array Value)[o]?) := fun W hW o => (hW.cell (p := ⟨wr.heap.size, o, none⟩) (Nat.lt_succ_self _)).trans ((aA b1).1 o)
      obtain ⟨ra, rn, rc, hrv, hrl⟩ : ∃ ra rn rc, RA[k]? = some (.slice ra rn rc) /\ dI 8 w (fun g => g < hi) (.slice ra rn rc) (p.dS.getD k (aI 8)) := by
       have h6 := q6 k hkl
       obtain ⟨ra, rn, rc, e⟩ := dI.form 8 _ _ h6
       rw [e] at h6
       exact ⟨ra, rn, rc, by rw [<- e, Array.getD_eq_getD_getElem?, Array.getElem?_eq_getElem (by omega)]; rfl, h6⟩
      have upW : Hid (∀ W : World, Below (wr.heap.size + 1) (wr.alloc (.cells #[S d.1, S d.2.1, .int .i64 d.2.2] 90)) W -> Below w.heap.size w W) := fun W hW => uM.trans ((B1.trans (hW.mono (by omega))).mono uM.size)
      have lgr := (zL q3)
      have hg2 : Hid (∀ W : World, Below (wr.heap.size + 1) (wr.alloc (.cells #[S d.1, S d.2.1, .int .i64 d.2.2] 90)) W -> W.cell? ⟨pb, 2, none⟩ = some (.slice (some ⟨gr, 0, none⟩) L.length L.length)) := fun W hW => (aA (hq1.out W (upW.out W hW))).1 2
      have hgk : Hid (∀ W : World, Below (wr.heap.size + 1) (wr.alloc (.cells #[S d.1, S d.2.1, .int .i64 d.2.2] 90)) W -> W.cell? ⟨gr, k, none⟩ = some (.slice ra rn rc)) := fun W hW => ((aA (((upW.out W hW).block gr lgr).trans q3)).1 k).trans hrv
      obtain ⟨t, ht⟩ : ∃ t : List UInt8, Hid (t = dA L 8 (p.dS.getD k (aI 8))) := ⟨_, (rfl : dA L 8 (p.dS.getD k (aI 8)) = _)⟩
      have htl : t.length <= 100000000000 := by
       have h1 := aTj.out
       rw [hru.out, List.length_append] at h1
       have h2 : t.length <= (o8 L p k).length := by
        rw [zT hhas, <- ht.out]
        simp only [List.length_append]
        omega
       omega
      have HK : Hid (∀ W : World, Below (wr.heap.size + 1) (wr.alloc (.cells #[S d.1, S d.2.1, .int .i64 d.2.2] 90)) W -> Calls Tryz.prog 49 #[ptr pb, .slice ra rn rc] W fun e w' => e = .returned (S t) /\ Below (wr.heap.size + 1) (wr.alloc (.cells #[S d.1, S d.2.1, .int .i64 d.2.2] 90)) w') := fun W hW => by
       have hB := upW.out W hW
       rw [ht.out]
       exact (aPf aN1.out 8 W _ _ _ (hpW.out W hB) (dI.bel hrl hB) (aNz.out k hkl).1 (aNz.out k hkl).2 (by rw [<- ht.out]; exact htl)).mono fun e w' q => ⟨q.1, hW.trans (q.2.mono (by have := hW.size; omega))⟩
      obtain ⟨s1, h1⟩ : ∃ t : List UInt8, Hid (t = [111, 110, 32] ++ d.2.1) := ⟨[111, 110, 32] ++ d.2.1, rfl⟩
      obtain ⟨s2, h2⟩ : ∃ t : List UInt8, Hid (t = s1 ++ [32]) := ⟨s1 ++ [32], rfl⟩
      obtain ⟨s3, h3⟩ : ∃ u : List UInt8, Hid (u = s2 ++ t) := ⟨s2 ++ t, rfl⟩
      obtain ⟨s4, h4⟩ : ∃ t : List UInt8, Hid (t = s3 ++ [10]) := ⟨s3 ++ [10], rfl⟩
      obtain ⟨s5, h5⟩ : ∃ t : List UInt8, Hid (t = sk ++ s4) := ⟨sk ++ s4, rfl⟩
      have e5 : Hid (s5 = sk ++ o8 L p k) := by show _ = _; rw [h5.out, h4.out, h3.out, h2.out, h1.out, zT hhas, hdn.out, ht.out]
      have k1 : s1.length <= 1010 := by rw [h1.out]; simp; omega
      have k2 : s2.length <= 1020 := by rw [h2.out]; simp; omega
      have k3 : s3.length <= 200000000000 := by rw [h3.out]; simp; omega
      have k4 : s4.length <= 300000000000 := by rw [h4.out]; simp; omega
      clear hrv
      go_upto_region 13 with fail
      refine wp_region_quiet (C := Below (wr.heap.size + 1) (wr.alloc (.cells #[S d.1, S d.2.1, .int .i64 d.2.2] 90))) (by kernel_rfl) (by kernel_rfl) ((Below.refl _ _).drew) ?_
      refine aH (S sk) (by kernel_rfl) (fun W _ => by kernel_rfl) ?_
      go_simp
      refine aH (.pointer (some ⟨wr.heap.size, 1, none⟩)) (by kernel_rfl) (fun W _ => by kernel_rfl) ?_
      go_simp
      refine aH (S d.2.1) (by kernel_rfl) (fun W hW => by refine ldS ((fun W hW => hcW.out W hW 1) W hW) _ _ 64 ?_ ?_ <;> kernel_rfl) ?_
      go_simp
      refine aH (S s1) (by kernel_rfl) (fun W _ => by rw [h1.out]; refine J9 ([111, 110, 32]) (d.2.1) (by first | omega | (simp; done) | (simp; omega)) W _ _ (.const (S [111, 110, 32])) (.tmp 65) ?_ ?_ ?_ <;> kernel_rfl) ?_
      go_simp
      refine aH (S s2) (by kernel_rfl) (fun W _ => by rw [h2.out]; refine J9 (s1) ([32]) (by first | omega | (simp; done) | (simp; omega)) W _ _ (.tmp 66) (.const (S [32])) ?_ ?_ ?_ <;> kernel_rfl) ?_
      go_simp
      refine aH (ptr pb) (by kernel_rfl) (fun W _ => by kernel_rfl) ?_
      go_simp
      refine aH (ptr pb) (by kernel_rfl) (fun W _ => by kernel_rfl) ?_
      go_simp
      refine aH (ptr pb) (by kernel_rfl) (fun W _ => by kernel_rfl) ?_
      go_simp
      refine aH (.pointer (some ⟨pb, 2, none⟩)) (by kernel_rfl) (fun W _ => by kernel_rfl) ?_
      go_simp
      refine aH (.slice (some ⟨gr, 0, none⟩) L.length L.length) (by kernel_rfl) (fun W hW => by refine ldR (hg2.out W hW) _ _ 71 ?_ ?_ <;> kernel_rfl) ?_
      go_simp
      refine aH (.int .i64 k) (by kernel_rfl) (fun W _ => by kernel_rfl) ?_
      go_simp
      refine aH (.pointer (some ⟨gr, k, none⟩)) (by kernel_rfl) (fun W _ => by refine ixQ (g := gr) (n := L.length) (c := L.length) hkl W _ _ 72 73 ?_ ?_ ?_ <;> kernel_rfl) ?_
      go_simp
      refine aH (.slice ra rn rc) (by kernel_rfl) (fun W hW => by refine ldB (hgk.out W hW) _ _ 74 ?_ ?_ <;> kernel_rfl) ?_
      go_simp
      refine fU (S t) 49 #[ptr pb, .slice ra rn rc] (by kernel_rfl) (fun W => by kernel_rfl) (fun W hW => HK.out W hW) ?_
      go_simp
      refine aH (S s3) (by kernel_rfl) (fun W _ => by rw [h3.out]; refine J9 (s2) (t) (by first | omega | (simp; done) | (simp; omega)) W _ _ (.tmp 67) (.tmp 76) ?_ ?_ ?_ <;> kernel_rfl) ?_
      go_simp
      refine aH (S s4) (by kernel_rfl) (fun W _ => by rw [h4.out]; refine J9 (s3) ([10]) (by first | omega | (simp; done) | (simp; omega)) W _ _ (.tmp 77) (.const (S [10])) ?_ ?_ ?_ <;> kernel_rfl) ?_
      go_simp
      refine aH (S s5) (by kernel_rfl) (fun W _ => by rw [h5.out]; refine J9 (sk) (s4) (by first | omega | (simp; done) | (simp; omega)) W _ _ (.tmp 63) (.tmp 78) ?_ ?_ ?_ <;> kernel_rfl) ?_
      go_simp
      refine aH (S s5) (by kernel_rfl) (fun W _ => by kernel_rfl) ?_
      refine wpQuiet_nil ?_
      intro wa Ba
      have BB := upW.out wa Ba
      go_wp2_with fail
      go_roundg (gk - 1)
      case measure => omega
      case rel => exact ⟨k + 1, s5, rfl, by simp, by omega, BB, by show _ = _; rw [e5.out, hsk.out, hru.out]; simp⟩
    ·have t1 : decide ((k : Int) < (L.length : Int)) = false := by simp; omega
     have ek : k = L.length := by omega
     obtain ⟨ma, mn, mc, rfl⟩ := dI.form 8 _ _ q7
     have HM := aPf aN1.out 8 wr _ _ _ (hpW.out wr uM) (dI.bel q7 uM) aSa.out.1 aSa.out.2 (by have := fP.out; omega)
     have hml : (dA L 8 p.tK).length <= 100000000000 := by have := fP.out; omega
     have e9 : Hid (wC L fr p = sk ++ [111, 110, 32, 109, 105, 115, 115, 32] ++ dA L 8 p.tK ++ [10]) := by show _ = _; rw [hsk.out, ek]; rfl
     have aTg := gI sk
     have aVf := gI (dA L 8 p.tK)
     generalize dA L 8 p.tK = mt at *
     have hB9 : Hid (∀ W : World, Below wr.heap.size wr W -> Below w.heap.size w W) := fun W hW => uM.trans (hW.mono uM.size)
     clear hsk ek
     go_wp2_with (go_at_call 49; refine HM.mono ?_; rintro e w5 ⟨rfl, q⟩; have q' := hB9.out w5 q; clear q)
     go_ret
     refine ⟨congrArg (fun x => Ending.returned (Value.string x)) ?_, q'⟩
     apply ByteArray.ext
     rw [e9.out]
     simp [ByteArray.data_append]
end
end Go.Proofs.YtfddoieakfpagaaGreatDoor
