import Derived.Test.YtfddoieakfpagaaGreatDoorTXb
import Derived.Deep.DeepCutAuto
namespace Go.Proofs.YtfddoieakfpagaaGreatDoor
set_option maxHeartbeats 4000000
set_option maxRecDepth 20000
open Go.RowKit
theorem aFg (a b : List UInt8) : (⟨a.toArray⟩ : ByteArray) ++ ⟨b.toArray⟩ = ⟨(a ++ b).toArray⟩ := by
 apply ByteArray.ext
 simp
theorem gI (a : List UInt8) : (⟨a.toArray⟩ : ByteArray).size = a.length := by
 show a.toArray.size = _
 simp
def dgR (n : Nat) : UInt8 := UInt8.ofNat (48 + n)
def gJ (n : Nat) : List UInt8 := if _h : n < 10 then [dgR n] else gJ (n / 10) ++ [dgR (n % 10)]
theorem aUa (n : Nat) (hn : n <= 255) (W : World) (g : Nat) (hg : W.heap[g]? = some (.cells #[.int .u8 (n : Int)] 5)) : (convert 95 9 (.slice (some ⟨g, 0, none⟩) 1 1)).run Tryz.prog W = .ok (S [UInt8.ofNat n]) W := by
 refine run_convert_bytes_back (P := Tryz.prog) _ 95 9 5 ⟨g, 0, none⟩ 1 [UInt8.ofNat n] Tryz.underlying95 Tryz.underlying5 Tryz.underlying9 ?_
 intro j hj
 have : j = 0 := by simp at hj; omega
 subst this
 have e : (UInt8.ofNat n).toNat = n := by simp; omega
 simp [World.cell?, hg, Addr.add, e]
theorem aQz (n : Nat) (hn : n < 10) (W : World) (g : Nat) (hg : W.heap[g]? = some (.cells #[.int .u8 (48 + (n : Int))] 5)) : (convert 95 9 (.slice (some ⟨g, 0, none⟩) 1 1)).run Tryz.prog W = .ok (S [dgR n]) W := by
 have e48 : ((48 + n : Nat) : Int) = 48 + (n : Int) := by omega
 exact aUa (48 + n) (by omega) W g (by rw [e48]; exact hg)
theorem aSv (n : Nat) (hn : n < 10) (W : World) : (convert 95 9 (.slice (some ⟨W.heap.size, 0, none⟩) 1 1)).run Tryz.prog (W.alloc (.cells #[.int .u8 (48 + (n : Int))] 5)) = .ok (S [dgR n]) (W.alloc (.cells #[.int .u8 (48 + (n : Int))] 5)) := aQz n hn _ _ (aC rfl)
theorem aCx (n : Nat) : (gJ n).length <= n + 1 := by
 induction n using Nat.strongRecOn with
 | ind n ih =>
  unfold gJ
  split
  ·simp
  ·have := ih (n / 10) (by omega)
   simp
   omega
theorem aRm (n : Nat) (hn : n < 10) (w : World) :
  Calls Tryz.prog 48 #[.int .i64 n] w fun e w' => e = .returned (S [dgR n]) /\ Below w.heap.size w w' := by
 have h1 : decide ((n : Int) < 10) = true := by simp; omega
 have hc := fun W => aSv n hn W
 go_enter Tryz.func48, Tryz.ntmps48
 go_wp2_with fail
 go_ret
 exact ⟨rfl, (Below.refl _ _).alloc zR _⟩
theorem aP2 (n : Nat) (hn : n <= 100000) (h10 : ¬ n < 10) (w : World) (ih : ∀ w : World, Calls Tryz.prog 48 #[.int .i64 (n / 10 : Nat)] w fun e w' => e = .returned (S (gJ (n / 10))) /\ Below w.heap.size w w') :
  Calls Tryz.prog 48 #[.int .i64 n] w fun e w' => e = .returned (S (gJ (n / 10) ++ [dgR (n % 10)])) /\ Below w.heap.size w w' := by
 have h1 : decide ((n : Int) < 10) = false := by simp; omega
 have hq : (n : Int).tdiv 10 = ((n / 10 : Nat) : Int) := by rw [Int.tdiv_eq_ediv_of_nonneg (by omega)]; omega
 have hr : (n : Int).tmod 10 = ((n % 10 : Nat) : Int) := by rw [Int.tmod_eq_emod_of_nonneg (by omega)]; omega
 have ha : n / 10 <= 10000 := by omega
 have hlt : n % 10 < 10 := by omega
 generalize hla : gJ (n / 10) = la at *
 have hll : la.length <= 100001 := by rw [<- hla]; have := aCx (n / 10); omega
 clear hla
 generalize n / 10 = a at *
 generalize n % 10 = b at *
 have hw1 : IntKind.i64.wrap (a : Int) = a := by rw [IntKind.wrap_i64]; omega
 have hw2 : IntKind.i64.wrap (48 + (b : Int)) = 48 + (b : Int) := by rw [IntKind.wrap_i64]; omega
 have hw3 : IntKind.u8.wrap (48 + (b : Int)) = 48 + (b : Int) := by rw [IntKind.wrap_u8]; omega
 have hc := fun W => aSv b hlt W
 have hcd := aQz b hlt (w.alloc (.cells #[.int .u8 (48 + (b : Int))] 5)).drew w.heap.size (aC rfl)
 have hB : ∀ {W w2 : World}, Below w.heap.size w W -> Below W.heap.size W w2 -> w.heap.size < W.heap.size -> W.heap[w.heap.size]? = some (.cells #[.int .u8 (48 + (b : Int))] 5) -> Below w.heap.size w w2 /\ (convert 95 9 (.slice (some ⟨w.heap.size, 0, none⟩) 1 1)).run Tryz.prog w2 = .ok (S [dgR b]) w2 := fun {W w2} h1 h2 h3 h4 => ⟨h1.trans (h2.mono h1.size), aQz b hlt w2 w.heap.size ((h2.block _ h3).trans h4)⟩
 have HF1 := ih w.drew
 have HF2 : Calls Tryz.prog 48 #[.int .i64 a] (w.drew.alloc (.cells #[.int .u8 (48 + (b : Int))] 5)) fun e w2 => e = .returned (S la) /\ Below w.heap.size w w2 /\ (convert 95 9 (.slice (some ⟨w.heap.size, 0, none⟩) 1 1)).run Tryz.prog w2 = .ok (S [dgR b]) w2 := (ih _).mono fun e w2 ⟨h1, h2⟩ => ⟨h1, hB (((Below.refl _ w).drew).alloc zR _) h2 (by simp) (aC rfl)⟩
 have HF3 : Calls Tryz.prog 48 #[.int .i64 a] (w.alloc (.cells #[.int .u8 (48 + (b : Int))] 5)).drew fun e w2 => e = .returned (S la) /\ Below w.heap.size w w2 /\ (convert 95 9 (.slice (some ⟨w.heap.size, 0, none⟩) 1 1)).run Tryz.prog w2 = .ok (S [dgR b]) w2 := (ih _).mono fun e w2 ⟨h1, h2⟩ => ⟨h1, hB (((Below.refl _ w).alloc zR _).drew) h2 (by simp) (aC rfl)⟩
 have hap := aFg la [dgR b]
 clear hB ih
 go_enter Tryz.func48, Tryz.ntmps48
 go_wp2_with fail
 go_region_with (go_at_call 48; first | (refine HF1.mono ?_; rintro e w2 ⟨rfl, B2⟩; have B3 : Below w.heap.size w w2 := ⟨B2.os, B2.tape, B2.output, B2.size, B2.block⟩) | (refine HF2.mono ?_; rintro e w2 ⟨rfl, B3, hcv⟩) | (refine HF3.mono ?_; rintro e w2 ⟨rfl, B3, hcv⟩))
 all_goals
  go_wp2_with fail
  go_ret
  refine ⟨?_, by first | exact B3 | exact B3.alloc B3.size _⟩
  first
   | rw [hap]
   | rfl
theorem aNa (n : Nat) (hn : n <= 100000) (w : World) : Calls Tryz.prog 48 #[.int .i64 n] w fun e w' => e = .returned (S (gJ n)) /\ Below w.heap.size w w' := by
 induction n using Nat.strongRecOn generalizing w with
 | ind n ih =>
  unfold gJ
  split
  ·rename_i h
   exact aRm n h w
  ·rename_i h
   exact aP2 n hn h w (fun w => ih (n / 10) (by omega) (by omega) w)
def jJ (L : List DL) (k : Nat) : List UInt8 := (L.getD k ([], [], 0)).2.1
def mY (L : List DL) (v : List UInt8 × Nat) : List UInt8 := if v.1 = [110, 117, 109] then gJ v.2 else if v.1 = [102, 114, 101, 113] then [102, 114, 101, 113] else if v.1 = [108, 101, 110] then [108, 101, 110, 32] ++ jJ L v.2 else jJ L v.2
section
variable {w : World} {pb fr : Nat} {L : List DL}
theorem aI2 (n : Nat) (hn : n <= 100000) : Calls Tryz.prog 148 #[ptr pb, .agg #[S [110, 117, 109], .int .i64 n]] w fun e w' => e = .returned (S (gJ n)) /\ Below w.heap.size w w' := by
 have B : Below w.heap.size w (w.alloc (.cells #[S [110, 117, 109], .int .i64 n] 156)) := (Below.refl _ w).alloc zR _
 have b1 : (w.alloc (.cells #[S [110, 117, 109], .int .i64 n] 156)).heap[w.heap.size]? = some (.cells #[S [110, 117, 109], .int .i64 n] 156) := aC rfl
 obtain ⟨c1, cf1⟩ := aA b1
 have HD := aNa n hn (w.alloc (.cells #[S [110, 117, 109], .int .i64 n] 156))
 have hB : Hid (∀ w2 : World, Below (w.alloc (.cells #[S [110, 117, 109], .int .i64 n] 156)).heap.size (w.alloc (.cells #[S [110, 117, 109], .int .i64 n] 156)) w2 -> Below w.heap.size w w2) := fun w2 q => B.trans (q.mono B.size)
 go_enter Tryz.func148, Tryz.ntmps148
 go_wp2_with (go_at_call 48; refine HD.mono ?_; rintro r w2 ⟨rfl, q1⟩; have q2 := hB.out w2 q1; clear q1)
 go_ret
 exact ⟨rfl, q2⟩
theorem aI4 (n : Nat) : Calls Tryz.prog 148 #[ptr pb, .agg #[S [102, 114, 101, 113], .int .i64 n]] w fun e w' => e = .returned (S [102, 114, 101, 113]) /\ Below w.heap.size w w' := by
 have B : Below w.heap.size w (w.alloc (.cells #[S [102, 114, 101, 113], .int .i64 n] 156)) := (Below.refl _ w).alloc zR _
 have b1 : (w.alloc (.cells #[S [102, 114, 101, 113], .int .i64 n] 156)).heap[w.heap.size]? = some (.cells #[S [102, 114, 101, 113], .int .i64 n] 156) := aC rfl
 obtain ⟨c1, cf1⟩ := aA b1
 go_enter Tryz.func148, Tryz.ntmps148
 go_wp2_with fail
 go_ret
 exact ⟨rfl, B⟩
theorem aI3 (hp : Pw w pb L fr) (n : Nat) (hn : n < L.length) (hnm : (jJ L n).length <= 1000) : Calls Tryz.prog 148 #[ptr pb, .agg #[S [108, 101, 110], .int .i64 n]] w fun e w' => e = .returned (S ([108, 101, 110, 32] ++ jJ L n)) /\ Below w.heap.size w w' := by
 have hd : L[n]? = some L[n] := List.getElem?_eq_getElem hn
 have e1 : jJ L n = L[n].2.1 := by unfold jJ; rw [List.getD_eq_getElem?_getD, hd]; rfl
 rw [e1] at hnm ⊢
 obtain ⟨g, c, x2, x3, x4, x5, h1, ⟨p0, p1, p2⟩, lg, ix⟩ := hp.at hd
 generalize L[n] = d at *
 have B : Below w.heap.size w (w.alloc (.cells #[S [108, 101, 110], .int .i64 n] 156)) := (Below.refl _ w).alloc zR _
 have b1 : (w.alloc (.cells #[S [108, 101, 110], .int .i64 n] 156)).heap[w.heap.size]? = some (.cells #[S [108, 101, 110], .int .i64 n] 156) := aC rfl
 obtain ⟨c1, cf1⟩ := aA b1
 obtain ⟨c2, tC⟩ := aA ((B.block pb (zL h1)).trans h1)
 have p11 := (B.cell (p := ⟨g, n * 3 + 1, none⟩) lg).trans p1
 have hap := aFg [108, 101, 110, 32] d.2.1
 have hsz := gI d.2.1
 go_enter Tryz.func148, Tryz.ntmps148
 go_upto_region 7 with fail
 go_region
 all_goals
  go_wp2_with fail
  go_ret
  exact ⟨by first | rw [hap] | rfl, B.drew⟩
theorem aI1 (hp : Pw w pb L fr) (n : Nat) (hn : n < L.length) : Calls Tryz.prog 148 #[ptr pb, .agg #[S [118, 97, 114], .int .i64 n]] w fun e w' => e = .returned (S (jJ L n)) /\ Below w.heap.size w w' := by
 have hd : L[n]? = some L[n] := List.getElem?_eq_getElem hn
 have e1 : jJ L n = L[n].2.1 := by unfold jJ; rw [List.getD_eq_getElem?_getD, hd]; rfl
 rw [e1]
 obtain ⟨g, c, x2, x3, x4, x5, h1, ⟨p0, p1, p2⟩, lg, ix⟩ := hp.at hd
 generalize L[n] = d at *
 have B : Below w.heap.size w (w.alloc (.cells #[S [118, 97, 114], .int .i64 n] 156)) := (Below.refl _ w).alloc zR _
 have b1 : (w.alloc (.cells #[S [118, 97, 114], .int .i64 n] 156)).heap[w.heap.size]? = some (.cells #[S [118, 97, 114], .int .i64 n] 156) := aC rfl
 obtain ⟨c1, cf1⟩ := aA b1
 obtain ⟨c2, tC⟩ := aA ((B.block pb (zL h1)).trans h1)
 have p11 := (B.cell (p := ⟨g, n * 3 + 1, none⟩) lg).trans p1
 go_enter Tryz.func148, Tryz.ntmps148
 go_upto_region 8 with fail
 go_region
 all_goals
  go_wp2_with fail
  go_ret
  exact ⟨rfl, B.drew⟩
def nuV (v : List UInt8 × Nat) : Prop := v.1 = [110, 117, 109] -> v.2 <= 100000
theorem aS2 (hp : Pw w pb L fr) (hnm : ∀ k, (jJ L k).length <= 1000) (v : List UInt8 × Nat) (hv : okV L v) (hn : nuV v) : Calls Tryz.prog 148 #[ptr pb, .agg #[S v.1, .int .i64 v.2]] w fun e w' => e = .returned (S (mY L v)) /\ Below w.heap.size w w' := by
 obtain ⟨op, n⟩ := v
 unfold mY
 rcases hv with e | ⟨e, h⟩ | ⟨e, h⟩ | e
 ·simp only at e
  subst e
  exact aI2 n (hn rfl)
 ·simp only at e h
  subst e
  exact aI3 hp n h (hnm n)
 ·simp only at e h
  subst e
  exact aI1 hp n h
 ·simp only at e
  subst e
  exact aI4 n
end
def oI (n : Nat) : List UInt8 := if n % 2 = 1 then [110, 111, 116, 32] else []
def kG (L : List DL) (c : Rc) : List UInt8 := if c.op = [60] then oI c.bH ++ mY L c.a ++ [32, 60, 32] ++ mY L c.b else oI c.bH ++ c.op ++ [32] ++ jJ L c.n
theorem sS (n : Nat) (h : n <= 100000) : (gJ n).length <= 100001 := by have := aCx n; omega
theorem uQ {L : List DL} (hnm : ∀ k, (jJ L k).length <= 1000) (v : List UInt8 × Nat) (hn : nuV v) : (mY L v).length <= 200000 := by
 unfold mY
 split
 ·rename_i e; have := sS v.2 (hn e); omega
 split
 ·decide
 split
 ·have := hnm v.2; simp; omega
 ·have := hnm v.2; omega
theorem uV (n : Nat) : (oI n).length <= 4 := by
 unfold oI
 split <;> simp
theorem aOo (a b : List UInt8) (h : a.length + b.length <= 1000000000000) (W : World) : (binOp .add 9 (S a) (S b)).run Tryz.prog W = .ok (S (a ++ b)) W := by
 have h1 := run_string_add_sum (P := Tryz.prog) (w := W) ⟨a.toArray⟩ ⟨b.toArray⟩ (by rw [gI, gI]; omega)
 rw [binOp_string_add, h1, aFg]
def nuC (c : Rc) : Prop := c.op = [60] -> nuV c.a /\ nuV c.b
section
variable {w : World} {pb fr : Nat} {L : List DL}
theorem aL0 (hp : Pw w pb L fr) (hnm : ∀ k, (jJ L k).length <= 1000) (n bH : Nat) (a b : List UInt8 × Nat) (ha : okV L a) (hb : okV L b) (na : nuV a) (nb : nuV b) : Calls Tryz.prog 115 #[ptr pb, .agg #[S [60], .int .i64 n, S a.1, .int .i64 a.2, S b.1, .int .i64 b.2, .int .i64 bH]] w fun e w' => e = .returned (S (oI bH ++ mY L a ++ [32, 60, 32] ++ mY L b)) /\ Below w.heap.size w w' := by
 have B0 : Below w.heap.size w (w.alloc (.cells #[S [60], .int .i64 n, S a.1, .int .i64 a.2, S b.1, .int .i64 b.2, .int .i64 bH] 158)) := (Below.refl _ w).alloc zR _
 have b1 : (w.alloc (.cells #[S [60], .int .i64 n, S a.1, .int .i64 a.2, S b.1, .int .i64 b.2, .int .i64 bH] 158)).heap[w.heap.size]? = some (.cells #[S [60], .int .i64 n, S a.1, .int .i64 a.2, S b.1, .int .i64 b.2, .int .i64 bH] 158) := aC rfl
 obtain ⟨c1, cf1⟩ := aA b1
 have hm : (bH : Int).tmod 2 = ((bH % 2 : Nat) : Int) := by rw [Int.tmod_eq_emod_of_nonneg (by omega)]; omega
 have hzz : (w.alloc (.cells #[S [60], .int .i64 n, S a.1, .int .i64 a.2, S b.1, .int .i64 b.2, .int .i64 bH] 158)).heap.size = w.heap.size + 1 := by simp
 have hN := uV bH
 have la := uQ hnm a na
 have lb := uQ hnm b nb
 have HC : Hid (∀ (v : List UInt8 × Nat), okV L v -> nuV v -> ∀ W : World, Below (w.heap.size + 1) (w.alloc (.cells #[S [60], .int .i64 n, S a.1, .int .i64 a.2, S b.1, .int .i64 b.2, .int .i64 bH] 158)) W -> Calls Tryz.prog 148 #[ptr pb, .agg #[S v.1, .int .i64 v.2]] W fun e w' => e = .returned (S (mY L v)) /\ Below (w.heap.size + 1) (w.alloc (.cells #[S [60], .int .i64 n, S a.1, .int .i64 a.2, S b.1, .int .i64 b.2, .int .i64 bH] 158)) w') := fun v hv hn W hW => (aS2 (hp.below (B0.trans (hW.mono (by omega)))) hnm v hv hn).mono fun e w' q => ⟨q.1, hW.trans (q.2.mono (by have := hW.size; omega))⟩
 have hld : Hid (∀ W : World, Below (w.heap.size + 1) (w.alloc (.cells #[S [60], .int .i64 n, S a.1, .int .i64 a.2, S b.1, .int .i64 b.2, .int .i64 bH] 158)) W -> ∀ (k : Nat) (x : List UInt8 × Nat), (#[S [60], .int .i64 n, S a.1, .int .i64 a.2, S b.1, .int .i64 b.2, .int .i64 bH] : Array Value)[k]? = some (S x.1) -> (#[S [60], .int .i64 n, S a.1, .int .i64 a.2, S b.1, .int .i64 b.2, .int .i64 bH] : Array Value)[k + 1]? = some (.int .i64 x.2) -> ∀ (ev : Operand -> Value) (o : Oper) (t : Nat), o.op = .load 156 (.tmp t) -> ev (.tmp t) = .pointer (some ⟨w.heap.size, k, none⟩) -> (execOp ev o).run Tryz.prog W = .ok (.value (.agg #[S x.1, .int .i64 x.2])) W) := fun W hW k x h1 h2 ev o t h3 h4 => by
  have cW := fun o => (hW.cell (p := ⟨w.heap.size, o, none⟩) (Nat.lt_succ_self _)).trans ((aA b1).1 o)
  have c0 := (cW k).trans h1
  have c1 := (cW (k + 1)).trans h2
  clear cW
  unfold execOp
  rw [h3]
  simp only [h4]
  go_simp
 have hadd : Hid (∀ (x y : List UInt8), x.length + y.length <= 1000000000000 -> ∀ (W : World) (ev : Operand -> Value) (o : Oper) (p q : Operand), o.op = .binOp .add 9 p q 9 -> ev p = S x -> ev q = S y -> (execOp ev o).run Tryz.prog W = .ok (.value (S (x ++ y))) W) := fun x y h W ev o p q h1 h2 h3 => by
  have := aOo x y h W
  unfold execOp
  rw [h1]
  have hg : (eqGuard .add 9 p q (S x) (S y)).run Tryz.prog W = .ok () W := rfl
  simp only [h2, h3, Sem.run_bind, hg, this, Result.andThen]
  rfl
 obtain ⟨s1, h1⟩ : ∃ t, Hid (t = oI bH ++ mY L a) := ⟨oI bH ++ mY L a, rfl⟩
 obtain ⟨s2, h2⟩ : ∃ t, Hid (t = s1 ++ [32, 60, 32]) := ⟨s1 ++ [32, 60, 32], rfl⟩
 obtain ⟨s3, h3⟩ : ∃ t, Hid (t = s2 ++ mY L b) := ⟨s2 ++ mY L b, rfl⟩
 have e3 : Hid (s3 = oI bH ++ mY L a ++ [32, 60, 32] ++ mY L b) := by show _ = _; rw [h3.out, h2.out, h1.out]
 have l1 : s1.length <= 200010 := by rw [h1.out]; simp; omega
 have l2 : s2.length <= 200020 := by rw [h2.out]; simp; omega
 generalize hnt : oI bH = nt at *
 have HNT : Hid (oI bH = nt) := hnt
 clear hnt
 go_enter Tryz.func115, Tryz.ntmps115
 go_upto_if 9 with fail
 go_cut [5] (fun v wx => v = S nt /\ wx = w.alloc (.cells #[S [60], .int .i64 n, S a.1, .int .i64 a.2, S b.1, .int .i64 b.2, .int .i64 bH] 158))
 case first =>
  have hk : bH % 2 = 0 \/ bH % 2 = 1 := by omega
  rcases hk with hm2 | hm2
  all_goals
   go_wp2_with fail
   go_meet
   exact ⟨by rw [<- HNT.out]; unfold oI; rw [hm2]; rfl, rfl⟩
 case rest =>
 obtain ⟨rfl, rfl⟩ := hcut
 go_upto_region 5 with fail
 refine wp_region_quiet (C := Below (w.heap.size + 1) (w.alloc (.cells #[S [60], .int .i64 n, S a.1, .int .i64 a.2, S b.1, .int .i64 b.2, .int .i64 bH] 158))) (by kernel_rfl) (by kernel_rfl) ((Below.refl _ _).drew) ?_
 refine aH (S nt) (by kernel_rfl) (fun W _ => by kernel_rfl) ?_
 go_simp
 refine aH (ptr pb) (by kernel_rfl) (fun W _ => by kernel_rfl) ?_
 go_simp
 refine aH (.pointer (some ⟨w.heap.size, 2, none⟩)) (by kernel_rfl) (fun W _ => by kernel_rfl) ?_
 go_simp
 refine aH (.agg #[S a.1, .int .i64 a.2]) (by kernel_rfl) (fun W hW => by refine hld.out W hW 2 a rfl rfl _ _ 15 ?_ ?_ <;> kernel_rfl) ?_
 go_simp
 refine fU (S (mY L a)) 148 #[ptr pb, .agg #[S a.1, .int .i64 a.2]] (by kernel_rfl) (fun W => by kernel_rfl) (fun W hW => HC.out a ha na W hW) ?_
 go_simp
 refine aH (S s1) (by kernel_rfl) (fun W _ => by rw [h1.out]; refine hadd.out (nt) (mY L a) (by first | omega | (simp; omega)) W _ _ (.tmp 13) (.tmp 17) ?_ ?_ ?_ <;> kernel_rfl) ?_
 go_simp
 refine aH (S s2) (by kernel_rfl) (fun W _ => by rw [h2.out]; refine hadd.out (s1) ([32, 60, 32]) (by first | omega | (simp; omega)) W _ _ (.tmp 18) (.const (S [32, 60, 32])) ?_ ?_ ?_ <;> kernel_rfl) ?_
 go_simp
 refine aH (ptr pb) (by kernel_rfl) (fun W _ => by kernel_rfl) ?_
 go_simp
 refine aH (.pointer (some ⟨w.heap.size, 4, none⟩)) (by kernel_rfl) (fun W _ => by kernel_rfl) ?_
 go_simp
 refine aH (.agg #[S b.1, .int .i64 b.2]) (by kernel_rfl) (fun W hW => by refine hld.out W hW 4 b rfl rfl _ _ 21 ?_ ?_ <;> kernel_rfl) ?_
 go_simp
 refine fU (S (mY L b)) 148 #[ptr pb, .agg #[S b.1, .int .i64 b.2]] (by kernel_rfl) (fun W => by kernel_rfl) (fun W hW => HC.out b hb nb W hW) ?_
 go_simp
 refine aH (S s3) (by kernel_rfl) (fun W _ => by rw [h3.out]; refine hadd.out (s2) (mY L b) (by first | omega | (simp; omega)) W _ _ (.tmp 19) (.tmp 23) ?_ ?_ ?_ <;> kernel_rfl) ?_
 go_simp
 refine aH (S s3) (by kernel_rfl) (fun W _ => by kernel_rfl) ?_
 refine wpQuiet_nil ?_
 intro wa Ba
 have BB := B0.trans (Ba.mono (by omega))
 go_wp2_with fail
 go_ret
 exact ⟨congrArg (fun t => Ending.returned (S t)) e3.out, BB⟩
theorem Y5 (hp : Pw w pb L fr) (hnm : ∀ k, (jJ L k).length <= 1000) (op : List UInt8) (ho : (op == [60]) = false) (hol : op.length <= 10) (n bH : Nat) (hn : n < L.length) (a b : List UInt8 × Nat) : Calls Tryz.prog 115 #[ptr pb, .agg #[S op, .int .i64 n, S a.1, .int .i64 a.2, S b.1, .int .i64 b.2, .int .i64 bH]] w fun e w' => e = .returned (S (oI bH ++ op ++ [32] ++ jJ L n)) /\ Below w.heap.size w w' := by
 have hd : L[n]? = some L[n] := List.getElem?_eq_getElem hn
 have e1 : jJ L n = L[n].2.1 := by unfold jJ; rw [List.getD_eq_getElem?_getD, hd]; rfl
 have hnn := hnm n
 rw [e1] at hnn ⊢
 obtain ⟨g, c, x2, x3, x4, x5, h1, ⟨p0, p1, p2⟩, lg, ix⟩ := hp.at hd
 generalize L[n] = d at *
 have B0 : Below w.heap.size w (w.alloc (.cells #[S op, .int .i64 n, S a.1, .int .i64 a.2, S b.1, .int .i64 b.2, .int .i64 bH] 158)) := (Below.refl _ w).alloc zR _
 have b1 : (w.alloc (.cells #[S op, .int .i64 n, S a.1, .int .i64 a.2, S b.1, .int .i64 b.2, .int .i64 bH] 158)).heap[w.heap.size]? = some (.cells #[S op, .int .i64 n, S a.1, .int .i64 a.2, S b.1, .int .i64 b.2, .int .i64 bH] 158) := aC rfl
 obtain ⟨c1, cf1⟩ := aA b1
 have hm : (bH : Int).tmod 2 = ((bH % 2 : Nat) : Int) := by rw [Int.tmod_eq_emod_of_nonneg (by omega)]; omega
 have hzz : (w.alloc (.cells #[S op, .int .i64 n, S a.1, .int .i64 a.2, S b.1, .int .i64 b.2, .int .i64 bH] 158)).heap.size = w.heap.size + 1 := by simp
 obtain ⟨c2, tC⟩ := aA ((B0.block pb (zL h1)).trans h1)
 have p11 := (B0.cell (p := ⟨g, n * 3 + 1, none⟩) lg).trans p1
 have hN := uV bH
 have hsn := gI (oI bH)
 have hso := gI op
 have hsz := gI d.2.1
 generalize hnt : oI bH = nt at *
 have HNT : Hid (oI bH = nt) := hnt
 clear hnt
 go_enter Tryz.func115, Tryz.ntmps115
 go_upto_if 9 with fail
 go_cut [5] (fun v wx => v = S nt /\ wx = w.alloc (.cells #[S op, .int .i64 n, S a.1, .int .i64 a.2, S b.1, .int .i64 b.2, .int .i64 bH] 158))
 case first =>
  have hk : bH % 2 = 0 \/ bH % 2 = 1 := by omega
  rcases hk with hm2 | hm2
  all_goals
   go_wp2_with fail
   go_meet
   exact ⟨by rw [<- HNT.out]; unfold oI; rw [hm2]; rfl, rfl⟩
 case rest =>
 obtain ⟨rfl, rfl⟩ := hcut
 go_upto_region 6 with fail
 go_region
 all_goals
  go_wp2_with fail
  go_ret
  exact ⟨congrArg (fun x => Ending.returned (Value.string x)) (by apply ByteArray.ext; simp [ByteArray.data_append]), B0.drew⟩
theorem aQ9 (hp : Pw w pb L fr) (hnm : ∀ k, (jJ L k).length <= 1000) (c : Rc) (hc : okC L c) (hn : nuC c) : Calls Tryz.prog 115 #[ptr pb, .agg (O6 c)] w fun e w' => e = .returned (S (kG L c)) /\ Below w.heap.size w w' := by
 obtain ⟨op, n, a, b, bH⟩ := c
 unfold okC at hc
 unfold kG
 simp only at hc ⊢
 rcases hc with ⟨rfl, h⟩ | ⟨rfl, h⟩ | ⟨rfl, h⟩ | ⟨rfl, ha, hb⟩
 ·rw [if_neg (by decide)]; exact Y5 hp hnm _ rfl (by simp) n bH h a b
 ·rw [if_neg (by decide)]; exact Y5 hp hnm _ rfl (by simp) n bH h a b
 ·rw [if_neg (by decide)]; exact Y5 hp hnm _ rfl (by simp) n bH h a b
 ·rw [if_pos rfl]; exact aL0 hp hnm n bH a b ha hb (hn rfl).1 (hn rfl).2
theorem aC4 (hnm : ∀ k, (jJ L k).length <= 1000) (c : Rc) (hn : nuC c) (ho : okC L c) : (kG L c).length <= 500000 := by
 unfold kG
 have h0 := uV c.bH
 split
 ·rename_i e
  have h1 := uQ hnm c.a (hn e).1
  have h2 := uQ hnm c.b (hn e).2
  simp
  omega
 ·have h1 := hnm c.n
  have h2 : c.op.length <= 10 := by
   unfold okC at ho
   rcases ho with ⟨e, _⟩ | ⟨e, _⟩ | ⟨e, _⟩ | ⟨e, _⟩ <;> rw [e] <;> decide
  simp
  omega
end
end Go.Proofs.YtfddoieakfpagaaGreatDoor
