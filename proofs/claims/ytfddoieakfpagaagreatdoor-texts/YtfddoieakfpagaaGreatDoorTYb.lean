import Derived.Test.YtfddoieakfpagaaGreatDoorTYa
namespace Go.Proofs.YtfddoieakfpagaaGreatDoor
set_option maxHeartbeats 4000000
set_option maxRecDepth 20000
open Go.RowKit
section
variable {w : World} {pb fr : Nat} {L : List DL}
theorem aHc (n m : Nat) (tail : Bool) (bU : Rc) (other : Bool) (y z : Value) : Calls Tryz.prog 80 #[ptr pb, .agg (mJ ⟨[100, 114, 111, 112], n, m, tail, bU, other⟩ y z)] w fun e w' => e = .returned (S ([100, 114, 111, 112] ++ [59])) /\ Below w.heap.size w w' := by
 have B0 : Below w.heap.size w (w.alloc (.cells (mJ ⟨[100, 114, 111, 112], n, m, tail, bU, other⟩ y z) 160)) := (Below.refl _ w).alloc zR _
 have b1 : (w.alloc (.cells (mJ ⟨[100, 114, 111, 112], n, m, tail, bU, other⟩ y z) 160)).heap[w.heap.size]? = some (.cells (mJ ⟨[100, 114, 111, 112], n, m, tail, bU, other⟩ y z) 160) := aC rfl
 obtain ⟨c1, cf1⟩ := aA b1
 go_enter Tryz.func80, Tryz.ntmps80
 go_wp2_with fail
 go_ret
 exact ⟨rfl, B0⟩
theorem aHd (n m : Nat) (tail : Bool) (bU : Rc) (other : Bool) (y z : Value) : Calls Tryz.prog 80 #[ptr pb, .agg (mJ ⟨[98, 117, 109, 112], n, m, tail, bU, other⟩ y z)] w fun e w' => e = .returned (S ([98, 117, 109, 112] ++ [59])) /\ Below w.heap.size w w' := by
 have B0 : Below w.heap.size w (w.alloc (.cells (mJ ⟨[98, 117, 109, 112], n, m, tail, bU, other⟩ y z) 160)) := (Below.refl _ w).alloc zR _
 have b1 : (w.alloc (.cells (mJ ⟨[98, 117, 109, 112], n, m, tail, bU, other⟩ y z) 160)).heap[w.heap.size]? = some (.cells (mJ ⟨[98, 117, 109, 112], n, m, tail, bU, other⟩ y z) 160) := aC rfl
 obtain ⟨c1, cf1⟩ := aA b1
 go_enter Tryz.func80, Tryz.ntmps80
 go_wp2_with fail
 go_ret
 exact ⟨rfl, B0⟩
theorem uN (hp : Pw w pb L fr) (hnm : ∀ k, (jJ L k).length <= 1000) (op : List UInt8) (hol : op.length <= 10) (o1 : (op == [105, 102]) = false) (o2 : (op == [114, 101, 112, 101, 97, 116]) = false) (o3 : (op == [100, 114, 111, 112]) = false) (o4 : (op == [98, 117, 109, 112]) = false) (o5 : (op == [115, 104, 105, 102, 116]) = false) (n m : Nat) (hn : n < L.length) (tail : Bool) (bU : Rc) (other : Bool) (y z : Value) : Calls Tryz.prog 80 #[ptr pb, .agg (mJ ⟨op, n, m, tail, bU, other⟩ y z)] w fun e w' => e = .returned (S (op ++ ([32] ++ jJ L n) ++ (if tail = true then [32, 116, 97, 105, 108] else []) ++ [59])) /\ Below w.heap.size w w' := by
 have hd : L[n]? = some L[n] := List.getElem?_eq_getElem hn
 have e1 : jJ L n = L[n].2.1 := by unfold jJ; rw [List.getD_eq_getElem?_getD, hd]; rfl
 have hnn := hnm n
 rw [e1] at hnn
 obtain ⟨g, c, x2, x3, x4, x5, h1, ⟨p0, p1, p2⟩, lg, ix⟩ := hp.at hd
 rw [e1]
 generalize L[n] = d at *
 have B0 : Below w.heap.size w (w.alloc (.cells (mJ ⟨op, n, m, tail, bU, other⟩ y z) 160)) := (Below.refl _ w).alloc zR _
 have b1 : (w.alloc (.cells (mJ ⟨op, n, m, tail, bU, other⟩ y z) 160)).heap[w.heap.size]? = some (.cells (mJ ⟨op, n, m, tail, bU, other⟩ y z) 160) := aC rfl
 obtain ⟨c1, cf1⟩ := aA b1
 obtain ⟨c2, tC⟩ := aA ((B0.block pb (zL h1)).trans h1)
 have p11 := (B0.cell (p := ⟨g, n * 3 + 1, none⟩) lg).trans p1
 have hsz := gI d.2.1
 have hso := gI op
 have BD : Below w.heap.size w (w.alloc (.cells (mJ ⟨op, n, m, tail, bU, other⟩ y z) 160)).drew := B0.drew
 have BDD : Below w.heap.size w (w.alloc (.cells (mJ ⟨op, n, m, tail, bU, other⟩ y z) 160)).drew.drew := B0.drew.drew
 cases tail
 all_goals
  go_enter Tryz.func80, Tryz.ntmps80
  go_upto_region 13 with fail
  go_region
  all_goals go_wp2_with fail
  all_goals go_ret
  all_goals refine ⟨?_, by first | exact BD | exact BDD⟩
  all_goals refine congrArg (fun x => Ending.returned (Value.string x)) ?_
  all_goals
   apply ByteArray.ext
   simp [ByteArray.data_append]
theorem aDm (hp : Pw w pb L fr) (hnm : ∀ k, (jJ L k).length <= 1000) (n m : Nat) (hn : n < L.length) (hm : m < L.length) (tail : Bool) (bU : Rc) (other : Bool) (y z : Value) : Calls Tryz.prog 80 #[ptr pb, .agg (mJ ⟨[115, 104, 105, 102, 116], n, m, tail, bU, other⟩ y z)] w fun e w' => e = .returned (S ([115, 104, 105, 102, 116] ++ ([32] ++ jJ L n) ++ ([32] ++ jJ L m) ++ (if tail = true then [32, 116, 97, 105, 108] else []) ++ [59])) /\ Below w.heap.size w w' := by
 have hd : L[n]? = some L[n] := List.getElem?_eq_getElem hn
 have e1 : jJ L n = L[n].2.1 := by unfold jJ; rw [List.getD_eq_getElem?_getD, hd]; rfl
 have hnn := hnm n
 rw [e1] at hnn
 obtain ⟨g, c, x2, x3, x4, x5, h1, ⟨p0, p1, p2⟩, lg, ix⟩ := hp.at hd
 have hd2 : L[m]? = some L[m] := List.getElem?_eq_getElem hm
 have e2 : jJ L m = L[m].2.1 := by unfold jJ; rw [List.getD_eq_getElem?_getD, hd2]; rfl
 have aTp := hnm m
 rw [e2] at aTp
 obtain ⟨g', c', x2', x3', x4', x5', h1', ⟨p0', p1', p2'⟩, lg', ix'⟩ := hp.at hd2
 rw [h1] at h1'
 simp at h1'
 obtain ⟨⟨rfl, rfl⟩, _⟩ := h1'
 rw [e1, e2]
 generalize L[m] = d2 at *
 generalize L[n] = d at *
 have B0 : Below w.heap.size w (w.alloc (.cells (mJ ⟨[115, 104, 105, 102, 116], n, m, tail, bU, other⟩ y z) 160)) := (Below.refl _ w).alloc zR _
 have b1 : (w.alloc (.cells (mJ ⟨[115, 104, 105, 102, 116], n, m, tail, bU, other⟩ y z) 160)).heap[w.heap.size]? = some (.cells (mJ ⟨[115, 104, 105, 102, 116], n, m, tail, bU, other⟩ y z) 160) := aC rfl
 obtain ⟨c1, cf1⟩ := aA b1
 obtain ⟨c2, tC⟩ := aA ((B0.block pb (zL h1)).trans h1)
 have p11 := (B0.cell (p := ⟨g, n * 3 + 1, none⟩) lg).trans p1
 have hsz := gI d.2.1
 have BD : Below w.heap.size w (w.alloc (.cells (mJ ⟨[115, 104, 105, 102, 116], n, m, tail, bU, other⟩ y z) 160)).drew := B0.drew
 have BDD : Below w.heap.size w (w.alloc (.cells (mJ ⟨[115, 104, 105, 102, 116], n, m, tail, bU, other⟩ y z) 160)).drew.drew := B0.drew.drew
 have p12 := (B0.cell (p := ⟨g, m * 3 + 1, none⟩) lg).trans p1'
 have hsz2 := gI d2.2.1
 cases tail
 all_goals
  go_enter Tryz.func80, Tryz.ntmps80
  go_upto_region 13 with fail
  go_region
  all_goals go_upto_region 15 with fail
  all_goals go_region
  all_goals go_wp2_with fail
  all_goals go_ret
  all_goals refine ⟨?_, by first | exact BD | exact BDD⟩
  all_goals refine congrArg (fun x => Ending.returned (Value.string x)) ?_
  all_goals
   apply ByteArray.ext
   simp [ByteArray.data_append]
end
section
variable {w : World} {pb fr : Nat} {L : List DL}
theorem aFi (hp : Pw w pb L fr) (hnm : ∀ k, (jJ L k).length <= 1000) (n m : Nat) (tail other : Bool) (bU : Rc) (hc : okC L bU) (hn : nuC bU) (y1 : Option Addr) (y2 y3 : Nat) (z1 : Option Addr) (z2 z3 : Nat) (t1 t2 : List UInt8) (H1 : ∀ W : World, Below w.heap.size w W -> Calls Tryz.prog 49 #[ptr pb, .slice y1 y2 y3] W fun e w' => e = .returned (S t1) /\ Below W.heap.size W w') (H2 : other = true -> ∀ W : World, Below w.heap.size w W -> Calls Tryz.prog 49 #[ptr pb, .slice z1 z2 z3] W fun e w' => e = .returned (S t2) /\ Below W.heap.size W w') (l1 : t1.length <= 100000000000) (l2 : other = true -> t2.length <= 100000000000) : Calls Tryz.prog 80 #[ptr pb, .agg (mJ ⟨[105, 102], n, m, tail, bU, other⟩ (.slice y1 y2 y3) (.slice z1 z2 z3))] w fun e w' => e = .returned (S ([105, 102] ++ ([32] ++ kG L bU ++ [32] ++ t1) ++ (if other = true then ([32, 101, 108, 115, 101, 32] ++ t2) else []))) /\ Below w.heap.size w w' := by
 obtain ⟨w1, hw1⟩ : ∃ w1, w1 = w.alloc (.cells (mJ ⟨[105, 102], n, m, tail, bU, other⟩ (.slice y1 y2 y3) (.slice z1 z2 z3)) 160) := ⟨_, rfl⟩
 have B0 : Below w.heap.size w w1 := hw1 ▸ (Below.refl _ w).alloc zR _
 have b1 : w1.heap[w.heap.size]? = some (.cells (mJ ⟨[105, 102], n, m, tail, bU, other⟩ (.slice y1 y2 y3) (.slice z1 z2 z3)) 160) := by rw [hw1]; exact aC rfl
 obtain ⟨c1, cf1⟩ := aA b1
 have hzz : w1.heap.size = w.heap.size + 1 := by rw [hw1]; simp
 have lc := aC4 hnm bU hn hc
 have up : ∀ {f : FuncId} {args : Array Value} {t : List UInt8}, (∀ W : World, Below w.heap.size w W -> Calls Tryz.prog f args W fun e w' => e = .returned (S t) /\ Below W.heap.size W w') -> ∀ W : World, Below (w.heap.size + 1) w1 W -> Calls Tryz.prog f args W fun e w' => e = .returned (S t) /\ Below (w.heap.size + 1) w1 w' := fun {f args t} H W hW => (H W (B0.trans (hW.mono (by omega)))).mono fun e w' q => ⟨q.1, hW.trans (q.2.mono (by have := hW.size; omega))⟩
 have HC : Hid (∀ W : World, Below (w.heap.size + 1) w1 W -> Calls Tryz.prog 115 #[ptr pb, .agg (O6 bU)] W fun e w' => e = .returned (S (kG L bU)) /\ Below (w.heap.size + 1) w1 w') := up (fun W hW => aQ9 (hp.below hW) hnm bU hc hn)
 have HK1 : Hid (∀ W : World, Below (w.heap.size + 1) w1 W -> Calls Tryz.prog 49 #[ptr pb, .slice y1 y2 y3] W fun e w' => e = .returned (S t1) /\ Below (w.heap.size + 1) w1 w') := up H1
 have hcW : Hid (∀ W : World, Below (w.heap.size + 1) w1 W -> ∀ o, W.cell? ⟨w.heap.size, o, none⟩ = (mJ ⟨[105, 102], n, m, tail, bU, other⟩ (.slice y1 y2 y3) (.slice z1 z2 z3))[o]?) := fun W hW o => (hW.cell (p := ⟨w.heap.size, o, none⟩) (Nat.lt_succ_self _)).trans ((aA b1).1 o)
 have hadd : Hid (∀ (x y : List UInt8), x.length + y.length <= 1000000000000 -> ∀ (W : World) (ev : Operand -> Value) (o : Oper) (p q : Operand), o.op = .binOp .add 9 p q 9 -> ev p = S x -> ev q = S y -> (execOp ev o).run Tryz.prog W = .ok (.value (S (x ++ y))) W) := fun x y h W ev o p q h1 h2 h3 => by
  have := aOo x y h W
  unfold execOp
  rw [h1]
  have hg : (eqGuard .add 9 p q (S x) (S y)).run Tryz.prog W = .ok () W := rfl
  simp only [h2, h3, Sem.run_bind, hg, this, Result.andThen]
  rfl
 have aQg : Hid (∀ W : World, Below (w.heap.size + 1) w1 W -> ∀ (ev : Operand -> Value) (o : Oper) (t : Nat), o.op = .load 158 (.tmp t) -> ev (.tmp t) = .pointer (some ⟨w.heap.size, 4, none⟩) -> (execOp ev o).run Tryz.prog W = .ok (.value (.agg (O6 bU))) W) := fun W hW ev o t h3 h4 => by
  have cW := hcW.out W hW
  unfold execOp
  rw [h3]
  simp only [h4]
  go_simp
 have aQf : Hid (∀ W : World, Below (w.heap.size + 1) w1 W -> ∀ (ev : Operand -> Value) (o : Oper) (t : Nat), o.op = .load 80 (.tmp t) -> ev (.tmp t) = .pointer (some ⟨w.heap.size, 11, none⟩) -> (execOp ev o).run Tryz.prog W = .ok (.value (.slice y1 y2 y3)) W) := fun W hW ev o t h3 h4 => by
  have cW := hcW.out W hW
  unfold execOp
  rw [h3]
  simp only [h4]
  go_simp
 obtain ⟨s1, h1⟩ : ∃ t : List UInt8, Hid (t = [32] ++ kG L bU) := ⟨[32] ++ kG L bU, rfl⟩
 obtain ⟨s2, h2⟩ : ∃ t : List UInt8, Hid (t = s1 ++ [32]) := ⟨s1 ++ [32], rfl⟩
 obtain ⟨s3, h3⟩ : ∃ t : List UInt8, Hid (t = s2 ++ t1) := ⟨s2 ++ t1, rfl⟩
 obtain ⟨s4, h4⟩ : ∃ t : List UInt8, Hid (t = [105, 102] ++ s3) := ⟨[105, 102] ++ s3, rfl⟩
 have e4 : Hid (s4 = [105, 102] ++ ([32] ++ kG L bU ++ [32] ++ t1)) := by show _ = _; rw [h4.out, h3.out, h2.out, h1.out]
 have k1 : s1.length <= 500010 := by rw [h1.out]; simp; omega
 have k2 : s2.length <= 500020 := by rw [h2.out]; simp; omega
 have k3 : s3.length <= 200000000000 := by rw [h3.out]; simp; omega
 have k4 : s4.length <= 300000000000 := by rw [h4.out]; simp; omega
 subst hw1
 go_enter Tryz.func80, Tryz.ntmps80
 go_upto_region 4 with fail
 refine wp_region_quiet (C := Below (w.heap.size + 1) (w.alloc (.cells (mJ ⟨[105, 102], n, m, tail, bU, other⟩ (.slice y1 y2 y3) (.slice z1 z2 z3)) 160))) (by kernel_rfl) (by kernel_rfl) ((Below.refl _ _).drew) ?_
 refine aH (S [105, 102]) (by kernel_rfl) (fun W _ => by kernel_rfl) ?_
 go_simp
 refine aH (ptr pb) (by kernel_rfl) (fun W _ => by kernel_rfl) ?_
 go_simp
 refine aH (.pointer (some ⟨w.heap.size, 4, none⟩)) (by kernel_rfl) (fun W _ => by kernel_rfl) ?_
 go_simp
 refine aH (.agg (O6 bU)) (by kernel_rfl) (fun W hW => by refine aQg.out W hW _ _ 14 ?_ ?_ <;> kernel_rfl) ?_
 go_simp
 refine fU (S (kG L bU)) 115 #[ptr pb, .agg (O6 bU)] (by kernel_rfl) (fun W => by kernel_rfl) (fun W hW => HC.out W hW) ?_
 go_simp
 refine aH (S s1) (by kernel_rfl) (fun W _ => by rw [h1.out]; refine hadd.out ([32]) (kG L bU) (by first | omega | (simp; done) | (simp; omega)) W _ _ (.const (S [32])) (.tmp 16) ?_ ?_ ?_ <;> kernel_rfl) ?_
 go_simp
 refine aH (S s2) (by kernel_rfl) (fun W _ => by rw [h2.out]; refine hadd.out (s1) ([32]) (by first | omega | (simp; done) | (simp; omega)) W _ _ (.tmp 17) (.const (S [32])) ?_ ?_ ?_ <;> kernel_rfl) ?_
 go_simp
 refine aH (ptr pb) (by kernel_rfl) (fun W _ => by kernel_rfl) ?_
 go_simp
 refine aH (.pointer (some ⟨w.heap.size, 11, none⟩)) (by kernel_rfl) (fun W _ => by kernel_rfl) ?_
 go_simp
 refine aH (.slice y1 y2 y3) (by kernel_rfl) (fun W hW => by refine aQf.out W hW _ _ 20 ?_ ?_ <;> kernel_rfl) ?_
 go_simp
 refine fU (S t1) 49 #[ptr pb, .slice y1 y2 y3] (by kernel_rfl) (fun W => by kernel_rfl) (fun W hW => HK1.out W hW) ?_
 go_simp
 refine aH (S s3) (by kernel_rfl) (fun W _ => by rw [h3.out]; refine hadd.out (s2) (t1) (by first | omega | (simp; done) | (simp; omega)) W _ _ (.tmp 18) (.tmp 22) ?_ ?_ ?_ <;> kernel_rfl) ?_
 go_simp
 refine aH (S s4) (by kernel_rfl) (fun W _ => by rw [h4.out]; refine hadd.out ([105, 102]) (s3) (by first | omega | (simp; done) | (simp; omega)) W _ _ (.tmp 12) (.tmp 23) ?_ ?_ ?_ <;> kernel_rfl) ?_
 go_simp
 refine aH (S s4) (by kernel_rfl) (fun W _ => by kernel_rfl) ?_
 refine wpQuiet_nil ?_
 intro wa Ba
 have cW := hcW.out wa Ba
 have BB := B0.trans (Ba.mono (by omega))
 cases other with
 | false =>
  go_wp2_with fail
  go_ret
  exact ⟨congrArg (fun t => Ending.returned (S t)) (by rw [e4.out]; simp), BB⟩
 | true =>
  have HK2 := H2 rfl wa BB
  have l2 := l2 rfl
  have hB5 : Hid (∀ w5 : World, Below wa.heap.size wa w5 -> Below w.heap.size w w5) := fun w5 q => BB.trans (q.mono BB.size)
  have aR5 := gI s4
  have hsz2 := gI t2
  go_upto_region 6 with fail
  refine wp_region_lit ?_
  iterate 4 go_step
  go_wp2_with (go_at_call 49; refine HK2.mono ?_; rintro r w5 ⟨rfl, q5⟩; have q6 := hB5.out w5 q5; clear q5)
  go_ret
  refine ⟨congrArg (fun x => Ending.returned (Value.string x)) ?_, q6⟩
  apply ByteArray.ext
  rw [e4.out]
  simp [ByteArray.data_append]
end
section
variable {w : World} {pb fr : Nat} {L : List DL}
theorem aI5 (hp : Pw w pb L fr) (hnm : ∀ k, (jJ L k).length <= 1000) (n m : Nat) (hnn : n <= 100000) (tail : Bool) (bU : Rc) (other : Bool) (hc : okC L bU) (hn : nuC bU) (y1 : Option Addr) (y2 y3 : Nat) (z1 : Option Addr) (z2 z3 : Nat) (t1 : List UInt8) (H1 : ∀ W : World, Below w.heap.size w W -> Calls Tryz.prog 49 #[ptr pb, .slice y1 y2 y3] W fun e w' => e = .returned (S t1) /\ Below W.heap.size W w') (l1 : t1.length <= 100000000000) : Calls Tryz.prog 80 #[ptr pb, .agg (mJ ⟨[114, 101, 112, 101, 97, 116], n, m, tail, bU, other⟩ (.slice y1 y2 y3) (.slice z1 z2 z3))] w fun e w' => e = .returned (S ([114, 101, 112, 101, 97, 116] ++ [32] ++ gJ n ++ [32, 119, 104, 105, 108, 101, 32] ++ kG L bU ++ [32] ++ t1)) /\ Below w.heap.size w w' := by
 obtain ⟨w1, hw1⟩ : ∃ w1, w1 = w.alloc (.cells (mJ ⟨[114, 101, 112, 101, 97, 116], n, m, tail, bU, other⟩ (.slice y1 y2 y3) (.slice z1 z2 z3)) 160) := ⟨_, rfl⟩
 have B0 : Below w.heap.size w w1 := hw1 ▸ (Below.refl _ w).alloc zR _
 have b1 : w1.heap[w.heap.size]? = some (.cells (mJ ⟨[114, 101, 112, 101, 97, 116], n, m, tail, bU, other⟩ (.slice y1 y2 y3) (.slice z1 z2 z3)) 160) := by rw [hw1]; exact aC rfl
 obtain ⟨c1, cf1⟩ := aA b1
 have hzz : w1.heap.size = w.heap.size + 1 := by rw [hw1]; simp
 have lc := aC4 hnm bU hn hc
 have up : ∀ {f : FuncId} {args : Array Value} {t : List UInt8}, (∀ W : World, Below w.heap.size w W -> Calls Tryz.prog f args W fun e w' => e = .returned (S t) /\ Below W.heap.size W w') -> ∀ W : World, Below (w.heap.size + 1) w1 W -> Calls Tryz.prog f args W fun e w' => e = .returned (S t) /\ Below (w.heap.size + 1) w1 w' := fun {f args t} H W hW => (H W (B0.trans (hW.mono (by omega)))).mono fun e w' q => ⟨q.1, hW.trans (q.2.mono (by have := hW.size; omega))⟩
 have HC : Hid (∀ W : World, Below (w.heap.size + 1) w1 W -> Calls Tryz.prog 115 #[ptr pb, .agg (O6 bU)] W fun e w' => e = .returned (S (kG L bU)) /\ Below (w.heap.size + 1) w1 w') := up (fun W hW => aQ9 (hp.below hW) hnm bU hc hn)
 have HK1 : Hid (∀ W : World, Below (w.heap.size + 1) w1 W -> Calls Tryz.prog 49 #[ptr pb, .slice y1 y2 y3] W fun e w' => e = .returned (S t1) /\ Below (w.heap.size + 1) w1 w') := up H1
 have hcW : Hid (∀ W : World, Below (w.heap.size + 1) w1 W -> ∀ o, W.cell? ⟨w.heap.size, o, none⟩ = (mJ ⟨[114, 101, 112, 101, 97, 116], n, m, tail, bU, other⟩ (.slice y1 y2 y3) (.slice z1 z2 z3))[o]?) := fun W hW o => (hW.cell (p := ⟨w.heap.size, o, none⟩) (Nat.lt_succ_self _)).trans ((aA b1).1 o)
 have hadd : Hid (∀ (x y : List UInt8), x.length + y.length <= 1000000000000 -> ∀ (W : World) (ev : Operand -> Value) (o : Oper) (p q : Operand), o.op = .binOp .add 9 p q 9 -> ev p = S x -> ev q = S y -> (execOp ev o).run Tryz.prog W = .ok (.value (S (x ++ y))) W) := fun x y h W ev o p q h1 h2 h3 => by
  have := aOo x y h W
  unfold execOp
  rw [h1]
  have hg : (eqGuard .add 9 p q (S x) (S y)).run Tryz.prog W = .ok () W := rfl
  simp only [h2, h3, Sem.run_bind, hg, this, Result.andThen]
  rfl
 have aQg : Hid (∀ W : World, Below (w.heap.size + 1) w1 W -> ∀ (ev : Operand -> Value) (o : Oper) (t : Nat), o.op = .load 158 (.tmp t) -> ev (.tmp t) = .pointer (some ⟨w.heap.size, 4, none⟩) -> (execOp ev o).run Tryz.prog W = .ok (.value (.agg (O6 bU))) W) := fun W hW ev o t h3 h4 => by
  have cW := hcW.out W hW
  unfold execOp
  rw [h3]
  simp only [h4]
  go_simp
 have aQf : Hid (∀ W : World, Below (w.heap.size + 1) w1 W -> ∀ (ev : Operand -> Value) (o : Oper) (t : Nat), o.op = .load 80 (.tmp t) -> ev (.tmp t) = .pointer (some ⟨w.heap.size, 11, none⟩) -> (execOp ev o).run Tryz.prog W = .ok (.value (.slice y1 y2 y3)) W) := fun W hW ev o t h3 h4 => by
  have cW := hcW.out W hW
  unfold execOp
  rw [h3]
  simp only [h4]
  go_simp
 have HD : Hid (∀ W : World, Below (w.heap.size + 1) w1 W -> Calls Tryz.prog 48 #[.int .i64 n] W fun e w' => e = .returned (S (gJ n)) /\ Below (w.heap.size + 1) w1 w') := up (fun W _ => aNa n hnn W)
 have aTw : Hid (∀ W : World, Below (w.heap.size + 1) w1 W -> ∀ (ev : Operand -> Value) (o : Oper) (t : Nat), o.op = .load 3 (.tmp t) -> ev (.tmp t) = .pointer (some ⟨w.heap.size, 1, none⟩) -> (execOp ev o).run Tryz.prog W = .ok (.value (.int .i64 n)) W) := fun W hW ev o t h3 h4 => by
  have cW := hcW.out W hW
  unfold execOp
  rw [h3]
  simp only [h4]
  go_simp
 have ld := sS n hnn
 obtain ⟨s1, h1⟩ : ∃ t : List UInt8, Hid (t = [114, 101, 112, 101, 97, 116] ++ [32]) := ⟨[114, 101, 112, 101, 97, 116] ++ [32], rfl⟩
 obtain ⟨s2, h2⟩ : ∃ t : List UInt8, Hid (t = s1 ++ gJ n) := ⟨s1 ++ gJ n, rfl⟩
 obtain ⟨s3, h3⟩ : ∃ t : List UInt8, Hid (t = s2 ++ [32, 119, 104, 105, 108, 101, 32]) := ⟨s2 ++ [32, 119, 104, 105, 108, 101, 32], rfl⟩
 obtain ⟨s4, h4⟩ : ∃ t : List UInt8, Hid (t = s3 ++ kG L bU) := ⟨s3 ++ kG L bU, rfl⟩
 obtain ⟨s5, h5⟩ : ∃ t : List UInt8, Hid (t = s4 ++ [32]) := ⟨s4 ++ [32], rfl⟩
 obtain ⟨s6, h6⟩ : ∃ t : List UInt8, Hid (t = s5 ++ t1) := ⟨s5 ++ t1, rfl⟩
 have e6 : Hid (s6 = [114, 101, 112, 101, 97, 116] ++ [32] ++ gJ n ++ [32, 119, 104, 105, 108, 101, 32] ++ kG L bU ++ [32] ++ t1) := by show _ = _; rw [h6.out, h5.out, h4.out, h3.out, h2.out, h1.out]
 have k1 : s1.length <= 20 := by rw [h1.out]; simp
 have k2 : s2.length <= 200020 := by rw [h2.out]; simp; omega
 have k3 : s3.length <= 200040 := by rw [h3.out]; simp; omega
 have k4 : s4.length <= 800000 := by rw [h4.out]; simp; omega
 have k5 : s5.length <= 800010 := by rw [h5.out]; simp; omega
 subst hw1
 go_enter Tryz.func80, Tryz.ntmps80
 go_upto_region 9 with fail
 refine wp_region_quiet (C := Below (w.heap.size + 1) (w.alloc (.cells (mJ ⟨[114, 101, 112, 101, 97, 116], n, m, tail, bU, other⟩ (.slice y1 y2 y3) (.slice z1 z2 z3)) 160))) (by kernel_rfl) (by kernel_rfl) ((Below.refl _ _).drew) ?_
 refine aH (S [114, 101, 112, 101, 97, 116]) (by kernel_rfl) (fun W _ => by kernel_rfl) ?_
 go_simp
 refine aH (S s1) (by kernel_rfl) (fun W _ => by rw [h1.out]; refine hadd.out ([114, 101, 112, 101, 97, 116]) ([32]) (by first | omega | (simp; done) | (simp; omega)) W _ _ (.tmp 37) (.const (S [32])) ?_ ?_ ?_ <;> kernel_rfl) ?_
 go_simp
 refine aH (.pointer (some ⟨w.heap.size, 1, none⟩)) (by kernel_rfl) (fun W _ => by kernel_rfl) ?_
 go_simp
 refine aH (.int .i64 n) (by kernel_rfl) (fun W hW => by refine aTw.out W hW _ _ 39 ?_ ?_ <;> kernel_rfl) ?_
 go_simp
 refine fU (S (gJ n)) 48 #[.int .i64 n] (by kernel_rfl) (fun W => by kernel_rfl) (fun W hW => HD.out W hW) ?_
 go_simp
 refine aH (S s2) (by kernel_rfl) (fun W _ => by rw [h2.out]; refine hadd.out (s1) (gJ n) (by first | omega | (simp; done) | (simp; omega)) W _ _ (.tmp 38) (.tmp 41) ?_ ?_ ?_ <;> kernel_rfl) ?_
 go_simp
 refine aH (S s3) (by kernel_rfl) (fun W _ => by rw [h3.out]; refine hadd.out (s2) ([32, 119, 104, 105, 108, 101, 32]) (by first | omega | (simp; done) | (simp; omega)) W _ _ (.tmp 42) (.const (S [32, 119, 104, 105, 108, 101, 32])) ?_ ?_ ?_ <;> kernel_rfl) ?_
 go_simp
 refine aH (ptr pb) (by kernel_rfl) (fun W _ => by kernel_rfl) ?_
 go_simp
 refine aH (.pointer (some ⟨w.heap.size, 4, none⟩)) (by kernel_rfl) (fun W _ => by kernel_rfl) ?_
 go_simp
 refine aH (.agg (O6 bU)) (by kernel_rfl) (fun W hW => by refine aQg.out W hW _ _ 45 ?_ ?_ <;> kernel_rfl) ?_
 go_simp
 refine fU (S (kG L bU)) 115 #[ptr pb, .agg (O6 bU)] (by kernel_rfl) (fun W => by kernel_rfl) (fun W hW => HC.out W hW) ?_
 go_simp
 refine aH (S s4) (by kernel_rfl) (fun W _ => by rw [h4.out]; refine hadd.out (s3) (kG L bU) (by first | omega | (simp; done) | (simp; omega)) W _ _ (.tmp 43) (.tmp 47) ?_ ?_ ?_ <;> kernel_rfl) ?_
 go_simp
 refine aH (S s5) (by kernel_rfl) (fun W _ => by rw [h5.out]; refine hadd.out (s4) ([32]) (by first | omega | (simp; done) | (simp; omega)) W _ _ (.tmp 48) (.const (S [32])) ?_ ?_ ?_ <;> kernel_rfl) ?_
 go_simp
 refine aH (ptr pb) (by kernel_rfl) (fun W _ => by kernel_rfl) ?_
 go_simp
 refine aH (.pointer (some ⟨w.heap.size, 11, none⟩)) (by kernel_rfl) (fun W _ => by kernel_rfl) ?_
 go_simp
 refine aH (.slice y1 y2 y3) (by kernel_rfl) (fun W hW => by refine aQf.out W hW _ _ 51 ?_ ?_ <;> kernel_rfl) ?_
 go_simp
 refine fU (S t1) 49 #[ptr pb, .slice y1 y2 y3] (by kernel_rfl) (fun W => by kernel_rfl) (fun W hW => HK1.out W hW) ?_
 go_simp
 refine aH (S s6) (by kernel_rfl) (fun W _ => by rw [h6.out]; refine hadd.out (s5) (t1) (by first | omega | (simp; done) | (simp; omega)) W _ _ (.tmp 49) (.tmp 53) ?_ ?_ ?_ <;> kernel_rfl) ?_
 go_simp
 refine aH (S s6) (by kernel_rfl) (fun W _ => by kernel_rfl) ?_
 refine wpQuiet_nil ?_
 intro wa Ba
 have BB := B0.trans (Ba.mono (by omega))
 go_wp2_with fail
 go_ret
 exact ⟨congrArg (fun t => Ending.returned (S t)) e6.out, BB⟩
end
def gU {β : Type} (blk : β -> List UInt8) (L : List DL) (r : Rt × β × β) : List UInt8 :=
 if r.1.op = [105, 102] then (if r.1.other = true then [105, 102] ++ ([32] ++ kG L r.1.bU ++ [32] ++ blk r.2.1) ++ ([32, 101, 108, 115, 101, 32] ++ blk r.2.2) else [105, 102] ++ ([32] ++ kG L r.1.bU ++ [32] ++ blk r.2.1))
 else if r.1.op = [114, 101, 112, 101, 97, 116] then [114, 101, 112, 101, 97, 116] ++ [32] ++ gJ r.1.n ++ [32, 119, 104, 105, 108, 101, 32] ++ kG L r.1.bU ++ [32] ++ blk r.2.1
 else if r.1.op = [100, 114, 111, 112] \/ r.1.op = [98, 117, 109, 112] then r.1.op ++ [59]
 else r.1.op ++ ([32] ++ jJ L r.1.n) ++ (if r.1.op = [115, 104, 105, 102, 116] then [32] ++ jJ L r.1.m else []) ++ (if r.1.tail = true then [32, 116, 97, 105, 108] else []) ++ [59]
def jU {α : Type} (f : α -> List UInt8) (xs : List α) : List UInt8 := xs.flatMap fun x => f x ++ [32]
def dA (L : List DL) : (d : Nat) -> RT d -> List UInt8
 | 0, _ => [123, 32] ++ [125]
 | d + 1, xs => [123, 32] ++ jU (gU (dA L d) L) xs ++ [125]
def nuS {β : Type} (P : β -> Prop) (r : Rt × β × β) : Prop := ((r.1.op = [105, 102] \/ r.1.op = [114, 101, 112, 101, 97, 116]) -> nuC r.1.bU) /\ P r.2.1 /\ P r.2.2
def nuT : (d : Nat) -> RT d -> Prop
 | 0, _ => True
 | d + 1, xs => L9 (nuS (nuT d)) xs
def YB (pb fr : Nat) (L : List DL) (d : Nat) : Prop := ∀ (w : World) (N : Nat -> Prop) (v : Value) (x : RT d), Pw w pb L fr -> dI d w N v x -> O3 L d x -> nuT d x -> (dA L d x).length <= 100000000000 -> Calls Tryz.prog 49 #[ptr pb, v] w fun e w' => e = .returned (S (dA L d x)) /\ Below w.heap.size w w'
theorem dI.bel {d : Nat} {w w' : World} {N : Nat -> Prop} {v : Value} {x : RT d} (h : dI d w N v x) (hb : Below w.heap.size w w') : dI d w' N v x := dI.move d (fun g _ hl => hb.block g hl) v x h
section
variable {w : World} {pb fr : Nat} {L : List DL}
theorem aS3 {d : Nat} {N : Nat -> Prop} (HB : YB pb fr L d) (hp : Pw w pb L fr) (hnm : ∀ k, (jJ L k).length <= 1000) (r : Rt × RT d × RT d) (hr : OkS L (O3 L d) r) (hn : nuS (nuT d) r) (y1 : Option Addr) (y2 y3 : Nat) (z1 : Option Addr) (z2 z3 : Nat) (hy : dI d w N (.slice y1 y2 y3) r.2.1) (hz : dI d w N (.slice z1 z2 z3) r.2.2) (hlen : (gU (dA L d) L r).length <= 100000000000) : Calls Tryz.prog 80 #[ptr pb, .agg (mJ r.1 (.slice y1 y2 y3) (.slice z1 z2 z3))] w fun e w' => e = .returned (S (gU (dA L d) L r)) /\ Below w.heap.size w w' := by
 obtain ⟨⟨op, n, m, tail, bU, other⟩, x1, x2⟩ := r
 obtain ⟨n1, n2, n3⟩ := hn
 simp only at hy hz n1 n2 n3
 unfold OkS at hr
 unfold gU at hlen ⊢
 simp only at hr hlen ⊢
 rcases hr with ⟨rfl, hc, h1, h2⟩ | ⟨rfl, hc, hn, h1⟩ | hx
 ·rw [if_pos rfl] at hlen ⊢
  have hnc := n1 (Or.inl rfl)
  cases other with
  | false =>
   rw [if_neg (by simp)] at hlen ⊢
   have l1 : (dA L d x1).length <= 100000000000 := by simp at hlen; omega
   simpa using aFi hp hnm n m tail false bU hc hnc y1 y2 y3 z1 z2 z3 (dA L d x1) [] (fun W hW => HB W N _ x1 (hp.below hW) (hy.bel hW) h1 n2 l1) (fun e => by cases e) l1 (fun e => by cases e)
  | true =>
   rw [if_pos rfl] at hlen ⊢
   have l1 : (dA L d x1).length <= 100000000000 := by simp at hlen; omega
   have l2 : (dA L d x2).length <= 100000000000 := by simp at hlen; omega
   simpa using aFi hp hnm n m tail true bU hc hnc y1 y2 y3 z1 z2 z3 (dA L d x1) (dA L d x2) (fun W hW => HB W N _ x1 (hp.below hW) (hy.bel hW) h1 n2 l1) (fun _ W hW => HB W N _ x2 (hp.below hW) (hz.bel hW) h2 n3 l2) l1 (fun _ => l2)
 ·rw [if_neg (by decide), if_pos rfl] at hlen ⊢
  have l1 : (dA L d x1).length <= 100000000000 := by simp at hlen; omega
  exact aI5 hp hnm n m (by omega) tail bU other hc (n1 (Or.inr rfl)) y1 y2 y3 z1 z2 z3 (dA L d x1) (fun W hW => HB W N _ x1 (hp.below hW) (hy.bel hW) h1 n2 l1) l1
 ·unfold okP at hx
  simp only at hx
  rcases hx with rfl | rfl | ⟨hnL, hx⟩
  ·exact aHc n m tail bU other _ _
  ·exact aHd n m tail bU other _ _
  ·rcases hx with rfl | rfl | rfl | rfl | rfl | ⟨rfl, hm⟩
   ·simpa using uN hp hnm [112, 117, 116] (by simp) rfl rfl rfl rfl rfl n m hnL tail bU other (.slice y1 y2 y3) (.slice z1 z2 z3)
   ·simpa using uN hp hnm [105, 110, 99] (by simp) rfl rfl rfl rfl rfl n m hnL tail bU other (.slice y1 y2 y3) (.slice z1 z2 z3)
   ·simpa using uN hp hnm [100, 101, 99] (by simp) rfl rfl rfl rfl rfl n m hnL tail bU other (.slice y1 y2 y3) (.slice z1 z2 z3)
   ·simpa using uN hp hnm [99, 111, 111, 108] (by simp) rfl rfl rfl rfl rfl n m hnL tail bU other (.slice y1 y2 y3) (.slice z1 z2 z3)
   ·simpa using uN hp hnm [101, 118, 105, 99, 116] (by simp) rfl rfl rfl rfl rfl n m hnL tail bU other (.slice y1 y2 y3) (.slice z1 z2 z3)
   ·simpa using aDm hp hnm n m hnL hm tail bU other (.slice y1 y2 y3) (.slice z1 z2 z3)
theorem aPe : YB pb fr L 0 := by
 intro w N v x hp hv _ _ _
 have hv : v = aF := hv
 subst hv
 show Calls Tryz.prog 49 #[ptr pb, aF] w fun e w' => e = .returned (S [123, 32, 125]) /\ Below w.heap.size w w'
 go_enter Tryz.func49, Tryz.ntmps49
 go_wp2_with fail
 go_loopg [5, 10] 1 (fun f vs v wr => vs = S [123, 32] /\ v = .int .i64 0 /\ wr = w)
 case atStart => exact ⟨rfl, rfl, rfl⟩
 case round =>
  obtain ⟨rfl, rfl, rfl⟩ := hrel
  go_wp2_with fail
  go_ret
  exact ⟨rfl, Below.refl _ _⟩
theorem aIb {α : Type} (f : α -> List UInt8) {xs : List α} {k : Nat} {x : α} (h : xs[k]? = some x) : jU f (xs.take (k + 1)) = jU f (xs.take k) ++ (f x ++ [32]) := by
 have hk := (List.getElem?_eq_some_iff.1 h).1
 rw [List.take_succ_eq_append_getElem hk, show xs[k] = x from Option.some.inj ((List.getElem?_eq_getElem hk).symm.trans h)]
 unfold jU
 rw [List.flatMap_append]
 simp
theorem aGh {α : Type} (f : α -> List UInt8) (xs : List α) (k : Nat) : (jU f (xs.take k)).length <= (jU f xs).length := by
 have : jU f xs = jU f (xs.take k) ++ jU f (xs.drop k) := by
  unfold jU
  rw [<- List.flatMap_append, List.take_append_drop]
 rw [this]
 simp
theorem aPd {d : Nat} (hnm : ∀ k, (jJ L k).length <= 1000) (HB : YB pb fr L d) : YB pb fr L (d + 1) := by
 intro w N v x hp hv hT0 hn0 hlen0
 obtain ⟨rows, dW, hown, hlow⟩ := hv
 have hT : L9 (OkS L (O3 L d)) x := hT0.1
 have hxl : lnL x <= 1000000 := hT0.2
 have hn : L9 (nuS (nuT d)) x := hn0
 have hlen : ([123, 32] ++ jU (gU (dA L d) L) x ++ [125]).length <= 100000000000 := hlen0
 show Calls Tryz.prog 49 #[ptr pb, v] w fun e w' => e = .returned (S ([123, 32] ++ jU (gU (dA L d) L) x ++ [125])) /\ Below w.heap.size w w'
 obtain ⟨xs, hxs⟩ : ∃ xs : List (Rt × RT d × RT d), xs = x := ⟨x, rfl⟩
 rw [<- hxs] at dW hT hlen hxl hn ⊢
 clear hT0 hn0 hlen0 hxs
 clear x
 have hxl : xs.length <= 1000000 := hxl
 have aGn := aDi dW
 obtain ⟨va, vc, rfl⟩ := oG hown
 have hlt : (jU (gU (dA L d) L) xs).length <= 100000000000 := by simp at hlen; omega
 have hrow : Hid (∀ (W : World) (k : Nat), Below w.heap.size w W -> k < xs.length -> ∃ g c r y1 y2 y3 z1 z2 z3, va = some ⟨g, 0, none⟩ /\ c = vc /\ xs[k]? = some r /\ (∀ j, j < 14 -> W.cell? ⟨g, k * 14 + j, none⟩ = (mJ r.1 (.slice y1 y2 y3) (.slice z1 z2 z3))[j]?) /\ dI d W N (.slice y1 y2 y3) r.2.1 /\ dI d W N (.slice z1 z2 z3) r.2.2) := fun W k hF hk => by
  have hkx : xs[k]? = some xs[k] := List.getElem?_eq_getElem hk
  obtain ⟨r2, h1, h2, h3, h4⟩ := aDj dW hkx
  obtain ⟨g, c, e2, l2, llo, hc2⟩ := pW hown (by omega)
  cases e2
  obtain ⟨st, y, z⟩ := r2
  simp only at h2 h3 h4
  obtain ⟨y1, y2, y3, rfl⟩ := dI.form d _ _ h3
  obtain ⟨z1, z2, z3, rfl⟩ := dI.form d _ _ h4
  refine ⟨g, vc, xs[k], y1, y2, y3, z1, z2, z3, rfl, rfl, hkx, fun j hj => ?_, h3.bel hF, h4.bel hF⟩
  have hkr := (List.getElem?_eq_some_iff.1 h1).1
  rw [hF.cell (p := ⟨g, k * 14 + j, none⟩) l2, hc2 (k * 14 + j) (by omega)]
  have h6 : (mJ st (.slice y1 y2 y3) (.slice z1 z2 z3))[j]? = some ((mJ st (.slice y1 y2 y3) (.slice z1 z2 z3))[j]'(by simpa using hj)) := Array.getElem?_eq_getElem _
  rw [<- h2, h6]
  exact nV (fun r : Rt × Value × Value => (mJ r.1 r.2.1 r.2.2).toList) 14 (fun _ => rfl) rows k _ h1 j _ (by simp)
 have hT9 : Hid (L9 (OkS L (O3 L d)) xs) := hT
 have hn9 : Hid (L9 (nuS (nuT d)) xs) := hn
 have aSf : Hid ((jU (gU (dA L d) L) xs).length <= 100000000000) := hlt
 have aN1 : Hid (∀ k, (jJ L k).length <= 1000) := hnm
 have hp9 : Hid (Pw w pb L fr) := hp
 rw [aGn]
 clear hlen hT hn hown dW hlow hlt hnm hp
 go_enter Tryz.func49, Tryz.ntmps49
 go_wp2_with fail
 go_loopg [5, 10] xs.length (fun f vs v wr => ∃ (k : Nat) (sk : List UInt8), vs = S sk /\ v = .int .i64 k /\ k + f = xs.length /\ Below w.heap.size w wr /\ Hid (sk = [123, 32] ++ jU (gU (dA L d) L) (xs.take k)))
 case atStart => exact ⟨0, [123, 32], rfl, rfl, by omega, Below.refl _ _, by show _ = _; simp [jU]⟩
 case round =>
  obtain ⟨k, sk, rfl, rfl, hk, uM, hsk⟩ := hrel
  have aR6 : sk.length <= 100000000002 := by
   rw [hsk.out]
   have := aGh (gU (dA L d) L) xs k
   have := aSf.out
   simp
   omega
  have hsz := gI sk
  by_cases hkl : k < xs.length
  ·have t1 : decide ((k : Int) < (xs.length : Int)) = true := by simp; omega
   obtain ⟨g, c, r, y1, y2, y3, z1, z2, z3, rfl, rfl, hr, hcl, hy, hz⟩ := hrow.out wr k uM hkl
   have ix := aRy g 0 xs.length c k hkl
   rw [Nat.zero_add] at ix
   have d0 : wr.cell? ⟨g, k * 14, none⟩ = some (S r.1.op) := hcl 0 (by omega)
   have d1 : wr.cell? ⟨g, k * 14 + 1, none⟩ = some (.int .i64 r.1.n) := hcl 1 (by omega)
   have d2 : wr.cell? ⟨g, k * 14 + 2, none⟩ = some (.int .i64 r.1.m) := hcl 2 (by omega)
   have d3 : wr.cell? ⟨g, k * 14 + 3, none⟩ = some (.bool r.1.tail) := hcl 3 (by omega)
   have d4 : wr.cell? ⟨g, k * 14 + 4, none⟩ = some (S r.1.bU.op) := hcl 4 (by omega)
   have d5 : wr.cell? ⟨g, k * 14 + 5, none⟩ = some (.int .i64 r.1.bU.n) := hcl 5 (by omega)
   have d6 : wr.cell? ⟨g, k * 14 + 6, none⟩ = some (S r.1.bU.a.1) := hcl 6 (by omega)
   have d7 : wr.cell? ⟨g, k * 14 + 7, none⟩ = some (.int .i64 r.1.bU.a.2) := hcl 7 (by omega)
   have d8 : wr.cell? ⟨g, k * 14 + 8, none⟩ = some (S r.1.bU.b.1) := hcl 8 (by omega)
   have d9 : wr.cell? ⟨g, k * 14 + 9, none⟩ = some (.int .i64 r.1.bU.b.2) := hcl 9 (by omega)
   have d10 : wr.cell? ⟨g, k * 14 + 10, none⟩ = some (.int .i64 r.1.bU.bH) := hcl 10 (by omega)
   have d11 : wr.cell? ⟨g, k * 14 + 11, none⟩ = some (.slice y1 y2 y3) := hcl 11 (by omega)
   have d12 : wr.cell? ⟨g, k * 14 + 12, none⟩ = some (.slice z1 z2 z3) := hcl 12 (by omega)
   have d13 : wr.cell? ⟨g, k * 14 + 13, none⟩ = some (.bool r.1.other) := hcl 13 (by omega)
   have B1 : Below wr.heap.size wr (wr.alloc (.cells (mJ r.1 (.slice y1 y2 y3) (.slice z1 z2 z3)) 160)) := (Below.refl _ wr).alloc zR _
   have b1 : (wr.alloc (.cells (mJ r.1 (.slice y1 y2 y3) (.slice z1 z2 z3)) 160)).heap[wr.heap.size]? = some (.cells (mJ r.1 (.slice y1 y2 y3) (.slice z1 z2 z3)) 160) := aC rfl
   obtain ⟨c1, cf1⟩ := aA b1
   have B2 : Below w.heap.size w (wr.alloc (.cells (mJ r.1 (.slice y1 y2 y3) (.slice z1 z2 z3)) 160)) := uM.trans (B1.mono uM.size)
   have htk := aIb (gU (dA L d) L) hr
   have hll : (gU (dA L d) L r).length <= 100000000000 := by
    have h1 := aGh (gU (dA L d) L) xs (k + 1)
    rw [htk] at h1
    have := aSf.out
    simp at h1
    omega
   have HS := aS3 HB (hp9.out.below B2) aN1.out r (yV hT9.out hr) (yV hn9.out hr) y1 y2 y3 z1 z2 z3 (hy.bel B1) (hz.bel B1) hll
   have aTf : Hid (jU (gU (dA L d) L) (xs.take (k + 1)) = jU (gU (dA L d) L) (xs.take k) ++ (gU (dA L d) L r ++ [32])) := htk
   have hsz2 := gI (gU (dA L d) L r)
   have hB3 : Hid (∀ W : World, Below (wr.alloc (.cells (mJ r.1 (.slice y1 y2 y3) (.slice z1 z2 z3)) 160)).heap.size (wr.alloc (.cells (mJ r.1 (.slice y1 y2 y3) (.slice z1 z2 z3)) 160)) W -> Below w.heap.size w W) := fun W hW => B2.trans (hW.mono B2.size)
   generalize gU (dA L d) L r = t at *
   clear hcl hr htk hy hz
   go_wp2_with (go_at_call 80; refine HS.mono ?_; rintro e w3 ⟨rfl, q3⟩; have q4 := hB3.out w3 q3; clear q3)
   go_roundg (gk - 1)
   case measure => omega
   case rel =>
    refine ⟨k + 1, sk ++ (t ++ [32]), ?_, by simp, by omega, q4, ?_⟩
    ·refine congrArg Value.string ?_
     apply ByteArray.ext
     simp [ByteArray.data_append]
    ·show _ = _
     rw [aTf.out, hsk.out]
     simp
  ·have t1 : decide ((k : Int) < (xs.length : Int)) = false := by simp; omega
   have e9 : Hid (sk = [123, 32] ++ jU (gU (dA L d) L) xs) := by
    have := hsk.out
    rw [List.take_of_length_le (by omega)] at this
    exact this
   clear hsk
   go_wp2_with fail
   go_ret
   refine ⟨congrArg (fun x => Ending.returned (Value.string x)) ?_, uM⟩
   apply ByteArray.ext
   rw [e9.out]
   simp [ByteArray.data_append]
theorem aPf (hnm : ∀ k, (jJ L k).length <= 1000) : ∀ d, YB pb fr L d
 | 0 => aPe
 | d + 1 => aPd hnm (aPf hnm d)
end
end Go.Proofs.YtfddoieakfpagaaGreatDoor
