import Derived.Stop.LaidErr
import Derived.WalkKit
import Derived.LaidEql
import Derived.Stop.Asserts
import Derived.RowKitTokens
import Derived.Test.YtfddoieakfpagabGreatDoorProg
import Derived.Test.YtfddoieakfpagabGreatDoorGC
namespace Go.Proofs.YtfddoieakfpagabGreatDoor
set_option maxHeartbeats 4000000
set_option maxRecDepth 20000
section
open Go
def sentinel (nm : String) (x : String × List UInt8) : String × DataW Unit := (x.1, .iface nm (.ptr (.agg [.lit (.string x.2)])))
theorem laid_many {P : Program} {nm : String} {W : World} {ti tp te ts : TypeId} {ms : Array (String × TypeId)} {f : Field}
  (hi : P.underlying ti = some (.interface ms)) (hrow : ∀ u, P.typeName? 3 u = some nm -> u = tp)
  (hp : P.underlying tp = some (.pointer te)) (he : P.underlying te = some (.struct #[f])) (hft : f.type = ts) (hfo : f.offset = 0) (hs : P.underlying ts = some .string) (hc : P.cellsOf te = 1) (hcs : P.cellsOf ts = 1) :
  ∀ (L : List (String × List UInt8)) (ps : List MemPlace), (∀ x ∈ L, ∃ g, P.globalNamed x.1 = some g /\ (P.globals[g]?).map (·.type) = some ti) ->
   DataW.LaidVars P W (L.map (sentinel nm)) ps -> ps.Nodup ->
   (∀ b off, MemPlace.cell b off ∈ ps -> (∃ c t, W.heap[b]? = some (.cells c t (0, 0))) /\ ∀ u v, W.cell? ⟨b, off, none⟩ = some (.iface u v) -> Value.okWide P W .any 0 u v) ->
   ∃ A : List Addr, A.length = L.length /\ A.Nodup /\ (∀ a ∈ A, MemPlace.cell a.block a.off ∈ ps /\ ∃ c t, W.heap[a.block]? = some (.cells c t (0, 0))) /\
    ∀ (i : Nat) x a, L[i]? = some x -> A[i]? = some a -> W.var? P x.1 = some #[.iface tp (.pointer (some a))]
 | [], ps, _, _, _, _ => by
  refine ⟨[], rfl, List.nodup_nil, ?_, ?_⟩
  ·intro a h; cases h
  ·intro i x a h; simp at h
 | y :: L, ps, hg, hv, hnd, hrows => by
  obtain ⟨g0, t0, cs0, f0, p0, q0, hg0, ht0, hv0, hd0, hq, e0⟩ := hv
  obtain ⟨g, hg1, hg2⟩ := hg y (List.mem_cons_self ..)
  obtain rfl := Option.some.inj (hg1.symm.trans hg0)
  obtain rfl := Option.some.inj (hg2.symm.trans ht0)
  subst e0
  obtain ⟨l0⟩ := cs0
  have ok0 : ∀ u v, l0 = [.iface u v] -> Value.okWide P W .any 0 u v := fun u v e => by
   subst e
   exact (hrows g 0 (by simp [MemPlace.row])).2 u v (by simpa using World.var?_cell hg0 hv0 0)
  obtain ⟨a0, s0, rfl, hc0, hs0, hz0, rfl⟩ := errorString_of_trod hi hrow hp he hft hfo hs hc hcs hd0 ok0
  obtain ⟨A, h1, h2, h3, h4⟩ := laid_many hi hrow hp he hft hfo hs hc hcs L q0 (fun x hx => hg x (List.mem_cons_of_mem _ hx)) hq
   (List.Nodup.sublist (List.sublist_append_right _ _) hnd) (fun b off hm => hrows b off (List.mem_append_right _ hm))
  have hr0 := (hrows a0.block a0.off (by simp [MemPlace.row])).1
  refine ⟨a0 :: A, by simp [h1], List.nodup_cons.2 ⟨fun hm => ?_, h2⟩, ?_, ?_⟩
  ·have := (h3 a0 hm).1
   rw [List.nodup_append] at hnd
   exact hnd.2.2 (.cell a0.block a0.off) (by simp [MemPlace.row]) _ this rfl
  ·intro a hm
   rcases List.mem_cons.1 hm with rfl | hm
   ·exact ⟨by simp [MemPlace.row], hr0⟩
   ·exact ⟨List.mem_append_right _ (h3 a hm).1, (h3 a hm).2⟩
  ·intro i x a hx ha
   cases i with
   | zero =>
    simp only [List.getElem?_cons_zero, Option.some.injEq] at hx ha
    subst hx ha
    exact hv0
   | succ i =>
    simp only [List.getElem?_cons_succ] at hx ha
    exact h4 i x a hx ha
end
section
open Go.RowKit Go.Extern.Stop Go.Stop Go.Extern
def cmpF (t : TypeId) : Sem Value := do Extern.Rtype.noPackHeld "Comparable" t; pure (.bool (<- typeInfo t).comparable)
theorem Tryz.isTypeOf (v : Value) (w : World) : (Extern.ReflectliteType.typeOf #[.iface 278 v]).run Tryz.prog w = .ok (.iface 198 (.agg #[.pointer (some ⟨18, 278, none⟩)])) w := by kernel_rfl
theorem Tryz.isComparable (w : World) : ((Extern.ReflectliteType.method cmpF) #[.agg #[.pointer (some ⟨18, 278, none⟩)]]).run Tryz.prog w = .ok (.bool true) w := by kernel_rfl
theorem Tryz.isMethodComparable (v : Value) (w : World) : (Go.method 409 198 v "Comparable").run Tryz.prog w = .ok (195, v) w := by kernel_rfl
theorem Tryz.isComp : (Tryz.prog.info? 278).map (·.comparable) = some true := by kernel_rfl
theorem Tryz.isSize : (Tryz.prog.info? 297).map (·.size) = some 1 := by kernel_rfl
theorem Tryz.noIsE (v : Value) (xT : TypeId) (w : World) : (Instr.typeAssert (.iface 278 v) xT 200 true).run Tryz.prog w = .ok (.tuple #[.nilIface, .bool false]) w := run_typeAssert_lacksB Tryz.underlying200 (by kernel_rfl) (by kernel_rfl) v xT w
theorem Tryz.noUnwrapE (v : Value) (xT : TypeId) (w : World) : (Instr.typeAssert (.iface 278 v) xT 203 true).run Tryz.prog w = .ok (.tuple #[.nilIface, .bool false]) w := run_typeAssert_lacksB Tryz.underlying203 (by kernel_rfl) (by kernel_rfl) v xT w
theorem Tryz.noUnwrapsE (v : Value) (xT : TypeId) (w : World) : (Instr.typeAssert (.iface 278 v) xT 205 true).run Tryz.prog w = .ok (.tuple #[.nilIface, .bool false]) w := run_typeAssert_lacksB Tryz.underlying205 (by kernel_rfl) (by kernel_rfl) v xT w
theorem Tryz.noIsW (v : Value) (xT : TypeId) (w : World) : (Instr.typeAssert (.iface 96 v) xT 200 true).run Tryz.prog w = .ok (.tuple #[.nilIface, .bool false]) w := run_typeAssert_lacksB Tryz.underlying200 (by kernel_rfl) (by kernel_rfl) v xT w
theorem Tryz.hasUnwrapW (v : Value) (xT : TypeId) (w : World) : (Instr.typeAssert (.iface 96 v) xT 203 true).run Tryz.prog w = .ok (.tuple #[.iface 96 v, .bool true]) w := run_typeAssert_hasB Tryz.underlying203 (by kernel_rfl) v xT w
theorem Tryz.methodUnwrap (v : Value) (w : World) : (Go.method 409 96 v "Unwrap").run Tryz.prog w = .ok (188, v) w := by kernel_rfl
theorem is_same (pb : Nat) (b : Addr) (w : World) (h1 : w.cell? ⟨pb, 0, none⟩ = some (.iface 278 (.pointer (some b)))) :
  Calls Tryz.prog 40 #[.iface 96 (.pointer (some ⟨pb, 0, none⟩)), .iface 278 (.pointer (some b))] w fun e w' => e = .returned (.bool true) /\ w' = w := by
 obtain ⟨i, hi, hcmp⟩ := Option.map_eq_some_iff.1 Tryz.isComp
 obtain ⟨j, hj, hjs⟩ := Option.map_eq_some_iff.1 Tryz.isSize
 have h8 := @run_callFunc_extern Tryz.prog 55 _ Extern.ReflectliteType.typeOf Tryz.func55 (by kernel_rfl) (by kernel_rfl) (by kernel_rfl) (by kernel_rfl)
 have h32 := @run_callFunc_extern Tryz.prog 195 _ (Extern.ReflectliteType.method cmpF) Tryz.func195 (by kernel_rfl) (by kernel_rfl) (by kernel_rfl) (by kernel_rfl)
 have tT := Tryz.isTypeOf
 have cT := Tryz.isComparable
 have mR := Tryz.isMethodComparable
 have nW := Tryz.noIsW
 have uW := Tryz.hasUnwrapW
 have mU := Tryz.methodUnwrap
 have heq := run_eql_iface_ptr_same (P := Tryz.prog) w b Tryz.underlying67 Tryz.underlying278 hi hcmp hj
 have hty := run_eql_iface_types (P := Tryz.prog) 96 278 (.pointer (some ⟨pb, 0, none⟩)) (.pointer (some b)) Tryz.underlying67 (by decide) w
 go_enter Tryz.func40, Tryz.ntmps40
 go_wp2
 refine wp_loop_rounds 2 ?_
 rw [rounds_succ]
 go_wp2
 rw [rounds_succ]
 go_wp2
 go_ret
 exact ⟨rfl, rfl⟩
theorem is_other (pb : Nat) (b a : Addr) (ca cb : Array Value) (ta tb : TypeId) (w : World) (h1 : w.cell? ⟨pb, 0, none⟩ = some (.iface 278 (.pointer (some a)))) (hne : a ≠ b) (ha : w.heap[a.block]? = some (.cells ca ta (0, 0))) (hb : w.heap[b.block]? = some (.cells cb tb (0, 0))) :
  Calls Tryz.prog 40 #[.iface 96 (.pointer (some ⟨pb, 0, none⟩)), .iface 278 (.pointer (some b))] w fun e w' => e = .returned (.bool false) /\ w' = w := by
 obtain ⟨i, hi, hcmp⟩ := Option.map_eq_some_iff.1 Tryz.isComp
 obtain ⟨j, hj, hjs⟩ := Option.map_eq_some_iff.1 Tryz.isSize
 have h8 := @run_callFunc_extern Tryz.prog 55 _ Extern.ReflectliteType.typeOf Tryz.func55 (by kernel_rfl) (by kernel_rfl) (by kernel_rfl) (by kernel_rfl)
 have h32 := @run_callFunc_extern Tryz.prog 195 _ (Extern.ReflectliteType.method cmpF) Tryz.func195 (by kernel_rfl) (by kernel_rfl) (by kernel_rfl) (by kernel_rfl)
 have tT := Tryz.isTypeOf
 have cT := Tryz.isComparable
 have mR := Tryz.isMethodComparable
 have nE := Tryz.noIsE
 have uE := Tryz.noUnwrapE
 have vE := Tryz.noUnwrapsE
 have nW := Tryz.noIsW
 have uW := Tryz.hasUnwrapW
 have mU := Tryz.methodUnwrap
 have heq := run_eql_iface_ptr_other (P := Tryz.prog) w Tryz.underlying67 Tryz.underlying278 hi hcmp hj (by rw [hjs]; decide) hne ha hb
 have hty := run_eql_iface_types (P := Tryz.prog) 96 278 (.pointer (some ⟨pb, 0, none⟩)) (.pointer (some b)) Tryz.underlying67 (by decide) w
 go_enter Tryz.func40, Tryz.ntmps40
 go_wp2
 refine wp_loop_rounds 2 ?_
 rw [rounds_succ]
 go_wp2
 rw [rounds_succ]
 go_wp2
 go_ret
 exact ⟨rfl, rfl⟩
end
section
open Go.RowKit Go.Extern.Stop Go.Stop Go.Extern
theorem Tryz.valueOf27 (t : Addr) (w : World) : (ReflectliteValue.unpack (.iface 101 (.pointer (some t)))).run Tryz.prog w
  = .ok (.agg #[.pointer (some ⟨18, 101, none⟩), .pointer (some ⟨w.heap.size, 0, none⟩), .int .u64 150]) (w.alloc (.cells #[.pointer (some t)] 101)) := by kernel_rfl
theorem Tryz.type27 (a : Addr) (w : World) : (ReflectliteValue.methodAny (ReflectliteValue.valueError "reflectlite.Value.Type" 0) (fun t _ _ _ => ReflectliteType.toType t) #[.agg #[.pointer (some ⟨18, 101, none⟩), .pointer (some a), .int .u64 150]]).run Tryz.prog w
  = .ok (.iface 198 (.agg #[.pointer (some ⟨18, 101, none⟩)])) w := by kernel_rfl
theorem Tryz.methodKind (h : Value) (w : World) : (Go.method 409 198 (.agg #[h]) "Kind").run Tryz.prog w = .ok (184, h) w := by kernel_rfl
theorem Tryz.kind27 (w : World) : ((ReflectliteType.abiMethod fun t => (fun a : Nat => Value.int IntKind.u8 (a : Int)) <$> Rtype.kind t) #[.pointer (some ⟨18, 101, none⟩)]).run Tryz.prog w = .ok (.int .u8 22) w := by kernel_rfl
theorem Tryz.kind25 (w : World) : ((ReflectliteType.abiMethod fun t => (fun a : Nat => Value.int IntKind.u8 (a : Int)) <$> Rtype.kind t) #[.pointer (some ⟨18, 96, none⟩)]).run Tryz.prog w = .ok (.int .u8 22) w := by kernel_rfl
theorem Tryz.parts27 (a : Addr) (w : World) : (ReflectliteValue.parts (.agg #[.pointer (some ⟨18, 101, none⟩), .pointer (some a), .int .u64 150])).run Tryz.prog w = .ok (some (101, a, 150)) w := by kernel_rfl
theorem Tryz.isNil27 (a p : Addr) (W : World) (ha : W.cell? a = some (.pointer (some p))) :
  (ReflectliteValue.method (ReflectliteValue.valueError "reflectlite.Value.IsNil" 0) ReflectliteValue.isNil #[.agg #[.pointer (some ⟨18, 101, none⟩), .pointer (some a), .int .u64 150]]).run Tryz.prog W = .ok (.bool false) W := by
 show Sem.run Tryz.prog (Bind.bind (ReflectliteValue.parts (.agg #[.pointer (some ⟨18, 101, none⟩), .pointer (some a), .int .u64 150])) _) W = _
 simp only [Sem.run_bind, Tryz.parts27, Result.andThen]
 simp [ReflectliteValue.isNil, loadVar, isAgg, underlying, Tryz.underlying101, ha, Result.andThen]
theorem Tryz.methodElem (h : Value) (w : World) : (Go.method 409 198 (.agg #[h]) "Elem").run Tryz.prog w = .ok (196, .agg #[h]) w := by kernel_rfl
theorem Tryz.methodImplements (h : Value) (w : World) : (Go.method 409 198 (.agg #[h]) "Implements").run Tryz.prog w = .ok (197, .agg #[h]) w := by kernel_rfl
theorem Tryz.methodAssignableTo (h : Value) (w : World) : (Go.method 409 198 (.agg #[h]) "AssignableTo").run Tryz.prog w = .ok (194, .agg #[h]) w := by kernel_rfl
theorem Tryz.elem27 (w : World) : (ReflectliteType.method ReflectliteType.elem #[.agg #[.pointer (some ⟨18, 101, none⟩)]]).run Tryz.prog w = .ok (.iface 198 (.agg #[.pointer (some ⟨18, 96, none⟩)])) w := by kernel_rfl
theorem Tryz.implements25 (w : World) : (ReflectliteType.relation "Implements" ReflectliteType.implements_ #[.agg #[.pointer (some ⟨18, 96, none⟩)], .iface 198 (.agg #[.pointer (some ⟨18, 67, none⟩)])]).run Tryz.prog w = .ok (.bool true) w := by kernel_rfl
theorem Tryz.typeOf25 (v : Value) (w : World) : (ReflectliteType.typeOf #[.iface 96 v]).run Tryz.prog w = .ok (.iface 198 (.agg #[.pointer (some ⟨18, 96, none⟩)])) w := by kernel_rfl
theorem Tryz.assignable25 (w : World) : (ReflectliteType.relation "AssignableTo" ReflectliteType.assignableTo #[.agg #[.pointer (some ⟨18, 96, none⟩)], .iface 198 (.agg #[.pointer (some ⟨18, 96, none⟩)])]).run Tryz.prog w = .ok (.bool true) w := by kernel_rfl
theorem Tryz.valueOf25 (e : Addr) (w : World) : (ReflectliteValue.unpack (.iface 96 (.pointer (some e)))).run Tryz.prog w
  = .ok (.agg #[.pointer (some ⟨18, 96, none⟩), .pointer (some ⟨w.heap.size, 0, none⟩), .int .u64 150]) (w.alloc (.cells #[.pointer (some e)] 96)) := by kernel_rfl
theorem Tryz.elemOf27 (w : World) : (Rtype.elem? 101).run Tryz.prog w = .ok (some 96) w := by kernel_rfl
theorem Tryz.mk25 (p : Addr) (w : World) : (ReflectliteValue.mk 96 p ReflectliteValue.flagAddr).run Tryz.prog w = .ok (.agg #[.pointer (some ⟨18, 96, none⟩), .pointer (some p), .int .u64 406]) w := by kernel_rfl
theorem Tryz.elemV27 (a p : Addr) (W : World) (ha : W.cell? a = some (.pointer (some p))) :
  (ReflectliteValue.method (ReflectliteValue.valueError "reflectlite.Value.Elem" 0) ReflectliteValue.elem #[.agg #[.pointer (some ⟨18, 101, none⟩), .pointer (some a), .int .u64 150]]).run Tryz.prog W
   = .ok (.agg #[.pointer (some ⟨18, 96, none⟩), .pointer (some p), .int .u64 406]) W := by
 show Sem.run Tryz.prog (Bind.bind (ReflectliteValue.parts (.agg #[.pointer (some ⟨18, 101, none⟩), .pointer (some a), .int .u64 150])) _) W = _
 simp only [Sem.run_bind, Tryz.parts27, Result.andThen]
 simp [ReflectliteValue.elem, loadVar, isAgg, underlying, Tryz.underlying101, ha, Result.andThen, Tryz.elemOf27, Tryz.mk25]
theorem Tryz.parts25a (a : Addr) (w : World) : (ReflectliteValue.parts (.agg #[.pointer (some ⟨18, 96, none⟩), .pointer (some a), .int .u64 406])).run Tryz.prog w = .ok (some (96, a, 406)) w := by kernel_rfl
theorem Tryz.parts25 (a : Addr) (w : World) : (ReflectliteValue.parts (.agg #[.pointer (some ⟨18, 96, none⟩), .pointer (some a), .int .u64 150])).run Tryz.prog w = .ok (some (96, a, 150)) w := by kernel_rfl
theorem Tryz.direct25 (w : World) : (Rtype.directlyAssignable 96 96).run Tryz.prog w = .ok true w := by kernel_rfl
theorem Tryz.size25 (w : World) : (sizeOf 96).run Tryz.prog w = .ok 1 w := by kernel_rfl
end
section
open Go.RowKit Go.Extern.Stop Go.Stop Go.Extern
theorem Tryz.set25 (ta b e : Addr) (old : Value) (W : World) (hb : W.cell? b = some (.pointer (some e))) (ht : W.cell? ta = some old) (hf : W.frozen? ta = false) :
  (ReflectliteValue.set #[.agg #[.pointer (some ⟨18, 96, none⟩), .pointer (some ta), .int .u64 406], .agg #[.pointer (some ⟨18, 96, none⟩), .pointer (some b), .int .u64 150]]).run Tryz.prog W
   = .ok (.tuple #[]) (W.setCell ta (.pointer (some e))) := by
 show Sem.run Tryz.prog (Bind.bind (ReflectliteValue.parts (.agg #[.pointer (some ⟨18, 96, none⟩), .pointer (some ta), .int .u64 406])) _) W = _
 rw [Sem.run_bind, Tryz.parts25a]
 simp only [Result.andThen, Sem.run_bind, Array.getLit]
 simp [Tryz.parts25, Result.andThen]
 simp [ReflectliteValue.flagAddr, loadVar, isAgg, underlying, Tryz.underlying96, hb, Result.andThen, Tryz.direct25, storeVar, Value.cells, storeCells, Addr.add]
 rw [run_store Tryz.prog W ta _ _ (by rfl)]
 simp [ht, hf]
end
section
open Go.RowKit Go.Extern.Stop Go.Stop Go.Extern
theorem as_hit (e t : Addr) (old : Value) (w : World) (hg : w.cell? ⟨12, 0, none⟩ = some (.iface 198 (.agg #[.pointer (some ⟨18, 67, none⟩)]))) (ht0 : w.cell? t = some old) (hf0 : w.frozen? t = false) :
  Calls Tryz.prog 43 #[.iface 96 (.pointer (some e)), .iface 101 (.pointer (some t))] w fun ev w' => ev = .returned (.bool true) /\ w' = ((((w.alloc (.cells #[.pointer (some t)] 101)).alloc (.cells #[.pointer (some ⟨18, 101, none⟩), .pointer (some ⟨w.heap.size, 0, none⟩), .int .u64 150] 167)).alloc (.cells #[.pointer (some ⟨18, 101, none⟩), .pointer (some ⟨w.heap.size, 0, none⟩), .int .u64 150] 167)).alloc (.cells #[.pointer (some e)] 96)).setCell t (.pointer (some e)) := by
 have h6 := @run_callFunc_extern Tryz.prog 64 _ (fun args => ReflectliteValue.unpack (args.getD 0 (.tuple #[]))) Tryz.func64 (by kernel_rfl) (by kernel_rfl) (by kernel_rfl) (by kernel_rfl)
 have h7 := @run_callFunc_extern Tryz.prog 65 _ (ReflectliteValue.methodAny (ReflectliteValue.valueError "reflectlite.Value.Type" 0) (fun t _ _ _ => ReflectliteType.toType t)) Tryz.func65 (by kernel_rfl) (by kernel_rfl) (by kernel_rfl) (by kernel_rfl)
 have h8 := @run_callFunc_extern Tryz.prog 66 _ (ReflectliteValue.method (ReflectliteValue.valueError "reflectlite.Value.IsNil" 0) ReflectliteValue.isNil) Tryz.func66 (by kernel_rfl) (by kernel_rfl) (by kernel_rfl) (by kernel_rfl)
 have h27 := @run_callFunc_extern Tryz.prog 184 _ (ReflectliteType.abiMethod fun t => do pure (.int .u8 (<- Rtype.kind t))) Tryz.func184 (by kernel_rfl) (by kernel_rfl) (by kernel_rfl) (by kernel_rfl)
 have h37 := @run_callFunc_extern Tryz.prog 196 _ (ReflectliteType.method ReflectliteType.elem) Tryz.func196 (by kernel_rfl) (by kernel_rfl) (by kernel_rfl) (by kernel_rfl)
 have h38 := @run_callFunc_extern Tryz.prog 197 _ (ReflectliteType.relation "Implements" ReflectliteType.implements_) Tryz.func197 (by kernel_rfl) (by kernel_rfl) (by kernel_rfl) (by kernel_rfl)
 have h10 := @run_callFunc_extern Tryz.prog 55 _ ReflectliteType.typeOf Tryz.func55 (by kernel_rfl) (by kernel_rfl) (by kernel_rfl) (by kernel_rfl)
 have h35 := @run_callFunc_extern Tryz.prog 194 _ (ReflectliteType.relation "AssignableTo" ReflectliteType.assignableTo) Tryz.func194 (by kernel_rfl) (by kernel_rfl) (by kernel_rfl) (by kernel_rfl)
 have h11 := @run_callFunc_extern Tryz.prog 96 _ (ReflectliteValue.method (ReflectliteValue.valueError "reflectlite.Value.Elem" 0) ReflectliteValue.elem) Tryz.func96 (by kernel_rfl) (by kernel_rfl) (by kernel_rfl) (by kernel_rfl)
 have h12 := @run_callFunc_extern Tryz.prog 97 _ ReflectliteValue.set Tryz.func97 (by kernel_rfl) (by kernel_rfl) (by kernel_rfl) (by kernel_rfl)
 have tO := Tryz.typeOf25
 have mA := Tryz.methodAssignableTo
 have a25 := Tryz.assignable25
 have v25 := Tryz.valueOf25
 have f6 := Tryz.valueOf27
 have f7 := Tryz.type27
 have mK := Tryz.methodKind
 have mE := Tryz.methodElem
 have mI := Tryz.methodImplements
 have k27 := Tryz.kind27
 have k25 := Tryz.kind25
 have e27 := Tryz.elem27
 have i25 := Tryz.implements25
 have n8 := Tryz.isNil27 ⟨w.heap.size, 0, none⟩ t ((w.alloc (.cells #[.pointer (some t)] 101)).alloc (.cells #[.pointer (some ⟨18, 101, none⟩), .pointer (some ⟨w.heap.size, 0, none⟩), .int .u64 150] 167)) (by simp)
 have hlt : 12 < w.heap.size := by
  rcases Nat.lt_or_ge 12 w.heap.size with h | h
  ·exact h
  ·simp [World.cell?, Array.getElem?_eq_none h] at hg
 have hg2 : ((w.alloc (.cells #[.pointer (some t)] 101)).alloc (.cells #[.pointer (some ⟨18, 101, none⟩), .pointer (some ⟨w.heap.size, 0, none⟩), .int .u64 150] 167)).cell? ⟨12, 0, none⟩ = some (.iface 198 (.agg #[.pointer (some ⟨18, 67, none⟩)])) := by
  rw [World.cell?_alloc_lt _ _ ⟨12, 0, none⟩ (by simp; omega), World.cell?_alloc_lt _ _ ⟨12, 0, none⟩ hlt]; exact hg
 have htl : t.block < w.heap.size := by
  rcases Nat.lt_or_ge t.block w.heap.size with h | h
  ·exact h
  ·simp [World.cell?, Array.getElem?_eq_none h] at ht0
 have el := Tryz.elemV27 ⟨w.heap.size, 0, none⟩ t (((w.alloc (.cells #[.pointer (some t)] 101)).alloc (.cells #[.pointer (some ⟨18, 101, none⟩), .pointer (some ⟨w.heap.size, 0, none⟩), .int .u64 150] 167)).alloc (.cells #[.pointer (some ⟨18, 101, none⟩), .pointer (some ⟨w.heap.size, 0, none⟩), .int .u64 150] 167)) (by rw [World.cell?_alloc_lt _ _ ⟨w.heap.size, 0, none⟩ (by simp; omega)]; simp)
 have st := Tryz.set25 t ⟨w.heap.size + 1 + 1 + 1, 0, none⟩ e old ((((w.alloc (.cells #[.pointer (some t)] 101)).alloc (.cells #[.pointer (some ⟨18, 101, none⟩), .pointer (some ⟨w.heap.size, 0, none⟩), .int .u64 150] 167)).alloc (.cells #[.pointer (some ⟨18, 101, none⟩), .pointer (some ⟨w.heap.size, 0, none⟩), .int .u64 150] 167)).alloc (.cells #[.pointer (some e)] 96))
  (by rw [World.cell?_alloc_at _ _ _ _ (by simp)]; rfl)
  (by rw [World.cell?_alloc_lt _ _ t (by simp; omega), World.cell?_alloc_lt _ _ t (by simp; omega), World.cell?_alloc_lt _ _ t (by simp; omega), World.cell?_alloc_lt _ _ t htl]; exact ht0)
  (by rw [World.frozen?_alloc_old _ _ t (by simp; omega), World.frozen?_alloc_old _ _ t (by simp; omega), World.frozen?_alloc_old _ _ t (by simp; omega), World.frozen?_alloc_old _ _ t (Nat.ne_of_lt htl)]; exact hf0)
 go_enter Tryz.func43, Tryz.ntmps43
 go_wp2
 refine wp_loop_rounds 1 ?_
 rw [rounds_succ]
 go_wp2
 go_ret
 exact ⟨rfl, rfl⟩
end
open Go.RowKit
def Rg (s : Ck) : Prop := ∀ e, s.first = some e -> 2 < e.1 /\ e.1 < 10
theorem Rg.fault {s : Ck} (h : Rg s) (i p : Nat) (h1 : 2 < i) (h2 : i < 10) : Rg (s.fault i p) := by
 unfold Ck.fault
 cases hf : s.first with
 | none => intro e he; simp at he; subst he; exact ⟨h1, h2⟩
 | some q => exact h
theorem Rg.ite {c : Prop} [Decidable c] {a b : Ck} (ha : Rg a) (hb : Rg b) : Rg (if c then a else b) := by by_cases h : c <;> simp [h, ha, hb]
theorem Rg.use {s : Ck} (h : Rg s) (n : NP) (k : Nat) : Rg (s.use n k) := by
 unfold Ck.use
 cases look n.1 s.names with
 | none => exact h.fault _ _ (by decide) (by decide)
 | some d => exact Rg.ite h (h.fault _ _ (by decide) (by decide))
theorem Rg.bound {s : Ck} (h : Rg s) (v p m : Nat) : Rg (s.bound v p m) := Rg.ite (h.fault _ _ (by decide) (by decide)) h
theorem Rg.value {s : Ck} (h : Rg s) (v : Vl) : Rg (s.value v) := Rg.ite (h.use _ _) (Rg.ite (h.use _ _) h)
theorem Rg.cond {s : Ck} (h : Rg s) (x : Cd) : Rg (s.cond x) := Rg.ite ((h.value _).value _) (h.use _ _)
theorem Rg.stmt {β : Type} {blk : Ck -> β -> Ck} (hb : ∀ s x, Rg s -> Rg (blk s x)) {s : Ck} (h : Rg s) (r : St × β × β) : Rg (s.stmt blk r) :=
 Rg.ite (h.use _ _) (Rg.ite ((h.use _ _).use _ _) (Rg.ite (h.use _ _) (Rg.ite (hb _ _ (hb _ _ (h.cond _))) (Rg.ite (hb _ _ ((h.bound _ _ _).cond _)) h))))
theorem Rg.fold {α : Type} {f : Ck -> α -> Ck} (hf : ∀ s x, Rg s -> Rg (f s x)) : ∀ (l : List α) (s : Ck), Rg s -> Rg (l.foldl f s)
 | [], _, h => h
 | x :: l, s, h => Rg.fold hf l _ (hf s x h)
theorem Rg.block : ∀ (d : Nat) (s : Ck) (x : BT d), Rg s -> Rg (s.block d x)
 | 0, _, _, h => h
 | d + 1, s, x, h => Rg.fold (fun _ r h => Rg.stmt (fun s x h => Rg.block d s x h) h r) x s h
theorem Rg.declare {s : Ck} (h : Rg s) (n : NP) (k : Nat) : Rg (s.declare n k) := by
 unfold Ck.declare
 cases look n.1 s.names with
 | some d => exact h.fault _ _ (by decide) (by decide)
 | none => exact Rg.ite (h.fault _ _ (by decide) (by decide)) h
theorem Rg.decl {s : Ck} (h : Rg s) (d : Dc) : Rg (s.decl d) := by
 unfold Ck.decl
 refine Rg.ite ((h.declare _ _).bound _ _ _) (Rg.ite ((h.declare _ _).bound _ _ _) (Rg.ite ?_ h))
 refine Rg.bound ?_ _ _ _
 first
  | exact Rg.ite (Rg.fault h _ _ (by decide) (by decide)) h
  | exact Rg.ite (Rg.fault (s := { s with freqs := s.freqs + 1 }) h _ _ (by decide) (by decide)) h
theorem Rg.rule {s : Ck} (h : Rg s) (r : Nat × NP × BT 8) : Rg (s.rule r) := by
 unfold Ck.rule
 refine Rg.block 8 _ _ ?_
 have h1 : Rg (s.rule1 r.1 r.2.1) := Rg.ite (Rg.fault (s := s.count r.2.1) h _ _ (by decide) (by decide)) h
 exact Rg.ite h1 (h1.use _ _)
theorem rg_check (ds : List Dc) (rs : List (Nat × NP × BT 8)) : Rg (checkS ds rs) := by
 have h0 : Rg ck0 := by intro e he; simp [ck0] at he
 have h1 := Rg.fold (f := Ck.rule) (fun s r h => h.rule r) rs _ (Rg.fold (f := Ck.decl) (fun s d h => h.decl d) ds _ h0)
 exact Rg.ite (h1.fault _ _ (by decide) (by decide)) h1
theorem readS_err {l : List UInt8} {i p : Nat} (h : readS l = .error (i, p)) : i < 10 \/ i = 13 := by
 unfold readS at h
 by_cases hl : l.length > 700
 ·rw [if_pos hl] at h
  simp only [Except.error.injEq, Prod.mk.injEq] at h
  obtain ⟨rfl, rfl⟩ := h
  decide
 ·rw [if_neg hl] at h
  cases hp : policyS l (tokAt l 0) with
  | error q =>
   obtain ⟨q, p'⟩ := q
   rw [hp] at h
   simp only [Except.error.injEq, Prod.mk.injEq] at h
   obtain ⟨rfl, rfl⟩ := h
   cases q <;> decide
  | ok x =>
   obtain ⟨x, t⟩ := x
   rw [hp] at h
   cases hc : (checkS x.1 x.2).first with
   | none => simp [hc] at h
   | some e =>
    simp only [hc, Except.error.injEq] at h
    subst h
    have := rg_check x.1 x.2 _ hc
    simp at this
    omega
structure Sent (w : World) (A : Nat -> Addr) : Prop where
 g : ∀ i, i < 12 \/ i = 13 -> w.cell? ⟨i, 0, none⟩ = some (.iface 278 (.pointer (some (A i))))
 b : ∀ i, i < 12 \/ i = 13 -> ∃ c t, w.heap[(A i).block]? = some (.cells c t (0, 0))
 n : ∀ i j, i < 12 \/ i = 13 -> j < 12 \/ j = 13 -> A i = A j -> i = j
 e : w.cell? ⟨12, 0, none⟩ = some (.iface 198 (.agg #[.pointer (some ⟨18, 67, none⟩)]))
theorem Sent.move {w w' : World} {A : Nat -> Addr} (h : Sent w A) (hb : Below w.heap.size w w') : Sent w' A := by
 refine ⟨fun i h1 => (hb.cell (p := ⟨i, 0, none⟩) (cell_lt (h.g i h1))).trans (h.g i h1), fun i h1 => ?_, h.n, (hb.cell (p := ⟨12, 0, none⟩) (cell_lt h.e)).trans h.e⟩
 obtain ⟨c, t, hc⟩ := h.b i h1
 exact ⟨c, t, (hb.block _ (Array.getElem?_eq_some_iff.1 hc).1).trans hc⟩
theorem is_idx {w : World} {A : Nat -> Addr} (S : Sent w A) (f i j : Nat) (i1 : i < 12 \/ i = 13) (j1 : j < 12 \/ j = 13) (hf : w.cell? ⟨f, 0, none⟩ = some (.iface 278 (.pointer (some (A i))))) :
  Calls Tryz.prog 40 #[.iface 96 (.pointer (some ⟨f, 0, none⟩)), .iface 278 (.pointer (some (A j)))] w fun e w' => e = .returned (.bool (decide (i = j))) /\ w' = w := by
 by_cases h : i = j
 ·subst h
  simp only [decide_true]
  exact is_same f _ w hf
 ·simp only [h, decide_false]
  obtain ⟨ca, ta, ha⟩ := S.b i i1
  obtain ⟨cb, tb, hb⟩ := S.b j j1
  exact is_other f _ _ ca cb ta tb w hf (fun e => h (S.n i j i1 j1 e)) ha hb
def enoS (i : Nat) : Nat := if i = 1 then 1 else if i = 2 then 3 else if i = 3 then 4 else if i = 4 then 5 else if i = 5 then 6 else if i = 6 then 7 else if i = 7 then 8 else if i = 8 then 9 else if i = 9 then 10 else if i = 10 then 11 else if i = 11 then 12 else if i = 0 then 13 else 2
theorem errno_any {w : World} {A : Nat -> Addr} (S : Sent w A) (f i : Nat) (i1 : i < 12 \/ i = 13) (hf : w.cell? ⟨f, 0, none⟩ = some (.iface 278 (.pointer (some (A i))))) :
  Calls Tryz.prog 29 #[.iface 96 (.pointer (some ⟨f, 0, none⟩))] w fun e w' => e = .returned (.int .i64 (enoS i)) /\ w' = w := by
 have g0 := S.g 0 (by decide)
 have g1 := S.g 1 (by decide)
 have g2 := S.g 2 (by decide)
 have g3 := S.g 3 (by decide)
 have g4 := S.g 4 (by decide)
 have g5 := S.g 5 (by decide)
 have g6 := S.g 6 (by decide)
 have g7 := S.g 7 (by decide)
 have g8 := S.g 8 (by decide)
 have g9 := S.g 9 (by decide)
 have g10 := S.g 10 (by decide)
 have g11 := S.g 11 (by decide)
 have hc : i = 0 \/ i = 1 \/ i = 2 \/ i = 3 \/ i = 4 \/ i = 5 \/ i = 6 \/ i = 7 \/ i = 8 \/ i = 9 \/ i = 10 \/ i = 11 \/ i = 13 := by omega
 rcases hc with rfl | rfl | rfl | rfl | rfl | rfl | rfl | rfl | rfl | rfl | rfl | rfl | rfl
 all_goals
  go_enter Tryz.func29, Tryz.ntmps29
  go_wp2_with (go_at_call 40; refine (is_idx S f _ _ (by decide) (by decide) hf).mono ?_; rintro e w' ⟨rfl, rfl⟩)
  go_ret
  exact ⟨rfl, rfl⟩
theorem place_any {w : World} {A : Nat -> Addr} (S : Sent w A) (f p : Nat) (x : Value) (hf : w.heap[f]? = some (.cells #[x, .int .i64 p] 98)) :
  Calls Tryz.prog 31 #[.iface 96 (.pointer (some ⟨f, 0, none⟩))] w fun e w' => e = .returned (.int .i64 p) /\ Below w.heap.size w w' := by
 have hg : (w.alloc (.cells #[.pointer none] 96)).cell? ⟨12, 0, none⟩ = some (.iface 198 (.agg #[.pointer (some ⟨18, 67, none⟩)])) := by
  rw [World.cell?_alloc_lt _ _ ⟨12, 0, none⟩ (cell_lt S.e)]; exact S.e
 have hlt : f < w.heap.size := (Array.getElem?_eq_some_iff.1 hf).1
 go_enter Tryz.func31, Tryz.ntmps31
 go_wp2_with fail
 refine (as_hit ⟨f, 0, none⟩ ⟨w.heap.size, 0, none⟩ (.pointer none) _ hg (by simp) (by simp)).mono ?_
 rintro e w2 ⟨rfl, e2⟩
 have hc : w2.cell? ⟨w.heap.size, 0, none⟩ = some (.pointer (some ⟨f, 0, none⟩)) := by
  rw [e2]
  refine World.cell?_setCell_same _ _ _ (u := .pointer none) ?_
  have h0 : w.heap.size < (w.alloc (.cells #[.pointer none] 96)).heap.size := by simp
  rw [World.cell?_alloc_lt _ _ ⟨w.heap.size, 0, none⟩ (by first | (simp; done) | (simp; omega)), World.cell?_alloc_lt _ _ ⟨w.heap.size, 0, none⟩ (by first | (simp; done) | (simp; omega)), World.cell?_alloc_lt _ _ ⟨w.heap.size, 0, none⟩ (by first | (simp; done) | (simp; omega)), World.cell?_alloc_lt _ _ ⟨w.heap.size, 0, none⟩ (by first | (simp; done) | (simp; omega))]
  simp
 have hB : Below w.heap.size w w2 := by
  rw [e2]
  refine Below.setCell (p := ⟨w.heap.size, 0, none⟩) ?_ (Nat.le_refl _) _
  exact ((((((Below.refl _ w).alloc (Nat.le_refl _) _).alloc (by first | (simp; done) | (simp; omega)) _).alloc (by first | (simp; done) | (simp; omega)) _).alloc (by first | (simp; done) | (simp; omega)) _).alloc (by first | (simp; done) | (simp; omega)) _)
 clear e2
 have hp : w2.cell? ⟨f, 1, none⟩ = some (.int .i64 p) := by
  rw [hB.cell (p := ⟨f, 1, none⟩) hlt]; simp [World.cell?, hf]
 go_wp2_with fail
 go_ret
 exact ⟨rfl, hB⟩
end Go.Proofs.YtfddoieakfpagabGreatDoor
