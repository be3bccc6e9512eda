import Derived.Test.YtfddoieakfpagaaGreatDoorRows
import Derived.Test.YtfddoieakfpagaaGreatDoorTZ
import Derived.Lib.LaidTab
import Derived.ProofKit
import Derived.LaidMore
import Derived.LaidHandle
import Derived.OpenShut
import Derived.Stop.Joined
import Derived.SliceStrings
import Derived.Deep.Slices
import Derived.SizedLaws
import Derived.ChangeArms
namespace Go.Proofs.YtfddoieakfpagaaGreatDoor
set_option maxRecDepth 20000
section
open Go.ChangeShapes Go.WideShapes Go.ChangeAt Go.RowKit
def U1 : List (String × List UInt8) := [
 ("evictor/policy.ErrLong", [116, 104, 101, 32, 116, 101, 120, 116, 32, 105, 115, 32, 116, 111, 111, 32, 108, 111, 110, 103]),
 ("evictor/policy.ErrSyntax", [116, 104, 105, 115, 32, 99, 97, 110, 110, 111, 116, 32, 115, 116, 97, 110, 100, 32, 104, 101, 114, 101]),
 ("evictor/policy.ErrDeep", [116, 111, 111, 32, 109, 97, 110, 121, 32, 98, 108, 111, 99, 107, 115, 32, 111, 114, 32, 108, 111, 111, 112, 115, 32, 119, 105, 116, 104, 105, 110, 32, 101, 97, 99, 104, 32, 111, 116, 104, 101, 114]),
 ("evictor/policy.ErrTwice", [116, 104, 105, 115, 32, 105, 115, 32, 100, 101, 99, 108, 97, 114, 101, 100, 32, 97, 108, 114, 101, 97, 100, 121]),
 ("evictor/policy.ErrMany", [116, 111, 111, 32, 109, 97, 110, 121, 32, 110, 97, 109, 101, 115, 32, 97, 114, 101, 32, 100, 101, 99, 108, 97, 114, 101, 100]),
 ("evictor/policy.ErrNumber", [116, 104, 101, 32, 110, 117, 109, 98, 101, 114, 32, 105, 115, 32, 98, 101, 121, 111, 110, 100, 32, 105, 116, 115, 32, 98, 111, 117, 110, 100, 115]),
 ("evictor/policy.ErrNone", [116, 104, 101, 32, 110, 97, 109, 101, 32, 105, 115, 32, 110, 111, 116, 32, 100, 101, 99, 108, 97, 114, 101, 100]),
 ("evictor/policy.ErrKind", [116, 104, 101, 32, 110, 97, 109, 101, 32, 105, 115, 32, 111, 102, 32, 116, 104, 101, 32, 111, 116, 104, 101, 114, 32, 107, 105, 110, 100]),
 ("evictor/policy.ErrRule", [116, 104, 101, 114, 101, 32, 105, 115, 32, 97, 32, 114, 117, 108, 101, 32, 102, 111, 114, 32, 116, 104, 105, 115, 32, 97, 108, 114, 101, 97, 100, 121]),
 ("evictor/policy.ErrMiss", [116, 104, 101, 114, 101, 32, 105, 115, 32, 110, 111, 32, 114, 117, 108, 101, 32, 102, 111, 114, 32, 109, 105, 115, 115]),
 ("evictor/machine.ErrName", [110, 111, 116, 104, 105, 110, 103, 32, 111, 102, 32, 116, 104, 101, 32, 107, 105, 110, 100, 32, 104, 97, 115, 32, 116, 104, 97, 116, 32, 110, 97, 109, 101]),
 ("evictor/machine.ErrFull", [116, 104, 101, 32, 113, 117, 101, 117, 101, 32, 104, 111, 108, 100, 115, 32, 105, 116, 115, 32, 99, 97, 112, 97, 99, 105, 116, 121, 32, 97, 108, 114, 101, 97, 100, 121]),
 ("evictor/machine.ErrEmpty", [116, 104, 101, 32, 113, 117, 101, 117, 101, 32, 105, 115, 32, 101, 109, 112, 116, 121])]
def posOf (i : Nat) : Nat := if i = 0 then 0 else if i = 14 then 1 else if i = 1 then 2 else if i = 2 then 3 else if i = 7 then 4 else if i = 5 then 5 else if i = 3 then 6 else if i = 4 then 7 else if i = 6 then 8 else if i = 8 then 9 else if i = 11 then 10 else if i = 9 then 11 else if i = 10 then 12 else 13
theorem Tryz.own : ownKnob Tryz.prog.godebug = none := by kernel_rfl
theorem Tryz.cellsE : Tryz.prog.cellsOf 360 = 1 := by kernel_rfl
theorem Tryz.cellsS : Tryz.prog.cellsOf 9 = 1 := by kernel_rfl
theorem Tryz.cellsI : Tryz.prog.cellsOf 3 = 1 := by kernel_rfl
theorem Tryz.cellsU : Tryz.prog.cellsOf 26 = 1 := by kernel_rfl
theorem Tryz.cellsO : Tryz.prog.cellsOf 28 = 4 := by kernel_rfl
theorem Tryz.bytesO : Tryz.prog.bytesOf 28 = 40 := by kernel_rfl
theorem Tryz.laidOut : laidOutB Tryz.prog = true := by kernel_rfl
theorem Tryz.star : "*" ++ "errors.errorString" = "*errors.errorString" := by decide
theorem Tryz.rowE (u : TypeId) (h : Tryz.prog.typeName? 3 u = some "*errors.errorString") : u = 341 :=
 typeName_ptr_named (nm := "errors.errorString") (by rw [Tryz.star]; kernel_rfl) (by kernel_rfl) (by decide) u (by rw [Tryz.star]; exact h)
theorem Tryz.et : Tryz.prog.globalNamed "errors.errorType" = some 13 := by kernel_rfl
theorem Tryz.rt : (Tryz.prog.cutTypes.find? (·.1 == "internal/reflectlite.rtype")).map (·.2) = some 262 := by kernel_rfl
theorem Tryz.oneRow : ((List.range 372).filter fun t => Tryz.prog.rowNamed t [101, 114, 114, 111, 114]) = [65] := by kernel_rfl
theorem Tryz.size : Tryz.prog.types.size = 372 := by kernel_rfl
theorem Tryz.handleE : typeHandle Tryz.prog 65 = .pointer (some ⟨19, 65, none⟩) := by kernel_rfl
theorem Tryz.gw : Tryz.prog.globalNamed "evictor/evictorref.words" = some 12 := by kernel_rfl
theorem Tryz.gwt : (Tryz.prog.globals[12]?).map (·.type) = some 120 := by kernel_rfl
theorem aEc : Rows.textsRow.laid.filter (fun x => x.2.handleName?.isNone) = ("evictor/evictorref.words", Rows.laid_evictor_evictorref_words) :: ("math/bits.deBruijn32tab", Rows.laid_math_bits_deBruijn32tab) :: ("math/bits.deBruijn64tab", Rows.laid_math_bits_deBruijn64tab) :: ("internal/strconv.uint64pow10", Rows.laid_internal_strconv_uint64pow10) :: U1.map (sentinel "*errors.errorString") := by kernel_rfl
theorem aCb : Rows.textsRow.laid.filter (fun x => x.2.handleName?.isSome) = [("errors.errorType", Rows.laid_errors_errorType)] := by kernel_rfl
def gOf (k : Nat) : Nat := [0, 14, 1, 2, 7, 5, 3, 4, 6, 8, 11, 9, 10].getD k 0
theorem aF0 : ∀ k, k < 13 -> (U1[k]?).map (fun x => (Tryz.prog.globalNamed x.1, (Tryz.prog.globals[gOf k]?).map (·.type))) = some (some (gOf k), some 65) := by
 intro k hk
 have : ∀ k ∈ List.range 13, (U1[k]?).map (fun x => (Tryz.prog.globalNamed x.1, (Tryz.prog.globals[gOf k]?).map (·.type))) = some (some (gOf k), some 65) := by
  decide +kernel
 exact this k (List.mem_range.2 hk)
theorem sJ {P : Program} {W : World} {n : String} {d : DataW Unit} {r : List (String × DataW Unit)} {ps : List MemPlace} {R : Nat -> Nat -> Prop} (h : DataW.LaidVars P W ((n, d) :: r) ps) (hnd : ps.Nodup) (hr : ∀ b off, MemPlace.cell b off ∈ ps -> R b off) :
  (∃ g t cs fuel p, P.globalNamed n = some g /\ (P.globals[g]?).map (·.type) = some t /\ W.var? P n = some cs /\ DataW.trod (fun _ => ()) P W 0 (fun _ => true) false fuel t cs.toList = some (d, p)) /\
  ∃ q, DataW.LaidVars P W r q /\ q.Nodup /\ ∀ b off, MemPlace.cell b off ∈ q -> R b off := by
 obtain ⟨g, t, cs, fuel, p, q, h1, h2, h3, h4, h5, rfl⟩ := h
 exact ⟨⟨g, t, cs, fuel, p, h1, h2, h3, h4⟩, q, h5, List.Nodup.sublist (List.sublist_append_right _ _) hnd, fun b off hm => hr b off (List.mem_append_right _ hm)⟩
theorem aCa {H : Type} : ∀ (xs : List ByteArray) (ys : List (List UInt8)), xs.map (fun s => (DataW.lit (.string s.data.toList) : DataW H)) = ys.map (fun y => .lit (.string y)) -> xs.map (·.data.toList) = ys
 | [], [], _ => rfl
 | [], _ :: _, h => by simp at h
 | _ :: _, [], h => by simp at h
 | x :: xs, y :: ys, h => by
  simp only [List.map_cons, List.cons.injEq] at h ⊢
  obtain ⟨h1, h2⟩ := h
  exact ⟨by injection h1 with h1; injection h1, aCa xs ys h2⟩
theorem aI7 {W : World} (h : ∃ g t cs fuel p, Tryz.prog.globalNamed "evictor/evictorref.words" = some g /\ (Tryz.prog.globals[g]?).map (·.type) = some t /\ W.var? Tryz.prog "evictor/evictorref.words" = some cs /\ DataW.trod (fun _ => ()) Tryz.prog W 0 (fun _ => true) false fuel t cs.toList = some (Rows.laid_evictor_evictorref_words, p)) : ∃ g, Wd W g := by
 obtain ⟨g, t, cs, fuel, p, h1, h2, h3, h4⟩ := h
 obtain rfl := Option.some.inj (Tryz.gw.symm.trans h1)
 obtain rfl := Option.some.inj (Tryz.gwt.symm.trans h2)
 obtain ⟨cl⟩ := cs
 rcases open_strings Tryz.underlying120 Tryz.underlying9 Tryz.cellsS h4 with ⟨_, hx⟩ | ⟨a, len, cap, ss, hcs, _, hl, _, hn, hx, hc, _⟩
 ·cases hx
 ·simp only [if_true] at hn
  have hx1 : (Rows.laid_evictor_evictorref_words : DataW Unit) = .slice (strs (ss.take len)) (strs (ss.drop len)) := congrArg Prod.fst hx
  have hd : (Rows.laid_evictor_evictorref_words : DataW Unit) = .slice (iM.map fun y => .lit (.string y)) [] := rfl
  rw [hd] at hx1
  injection hx1 with e1 e2
  have hdr : ss.drop len = [] := by
   have := congrArg List.length e2
   simp only [List.length_nil, strs, List.length_map] at this
   exact List.length_eq_zero_iff.1 this.symm
  have htk : ss.take len = ss := by
   have := List.take_append_drop len ss
   rw [hdr, List.append_nil] at this
   exact this
  rw [htk] at e1
  have hss := aCa (H := Unit) ss iM e1.symm
  have hlen : ss.length = 24 := by
   have := congrArg List.length hss
   rw [List.length_map] at this
   exact this
  have hle : len = 24 := by
   have := congrArg List.length hdr
   simp only [List.length_drop, List.length_nil] at this
   omega
  have hcap : cap = 24 := by omega
  subst hle hcap
  obtain ⟨b, off, spot⟩ := a
  have hspot : spot = none := by simpa [Addr.add] using World.cell?_spot (hc 0 (by omega))
  subst hspot
  have hcs : cl = [.slice (some ⟨b, off, none⟩) 24 24] := hcs
  subst hcs
  refine ⟨b, off, ?_, fun k hk => ?_⟩
  ·simpa using World.var?_cell Tryz.gw h3 0
  ·have h5 := hc k (by omega)
   have e5 : (⟨b, off, none⟩ : Addr).add k = ⟨b, off + k, none⟩ := by unfold Addr.add; split <;> simp_all
   rw [e5] at h5
   rw [h5]
   have e6 : ss.getD k ByteArray.empty = ss[k]'(by omega) := by rw [List.getD_eq_getElem?_getD, List.getElem?_eq_getElem (by omega)]; rfl
   have e7 : (ss.map (·.data.toList))[k]'(by simp; omega) = iM[k]'(by exact hk) := List.getElem_of_eq hss (by simp; omega)
   rw [List.getElem_map] at e7
   rw [e6, <- e7]
theorem Tryz.gp : Tryz.prog.globalNamed "internal/strconv.uint64pow10" = some 16 := by kernel_rfl
theorem Tryz.gpt : (Tryz.prog.globals[16]?).map (·.type) = some 333 := by kernel_rfl
theorem Tryz.cellsP : Tryz.prog.cellsOf 333 = 20 := by kernel_rfl
theorem aP4 {W : World} (h : ∃ g t cs fuel p, Tryz.prog.globalNamed "internal/strconv.uint64pow10" = some g /\ (Tryz.prog.globals[g]?).map (·.type) = some t /\ W.var? Tryz.prog "internal/strconv.uint64pow10" = some cs /\ DataW.trod (fun _ => ()) Tryz.prog W 0 (fun _ => true) false fuel t cs.toList = some (Rows.laid_internal_strconv_uint64pow10, p)) : Tb W.heap.size W := by
 obtain ⟨g, t, cs, fuel, p, h1, h2, h3, h4⟩ := h
 obtain rfl := Option.some.inj (Tryz.gp.symm.trans h1)
 obtain rfl := Option.some.inj (Tryz.gpt.symm.trans h2)
 have e : (Rows.laid_internal_strconv_uint64pow10 : DataW Unit) = Lib.tabData .u64 Lib.pow10Tab := by kernel_rfl
 rw [e] at h4
 have hc := Lib.cells_of_tab Tryz.underlying333 Tryz.underlying26 Tryz.cellsU Tryz.cellsP h4
 refine Lib.tabBelow_of_tabIs (w := W) ?_
 unfold Lib.TabIs
 rw [h3, <- hc]
theorem Z8 {W : World} (h : laidMetH Tryz.prog Rows.textsRow.laid W) : ∃ A g, Sent W A /\ Wd W g /\ Tb W.heap.size W := by
 unfold laidMetH at h
 rw [aCb, aEc] at h
 obtain ⟨⟨ps, hv, hnd, hrows⟩, hh⟩ := h
 obtain ⟨hw, q0, hv0, aTs, hr0⟩ := sJ hv hnd hrows
 obtain ⟨_, q1, hv1, hnd1, hr1⟩ := sJ hv0 aTs hr0
 obtain ⟨_, q2, hv2, aTr, hr2⟩ := sJ hv1 hnd1 hr1
 obtain ⟨hpw, q3, hv3, aTq, hr3⟩ := sJ hv2 aTr hr2
 obtain ⟨wg, hwd⟩ := aI7 hw
 have hg : ∀ x ∈ U1, ∃ g, Tryz.prog.globalNamed x.1 = some g /\ (Tryz.prog.globals[g]?).map (·.type) = some 65 := by
  intro x hx
  obtain ⟨k, hk, rfl⟩ := List.mem_iff_getElem.1 hx
  have := aF0 k hk
  rw [List.getElem?_eq_getElem hk] at this
  simp only [Option.map_some, Option.some.injEq, Prod.mk.injEq] at this
  exact ⟨gOf k, this.1, this.2⟩
 obtain ⟨As, h1, h2, h3, h4⟩ := V8 Tryz.underlying65 Tryz.rowE Tryz.underlying341 Tryz.underlying360 rfl rfl Tryz.underlying9 Tryz.cellsE Tryz.cellsS U1 q3 hg hv3 aTq hr3
 have hl : As.length = 13 := h1
 have hp : ∀ i, i < 12 \/ i = 14 -> posOf i < 13 /\ gOf (posOf i) = i := by
  intro i hi
  have h0 : ∀ i, i < 12 -> posOf i < 13 /\ gOf (posOf i) = i := by decide
  rcases hi with hi | rfl
  ·exact h0 i hi
  ·decide
 refine ⟨fun i => As.getD (posOf i) default, wg, ⟨?_, ?_, ?_, ?_⟩, hwd, aP4 hpw⟩
 ·intro i i1
  obtain ⟨p1, p2⟩ := hp i i1
  have hs := aF0 (posOf i) p1
  have hk : posOf i < U1.length := p1
  rw [List.getElem?_eq_getElem hk] at hs
  simp only [Option.map_some, Option.some.injEq, Prod.mk.injEq, p2] at hs
  have hx := h4 (posOf i) _ (As[posOf i]'(by omega)) (List.getElem?_eq_getElem hk) (List.getElem?_eq_getElem (by omega))
  have := World.var?_cell hs.1 hx 0
  rw [List.getD_eq_getElem?_getD, List.getElem?_eq_getElem (by omega)]
  simpa using this
 ·intro i i1
  obtain ⟨p1, p2⟩ := hp i i1
  rw [List.getD_eq_getElem?_getD, List.getElem?_eq_getElem (by omega)]
  exact (h3 _ (List.getElem_mem (by omega))).2
 ·intro i j i1 j1 e
  obtain ⟨p1, p2⟩ := hp i i1
  obtain ⟨q1, q2⟩ := hp j j1
  simp only [List.getD_eq_getElem?_getD] at e
  rw [List.getElem?_eq_getElem (by omega), List.getElem?_eq_getElem (by omega)] at e
  simp only [Option.getD_some] at e
  have hpw := List.pairwise_iff_getElem.1 h2
  have : posOf i = posOf j := by
   rcases Nat.lt_trichotomy (posOf i) (posOf j) with h | h | h
   ·exact absurd e (hpw _ _ (by omega) (by omega) h)
   ·exact h
   ·exact absurd e.symm (hpw _ _ (by omega) (by omega) h)
  rw [<- p2, <- q2, this]
 ·obtain ⟨name, u, ty, e1, e2, e3, e4, e5⟩ := hh _ (List.mem_singleton.2 rfl)
  have en : name = [101, 114, 114, 111, 114] := (Option.some.inj e1).symm
  subst en
  obtain rfl := Option.some.inj (Tryz.rt.symm.trans e2)
  have hm : ty ∈ (List.range 372).filter fun t => Tryz.prog.rowNamed t [101, 114, 114, 111, 114] := List.mem_filter.2 ⟨List.mem_range.2 (by rw [<- Tryz.size]; exact e3), e4⟩
  rw [Tryz.oneRow] at hm
  obtain rfl := List.mem_singleton.1 hm
  rw [Tryz.handleE] at e5
  simpa using World.var?_cell Tryz.et e5 0
theorem open_script {H : Type} {enc : TypeId × Value -> H} {W : World} {fuel len cap : Nat} {a0 : Option Addr} {x : DataW H × List MemPlace} (h : DataW.trod enc Tryz.prog W 0 (fun _ => true) true fuel 22 [.slice a0 len cap] = some x) :
  (0 < len -> ∃ es sp, x.1 = .slice es sp /\ es.length = len) /\ ∃ T : Nat -> Sop, 0 < len -> ∃ b o, a0 = some ⟨b, o, none⟩ /\ b < W.heap.size /\ ∀ i, i < len -> W.rangeAt b (o + i * 4) (aDu (T i)) /\ -9223372036854775808 <= (T i).a /\ (T i).a <= 9223372036854775807 := by
 rcases Deep.open_slice Tryz.underlying22 h with ⟨hcs, _⟩ | ⟨a, len', cap', m, n, D, Pl, hcs, _, hl, _, hmm, hx, he⟩
 ·simp at hcs
  obtain ⟨_, rfl, _⟩ := hcs
  exact ⟨fun h => by omega, fun _ => ⟨0, 0, 0, []⟩, fun h => by omega⟩
 ·simp at hcs
  obtain ⟨rfl, rfl, rfl⟩ := hcs
  simp only [if_true] at hmm
  subst hmm
  refine ⟨fun _ => ⟨_, _, by rw [hx], by simp⟩, ?_⟩
  have each : ∀ i, i < len -> ∃ t : Sop, (∀ j v, (aDu t)[j]? = some v -> W.cell? (a.add (i * 4 + j)) = some v) /\ -9223372036854775808 <= t.a /\ t.a <= 9223372036854775807 := by
   intro i hi
   obtain ⟨cs', h1, h2⟩ := he i (by omega)
   rw [Tryz.cellsO] at h1
   obtain ⟨_, hlen, hcell⟩ := World.cells?_some h1
   obtain ⟨xs, k, hk, hxy, _, hxl, hf⟩ := DataW.trod_struct Tryz.underlying28 h2
   match xs, hxl, cs', hlen with
   | [y0, y1, y2, y3], _, [v0, v1, v2, v3], _ =>
    have g0 := hf 0 _ rfl
    have g1 := hf 1 _ rfl
    have g2 := hf 2 _ rfl
    have g3 := hf 3 _ rfl
    simp [Tryz.cellsI, Tryz.cellsU, Tryz.cellsS] at g0 g1 g2 g3
    obtain ⟨z0, e0, _⟩ := DataW.trod_int Tryz.underlying3 g0
    obtain ⟨z1, e1, _, r1⟩ := DataW.trod_int Tryz.underlying3 g1
    obtain ⟨z2, e2, _⟩ := DataW.trod_int Tryz.underlying26 g2
    obtain ⟨s3, e3, _⟩ := DataW.trod_string Tryz.underlying9 g3
    simp at e0 e1 e2 e3
    subst e0 e1 e2 e3
    have r1 : (decide ((-9223372036854775808 : Int) <= z1) && decide (z1 <= 9223372036854775807)) = true := r1
    simp only [Bool.and_eq_true, decide_eq_true_eq] at r1
    refine ⟨⟨z0, z1, z2, s3.data.toList⟩, fun j v hv => ?_, r1⟩
    have hj : j < 4 := by have := (List.getElem?_eq_some_iff.1 hv).1; simpa using this
    have hc := hcell j hj
    rw [Deep.add_add] at hc
    rw [hc, <- hv]
  haveI : Inhabited Sop := ⟨⟨0, 0, 0, []⟩⟩
  obtain ⟨T, hT⟩ := Deep.choose_lt (α := Sop) each
  refine ⟨T, fun hpos => ?_⟩
  obtain ⟨b, o, spot⟩ := a
  have h00 := (hT 0 hpos).1 0 _ rfl
  have hspot : spot = none := by simpa [Addr.add] using World.cell?_spot h00
  subst hspot
  refine ⟨b, o, rfl, cell_lt (k := b) (o := o) (v := .int .i64 (T 0).k) (by simpa [Addr.add] using h00), fun i hi => ⟨fun j v hv => ?_, (hT i hi).2⟩⟩
  have h5 := (hT i hi).1 j v hv
  have e5 : (⟨b, o, none⟩ : Addr).add (i * 4 + j) = ⟨b, o + i * 4 + j, none⟩ := by unfold Addr.add; split <;> simp_all <;> omega
  rw [e5] at h5
  exact h5
end
end Go.Proofs.YtfddoieakfpagaaGreatDoor
