import Derived.Deep.DeepCutAuto
import Derived.Deep.OwnRows
import Derived.Test.YtfddoieakfpagaaGreatDoorGG
import Derived.Test.YtfddoieakfpagaaGreatDoorGJ
import Derived.Test.YtfddoieakfpagaaGreatDoorGI
import Derived.Test.YtfddoieakfpagaaGreatDoorGH
import Derived.Test.YtfddoieakfpagaaGreatDoorGD
namespace Go.Proofs.YtfddoieakfpagaaGreatDoor
set_option maxHeartbeats 4000000
set_option maxRecDepth 20000
open Go.RowKit
section
variable {w w' : World} {rb pb tb lo lo2 cap gr gh : Nat} {l : List UInt8} {TL : List Tok} {s : Rs}
variable {la : Option Addr} {lc : Nat} {L : List DL} {fr : Nat} {RA : Array Value} {Mv : Value} {p : Pm}
theorem But.aKf (h : But rb w w') (h1 : lo <= rb) (h2 : lo <= w.heap.size) : Below lo w w' := ⟨h.os, h.tape, h.output, h.size, fun k hk => h.block k (Nat.lt_of_lt_of_le hk h2) (by omega)⟩
def M20 (w : World) (rb pb tb lo cap : Nat) (l : List UInt8) (TL : List Tok) (s : Rs) (wx : World) : Prop := Rd wx rb pb tb lo cap l TL s /\ But rb w wx
theorem Y3 {gh k : Nat} {w : World} {has : List Bool} (h : w.heap[gh]? = some (.cells (has.map Value.bool).toArray 4)) (hk : k < has.length) : w.cell? ⟨gh, k, none⟩ = some (.bool (has.getD k false)) /\ w.frozen? ⟨gh, k, none⟩ = false := by
 obtain ⟨c, cf⟩ := aA h
 refine ⟨?_, cf k⟩
 rw [c k]
 simp [List.getD_eq_getElem?_getD, hk]
theorem aGj (gh n k : Nat) (hk : k < n) : ∀ W : World, (Instr.indexAt 79 (.slice (some ⟨gh, 0, none⟩) n n) (.int .i64 k)).run Tryz.prog W = .ok (.pointer (some ⟨gh, k, none⟩)) W := by
 intro W
 rw [run_indexAt_slice (h := by kernel_rfl), if_pos (by omega)]
 have : (sizeOf (Tryz.prog.elem 79)).run Tryz.prog W = .ok 1 W := by kernel_rfl
 rw [this]
 simp [Result.andThen, Addr.add]
 try omega
theorem aKj (gh n k : Nat) (hk : k < n) : ∀ W : World, (Instr.indexAt 78 (.slice (some ⟨gh, 0, none⟩) n n) (.int .i64 k)).run Tryz.prog W = .ok (.pointer (some ⟨gh, k, none⟩)) W := by
 intro W
 rw [run_indexAt_slice (h := by kernel_rfl), if_pos (by omega)]
 have : (sizeOf (Tryz.prog.elem 78)).run Tryz.prog W = .ok 1 W := by kernel_rfl
 rw [this]
 simp [Result.andThen, Addr.add]
 try omega
theorem aHu (h : Rd w rb pb tb lo cap l TL s) (q : Pq w rb pb tb lo lo2 gr gh la lc L fr RA Mv p) (hc : Ch l TL) (hk : s.k < TL.length) (hb : s.bad = 0) (hop : bD (cur TL s) = [111, 110]) (hd : s.deep = 0) (hlo : s.loops = 0) :
  Calls Tryz.prog 44 #[ptr rb] w fun e w' => e = .returned (.tuple #[]) /\ Rd w' rb pb tb lo cap l TL (s.dS l TL L p).2 /\ (∃ RA' Mv', Pq w' rb pb tb lo lo2 gr gh la lc L fr RA' Mv' (s.dS l TL L p).1) /\ Below lo w w' := by
 have hlen := h.len
 have hlL := q.pl.len
 have hka := hc.aG hk hop (by decide) (by decide)
 have hg := yI (L := L) hc hka p
 have hkB := hg.1.2
 have hdB : (s.jI l TL L p).deep = 0 := hg.2.1.trans hd
 have hlB : (s.jI l TL L p).loops = 0 := hg.2.2.trans hlo
 have HV : Hid (s.dS l TL L p = (p.step (s.nG l TL L).1 (Rs.blk l TL L 8 (s.jI l TL L p)).1, (Rs.blk l TL L 8 (s.jI l TL L p)).2)) := rfl
 have HB : Hid (s.jI l TL L p = if p.twice (s.nG l TL L).1 = true then (s.nG l TL L).2.note 8 (cur TL s).pos else (s.nG l TL L).2) := rfl
 have HA : Hid (s.nG l TL L = if s.bad = 0 /\ bD (cur TL s.aG) = [109, 105, 115, 115] then ((true, 0), s.aG.aG) else ((false, (s.aG.bG l (cur TL s.aG) L false).1), (s.aG.bG l (cur TL s.aG) L false).2)) := rfl
 have ht := aT hk
 obtain ⟨⟨k0, k1, k2⟩, hix⟩ := h.tok ht
 obtain ⟨c, cf⟩ := aA h.at'
 generalize s.dS l TL L p = v at *
 generalize s.jI l TL L p = sB at *
 have BL := aJu (la := la) (lc := lc) (L := L) (fr := fr) (rb := rb) (pb := pb) (tb := tb) (lo := lo) (cap := cap) (Rv := .slice (some ⟨gr, 0, none⟩) L.length L.length) (Hv := .slice (some ⟨gh, 0, none⟩) L.length L.length) (Mv := Mv) (ms := p.ms) hc 8
 have H1 := h.drew.set 1 (.int .i64 (s.k + 1 : Nat)) s.aG rfl
 have B1 := ((But.refl rb w).drew).own 1 (.int .i64 (s.k + 1 : Nat))
 have hlt : s.k < TL.length := hk
 go_enter Tryz.func44, Tryz.ntmps44
 go_wp2_with fail
 generalize bD (cur TL s) = y at *
 generalize bF l (cur TL s).pos = z at *
 go_region
 go_wp2_with fail
 clear k0 k1 k2 hix c cf
 by_cases cm : s.bad = 0 /\ bD (cur TL s.aG) = [109, 105, 115, 115]
 ·have eA : s.nG l TL L = ((true, 0), s.aG.aG) := by rw [HA.out, if_pos cm]
  rw [eA] at HV HB
  have HT := lG H1 hka [109, 105, 115, 115] cm
  clear eA HA cm
  refine HT.mono ?_
  rintro e w2 ⟨rfl, H2, B2'⟩
  have B2 := B1.trans B2'
  have Q2 := q.but B2
  obtain ⟨c, cf⟩ := aA H2.at'
  obtain ⟨dp, dpf⟩ := aA Q2.pl.at'
  clear HT H1 B1 B2'
  generalize s.aG.aG = s2 at *
  generalize (cur TL s).pos = kp at *
  go_upto_region 6 with fail
  go_cut [67] (fun v wx => v = .bool p.ms /\ wx = w2)
  case first =>
   generalize p.ms = pms at *
   cases pms with
   | true =>
    go_wp2_with fail
    go_meet
    exact ⟨rfl, rfl⟩
   | false =>
    go_wp2_with fail
    go_meet
    exact ⟨rfl, rfl⟩
  case rest =>
  obtain ⟨rfl, rfl⟩ := hcut
  go_upto_if 67 with fail
  go_cut [] (fun wx => M20 w rb pb tb lo cap l TL sB wx)
  case first =>
   cases hm : p.ms with
   | true =>
    have e3 : sB = s2.note 8 kp := by rw [HB.out]; show (if p.ms = true then _ else _) = _; rw [if_pos hm]
    have HN := jD H2 8 kp
    rw [<- e3] at HN
    clear e3 HV HB
    go_wp2_with fail
    refine HN.mono ?_
    rintro e w4 ⟨rfl, H4, N4⟩
    go_wp2_with fail
    go_meet
    exact ⟨H4, B2.trans N4⟩
   | false =>
    have e3 : sB = s2 := by rw [HB.out]; show (if p.ms = true then _ else _) = _; rw [hm]; rfl
    go_wp2_with fail
    go_meet
    rw [e3]
    exact ⟨H2, B2⟩
  case rest =>
  obtain ⟨H3, B3⟩ := hcut
  have Q3 := q.but B3
  have HK := BL wc sB H3 Q3.pl hkB (by omega) (by omega)
  clear BL c cf dp dpf Q2 H2 B2
  generalize Rs.blk l TL L 8 sB = bk at *
  go_wp2_with fail
  refine HK.mono ?_
  rintro e w4 ⟨bv, rfl, hs4, H4, B4, _⟩
  obtain ⟨ba, bn, bc, rfl⟩ := dI.form 8 _ _ hs4
  have Q4 := Q3.but B4
  obtain ⟨c, cf⟩ := aA H4.at'
  obtain ⟨dp, dpf⟩ := aA Q4.pl.at'
  have W1 := (zC _ _ 5 (.bool true) _ _ Q4.pl.at')
  have R1 := H4.other pb 5 (.bool true) q.pl.ne q.d3.2.2.2.2.2.2.2
  obtain ⟨dp1, aT7⟩ := aA W1
  obtain ⟨c1, cf1⟩ := aA R1.at'
  have d1 := Q3.d1
  have hsm : dI 8 w4 (fun g => lo2 <= g) (.slice ba bn bc) bk.1 := dI.mono 8 (fun g hg => by omega) _ _ hs4
  have hv := HV.out
  subst hv
  clear HV HB HK hs4
  go_wp2_with fail
  refine fH rfl rfl ⟨rfl, R1.other pb 4 _ q.pl.ne q.d3.2.2.2.2.2.2.2, ⟨_, _, Q4.miss _ _ hsm⟩, ?_⟩
  exact (((B3.trans B4).aKf q.d2.2.2.1 (by have := q.d1; have := q.d2; omega)).setCell q.d2.2.2.2 _).setCell q.d2.2.2.2 _
 ·have eA : s.nG l TL L = ((false, (s.aG.bG l (cur TL s.aG) L false).1), (s.aG.bG l (cur TL s.aG) L false).2) := by rw [HA.out, if_neg cm]
  rw [eA] at HV HB
  have HT := lH H1 hka [109, 105, 115, 115] cm
  clear eA HA cm
  refine HT.mono ?_
  rintro e w2 ⟨rfl, H2, B2'⟩
  have B2 := B1.trans B2'
  have Q2 := q.but B2
  have HM := eP H2 Q2.pl (aT hka) false
  have hq1 : (s.aG.bG l (cur TL s.aG) L false).1 <= 701 := by
   unfold Rs.bG
   split
   ·exact Nat.zero_le _
   ·rename_i k hk2
    have := vK L _ k hk2
    show k <= 701
    omega
  generalize s.aG.bG l (cur TL s.aG) L false = nq at *
  clear HT H1 B1 B2'
  generalize (cur TL s).pos = kp at *
  go_wp2_with fail
  refine HM.mono ?_
  rintro e w3 ⟨rfl, H3, B3'⟩
  have B3 := B2.trans B3'
  have Q3 := q.but B3
  obtain ⟨c, cf⟩ := aA H3.at'
  obtain ⟨dp, dpf⟩ := aA Q3.pl.at'
  clear HM B3' Q2 H2 B2
  go_upto_region 6 with fail
  go_cut [67] (fun v wx => v = .bool (p.has.getD nq.1 false) /\ wx = w3)
  case first =>
   by_cases hlt : nq.1 < L.length
   ·have hb1 : decide ((nq.1 : Int) < (L.length : Int)) = true := by simp; omega
    obtain ⟨ch, cfh⟩ := Y3 Q3.h (by rw [q.hs]; exact hlt)
    have hi := aGj gh L.length nq.1 hlt
    go_wp2_with fail
    go_meet
    exact ⟨rfl, rfl⟩
   ·have hb1 : decide ((nq.1 : Int) < (L.length : Int)) = false := by simp; omega
    have e0 : p.has.getD nq.1 false = false := by
     rw [List.getD_eq_getElem?_getD, List.getElem?_eq_none (by rw [q.hs]; omega)]; rfl
    go_wp2_with fail
    go_meet
    exact ⟨by rw [e0], rfl⟩
  case rest =>
  obtain ⟨rfl, rfl⟩ := hcut
  go_upto_if 67 with fail
  go_cut [] (fun wx => M20 w rb pb tb lo cap l TL sB wx)
  case first =>
   cases hm : p.has.getD nq.1 false with
   | true =>
    have e3 : sB = nq.2.note 8 kp := by rw [HB.out]; show (if p.has.getD nq.1 false = true then _ else _) = _; rw [if_pos hm]
    have HN := jD H3 8 kp
    rw [<- e3] at HN
    clear e3 HV HB
    go_wp2_with fail
    refine HN.mono ?_
    rintro e w4 ⟨rfl, H4, N4⟩
    go_wp2_with fail
    go_meet
    exact ⟨H4, B3.trans N4⟩
   | false =>
    have e3 : sB = nq.2 := by rw [HB.out]; show (if p.has.getD nq.1 false = true then _ else _) = _; rw [hm]; rfl
    go_wp2_with fail
    go_meet
    rw [e3]
    exact ⟨H3, B3⟩
  case rest =>
  clear H3 B3 Q3 c cf dp dpf
  obtain ⟨H3, B3⟩ := hcut
  have Q3 := q.but B3
  have HK := BL wc sB H3 Q3.pl hkB (by omega) (by omega)
  clear BL
  generalize Rs.blk l TL L 8 sB = bk at *
  go_wp2_with fail
  refine HK.mono ?_
  rintro e w4 ⟨bv, rfl, hs4, H4, B4, _⟩
  obtain ⟨ba, bn, bc, rfl⟩ := dI.form 8 _ _ hs4
  have Q4 := Q3.but B4
  obtain ⟨c, cf⟩ := aA H4.at'
  obtain ⟨dp, dpf⟩ := aA Q4.pl.at'
  have d1 := Q3.d1
  have d3 := q.d3
  have hsm : dI 8 w4 (fun g => lo2 <= g) (.slice ba bn bc) bk.1 := dI.mono 8 (fun g hg => by omega) _ _ hs4
  have HV2 : Hid (v = (p.step (false, nq.1) bk.1, bk.2)) := HV
  clear HV HB HK hs4
  have bB : Below lo w w4 := (B3.trans B4).aKf q.d2.2.2.1 (by have := q.d1; have := q.d2; omega)
  by_cases hlt : nq.1 < L.length
  ·have hb1 : decide ((nq.1 : Int) < (L.length : Int)) = true := by simp; omega
   obtain ⟨ch, cfh⟩ := Y3 Q4.h (by rw [q.hs]; exact hlt)
   have hi := aGj gh L.length nq.1 hlt
   have hj := aKj gr L.length nq.1 hlt
   have W1 := zC _ _ nq.1 (.bool true) _ _ Q4.h
   have W2 := (zS w4 ⟨gh, nq.1, none⟩ (.bool true) gr d3.1).trans Q4.r
   have W3 := (zS w4 ⟨gh, nq.1, none⟩ (.bool true) pb (Ne.symm d3.2.2.2.2.1)).trans Q4.pl.at'
   have R1 := H4.other gh nq.1 (.bool true) d3.2.2.1 d3.2.2.2.2.2.2.1
   obtain ⟨c1, cf1⟩ := aA R1.at'
   obtain ⟨dp1, aT7⟩ := aA W3
   have hgr : (w4.setCell ⟨gh, nq.1, none⟩ (.bool true)).cell? ⟨gr, nq.1, none⟩ = some (RA.getD nq.1 aF) := by
    rw [(aA W2).1 nq.1, Array.getD_eq_getD_getElem?, Array.getElem?_eq_getElem (by rw [q.rs]; exact hlt)]; rfl
   have hgf : (w4.setCell ⟨gh, nq.1, none⟩ (.bool true)).frozen? ⟨gr, nq.1, none⟩ = false := (aA W2).2 _
   have e1 : p.step (false, nq.1) bk.1 = { p with has := p.has.set nq.1 true, dS := p.dS.set nq.1 bk.1 } := by
    unfold Pm.step
    rw [if_neg (by simp), if_pos (by rw [q.hs]; exact hlt)]
   have hv := HV2.out
   rw [e1] at hv
   subst hv
   clear HV2 e1
   generalize RA.getD nq.1 aF = aU8 at *
   go_wp2_with fail
   refine fH rfl rfl ⟨rfl, R1.other gr nq.1 _ d3.2.1 d3.2.2.2.2.2.1, ⟨_, _, Q4.put nq.1 hlt _ _ hsm⟩, ?_⟩
   exact (bB.setCell q.d2.2.1 _).setCell q.d2.1 _
  ·have hb1 : decide ((nq.1 : Int) < (L.length : Int)) = false := by simp; omega
   have e1 : p.step (false, nq.1) bk.1 = p := by
    unfold Pm.step
    rw [if_neg (by simp), if_neg (by rw [q.hs]; exact hlt)]
   have hv := HV2.out
   rw [e1] at hv
   subst hv
   clear HV2 e1
   go_wp2_with fail
   exact fH rfl rfl ⟨rfl, H4, ⟨_, _, Q4⟩, bB⟩
end
section
variable {w w' : World} {rb pb tb lo lo2 cap gr gh : Nat} {l : List UInt8} {TL : List Tok} {s : Rs}
variable {la : Option Addr} {lc : Nat} {L : List DL} {fr : Nat} {RA : Array Value} {Mv : Value} {p : Pm}
theorem aBx (h : Rd w rb pb tb lo cap l TL s) (hk : s.k < TL.length) (x : List UInt8) :
  Calls Tryz.prog 42 #[ptr rb, S x] w (Ro w rb pb tb lo cap l TL (.bool (decide (s.bad = 0) && (bD (cur TL s) == x))) s) := by
 by_cases hb : s.bad = 0
 ·have := qY h hb (aT hk) x
  simpa [hb] using this
 ·have := x8 h hb x
  simpa [hb] using this
theorem aOa (s : Rs) : (s.lY l TL).2.aO = s.aO + 1 := by
 have h0 : (s.eF TL).aO = s.aO + 1 := by unfold Rs.eF; split; (rw [yK]); rfl
 unfold Rs.lY
 simp only
 rw [qC, aEn, h0]
theorem aN9 (s : Rs) (L : List DL) (kd : List UInt8) : (s.jV l TL L kd).2.aO = s.aO := by
 have h2 : (s.kR l TL L).aO = s.aO := by unfold Rs.kR; split; (rw [yK, qC]; rfl); (rw [qC]; rfl)
 have h3 : (s.fA l TL L).aO = s.aO := by unfold Rs.fA; split; (rw [yK, h2]); exact h2
 unfold Rs.jV
 simp only
 rw [qC, aEn, h3]
structure J1 (w wr : World) (rb pb tb cap : Nat) (l : List UInt8) (TL : List Tok) (s : Rs) (la : Option Addr) (lc : Nat) (L : List DL) (fr f : Nat) : Prop where
 rd : Rd wr rb pb tb w.heap.size cap l TL s
 pl : Pl wr rb pb w.heap.size la lc L fr aF aF aF false
 bl : Below w.heap.size w wr
 ne : ∀ g, (Value.slice la L.length lc).ownBlock = some g -> g ≠ pb /\ g ≠ tb
 k : s.k < TL.length
 fuel : TL.length + 1 <= f + s.k
 len : L.length <= s.k
 fq : s.aO <= s.k
 deep : s.deep = 0
 loops : s.loops = 0
theorem J1.but {wr wx : World} {f : Nat} (j : J1 w wr rb pb tb cap l TL s la lc L fr f) (hr : w.heap.size <= rb) (hb : But rb wr wx) (h : Rd wx rb pb tb w.heap.size cap l TL s) : J1 w wx rb pb tb cap l TL s la lc L fr f :=
 ⟨h, j.pl.but hb, j.bl.trans (hb.aKf hr j.bl.size), j.ne, j.k, j.fuel, j.len, j.fq, j.deep, j.loops⟩
theorem aH0 {wr : World} {f : Nat} (j : J1 w wr rb pb tb cap l TL s la lc L fr (f + 1)) (hc : Ch l TL) (hr : w.heap.size <= rb) (hp : w.heap.size <= pb) (hpt : pb ≠ tb) (hb : s.bad = 0) (hd : iD (bD (cur TL s)) = true) :
  Calls Tryz.prog 43 #[ptr rb] wr fun e w' => e = .returned (.tuple #[]) /\ ∃ s' la' lc' L' fr', Rs.dZ l TL (f + 1) s L fr = Rs.dZ l TL f s' L' fr' /\ J1 w w' rb pb tb cap l TL s' la' lc' L' fr' f := by
 have hlen := j.rd.len
 have jk := j.k
 have jf := j.fuel
 have jl := j.len
 have jq := j.fq
 by_cases kf : bD (cur TL s) = [102, 114, 101, 113]
 ·have hka := hc.aG j.k kf (by decide) (by decide)
  have g := aAp hc hka
  have hk1 : s.k + 1 <= (s.lY l TL).2.k := g.1.1
  refine (aD3 j.rd j.pl hc j.k kf (by omega) hpt (fun g hg => (j.ne g hg).1)).mono ?_
  rintro e w' ⟨rfl, h1, h2, h3⟩
  refine ⟨rfl, (s.lY l TL).2, la, lc, L, (s.lY l TL).1, ?_, h1, h2, j.bl.trans (h3.low hr hp j.bl.size), j.ne, g.1.2, by omega, by omega, by rw [aOa]; omega, g.2.1.trans j.deep, g.2.2.trans j.loops⟩
  conv => lhs; unfold Rs.dZ
  rw [if_pos ⟨hb, hd⟩, if_pos kf]
 ·have kn : bD (cur TL s) = [113, 117, 101, 117, 101] \/ bD (cur TL s) = [103, 104, 111, 115, 116] \/ bD (cur TL s) = [118, 97, 114] := by
   rcases (oW _).1 hd with h | h
   ·exact h
   ·exact absurd h kf
  have hka : s.aG.k < TL.length := by rcases kn with h | h | h <;> exact hc.aG j.k h (by decide) (by decide)
  have g := aAo (L := L) hc hka (bD (cur TL s))
  have hk1 : s.k + 1 <= (s.jV l TL L (bD (cur TL s))).2.k := g.1.1
  refine (aD2 j.rd j.pl hc j.k (bD (cur TL s)) rfl kn hpt j.ne hr hp (by omega)).mono ?_
  rintro e w' ⟨rfl, h1, ⟨la', lc', h2, h4⟩, h3⟩
  refine ⟨rfl, (s.jV l TL L (bD (cur TL s))).2, la', lc', L ++ [(s.jV l TL L (bD (cur TL s))).1], fr, ?_, h1, h2, j.bl.trans h3, h4, g.1.2, by omega, by simp; omega, by rw [aN9]; omega, g.2.1.trans j.deep, g.2.2.trans j.loops⟩
  conv => lhs; unfold Rs.dZ
  rw [if_pos ⟨hb, hd⟩, if_neg kf]
end
structure J2 (w wr : World) (rb pb tb cap lo2 gr gh : Nat) (l : List UInt8) (TL : List Tok) (s : Rs) (la : Option Addr) (lc : Nat) (L : List DL) (fr : Nat) (p : Pm) (f : Nat) : Prop where
 rd : Rd wr rb pb tb w.heap.size cap l TL s
 pq : ∃ RA Mv, Pq wr rb pb tb w.heap.size lo2 gr gh la lc L fr RA Mv p
 bl : Below w.heap.size w wr
 k : s.k < TL.length
 fuel : TL.length + 1 <= f + s.k
 deep : s.deep = 0
 loops : s.loops = 0
def aUj (w : World) (F : Rs × (List DL × Nat) × Pm) (e : Ending) (w' : World) : Prop :=
 Below w.heap.size w w' /\
 ((kF F.1 F.2.2.ms).1 ≠ 0 /\ e = .returned (.tuple #[.pointer none, .int .i64 (kF F.1 F.2.2.ms).1, .int .i64 (kF F.1 F.2.2.ms).2]) \/
  kF F.1 F.2.2.ms = (0, 0) /\ ∃ rb pb tb lo2 gr gh la lc RA Mv, e = .returned (.tuple #[ptr pb, .int .i64 0, .int .i64 0]) /\ Pq w' rb pb tb w.heap.size lo2 gr gh la lc F.2.1.1 F.2.1.2 RA Mv F.2.2)
theorem aIa (n : Nat) : madeCells #[Value.bool false] n = ((List.replicate n false).map Value.bool).toArray := by
 apply Array.ext
 ·simp [madeCells]
 ·intro i h1 h2
  simp [madeCells, Nat.mod_one]
theorem aIe : (Tryz.prog.info? 4).map (fun i => (i.zero, i.size, i.bytes)) = some (some (.bool false), 1, 1) := by kernel_rfl
theorem aEe : (Tryz.prog.info? 80).map (fun i => (i.zero, i.size, i.bytes)) = some (some aF, 1, 24) := by kernel_rfl
section
variable {w w' : World} {rb pb tb lo lo2 cap gr gh : Nat} {l : List UInt8} {TL : List Tok} {s : Rs}
variable {la : Option Addr} {lc : Nat} {L : List DL} {fr : Nat} {RA : Array Value} {Mv : Value} {p : Pm}
theorem J2.but {wr wx : World} {f : Nat} (j : J2 w wr rb pb tb cap lo2 gr gh l TL s la lc L fr p f) (hr : w.heap.size <= rb) (hb : But rb wr wx) (h : Rd wx rb pb tb w.heap.size cap l TL s) : J2 w wx rb pb tb cap lo2 gr gh l TL s la lc L fr p f :=
 ⟨h, by obtain ⟨RA, Mv, q⟩ := j.pq; exact ⟨RA, Mv, q.but hb⟩, j.bl.trans (hb.aKf hr j.bl.size), j.k, j.fuel, j.deep, j.loops⟩
theorem J1.rows {wr : World} {f : Nat} (j : J1 w wr rb pb tb cap l TL s la lc L fr f) (hr : w.heap.size <= rb) (hp : w.heap.size <= pb) (hpt : pb ≠ tb) (wx : World)
  (h1 : ∀ g, g < wr.heap.size -> g ≠ pb -> wx.heap[g]? = wr.heap[g]?) (h2 : wx.heap[wr.heap.size]? = some (.cells (madeCells #[aF] L.length) 80)) (h3 : wx.heap[wr.heap.size + 1]? = some (.cells (madeCells #[Value.bool false] L.length) 4))
  (h4 : wx.heap[pb]? = some (.cells #[.slice la L.length lc, .int .i64 fr, .slice (some ⟨wr.heap.size, 0, none⟩) L.length L.length, .slice (some ⟨wr.heap.size + 1, 0, none⟩) L.length L.length, aF, .bool false] 82)) :
  Rd wx rb pb tb w.heap.size cap l TL s /\ Pq wx rb pb tb w.heap.size (wr.heap.size + 2) wr.heap.size (wr.heap.size + 1) la lc L fr (madeCells #[aF] L.length) aF (yD L.length) := by
 have hrb : rb < wr.heap.size := (zL j.rd.at')
 have hpb : pb < wr.heap.size := (zL j.pl.at')
 have htb : tb < wr.heap.size := (j.rd.own.lt tb rfl).2
 have hsz : wr.heap.size + 1 < wx.heap.size := (zL h3)
 have hw := j.bl.size
 have R1 : Rd wx rb pb tb w.heap.size cap l TL s := ⟨(h1 rb hrb (Ne.symm j.pl.ne)).trans j.rd.at', aW j.rd.own (fun g hg hl => by
  have : g = tb := by simpa [Value.ownBlock] using hg.symm
  subst this
  exact h1 _ hl (Ne.symm hpt)), j.rd.ne, j.rd.len⟩
 refine ⟨R1, ⟨⟨h4, aW j.pl.own (fun g hg hl => h1 g hl (j.ne g hg).1), j.pl.ne, j.pl.nl, j.pl.len⟩, h2, ?_, size_madeCells _ _, by simp [yD], List.length_replicate, fun k hk => ?_, dI.nil 8 _ _, by omega, by omega, by omega, fun g hg => ?_⟩⟩
 ·rw [h3, aIa]; rfl
 ·have e1 : (madeCells #[aF] L.length).getD k aF = aF := by
   rw [Array.getD_eq_getD_getElem?]
   simp [madeCells, hk, Nat.mod_one]
  have e2 : (yD L.length).dS.getD k (aI 8) = aI 8 := by
   show (List.replicate L.length (aI 8)).getD k (aI 8) = aI 8
   rw [List.getD_eq_getElem?_getD, List.getElem?_replicate]
   split <;> rfl
  rw [e1, e2]
  exact dI.nil 8 _ _
 ·have := (j.pl.own.lt g hg).2
  exact ⟨(j.ne g hg).1, by omega, by omega⟩
end
theorem aJy {w : World} {base n size : Nat} {e : TypeId} {v : Value} {xs : List Value} (h : w.ownsRow base e size v n xs) (hn : 0 < n) : ∃ tb cap, v = .slice (some ⟨tb, 0, none⟩) n cap /\ base <= tb /\ tb < w.heap.size := by
 rcases h.2 with ⟨_, h2⟩ | ⟨g, cap, cur, h1, h2, h3, _⟩
 ·omega
 ·exact ⟨g, cap, h1, h2, (zL h3)⟩
structure M6 (w wx wy : World) (pb : Nat) (A P : Array Value) (T : TypeId) : Prop where
 blk : ∀ g, g < wx.heap.size -> g ≠ pb -> wy.heap[g]? = wx.heap[g]?
 new : wy.heap[wx.heap.size]? = some (.cells A T)
 pol : wy.heap[pb]? = some (.cells P 82)
 size : wy.heap.size = wx.heap.size + 1
 bl : Below w.heap.size w wy
theorem U4 (l : List UInt8) (w : World) (g : Nat) (HG : Wd w g) (TL : List Tok) (hTL : TL = mG l (l.length + 1) 0) (hl : l.length <= 700) :
  Calls Tryz.prog 18 #[S l] w fun e w' => aUj w (qZ l TL) e w' := by
 have HT := aDr l w g HG hl TL hTL
 have hc : Ch l TL := by rw [hTL]; exact yP l
 have hp0 : 0 < TL.length := by rw [hTL]; exact aJh l _ _
 have hlen : TL.length <= 701 := by rw [hTL]; exact Nat.le_trans (aBg l _ _) (by omega)
 clear hTL HG
 have hl7 : decide ((l.length : Int) > 700) = false := by simp; omega
 have ER : Hid (qZ l TL = ((Rs.kM l TL (Rs.dZ l TL (TL.length + 1) nN [] 0).2.1 (TL.length + 1) (Rs.dZ l TL (TL.length + 1) nN [] 0).1 (yD (Rs.dZ l TL (TL.length + 1) nN [] 0).2.1.length)).1.need (cur TL (Rs.kM l TL (Rs.dZ l TL (TL.length + 1) nN [] 0).2.1 (TL.length + 1) (Rs.dZ l TL (TL.length + 1) nN [] 0).1 (yD (Rs.dZ l TL (TL.length + 1) nN [] 0).2.1.length)).1) [101, 110, 100], (Rs.dZ l TL (TL.length + 1) nN [] 0).2, (Rs.kM l TL (Rs.dZ l TL (TL.length + 1) nN [] 0).2.1 (TL.length + 1) (Rs.dZ l TL (TL.length + 1) nN [] 0).1 (yD (Rs.dZ l TL (TL.length + 1) nN [] 0).2.1.length)).2)) := rfl
 generalize qZ l TL = RF at *
 generalize hD : Rs.dZ l TL (TL.length + 1) nN [] 0 = D at *
 have ED : Hid (D = Rs.dZ l TL (TL.length + 1) nN [] 0) := hD.symm
 clear hD
 go_enter Tryz.func18, Tryz.ntmps18
 go_wp2_with fail
 refine HT.mono ?_
 rintro e w1 ⟨v, rfl, B1, hown⟩
 obtain ⟨tb, cap, rfl, aVe, aVd⟩ := aJy hown hp0
 clear HT
 go_wp2_with fail
 have hw1 := B1.size
 have R0 : Rd ((w1.alloc (.cells #[aF, .int .i64 0, aF, aF, aF, .bool false] 82)).alloc (.cells (rsA (.slice (some ⟨tb, 0, none⟩) TL.length cap) w1.heap.size nN) 84)) (w1.heap.size + 1) w1.heap.size tb w.heap.size cap l TL nN :=
  ⟨aC (by simp), aW hown (fun g _ hl => (zM _ _ _ (by simp; omega)).trans (zM _ _ _ hl)), by omega, hlen⟩
 have P0 : Pl ((w1.alloc (.cells #[aF, .int .i64 0, aF, aF, aF, .bool false] 82)).alloc (.cells (rsA (.slice (some ⟨tb, 0, none⟩) TL.length cap) w1.heap.size nN) 84)) (w1.heap.size + 1) w1.heap.size w.heap.size none 0 [] 0 aF aF aF false :=
  ⟨(zM _ _ _ (by simp)).trans (aC rfl), World.ownsRow_nil _ _ _ _, by omega, fun g hg => by simp [Value.ownBlock] at hg, by simp⟩
 have J0 : J1 w ((w1.alloc (.cells #[aF, .int .i64 0, aF, aF, aF, .bool false] 82)).alloc (.cells (rsA (.slice (some ⟨tb, 0, none⟩) TL.length cap) w1.heap.size nN) 84)) (w1.heap.size + 1) w1.heap.size tb cap l TL nN none 0 [] 0 (TL.length + 1) :=
  ⟨R0, P0, (B1.alloc hw1 _).alloc (by simp; omega) _, fun g hg => by simp [Value.ownBlock] at hg, hp0, by show TL.length + 1 <= TL.length + 1 + 0; omega, Nat.zero_le _, Nat.zero_le _, rfl, rfl⟩
 have hr : w.heap.size <= w1.heap.size + 1 := by omega
 have hp : w.heap.size <= w1.heap.size := by omega
 have hpt : w1.heap.size ≠ tb := by omega
 have hrp : w1.heap.size + 1 ≠ w1.heap.size := by omega
 clear R0 P0 hown
 go_loopg [] (TL.length + 1) (fun f wr => ∃ s la lc L fr, J1 w wr (w1.heap.size + 1) w1.heap.size tb cap l TL s la lc L fr f /\ Hid (D = Rs.dZ l TL f s L fr))
 case atStart => exact ⟨nN, none, 0, [], 0, J0, ED⟩
 case round =>
 obtain ⟨s, la, lc, L, fr, j, HD⟩ := hrel
 clear ED J0
 have e8 : (⟨w1.heap.size + 1, 0, none⟩ : Addr) = ⟨w1.heap.size + 1, 0, none⟩ := rfl
 clear e8
 generalize w1.heap.size + 1 = rb at *
 generalize w1.heap.size = pb at *
 have jk := j.k
 have jf := j.fuel
 obtain ⟨fk, rfl⟩ : ∃ fk, gk = fk + 1 := ⟨gk - 1, by omega⟩
 go_upto_region 4 with fail
 go_cut [28] (fun v wx => v = .bool (decide (s.bad = 0) && iD (bD (cur TL s))) /\ J1 w wx rb pb tb cap l TL s la lc L fr (fk + 1))
 case first =>
  have eb : Hid ((decide (s.bad = 0) && iD (bD (cur TL s))) = ((decide (s.bad = 0) && (bD (cur TL s) == [113, 117, 101, 117, 101])) || (decide (s.bad = 0) && (bD (cur TL s) == [103, 104, 111, 115, 116])) || (decide (s.bad = 0) && (bD (cur TL s) == [118, 97, 114])) || (decide (s.bad = 0) && (bD (cur TL s) == [102, 114, 101, 113])))) := by
   show _ = _
   unfold iD
   cases decide (s.bad = 0) <;> simp
  have I1 : ∀ {wz : World}, Rd wz rb pb tb w.heap.size cap l TL s -> _ := fun h => aBx h jk [113, 117, 101, 117, 101]
  have I2 : ∀ {wz : World}, Rd wz rb pb tb w.heap.size cap l TL s -> _ := fun h => aBx h jk [103, 104, 111, 115, 116]
  have I3 : ∀ {wz : World}, Rd wz rb pb tb w.heap.size cap l TL s -> _ := fun h => aBx h jk [118, 97, 114]
  have I4 : ∀ {wz : World}, Rd wz rb pb tb w.heap.size cap l TL s -> _ := fun h => aBx h jk [102, 114, 101, 113]
  generalize (decide (s.bad = 0) && (bD (cur TL s) == [113, 117, 101, 117, 101])) = b1 at *
  generalize (decide (s.bad = 0) && (bD (cur TL s) == [103, 104, 111, 115, 116])) = b2 at *
  generalize (decide (s.bad = 0) && (bD (cur TL s) == [118, 97, 114])) = b3 at *
  generalize (decide (s.bad = 0) && (bD (cur TL s) == [102, 114, 101, 113])) = b4 at *
  go_wp2_with fail
  refine (I1 j.rd).mono ?_
  rintro e wa ⟨rfl, Ha, Ba⟩
  have ja := j.but hr Ba Ha
  cases b1 with
  | true =>
   go_wp2_with fail
   go_meet
   exact ⟨by rw [eb.out]; rfl, ja⟩
  | false =>
  go_wp2_with fail
  refine (I2 Ha).mono ?_
  rintro e wb ⟨rfl, Hb, Bb⟩
  have jb := ja.but hr Bb Hb
  cases b2 with
  | true =>
   go_wp2_with fail
   go_meet
   exact ⟨by rw [eb.out]; rfl, jb⟩
  | false =>
  go_wp2_with fail
  refine (I3 Hb).mono ?_
  rintro e wc ⟨rfl, Hc, Bc⟩
  have jc := jb.but hr Bc Hc
  cases b3 with
  | true =>
   go_wp2_with fail
   go_meet
   exact ⟨by rw [eb.out]; rfl, jc⟩
  | false =>
  go_wp2_with fail
  refine (I4 Hc).mono ?_
  rintro e wd ⟨rfl, Hd, Bd⟩
  have jd := jc.but hr Bd Hd
  go_wp2_with fail
  go_meet
  exact ⟨by rw [eb.out]; rfl, jd⟩
 case rest =>
 obtain ⟨rfl, j⟩ := hcut
 cases hbb : (decide (s.bad = 0) && iD (bD (cur TL s))) with
 | true =>
  have hb2 : s.bad = 0 /\ iD (bD (cur TL s)) = true := by simpa using hbb
  have HX := aH0 j hc hr hp hpt hb2.1 hb2.2
  clear hb2
  go_wp2_with fail
  refine HX.mono ?_
  rintro e wz ⟨rfl, s', la', lc', L', fr', hdd, jz⟩
  have HZ : Hid (D = Rs.dZ l TL fk s' L' fr') := HD.out.trans hdd
  clear hdd HX
  go_wp2_with fail
  go_roundg fk
  case measure => omega
  case rel => exact ⟨s', la', lc', L', fr', jz, HZ⟩
 | false =>
 have hb2 : ¬ (s.bad = 0 /\ iD (bD (cur TL s)) = true) := by intro hh; simp [hh.1, hh.2] at hbb
 have hDD : D = (s, L, fr) := by rw [HD.out, oV _ _ _ _ hb2]
 subst hDD
 clear HD hbb hb2
 have hlL : L.length <= 701 := j.pl.len
 have aSd := fun W => run_make_row' (P := Tryz.prog) 78 80 aF 24 Tryz.underlying78 aEe rfl .i64 .i64 L.length (by omega) (by omega) W
 have aQe := fun W => run_make_row' (P := Tryz.prog) 79 4 (.bool false) 1 Tryz.underlying79 aIe rfl .i64 .i64 L.length (by omega) (by omega) W
 obtain ⟨wq, hwq⟩ : ∃ wq, wq = wc := ⟨wc, rfl⟩
 subst hwq
 have hrb : rb < wq.heap.size := (zL j.rd.at')
 have hpb : pb < wq.heap.size := (zL j.pl.at')
 have hrp : rb ≠ pb := Ne.symm j.pl.ne
 go_upto_region 6 with fail
 go_cut [] (fun wy => M6 w wq wy pb (madeCells #[aF] L.length) #[.slice la L.length lc, .int .i64 fr, .slice (some ⟨wq.heap.size, 0, none⟩) L.length L.length, aF, aF, .bool false] 80)
 case first =>
  obtain ⟨c, cf⟩ := aA j.rd.at'
  obtain ⟨d, df⟩ := aA j.pl.at'
  obtain ⟨c1, cf1⟩ := aA ((zM wq (.cells (madeCells #[aF] L.length) 80) _ hrb).trans j.rd.at')
  have P1 := (zM wq (.cells (madeCells #[aF] L.length) 80) _ hpb).trans j.pl.at'
  obtain ⟨d1, df1⟩ := aA P1
  have N1 : (wq.alloc (.cells (madeCells #[aF] L.length) 80)).heap[wq.heap.size]? = some (.cells (madeCells #[aF] L.length) 80) := aC rfl
  have BL := j.bl
  have BZ := j.bl.size
  generalize madeCells #[aF] L.length = A at *
  clear aQe
  go_region
  all_goals
   go_wp2_with fail
   go_meet
   have hz : (wq.setCell ⟨pb, 2, none⟩ (.slice (some ⟨wq.heap.size, 0, none⟩) L.length L.length)).heap.size = wq.heap.size := by simp [World.setCell]
   exact ⟨fun g hg hne => (zM _ _ _ (by rw [hz]; exact hg)).trans (zS _ _ _ _ hne), aC hz.symm, (zM _ _ _ (by rw [hz]; exact hpb)).trans ((zC _ _ 2 _ _ _ j.pl.at').trans rfl), by show (World.alloc _ _).heap.size = _; simp [hz], mO ((BL.setCell (p := ⟨pb, 2, none⟩) hp _).alloc (by rw [hz]; exact BZ) _)⟩
 case rest =>
 have m1 := hcut
 clear hcut
 have R1 : Rd wc rb pb tb w.heap.size cap l TL s := ⟨(m1.blk rb hrb hrp).trans j.rd.at', aW j.rd.own (fun g hg hl => by
  have : g = tb := by simpa [Value.ownBlock] using hg.symm
  subst this
  exact m1.blk _ hl (Ne.symm hpt)), j.rd.ne, j.rd.len⟩
 have hz1 : Hid (wc.heap.size = wq.heap.size + 1) := m1.size
 have aQd : pb < wc.heap.size := by have := hz1.out; omega
 have aNy : rb < wc.heap.size := by have := hz1.out; omega
 clear aSd
 go_upto_region 7 with fail
 go_cut [] (fun wy => M6 w wc wy pb (madeCells #[.bool false] L.length) #[.slice la L.length lc, .int .i64 fr, .slice (some ⟨wq.heap.size, 0, none⟩) L.length L.length, .slice (some ⟨wc.heap.size, 0, none⟩) L.length L.length, aF, .bool false] 4)
 case first =>
  obtain ⟨c, cf⟩ := aA R1.at'
  obtain ⟨d, df⟩ := aA m1.pol
  obtain ⟨c1, cf1⟩ := aA ((zM wc (.cells (madeCells #[.bool false] L.length) 4) _ aNy).trans R1.at')
  have P1 := (zM wc (.cells (madeCells #[.bool false] L.length) 4) _ aQd).trans m1.pol
  obtain ⟨d1, df1⟩ := aA P1
  have BL := m1.bl
  have BZ := m1.bl.size
  have MP := m1.pol
  generalize madeCells #[.bool false] L.length = A at *
  go_region
  all_goals
   go_wp2_with fail
   go_meet
   have hz : (wc.setCell ⟨pb, 3, none⟩ (.slice (some ⟨wc.heap.size, 0, none⟩) L.length L.length)).heap.size = wc.heap.size := by simp [World.setCell]
   exact ⟨fun g hg hne => (zM _ _ _ (by rw [hz]; exact hg)).trans (zS _ _ _ _ hne), aC hz.symm, (zM _ _ _ (by rw [hz]; exact aQd)).trans ((zC _ _ 3 _ _ _ MP).trans rfl), by show (World.alloc _ _).heap.size = _; simp [hz], mO ((BL.setCell (p := ⟨pb, 3, none⟩) hp _).alloc (by rw [hz]; exact BZ) _)⟩
 case rest =>
 have m2 := hcut
 clear hcut
 have e1 := hz1.out
 have jr := j.rows hr hp hpt wc (fun g hg hne => (m2.blk g (by omega) hne).trans (m1.blk g hg hne)) ((m2.blk wq.heap.size (by omega) (by omega)).trans m1.new) (by rw [<- e1]; exact m2.new) (by rw [<- e1]; exact m2.pol)
 have hlo2 : wq.heap.size + 2 <= wc.heap.size := by have := m2.size; omega
 have J2a : J2 w wc rb pb tb cap (wq.heap.size + 2) wq.heap.size (wq.heap.size + 1) l TL s la lc L fr (yD L.length) (TL.length + 1) := ⟨jr.1, ⟨_, _, jr.2⟩, m2.bl, jk, by omega, j.deep, j.loops⟩
 generalize hRR : Rs.kM l TL L (TL.length + 1) s (yD L.length) = RR at *
 have EU : Hid (RR = Rs.kM l TL L (TL.length + 1) s (yD L.length)) := hRR.symm
 clear hRR jr m1 m2 hz1 e1 R1 aQd aNy aQe hrb hpb hlo2
 generalize wq.heap.size + 2 = lo2 at *
 generalize wq.heap.size + 1 = gh at *
 generalize wq.heap.size = gr at *
 go_wp2_with fail
 go_loopg [] (TL.length + 1) (fun f wr => ∃ s p, J2 w wr rb pb tb cap lo2 gr gh l TL s la lc L fr p f /\ Hid (RR = Rs.kM l TL L f s p))
 case atStart => exact ⟨s, yD L.length, J2a, EU⟩
 case round =>
 obtain ⟨s2, p, i, HD⟩ := hrel
 clear EU J2a
 have ik := i.k
 have jf2 := i.fuel
 obtain ⟨fk2, rfl⟩ : ∃ fk, gk = fk + 1 := ⟨gk - 1, by omega⟩
 have I1 := aBx i.rd ik [111, 110]
 go_wp2_with fail
 refine I1.mono ?_
 rintro e wa ⟨rfl, Ha, Ba⟩
 have ia := i.but hr Ba Ha
 clear I1
 cases hbb : (decide (s2.bad = 0) && (bD (cur TL s2) == [111, 110])) with
 | true =>
  have hb2 : s2.bad = 0 /\ bD (cur TL s2) = [111, 110] := by simpa using hbb
  obtain ⟨RA, Mv, q⟩ := ia.pq
  have HX := aHu ia.rd q hc ik hb2.1 hb2.2 ia.deep ia.loops
  have hka := hc.aG ik hb2.2 (by decide) (by decide)
  have g3 := aEl (L := L) hc hka p
  have hk1 : s2.k + 1 <= (s2.dS l TL L p).2.k := g3.1.1
  have HZ : Hid (RR = Rs.kM l TL L fk2 (s2.dS l TL L p).2 (s2.dS l TL L p).1) := by
   show _ = _
   rw [HD.out]
   conv => lhs; unfold Rs.kM
   rw [if_pos hb2]
  clear hb2
  generalize s2.dS l TL L p = rr at *
  go_wp2_with fail
  refine HX.mono ?_
  rintro e wz ⟨rfl, Hz, hq, Bz⟩
  clear HX
  go_wp2_with fail
  go_roundg fk2
  case measure => omega
  case rel => exact ⟨rr.2, rr.1, ⟨Hz, hq, ia.bl.trans Bz, g3.1.2, by omega, g3.2.1.trans ia.deep, g3.2.2.trans ia.loops⟩, HZ⟩
 | false =>
 have hb2 : ¬ (s2.bad = 0 /\ bD (cur TL s2) = [111, 110]) := by intro hh; simp [hh.1, hh.2] at hbb
 have hRR : RR = (s2, p) := by rw [HD.out, oM _ _ _ _ hb2]
 subst hRR
 clear HD hbb hb2
 have HE := bQ ia.rd (aT ik) [101, 110, 100]
 have ER2 : Hid (RF = (s2.need (cur TL s2) [101, 110, 100], (L, fr), p)) := ER
 clear ER
 generalize s2.need (cur TL s2) [101, 110, 100] = s3 at *
 have hRF := ER2.out
 subst hRF
 clear ER2
 go_wp2_with fail
 refine HE.mono ?_
 rintro e wz ⟨rfl, Hz, Bz⟩
 obtain ⟨RA, Mv, q⟩ := ia.pq
 have qz := q.but Bz
 have BL : Below w.heap.size w wz := ia.bl.trans (Bz.aKf hr ia.bl.size)
 obtain ⟨c, cf⟩ := aA Hz.at'
 obtain ⟨d, df⟩ := aA qz.pl.at'
 obtain ⟨c1, cf1⟩ := aA Hz.drew.at'
 clear HE
 by_cases hb : s3.bad = 0
 ·have hb1 : ((s3.bad : Int) != 0) = false := by simp [hb]
  by_cases hw : s3.wrong = 0
  ·have hw2 : ((s3.wrong : Int) != 0) = false := by simp [hw]
   cases hm : p.ms with
   | false =>
    have eR : kF s3 p.ms = (10, 0) := by unfold kF; rw [if_neg (fun h => h hb), if_neg (fun h => h hw), if_pos hm]
    go_wp2_with fail
    refine bodyPost_ret (v := .tuple #[.pointer none, .int .i64 10, .int .i64 0]) (by simp [results, Tryz.results18, go_sem]) rfl ⟨BL, Or.inl ⟨?_, ?_⟩⟩
    ·show (kF s3 p.ms).1 ≠ 0
     rw [eR]; decide
    ·show _ = Ending.returned (.tuple #[.pointer none, .int .i64 (kF s3 p.ms).1, .int .i64 (kF s3 p.ms).2])
     rw [eR]; rfl
   | true =>
    have eR : kF s3 p.ms = (0, 0) := by unfold kF; rw [if_neg (fun h => h hb), if_neg (fun h => h hw), if_neg (by rw [hm]; decide)]
    go_wp2_with fail
    exact bodyPost_ret (v := .tuple #[ptr pb, .int .i64 0, .int .i64 0]) (by simp [results, Tryz.results18, go_sem]) rfl ⟨BL, Or.inr ⟨eR, rb, pb, tb, lo2, gr, gh, la, lc, RA, Mv, rfl, qz⟩⟩
  ·have hw2 : ((s3.wrong : Int) != 0) = true := by simp; omega
   have eR : kF s3 p.ms = (s3.wrong, s3.iF) := by unfold kF; rw [if_neg (fun h => h hb), if_pos hw]
   go_wp2_with fail
   go_region
   all_goals
    go_wp2_with fail
    refine bodyPost_ret (v := .tuple #[.pointer none, .int .i64 s3.wrong, .int .i64 s3.iF]) (by simp [results, Tryz.results18, go_sem]) rfl ⟨mO BL, Or.inl ⟨?_, ?_⟩⟩
    ·show (kF s3 p.ms).1 ≠ 0
     rw [eR]; exact hw
    ·show _ = Ending.returned (.tuple #[.pointer none, .int .i64 (kF s3 p.ms).1, .int .i64 (kF s3 p.ms).2])
     rw [eR]
 ·have hb1 : ((s3.bad : Int) != 0) = true := by simp; omega
  have eR : kF s3 p.ms = (s3.bad, s3.fZ) := by unfold kF; rw [if_pos hb]
  go_wp2_with fail
  go_region
  all_goals
   go_wp2_with fail
   refine bodyPost_ret (v := .tuple #[.pointer none, .int .i64 s3.bad, .int .i64 s3.fZ]) (by simp [results, Tryz.results18, go_sem]) rfl ⟨mO BL, Or.inl ⟨?_, ?_⟩⟩
   ·show (kF s3 p.ms).1 ≠ 0
    rw [eR]; exact hb
   ·show _ = Ending.returned (.tuple #[.pointer none, .int .i64 (kF s3 p.ms).1, .int .i64 (kF s3 p.ms).2])
    rw [eR]
def aUi {α : Type} (w : World) (r : Except (Nat × Nat) α) (e : Ending) (w' : World) : Prop :=
 Below w.heap.size w w' /\ match r with
 | .ok _ => ∃ rb pb tb lo2 gr gh la lc L fr RA Mv p, e = .returned (.tuple #[ptr pb, .int .i64 0, .int .i64 0]) /\ Pq w' rb pb tb w.heap.size lo2 gr gh la lc L fr RA Mv p
 | .error (i, p) => e = .returned (.tuple #[.pointer none, .int .i64 (oK i), .int .i64 p])
theorem aHv (l : List UInt8) (w : World) (g : Nat) (HG : Wd w g) :
  Calls Tryz.prog 18 #[S l] w fun e w' => aUi w (dM l) e w' := by
 by_cases hl : l.length <= 700
 ·have hrd := aLd (l := l) (TL := mG l (l.length + 1) 0) (yP l) hl (by unfold mG; rfl)
  refine (U4 l w g HG _ rfl hl).mono ?_
  rintro e w' ⟨hb, h⟩
  refine ⟨hb, ?_⟩
  generalize qZ l (mG l (l.length + 1) 0) = F at *
  cases hr : dM l with
  | error q =>
   obtain ⟨i, p⟩ := q
   rw [hr] at hrd
   have hrd : kF F.1 F.2.2.ms = (oK i, p) := hrd
   rcases h with ⟨_, h2⟩ | ⟨h1, _⟩
   ·rw [hrd] at h2; exact h2
   ·rw [hrd] at h1
    have := congrArg Prod.fst h1
    exact absurd this (kQ i)
  | ok x =>
   rw [hr] at hrd
   have hrd : kF F.1 F.2.2.ms = (0, 0) := hrd
   rcases h with ⟨h1, _⟩ | ⟨_, rb, pb, tb, lo2, gr, gh, la, lc, RA, Mv, h2, h3⟩
   ·rw [hrd] at h1; exact absurd rfl h1
   ·exact ⟨rb, pb, tb, lo2, gr, gh, la, lc, F.2.1.1, F.2.1.2, RA, Mv, F.2.2, h2, h3⟩
 ·have e1 : dM l = .error (0, 0) := by unfold dM; rw [if_pos (by omega)]
  have h7 : decide ((l.length : Int) > 700) = true := by simp; omega
  rw [e1]
  go_enter Tryz.func18, Tryz.ntmps18
  go_wp2_with fail
  exact bodyPost_ret (v := .tuple #[.pointer none, .int .i64 1, .int .i64 0]) (by simp [results, Tryz.results18, go_sem]) rfl ⟨Below.refl _ _, rfl⟩
theorem aAi : (Tryz.prog.info? 185).map (fun i => (i.zero, i.size, i.bytes)) = some (some aF, 1, 24) := by kernel_rfl
theorem aKp : (Tryz.prog.info? 3).map (fun i => (i.zero, i.size, i.bytes)) = some (some (.int .i64 0), 1, 8) := by kernel_rfl
theorem Wd.mv {w w' : World} {g : Nat} (h : Wd w g) (hb : Below w.heap.size w w') : Wd w' g := by
 obtain ⟨wo, h⟩ := h
 exact ⟨wo, h.move hb (cell_lt h.v) (cell_lt (h.c 0 (by decide)))⟩
theorem aId : (Tryz.prog.info? 100).map (fun i => (i.zero, i.size, i.bytes)) = some (some (.agg #[.pointer none, .pointer none]), 2, 16) := by kernel_rfl
structure Sop where
 k : Int
 a : Int
 u : Int
 s : List UInt8
abbrev aDu (t : Sop) : List Value := [.int .i64 t.k, .int .i64 t.a, .int .u64 t.u, S t.s]
structure Sc (w : World) (sa : Option Addr) (n : Nat) (T : Nat -> Sop) : Prop where
 at' : 0 < n -> ∃ b o, sa = some ⟨b, o, none⟩ /\ b < w.heap.size /\ ∀ i, i < n -> w.rangeAt b (o + i * 4) (aDu (T i))
 len : n <= 4000000000000
theorem Sc.move {w w' : World} {sa : Option Addr} {n : Nat} {T : Nat -> Sop} (h : Sc w sa n T) (hb : Below w.heap.size w w') : Sc w' sa n T :=
 ⟨fun hn => by
  obtain ⟨b, o, e, hl, hr⟩ := h.at' hn
  exact ⟨b, o, e, Nat.lt_of_lt_of_le hl hb.size, fun i hi j v hv => (hb.cell (p := ⟨b, o + i * 4 + j, none⟩) hl).trans (hr i hi j v hv)⟩, h.len⟩
theorem aO2 (b o n cap k : Nat) (hk : k < n) : ∀ W : World, (Instr.indexAt 22 (.slice (some ⟨b, o, none⟩) n cap) (.int .i64 k)).run Tryz.prog W = .ok (.pointer (some ⟨b, o + k * 4, none⟩)) W := by
 intro W
 rw [run_indexAt_slice (h := by kernel_rfl), if_pos (by omega)]
 have : (sizeOf (Tryz.prog.elem 22)).run Tryz.prog W = .ok 4 W := by kernel_rfl
 rw [this]
 simp [Result.andThen, Addr.add]
theorem aHn {w : World} {sa : Option Addr} {n cap : Nat} {T : Nat -> Sop} (h : Sc w sa n T) :
  Calls Tryz.prog 15 #[.slice sa n cap] w fun e w' => (∃ b, e = .returned (.bool b)) /\ Below w.heap.size w w' := by
 have hlen := h.len
 go_enter Tryz.func15, Tryz.ntmps15
 go_wp2_with fail
 go_loopg [3, 10] n (fun f v3 v10 wr => ∃ (z : Int) (k : Nat), v3 = .int .i64 z /\ v10 = .int .i64 k /\ k + f = n /\ Below w.heap.size w wr)
 case atStart => exact ⟨n, 0, rfl, rfl, by omega, Below.refl _ _⟩
 case round =>
  obtain ⟨z, k, rfl, rfl, hk, HB⟩ := hrel
  have hz := HB.size
  by_cases hlt : k < n
  ·have hc := h.move HB
   obtain ⟨b, o, rfl, hl, hr⟩ := hc.at' (by omega)
   have hrg := hr k hlt
   have hix := aO2 b o n cap k hlt
   clear hr hc
   generalize T k = t at *
   obtain ⟨tk, ta, tu, ts⟩ := t
   generalize o + k * 4 = ok at *
   go_wp2_with (refine wpList_load_mid rfl 28 (.tmp 12) rfl b ok rfl (aDu ⟨tk, ta, tu, ts⟩) _ hrg Tryz.underlying28 rfl (by kernel_rfl) ?_)
   ·go_ret
    exact ⟨⟨_, rfl⟩, HB.alloc hz _⟩
   ·go_roundg (gk - 1)
    case measure => omega
    case rel => exact ⟨_, k + 1, rfl, by simp, by omega, HB.alloc hz _⟩
  ·go_wp2_with fail
   go_ret
   exact ⟨⟨_, rfl⟩, HB⟩
theorem aHm (w : World) : Calls Tryz.prog 33 #[.int .i64 1] w fun e w' => e = .returned (.int .i64 1) /\ w' = w := by
 go_enter Tryz.func33, Tryz.ntmps33
 go_wp2_with fail
 go_ret
 exact ⟨rfl, rfl⟩
end Go.Proofs.YtfddoieakfpagaaGreatDoor
