import Derived.Test.YtfddoieakfpagaaGreatDoorGF
namespace Go.Proofs.YtfddoieakfpagaaGreatDoor
set_option maxHeartbeats 2000000
set_option maxRecDepth 20000
open Go.RowKit
theorem pK (l : List UInt8) (i : Nat) (h : gW (aN l i) = false) :
  (aN l i).txt ≠ [] /\ bF l (aN l i).pos = (aN l i).txt /\ ((aN l i).kind = 2 \/ (aN l i).kind = 3 \/ (aN l i).kind = 4 /\ (O8 (aN l i).txt = true \/ (aN l i).txt.length = 1)) := by
 by_cases hs : skip l i < l.length
 ·have hL := jS l i hs
  have hD := kX l i hs
  have hS := kV l i hs
  have hN := jT l i hs
  have hdr := drop_cons l (skip l i) hs
  generalize aN l i = t at *
  generalize skip l i = j at *
  cases e1 : dU l[j] with
  | true =>
   rw [hL e1] at h ⊢
   have hne : (l.drop j).takeWhile dU ≠ [] := by rw [hdr, List.takeWhile_cons, if_pos e1]; simp
   have hraw : bF l j = (l.drop j).takeWhile dU := by unfold bF; rw [hdr]; simp only [e1, if_true]
   generalize (l.drop j).takeWhile dU = X at *
   unfold jW at *
   by_cases h8 : 8 < X.length
   ·rw [if_pos h8] at h; simp [gW] at h
   ·rw [if_neg h8]
    by_cases hk : O8 X = true
    ·rw [if_pos hk]
     exact ⟨hne, hraw, Or.inr (Or.inr ⟨rfl, Or.inl hk⟩)⟩
    ·rw [if_neg hk]
     exact ⟨hne, hraw, Or.inl rfl⟩
  | false =>
  cases e2 : dN l[j] with
  | true =>
   rw [hD e1 e2] at h ⊢
   have hne : (l.drop j).takeWhile dN ≠ [] := by rw [hdr, List.takeWhile_cons, if_pos e2]; simp
   have hraw : bF l j = (l.drop j).takeWhile dN := by unfold bF; rw [hdr]; simp only [e1, e2, if_true, Bool.false_eq_true, if_false]
   generalize (l.drop j).takeWhile dN = X at *
   unfold qG at *
   by_cases h3 : 3 < X.length
   ·rw [if_pos h3] at h; simp [gW] at h
   ·rw [if_neg h3]
    exact ⟨hne, hraw, Or.inr (Or.inl rfl)⟩
  | false =>
  cases e3 : pO l[j] with
  | true =>
   rw [hS e1 e2 e3]
   refine ⟨by simp, ?_, Or.inr (Or.inr ⟨rfl, Or.inr rfl⟩)⟩
   unfold bF
   rw [hdr]
   simp only [e1, e2, e3, if_true, Bool.false_eq_true, if_false]
  | false => rw [hN e1 e2 e3] at h; simp [gW] at h
 ·rw [kW l i hs] at h; simp [gW] at h
theorem aFs (l : List UInt8) : ∀ (f i : Nat), i <= l.length -> l.length + 1 <= f + i -> ∀ (k : Nat) t, (mG l f i)[k]? = some t -> (∃ j, j <= l.length /\ t = aN l j) /\ (gW t = false -> (mG l f i)[k + 1]? = some (nx l t))
 | 0, i, hi, hf, _, _, _ => by omega
 | f + 1, i, hi, hf, k, t, h => by
  unfold mG at h ⊢
  have hok := oO l i hi
  cases he : gW (aN l i) with
  | true =>
   rw [he] at h
   simp only [if_true] at h ⊢
   cases k with
   | zero =>
    simp only [List.getElem?_cons_zero, Option.some.injEq] at h
    subst h
    exact ⟨⟨i, hi, rfl⟩, fun e => by rw [he] at e; cases e⟩
   | succ k => simp at h
  | false =>
   rw [he] at h
   simp only [Bool.false_eq_true, if_false] at h ⊢
   have hone := (pK l i he).1
   have hge := zD l i
   have hlen : 1 <= (aN l i).txt.length := by
    cases hx : (aN l i).txt with
    | nil => exact absurd hx hone
    | cons a b => simp
   cases k with
   | zero =>
    simp only [List.getElem?_cons_zero, Option.some.injEq] at h
    subst h
    refine ⟨⟨i, hi, rfl⟩, fun _ => ?_⟩
    simp only [List.getElem?_cons_succ]
    obtain ⟨g, rfl⟩ : ∃ g, f = g + 1 := ⟨f - 1, by omega⟩
    unfold mG
    simp only [List.getElem?_cons_zero]
    rfl
   | succ k =>
    simp only [List.getElem?_cons_succ] at h ⊢
    exact aFs l f _ hok (by omega) k t h
theorem aGk {l : List UInt8} {i : Nat} (h : bD (aN l i) = [110, 117, 109]) : (aN l i).kind = 3 := by
 have he := bK h (by decide) (by decide)
 obtain ⟨_, _, h3⟩ := pK l i he
 unfold bD at h
 rcases h3 with h2 | h3 | ⟨h4, h5⟩
 ·rw [h2] at h
  have h : ([110, 97, 109, 101] : List UInt8) = [110, 117, 109] := h
  exact absurd h (by decide)
 ·exact h3
 ·rw [h4] at h
  have h : (aN l i).txt = [110, 117, 109] := h
  rw [h] at h5
  rcases h5 with h5 | h5
  ·exact absurd h5 (by decide)
  ·simp at h5
theorem yP (l : List UInt8) : Ch l (mG l (l.length + 1) 0) := by
 have hA := aFs l (l.length + 1) 0 (Nat.zero_le _) (by omega)
 refine ⟨fun k t ht he => (hA k t ht).2 he, fun k t ht hn => ?_⟩
 obtain ⟨⟨j, hj, rfl⟩, _⟩ := hA k t ht
 have h3 := aGk hn
 have he := bK hn (by decide) (by decide)
 rw [(pK l j he).2.1]
 exact tk3 l j hj h3
theorem aBg (l : List UInt8) : ∀ (f i : Nat), (mG l f i).length <= f
 | 0, _ => zR
 | f + 1, i => by
  unfold mG
  split
  ·simp
  ·simpa using aBg l f _
theorem aJh (l : List UInt8) (f i : Nat) : 0 < (mG l (f + 1) i).length := by unfold mG; simp
structure Bu (rb pb : Nat) (w w' : World) : Prop where
 os : w'.os = w.os
 tape : w'.tape = w.tape
 output : w'.output = w.output
 size : w.heap.size <= w'.heap.size
 block : ∀ k, k < w.heap.size -> k ≠ rb -> k ≠ pb -> w'.heap[k]? = w.heap[k]?
theorem Bu.of {rb pb : Nat} {w w' : World} (h : But rb w w') : Bu rb pb w w' := ⟨h.os, h.tape, h.output, h.size, fun k hk h1 _ => h.block k hk h1⟩
theorem Bu.trans {rb pb : Nat} {x y z : World} (h : Bu rb pb x y) (k : Bu rb pb y z) : Bu rb pb x z :=
 ⟨k.os.trans h.os, k.tape.trans h.tape, k.output.trans h.output, Nat.le_trans h.size k.size, fun i hi h1 h2 => (k.block i (Nat.lt_of_lt_of_le hi h.size) h1 h2).trans (h.block i hi h1 h2)⟩
theorem Bu.drew {rb pb : Nat} {a w : World} (h : Bu rb pb a w) : Bu rb pb a w.drew := ⟨h.os, h.tape, h.output, h.size, h.block⟩
theorem Bu.pol {rb pb : Nat} {a w : World} (h : Bu rb pb a w) (o : Nat) (u : Value) : Bu rb pb a (w.setCell ⟨pb, o, none⟩ u) :=
 ⟨h.os, h.tape, h.output, by have := h.size; simpa [World.setCell] using this, fun k hk h1 h2 => (zS _ _ _ _ h2).trans (h.block k hk h1 h2)⟩
theorem aOw {fn : Func} {R : Ending -> World -> Prop} {a : Act} {w : World} (hr : fn.results = #[]) (hd : a.defers = []) (hR : R (.returned (.tuple #[])) w) : bodyPost Tryz.prog fn R .ret a w :=
 bodyPost_ret (by simp [results, hr, go_sem]) hd hR
section
variable {w : World} {rb pb tb lo cap : Nat} {l : List UInt8} {TL : List Tok} {s : Rs}
variable {la : Option Addr} {lc : Nat} {L : List DL} {fr : Nat} {Rv Hv Mv : Value} {ms : Bool}
def Rs.eF (s : Rs) (TL : List Tok) : Rs := if s.aO + 1 > 1 then Rs.note { s.aG with aO := s.aO + 1 } 4 (cur TL s).pos else { s.aG with aO := s.aO + 1 }
def Rs.lY (s : Rs) (l : List UInt8) (TL : List Tok) : Nat × Rs :=
 let r := (s.eF TL).num l (cur TL (s.eF TL)) 1 99
 (r.1, r.2.need (cur TL r.2) [59])
theorem aD3 (h : Rd w rb pb tb lo cap l TL s) (hp : Pl w rb pb lo la lc L fr Rv Hv Mv ms) (hc : Ch l TL) (hk : s.k < TL.length) (hop : bD (cur TL s) = [102, 114, 101, 113]) (hfq : s.aO <= 1000) (hpt : pb ≠ tb) (hpl : ∀ g, (Value.slice la L.length lc).ownBlock = some g -> g ≠ pb) :
  Calls Tryz.prog 43 #[ptr rb] w fun e w' => e = .returned (.tuple #[]) /\ Rd w' rb pb tb lo cap l TL (s.lY l TL).2 /\ Pl w' rb pb lo la lc L (s.lY l TL).1 Rv Hv Mv ms /\ Bu rb pb w w' := by
 have hrb : rb < w.heap.size := (zL h.at')
 have hpb : pb < w.heap.size := (zL hp.at')
 have htb : tb < w.heap.size := (h.own.lt tb rfl).2
 have hlen := h.len
 have ht := aT hk
 have hka := hc.aG hk hop (by decide) (by decide)
 have h0 := h.alloc (.cells #[S [], S [], .int .i64 0] 87)
 have H1 := (h.alloc (.cells #[S [102, 114, 101, 113], S (bF l (cur TL s).pos), .int .i64 (cur TL s).pos] 87)).drew
 have B1 : But rb w (w.alloc (.cells #[S [102, 114, 101, 113], S (bF l (cur TL s).pos), .int .i64 (cur TL s).pos] 87)).drew := ((But.refl _ _).alloc _).drew
 have b2 : (w.alloc (.cells #[S [102, 114, 101, 113], S (bF l (cur TL s).pos), .int .i64 (cur TL s).pos] 87)).drew.heap[w.heap.size]? = some (.cells #[S [102, 114, 101, 113], S (bF l (cur TL s).pos), .int .i64 (cur TL s).pos] 87) := aC rfl
 obtain ⟨⟨k0, k1, k2⟩, hix⟩ := h.tok ht
 obtain ⟨c, cf⟩ := aA h.at'
 obtain ⟨⟨oJ, vI, vH⟩, _⟩ := h0.tok ht
 obtain ⟨c0, vU⟩ := aA h0.at'
 rw [hop] at k0 oJ
 have HV : Hid (s.lY l TL = (((s.eF TL).num l (cur TL (s.eF TL)) 1 99).1, ((s.eF TL).num l (cur TL (s.eF TL)) 1 99).2.need (cur TL ((s.eF TL).num l (cur TL (s.eF TL)) 1 99).2) [59])) := rfl
 have hk0 : (s.eF TL).k < TL.length := by unfold Rs.eF; split; (rw [iO]; exact hka); exact hka
 generalize s.lY l TL = v at *
 go_enter Tryz.func43, Tryz.ntmps43
 go_wp2_with fail
 go_region
 generalize (w.alloc (.cells #[S [102, 114, 101, 113], S (bF l (cur TL s).pos), .int .i64 (cur TL s).pos] 87)).drew = w1 at *
 clear k0 k1 k2 oJ vI vH c cf c0 vU hix h0
 obtain ⟨d1, df1⟩ := aA H1.at'
 have H2 := H1.set 1 (.int .i64 (s.k + 1 : Nat)) s.aG rfl
 have B2 := B1.own 1 (.int .i64 (s.k + 1 : Nat))
 have H3 := H2.set 9 (.int .i64 (s.aO + 1 : Nat)) { s.aG with aO := s.aO + 1 } rfl
 have B3 := B2.own 9 (.int .i64 (s.aO + 1 : Nat))
 have b22 := (zS w1 ⟨rb, 1, none⟩ (.int .i64 (s.k + 1 : Nat)) w.heap.size (by show w.heap.size ≠ rb; omega)).trans b2
 have b23 := (zS _ ⟨rb, 9, none⟩ (.int .i64 (s.aO + 1 : Nat)) w.heap.size (by show w.heap.size ≠ rb; omega)).trans b22
 obtain ⟨d2, df2⟩ := aA H2.at'
 obtain ⟨d3, df3⟩ := aA H3.at'
 obtain ⟨e3, ef3⟩ := aA b23
 obtain ⟨e2, ef2⟩ := aA b22
 obtain ⟨e1, ef1⟩ := aA b2
 by_cases hq : s.aO + 1 > 1
 ·have e0 : s.eF TL = Rs.note { s.aG with aO := s.aO + 1 } 4 (cur TL s).pos := by unfold Rs.eF; rw [if_pos hq]
  have HT := jD H3 4 (cur TL s).pos
  rw [<- e0] at HT
  clear e0
  go_wp2_with fail
  refine HT.mono ?_
  rintro e wD ⟨rfl, HDD, BD'⟩
  have BD := B3.trans BD'
  clear HT
  go_wp2_with fail
  have PD := hp.but BD
  have HN := jZ HDD.drew (aT hk0) 1 99 (by omega) (hc.num _ _ (aT hk0))
  have kq := V4 hc hk0 1 99
  generalize (s.eF TL).num l (cur TL (s.eF TL)) 1 99 = q at *
  obtain ⟨cD, fD⟩ := aA HDD.at'
  clear d1 df1 d2 df2 d3 df3 e1 ef1 e2 ef2 e3 ef3
  go_region_with (go_at_call 71; refine HN.mono ?_; rintro e w4 ⟨rfl, H4, B4⟩; obtain ⟨c4, f4⟩ := aA H4.at'; have P4 := PD.drew.but B4; obtain ⟨p4, pf4⟩ := aA P4.at')
  all_goals
   have B5 : Bu rb pb w (w4.setCell ⟨pb, 1, none⟩ (.int .i64 q.1)) := ((Bu.of BD).drew.trans (Bu.of B4)).pol 1 (.int .i64 q.1)
   have H5 := H4.other pb 1 (.int .i64 q.1) hp.ne hpt
   have P5 : Pl (w4.setCell ⟨pb, 1, none⟩ (.int .i64 q.1)) rb pb lo la lc L q.1 Rv Hv Mv ms := ⟨(zC _ _ _ _ _ _ P4.at').trans (by simp), aW P4.own (fun g hg _ => zS _ _ _ _ (hpl g hg)), hp.ne, hp.nl, hp.len⟩
   have HM := bQ H5 (aT kq) [59]
   have hv := HV.out
   subst hv
   clear HV
   go_wp2_with fail
   refine HM.mono ?_
   rintro e wF ⟨rfl, HF, BF⟩
   go_wp2_with fail
   exact aOw rfl rfl ⟨rfl, HF, P5.but BF, B5.trans (Bu.of BF)⟩
 ·have e0 : s.eF TL = { s.aG with aO := s.aO + 1 } := by unfold Rs.eF; rw [if_neg hq]
  have HDD := H3
  rw [<- e0] at HDD
  have HDD : Rd ((w1.setCell ⟨rb, 1, none⟩ (.int .i64 ((s.k : Int) + 1))).setCell ⟨rb, 9, none⟩ (.int .i64 ((s.aO : Int) + 1))) rb pb tb lo cap l TL (s.eF TL) := HDD
  have BD : But rb w ((w1.setCell ⟨rb, 1, none⟩ (.int .i64 ((s.k : Int) + 1))).setCell ⟨rb, 9, none⟩ (.int .i64 ((s.aO : Int) + 1))) := B3
  clear e0
  go_wp2_with fail
  generalize (w1.setCell ⟨rb, 1, none⟩ (.int .i64 ((s.k : Int) + 1))).setCell ⟨rb, 9, none⟩ (.int .i64 ((s.aO : Int) + 1)) = wD at *
  have PD := hp.but BD
  have HN := jZ HDD.drew (aT hk0) 1 99 (by omega) (hc.num _ _ (aT hk0))
  have kq := V4 hc hk0 1 99
  generalize (s.eF TL).num l (cur TL (s.eF TL)) 1 99 = q at *
  obtain ⟨cD, fD⟩ := aA HDD.at'
  clear d1 df1 d2 df2 d3 df3 e1 ef1 e2 ef2 e3 ef3
  go_region_with (go_at_call 71; refine HN.mono ?_; rintro e w4 ⟨rfl, H4, B4⟩; obtain ⟨c4, f4⟩ := aA H4.at'; have P4 := PD.drew.but B4; obtain ⟨p4, pf4⟩ := aA P4.at')
  all_goals
   have B5 : Bu rb pb w (w4.setCell ⟨pb, 1, none⟩ (.int .i64 q.1)) := ((Bu.of BD).drew.trans (Bu.of B4)).pol 1 (.int .i64 q.1)
   have H5 := H4.other pb 1 (.int .i64 q.1) hp.ne hpt
   have P5 : Pl (w4.setCell ⟨pb, 1, none⟩ (.int .i64 q.1)) rb pb lo la lc L q.1 Rv Hv Mv ms := ⟨(zC _ _ _ _ _ _ P4.at').trans (by simp), aW P4.own (fun g hg _ => zS _ _ _ _ (hpl g hg)), hp.ne, hp.nl, hp.len⟩
   have HM := bQ H5 (aT kq) [59]
   have hv := HV.out
   subst hv
   clear HV
   go_wp2_with fail
   refine HM.mono ?_
   rintro e wF ⟨rfl, HF, BF⟩
   go_wp2_with fail
   exact aOw rfl rfl ⟨rfl, HF, P5.but BF, B5.trans (Bu.of BF)⟩
end
def Rs.kR (s : Rs) (l : List UInt8) (TL : List Tok) (L : List DL) : Rs :=
 if (dV L (bF l (cur TL s.aG).pos)).isSome = true then (s.aG.need (cur TL s.aG) [110, 97, 109, 101]).note 4 (cur TL s.aG).pos else s.aG.need (cur TL s.aG) [110, 97, 109, 101]
def Rs.fA (s : Rs) (l : List UInt8) (TL : List Tok) (L : List DL) : Rs := if L.length = 8 then (s.kR l TL L).note 9 (cur TL s.aG).pos else s.kR l TL L
def Rs.jV (s : Rs) (l : List UInt8) (TL : List Tok) (L : List DL) (kd : List UInt8) : DL × Rs :=
 let r := (s.fA l TL L).num l (cur TL (s.fA l TL L)) 1 (if kd = [118, 97, 114] then 99 else 50)
 ((kd, bF l (cur TL s.aG).pos, r.1), r.2.need (cur TL r.2) [59])
def Rs.dZ (l : List UInt8) (TL : List Tok) : Nat -> Rs -> List DL -> Nat -> Rs × List DL × Nat
 | 0, s, L, fr => (s, L, fr)
 | f + 1, s, L, fr =>
  if s.bad = 0 /\ iD (bD (cur TL s)) = true then
   (if bD (cur TL s) = [102, 114, 101, 113] then Rs.dZ l TL f (s.lY l TL).2 L (s.lY l TL).1
   else Rs.dZ l TL f (s.jV l TL L (bD (cur TL s))).2 (L ++ [(s.jV l TL L (bD (cur TL s))).1]) fr)
  else (s, L, fr)
def Rs.nG (s : Rs) (l : List UInt8) (TL : List Tok) (L : List DL) : (Bool × Nat) × Rs :=
 if s.bad = 0 /\ bD (cur TL s.aG) = [109, 105, 115, 115] then ((true, 0), s.aG.aG)
 else ((false, (s.aG.bG l (cur TL s.aG) L false).1), (s.aG.bG l (cur TL s.aG) L false).2)
structure Pm where
 has : List Bool
 dS : List (RT 8)
 ms : Bool
 tK : RT 8
def Pm.twice (p : Pm) (r : Bool × Nat) : Bool := if r.1 = true then p.ms else p.has.getD r.2 false
def Pm.step (p : Pm) (r : Bool × Nat) (x : RT 8) : Pm :=
 if r.1 = true then { p with ms := true, tK := x } else if r.2 < p.has.length then { p with has := p.has.set r.2 true, dS := p.dS.set r.2 x } else p
def Rs.jI (s : Rs) (l : List UInt8) (TL : List Tok) (L : List DL) (p : Pm) : Rs :=
 if p.twice (s.nG l TL L).1 = true then (s.nG l TL L).2.note 8 (cur TL s).pos else (s.nG l TL L).2
def Rs.dS (s : Rs) (l : List UInt8) (TL : List Tok) (L : List DL) (p : Pm) : Pm × Rs :=
 (p.step (s.nG l TL L).1 (Rs.blk l TL L 8 (s.jI l TL L p)).1, (Rs.blk l TL L 8 (s.jI l TL L p)).2)
def Rs.kM (l : List UInt8) (TL : List Tok) (L : List DL) : Nat -> Rs -> Pm -> Rs × Pm
 | 0, s, p => (s, p)
 | f + 1, s, p => if s.bad = 0 /\ bD (cur TL s) = [111, 110] then Rs.kM l TL L f (s.dS l TL L p).2 (s.dS l TL L p).1 else (s, p)
def nN : Rs := ⟨0, 0, 0, 0, 0, 0, 0, 0⟩
def yD (n : Nat) : Pm := ⟨List.replicate n false, List.replicate n [], false, []⟩
def qZ (l : List UInt8) (TL : List Tok) : Rs × (List DL × Nat) × Pm :=
 let d := Rs.dZ l TL (TL.length + 1) nN [] 0
 let r := Rs.kM l TL d.2.1 (TL.length + 1) d.1 (yD d.2.1.length)
 (r.1.need (cur TL r.1) [101, 110, 100], d.2, r.2)
def kF (s : Rs) (ms : Bool) : Nat × Nat := if s.bad ≠ 0 then (s.bad, s.fZ) else if s.wrong ≠ 0 then (s.wrong, s.iF) else if ms = false then (10, 0) else (0, 0)
section
variable {l : List UInt8} {TL : List Tok} {L : List DL} {s : Rs}
theorem yJ (hk : s.k < TL.length) (e p : Nat) : G3 TL s (s.note e p) := ⟨⟨by rw [iO]; exact zR, by rw [iO]; exact hk⟩, aAs _ _ _⟩
theorem aQn (hc : Ch l TL) (hk : s.k < TL.length) (a b : Nat) : G3 TL s (s.num l (cur TL s) a b).2 := ⟨go_num hc hk a b, wP _ _ _ _ _⟩
theorem E8 (hc : Ch l TL) (hk : s.k < TL.length) (a b : Nat) : G3 TL s ((s.num l (cur TL s) a b).2.need (cur TL (s.num l (cur TL s) a b).2) [59]) := by
 have h1 := aQn hc hk a b
 exact h1.trans (lJ hc h1.1.2 [59] (by decide) (by decide))
theorem aAp (hc : Ch l TL) (hka : s.aG.k < TL.length) : G3 TL s.aG (s.lY l TL).2 := by
 have h0 : G3 TL s.aG (s.eF TL) := by
  unfold Rs.eF
  split
  ·exact yJ (s := { s.aG with aO := s.aO + 1 }) hka _ _
  ·exact ⟨⟨zR, hka⟩, rfl, rfl⟩
 exact h0.trans (E8 hc h0.1.2 1 99)
theorem aAo (hc : Ch l TL) (hka : s.aG.k < TL.length) (kd : List UInt8) : G3 TL s.aG (s.jV l TL L kd).2 := by
 have h1 := lJ hc hka [110, 97, 109, 101] (by decide) (by decide)
 have h2 : G3 TL s.aG (s.kR l TL L) := by
  unfold Rs.kR
  split
  ·exact h1.trans (yJ h1.1.2 _ _)
  ·exact h1
 have h3 : G3 TL s.aG (s.fA l TL L) := by
  unfold Rs.fA
  split
  ·exact h2.trans (yJ h2.1.2 _ _)
  ·exact h2
 exact h3.trans (E8 hc h3.1.2 1 _)
theorem aN6 (hc : Ch l TL) (hka : s.aG.k < TL.length) : G3 TL s.aG (s.nG l TL L).2 := by
 unfold Rs.nG
 split
 ·rename_i h
  exact ⟨rF hc hka h.2 (by decide) (by decide), rfl, rfl⟩
 ·exact wM hc hka false
theorem yI (hc : Ch l TL) (hka : s.aG.k < TL.length) (p : Pm) : G3 TL s.aG (s.jI l TL L p) := by
 have h1 := aN6 (L := L) hc hka
 unfold Rs.jI
 split
 ·exact h1.trans (yJ h1.1.2 _ _)
 ·exact h1
theorem aEl (hc : Ch l TL) (hka : s.aG.k < TL.length) (p : Pm) : G3 TL s.aG (s.dS l TL L p).2 := by
 have h1 := yI (L := L) hc hka p
 exact h1.trans (vX (L := L) hc 8 _ h1.1.2)
end
theorem aKh {α : Type} (l : List α) (d v : α) (k j : Nat) (hk : k < l.length) : (l.set k v).getD j d = if k = j then v else l.getD j d := by
 rw [List.getD_eq_getElem?_getD, List.getD_eq_getElem?_getD, List.getElem?_set]
 split
 ·rename_i e; subst e; simp []
 ·rfl
theorem aLw (A : Array Value) (d v : Value) (k j : Nat) (hk : k < A.size) : (A.setIfInBounds k v).getD j d = if k = j then v else A.getD j d := by
 rw [Array.getD_eq_getD_getElem?, Array.getD_eq_getD_getElem?, Array.getElem?_setIfInBounds]
 split
 ·rename_i e; subst e; simp []
 ·rfl
structure Pq (w : World) (rb pb tb lo lo2 gr gh : Nat) (la : Option Addr) (lc : Nat) (L : List DL) (fr : Nat) (RA : Array Value) (Mv : Value) (p : Pm) : Prop where
 pl : Pl w rb pb lo la lc L fr (.slice (some ⟨gr, 0, none⟩) L.length L.length) (.slice (some ⟨gh, 0, none⟩) L.length L.length) Mv p.ms
 r : w.heap[gr]? = some (.cells RA 80)
 h : w.heap[gh]? = some (.cells (p.has.map Value.bool).toArray 4)
 rs : RA.size = L.length
 hs : p.has.length = L.length
 ps : p.dS.length = L.length
 tr : ∀ k, k < L.length -> dI 8 w (fun g => lo2 <= g) (RA.getD k aF) (p.dS.getD k (aI 8))
 tm : dI 8 w (fun g => lo2 <= g) Mv p.tK
 d1 : rb < lo2 /\ pb < lo2 /\ tb < lo2 /\ gr < lo2 /\ gh < lo2 /\ lo2 <= w.heap.size
 d2 : lo <= gr /\ lo <= gh /\ lo <= rb /\ lo <= pb
 d3 : gr ≠ gh /\ gr ≠ rb /\ gh ≠ rb /\ gr ≠ pb /\ gh ≠ pb /\ gr ≠ tb /\ gh ≠ tb /\ pb ≠ tb
 d4 : ∀ g, (Value.slice la L.length lc).ownBlock = some g -> g ≠ pb /\ g ≠ gr /\ g ≠ gh
section
variable {w w' : World} {rb pb tb lo lo2 cap gr gh : Nat} {l : List UInt8} {TL : List Tok} {s : Rs}
variable {la : Option Addr} {lc : Nat} {L : List DL} {fr : Nat} {RA : Array Value} {Mv : Value} {p : Pm}
theorem Pq.but (q : Pq w rb pb tb lo lo2 gr gh la lc L fr RA Mv p) (hb : But rb w w') : Pq w' rb pb tb lo lo2 gr gh la lc L fr RA Mv p where
 pl := q.pl.but hb
 r := hb.at' q.r q.d3.2.1
 h := hb.at' q.h q.d3.2.2.1
 rs := q.rs
 hs := q.hs
 ps := q.ps
 tr := fun k hk => dI.move 8 (fun g hg hl => hb.block g hl (by have := q.d1; omega)) _ _ (q.tr k hk)
 tm := dI.move 8 (fun g hg hl => hb.block g hl (by have := q.d1; omega)) _ _ q.tm
 d1 := by have := q.d1; have := hb.size; omega
 d2 := q.d2
 d3 := q.d3
 d4 := q.d4
theorem Pq.miss (q : Pq w rb pb tb lo lo2 gr gh la lc L fr RA Mv p) (v : Value) (x : RT 8) (hx : dI 8 w (fun g => lo2 <= g) v x) :
  Pq ((w.setCell ⟨pb, 5, none⟩ (.bool true)).setCell ⟨pb, 4, none⟩ v) rb pb tb lo lo2 gr gh la lc L fr RA v { p with ms := true, tK := x } := by
 have d1 := q.d1
 have d3 := q.d3
 have hb : ∀ g, g ≠ pb -> ((w.setCell ⟨pb, 5, none⟩ (.bool true)).setCell ⟨pb, 4, none⟩ v).heap[g]? = w.heap[g]? := fun g hg => (zS _ _ _ _ hg).trans (zS _ _ _ _ hg)
 refine ⟨⟨?_, aW q.pl.own (fun g hg _ => hb g (q.d4 g hg).1), q.pl.ne, q.pl.nl, q.pl.len⟩, (hb gr d3.2.2.2.1).trans q.r, (hb gh d3.2.2.2.2.1).trans q.h, q.rs, q.hs, q.ps, fun k hk => dI.move 8 (fun g hg hl => hb g (by omega)) _ _ (q.tr k hk), dI.move 8 (fun g hg hl => hb g (by omega)) _ _ hx, ?_, q.d2, d3, q.d4⟩
 ·have h1 := (zC _ _ 5 (.bool true) _ _ q.pl.at')
  exact (zC _ _ 4 v _ _ h1).trans rfl
 ·simpa [World.setCell] using d1
theorem Pq.put (q : Pq w rb pb tb lo lo2 gr gh la lc L fr RA Mv p) (k : Nat) (hk : k < L.length) (v : Value) (x : RT 8) (hx : dI 8 w (fun g => lo2 <= g) v x) :
  Pq ((w.setCell ⟨gh, k, none⟩ (.bool true)).setCell ⟨gr, k, none⟩ v) rb pb tb lo lo2 gr gh la lc L fr (RA.setIfInBounds k v) Mv { p with has := p.has.set k true, dS := p.dS.set k x } := by
 have d1 := q.d1
 have d3 := q.d3
 have hb : ∀ g, g ≠ gh -> g ≠ gr -> ((w.setCell ⟨gh, k, none⟩ (.bool true)).setCell ⟨gr, k, none⟩ v).heap[g]? = w.heap[g]? := fun g h1 h2 => (zS _ _ _ _ h2).trans (zS _ _ _ _ h1)
 refine ⟨⟨(hb pb (Ne.symm d3.2.2.2.2.1) (Ne.symm d3.2.2.2.1)).trans q.pl.at', aW q.pl.own (fun g hg _ => hb g (q.d4 g hg).2.2 (q.d4 g hg).2.1), q.pl.ne, q.pl.nl, q.pl.len⟩, ?_, ?_, by simpa using q.rs, by simpa using q.hs, by simpa using q.ps, fun j hj => ?_, dI.move 8 (fun g hg hl => hb g (by omega) (by omega)) _ _ q.tm, ?_, q.d2, d3, q.d4⟩
 ·exact zC _ _ k v _ _ ((zS _ _ _ _ d3.1).trans q.r)
 ·refine (zS _ _ _ _ (Ne.symm d3.1)).trans ((zC _ _ k (.bool true) _ _ q.h).trans ?_)
  congr 2
  apply Array.toList_inj.1
  simp
 ·have hkA : k < RA.size := by rw [q.rs]; exact hk
  have hkP : k < p.dS.length := by rw [q.ps]; exact hk
  show dI 8 _ _ ((RA.setIfInBounds k v).getD j aF) ((p.dS.set k x).getD j (aI 8))
  rw [aLw _ _ _ _ _ hkA, aKh _ _ _ _ _ hkP]
  split
  ·exact dI.move 8 (fun g hg hl => hb g (by omega) (by omega)) _ _ hx
  ·exact dI.move 8 (fun g hg hl => hb g (by omega) (by omega)) _ _ (q.tr j hj)
 ·simpa [World.setCell] using d1
end
end Go.Proofs.YtfddoieakfpagaaGreatDoor
