import Derived.Test.YtfddoieakfpagaaGreatDoorTYd
namespace Go.Proofs.YtfddoieakfpagaaGreatDoor
set_option maxHeartbeats 4000000
set_option maxRecDepth 20000
open Go.RowKit
structure Pgg (w : World) (lo hi pb : Nat) (L : List DL) (fr : Nat) (p : Pm) : Prop where
 ex : ∃ la lc gr gh Mv RA, w.heap[pb]? = some (.cells #[.slice la L.length lc, .int .i64 fr, .slice (some ⟨gr, 0, none⟩) L.length L.length, .slice (some ⟨gh, 0, none⟩) L.length L.length, Mv, .bool p.ms] 82) /\ w.ownsRow 0 90 3 (.slice la L.length lc) L.length (oQ L) /\ w.heap[gr]? = some (.cells RA 80) /\ w.heap[gh]? = some (.cells (p.has.map Value.bool).toArray 4) /\ RA.size = L.length /\ (∀ k, k < L.length -> dI 8 w (fun g => lo <= g /\ g < hi) (RA.getD k aF) (p.dS.getD k (aI 8))) /\ dI 8 w (fun g => lo <= g /\ g < hi) Mv p.tK /\ (lo <= pb /\ pb < hi) /\ (lo <= gr /\ gr < hi) /\ (lo <= gh /\ gh < hi) /\ ∀ g, (Value.slice la L.length lc).ownBlock = some g -> lo <= g /\ g < hi
 len : L.length <= 701
 hs : p.has.length = L.length
 ps : p.dS.length = L.length
section
variable {w w' : World} {lo hi pb fr : Nat} {L : List DL} {p : Pm}
theorem Pgg.keep (h : Pgg w lo hi pb L fr p) (hb : ∀ b, lo <= b -> b < hi -> w'.heap[b]? = w.heap[b]?) : Pgg w' lo hi pb L fr p := by
 obtain ⟨la, lc, gr, gh, Mv, RA, h1, h2, h3, h4, h5, h6, h7, h8, h9, h10, h11⟩ := h.ex
 have hm : ∀ (v : Value) (x : RT 8), dI 8 w (fun g => lo <= g /\ g < hi) v x -> dI 8 w' (fun g => lo <= g /\ g < hi) v x := dI.move 8 (fun g hg _ => hb g hg.1 hg.2)
 exact ⟨⟨la, lc, gr, gh, Mv, RA, (hb _ h8.1 h8.2).trans h1, aW h2 (fun g e _ => hb g (h11 g e).1 (h11 g e).2), (hb _ h9.1 h9.2).trans h3, (hb _ h10.1 h10.2).trans h4, h5, fun k hk => hm _ _ (h6 k hk), hm _ _ h7, h8, h9, h10, h11⟩, h.len, h.hs, h.ps⟩
theorem Pgg.pf (h : Pgg w lo hi pb L fr p) : Pf w hi pb L fr p := by
 obtain ⟨la, lc, gr, gh, Mv, RA, h1, h2, h3, h4, h5, h6, h7, h8, h9, h10, h11⟩ := h.ex
 exact ⟨⟨la, lc, gr, gh, Mv, RA, h1, h2, h3, h4, h5, fun k hk => dI.mono 8 (fun _ hg => hg.2) _ _ (h6 k hk), dI.mono 8 (fun _ hg => hg.2) _ _ h7, h8.2, h9.2, h10.2, fun g e => (h11 g e).2⟩, h.len, h.hs, h.ps⟩
theorem Pq.pg {rb tb lo2 gr gh : Nat} {la : Option Addr} {lc : Nat} {RA : Array Value} {Mv : Value} (h : Pq w rb pb tb lo lo2 gr gh la lc L fr RA Mv p) (hl : lo <= lo2) : Pgg w lo w.heap.size pb L fr p := by
 have d1 := h.d1
 have d2 := h.d2
 have hm : ∀ (v : Value) (x : RT 8), dI 8 w (fun g => lo2 <= g) v x -> dI 8 w (fun g => lo <= g /\ g < w.heap.size) v x := fun v x hv => dI.mono 8 (fun g hg => ⟨Nat.le_trans hl hg.1, hg.2⟩) _ _ (dI.there 8 v x hv)
 exact ⟨⟨la, lc, gr, gh, Mv, RA, h.pl.at', aNd h.pl.own (Nat.zero_le _), h.r, h.h, h.rs, fun k hk => hm _ _ (h.tr k hk), hm _ _ h.tm, ⟨d2.2.2.2, by omega⟩, ⟨d2.1, by omega⟩, ⟨d2.2.1, by omega⟩, fun g e => h.pl.own.lt g e⟩, h.pl.len, h.hs, h.ps⟩
end
def aUh (w : World) (r : Except (Nat × Nat) Tx) (e : Ending) (w' : World) : Prop :=
 Below w.heap.size w w' /\ match r with
 | .ok x => ∃ pb p, e = .returned (.tuple #[ptr pb, .int .i64 0, .int .i64 0]) /\ Pgg w' w.heap.size w'.heap.size pb (bM x).L (bM x).mf p /\ aDf (bM x).L p (bM x)
 | .error (i, p) => e = .returned (.tuple #[.pointer none, .int .i64 (oK i), .int .i64 p])
theorem aM8 (l : List UInt8) (w : World) (g : Nat) (HG : Wd w g) : Calls Tryz.prog 18 #[S l] w fun e w' => aUh w (dM l) e w' := by
 by_cases hl : l.length <= 700
 ·have h0 : (mG l (l.length + 1) 0)[0]? = some (aN l 0) := by unfold mG; rfl
  have hrd := aLd (l := l) (TL := mG l (l.length + 1) 0) (yP l) hl h0
  have hu := fun x hx => aRk (yP l) h0 (x := x) hx
  refine (U4 l w g HG _ rfl hl).mono ?_
  rintro e w' ⟨hb, h⟩
  refine ⟨hb, ?_⟩
  generalize qZ l (mG l (l.length + 1) 0) = F at *
  cases hr : dM l with
  | error q =>
   obtain ⟨i, p⟩ := q
   rw [hr] at hrd
   have hrd : kF F.1 F.2.2.ms = (oK i, p) := hrd
   rcases h with ⟨_, h2⟩ | ⟨h1, _⟩
   ·rw [hrd] at h2; exact h2
   ·rw [hrd] at h1
    have := congrArg Prod.fst h1
    exact absurd this (kQ i)
  | ok x =>
   obtain ⟨u1, u2⟩ := hu x hr
   rw [hr] at hrd
   have hrd : kF F.1 F.2.2.ms = (0, 0) := hrd
   rcases h with ⟨h1, _⟩ | ⟨_, rb, pb, tb, lo2, gr, gh, la, lc, RA, Mv, h2, h3⟩
   ·rw [hrd] at h1; exact absurd rfl h1
   ·rw [u1] at h3
    exact ⟨pb, F.2.2, h2, h3.pg (by have := h3.d1; have := h3.d2; omega), u2⟩
 ·have e1 : dM l = .error (0, 0) := by unfold dM; rw [if_pos (by omega)]
  have h2 := aHv l w g HG
  rw [e1] at h2 ⊢
  exact h2
theorem Tb.up {lo lo' : Nat} {w : World} (h : Tb lo w) (hl : lo <= lo') : Tb lo' w := fun W hW => h W (hW.mono hl)
def Tx2 (w : World) (eb pb : Nat) (t : List UInt8) : Prop := Calls Tryz.prog 19 #[ptr eb] w (fun e w' => e = .returned (S t) /\ Below w.heap.size w w') /\ Calls Tryz.prog 20 #[ptr pb] w (fun e w' => e = .returned (S t) /\ Below w.heap.size w w')
section
variable {w : World}
theorem aOb {l : List UInt8} {x : List Dc × List (Nat × NP × BT 8)} (hx : dM l = .ok x) {p : Pm} (hr : aDf (bM x).L p (bM x)) {eb nb mb lo : Nat} {v2 v3 v4 : Value} (h1 : w.heap[eb]? = some (.cells #[ptr nb, ptr mb, v2, v3, v4] 73)) (h2 : tV w nb lo x) (ht : Tb w.heap.size w) : Calls Tryz.prog 19 #[ptr eb] w fun e w' => e = .returned (S (wC (bM x).L (bM x).mf p)) /\ Below w.heap.size w w' := by
 have hF := kC hx
 have e := aJe hx hr
 have HT := aRn h2.tree ht (aP7 hF) (fun r hr => aAa 8 r.2.2 (aF4 hx r hr)) (by rw [e]; exact (aBc hx hr).2.2) (by rw [e]; exact aMn _ _ _)
 rw [e] at HT
 clear e
 generalize wC (bM x).L (bM x).mf p = t at *
 have HL : Calls Tryz.prog 46 #[ptr eb] w fun e w' => e = .returned (.bool true) /\ w' = w := by
  obtain ⟨c1, cf1⟩ := aA h1
  go_enter Tryz.func46, Tryz.ntmps46
  go_wp2_with fail
  go_ret
  exact ⟨rfl, rfl⟩
 obtain ⟨c1, cf1⟩ := aA h1
 go_enter Tryz.func19, Tryz.ntmps19
 go_wp2_with (first | (go_at_call 46; refine HL.mono ?_; rintro e w1 ⟨rfl, rfl⟩) | (go_at_call 47; refine HT.mono ?_; rintro e w2 ⟨rfl, q⟩))
 go_ret
 exact ⟨rfl, q⟩
theorem aPz {pb n : Nat} {la : Option Addr} {lc : Nat} {x1 x2 x3 x4 x5 : Value} (hn : n <= 701) (h : w.heap[pb]? = some (.cells #[.slice la n lc, x1, x2, x3, x4, x5] 82)) :
  Calls Tryz.prog 87 #[ptr pb] w fun e w' => ∃ m A, e = .returned (ptr m) /\ w.heap.size <= m /\ Below w.heap.size w w' /\ w'.heap[m]? = some (.cells A 104) /\ A[0]? = some (ptr pb) := by
 have aSd := fun W => run_make_row' (P := Tryz.prog) 101 185 aF 24 Tryz.underlying101 aAi rfl .i64 .i64 n (by omega) (by omega) W
 have aQe := fun W => run_make_row' (P := Tryz.prog) 102 3 (.int .i64 0) 8 Tryz.underlying102 aKp rfl .i64 .i64 n (by omega) (by omega) W
 have hpb : pb < w.heap.size := (zL h)
 obtain ⟨c, cf⟩ := aA h
 obtain ⟨c1, cf1⟩ := aA ((zM w (.cells (madeCells #[aF] n) 185) _ hpb).trans h)
 obtain ⟨c2, tC⟩ := aA ((zM w (.cells (madeCells #[.int .i64 0] n) 3) _ hpb).trans h)
 generalize madeCells #[aF] n = A at *
 generalize madeCells #[.int .i64 0] n = B at *
 go_enter Tryz.func87, Tryz.ntmps87
 go_wp2_with fail
 go_region
 all_goals
  go_wp2_with fail
  go_ret
  exact ⟨w.heap.size + 2, _, rfl, by omega, mO ((((Below.refl _ w).alloc zR _).alloc (by simp) _).alloc (by simp; omega) _), aC (by simp), rfl⟩
end
def Pt (w : World) (wb : Nat) (v : Value) (eb sb : Nat) : Prop := ∃ (lo hi pb : Nat) (t : List UInt8) (A : Array Value), wb < lo /\ hi <= w.heap.size /\ lo <= sb /\ sb < hi /\ (∀ k, v.ownBlock = some k -> k < lo \/ hi <= k) /\ w.heap[sb]? = some (.cells A 104) /\ A[0]? = some (ptr pb) /\ ∀ w' : World, (∀ k, lo <= k -> k < hi -> w'.heap[k]? = w.heap[k]?) -> Tb w'.heap.size w' -> Tx2 w' eb pb t
section
variable {w w' : World} {wb eb sb : Nat} {v v' vl : Value} {ps : List (Nat × Nat)}
theorem Pt.keep (h : Pt w wb v eb sb) (hs : w.heap.size <= w'.heap.size) (hb : ∀ k, wb < k -> k < w.heap.size -> v.ownBlock ≠ some k -> w'.heap[k]? = w.heap[k]?) (hv : ∀ k, v'.ownBlock = some k -> v.ownBlock = some k \/ w.heap.size <= k) : Pt w' wb v' eb sb := by
 obtain ⟨lo, hi, pb, t, A, h1, h2, h3, h4, h5, h6, h7, h8⟩ := h
 have hk : ∀ k, lo <= k -> k < hi -> w'.heap[k]? = w.heap[k]? := fun k a b => hb k (by omega) (by omega) (fun e => by rcases h5 k e with q | q <;> omega)
 refine ⟨lo, hi, pb, t, A, h1, by omega, h3, h4, fun k e => ?_, (hk sb h3 h4).trans h6, h7, fun W hW => h8 W (fun k a b => (hW k a b).trans (hk k a b))⟩
 rcases hv k e with q | q
 ·exact h5 k q
 ·exact Or.inr (by omega)
theorem Pt.made {w1 w2 w4 : World} {l : List UInt8} {x : List Dc × List (Nat × NP × BT 8)} {p : Pm} {g1 n mb lo pb m : Nat} {v2 v3 v4 : Value} {A : Array Value} (hx : dM l = .ok x) (h1 : w1.heap[g1]? = some (.cells #[ptr n, ptr mb, v2, v3, v4] 73)) (h2 : tV w1 n lo x) (hn : w.heap.size <= n) (hl : n < lo) (hlo : lo <= mb) (hmb : mb < g1) (B2 : Below w1.heap.size w1 w2) (hP : Pgg w2 w1.heap.size w2.heap.size pb (bM x).L (bM x).mf p) (hr : aDf (bM x).L p (bM x)) (B4 : Below w2.heap.size w2 w4) (hm : w2.heap.size <= m) (hA : w4.heap[m]? = some (.cells A 104)) (hA0 : A[0]? = some (ptr pb)) (hwb : wb < w.heap.size) (hv : ∀ k, v.ownBlock = some k -> k < w.heap.size) : Pt w4 wb v g1 m := by
 have z2 := B2.size
 have z4 := B4.size
 have hg := (zL h1)
 have hm4 := (zL hA)
 refine ⟨w.heap.size, w4.heap.size, pb, _, A, hwb, zR, by omega, hm4, fun k e => Or.inl (hv k e), hA, hA0, fun W hW ht => ⟨aOb hx hr (lo := lo) (mb := mb) (v2 := v2) (v3 := v3) (v4 := v4) ?_ (h2.move fun g a b => ?_) ht, aLz hx hr (hi := w2.heap.size) (Pgg.pf (lo := w1.heap.size) (hP.keep fun b a c => ?_))⟩⟩
 ·exact (hW g1 (by omega) (by omega)).trans ((B4.block _ (by omega)).trans ((B2.block _ hg).trans h1))
 ·exact (hW g (by omega) (by omega)).trans ((B4.block _ (by omega)).trans (B2.block _ (by omega)))
 ·exact (hW b (by omega) (by omega)).trans (B4.block _ c)
def esP (ps : List (Nat × Nat)) : List Value := ps.flatMap fun q => [ptr q.1, ptr q.2]
structure Wl (w : World) (wb : Nat) (v : Value) (ps : List (Nat × Nat)) : Prop where
 at' : w.heap[wb]? = some (.cells #[v, aF, .bool false] 58)
 own : w.ownsRow (wb + 1) 100 2 v ps.length (esP ps)
 pr : ∀ q ∈ ps, Pt w wb v q.1 q.2
theorem Wl.lt (h : Wl w wb v ps) : wb < w.heap.size := (zL h.at')
theorem Wl.below (h : Wl w wb v ps) (hb : Below w.heap.size w w') : Wl w' wb v ps :=
 ⟨(hb.block _ h.lt).trans h.at', aW h.own (fun _ _ hl => hb.block _ hl), fun q hq => (h.pr q hq).keep hb.size (fun k _ hk _ => hb.block k hk) (fun _ e => Or.inl e)⟩
theorem Wl.more {w4 w6 : World} (h : Wl w wb v ps) (B : Below w.heap.size w w4) (hN : Pt w4 wb v eb sb) (hown6 : w6.ownsRow (wb + 1) 100 2 v' (ps.length + 1) (esP ps ++ [ptr eb, ptr sb])) (hgrow : (w4.alloc (.cells #[ptr eb, ptr sb] 100)).grownBy w6 v.ownBlock) (hat : v'.ownBlock = v.ownBlock \/ v'.ownBlock = some (w4.alloc (.cells #[ptr eb, ptr sb] 100)).heap.size) (vZ : w6.heap[wb]? = some (.cells #[v, aF, .bool false] 58)) :
  ∃ v2 qs, qs.length <= ps.length + 1 /\ Wl (w6.setCell ⟨wb, 0, none⟩ v') wb v2 qs /\ Below wb w (w6.setCell ⟨wb, 0, none⟩ v') := by
 have hwb := h.lt
 have hz := B.size
 have hzz : (w4.alloc (.cells #[ptr eb, ptr sb] 100)).heap.size = w4.heap.size + 1 := by simp
 have hlo : ∀ k, v.ownBlock = some k -> wb + 1 <= k /\ k < w.heap.size := fun k e => h.own.lt k e
 have hs6 := hgrow.size
 have hst : ∀ k, k < w4.heap.size -> k ≠ wb -> v.ownBlock ≠ some k -> (w6.setCell ⟨wb, 0, none⟩ v').heap[k]? = w4.heap[k]? := fun k h1 h2 h3 =>
  (zS _ _ _ _ h2).trans ((hgrow.block k (by omega) (fun e => h3 e.symm)).trans (zM _ _ _ h1))
 have aR5 : w4.heap.size <= (w6.setCell ⟨wb, 0, none⟩ v').heap.size := by simp [World.setCell]; omega
 have hv' : ∀ k, v'.ownBlock = some k -> v.ownBlock = some k \/ w4.heap.size <= k := fun k e => by
  rcases hat with e2 | e2
  ·exact Or.inl (e2 ▸ e)
  ·rw [e2] at e; cases e; exact Or.inr (by omega)
 refine ⟨v', ps ++ [(eb, sb)], by simp, ⟨(zC _ _ 0 _ _ _ vZ).trans rfl, ?_, fun q hq => ?_⟩, hgrow.os.trans B.os, hgrow.tape.trans B.tape, hgrow.output.trans B.output, by omega, fun k hk => ?_⟩
 ·have e1 : esP (ps ++ [(eb, sb)]) = esP ps ++ [ptr eb, ptr sb] := by simp [esP]
  rw [e1, List.length_append]
  exact aW hown6 (fun g hg _ => zS _ _ _ _ (by have := (hown6.lt g hg).1; show g ≠ wb; omega))
 ·have hq4 : Pt w4 wb v q.1 q.2 := by
   rw [List.mem_append] at hq
   rcases hq with hq | hq
   ·exact (h.pr q hq).keep hz (fun k _ hk _ => B.block k hk) (fun _ e => Or.inl e)
   ·simp only [List.mem_singleton] at hq
    subst hq
    exact hN
  exact hq4.keep aR5 (fun k a b c => hst k b (by omega) c) hv'
 ·exact (hst k (by omega) (by omega) (fun e => by have := (hlo k e).1; omega)).trans (B.block k (by omega))
def xI (w : World) (wb : Nat) (ps : List (Nat × Nat)) (e : Ending) (w' : World) : Prop :=
 e = .returned (.bool true) /\ ∃ v2 qs, qs.length <= ps.length + 1 /\ Wl w' wb v2 qs /\ Below wb w w'
theorem aL9 {g : Nat} {A : Nat -> Addr} (h : Wl w wb v ps) (SS : Sent w A) (HG : Wd w g) (hn : ps.length <= 4000000000000) (l : List UInt8) :
  Calls Tryz.prog 53 #[ptr wb, S l] w (xI w wb ps) := by
 have hwb := h.lt
 have H1 := aKg l SS
 have H2 := fun w1 (hb : Below w.heap.size w w1) => aM8 l w1 g (HG.mv hb)
 have hne : ∀ i p, dM l = .error (i, p) -> oK i ≠ 0 := fun i p _ => kQ i
 unfold xI
 have hvl : ∀ k, v.ownBlock = some k -> k < w.heap.size := fun k e => (h.own.lt k e).2
 have hmd : Hid (∀ {w1 w2 w4 : World} {x : List Dc × List (Nat × NP × BT 8)} {p : Pm} {g1 n mb lo pb m : Nat} {A : Array Value}, dM l = .ok x -> w1.heap[g1]? = some (.cells #[ptr n, ptr mb, .int .i64 0, .int .i64 0, .int .i64 0] 73) -> tV w1 n lo x -> w.heap.size <= n -> n < lo -> lo <= mb -> mb < g1 -> Below w1.heap.size w1 w2 -> Pgg w2 w1.heap.size w2.heap.size pb (bM x).L (bM x).mf p -> aDf (bM x).L p (bM x) -> Below w2.heap.size w2 w4 -> w2.heap.size <= m -> w4.heap[m]? = some (.cells A 104) -> A[0]? = some (ptr pb) -> Pt w4 wb v g1 m) := fun a b c d e f g i j k n o q r => Pt.made a b c d e f g i j k n o q r hwb hvl
 have hmr : Hid (∀ {w4 w6 : World} {v' : Value} {eb sb : Nat}, Below w.heap.size w w4 -> Pt w4 wb v eb sb -> w6.ownsRow (wb + 1) 100 2 v' (ps.length + 1) (esP ps ++ [ptr eb, ptr sb]) -> (w4.alloc (.cells #[ptr eb, ptr sb] 100)).grownBy w6 v.ownBlock -> (v'.ownBlock = v.ownBlock \/ v'.ownBlock = some (w4.alloc (.cells #[ptr eb, ptr sb] 100)).heap.size) -> w6.heap[wb]? = some (.cells #[v, aF, .bool false] 58) -> ∃ v2 qs, qs.length <= ps.length + 1 /\ Wl (w6.setCell ⟨wb, 0, none⟩ v') wb v2 qs /\ Below wb w (w6.setCell ⟨wb, 0, none⟩ v')) := fun a b c d e f => h.more a b c d e f
 have hsm : Hid (∀ W : World, Below w.heap.size w W -> ∃ v2 qs, qs.length <= ps.length + 1 /\ Wl W wb v2 qs /\ Below wb w W) := fun W hW => ⟨v, ps, by omega, h.below hW, hW.mono (Nat.le_of_lt hwb)⟩
 obtain ⟨hv, hown, _⟩ := h
 generalize hrd : dM l = r at *
 go_enter Tryz.func53, Tryz.ntmps53
 go_wp2_with fail
 refine H1.mono ?_
 intro e w1 h1
 unfold aS0 at h1
 clear H1
 rcases r with ⟨i, p⟩ | x
 ·obtain ⟨h1, B1⟩ := h1
  have H2 := H2 w1 B1
  have z1 := B1.size
  subst h1
  have hn0 := hne i p rfl
  have hn1 : ((oK i : Int) != 0) = true := by simp; omega
  generalize hei : oK i = ei at *
  have EI : Hid (oK i = ei) := hei
  clear hei
  clear hne
  go_wp2_with fail
  refine H2.mono ?_
  rintro e w2 ⟨B2, h2⟩
  have h2 : e = .returned (.tuple #[.pointer none, .int .i64 (oK i), .int .i64 p]) := h2
  rw [EI.out] at h2
  subst h2
  clear H2
  go_wp2_with fail
  go_ret
  exact ⟨by simp, hsm.out _ (B1.trans (B2.mono z1))⟩
 ·obtain ⟨g1, n1, mb, rfl, B1, hn1, hn2, hn3, hE, ⟨lo, k1, k2, k3, _⟩, _⟩ := h1
  have H2 := H2 w1 B1
  have z1 := B1.size
  clear hne
  go_wp2_with fail
  refine H2.mono ?_
  rintro e w2 ⟨B2, pb, p, rfl, hP, hr⟩
  clear H2
  have B3 := B1.trans (B2.mono z1)
  have hv := (B3.block wb hwb).trans hv
  have hown := aW hown (fun g _ hl => B3.block g hl)
  obtain ⟨va, vk, vc, rfl⟩ := aU hown
  have hPd : Pgg w2.drew w1.heap.size w2.heap.size pb (bM x).L (bM x).mf p := hP.keep (fun b _ _ => rfl)
  obtain ⟨la, lc, gr, gh, Mv, RA, hpb, _⟩ := hPd.ex
  have HN := aPz hP.len hpb
  have z2 : w.heap.size <= w2.heap.size := B3.size
  have hw2 : wb < w2.heap.size := by omega
  have aT3 : Hid (Below w.heap.size w w2) := B3
  have aSe : Hid (∀ (w4 : World) (m2 : Nat) (A : Array Value), Below w2.heap.size w2 w4 -> w2.heap.size <= m2 -> w4.heap[m2]? = some (.cells A 104) -> A[0]? = some (ptr pb) -> Pt w4 wb (.slice va vk vc) g1 m2) := fun w4 m2 A a b c d => hmd.out rfl hE k3 hn1 k1 k2 hn3 B2 hP hr a b c d
  clear B1 B2 B3 SS HG hmd hE hP hr hPd hpb hn1 hn2 hn3 k1 k2 k3
  obtain ⟨i0, hi, hz0, hz1, hz2⟩ := info_parts aId
  have hbd : ps.length + 1 <= maxLen := by simp only [maxLen]; omega
  have hby : (ps.length + 1) * 16 <= 140737488355328 := by omega
  obtain ⟨c, cf⟩ := aA hv
  go_wp2_with fail
  go_region_law (first
   | (refine bT rfl (.tmp 46) (.tmp 51) 55 rfl (wb + 1) 100 i0 (.agg #[.pointer none, .pointer none]) 2 16 Tryz.underlying55 hi hz0 hz1 hz2 rfl (by decide) (.slice va vk vc) ps.length (esP ps) (by simp [Act.eval]) aEh ⟨w4.heap.size, 0, none⟩ 1 1 [ptr g1, ptr m2] (by simp [Act.eval]) rfl (dY w4 #[ptr g1, ptr m2] 100) (fun u hu => by simp at hu; rcases hu with rfl | rfl <;> rfl) hbd hby (by simp; omega) ?_; intro v' w6 hown6 hgrow hat; obtain ⟨ya, yk, yc, rfl⟩ := aU hown6; have vZ := (hgrow.block wb hzz hrow).trans hP5; have hfin := hmr.out hB4 hPr hown6 hgrow hat vZ; have aSi : Hid (∃ v2 qs, qs.length <= ps.length + 1 /\ Wl (w6.setCell ⟨wb, 0, none⟩ (.slice ya yk yc)) wb v2 qs /\ Below wb w (w6.setCell ⟨wb, 0, none⟩ (.slice ya yk yc))) := hfin; clear hfin hmr; obtain ⟨cq, cqf⟩ := aA vZ)
   | (refine mX rfl ?_; go_simp; go_at_call 87; go_must (refine HN.mono ?_; rintro e w4 ⟨m2, A2, rfl, hm, B4, hR, hR0⟩; have aSq : Below w2.heap.size w2 w4 := (mO (Below.refl _ w2)).trans B4; have hPr := aSe.out w4 m2 A2 aSq hm hR hR0; have hB4 := aT3.out.trans (aSq.mono z2); clear hR hR0 aSe; have z4 := B4.size; have hP4 := (B4.block wb hw2).trans hv; have z5 : w2.heap.size <= w4.heap.size := z4; have aEh := aW (w' := w4.alloc (.cells #[ptr g1, ptr m2] 100)) hown (fun g hg hl => (zM _ _ _ (Nat.lt_of_lt_of_le hl z5)).trans (B4.block g hl)); have hP5 := (zM w4 (.cells #[ptr g1, ptr m2] 100) wb (by omega)).trans hP4; have hzz : wb < (w4.alloc (.cells #[ptr g1, ptr m2] 100)).heap.size := (by simp; omega); have hrow : some wb ≠ (Value.slice va vk vc).ownBlock := (fun e => by have := (hown.lt _ e.symm).1; omega); obtain ⟨cp4, aSu⟩ := aA hP4; obtain ⟨cp5, aVp⟩ := aA hP5)))
  all_goals
   go_wp2_with fail
   go_ret
   exact ⟨rfl, aSi.out⟩
end
theorem aHe (c : Int) (n : Nat) (hn : 0 < n) (hn2 : n <= 4000000000000) (w : World) (h1 : -9223372036854775808 <= c) (h2 : c <= 9223372036854775807) :
  Calls Tryz.prog 54 #[.int .i64 c, .int .i64 n] w fun e w' => ∃ k : Nat, k < n /\ (k : Int) = (if c < 0 then -(c + 1) else c) % n /\ e = .returned (.int .i64 k) /\ w' = w := by
 have hz : ((n : Int) == 0) = false := by simp; omega
 by_cases h : c < 0
 ·have h4 : (-(c + 1)).tmod n = -(c + 1) % n := Int.tmod_eq_emod_of_nonneg (by omega)
  have h5 := Int.emod_nonneg (-(c + 1)) (show (n : Int) ≠ 0 by omega)
  have h6 := Int.emod_lt_of_pos (-(c + 1)) (show (0 : Int) < n by omega)
  have h3 : ((-(c + 1) % n).toNat : Int) = -(c + 1) % n := by omega
  rw [if_pos h]
  go_enter Tryz.func54, Tryz.ntmps54
  go_wp2_with fail
  go_ret
  refine ⟨(-(c + 1) % n).toNat, by omega, h3, ?_, rfl⟩
  rw [h3]
  first | rfl | rw [<- h4] | (congr 3; omega)
 ·have h4 : c.tmod n = c % n := Int.tmod_eq_emod_of_nonneg (by omega)
  have h5 := Int.emod_nonneg c (show (n : Int) ≠ 0 by omega)
  have h6 := Int.emod_lt_of_pos c (show (0 : Int) < n by omega)
  have h3 : ((c % n).toNat : Int) = c % n := by omega
  rw [if_neg h]
  go_enter Tryz.func54, Tryz.ntmps54
  go_wp2_with fail
  go_ret
  refine ⟨(c % n).toNat, by omega, h3, ?_, rfl⟩
  rw [h3]
  first | rfl | rw [<- h4] | (congr 3; omega)
theorem aR0 (g n cap k : Nat) (hk : k < n) : ∀ W : World, (Instr.indexAt 55 (.slice (some ⟨g, 0, none⟩) n cap) (.int .i64 k)).run Tryz.prog W = .ok (.pointer (some ⟨g, k * 2, none⟩)) W := by
 intro W
 rw [run_indexAt_slice (h := by kernel_rfl), if_pos (by omega)]
 have : (sizeOf (Tryz.prog.elem 55)).run Tryz.prog W = .ok 2 W := by kernel_rfl
 rw [this]
 simp [Result.andThen, Addr.add]
 omega
theorem aK8 : ∀ (ps : List (Nat × Nat)) (k : Nat) (q : Nat × Nat), ps[k]? = some q -> (esP ps)[k * 2]? = some (ptr q.1) /\ (esP ps)[k * 2 + 1]? = some (ptr q.2)
 | [], k, q, h => by simp at h
 | p :: ps, 0, q, h => by simp at h; subst h; exact ⟨rfl, rfl⟩
 | p :: ps, k + 1, q, h => by
  have := aK8 ps k q (by simpa using h)
  have e : (k + 1) * 2 = k * 2 + 1 + 1 := by omega
  rw [e]
  exact this
section
variable {w : World} {wb : Nat} {v : Value} {ps : List (Nat × Nat)}
theorem Wl.at {k : Nat} {q : Nat × Nat} (h : Wl w wb v ps) (hk : ps[k]? = some q) : ∃ g cap, v = .slice (some ⟨g, 0, none⟩) ps.length cap /\ g < w.heap.size /\ w.cell? ⟨g, k * 2, none⟩ = some (ptr q.1) /\ w.cell? ⟨g, k * 2 + 1, none⟩ = some (ptr q.2) := by
 have hl := (List.getElem?_eq_some_iff.1 hk).1
 obtain ⟨g, cap, h1, h2, _, h3⟩ := pW h.own (by omega)
 obtain ⟨e1, e2⟩ := aK8 ps k q hk
 exact ⟨g, cap, h1, h2, (h3 _ (by omega)).trans e1, (h3 _ (by omega)).trans e2⟩
theorem aDo (h : Wl w wb v []) (k a u : Int) (hk : (k == 1) = false) (l : List UInt8) :
  Calls Tryz.prog 34 #[ptr wb, .agg #[.int .i64 k, .int .i64 a, .int .u64 u, S l]] w fun e w' => e = .returned (.bool true) /\ Below w.heap.size w w' := by
 have B0 := (Below.refl w.heap.size w).alloc zR (.cells #[.int .i64 k, .int .i64 a, .int .u64 u, S l] 28)
 have hv := (B0.block _ h.lt).trans h.at'
 obtain ⟨va, vc, rfl⟩ := oG h.own
 obtain ⟨c, cf⟩ := aA hv
 go_enter Tryz.func34, Tryz.ntmps34
 go_wp2_with fail
 go_ret
 exact ⟨rfl, B0⟩
theorem aDn (h : Wl w wb v ps) (ht : Tb w.heap.size w) (h0 : 0 < ps.length) (hn : ps.length <= 4000000000000) (a u : Int) (ha : -9223372036854775808 <= a) (ha2 : a <= 9223372036854775807) (l : List UInt8) :
  Calls Tryz.prog 34 #[ptr wb, .agg #[.int .i64 2, .int .i64 a, .int .u64 u, S l]] w fun e w' => e = .returned (.bool true) /\ Below w.heap.size w w' := by
 have HP := fun W => aHe a ps.length h0 hn W ha ha2
 have hwb := h.lt
 have hnz : ((ps.length : Int) == 0) = false := beq_false_of_ne (by omega)
 have b1 : (w.alloc (.cells #[.int .i64 2, .int .i64 a, .int .u64 u, S l] 28)).heap[w.heap.size]? = some (.cells #[.int .i64 2, .int .i64 a, .int .u64 u, S l] 28) := aC rfl
 have B0 := (Below.refl w.heap.size w).alloc zR (.cells #[.int .i64 2, .int .i64 a, .int .u64 u, S l] 28)
 have h1 := h.below B0
 have ht1 := ht.mv B0
 have hz1 : (w.alloc (.cells #[.int .i64 2, .int .i64 a, .int .u64 u, S l] 28)).heap.size = w.heap.size + 1 := by simp
 obtain ⟨va, vc, rfl⟩ := oG h.own
 obtain ⟨k, hk1, hk2⟩ : ∃ k : Nat, k < ps.length /\ (k : Int) = (if a < 0 then -(a + 1) else a) % ps.length := by
  have h5 := Int.emod_nonneg (if a < 0 then -(a + 1) else a) (show (ps.length : Int) ≠ 0 by omega)
  have h6 := Int.emod_lt_of_pos (if a < 0 then -(a + 1) else a) (show (0 : Int) < ps.length by omega)
  exact ⟨((if a < 0 then -(a + 1) else a) % ps.length).toNat, by omega, by omega⟩
 have HPk : Hid (∀ W, Calls Tryz.prog 54 #[.int .i64 a, .int .i64 ps.length] W fun e w' => e = .returned (.int .i64 k) /\ w' = W) := fun W => (HP W).mono fun e w' ⟨j, q1, q2, q3, q4⟩ => by
  have : j = k := by omega
  subst this
  exact ⟨q3, q4⟩
 clear HP hk2
 obtain ⟨q, hq⟩ : ∃ q, ps[k]? = some q := ⟨_, List.getElem?_eq_getElem hk1⟩
 obtain ⟨eb, sb⟩ := q
 obtain ⟨g, cap, hv, hg, g1, g2⟩ := h1.at hq
 injection hv with hv1 hv2 hv3
 subst hv1 hv3
 have hix := aR0 g ps.length vc k hk1
 have hat := h1.at'
 have hrest : Hid (∀ w2 : World, Below (w.alloc (.cells #[.int .i64 2, .int .i64 a, .int .u64 u, S l] 28)).heap.size (w.alloc (.cells #[.int .i64 2, .int .i64 a, .int .u64 u, S l] 28)) w2 -> w2.heap[w.heap.size + 1]? = some (.cells #[.pointer (some ⟨eb, 0, none⟩), .pointer (some ⟨sb, 0, none⟩)] 100) -> Below w.heap.size w w2 /\ ∃ pb t, (∀ W, Below w2.heap.size w2 W -> W.cell? ⟨w.heap.size + 1, 0, none⟩ = some (ptr eb) /\ W.cell? ⟨w.heap.size + 1, 1, none⟩ = some (ptr sb) /\ W.cell? ⟨sb, 0, none⟩ = some (ptr pb)) /\ (∀ W, Below w2.heap.size w2 W -> Calls Tryz.prog 19 #[ptr eb] W (fun e w' => e = .returned (S t) /\ Below w2.heap.size w2 w')) /\ (∀ W, Below w2.heap.size w2 W -> Calls Tryz.prog 20 #[ptr pb] W (fun e w' => e = .returned (S t) /\ Below w2.heap.size w2 w'))) := fun w2 B2 b2 => by
  have hl2 := (zL b2)
  obtain ⟨lo, hi, pb, t, A, p1, p2, p3, p4, p5, p6, p7, p8⟩ := h.pr _ (List.mem_of_getElem? hq)
  have hB0 := B0.trans (B2.mono (Nat.le_of_lt (by rw [hz1]; omega)))
  have hB := fun W (hW : Below w2.heap.size w2 W) => hB0.trans (hW.mono (show w.heap.size <= w2.heap.size by omega))
  have hT := fun W (hW : Below w2.heap.size w2 W) => p8 W (fun k _ b => (hB W hW).block k (by omega)) ((ht.mv (hB W hW)).up (hB W hW).size)
  refine ⟨hB0, pb, t, fun W hW => ⟨?_, ?_, ?_⟩, fun W hW => (hT W hW).1.mono fun e w' q => ⟨q.1, hW.trans (q.2.mono hW.size)⟩, fun W hW => (hT W hW).2.mono fun e w' q => ⟨q.1, hW.trans (q.2.mono hW.size)⟩⟩
  ·exact (hW.cell (p := ⟨w.heap.size + 1, 0, none⟩) hl2).trans ((aA b2).1 0)
  ·exact (hW.cell (p := ⟨w.heap.size + 1, 1, none⟩) hl2).trans ((aA b2).1 1)
  ·exact ((hB W hW).cell (p := ⟨sb, 0, none⟩) (show sb < w.heap.size by omega)).trans (((aA p6).1 0).trans p7)
 clear h ht h1 ht1
 go_enter Tryz.func34, Tryz.ntmps34
 go_upto_region 1 with fail
 generalize w.alloc (.cells #[.int .i64 2, .int .i64 a, .int .u64 u, S l] 28) = w1 at *
 obtain ⟨c1, cf1⟩ := aA b1
 obtain ⟨c2, tC⟩ := aA hat
 go_upto_region 5 with fail
 have c21 := c2 0
 have c11 := c1 1
 go_region_held (fun w' => w'.cell? ⟨wb, 0, none⟩ = some (.slice (some ⟨g, 0, none⟩) ps.length vc) /\ w'.cell? ⟨w.heap.size, 1, none⟩ = some (.int .i64 a) /\ w'.cell? ⟨g, k * 2, none⟩ = some (ptr eb) /\ w'.cell? ⟨g, k * 2 + 1, none⟩ = some (ptr sb)) (first | assumption | go_keep) (first | (go_at_call 54; refine (HPk.out _).mono ?_; rintro e w' ⟨rfl, rfl⟩))
 all_goals
  have b2 : (w1.alloc (.cells #[.pointer (some ⟨eb, 0, none⟩), .pointer (some ⟨sb, 0, none⟩)] 100)).drew.heap[w.heap.size + 1]? = some (.cells #[.pointer (some ⟨eb, 0, none⟩), .pointer (some ⟨sb, 0, none⟩)] 100) := aC hz1.symm
  have B2 : Below w1.heap.size w1 (w1.alloc (.cells #[.pointer (some ⟨eb, 0, none⟩), .pointer (some ⟨sb, 0, none⟩)] 100)).drew := ((Below.refl _ w1).alloc zR _).drew
  have hbx : (w1.alloc (.cells #[.pointer (some ⟨eb, 0, none⟩), .pointer (some ⟨sb, 0, none⟩)] 100)).drew.heap[w.heap.size]? = some (.cells #[.int .i64 2, .int .i64 a, .int .u64 u, S l] 28) := (B2.block _ (by omega)).trans b1
  generalize (w1.alloc (.cells #[.pointer (some ⟨eb, 0, none⟩), .pointer (some ⟨sb, 0, none⟩)] 100)).drew = w2 at *
  obtain ⟨hB9, pb, t, hcl, HT1, HT2⟩ := hrest.out w2 B2 b2
  clear hrest
  obtain ⟨c3, cf3⟩ := aA hbx
  go_upto_region 8 with fail
  refine wp_region_quiet (C := Below w2.heap.size w2) (by kernel_rfl) (by kernel_rfl) ((Below.refl _ _).drew) ?_
  refine aH (.pointer (some ⟨w.heap.size + 1, 0, none⟩)) (by kernel_rfl) (fun W _ => by kernel_rfl) ?_
  go_simp
  refine aH (ptr eb) (by kernel_rfl) (fun W hW => by have cw := (hcl W hW).1; unfold execOp; go_simp) ?_
  go_simp
  refine fU (S t) 19 #[ptr eb] (by kernel_rfl) (fun W => by kernel_rfl) HT1 ?_
  go_simp
  refine aH (.pointer (some ⟨w.heap.size + 1, 1, none⟩)) (by kernel_rfl) (fun W _ => by kernel_rfl) ?_
  go_simp
  refine aH (ptr sb) (by kernel_rfl) (fun W hW => by have cw := (hcl W hW).2.1; unfold execOp; go_simp) ?_
  go_simp
  refine aH (ptr sb) (by kernel_rfl) (fun W _ => by kernel_rfl) ?_
  go_simp
  refine aH (.pointer (some ⟨sb, 0, none⟩)) (by kernel_rfl) (fun W _ => by kernel_rfl) ?_
  go_simp
  refine aH (ptr pb) (by kernel_rfl) (fun W hW => by have cw := (hcl W hW).2.2; unfold execOp; go_simp) ?_
  go_simp
  refine fU (S t) 20 #[ptr pb] (by kernel_rfl) (fun W => by kernel_rfl) HT2 ?_
  go_simp
  refine aH (.bool true) (by kernel_rfl) (fun W _ => by unfold execOp; go_simp) ?_
  go_simp
  refine aH (.bool true) (by kernel_rfl) (fun W _ => by kernel_rfl) ?_
  go_simp
  refine wpQuiet_nil ?_
  intro wa Ba
  clear hcl HT1 HT2
  go_wp2_with fail
  go_ret
  exact ⟨rfl, hB9.trans (Ba.mono hB9.size)⟩
end
theorem aHl (w : World) : Calls Tryz.prog 33 #[.int .i64 2] w fun e w' => e = .returned (.int .i64 2) /\ w' = w := by
 go_enter Tryz.func33, Tryz.ntmps33
 go_wp2_with fail
 go_ret
 exact ⟨rfl, rfl⟩
theorem aDt (k : Int) (h1 : (k == 1) = false) (h2 : (k == 2) = false) (w : World) : Calls Tryz.prog 33 #[.int .i64 k] w fun e w' => (∃ z : Int, 3 <= z /\ e = .returned (.int .i64 z)) /\ w' = w := by
 cases h3 : (k == 3) with
 | true =>
  go_enter Tryz.func33, Tryz.ntmps33
  go_wp2_with fail
  go_ret
  exact ⟨⟨3, by omega, rfl⟩, rfl⟩
 | false =>
 cases h4 : (k == 4) with
 | true =>
  go_enter Tryz.func33, Tryz.ntmps33
  go_wp2_with fail
  go_ret
  exact ⟨⟨3, by omega, rfl⟩, rfl⟩
 | false =>
  go_enter Tryz.func33, Tryz.ntmps33
  go_wp2_with fail
  go_ret
  exact ⟨⟨4, by omega, rfl⟩, rfl⟩
section
variable {w : World} {wb g : Nat} {v : Value} {ps : List (Nat × Nat)} {A : Nat -> Addr}
theorem aL6 (h : Wl w wb v ps) (SS : Sent w A) (HG : Wd w g) (hn : ps.length <= 4000000000000) (a u : Int) (l : List UInt8) :
  Calls Tryz.prog 34 #[ptr wb, .agg #[.int .i64 1, .int .i64 a, .int .u64 u, S l]] w (xI w wb ps) := by
 have hwb := h.lt
 have B0 := (Below.refl w.heap.size w).alloc zR (.cells #[.int .i64 1, .int .i64 a, .int .u64 u, S l] 28)
 have HX := aL9 (h.below B0) (SS.move B0) (HG.mv B0) hn l
 clear SS HG
 unfold xI at *
 go_enter Tryz.func34, Tryz.ntmps34
 go_wp2_with fail
 refine HX.mono ?_
 rintro e w1 ⟨rfl, v2, qs, h1, h2, h3⟩
 go_wp2_with fail
 go_ret
 exact ⟨rfl, v2, qs, h1, h2, (B0.mono (by omega)).trans h3⟩
theorem aL5 (h : Wl w wb v ps) (ht : Tb w.heap.size w) (hn : ps.length <= 4000000000000) (a u : Int) (ha : -9223372036854775808 <= a /\ a <= 9223372036854775807) (l : List UInt8) :
  Calls Tryz.prog 34 #[ptr wb, .agg #[.int .i64 2, .int .i64 a, .int .u64 u, S l]] w (xI w wb ps) := by
 have hwb := h.lt
 unfold xI
 cases hp : ps with
 | nil =>
  subst hp
  exact (aDo h 2 a u rfl l).mono fun e w' q => ⟨q.1, v, [], Nat.zero_le _, h.below q.2, q.2.mono (by omega)⟩
 | cons p ps' => exact (aDn h ht (by rw [hp]; simp) hn a u ha.1 ha.2 l).mono fun e w' q => ⟨q.1, v, ps, by rw [hp]; omega, h.below q.2, q.2.mono (by omega)⟩
end
theorem aHi {w : World} {g : Nat} {A : Nat -> Addr} (SS : Sent w A) (HG : Wd w g) (ht : Tb w.heap.size w) {sa : Option Addr} {n cap : Nat} {T : Nat -> Sop} (h : Sc w sa n T) (hT : ∀ i, i < n -> -9223372036854775808 <= (T i).a /\ (T i).a <= 9223372036854775807) :
  Calls Tryz.prog 16 #[.slice sa n cap, .int .i64 2] w fun e w' => e = .returned (.int .i64 (-1)) /\ Below w.heap.size w w' := by
 have hlen := h.len
 have B0 := (Below.refl w.heap.size w).alloc zR (.cells #[aF, aF, .bool false] 58)
 have W0 : Wl (w.alloc (.cells #[aF, aF, .bool false] 58)) w.heap.size aF [] := ⟨aC rfl, World.ownsRow_nil _ _ _ _, fun q hq => by cases hq⟩
 have HT9 : Hid (∀ i, i < n -> -9223372036854775808 <= (T i).a /\ (T i).a <= 9223372036854775807) := hT
 clear hT
 go_enter Tryz.func16, Tryz.ntmps16
 go_wp2_with fail
 go_loopg [12] n (fun f v12 wr => ∃ (k : Nat) (v : Value) (ps : List (Nat × Nat)), v12 = .int .i64 k /\ k + f = n /\ ps.length <= k /\ Wl wr w.heap.size v ps /\ Below w.heap.size w wr)
 case atStart => exact ⟨0, aF, [], rfl, by omega, zR, W0, B0⟩
 case round =>
  obtain ⟨k, v, ps, rfl, hk, hm, HW, HB⟩ := hrel
  have hz := HB.size
  have hwz : w.heap.size < wr.heap.size := HW.lt
  clear B0 W0
  by_cases hlt : k < n
  ·have hc := h.move HB
   obtain ⟨b, o, rfl, hl, hr⟩ := hc.at' (by omega)
   have hrg := hr k hlt
   have hix := aO2 b o n cap k hlt
   have hta : Hid _ := HT9.out k hlt
   clear hr hc
   generalize T k = t at *
   obtain ⟨tk, ta, tu, ts⟩ := t
   generalize o + k * 4 = ok at *
   have B1 := HB.alloc hz (.cells #[.int .i64 tk, .int .i64 ta, .int .u64 tu, S ts] 28)
   have b1 : (wr.alloc (.cells #[.int .i64 tk, .int .i64 ta, .int .u64 tu, S ts] 28)).heap[wr.heap.size]? = some (.cells #[.int .i64 tk, .int .i64 ta, .int .u64 tu, S ts] 28) := aC rfl
   have W1 := HW.below ((Below.refl wr.heap.size wr).alloc zR (.cells #[.int .i64 tk, .int .i64 ta, .int .u64 tu, S ts] 28))
   have HO2 := aHl (wr.alloc (.cells #[.int .i64 tk, .int .i64 ta, .int .u64 tu, S ts] 28))
   cases hk1 : (tk == 1) with
   | true =>
    have hk1 : tk = 1 := by simpa using hk1
    subst hk1
    have HS := aL6 W1 (SS.move B1) (HG.mv B1) (by omega) ta tu ts
    have HO := aHm (wr.alloc (.cells #[.int .i64 1, .int .i64 ta, .int .u64 tu, S ts] 28))
    unfold xI at HS
    clear SS HG hta
    go_wp2_with (refine wpList_load_mid rfl 28 (.tmp 15) rfl b ok rfl (aDu ⟨1, ta, tu, ts⟩) _ hrg Tryz.underlying28 rfl (by kernel_rfl) ?_)
    refine HO.mono ?_
    rintro e w' ⟨rfl, rfl⟩
    go_wp2_with fail
    refine HO2.mono ?_
    rintro e w' ⟨rfl, rfl⟩
    go_wp2_with fail
    refine HS.mono ?_
    rintro e w2 ⟨rfl, v2, qs, hm', W2, B2⟩
    go_wp2_with fail
    go_roundg (gk - 1)
    case measure => omega
    case rel => exact ⟨k + 1, v2, qs, by simp, by omega, by omega, W2, B1.trans B2⟩
   | false =>
   cases hk2 : (tk == 2) with
   | true =>
    have hk2 : tk = 2 := by simpa using hk2
    subst hk2
    have HS := aL5 W1 ((ht.mv B1).up B1.size) (by omega) ta tu hta.out ts
    unfold xI at HS
    clear SS HG hta hk1
    go_wp2_with (refine wpList_load_mid rfl 28 (.tmp 15) rfl b ok rfl (aDu ⟨2, ta, tu, ts⟩) _ hrg Tryz.underlying28 rfl (by kernel_rfl) ?_)
    refine HO2.mono ?_
    rintro e w' ⟨rfl, rfl⟩
    go_wp2_with fail
    refine HO2.mono ?_
    rintro e w' ⟨rfl, rfl⟩
    go_wp2_with fail
    refine HS.mono ?_
    rintro e w2 ⟨rfl, v2, qs, hm', W2, B2⟩
    go_wp2_with fail
    go_roundg (gk - 1)
    case measure => omega
    case rel => exact ⟨k + 1, v2, qs, by simp, by omega, by omega, W2, B1.trans B2⟩
   | false =>
    have HO := aDt tk hk1 hk2 (wr.alloc (.cells #[.int .i64 tk, .int .i64 ta, .int .u64 tu, S ts] 28))
    clear SS HG hk1 hk2 hta
    go_wp2_with (refine wpList_load_mid rfl 28 (.tmp 15) rfl b ok rfl (aDu ⟨tk, ta, tu, ts⟩) _ hrg Tryz.underlying28 rfl (by kernel_rfl) ?_)
    refine HO.mono ?_
    rintro e w' ⟨⟨z, hz2, rfl⟩, rfl⟩
    go_wp2_with fail
    refine HO2.mono ?_
    rintro e w' ⟨rfl, rfl⟩
    have hgt : decide (z > 2) = true := by simp; omega
    go_wp2_with fail
    go_roundg (gk - 1)
    case measure => omega
    case rel => exact ⟨k + 1, v, ps, by simp, by omega, by omega, W1, B1⟩
  ·go_wp2_with fail
   go_ret
   exact ⟨rfl, HB⟩
theorem aHk {w : World} {g : Nat} {A : Nat -> Addr} (SS : Sent w A) (HG : Wd w g) (ht : Tb w.heap.size w) {sa : Option Addr} {n cap : Nat} {T : Nat -> Sop} (h : Sc w sa n T) (hT : ∀ i, i < n -> -9223372036854775808 <= (T i).a /\ (T i).a <= 9223372036854775807) :
  Calls Tryz.prog 4 #[.slice sa n cap] w fun e w' => e = .returned (.bool true) /\ Below w.heap.size w w' := by
 go_enter Tryz.func4, Tryz.ntmps4
 go_wp2_with fail
 refine (aHn h).mono ?_
 rintro e w1 ⟨⟨sb, rfl⟩, B1⟩
 have HX := aHi (SS.move B1) (HG.mv B1) ((ht.mv B1).up B1.size) (cap := cap) (h.move B1) hT
 have z1 := B1.size
 clear SS HG ht
 cases sb with
 | false =>
  go_wp2_with fail
  go_ret
  exact ⟨rfl, B1⟩
 | true =>
  go_wp2_with fail
  refine HX.mono ?_
  rintro e w2 ⟨rfl, B2⟩
  go_wp2_with fail
  go_ret
  exact ⟨rfl, B1.trans (B2.mono z1)⟩
end Go.Proofs.YtfddoieakfpagaaGreatDoor
