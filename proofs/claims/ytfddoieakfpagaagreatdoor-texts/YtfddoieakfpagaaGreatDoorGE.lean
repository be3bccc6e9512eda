import Derived.Maps.AppendAt
import Derived.Deep.MidRow
import Derived.Test.YtfddoieakfpagaaGreatDoorGA
namespace Go.Proofs.YtfddoieakfpagaaGreatDoor
set_option maxHeartbeats 1000000
set_option maxRecDepth 20000
open Go.RowKit
def bD (t : Tok) : List UInt8 := if t.kind = 0 then [110, 111, 110, 101] else if t.kind = 1 then [101, 110, 100] else if t.kind = 2 then [110, 97, 109, 101] else if t.kind = 3 then [110, 117, 109] else t.txt
def bF (l : List UInt8) (p : Nat) : List UInt8 :=
 match l.drop p with
 | [] => []
 | c :: r => if dU c then (c :: r).takeWhile dU else if dN c then (c :: r).takeWhile dN else if pO c then [c] else []
def tkA (l : List UInt8) (t : Tok) : Array Value := #[S (bD t), S (bF l t.pos), .int .i64 t.pos]
def qP (l : List UInt8) (ts : List Tok) : List Value := ts.flatMap fun t => (tkA l t).toList
def gW (t : Tok) : Bool := t.kind == 0 || t.kind == 1
def mG (l : List UInt8) : Nat -> Nat -> List Tok
 | 0, _ => []
 | f + 1, i => aN l i :: if gW (aN l i) then [] else mG l f ((aN l i).pos + (aN l i).txt.length)
theorem nT (c : UInt8) (w : World) :
  Calls Tryz.prog 68 #[.int .u8 (c.toNat : Int)] w fun e w' => e = .returned (.bool (dU c)) /\ w' = w := by
 have h1 := aFr c
 have h2 := aFq c
 go_enter Tryz.func68, Tryz.ntmps68
 go_wp2
 all_goals go_ret
 ·exact ⟨by simp [dU, sH, *], rfl⟩
 ·exact ⟨by simp [dU, sH]; omega, rfl⟩
theorem nY (c : UInt8) (w : World) :
  Calls Tryz.prog 69 #[.int .u8 (c.toNat : Int)] w fun e w' => e = .returned (.bool (dN c)) /\ w' = w := by
 have h1 := aFr c
 have h2 := aFq c
 go_enter Tryz.func69, Tryz.ntmps69
 go_wp2
 all_goals go_ret
 ·exact ⟨by simp [dN, uH, *], rfl⟩
 ·exact ⟨by simp [dN, uH]; omega, rfl⟩
theorem aW {w w' : World} {base : Nat} {e : TypeId} {size n : Nat} {v : Value} {xs : List Value} (h : w.ownsRow base e size v n xs) (hb : ∀ g, v.ownBlock = some g -> g < w.heap.size -> w'.heap[g]? = w.heap[g]?) : w'.ownsRow base e size v n xs := by
 refine ⟨h.1, ?_⟩
 rcases h.2 with h0 | ⟨g, cap, cur, hv, hg, hh, r⟩
 ·exact Or.inl h0
 ·exact Or.inr ⟨g, cap, cur, hv, hg, by rw [hb g (by rw [hv]; rfl) (zL hh)]; exact hh, r⟩
theorem aJp (w : World) (A : Array Value) (T : TypeId) : ∀ j u, A.toList[j]? = some u -> (w.alloc (.cells A T)).cell? ((⟨w.heap.size, 0, none⟩ : Addr).add j) = some u := by
 intro j u hj
 have hadd : (⟨w.heap.size, 0, none⟩ : Addr).add j = ⟨w.heap.size, j, none⟩ := by unfold Addr.add; split <;> simp_all
 have hn : (w.alloc (.cells A T)).heap[w.heap.size]? = some (.cells A T) := aC rfl
 rw [hadd]
 unfold World.cell?
 rw [hn]
 simpa using hj
theorem aA {w : World} {n : Nat} {c : Array Value} {e : TypeId} (h : w.heap[n]? = some (.cells c e)) : (∀ o, w.cell? ⟨n, o, none⟩ = c[o]?) /\ ∀ o, w.frozen? ⟨n, o, none⟩ = false := by
 constructor <;> intro o <;> simp [World.cell?, World.frozen?, h]
theorem aMl {c : UInt8} {n : UInt8} (h : (c == n) = false) : ((c.toNat : Int) == (n.toNat : Int)) = false := by
 have : c ≠ n := by simpa using h
 have h2 : c.toNat ≠ n.toNat := fun e => this (UInt8.toNat_inj.1 e)
 simp only [beq_eq_false_iff_ne, ne_eq]
 omega
theorem aMm {c : UInt8} {n : UInt8} (h : (c == n) = true) : ((c.toNat : Int) == (n.toNat : Int)) = true := by
 have : c = n := by simpa using h
 subst this
 simp
theorem aS7 {c : UInt8} (h : (c == 59 || c == 123 || c == 125 || c == 60) = true) : (((c.toNat : Int) == 59) || ((c.toNat : Int) == 123) || ((c.toNat : Int) == 125) || ((c.toNat : Int) == 60)) = true := by
 simp only [Bool.or_eq_true] at h ⊢
 rcases h with ((h | h) | h) | h
 ·exact Or.inl (Or.inl (Or.inl (aMm h)))
 ·exact Or.inl (Or.inl (Or.inr (aMm h)))
 ·exact Or.inl (Or.inr (aMm h))
 ·exact Or.inr (aMm h)
theorem aAz {w : World} {k o : Nat} {v : Value} (hc : w.cell? ⟨k, o, none⟩ = some v) : k < w.heap.size := by
 by_cases e : k < w.heap.size
 ·exact e
 ·exfalso; unfold World.cell? at hc; simp [Array.getElem?_eq_none (Nat.le_of_not_lt e)] at hc
theorem aNo : (Tryz.prog.info? 87).map (fun i => (i.zero, i.size, i.bytes)) = some (some (.agg #[S [], S [], .int .i64 0]), 3, 40) := by kernel_rfl
theorem aGm {P : Program} {t : TypeId} {z : Option Value} {a b : Nat} (h : (P.info? t).map (fun i => (i.zero, i.size, i.bytes)) = some (z, a, b)) : ∃ i, P.info? t = some i /\ i.zero = z /\ i.size = a /\ i.bytes = b := by
 obtain ⟨i, hi, h⟩ := Option.map_eq_some_iff.1 h
 simp only [Prod.mk.injEq] at h
 exact ⟨i, hi, h.1, h.2.1, h.2.2⟩
theorem aEr (l : List UInt8) (ts : List Tok) (t : Tok) : qP l (ts ++ [t]) = qP l ts ++ [S (bD t), S (bF l t.pos), .int .i64 t.pos] := by simp [qP, tkA]
structure Rs where
 k : Nat
 deep : Nat
 loops : Nat
 bad : Nat
 fZ : Nat
 wrong : Nat
 iF : Nat
 aO : Nat
abbrev rsA (lv : Value) (pb : Nat) (s : Rs) : Array Value := #[lv, .int .i64 s.k, .int .i64 s.deep, .int .i64 s.loops, .int .i64 s.bad, .int .i64 s.fZ, .int .i64 s.wrong, .int .i64 s.iF, ptr pb, .int .i64 s.aO]
structure Rd (w : World) (rb pb tb lo cap : Nat) (l : List UInt8) (TL : List Tok) (s : Rs) : Prop where
 at' : w.heap[rb]? = some (.cells (rsA (.slice (some ⟨tb, 0, none⟩) TL.length cap) pb s) 84)
 own : w.ownsRow lo 87 3 (.slice (some ⟨tb, 0, none⟩) TL.length cap) TL.length (qP l TL)
 ne : tb ≠ rb
 len : TL.length <= 701
theorem Rd.drew {w : World} {rb pb tb lo cap : Nat} {l : List UInt8} {TL : List Tok} {s : Rs} (h : Rd w rb pb tb lo cap l TL s) : Rd w.drew rb pb tb lo cap l TL s :=
 ⟨h.at', aW h.own (fun _ _ _ => rfl), h.ne, h.len⟩
theorem G7 (l : List UInt8) : ∀ (TL : List Tok) (k : Nat) t, TL[k]? = some t -> ∀ j u, (tkA l t).toList[j]? = some u -> (qP l TL)[k * 3 + j]? = some u := by
 intro TL
 induction TL with
 | nil => intro k r h; simp at h
 | cons q qs ih =>
  intro k r h j u hu
  have hj : j < 3 := by
   have := (List.getElem?_eq_some_iff.1 hu).1
   simpa [tkA] using this
  cases k with
  | zero =>
   simp only [List.getElem?_cons_zero, Option.some.injEq] at h
   subst h
   simp only [qP, List.flatMap_cons, Nat.zero_mul, Nat.zero_add]
   rw [List.getElem?_append_left (by simpa [tkA] using hj)]
   exact hu
  | succ k =>
   simp only [qP, List.flatMap_cons]
   rw [List.getElem?_append_right (by simp [tkA]; omega)]
   have := ih k r (by simpa using h) j u hu
   simp only [qP] at this
   rw [<- this]
   congr 1
   simp [tkA]
   omega
theorem Rd.tok {w : World} {rb pb tb lo cap : Nat} {l : List UInt8} {TL : List Tok} {s : Rs} (h : Rd w rb pb tb lo cap l TL s) {t : Tok} (ht : TL[s.k]? = some t) :
  (w.cell? ⟨tb, s.k * 3, none⟩ = some (S (bD t)) /\ w.cell? ⟨tb, s.k * 3 + 1, none⟩ = some (S (bF l t.pos)) /\ w.cell? ⟨tb, s.k * 3 + 2, none⟩ = some (.int .i64 t.pos)) /\
  ∀ W : World, (Instr.indexAt 75 (.slice (some ⟨tb, 0, none⟩) TL.length cap) (.int .i64 s.k)).run Tryz.prog W = .ok (.pointer (some ⟨tb, s.k * 3, none⟩)) W := by
 have hlt : s.k < TL.length := (List.getElem?_eq_some_iff.1 ht).1
 have hc := fun j hj => h.own.cellAt (s.k * 3 + j) hj
 refine ⟨⟨?_, ?_, ?_⟩, ?_⟩
 ·have := hc 0 (by omega)
  rw [G7 l TL s.k t ht 0 (S (bD t)) rfl] at this
  simpa using this
 ·have := hc 1 (by omega)
  rw [G7 l TL s.k t ht 1 (S (bF l t.pos)) rfl] at this
  simpa using this
 ·have := hc 2 (by omega)
  rw [G7 l TL s.k t ht 2 (.int .i64 t.pos) rfl] at this
  simpa using this
 ·intro W
  rw [run_indexAt_slice (h := by kernel_rfl), if_pos (by omega)]
  have : (sizeOf (Tryz.prog.elem 75)).run Tryz.prog W = .ok 3 W := by kernel_rfl
  rw [this]
  simp [Result.andThen, Addr.add]
  omega
theorem But.own {b : Nat} {a w : World} (h : But b a w) (o : Nat) (u : Value) : But b a (w.setCell ⟨b, o, none⟩ u) := h.setCell (Or.inr rfl) u
theorem fH {fn : Func} {R : Ending -> World -> Prop} {a : Act} {w : World} (hr : fn.results = #[]) (hd : a.defers = []) (hR : R (.returned (.tuple #[])) w) : bodyPost Tryz.prog fn R .normal a w :=
 bodyPost_end (by simp [results, hr, go_sem]) hd hR
def Ro (w : World) (rb pb tb lo cap : Nat) (l : List UInt8) (TL : List Tok) (v : Value) (s' : Rs) (e : Ending) (w' : World) : Prop :=
 e = .returned v /\ Rd w' rb pb tb lo cap l TL s' /\ But rb w w'
section
variable {w : World} {rb pb tb lo cap : Nat} {l : List UInt8} {TL : List Tok} {s : Rs}
theorem Rd.alloc (h : Rd w rb pb tb lo cap l TL s) (o : Obj) : Rd (w.alloc o) rb pb tb lo cap l TL s :=
 ⟨(zM _ _ _ (zL h.at')).trans h.at', aW h.own (fun _ _ hl => zM _ _ _ hl), h.ne, h.len⟩
theorem Rd.set (h : Rd w rb pb tb lo cap l TL s) (o : Nat) (u : Value) (s' : Rs) (hs : (rsA (.slice (some ⟨tb, 0, none⟩) TL.length cap) pb s).setIfInBounds o u = rsA (.slice (some ⟨tb, 0, none⟩) TL.length cap) pb s') :
  Rd (w.setCell ⟨rb, o, none⟩ u) rb pb tb lo cap l TL s' :=
 ⟨(zC _ _ _ _ _ _ h.at').trans (by rw [hs]), aW h.own (fun g hg _ => by
  have : g = tb := by simpa [Value.ownBlock] using hg.symm
  subst this
  exact zS _ _ _ _ h.ne), h.ne, h.len⟩
theorem qY (h : Rd w rb pb tb lo cap l TL s) (hb : s.bad = 0) {t : Tok} (ht : TL[s.k]? = some t) (x : List UInt8) :
  Calls Tryz.prog 42 #[ptr rb, S x] w (Ro w rb pb tb lo cap l TL (.bool (bD t == x)) s) := by
 obtain ⟨⟨k0, k1, k2⟩, hix⟩ := h.tok ht
 obtain ⟨c, cf⟩ := aA h.at'
 have hb2 : ((s.bad : Int) == 0) = true := by simp [hb]
 have hlt : s.k < TL.length := (List.getElem?_eq_some_iff.1 ht).1
 generalize bD t = y at *
 generalize bF l t.pos = z at *
 go_enter Tryz.func42, Tryz.ntmps42
 go_wp2_with fail
 go_region
 all_goals go_wp2_with fail
 all_goals go_ret
 all_goals exact ⟨rfl, h.drew, (But.refl _ _).drew⟩
theorem x8 (h : Rd w rb pb tb lo cap l TL s) (hb : s.bad ≠ 0) (x : List UInt8) :
  Calls Tryz.prog 42 #[ptr rb, S x] w (Ro w rb pb tb lo cap l TL (.bool false) s) := by
 obtain ⟨c, cf⟩ := aA h.at'
 have hb2 : ((s.bad : Int) == 0) = false := by simp; omega
 go_enter Tryz.func42, Tryz.ntmps42
 go_wp2_with fail
 go_region
 all_goals go_wp2_with fail
 all_goals go_ret
 all_goals exact ⟨rfl, h.drew, (But.refl _ _).drew⟩
def Rs.fail (s : Rs) (e : Nat) (t : Tok) : Rs := { s with bad := e, fZ := t.pos }
theorem pU (h : Rd w rb pb tb lo cap l TL s) (hb : s.bad = 0) {t : Tok} (ht : TL[s.k]? = some t) (x : Nat) :
  Calls Tryz.prog 76 #[ptr rb, .int .i64 x] w (Ro w rb pb tb lo cap l TL (.tuple #[]) (s.fail x t)) := by
 have H1 := h.set 4 (.int .i64 x) { s with bad := x } rfl
 obtain ⟨⟨k0, k1, k2⟩, hix⟩ := H1.tok ht
 obtain ⟨c, cf⟩ := aA h.at'
 obtain ⟨d, df⟩ := aA H1.at'
 have hb2 : ((s.bad : Int) == 0) = true := by simp [hb]
 have hlt : s.k < TL.length := (List.getElem?_eq_some_iff.1 ht).1
 have H2 := (H1.set 5 (.int .i64 t.pos) (s.fail x t) rfl).drew
 generalize bD t = y at *
 generalize bF l t.pos = z at *
 go_enter Tryz.func76, Tryz.ntmps76
 go_wp2_with fail
 go_region
 all_goals go_wp2_with fail
 all_goals exact fH rfl rfl ⟨rfl, H2, (((But.refl _ _).own _ _).own _ _).drew⟩
theorem aHw (h : Rd w rb pb tb lo cap l TL s) (hb : s.bad ≠ 0) (x : Nat) :
  Calls Tryz.prog 76 #[ptr rb, .int .i64 x] w (Ro w rb pb tb lo cap l TL (.tuple #[]) s) := by
 obtain ⟨c, cf⟩ := aA h.at'
 have hb2 : ((s.bad : Int) == 0) = false := by simp; omega
 go_enter Tryz.func76, Tryz.ntmps76
 go_wp2_with fail
 all_goals exact fH rfl rfl ⟨rfl, h, But.refl _ _⟩
def Rs.aG (s : Rs) : Rs := { s with k := s.k + 1 }
theorem U2 (h : Rd w rb pb tb lo cap l TL s) (hb : s.bad = 0) {t : Tok} (ht : TL[s.k]? = some t) (x : List UInt8) (hx : bD t = x) :
  Calls Tryz.prog 73 #[ptr rb, S x] w (Ro w rb pb tb lo cap l TL (.bool true) s.aG) := by
 have HI := qY h hb ht x
 rw [hx] at HI
 simp only [BEq.rfl] at HI
 have hlen := h.len
 have hlt : s.k < TL.length := (List.getElem?_eq_some_iff.1 ht).1
 go_enter Tryz.func73, Tryz.ntmps73
 go_wp2_with fail
 refine HI.mono ?_
 rintro e w1 ⟨rfl, H1, B1⟩
 obtain ⟨c, cf⟩ := aA H1.at'
 have H2 := H1.set 1 (.int .i64 (s.k + 1 : Nat)) s.aG rfl
 go_wp2_with fail
 go_ret
 exact ⟨rfl, by simpa using H2, B1.own _ _⟩
theorem zU (h : Rd w rb pb tb lo cap l TL s) (x : List UInt8) (hx : s.bad ≠ 0 \/ s.bad = 0 /\ ∃ t, TL[s.k]? = some t /\ bD t ≠ x) :
  Calls Tryz.prog 73 #[ptr rb, S x] w (Ro w rb pb tb lo cap l TL (.bool false) s) := by
 have HI : Calls Tryz.prog 42 #[ptr rb, S x] w (Ro w rb pb tb lo cap l TL (.bool false) s) := by
  rcases hx with hb | ⟨hb, t, ht, hx⟩
  ·exact x8 h hb x
  ·have := qY h hb ht x
   rwa [show (bD t == x) = false from by simpa using hx] at this
 go_enter Tryz.func73, Tryz.ntmps73
 go_wp2_with fail
 refine HI.mono ?_
 rintro e w1 ⟨rfl, H1, B1⟩
 go_wp2_with fail
 go_ret
 exact ⟨rfl, H1, B1⟩
def Rs.note (s : Rs) (e p : Nat) : Rs := if s.bad = 0 /\ s.wrong = 0 then { s with wrong := e, iF := p } else s
theorem jD (h : Rd w rb pb tb lo cap l TL s) (x p : Nat) :
  Calls Tryz.prog 70 #[ptr rb, .int .i64 x, .int .i64 p] w (Ro w rb pb tb lo cap l TL (.tuple #[]) (s.note x p)) := by
 obtain ⟨c, cf⟩ := aA h.at'
 by_cases hb : s.bad = 0
 ·have hb2 : ((s.bad : Int) == 0) = true := by simp [hb]
  by_cases hw : s.wrong = 0
  ·have hw2 : ((s.wrong : Int) == 0) = true := by simp [hw]
   have H1 := h.set 6 (.int .i64 x) { s with wrong := x } rfl
   have H2 := H1.set 7 (.int .i64 p) { s with wrong := x, iF := p } rfl
   have e1 : s.note x p = { s with wrong := x, iF := p } := by unfold Rs.note; rw [if_pos ⟨hb, hw⟩]
   rw [e1]
   obtain ⟨d, df⟩ := aA H1.at'
   go_enter Tryz.func70, Tryz.ntmps70
   go_wp2_with fail
   exact fH rfl rfl ⟨rfl, H2, ((But.refl _ _).own _ _).own _ _⟩
  ·have hw2 : ((s.wrong : Int) == 0) = false := by simp; omega
   have e1 : s.note x p = s := by unfold Rs.note; rw [if_neg (fun h => hw h.2)]
   rw [e1]
   go_enter Tryz.func70, Tryz.ntmps70
   go_wp2_with fail
   exact fH rfl rfl ⟨rfl, h, But.refl _ _⟩
 ·have hb2 : ((s.bad : Int) == 0) = false := by simp; omega
  have e1 : s.note x p = s := by unfold Rs.note; rw [if_neg (fun h => hb h.1)]
  rw [e1]
  go_enter Tryz.func70, Tryz.ntmps70
  go_wp2_with fail
  exact fH rfl rfl ⟨rfl, h, But.refl _ _⟩
end
abbrev DL := List UInt8 × List UInt8 × Nat
abbrev dlA (d : DL) : Array Value := #[S d.1, S d.2.1, .int .i64 d.2.2]
def oQ (L : List DL) : List Value := L.flatMap fun d => (dlA d).toList
structure Pl (w : World) (rb pb lo : Nat) (la : Option Addr) (lc : Nat) (L : List DL) (fr : Nat) (Rv Hv Mv : Value) (ms : Bool) : Prop where
 at' : w.heap[pb]? = some (.cells #[.slice la L.length lc, .int .i64 fr, Rv, Hv, Mv, .bool ms] 82)
 own : w.ownsRow lo 90 3 (.slice la L.length lc) L.length (oQ L)
 ne : pb ≠ rb
 nl : ∀ g, (Value.slice la L.length lc).ownBlock = some g -> g ≠ rb
 len : L.length <= 701
theorem Pl.drew {w : World} {rb pb lo : Nat} {la : Option Addr} {lc : Nat} {L : List DL} {fr : Nat} {Rv Hv Mv : Value} {ms : Bool} (h : Pl w rb pb lo la lc L fr Rv Hv Mv ms) : Pl w.drew rb pb lo la lc L fr Rv Hv Mv ms :=
 ⟨h.at', aW h.own (fun _ _ _ => rfl), h.ne, h.nl, h.len⟩
theorem Pl.but {w w' : World} {rb pb lo : Nat} {la : Option Addr} {lc : Nat} {L : List DL} {fr : Nat} {Rv Hv Mv : Value} {ms : Bool} (h : Pl w rb pb lo la lc L fr Rv Hv Mv ms) (hb : But rb w w') : Pl w' rb pb lo la lc L fr Rv Hv Mv ms :=
 ⟨(hb.block _ (zL h.at') h.ne).trans h.at', aW h.own (fun g hg hl => hb.block g hl (h.nl g hg)), h.ne, h.nl, h.len⟩
theorem I7 : ∀ (L : List DL) (k : Nat) d, L[k]? = some d -> ∀ j u, (dlA d).toList[j]? = some u -> (oQ L)[k * 3 + j]? = some u := by
 intro L
 induction L with
 | nil => intro k r h; simp at h
 | cons q qs ih =>
  intro k r h j u hu
  have hj : j < 3 := by
   have := (List.getElem?_eq_some_iff.1 hu).1
   simpa using this
  cases k with
  | zero =>
   simp only [List.getElem?_cons_zero, Option.some.injEq] at h
   subst h
   simp only [oQ, List.flatMap_cons, Nat.zero_mul, Nat.zero_add]
   rw [List.getElem?_append_left (by simpa using hj)]
   exact hu
  | succ k =>
   simp only [oQ, List.flatMap_cons]
   rw [List.getElem?_append_right (by simp; omega)]
   have := ih k r (by simpa using h) j u hu
   simp only [oQ] at this
   rw [<- this]
   congr 1
   simp
   omega
def dV : List DL -> List UInt8 -> Option Nat
 | [], _ => none
 | d :: L, x => if d.2.1 == x then some 0 else (dV L x).map (· + 1)
theorem kZ (d : DL) (L : List DL) (x : List UInt8) : dV (d :: L) x = if d.2.1 == x then some 0 else (dV L x).map (· + 1) := rfl
def aKr : Option Nat -> Int
 | none => -1
 | some k => k
theorem aIf (L : List DL) (x : List UInt8) (k : Nat) (h : k < L.length) (hk : ∀ j (hj : j < L.length), j < k -> (L[j].2.1 == x) = false) : dV L x = (dV (L.drop k) x).map (· + k) := by
 induction k generalizing L with
 | zero => simp
 | succ k ih =>
  cases L with
  | nil => simp at h
  | cons d L =>
   have h0 := hk 0 (by simp) (by omega)
   simp only [List.getElem_cons_zero] at h0
   rw [kZ, h0]
   simp only [Bool.false_eq_true, if_false, List.drop_succ_cons]
   rw [ih L (by simpa using h) (fun j hj hjk => by have := hk (j + 1) (by simpa using hj) (by omega); simpa using this)]
   cases dV (L.drop k) x with
   | none => rfl
   | some m => simp only [Option.map_some, Option.some.injEq]; omega
theorem aCr {w : World} {rb pb lo : Nat} {la : Option Addr} {lc : Nat} {L : List DL} {fr : Nat} {Rv Hv Mv : Value} {ms : Bool} (h : Pl w rb pb lo la lc L fr Rv Hv Mv ms) (x : List UInt8) :
  Calls Tryz.prog 72 #[ptr pb, S x] w fun e w' => e = .returned (.int .i64 (aKr (dV L x))) /\ Below w.heap.size w w' := by
 obtain ⟨c, cf⟩ := aA h.at'
 have hlen := h.len
 have HR : Hid (dV L x = dV L x) := rfl
 generalize hr : dV L x = r at *
 have hr : Hid (dV L x = r) := hr
 clear HR
 go_enter Tryz.func72, Tryz.ntmps72
 go_wp2_with fail
 go_loopg [12] L.length (fun f v wr => ∃ k : Nat, v = .int .i64 k /\ k + f = L.length /\ Below w.heap.size w wr /\ Hid (∀ j (hj : j < L.length), j < k -> (L[j].2.1 == x) = false))
 case atStart => exact ⟨0, rfl, by omega, Below.refl _ _, fun j hj h => by omega⟩
 case round =>
  obtain ⟨k, rfl, hk, HB, HK⟩ := hrel
  by_cases hlt : k < L.length
  ·have hz := HB.size
   have hg : ∃ g, la = some ⟨g, 0, none⟩ := by
    rcases h.own.2 with ⟨h1, h2⟩ | ⟨g, cap, cur, h1, _⟩
    ·simp at h1; omega
    ·simp at h1; exact ⟨g, h1.1⟩
   obtain ⟨g, rfl⟩ := hg
   have hown1 : wr.ownsRow lo 90 3 (.slice (some ⟨g, 0, none⟩) L.length lc) L.length (oQ L) := aW h.own (fun q hq hl => HB.block q hl)
   have hrow : L[k]? = some L[k] := List.getElem?_eq_getElem hlt
   have HQ : Hid ((L[k].2.1 == x) = true -> r = some k) := fun hq => by
    rw [<- hr.out, aIf L x k hlt HK.out, List.drop_eq_getElem_cons hlt]
    unfold dV
    rw [if_pos hq]
    simp
   have HQ2 : Hid ((L[k].2.1 == x) = false -> ∀ j (hj : j < L.length), j < k + 1 -> (L[j].2.1 == x) = false) := fun hq j hj hjk => by
    by_cases e : j = k
    ·subst e; exact hq
    ·exact HK.out j hj (by omega)
   have hrg : wr.rangeAt g (k * 3) (dlA L[k]).toList := fun j u hu => by
    have hj : j < 3 := by have := (List.getElem?_eq_some_iff.1 hu).1; simpa using this
    rw [hown1.cellAt _ (by omega)]
    exact I7 L k _ hrow j u hu
   have hix : ∀ W : World, (Instr.indexAt 77 (.slice (some ⟨g, 0, none⟩) L.length lc) (.int .i64 k)).run Tryz.prog W = .ok (.pointer (some ⟨g, k * 3, none⟩)) W := by
    intro W
    rw [run_indexAt_slice (h := by kernel_rfl), if_pos (by omega)]
    have : (sizeOf (Tryz.prog.elem 77)).run Tryz.prog W = .ok 3 W := by kernel_rfl
    rw [this]
    simp [Result.andThen, Addr.add]
    omega
   clear hrow HK
   generalize L[k] = d at *
   obtain ⟨dk, dn, dm⟩ := d
   cases hq : (dn == x) with
   | true =>
    go_wp2_with (refine wpList_load_mid rfl 90 (.tmp 15) rfl g (k * 3) rfl (dlA (dk, dn, dm)).toList _ hrg Tryz.underlying90 rfl (by kernel_rfl) ?_)
    go_ret
    exact ⟨by rw [HQ.out hq]; rfl, HB.alloc hz _⟩
   | false =>
    go_wp2_with (refine wpList_load_mid rfl 90 (.tmp 15) rfl g (k * 3) rfl (dlA (dk, dn, dm)).toList _ hrg Tryz.underlying90 rfl (by kernel_rfl) ?_)
    go_roundg (gk - 1)
    case measure => omega
    case rel => exact ⟨k + 1, by simp, by omega, HB.alloc hz _, HQ2.out hq⟩
  ·have e0 : r = none := by
    rw [<- hr.out]
    have hnone : ∀ (L : List DL), (∀ j (hj : j < L.length), (L[j].2.1 == x) = false) -> dV L x = none := by
     intro L
     induction L with
     | nil => intro _; rfl
     | cons d L ih =>
      intro hh
      have h0 := hh 0 (by simp)
      simp only [List.getElem_cons_zero] at h0
      unfold dV
      rw [h0, ih (fun j hj => by have := hh (j + 1) (by simpa using hj); simpa using this)]
      rfl
    exact hnone L (fun j hj => HK.out j hj (by omega))
   subst e0
   go_wp2_with fail
   go_ret
   exact ⟨rfl, HB⟩
section
variable {w : World} {rb pb tb lo cap : Nat} {l : List UInt8} {TL : List Tok} {s : Rs}
def Rs.need (s : Rs) (t : Tok) (x : List UInt8) : Rs := if s.bad = 0 then (if bD t = x then s.aG else s.fail 2 t) else s
abbrev tkV (l : List UInt8) (t : Tok) : Value := .agg #[S (bD t), S (bF l t.pos), .int .i64 t.pos]
theorem aM2 (w : World) (n : Nat) (c : Array Value) (T : TypeId) (v0 v1 v2 : Value) (h : w.heap[n]? = some (.cells c T)) (hc : c.size = 3) :
  (((w.setCell ⟨n, 0, none⟩ v0).setCell ⟨n, 1, none⟩ v1).setCell ⟨n, 2, none⟩ v2).heap[n]? = some (.cells #[v0, v1, v2] T) := by
 have := jX n T [v0, v1, v2] w 0 c h hc
 simpa only [pR, List.take_zero, List.nil_append, Nat.zero_add, Nat.reduceAdd] using this
theorem Rd.other (h : Rd w rb pb tb lo cap l TL s) (n o : Nat) (u : Value) (h1 : n ≠ rb) (h2 : n ≠ tb) : Rd (w.setCell ⟨n, o, none⟩ u) rb pb tb lo cap l TL s :=
 ⟨(zS _ _ _ _ (Ne.symm h1)).trans h.at', aW h.own (fun g hg _ => by
  have : g = tb := by simpa [Value.ownBlock] using hg.symm
  subst this
  exact zS _ _ _ _ (Ne.symm h2)), h.ne, h.len⟩
theorem But.new {b : Nat} {a w : World} (h : But b a w) (n o : Nat) (u : Value) (hn : a.heap.size <= n) : But b a (w.setCell ⟨n, o, none⟩ u) := h.setCell (Or.inl hn) u
theorem bQ (h : Rd w rb pb tb lo cap l TL s) {t : Tok} (ht : TL[s.k]? = some t) (x : List UInt8) :
  Calls Tryz.prog 45 #[ptr rb, S x] w (Ro w rb pb tb lo cap l TL (tkV l t) (s.need t x)) := by
 go_enter Tryz.func45, Tryz.ntmps45
 go_wp2_with fail
 have h0 := h.alloc (.cells #[S [], S [], .int .i64 0] 87)
 obtain ⟨⟨k0, k1, k2⟩, hix⟩ := h0.tok ht
 obtain ⟨c, cf⟩ := aA h0.at'
 have h00 := h0.alloc (.cells #[S [], S [], .int .i64 0] 87)
 obtain ⟨⟨oJ, vI, vH⟩, _⟩ := h00.tok ht
 obtain ⟨c0, vU⟩ := aA h00.at'
 have hlt : s.k < TL.length := (List.getElem?_eq_some_iff.1 ht).1
 have H1 : Rd ((w.alloc (.cells #[S [], S [], .int .i64 0] 87)).alloc (.cells #[S (bD t), S (bF l t.pos), .int .i64 t.pos] 87)).drew rb pb tb lo cap l TL s := (h0.alloc _).drew
 have B1 : But rb w ((w.alloc (.cells #[S [], S [], .int .i64 0] 87)).alloc (.cells #[S (bD t), S (bF l t.pos), .int .i64 t.pos] 87)).drew := (((But.refl _ _).alloc _).alloc _).drew
 have hrb : rb < w.heap.size := (zL h.at')
 have b5 : ((w.alloc (.cells #[S [], S [], .int .i64 0] 87)).alloc (.cells #[S (bD t), S (bF l t.pos), .int .i64 t.pos] 87)).drew.heap[w.heap.size + 1]? = some (.cells #[S (bD t), S (bF l t.pos), .int .i64 t.pos] 87) := aC (by simp)
 have b4 : ((w.alloc (.cells #[S [], S [], .int .i64 0] 87)).alloc (.cells #[S (bD t), S (bF l t.pos), .int .i64 t.pos] 87)).drew.heap[w.heap.size]? = some (.cells #[S [], S [], .int .i64 0] 87) := (zM _ _ _ (by simp)).trans (aC rfl)
 have fin : ∀ w1 w2 : World, But rb w w1 -> But rb w1 w2 -> w1.heap[w.heap.size]? = some (.cells #[S [], S [], .int .i64 0] 87) -> w1.heap[w.heap.size + 1]? = some (.cells #[S (bD t), S (bF l t.pos), .int .i64 t.pos] 87) ->
   But rb w w2 /\ w2.heap[w.heap.size]? = some (.cells #[S [], S [], .int .i64 0] 87) /\ w2.heap[w.heap.size + 1]? = some (.cells #[S (bD t), S (bF l t.pos), .int .i64 t.pos] 87) := fun w1 w2 h1 h2 h3 h4 =>
  ⟨h1.trans h2, (h2.block _ (zL h3) (by omega)).trans h3, (h2.block _ (zL h4) (by omega)).trans h4⟩
 go_region
 generalize ((w.alloc (.cells #[S [], S [], .int .i64 0] 87)).alloc (.cells #[S (bD t), S (bF l t.pos), .int .i64 t.pos] 87)).drew = w1 at *
 clear k0 k1 k2 oJ vI vH c cf c0 vU hix h00 h0
 have htb : tb < w.heap.size := (h.own.lt tb rfl).2
 by_cases hb : s.bad = 0
 ·by_cases hx : bD t = x
  ·have e1 : s.need t x = s.aG := by unfold Rs.need; rw [if_pos hb, if_pos hx]
   have HT := U2 H1 hb ht x hx
   generalize hy : bD t = y at *
   generalize hz : bF l t.pos = z at *
   have HY : Hid (bD t = y) := hy
   have HZ : Hid (bF l t.pos = z) := hz
   clear hy hz
   subst hx
   go_wp2_with fail
   refine HT.mono ?_
   rintro e w2 ⟨rfl, H2, B2⟩
   obtain ⟨B3, b4, b5⟩ := fin w1 w2 B1 B2 b4 b5
   obtain ⟨c4, f4⟩ := aA b4
   obtain ⟨c5, f5⟩ := aA b5
   go_wp2_with fail
   exact aS Tryz.results45 w.heap.size _ _ _ rfl rfl (aM2 _ _ _ _ _ _ _ b4 rfl) Tryz.underlying87 rfl (by kernel_rfl) ⟨by show _ = Ending.returned (.agg #[S (bD t), S (bF l t.pos), .int .i64 t.pos]); rw [HY.out, HZ.out], by rw [e1]; exact ((H2.other w.heap.size _ _ (by omega) (by omega)).other w.heap.size _ _ (by omega) (by omega)).other w.heap.size _ _ (by omega) (by omega), ((B3.new _ _ _ zR).new _ _ _ zR).new _ _ _ zR⟩
  ·have e1 : s.need t x = s.fail 2 t := by unfold Rs.need; rw [if_pos hb, if_neg hx]
   have HT := zU H1 x (Or.inr ⟨hb, t, ht, hx⟩)
   generalize hy : bD t = y at *
   generalize hz : bF l t.pos = z at *
   have HY : Hid (bD t = y) := hy
   have HZ : Hid (bF l t.pos = z) := hz
   clear hy hz
   clear hx
   go_wp2_with fail
   refine HT.mono ?_
   rintro e w2' ⟨rfl, H2', B2'⟩
   have HF := pU H2' hb ht 2
   go_wp2_with fail
   refine HF.mono ?_
   rintro e w2 ⟨rfl, H2, aQ6⟩
   have B2 := B2'.trans aQ6
   obtain ⟨B3, b4, b5⟩ := fin w1 w2 B1 B2 b4 b5
   obtain ⟨c4, f4⟩ := aA b4
   obtain ⟨c5, f5⟩ := aA b5
   go_wp2_with fail
   exact aS Tryz.results45 w.heap.size _ _ _ rfl rfl (aM2 _ _ _ _ _ _ _ b4 rfl) Tryz.underlying87 rfl (by kernel_rfl) ⟨by show _ = Ending.returned (.agg #[S (bD t), S (bF l t.pos), .int .i64 t.pos]); rw [HY.out, HZ.out], by rw [e1]; exact ((H2.other w.heap.size _ _ (by omega) (by omega)).other w.heap.size _ _ (by omega) (by omega)).other w.heap.size _ _ (by omega) (by omega), ((B3.new _ _ _ zR).new _ _ _ zR).new _ _ _ zR⟩
 ·have e1 : s.need t x = s := by unfold Rs.need; rw [if_neg hb]
  have HT := zU H1 x (Or.inl hb)
  generalize hy : bD t = y at *
  generalize hz : bF l t.pos = z at *
  have HY : Hid (bD t = y) := hy
  have HZ : Hid (bF l t.pos = z) := hz
  clear hy hz
  go_wp2_with fail
  refine HT.mono ?_
  rintro e w2' ⟨rfl, H2', B2'⟩
  have HF := aHw H2' hb 2
  go_wp2_with fail
  refine HF.mono ?_
  rintro e w2 ⟨rfl, H2, aQ6⟩
  have B2 := B2'.trans aQ6
  obtain ⟨B3, b4, b5⟩ := fin w1 w2 B1 B2 b4 b5
  obtain ⟨c4, f4⟩ := aA b4
  obtain ⟨c5, f5⟩ := aA b5
  go_wp2_with fail
  exact aS Tryz.results45 w.heap.size _ _ _ rfl rfl (aM2 _ _ _ _ _ _ _ b4 rfl) Tryz.underlying87 rfl (by kernel_rfl) ⟨by show _ = Ending.returned (.agg #[S (bD t), S (bF l t.pos), .int .i64 t.pos]); rw [HY.out, HZ.out], by rw [e1]; exact ((H2.other w.heap.size _ _ (by omega) (by omega)).other w.heap.size _ _ (by omega) (by omega)).other w.heap.size _ _ (by omega) (by omega), ((B3.new _ _ _ zR).new _ _ _ zR).new _ _ _ zR⟩
end
section
variable {w : World} {rb pb tb lo cap : Nat} {l : List UInt8} {TL : List Tok} {s : Rs}
theorem V5 {t : Tok} {x : List UInt8} (h : (s.need t x).bad = 0) : s.bad = 0 /\ bD t = x /\ s.need t x = s.aG := by
 unfold Rs.need at h ⊢
 by_cases hb : s.bad = 0
 ·rw [if_pos hb] at h ⊢
  by_cases hx : bD t = x
  ·rw [if_pos hx]; exact ⟨hb, hx, rfl⟩
  ·rw [if_neg hx] at h; simp [Rs.fail] at h
 ·rw [if_neg hb] at h; exact absurd h hb
def Rs.num (s : Rs) (l : List UInt8) (t : Tok) (a b : Nat) : Nat × Rs :=
 let n := if (s.need t [110, 117, 109]).bad = 0 then fV (bF l t.pos) 0 else 0
 (n, if n < a \/ n > b then (s.need t [110, 117, 109]).note 7 t.pos else s.need t [110, 117, 109])
theorem jZ (h : Rd w rb pb tb lo cap l TL s) {t : Tok} (ht : TL[s.k]? = some t) (a b : Nat) (_hab : a <= 1000 /\ b <= 1000) (hn : bD t = [110, 117, 109] -> (bF l t.pos).length <= 3 /\ ∀ c ∈ bF l t.pos, dN c = true) :
  Calls Tryz.prog 71 #[ptr rb, .int .i64 a, .int .i64 b] w (Ro w rb pb tb lo cap l TL (.int .i64 (s.num l t a b).1) (s.num l t a b).2) := by
 have HN : Calls Tryz.prog 45 #[ptr rb, S [110, 117, 109]] w (Ro w rb pb tb lo cap l TL (.agg #[S (bD t), S (bF l t.pos), .int .i64 t.pos]) (s.need t [110, 117, 109])) := bQ h ht [110, 117, 109]
 have hg := V5 (s := s) (t := t) (x := [110, 117, 109])
 have HR : Hid (s.num l t a b = (let n := if (s.need t [110, 117, 109]).bad = 0 then fV (bF l t.pos) 0 else 0; (n, if n < a \/ n > b then (s.need t [110, 117, 109]).note 7 t.pos else s.need t [110, 117, 109]))) := rfl
 generalize s.num l t a b = r at *
 generalize s.need t [110, 117, 109] = s1 at *
 have hrb : rb < w.heap.size := (zL h.at')
 generalize bD t = y at *
 generalize bF l t.pos = Z at *
 go_enter Tryz.func71, Tryz.ntmps71
 go_wp2_with fail
 refine HN.mono ?_
 rintro e w1 ⟨rfl, H1, B1⟩
 have hz1 := B1.size
 have H2 := H1.alloc (.cells #[S y, S Z, .int .i64 t.pos] 87)
 have B2 := B1.alloc (.cells #[S y, S Z, .int .i64 t.pos] 87)
 have b7 : (w1.alloc (.cells #[S y, S Z, .int .i64 t.pos] 87)).heap[w1.heap.size]? = some (.cells #[S y, S Z, .int .i64 t.pos] 87) := aC rfl
 have aNy : rb < w1.heap.size := Nat.lt_of_lt_of_le hrb hz1
 go_wp2_with fail
 generalize w1.alloc (.cells #[S y, S Z, .int .i64 t.pos] 87) = w2 at *
 obtain ⟨c, cf⟩ := aA H2.at'
 obtain ⟨c7, f7⟩ := aA b7
 by_cases hb : s1.bad = 0
 ·obtain ⟨hl3, hdig⟩ := hn (hg hb).2.1
  have HD : Hid (∀ c ∈ Z, dN c = true) := hdig
  have hnb : ∀ k, fV (Z.take k) 0 <= 999 := fun k => aAc (Z.take k) (fun c hc => hdig c (List.mem_of_mem_take hc)) (by simp; omega)
  clear hdig hn hg
  have hb2 : ((s1.bad : Int) == 0) = true := by simp [hb]
  go_loopg [8, 9] Z.length (fun f v8 v9 wr => ∃ k : Nat, v9 = .int .i64 k /\ v8 = .int .i64 (fV (Z.take k) 0 : Nat) /\ k + f = Z.length /\ wr = w2)
  case atStart => exact ⟨0, rfl, rfl, by omega, rfl⟩
  case round =>
   obtain ⟨k, rfl, rfl, hk, rfl⟩ := hrel
   by_cases hlt : k < Z.length
   ·have hgc := wS Z k hlt
    have hdb := aAt Z[k] (HD.out _ (List.getElem_mem hlt))
    have hk1 := hnb k
    have HS : Hid (fV (Z.take (k + 1)) 0 = fV (Z.take k) 0 * 10 + (Z[k].toNat - 48)) := by show _ = _; rw [List.take_add_one, List.getElem?_eq_getElem hlt]; exact wJ _ _ _
    generalize fV (Z.take k) 0 = m at *
    go_wp2_with fail
    go_roundg (gk - 1)
    case measure => omega
    case rel =>
     refine ⟨k + 1, by simp, ?_, by omega, rfl⟩
     rw [HS.out]
     congr 1
     omega
   ·obtain rfl : k = Z.length := by omega
    have hk1 := hnb Z.length
    rw [List.take_length] at hk1 ⊢
    have HR : Hid (r = (fV Z 0, if fV Z 0 < a \/ fV Z 0 > b then s1.note 7 t.pos else s1)) := by show _ = _; rw [HR.out]; simp only [hb, if_true]
    clear hlt hk hnb
    generalize fV Z 0 = m at *
    by_cases hm : m < a \/ m > b
    ·have hr : r = (m, s1.note 7 t.pos) := by rw [HR.out, if_pos hm]
     subst hr
     clear HR
     have HT := jD H2 7 t.pos
     by_cases hm1 : m < a
     ·clear hm
      go_wp2_with fail
      refine HT.mono ?_
      rintro e w3 ⟨rfl, H3, B3⟩
      go_wp2_with fail
      go_ret
      exact ⟨rfl, H3, B2.trans B3⟩
     ·have hm2 : m > b := by omega
      clear hm
      go_wp2_with fail
      refine HT.mono ?_
      rintro e w3 ⟨rfl, H3, B3⟩
      go_wp2_with fail
      go_ret
      exact ⟨rfl, H3, B2.trans B3⟩
    ·have hr : r = (m, s1) := by rw [HR.out, if_neg hm]
     subst hr
     clear HR
     go_wp2_with fail
     go_ret
     exact ⟨rfl, H2, B2⟩
 ·have hb2 : ((s1.bad : Int) == 0) = false := by simp; omega
  have HR : Hid (r = (0, s1)) := by
   show _ = _
   rw [HR.out]
   simp only [hb, if_false]
   have : s1.note 7 t.pos = s1 := by unfold Rs.note; rw [if_neg (fun h => hb h.1)]
   rw [this]
   split <;> rfl
  have hr : r = (0, s1) := HR.out
  subst hr
  clear HR hn hg
  have HT := jD H2 7 t.pos
  have e7 : s1.note 7 t.pos = s1 := by unfold Rs.note; rw [if_neg (fun h => hb h.1)]
  rw [e7] at HT
  go_loopg [8, 9] 0 (fun f v8 v9 wr => v9 = .int .i64 0 /\ v8 = .int .i64 0 /\ wr = w2)
  case atStart => exact ⟨rfl, rfl, rfl⟩
  case round =>
   obtain ⟨rfl, rfl, rfl⟩ := hrel
   by_cases hzl : 0 < Z.length
   ·by_cases ha : 0 < a
    ·go_wp2_with fail
     refine HT.mono ?_
     rintro e w3 ⟨rfl, H3, B3⟩
     go_wp2_with fail
     go_ret
     exact ⟨rfl, H3, B2.trans B3⟩
    ·go_wp2_with fail
     go_ret
     exact ⟨rfl, H2, B2⟩
   ·by_cases ha : 0 < a
    ·go_wp2_with fail
     refine HT.mono ?_
     rintro e w3 ⟨rfl, H3, B3⟩
     go_wp2_with fail
     go_ret
     exact ⟨rfl, H3, B2.trans B3⟩
    ·go_wp2_with fail
     go_ret
     exact ⟨rfl, H2, B2⟩
end
section
variable {w : World} {rb pb tb lo cap : Nat} {l : List UInt8} {TL : List Tok} {s : Rs}
variable {la : Option Addr} {lc : Nat} {L : List DL} {fr : Nat} {Rv Hv Mv : Value} {ms : Bool}
def Rs.bG (s : Rs) (l : List UInt8) (t : Tok) (L : List DL) (va : Bool) : Nat × Rs :=
 match dV L (bF l t.pos) with
 | none => (0, (s.need t [110, 97, 109, 101]).note 5 t.pos)
 | some k => (k, if ((L.getD k ([], [], 0)).1 == [118, 97, 114]) = va then s.need t [110, 97, 109, 101] else (s.need t [110, 97, 109, 101]).note 6 t.pos)
theorem vK : ∀ (L : List DL) (x : List UInt8) (k : Nat), dV L x = some k -> k < L.length
 | [], _, _, h => by simp [dV] at h
 | d :: L, x, k, h => by
  rw [kZ] at h
  split at h
  ·simp at h; subst h; simp
  ·obtain ⟨m, hm, rfl⟩ := Option.map_eq_some_iff.1 h
   have := vK L x m hm
   simpa using this
theorem Rd.below {w' : World} (h : Rd w rb pb tb lo cap l TL s) (hb : Below w.heap.size w w') : Rd w' rb pb tb lo cap l TL s :=
 ⟨(hb.block _ (zL h.at')).trans h.at', aW h.own (fun _ _ hl => hb.block _ hl), h.ne, h.len⟩
theorem Pl.below {w' : World} (h : Pl w rb pb lo la lc L fr Rv Hv Mv ms) (hb : Below w.heap.size w w') : Pl w' rb pb lo la lc L fr Rv Hv Mv ms :=
 ⟨(hb.block _ (zL h.at')).trans h.at', aW h.own (fun _ _ hl => hb.block _ hl), h.ne, h.nl, h.len⟩
theorem eP (h : Rd w rb pb tb lo cap l TL s) (hp : Pl w rb pb lo la lc L fr Rv Hv Mv ms) {t : Tok} (ht : TL[s.k]? = some t) (va : Bool) :
  Calls Tryz.prog 74 #[ptr rb, .bool va] w (Ro w rb pb tb lo cap l TL (.int .i64 (s.bG l t L va).1) (s.bG l t L va).2) := by
 have HN : Calls Tryz.prog 45 #[ptr rb, S [110, 97, 109, 101]] w (Ro w rb pb tb lo cap l TL (.agg #[S (bD t), S (bF l t.pos), .int .i64 t.pos]) (s.need t [110, 97, 109, 101])) := bQ h ht [110, 97, 109, 101]
 have HR : Hid (s.bG l t L va = match dV L (bF l t.pos) with
  | none => (0, (s.need t [110, 97, 109, 101]).note 5 t.pos)
  | some k => (k, if ((L.getD k ([], [], 0)).1 == [118, 97, 114]) = va then s.need t [110, 97, 109, 101] else (s.need t [110, 97, 109, 101]).note 6 t.pos)) := rfl
 generalize s.bG l t L va = r at *
 generalize s.need t [110, 97, 109, 101] = s1 at *
 have hrb : rb < w.heap.size := (zL h.at')
 generalize bD t = y at *
 generalize bF l t.pos = Z at *
 go_enter Tryz.func74, Tryz.ntmps74
 go_wp2_with fail
 refine HN.mono ?_
 rintro e w1 ⟨rfl, H1, B1⟩
 have hz1 := B1.size
 have H2 := H1.alloc (.cells #[S y, S Z, .int .i64 t.pos] 87)
 have B2 := B1.alloc (.cells #[S y, S Z, .int .i64 t.pos] 87)
 have b7 : (w1.alloc (.cells #[S y, S Z, .int .i64 t.pos] 87)).heap[w1.heap.size]? = some (.cells #[S y, S Z, .int .i64 t.pos] 87) := aC rfl
 have aNy : rb < w1.heap.size := Nat.lt_of_lt_of_le hrb hz1
 have P2 := hp.but B2
 go_wp2_with fail
 generalize w1.alloc (.cells #[S y, S Z, .int .i64 t.pos] 87) = w2 at *
 obtain ⟨c, cf⟩ := aA H2.at'
 obtain ⟨c7, f7⟩ := aA b7
 have HF := aCr P2.drew Z
 go_region_with (go_at_call 72; refine HF.mono ?_; rintro e w3 ⟨rfl, B3⟩)
 all_goals
  have H3 := H2.drew.below B3
  have P3 := P2.drew.below B3
  have B4 : But rb w w3 := B2.drew.trans (But.of_below B3)
  have b73 := (B3.block _ (show w1.heap.size < w2.drew.heap.size from (zL b7))).trans b7
  obtain ⟨d, df⟩ := aA H3.at'
  obtain ⟨d7, df7⟩ := aA b73
  obtain ⟨dp, dpf⟩ := aA P3.at'
  have hlen := P3.len
  have hix3 := vK L Z
  generalize dV L Z = ix at *
  clear c cf c7 f7 HF
  rcases ix with _ | k
  ·have hr : r = (0, s1.note 5 t.pos) := HR.out
   subst hr
   clear HR
   have HT := jD H3 5 t.pos
   unfold aKr
   go_wp2_with fail
   refine HT.mono ?_
   rintro e w4 ⟨rfl, H4, B5⟩
   go_wp2_with fail
   go_ret
   exact ⟨rfl, H4, B4.trans B5⟩
  ·have hlt := hix3 k rfl
   have hg : ∃ g, la = some ⟨g, 0, none⟩ := by
    rcases P3.own.2 with ⟨h1, h2⟩ | ⟨g, cap, cur, h1, _⟩
    ·simp at h1; omega
    ·simp at h1; exact ⟨g, h1.1⟩
   obtain ⟨g, rfl⟩ := hg
   have hrow : L[k]? = some L[k] := List.getElem?_eq_getElem hlt
   have hcell : w3.cell? ⟨g, k * 3, none⟩ = some (S L[k].1) := by
    have := P3.own.cellAt (k * 3 + 0) (by omega)
    rw [I7 L k _ hrow 0 (S L[k].1) rfl] at this
    simpa using this
   have hix : ∀ W : World, (Instr.indexAt 77 (.slice (some ⟨g, 0, none⟩) L.length lc) (.int .i64 k)).run Tryz.prog W = .ok (.pointer (some ⟨g, k * 3, none⟩)) W := by
    intro W
    rw [run_indexAt_slice (h := by kernel_rfl), if_pos (by omega)]
    have : (sizeOf (Tryz.prog.elem 77)).run Tryz.prog W = .ok 3 W := by kernel_rfl
    rw [this]
    simp [Result.andThen, Addr.add]
    omega
   have HR : Hid (r = (k, if (L[k].1 == [118, 97, 114]) = va then s1 else s1.note 6 t.pos)) := by
    show _ = _
    rw [HR.out]
    simp only [List.getD_eq_getElem?_getD, hrow, Option.getD_some]
   have HT := jD H3 6 t.pos
   clear hrow
   generalize L[k].1 = K at *
   unfold aKr
   cases hK : (K == [118, 97, 114]) with
   | true =>
    cases va with
    | true =>
     have hr : r = (k, s1) := by rw [HR.out, hK]; rfl
     subst hr
     clear HR
     go_wp2_with fail
     go_ret
     exact ⟨rfl, H3, B4⟩
    | false =>
     have hr : r = (k, s1.note 6 t.pos) := by rw [HR.out, hK]; rfl
     subst hr
     clear HR
     go_wp2_with fail
     refine HT.mono ?_
     rintro e w4 ⟨rfl, H4, B5⟩
     go_wp2_with fail
     go_ret
     exact ⟨rfl, H4, B4.trans B5⟩
   | false =>
    cases va with
    | false =>
     have hr : r = (k, s1) := by rw [HR.out, hK]; rfl
     subst hr
     clear HR
     go_wp2_with fail
     go_ret
     exact ⟨rfl, H3, B4⟩
    | true =>
     have hr : r = (k, s1.note 6 t.pos) := by rw [HR.out, hK]; rfl
     subst hr
     clear HR
     go_wp2_with fail
     refine HT.mono ?_
     rintro e w4 ⟨rfl, H4, B5⟩
     go_wp2_with fail
     go_ret
     exact ⟨rfl, H4, B4.trans B5⟩
end
def cur (TL : List Tok) (s : Rs) : Tok := TL.getD s.k ⟨0, [], 0⟩
theorem aT {TL : List Tok} {s : Rs} (h : s.k < TL.length) : TL[s.k]? = some (cur TL s) := by
 unfold cur
 rw [List.getD_eq_getElem?_getD, List.getElem?_eq_getElem h]
 rfl
structure Ch (l : List UInt8) (TL : List Tok) : Prop where
 nxt : ∀ (k : Nat) t, TL[k]? = some t -> gW t = false -> TL[k + 1]? = some (nx l t)
 num : ∀ (k : Nat) t, TL[k]? = some t -> bD t = [110, 117, 109] -> (bF l t.pos).length <= 3 /\ ∀ c ∈ bF l t.pos, dN c = true
theorem bK {t : Tok} {x : List UInt8} (h : bD t = x) (h1 : x ≠ [110, 111, 110, 101]) (h2 : x ≠ [101, 110, 100]) : gW t = false := by
 unfold bD at h
 unfold gW
 by_cases e0 : t.kind = 0
 ·rw [if_pos e0] at h; exact absurd h.symm h1
 ·rw [if_neg e0] at h
  by_cases e1 : t.kind = 1
  ·rw [if_pos e1] at h; exact absurd h.symm h2
  ·simp [e0, e1]
theorem Ch.aG {l : List UInt8} {TL : List Tok} (c : Ch l TL) {s : Rs} (hk : s.k < TL.length) {x : List UInt8} (h : bD (cur TL s) = x) (h1 : x ≠ [110, 111, 110, 101]) (h2 : x ≠ [101, 110, 100]) : s.aG.k < TL.length :=
 (List.getElem?_eq_some_iff.1 (c.nxt s.k _ (aT hk) (bK h h1 h2))).1
def Rs.val (s : Rs) (l : List UInt8) (TL : List Tok) (L : List DL) : (List UInt8 × Nat) × Rs :=
 if s.bad = 0 /\ bD (cur TL s) = [110, 117, 109] then (([110, 117, 109], (s.num l (cur TL s) 0 999).1), (s.num l (cur TL s) 0 999).2)
 else if s.bad = 0 /\ bD (cur TL s) = [108, 101, 110] then (([108, 101, 110], (s.aG.bG l (cur TL s.aG) L false).1), (s.aG.bG l (cur TL s.aG) L false).2)
 else if s.bad = 0 /\ bD (cur TL s) = [102, 114, 101, 113] then (([102, 114, 101, 113], 0), s.aG)
 else (([118, 97, 114], (s.bG l (cur TL s) L true).1), (s.bG l (cur TL s) L true).2)
section
variable {w : World} {rb pb tb lo cap : Nat} {l : List UInt8} {TL : List Tok} {s : Rs}
variable {la : Option Addr} {lc : Nat} {L : List DL} {fr : Nat} {Rv Hv Mv : Value} {ms : Bool}
theorem aD1 (h : Rd w rb pb tb lo cap l TL s) (hk : s.k < TL.length) (x : List UInt8) (hx : ¬ (s.bad = 0 /\ bD (cur TL s) = x)) :
  Calls Tryz.prog 42 #[ptr rb, S x] w (Ro w rb pb tb lo cap l TL (.bool false) s) := by
 by_cases hb : s.bad = 0
 ·have := qY h hb (aT hk) x
  rwa [show (bD (cur TL s) == x) = false from by simpa using fun e => hx ⟨hb, e⟩] at this
 ·exact x8 h hb x
theorem yA (h : Rd w rb pb tb lo cap l TL s) (hk : s.k < TL.length) (x : List UInt8) (hx : s.bad = 0 /\ bD (cur TL s) = x) :
  Calls Tryz.prog 42 #[ptr rb, S x] w (Ro w rb pb tb lo cap l TL (.bool true) s) := by
 have := qY h hx.1 (aT hk) x
 rwa [show (bD (cur TL s) == x) = true from by simpa using hx.2] at this
theorem lH (h : Rd w rb pb tb lo cap l TL s) (hk : s.k < TL.length) (x : List UInt8) (hx : ¬ (s.bad = 0 /\ bD (cur TL s) = x)) :
  Calls Tryz.prog 73 #[ptr rb, S x] w (Ro w rb pb tb lo cap l TL (.bool false) s) :=
 zU h x (by
  by_cases hb : s.bad = 0
  ·exact Or.inr ⟨hb, _, aT hk, fun e => hx ⟨hb, e⟩⟩
  ·exact Or.inl hb)
theorem lG (h : Rd w rb pb tb lo cap l TL s) (hk : s.k < TL.length) (x : List UInt8) (hx : s.bad = 0 /\ bD (cur TL s) = x) :
  Calls Tryz.prog 73 #[ptr rb, S x] w (Ro w rb pb tb lo cap l TL (.bool true) s.aG) := U2 h hx.1 (aT hk) x hx.2
theorem set2 (w : World) (n : Nat) (c : Array Value) (T : TypeId) (v0 v1 : Value) (h : w.heap[n]? = some (.cells c T)) (hc : c.size = 2) :
  ((w.setCell ⟨n, 0, none⟩ v0).setCell ⟨n, 1, none⟩ v1).heap[n]? = some (.cells #[v0, v1] T) := by
 have := jX n T [v0, v1] w 0 c h hc
 simpa only [pR, List.take_zero, List.nil_append, Nat.zero_add, Nat.reduceAdd] using this
theorem But.at' {rb n : Nat} {w w' : World} {o : Obj} (h : But rb w w') (hb : w.heap[n]? = some o) (hn : n ≠ rb) : w'.heap[n]? = some o := (h.block _ (zL hb) hn).trans hb
theorem zK (h : Rd w rb pb tb lo cap l TL s) (hp : Pl w rb pb lo la lc L fr Rv Hv Mv ms) (hc : Ch l TL) (hk : s.k < TL.length) :
  Calls Tryz.prog 180 #[ptr rb] w (Ro w rb pb tb lo cap l TL (.agg #[S (s.val l TL L).1.1, .int .i64 (s.val l TL L).1.2]) (s.val l TL L).2) := by
 have hrb : rb < w.heap.size := (zL h.at')
 have htb : tb < w.heap.size := (h.own.lt tb rfl).2
 have h0 := h.alloc (.cells #[S [], .int .i64 0] 156)
 have B0 := (But.refl rb w).alloc (.cells #[S [], .int .i64 0] 156)
 have P0 := hp.but B0
 have b2 : (w.alloc (.cells #[S [], .int .i64 0] 156)).heap[w.heap.size]? = some (.cells #[S [], .int .i64 0] 156) := aC rfl
 generalize hv : s.val l TL L = v at *
 have HV : Hid (s.val l TL L = v) := hv
 clear hv
 go_enter Tryz.func180, Tryz.ntmps180
 go_wp2_with fail
 generalize w.alloc (.cells #[S [], .int .i64 0] 156) = w1 at *
 by_cases c1 : s.bad = 0 /\ bD (cur TL s) = [110, 117, 109]
 ·have hv : v = (([110, 117, 109], (s.num l (cur TL s) 0 999).1), (s.num l (cur TL s) 0 999).2) := by rw [<- HV.out]; unfold Rs.val; rw [if_pos c1]
  subst hv
  clear HV
  refine (yA h0 hk [110, 117, 109] c1).mono ?_
  rintro e w2 ⟨rfl, H2, B2⟩
  have HN := jZ H2 (aT hk) 0 999 (by omega) (hc.num s.k _ (aT hk))
  generalize s.num l (cur TL s) 0 999 = q at *
  go_wp2_with fail
  refine HN.mono ?_
  rintro e w3 ⟨rfl, H3, B3⟩
  have b3 := B3.at' (B2.at' b2 (by omega)) (by omega)
  obtain ⟨c, cf⟩ := aA b3
  go_wp2_with fail
  exact aS Tryz.results180 w.heap.size _ _ _ rfl rfl (set2 _ _ _ _ _ _ b3 rfl) Tryz.underlying156 rfl (by kernel_rfl) ⟨rfl, (H3.other w.heap.size _ _ (by omega) (by omega)).other w.heap.size _ _ (by omega) (by omega), (((B0.trans B2).trans B3).new _ _ _ zR).new _ _ _ zR⟩
 ·refine (aD1 h0 hk [110, 117, 109] c1).mono ?_
  rintro e w2 ⟨rfl, H2, B2⟩
  have P2 := P0.but B2
  have b22 := B2.at' b2 (by omega)
  go_wp2_with fail
  by_cases c2 : s.bad = 0 /\ bD (cur TL s) = [108, 101, 110]
  ·have hv : v = (([108, 101, 110], (s.aG.bG l (cur TL s.aG) L false).1), (s.aG.bG l (cur TL s.aG) L false).2) := by rw [<- HV.out]; unfold Rs.val; rw [if_neg c1, if_pos c2]
   subst hv
   clear HV
   refine (lG H2 hk [108, 101, 110] c2).mono ?_
   rintro e w3' ⟨rfl, H3', B3'⟩
   have HN := eP H3' (P2.but B3') (aT (hc.aG hk c2.2 (by decide) (by decide))) false
   generalize s.aG.bG l (cur TL s.aG) L false = q at *
   go_wp2_with fail
   refine HN.mono ?_
   rintro e w3 ⟨rfl, H3, B3⟩
   have b3 := B3.at' (B3'.at' b22 (by omega)) (by omega)
   have BB := ((B0.trans B2).trans B3').trans B3
   obtain ⟨c, cf⟩ := aA b3
   go_wp2_with fail
   exact aS Tryz.results180 w.heap.size _ _ _ rfl rfl (set2 _ _ _ _ _ _ b3 rfl) Tryz.underlying156 rfl (by kernel_rfl) ⟨rfl, (H3.other w.heap.size _ _ (by omega) (by omega)).other w.heap.size _ _ (by omega) (by omega), ((BB.new _ _ _ zR).new _ _ _ zR)⟩
  ·refine (lH H2 hk [108, 101, 110] c2).mono ?_
   rintro e w3' ⟨rfl, H3', B3'⟩
   have P3 := P2.but B3'
   have b33 := B3'.at' b22 (by omega)
   go_wp2_with fail
   by_cases c3 : s.bad = 0 /\ bD (cur TL s) = [102, 114, 101, 113]
   ·have hv : v = (([102, 114, 101, 113], 0), s.aG) := by rw [<- HV.out]; unfold Rs.val; rw [if_neg c1, if_neg c2, if_pos c3]
    subst hv
    clear HV
    refine (lG H3' hk [102, 114, 101, 113] c3).mono ?_
    rintro e w3 ⟨rfl, H3, B3⟩
    have b3 := B3.at' b33 (by omega)
    have BB := ((B0.trans B2).trans B3').trans B3
    obtain ⟨c, cf⟩ := aA b3
    go_wp2_with fail
    exact aS Tryz.results180 w.heap.size _ _ _ rfl rfl (set2 _ _ _ _ _ _ b3 rfl) Tryz.underlying156 rfl (by kernel_rfl) ⟨rfl, (H3.other w.heap.size _ _ (by omega) (by omega)).other w.heap.size _ _ (by omega) (by omega), ((BB.new _ _ _ zR).new _ _ _ zR)⟩
   ·have hv : v = (([118, 97, 114], (s.bG l (cur TL s) L true).1), (s.bG l (cur TL s) L true).2) := by rw [<- HV.out]; unfold Rs.val; rw [if_neg c1, if_neg c2, if_neg c3]
    subst hv
    clear HV
    refine (lH H3' hk [102, 114, 101, 113] c3).mono ?_
    rintro e w4' ⟨rfl, H4', B4'⟩
    have HN := eP H4' (P3.but B4') (aT hk) true
    generalize s.bG l (cur TL s) L true = q at *
    go_wp2_with fail
    refine HN.mono ?_
    rintro e w3 ⟨rfl, H3, B3⟩
    have b3 := B3.at' (B4'.at' b33 (by omega)) (by omega)
    have BB := (((B0.trans B2).trans B3').trans B4').trans B3
    obtain ⟨c, cf⟩ := aA b3
    go_wp2_with fail
    exact aS Tryz.results180 w.heap.size _ _ _ rfl rfl (set2 _ _ _ _ _ _ b3 rfl) Tryz.underlying156 rfl (by kernel_rfl) ⟨rfl, (H3.other w.heap.size _ _ (by omega) (by omega)).other w.heap.size _ _ (by omega) (by omega), ((BB.new _ _ _ zR).new _ _ _ zR)⟩
theorem wK {t : Tok} (x : List UInt8) (hc : Ch l TL) (hk : s.k < TL.length) (ht : TL[s.k]? = some t) (h1 : x ≠ [110, 111, 110, 101]) (h2 : x ≠ [101, 110, 100]) : (s.need t x).k < TL.length := by
 unfold Rs.need
 by_cases hb : s.bad = 0
 ·rw [if_pos hb]
  by_cases hx : bD t = x
  ·rw [if_pos hx]
   exact (List.getElem?_eq_some_iff.1 (hc.nxt s.k _ ht (bK hx h1 h2))).1
  ·rw [if_neg hx]; exact hk
 ·rw [if_neg hb]; exact hk
theorem iO (e p : Nat) : (s.note e p).k = s.k := by unfold Rs.note; split <;> rfl
theorem V4 (hc : Ch l TL) (hk : s.k < TL.length) (a b : Nat) : (s.num l (cur TL s) a b).2.k < TL.length := by
 have := wK [110, 117, 109] hc hk (aT hk) (by decide) (by decide)
 unfold Rs.num
 simp only
 repeat' split
 all_goals first | (rw [iO]; exact this) | exact this
theorem oP (hc : Ch l TL) (hk : s.k < TL.length) (va : Bool) : (s.bG l (cur TL s) L va).2.k < TL.length := by
 have := wK [110, 97, 109, 101] hc hk (aT hk) (by decide) (by decide)
 unfold Rs.bG
 split
 ·simp only [iO]; exact this
 ·simp only
  split
  ·exact this
  ·rw [iO]; exact this
theorem aFp (hc : Ch l TL) (hk : s.k < TL.length) : (s.val l TL L).2.k < TL.length := by
 unfold Rs.val
 split
 ·exact V4 hc hk _ _
 ·split
  ·rename_i h2; exact oP hc (hc.aG hk h2.2 (by decide) (by decide)) _
  ·split
   ·rename_i h3; exact hc.aG hk h3.2 (by decide) (by decide)
   ·exact oP hc hk _
end
def Rs.bH (TL : List Tok) : Nat -> Rs -> Nat × Rs
 | 0, s => (0, s)
 | f + 1, s => if s.bad = 0 /\ bD (cur TL s) = [110, 111, 116] then ((Rs.bH TL f s.aG).1 + 1, (Rs.bH TL f s.aG).2) else (0, s)
structure Rc where
 op : List UInt8
 n : Nat
 a : List UInt8 × Nat
 b : List UInt8 × Nat
 bH : Nat
abbrev O6 (c : Rc) : Array Value := #[S c.op, .int .i64 c.n, S c.a.1, .int .i64 c.a.2, S c.b.1, .int .i64 c.b.2, .int .i64 c.bH]
abbrev N9 : Rc := ⟨[], 0, ([], 0), ([], 0), 0⟩
def Rs.dF (s : Rs) (l : List UInt8) (TL : List Tok) (L : List DL) (m : Nat) : Rc × Rs :=
 if s.bad = 0 /\ bD (cur TL s) = [102, 117, 108, 108] then (⟨[102, 117, 108, 108], (s.aG.bG l (cur TL s.aG) L false).1, ([], 0), ([], 0), m⟩, (s.aG.bG l (cur TL s.aG) L false).2)
 else if s.bad = 0 /\ bD (cur TL s) = [101, 109, 112, 116, 121] then (⟨[101, 109, 112, 116, 121], (s.aG.bG l (cur TL s.aG) L false).1, ([], 0), ([], 0), m⟩, (s.aG.bG l (cur TL s.aG) L false).2)
 else if s.bad = 0 /\ bD (cur TL s) = [119, 97, 114, 109] then (⟨[119, 97, 114, 109], (s.aG.bG l (cur TL s.aG) L false).1, ([], 0), ([], 0), m⟩, (s.aG.bG l (cur TL s.aG) L false).2)
 else (⟨[60], 0, (s.val l TL L).1, (((s.val l TL L).2.need (cur TL (s.val l TL L).2) [60]).val l TL L).1, m⟩, (((s.val l TL L).2.need (cur TL (s.val l TL L).2) [60]).val l TL L).2)
def Rs.bU (s : Rs) (l : List UInt8) (TL : List Tok) (L : List DL) : Rc × Rs := (s.bH TL TL.length).2.dF l TL L (s.bH TL TL.length).1
section
variable {w : World} {rb pb tb lo cap : Nat} {l : List UInt8} {TL : List Tok} {s : Rs}
variable {la : Option Addr} {lc : Nat} {L : List DL} {fr : Nat} {Rv Hv Mv : Value} {ms : Bool}
theorem aJ8 (hc : Ch l TL) : ∀ (f : Nat) (s : Rs), s.k < TL.length -> (s.bH TL f).2.k < TL.length
 | 0, _, h => h
 | f + 1, s, h => by
  unfold Rs.bH
  split
  ·rename_i hx; exact aJ8 hc f _ (hc.aG h hx.2 (by decide) (by decide))
  ·exact h
theorem aQy (hc : Ch l TL) (hk : s.k < TL.length) (m : Nat) : (s.dF l TL L m).2.k < TL.length := by
 unfold Rs.dF
 split
 ·rename_i h1; exact oP hc (hc.aG hk h1.2 (by decide) (by decide)) _
 ·split
  ·rename_i h1; exact oP hc (hc.aG hk h1.2 (by decide) (by decide)) _
  ·split
   ·rename_i h1; exact oP hc (hc.aG hk h1.2 (by decide) (by decide)) _
   ·exact aFp hc (wK _ hc (aFp hc hk) (aT (aFp hc hk)) (by decide) (by decide))
theorem aO9 (hc : Ch l TL) (hk : s.k < TL.length) : (s.bU l TL L).2.k < TL.length := aQy hc (aJ8 hc _ _ hk) _
theorem uT (w : World) (n : Nat) (c : Array Value) (T : TypeId) (v0 v1 v2 v3 v4 v5 v6 : Value) (h : w.heap[n]? = some (.cells c T)) (hc : c.size = 7) :
  (((((((w.setCell ⟨n, 0, none⟩ v0).setCell ⟨n, 1, none⟩ v1).setCell ⟨n, 2, none⟩ v2).setCell ⟨n, 3, none⟩ v3).setCell ⟨n, 4, none⟩ v4).setCell ⟨n, 5, none⟩ v5).setCell ⟨n, 6, none⟩ v6).heap[n]? = some (.cells #[v0, v1, v2, v3, v4, v5, v6] T) := by
 have := jX n T [v0, v1, v2, v3, v4, v5, v6] w 0 c h hc
 simpa only [pR, List.take_zero, List.nil_append, Nat.zero_add, Nat.reduceAdd] using this
theorem Rd.uT (h : Rd w rb pb tb lo cap l TL s) {n : Nat} {v0 v1 v2 v3 v4 v5 v6 : Value} (h1 : n ≠ rb) (h2 : n ≠ tb) :
  Rd (((((((w.setCell ⟨n, 0, none⟩ v0).setCell ⟨n, 1, none⟩ v1).setCell ⟨n, 2, none⟩ v2).setCell ⟨n, 3, none⟩ v3).setCell ⟨n, 4, none⟩ v4).setCell ⟨n, 5, none⟩ v5).setCell ⟨n, 6, none⟩ v6) rb pb tb lo cap l TL s :=
 ((((((h.other n _ _ h1 h2).other n _ _ h1 h2).other n _ _ h1 h2).other n _ _ h1 h2).other n _ _ h1 h2).other n _ _ h1 h2).other n _ _ h1 h2
theorem But.uT {a : World} (h : But rb a w) {n : Nat} {v0 v1 v2 v3 v4 v5 v6 : Value} (hn : a.heap.size <= n) :
  But rb a (((((((w.setCell ⟨n, 0, none⟩ v0).setCell ⟨n, 1, none⟩ v1).setCell ⟨n, 2, none⟩ v2).setCell ⟨n, 3, none⟩ v3).setCell ⟨n, 4, none⟩ v4).setCell ⟨n, 5, none⟩ v5).setCell ⟨n, 6, none⟩ v6) :=
 ((((((h.new n _ _ hn).new n _ _ hn).new n _ _ hn).new n _ _ hn).new n _ _ hn).new n _ _ hn).new n _ _ hn
theorem U7 (h : Rd w rb pb tb lo cap l TL s) (hp : Pl w rb pb lo la lc L fr Rv Hv Mv ms) (hc : Ch l TL) (hk : s.k < TL.length) :
  Calls Tryz.prog 143 #[ptr rb] w (Ro w rb pb tb lo cap l TL (.agg (O6 (s.bU l TL L).1)) (s.bU l TL L).2) := by
 have hrb : rb < w.heap.size := (zL h.at')
 have htb : tb < w.heap.size := (h.own.lt tb rfl).2
 have hlen := h.len
 have HV : Hid (s.bU l TL L = (s.bH TL TL.length).2.dF l TL L (s.bH TL TL.length).1) := rfl
 generalize s.bU l TL L = v at *
 go_enter Tryz.func143, Tryz.ntmps143
 go_wp2_with fail
 go_loopg [] TL.length (fun f wr => ∃ (si : Rs) (m : Nat), si.k < TL.length /\ TL.length <= f + si.k /\ m + f <= TL.length /\ Rd wr rb pb tb lo cap l TL si /\ But rb w wr /\ wr.heap[w.heap.size]? = some (.cells (O6 N9) 158) /\ wr.heap[w.heap.size + 1]? = some (.cells (O6 ⟨[], 0, ([], 0), ([], 0), m⟩) 158) /\ Hid (v = (si.bH TL f).2.dF l TL L (m + (si.bH TL f).1)))
 case atStart => exact ⟨s, 0, hk, by omega, by omega, (h.alloc _).alloc _, ((But.refl _ _).alloc _).alloc _, (zM _ _ _ (by simp)).trans (aC rfl), aC (by simp), by show _ = _; rw [HV.out]; simp⟩
 case round =>
  obtain ⟨si, m, hki, hf, hm, H1, B1, b2, b3, HR⟩ := hrel
  obtain ⟨f, rfl⟩ : ∃ f, gk = f + 1 := ⟨gk - 1, by omega⟩
  clear HV
  have hz1 := B1.size
  by_cases c1 : si.bad = 0 /\ bD (cur TL si) = [110, 111, 116]
  ·have HS : Hid (v = (si.aG.bH TL f).2.dF l TL L (m + 1 + (si.aG.bH TL f).1)) := by
    show _ = _
    rw [HR.out]
    conv => lhs; unfold Rs.bH
    rw [if_pos c1]
    simp only
    congr 1
    omega
   clear HR
   go_wp2_with fail
   refine (lG H1 hki [110, 111, 116] c1).mono ?_
   rintro e w2 ⟨rfl, H2, B2⟩
   have b22 := B2.at' b2 (by omega)
   have b32 := B2.at' b3 (by omega)
   obtain ⟨c, cf⟩ := aA b32
   go_wp2_with fail
   go_roundg f
   case measure => omega
   case rel =>
    refine ⟨si.aG, m + 1, hc.aG hki c1.2 (by decide) (by decide), by show _ <= f + (si.k + 1); omega, by omega, H2.other (w.heap.size + 1) _ _ (by omega) (by omega), (B1.trans B2).new (w.heap.size + 1) _ _ (by omega), (zS _ _ _ _ (by show w.heap.size ≠ w.heap.size + 1; omega)).trans b22, (zC _ _ _ _ _ _ b32).trans ?_, HS⟩
    simp
  ·have HS : Hid (v = si.dF l TL L m) := by
    show _ = _
    rw [HR.out]
    conv => lhs; unfold Rs.bH
    rw [if_neg c1]
    rfl
   clear HR
   go_wp2_with fail
   refine (lH H1 hki [110, 111, 116] c1).mono ?_
   rintro e w2 ⟨rfl, H2, B2⟩
   have b22 := B2.at' b2 (by omega)
   have b32 := B2.at' b3 (by omega)
   have B3 := B1.trans B2
   have P3 := hp.but B3
   have hz2 := B3.size
   clear b2 b3 H1 B1 B2 hz1 c1 hf hm
   go_wp2_with fail
   go_loopg [15] 3 (fun f v15 wr => ∃ k : Nat, v15 = .int .i64 k /\ k + f = 3 /\ Rd wr rb pb tb lo cap l TL si /\ But rb w wr /\ wr.heap[w.heap.size]? = some (.cells (O6 N9) 158) /\ wr.heap[w.heap.size + 1]? = some (.cells (O6 ⟨[], 0, ([], 0), ([], 0), m⟩) 158) /\ wr.heap[w2.heap.size]? = some (.cells #[S [102, 117, 108, 108], S [101, 109, 112, 116, 121], S [119, 97, 114, 109]] 9) /\
    Hid ((0 < k -> ¬ (si.bad = 0 /\ bD (cur TL si) = [102, 117, 108, 108])) /\ (1 < k -> ¬ (si.bad = 0 /\ bD (cur TL si) = [101, 109, 112, 116, 121])) /\ (2 < k -> ¬ (si.bad = 0 /\ bD (cur TL si) = [119, 97, 114, 109]))))
   case atStart =>
    exact ⟨0, rfl, rfl, H2.alloc _, B3.alloc _, (zM _ _ _ (zL b22)).trans b22, (zM _ _ _ (zL b32)).trans b32, aC rfl, ⟨fun h => by omega, fun h => by omega, fun h => by omega⟩⟩
   case round =>
    obtain ⟨k, rfl, hkf, H4, B4, yS, xC, bS, cE⟩ := hrel
    have cE := cE.out
    have hz3 : w.heap.size + 1 < w2.heap.size := (zL b32)
    obtain ⟨cS, cfS⟩ := aA bS
    clear H2 B3 P3 b22 b32
    have hcase : k = 0 \/ k = 1 \/ k = 2 \/ k = 3 := by omega
    rcases hcase with rfl | rfl | rfl | rfl
    ·obtain rfl : gk = 3 := by omega
     go_wp2_with fail
     by_cases cx : si.bad = 0 /\ bD (cur TL si) = [102, 117, 108, 108]
     ·have hv : v = (⟨[102, 117, 108, 108], (si.aG.bG l (cur TL si.aG) L false).1, ([], 0), ([], 0), m⟩, (si.aG.bG l (cur TL si.aG) L false).2) := by
       rw [HS.out]
       unfold Rs.dF
       rw [if_pos cx]
      subst hv
      clear HS
      refine (lG H4 hki [102, 117, 108, 108] cx).mono ?_
      rintro e w5 ⟨rfl, H5, B5⟩
      have b25 := B5.at' yS (by omega)
      have b35 := B5.at' xC (by omega)
      obtain ⟨c3, cf3⟩ := aA b35
      have H6 := H5.other (w.heap.size + 1) 0 (S [102, 117, 108, 108]) (by omega) (by omega)
      have B6 := (B4.trans B5).new (w.heap.size + 1) 0 (S [102, 117, 108, 108]) (by omega)
      have O9 := (zS w5 ⟨w.heap.size + 1, 0, none⟩ (S [102, 117, 108, 108]) w.heap.size (by show w.heap.size ≠ w.heap.size + 1; omega)).trans b25
      have b36 := zC w5 (w.heap.size + 1) 0 (S [102, 117, 108, 108]) _ _ b35
      have HN := eP H6 (hp.but B6) (aT (hc.aG hki cx.2 (by decide) (by decide))) false
      generalize si.aG.bG l (cur TL si.aG) L false = q at *
      go_wp2_with fail
      refine HN.mono ?_
      rintro e w7 ⟨rfl, H7, B7⟩
      have Y4 := B7.at' b36 (by omega)
      have b27 := B7.at' O9 (by omega)
      obtain ⟨c7, cf7⟩ := aA Y4
      have H8 := H7.other (w.heap.size + 1) 1 (.int .i64 q.1) (by omega) (by omega)
      have B8 := (B6.trans B7).new (w.heap.size + 1) 1 (.int .i64 q.1) (by omega)
      have bR := (zS w7 ⟨w.heap.size + 1, 1, none⟩ (.int .i64 q.1) w.heap.size (by show w.heap.size ≠ w.heap.size + 1; omega)).trans b27
      have bC : (w7.setCell ⟨w.heap.size + 1, 1, none⟩ (.int .i64 q.1)).heap[w.heap.size + 1]? = some (.cells (O6 ⟨[102, 117, 108, 108], q.1, ([], 0), ([], 0), m⟩) 158) := (zC _ _ _ _ _ _ Y4).trans (by simp)
      obtain ⟨cR, cfR⟩ := aA bR
      obtain ⟨cC, cfC⟩ := aA bC
      go_wp2_with fail
      exact aS Tryz.results143 w.heap.size _ _ _ rfl rfl (uT _ _ _ _ _ _ _ _ _ _ _ bR rfl) Tryz.underlying158 rfl (by kernel_rfl) ⟨rfl, Rd.uT H8 (by omega) (by omega), But.uT B8 zR⟩
     ·refine (lH H4 hki [102, 117, 108, 108] cx).mono ?_
      rintro e w5 ⟨rfl, H5, B5⟩
      go_wp2_with fail
      go_roundg 2
      case measure => omega
      case rel => exact ⟨1, rfl, by omega, H5, B4.trans B5, B5.at' yS (by omega), B5.at' xC (by omega), B5.at' bS (by omega), ⟨fun _ => cx, fun h => by omega, fun h => by omega⟩⟩
    ·obtain rfl : gk = 2 := by omega
     go_wp2_with fail
     by_cases cx : si.bad = 0 /\ bD (cur TL si) = [101, 109, 112, 116, 121]
     ·have hv : v = (⟨[101, 109, 112, 116, 121], (si.aG.bG l (cur TL si.aG) L false).1, ([], 0), ([], 0), m⟩, (si.aG.bG l (cur TL si.aG) L false).2) := by
       rw [HS.out]
       unfold Rs.dF
       rw [if_neg (cE.1 (by omega)), if_pos cx]
      subst hv
      clear HS
      refine (lG H4 hki [101, 109, 112, 116, 121] cx).mono ?_
      rintro e w5 ⟨rfl, H5, B5⟩
      have b25 := B5.at' yS (by omega)
      have b35 := B5.at' xC (by omega)
      obtain ⟨c3, cf3⟩ := aA b35
      have H6 := H5.other (w.heap.size + 1) 0 (S [101, 109, 112, 116, 121]) (by omega) (by omega)
      have B6 := (B4.trans B5).new (w.heap.size + 1) 0 (S [101, 109, 112, 116, 121]) (by omega)
      have O9 := (zS w5 ⟨w.heap.size + 1, 0, none⟩ (S [101, 109, 112, 116, 121]) w.heap.size (by show w.heap.size ≠ w.heap.size + 1; omega)).trans b25
      have b36 := zC w5 (w.heap.size + 1) 0 (S [101, 109, 112, 116, 121]) _ _ b35
      have HN := eP H6 (hp.but B6) (aT (hc.aG hki cx.2 (by decide) (by decide))) false
      generalize si.aG.bG l (cur TL si.aG) L false = q at *
      go_wp2_with fail
      refine HN.mono ?_
      rintro e w7 ⟨rfl, H7, B7⟩
      have Y4 := B7.at' b36 (by omega)
      have b27 := B7.at' O9 (by omega)
      obtain ⟨c7, cf7⟩ := aA Y4
      have H8 := H7.other (w.heap.size + 1) 1 (.int .i64 q.1) (by omega) (by omega)
      have B8 := (B6.trans B7).new (w.heap.size + 1) 1 (.int .i64 q.1) (by omega)
      have bR := (zS w7 ⟨w.heap.size + 1, 1, none⟩ (.int .i64 q.1) w.heap.size (by show w.heap.size ≠ w.heap.size + 1; omega)).trans b27
      have bC : (w7.setCell ⟨w.heap.size + 1, 1, none⟩ (.int .i64 q.1)).heap[w.heap.size + 1]? = some (.cells (O6 ⟨[101, 109, 112, 116, 121], q.1, ([], 0), ([], 0), m⟩) 158) := (zC _ _ _ _ _ _ Y4).trans (by simp)
      obtain ⟨cR, cfR⟩ := aA bR
      obtain ⟨cC, cfC⟩ := aA bC
      go_wp2_with fail
      exact aS Tryz.results143 w.heap.size _ _ _ rfl rfl (uT _ _ _ _ _ _ _ _ _ _ _ bR rfl) Tryz.underlying158 rfl (by kernel_rfl) ⟨rfl, Rd.uT H8 (by omega) (by omega), But.uT B8 zR⟩
     ·refine (lH H4 hki [101, 109, 112, 116, 121] cx).mono ?_
      rintro e w5 ⟨rfl, H5, B5⟩
      go_wp2_with fail
      go_roundg 1
      case measure => omega
      case rel => exact ⟨2, rfl, by omega, H5, B4.trans B5, B5.at' yS (by omega), B5.at' xC (by omega), B5.at' bS (by omega), ⟨fun _ => cE.1 (by omega), fun _ => cx, fun h => by omega⟩⟩
    ·obtain rfl : gk = 1 := by omega
     go_wp2_with fail
     by_cases cx : si.bad = 0 /\ bD (cur TL si) = [119, 97, 114, 109]
     ·have hv : v = (⟨[119, 97, 114, 109], (si.aG.bG l (cur TL si.aG) L false).1, ([], 0), ([], 0), m⟩, (si.aG.bG l (cur TL si.aG) L false).2) := by
       rw [HS.out]
       unfold Rs.dF
       rw [if_neg (cE.1 (by omega)), if_neg (cE.2.1 (by omega)), if_pos cx]
      subst hv
      clear HS
      refine (lG H4 hki [119, 97, 114, 109] cx).mono ?_
      rintro e w5 ⟨rfl, H5, B5⟩
      have b25 := B5.at' yS (by omega)
      have b35 := B5.at' xC (by omega)
      obtain ⟨c3, cf3⟩ := aA b35
      have H6 := H5.other (w.heap.size + 1) 0 (S [119, 97, 114, 109]) (by omega) (by omega)
      have B6 := (B4.trans B5).new (w.heap.size + 1) 0 (S [119, 97, 114, 109]) (by omega)
      have O9 := (zS w5 ⟨w.heap.size + 1, 0, none⟩ (S [119, 97, 114, 109]) w.heap.size (by show w.heap.size ≠ w.heap.size + 1; omega)).trans b25
      have b36 := zC w5 (w.heap.size + 1) 0 (S [119, 97, 114, 109]) _ _ b35
      have HN := eP H6 (hp.but B6) (aT (hc.aG hki cx.2 (by decide) (by decide))) false
      generalize si.aG.bG l (cur TL si.aG) L false = q at *
      go_wp2_with fail
      refine HN.mono ?_
      rintro e w7 ⟨rfl, H7, B7⟩
      have Y4 := B7.at' b36 (by omega)
      have b27 := B7.at' O9 (by omega)
      obtain ⟨c7, cf7⟩ := aA Y4
      have H8 := H7.other (w.heap.size + 1) 1 (.int .i64 q.1) (by omega) (by omega)
      have B8 := (B6.trans B7).new (w.heap.size + 1) 1 (.int .i64 q.1) (by omega)
      have bR := (zS w7 ⟨w.heap.size + 1, 1, none⟩ (.int .i64 q.1) w.heap.size (by show w.heap.size ≠ w.heap.size + 1; omega)).trans b27
      have bC : (w7.setCell ⟨w.heap.size + 1, 1, none⟩ (.int .i64 q.1)).heap[w.heap.size + 1]? = some (.cells (O6 ⟨[119, 97, 114, 109], q.1, ([], 0), ([], 0), m⟩) 158) := (zC _ _ _ _ _ _ Y4).trans (by simp)
      obtain ⟨cR, cfR⟩ := aA bR
      obtain ⟨cC, cfC⟩ := aA bC
      go_wp2_with fail
      exact aS Tryz.results143 w.heap.size _ _ _ rfl rfl (uT _ _ _ _ _ _ _ _ _ _ _ bR rfl) Tryz.underlying158 rfl (by kernel_rfl) ⟨rfl, Rd.uT H8 (by omega) (by omega), But.uT B8 zR⟩
     ·refine (lH H4 hki [119, 97, 114, 109] cx).mono ?_
      rintro e w5 ⟨rfl, H5, B5⟩
      go_wp2_with fail
      go_roundg 0
      case measure => omega
      case rel => exact ⟨3, rfl, by omega, H5, B4.trans B5, B5.at' yS (by omega), B5.at' xC (by omega), B5.at' bS (by omega), ⟨fun _ => cE.1 (by omega), fun _ => cE.2.1 (by omega), fun _ => cx⟩⟩
    ·have HS : Hid (v = (⟨[60], 0, (si.val l TL L).1, (((si.val l TL L).2.need (cur TL (si.val l TL L).2) [60]).val l TL L).1, m⟩, (((si.val l TL L).2.need (cur TL (si.val l TL L).2) [60]).val l TL L).2)) := by
      show _ = _
      rw [HS.out]
      unfold Rs.dF
      rw [if_neg (cE.1 (by omega)), if_neg (cE.2.1 (by omega)), if_neg (cE.2.2 (by omega))]
     clear cE
     obtain ⟨c3, cf3⟩ := aA xC
     have H6 := H4.other (w.heap.size + 1) 0 (S [60]) (by omega) (by omega)
     have B6 := B4.new (w.heap.size + 1) 0 (S [60]) (by omega)
     have O9 := (zS wr ⟨w.heap.size + 1, 0, none⟩ (S [60]) w.heap.size (by show w.heap.size ≠ w.heap.size + 1; omega)).trans yS
     have b36 := zC wr (w.heap.size + 1) 0 (S [60]) _ _ xC
     have HN := zK H6 (hp.but B6) hc hki
     have k1 := aFp (L := L) hc hki
     generalize si.val l TL L = q at *
     go_wp2_with fail
     refine HN.mono ?_
     rintro e w7 ⟨rfl, H7, B7⟩
     have Y4 := B7.at' b36 (by omega)
     have b27 := B7.at' O9 (by omega)
     obtain ⟨c7, cf7⟩ := aA Y4
     have H8 := (H7.other (w.heap.size + 1) 2 (S q.1.1) (by omega) (by omega)).other (w.heap.size + 1) 3 (.int .i64 q.1.2) (by omega) (by omega)
     have B8 := ((B6.trans B7).new (w.heap.size + 1) 2 (S q.1.1) (by omega)).new (w.heap.size + 1) 3 (.int .i64 q.1.2) (by omega)
     have b28 : ((w7.setCell ⟨w.heap.size + 1, 2, none⟩ (S q.1.1)).setCell ⟨w.heap.size + 1, 3, none⟩ (.int .i64 q.1.2)).heap[w.heap.size]? = some (.cells (O6 N9) 158) :=
      (zS _ ⟨w.heap.size + 1, 3, none⟩ _ w.heap.size (by show w.heap.size ≠ w.heap.size + 1; omega)).trans ((zS w7 ⟨w.heap.size + 1, 2, none⟩ _ w.heap.size (by show w.heap.size ≠ w.heap.size + 1; omega)).trans b27)
     have b38 : ((w7.setCell ⟨w.heap.size + 1, 2, none⟩ (S q.1.1)).setCell ⟨w.heap.size + 1, 3, none⟩ (.int .i64 q.1.2)).heap[w.heap.size + 1]? = some (.cells (O6 ⟨[60], 0, q.1, ([], 0), m⟩) 158) :=
      (zC _ _ _ _ _ _ (zC _ _ _ _ _ _ Y4)).trans (by simp)
     have HD := bQ H8 (aT k1) [60]
     have k2 := wK [60] hc k1 (aT k1) (by decide) (by decide)
     generalize q.2.need (cur TL q.2) [60] = s3 at *
     go_wp2_with fail
     refine HD.mono ?_
     rintro e w9 ⟨rfl, H9, B9⟩
     have B10 := B8.trans B9
     have b29 := B9.at' b28 (by omega)
     have b39 := B9.at' b38 (by omega)
     have HN2 := zK H9 (hp.but B10) hc k2
     generalize s3.val l TL L = q2 at *
     have hv : v = (⟨[60], 0, q.1, q2.1, m⟩, q2.2) := HS.out
     subst hv
     clear HS
     go_wp2_with fail
     refine HN2.mono ?_
     rintro e w11 ⟨rfl, H11, B11⟩
     have b3a := B11.at' b39 (by omega)
     have b2a := B11.at' b29 (by omega)
     obtain ⟨ca, cfa⟩ := aA b3a
     have H12 := (H11.other (w.heap.size + 1) 4 (S q2.1.1) (by omega) (by omega)).other (w.heap.size + 1) 5 (.int .i64 q2.1.2) (by omega) (by omega)
     have B12 := ((B10.trans B11).new (w.heap.size + 1) 4 (S q2.1.1) (by omega)).new (w.heap.size + 1) 5 (.int .i64 q2.1.2) (by omega)
     have bR : ((w11.setCell ⟨w.heap.size + 1, 4, none⟩ (S q2.1.1)).setCell ⟨w.heap.size + 1, 5, none⟩ (.int .i64 q2.1.2)).heap[w.heap.size]? = some (.cells (O6 N9) 158) :=
      (zS _ ⟨w.heap.size + 1, 5, none⟩ _ w.heap.size (by show w.heap.size ≠ w.heap.size + 1; omega)).trans ((zS w11 ⟨w.heap.size + 1, 4, none⟩ _ w.heap.size (by show w.heap.size ≠ w.heap.size + 1; omega)).trans b2a)
     have bC : ((w11.setCell ⟨w.heap.size + 1, 4, none⟩ (S q2.1.1)).setCell ⟨w.heap.size + 1, 5, none⟩ (.int .i64 q2.1.2)).heap[w.heap.size + 1]? = some (.cells (O6 ⟨[60], 0, q.1, q2.1, m⟩) 158) :=
      (zC _ _ _ _ _ _ (zC _ _ _ _ _ _ b3a)).trans (by simp)
     obtain ⟨cR, cfR⟩ := aA bR
     obtain ⟨cC, cfC⟩ := aA bC
     go_wp2_with fail
     exact aS Tryz.results143 w.heap.size _ _ _ rfl rfl (uT _ _ _ _ _ _ _ _ _ _ _ bR rfl) Tryz.underlying158 rfl (by kernel_rfl) ⟨rfl, Rd.uT H12 (by omega) (by omega), But.uT B12 zR⟩
end
end Go.Proofs.YtfddoieakfpagaaGreatDoor
