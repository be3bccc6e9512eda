import Derived.Test.YtfddoieakfpagaaGreatDoorGE
namespace Go.Proofs.YtfddoieakfpagaaGreatDoor
set_option maxHeartbeats 2000000
set_option maxRecDepth 20000
open Go.RowKit
structure Rt where
 op : List UInt8
 n : Nat
 m : Nat
 tail : Bool
 bU : Rc
 other : Bool
abbrev mJ (x : Rt) (y z : Value) : Array Value := #[S x.op, .int .i64 x.n, .int .i64 x.m, .bool x.tail, S x.bU.op, .int .i64 x.bU.n, S x.bU.a.1, .int .i64 x.bU.a.2, S x.bU.b.1, .int .i64 x.bU.b.2, .int .i64 x.bU.bH, y, z, .bool x.other]
abbrev rt0 (op : List UInt8) : Rt := ⟨op, 0, 0, false, N9, false⟩
def RT : Nat -> Type
 | 0 => Unit
 | d + 1 => List (Rt × RT d × RT d)
def aI : (d : Nat) -> RT d
 | 0 => ()
 | _ + 1 => []
def Rs.bJ {β : Type} (blk : Rs -> β × Rs) (nil : β) (s : Rs) (l : List UInt8) (TL : List Tok) (L : List DL) : (Rt × β × β) × Rs :=
 let op := bD (cur TL s)
 if op = [112, 117, 116] then
  let r := s.aG.bG l (cur TL s.aG) L false
  let ta : Bool := r.2.bad = 0 /\ bD (cur TL r.2) = [116, 97, 105, 108]
  let s2 := if ta then r.2.aG else r.2
  ((⟨op, r.1, 0, ta, N9, false⟩, nil, nil), s2.need (cur TL s2) [59])
 else if op = [101, 118, 105, 99, 116] \/ op = [99, 111, 111, 108] then
  let r := s.aG.bG l (cur TL s.aG) L false
  ((⟨op, r.1, 0, false, N9, false⟩, nil, nil), r.2.need (cur TL r.2) [59])
 else if op = [115, 104, 105, 102, 116] then
  let r := s.aG.bG l (cur TL s.aG) L false
  let q := r.2.bG l (cur TL r.2) L false
  let ta : Bool := q.2.bad = 0 /\ bD (cur TL q.2) = [116, 97, 105, 108]
  let s2 := if ta then q.2.aG else q.2
  ((⟨op, r.1, q.1, ta, N9, false⟩, nil, nil), s2.need (cur TL s2) [59])
 else if op = [105, 110, 99] \/ op = [100, 101, 99] then
  let r := s.aG.bG l (cur TL s.aG) L true
  ((⟨op, r.1, 0, false, N9, false⟩, nil, nil), r.2.need (cur TL r.2) [59])
 else if op = [100, 114, 111, 112] \/ op = [98, 117, 109, 112] then
  ((rt0 op, nil, nil), s.aG.need (cur TL s.aG) [59])
 else if op = [105, 102] then
  let r := s.aG.bU l TL L
  let p := blk r.2
  if p.2.bad = 0 /\ bD (cur TL p.2) = [101, 108, 115, 101] then
   let q := blk p.2.aG
   ((⟨op, 0, 0, false, r.1, true⟩, p.1, q.1), q.2)
  else ((⟨op, 0, 0, false, r.1, false⟩, p.1, nil), p.2)
 else if op = [114, 101, 112, 101, 97, 116] then
  if s.loops = 2 then ((rt0 op, nil, nil), s.fail 3 (cur TL s))
  else
   let r := s.aG.num l (cur TL s.aG) 1 50
   let s2 := r.2.need (cur TL r.2) [119, 104, 105, 108, 101]
   let c := s2.bU l TL L
   let p := blk { c.2 with loops := c.2.loops + 1 }
   ((⟨op, r.1, 0, false, c.1, false⟩, p.1, nil), { p.2 with loops := p.2.loops - 1 })
 else ((rt0 op, nil, nil), s.fail 2 (cur TL s))
def mP {β : Type} (P : Value -> β -> Prop) : List (Rt × Value × Value) -> List (Rt × β × β) -> Prop
 | [], [] => True
 | r :: rs, x :: xs => r.1 = x.1 /\ P r.2.1 x.2.1 /\ P r.2.2 x.2.2 /\ mP P rs xs
 | _, _ => False
def X5 (rows : List (Rt × Value × Value)) : List Value := rows.flatMap fun r => (mJ r.1 r.2.1 r.2.2).toList
def dI : (d : Nat) -> World -> (Nat -> Prop) -> Value -> RT d -> Prop
 | 0, _, _, v, _ => v = aF
 | d + 1, w, N, v, xs => ∃ rows, mP (dI d w N) rows xs /\ w.ownsRow 0 160 14 v rows.length (X5 rows) /\ ∀ g, v.ownBlock = some g -> N g
theorem mP.mono {β : Type} {P Q : Value -> β -> Prop} (h : ∀ v x, P v x -> Q v x) : ∀ (rs : List (Rt × Value × Value)) (xs : List (Rt × β × β)), mP P rs xs -> mP Q rs xs
 | [], [], _ => trivial
 | _ :: rs, _ :: xs, ⟨a, b, c, d⟩ => ⟨a, h _ _ b, h _ _ c, mP.mono h rs xs d⟩
theorem mP.snoc {β : Type} {P : Value -> β -> Prop} (r : Rt × Value × Value) (x : Rt × β × β) (h1 : r.1 = x.1) (h2 : P r.2.1 x.2.1) (h3 : P r.2.2 x.2.2) :
  ∀ (rs : List (Rt × Value × Value)) (xs : List (Rt × β × β)), mP P rs xs -> mP P (rs ++ [r]) (xs ++ [x])
 | [], [], _ => ⟨h1, h2, h3, trivial⟩
 | _ :: rs, _ :: xs, ⟨a, b, c, d⟩ => ⟨a, b, c, mP.snoc r x h1 h2 h3 rs xs d⟩
theorem dI.mono : ∀ (d : Nat) {w : World} {N N' : Nat -> Prop} (_ : ∀ g, N g -> N' g) (v : Value) (x : RT d), dI d w N v x -> dI d w N' v x
 | 0, _, _, _, _, _, _, h => h
 | d + 1, _, _, _, hN, _, _, ⟨rows, h1, h2, h3⟩ => ⟨rows, mP.mono (fun v x h => dI.mono d hN v x h) _ _ h1, h2, fun g hg => hN g (h3 g hg)⟩
theorem dI.move : ∀ (d : Nat) {w w' : World} {N : Nat -> Prop} (_ : ∀ g, N g -> g < w.heap.size -> w'.heap[g]? = w.heap[g]?) (v : Value) (x : RT d), dI d w N v x -> dI d w' N v x
 | 0, _, _, _, _, _, _, h => h
 | d + 1, _, _, _, hb, _, _, ⟨rows, h1, h2, h3⟩ => ⟨rows, mP.mono (fun v x h => dI.move d hb v x h) _ _ h1, aW h2 (fun g hg hl => hb g (h3 g hg) hl), h3⟩
theorem dI.nil : ∀ (d : Nat) (w : World) (N : Nat -> Prop), dI d w N aF (aI d)
 | 0, _, _ => rfl
 | _ + 1, w, _ => ⟨[], trivial, World.ownsRow_nil w 0 _ 14, fun g hg => by simp [Value.ownBlock] at hg⟩
theorem dI.form : ∀ (d : Nat) {w : World} {N : Nat -> Prop} (v : Value) (x : RT d), dI d w N v x -> ∃ a n c, v = .slice a n c
 | 0, _, _, _, _, h => ⟨none, 0, 0, h⟩
 | _ + 1, _, _, _, _, ⟨_, _, h2, _⟩ => by
  rcases h2.2 with ⟨h, _⟩ | ⟨g, cap, cur, h, _⟩
  ·exact ⟨_, _, _, h⟩
  ·exact ⟨_, _, _, h⟩
section
variable {w : World} {rb pb tb lo cap : Nat} {l : List UInt8} {TL : List Tok} {s : Rs}
variable {la : Option Addr} {lc : Nat} {L : List DL} {fr : Nat} {Rv Hv Mv : Value} {ms : Bool}
def RoS (w : World) (rb pb tb lo cap : Nat) (l : List UInt8) (TL : List Tok) (d : Nat) (r : (Rt × RT d × RT d) × Rs) (e : Ending) (w' : World) : Prop :=
 ∃ y z, e = .returned (.agg (mJ r.1.1 y z)) /\ dI d w' (fun g => w.heap.size <= g) y r.1.2.1 /\ dI d w' (fun g => w.heap.size <= g) z r.1.2.2 /\ Rd w' rb pb tb lo cap l TL r.2 /\ But rb w w'
theorem Rd.cO (h : Rd w rb pb tb lo cap l TL s) {n : Nat} {v0 v1 v2 v3 v4 v5 v6 v7 v8 v9 v10 v11 v12 v13 : Value} (h1 : n ≠ rb) (h2 : n ≠ tb) :
  Rd ((((((((((((((w.setCell ⟨n, 0, none⟩ v0).setCell ⟨n, 1, none⟩ v1).setCell ⟨n, 2, none⟩ v2).setCell ⟨n, 3, none⟩ v3).setCell ⟨n, 4, none⟩ v4).setCell ⟨n, 5, none⟩ v5).setCell ⟨n, 6, none⟩ v6).setCell ⟨n, 7, none⟩ v7).setCell ⟨n, 8, none⟩ v8).setCell ⟨n, 9, none⟩ v9).setCell ⟨n, 10, none⟩ v10).setCell ⟨n, 11, none⟩ v11).setCell ⟨n, 12, none⟩ v12).setCell ⟨n, 13, none⟩ v13) rb pb tb lo cap l TL s :=
 (((((((((((((h.other n _ _ h1 h2).other n _ _ h1 h2).other n _ _ h1 h2).other n _ _ h1 h2).other n _ _ h1 h2).other n _ _ h1 h2).other n _ _ h1 h2).other n _ _ h1 h2).other n _ _ h1 h2).other n _ _ h1 h2).other n _ _ h1 h2).other n _ _ h1 h2).other n _ _ h1 h2).other n _ _ h1 h2
theorem But.cO {a : World} (h : But rb a w) {n : Nat} {v0 v1 v2 v3 v4 v5 v6 v7 v8 v9 v10 v11 v12 v13 : Value} (hn : a.heap.size <= n) :
  But rb a ((((((((((((((w.setCell ⟨n, 0, none⟩ v0).setCell ⟨n, 1, none⟩ v1).setCell ⟨n, 2, none⟩ v2).setCell ⟨n, 3, none⟩ v3).setCell ⟨n, 4, none⟩ v4).setCell ⟨n, 5, none⟩ v5).setCell ⟨n, 6, none⟩ v6).setCell ⟨n, 7, none⟩ v7).setCell ⟨n, 8, none⟩ v8).setCell ⟨n, 9, none⟩ v9).setCell ⟨n, 10, none⟩ v10).setCell ⟨n, 11, none⟩ v11).setCell ⟨n, 12, none⟩ v12).setCell ⟨n, 13, none⟩ v13) :=
 (((((((((((((h.new n _ _ hn).new n _ _ hn).new n _ _ hn).new n _ _ hn).new n _ _ hn).new n _ _ hn).new n _ _ hn).new n _ _ hn).new n _ _ hn).new n _ _ hn).new n _ _ hn).new n _ _ hn).new n _ _ hn).new n _ _ hn
end
section
variable {w : World} {rb pb tb lo cap : Nat} {l : List UInt8} {TL : List Tok} {s : Rs}
variable {la : Option Addr} {lc : Nat} {L : List DL} {fr : Nat} {Rv Hv Mv : Value} {ms : Bool}
theorem jQ (h : Rd w rb pb tb lo cap l TL s) (op : List UInt8) : ∃ w1, Hid (((w.alloc (.cells #[S [], .int .i64 0, .int .i64 0, .bool false, S [], .int .i64 0, S [], .int .i64 0, S [], .int .i64 0, .int .i64 0, aF, aF, .bool false] 160)).alloc (.cells #[S op, .int .i64 0, .int .i64 0, .bool false, S [], .int .i64 0, S [], .int .i64 0, S [], .int .i64 0, .int .i64 0, aF, aF, .bool false] 160)).drew = w1) /\ Rd (w.alloc (.cells #[S [], .int .i64 0, .int .i64 0, .bool false, S [], .int .i64 0, S [], .int .i64 0, S [], .int .i64 0, .int .i64 0, aF, aF, .bool false] 160)) rb pb tb lo cap l TL s /\ Rd ((w.alloc (.cells #[S [], .int .i64 0, .int .i64 0, .bool false, S [], .int .i64 0, S [], .int .i64 0, S [], .int .i64 0, .int .i64 0, aF, aF, .bool false] 160)).alloc (.cells #[S [], .int .i64 0, .int .i64 0, .bool false, S [], .int .i64 0, S [], .int .i64 0, S [], .int .i64 0, .int .i64 0, aF, aF, .bool false] 160)) rb pb tb lo cap l TL s /\ Rd w1 rb pb tb lo cap l TL s /\ But rb w w1 /\ w1.heap[w.heap.size]? = some (.cells #[S [], .int .i64 0, .int .i64 0, .bool false, S [], .int .i64 0, S [], .int .i64 0, S [], .int .i64 0, .int .i64 0, aF, aF, .bool false] 160) /\ w1.heap[w.heap.size + 1]? = some (.cells #[S op, .int .i64 0, .int .i64 0, .bool false, S [], .int .i64 0, S [], .int .i64 0, S [], .int .i64 0, .int .i64 0, aF, aF, .bool false] 160) :=
 ⟨_, rfl, h.alloc _, (h.alloc _).alloc _, ((h.alloc _).alloc _).drew, (((But.refl _ _).alloc _).alloc _).drew, (zM _ _ _ (by simp)).trans (aC rfl), aC (by simp)⟩
theorem aDx {d : Nat} (blk : Rs -> RT d × Rs) (h : Rd w rb pb tb lo cap l TL s) (_hp : Pl w rb pb lo la lc L fr Rv Hv Mv ms) (hc : Ch l TL) (hk : s.k < TL.length) (hop : bD (cur TL s) = [100, 114, 111, 112]) :
  Calls Tryz.prog 110 #[ptr rb] w (RoS w rb pb tb lo cap l TL d (s.bJ blk (aI d) l TL L)) := by
 have hrb : rb < w.heap.size := (zL h.at')
 have htb : tb < w.heap.size := (h.own.lt tb rfl).2
 have hlen := h.len
 have ht := aT hk
 have hka := hc.aG hk hop (by decide) (by decide)
 have HV : Hid (s.bJ blk (aI d) l TL L = ((rt0 [100, 114, 111, 112], aI d, aI d), s.aG.need (cur TL s.aG) [59])) := by
  show _ = _
  unfold Rs.bJ
  rw [hop]
  rfl
 generalize s.bJ blk (aI d) l TL L = v at *
 obtain ⟨w1, hw1, h0, h00, H1, B1, b2, b3⟩ := jQ h [100, 114, 111, 112]
 obtain ⟨⟨k0, k1, k2⟩, hix⟩ := h0.tok ht
 obtain ⟨c, cf⟩ := aA h0.at'
 obtain ⟨⟨oJ, vI, vH⟩, _⟩ := h00.tok ht
 obtain ⟨c0, vU⟩ := aA h00.at'
 rw [hop] at k0 oJ
 go_enter Tryz.func110, Tryz.ntmps110
 go_wp2_with fail
 go_region
 rw [hw1.out]
 clear hw1
 clear k0 k1 k2 oJ vI vH c cf c0 vU hix h00 h0
 obtain ⟨d1, df1⟩ := aA H1.at'
 obtain ⟨d3, df3⟩ := aA b3
 have H2 := H1.set 1 (.int .i64 (s.k + 1 : Nat)) s.aG rfl
 have B2 := B1.own 1 (.int .i64 (s.k + 1 : Nat))
 have b22 := (zS w1 ⟨rb, 1, none⟩ (.int .i64 (s.k + 1 : Nat)) w.heap.size (by show w.heap.size ≠ rb; omega)).trans b2
 have b32 := (zS w1 ⟨rb, 1, none⟩ (.int .i64 (s.k + 1 : Nat)) (w.heap.size + 1) (by show w.heap.size + 1 ≠ rb; omega)).trans b3
 have HM := bQ H2 (aT hka) [59]
 have hv := HV.out
 subst hv
 clear HV
 generalize s.aG.need (cur TL s.aG) [59] = sF at *
 go_wp2_with fail
 refine HM.mono ?_
 rintro e wF ⟨rfl, HF, CF⟩
 clear HM
 have BF := B2.trans CF
 have bR := CF.at' b22 (by omega)
 have bX := CF.at' b32 (by omega)
 obtain ⟨cR, cfR⟩ := aA bR
 obtain ⟨cX, cfX⟩ := aA bX
 go_wp2_with fail
 exact aS Tryz.results110 w.heap.size _ _ _ rfl rfl (cO _ _ _ _ _ _ _ _ _ _ _ _ _ _ _ _ _ _ bR rfl) Tryz.underlying160 rfl (by kernel_rfl) ⟨aF, aF, rfl, dI.nil _ _ _, dI.nil _ _ _, Rd.cO HF (by omega) (by omega), But.cO BF zR⟩
theorem aD0 {d : Nat} (blk : Rs -> RT d × Rs) (h : Rd w rb pb tb lo cap l TL s) (_hp : Pl w rb pb lo la lc L fr Rv Hv Mv ms) (hc : Ch l TL) (hk : s.k < TL.length) (hop : bD (cur TL s) = [98, 117, 109, 112]) :
  Calls Tryz.prog 110 #[ptr rb] w (RoS w rb pb tb lo cap l TL d (s.bJ blk (aI d) l TL L)) := by
 have hrb : rb < w.heap.size := (zL h.at')
 have htb : tb < w.heap.size := (h.own.lt tb rfl).2
 have hlen := h.len
 have ht := aT hk
 have hka := hc.aG hk hop (by decide) (by decide)
 have HV : Hid (s.bJ blk (aI d) l TL L = ((rt0 [98, 117, 109, 112], aI d, aI d), s.aG.need (cur TL s.aG) [59])) := by
  show _ = _
  unfold Rs.bJ
  rw [hop]
  rfl
 generalize s.bJ blk (aI d) l TL L = v at *
 obtain ⟨w1, hw1, h0, h00, H1, B1, b2, b3⟩ := jQ h [98, 117, 109, 112]
 obtain ⟨⟨k0, k1, k2⟩, hix⟩ := h0.tok ht
 obtain ⟨c, cf⟩ := aA h0.at'
 obtain ⟨⟨oJ, vI, vH⟩, _⟩ := h00.tok ht
 obtain ⟨c0, vU⟩ := aA h00.at'
 rw [hop] at k0 oJ
 go_enter Tryz.func110, Tryz.ntmps110
 go_wp2_with fail
 go_region
 rw [hw1.out]
 clear hw1
 clear k0 k1 k2 oJ vI vH c cf c0 vU hix h00 h0
 obtain ⟨d1, df1⟩ := aA H1.at'
 obtain ⟨d3, df3⟩ := aA b3
 have H2 := H1.set 1 (.int .i64 (s.k + 1 : Nat)) s.aG rfl
 have B2 := B1.own 1 (.int .i64 (s.k + 1 : Nat))
 have b22 := (zS w1 ⟨rb, 1, none⟩ (.int .i64 (s.k + 1 : Nat)) w.heap.size (by show w.heap.size ≠ rb; omega)).trans b2
 have b32 := (zS w1 ⟨rb, 1, none⟩ (.int .i64 (s.k + 1 : Nat)) (w.heap.size + 1) (by show w.heap.size + 1 ≠ rb; omega)).trans b3
 have HM := bQ H2 (aT hka) [59]
 have hv := HV.out
 subst hv
 clear HV
 generalize s.aG.need (cur TL s.aG) [59] = sF at *
 go_wp2_with fail
 refine HM.mono ?_
 rintro e wF ⟨rfl, HF, CF⟩
 clear HM
 have BF := B2.trans CF
 have bR := CF.at' b22 (by omega)
 have bX := CF.at' b32 (by omega)
 obtain ⟨cR, cfR⟩ := aA bR
 obtain ⟨cX, cfX⟩ := aA bX
 go_wp2_with fail
 exact aS Tryz.results110 w.heap.size _ _ _ rfl rfl (cO _ _ _ _ _ _ _ _ _ _ _ _ _ _ _ _ _ _ bR rfl) Tryz.underlying160 rfl (by kernel_rfl) ⟨aF, aF, rfl, dI.nil _ _ _, dI.nil _ _ _, Rd.cO HF (by omega) (by omega), But.cO BF zR⟩
theorem aBw {d : Nat} (blk : Rs -> RT d × Rs) (h : Rd w rb pb tb lo cap l TL s) (hp : Pl w rb pb lo la lc L fr Rv Hv Mv ms) (hc : Ch l TL) (hk : s.k < TL.length) (hop : bD (cur TL s) = [101, 118, 105, 99, 116]) :
  Calls Tryz.prog 110 #[ptr rb] w (RoS w rb pb tb lo cap l TL d (s.bJ blk (aI d) l TL L)) := by
 have hrb : rb < w.heap.size := (zL h.at')
 have htb : tb < w.heap.size := (h.own.lt tb rfl).2
 have hlen := h.len
 have ht := aT hk
 have hka := hc.aG hk hop (by decide) (by decide)
 have HV : Hid (s.bJ blk (aI d) l TL L = ((⟨[101, 118, 105, 99, 116], (s.aG.bG l (cur TL s.aG) L false).1, 0, false, N9, false⟩, aI d, aI d), (s.aG.bG l (cur TL s.aG) L false).2.need (cur TL (s.aG.bG l (cur TL s.aG) L false).2) [59])) := by
  show _ = _
  unfold Rs.bJ
  rw [hop]
  rfl
 generalize s.bJ blk (aI d) l TL L = v at *
 obtain ⟨w1, hw1, h0, h00, H1, B1, b2, b3⟩ := jQ h [101, 118, 105, 99, 116]
 obtain ⟨⟨k0, k1, k2⟩, hix⟩ := h0.tok ht
 obtain ⟨c, cf⟩ := aA h0.at'
 obtain ⟨⟨oJ, vI, vH⟩, _⟩ := h00.tok ht
 obtain ⟨c0, vU⟩ := aA h00.at'
 rw [hop] at k0 oJ
 go_enter Tryz.func110, Tryz.ntmps110
 go_wp2_with fail
 go_region
 rw [hw1.out]
 clear hw1
 clear k0 k1 k2 oJ vI vH c cf c0 vU hix h00 h0
 obtain ⟨d1, df1⟩ := aA H1.at'
 obtain ⟨d3, df3⟩ := aA b3
 have H2 := H1.set 1 (.int .i64 (s.k + 1 : Nat)) s.aG rfl
 have B2 := B1.own 1 (.int .i64 (s.k + 1 : Nat))
 have b22 := (zS w1 ⟨rb, 1, none⟩ (.int .i64 (s.k + 1 : Nat)) w.heap.size (by show w.heap.size ≠ rb; omega)).trans b2
 have b32 := (zS w1 ⟨rb, 1, none⟩ (.int .i64 (s.k + 1 : Nat)) (w.heap.size + 1) (by show w.heap.size + 1 ≠ rb; omega)).trans b3
 have HN := eP H2 (hp.but B2) (aT hka) false
 have kq4 := oP (L := L) hc hka false
 generalize s.aG.bG l (cur TL s.aG) L false = q4 at *
 go_wp2_with fail
 refine HN.mono ?_
 rintro e w4 ⟨rfl, N4, C4⟩
 clear HN
 have e24 := C4.at' b22 (by omega)
 have e34 := C4.at' b32 (by omega)
 obtain ⟨g4, gf4⟩ := aA e34
 have H4 := N4.other (w.heap.size + 1) 1 (.int .i64 q4.1) (by omega) (by omega)
 have B4 := (B2.trans C4).new (w.heap.size + 1) 1 (.int .i64 q4.1) (by omega)
 have yS := (zS w4 ⟨w.heap.size + 1, 1, none⟩ (.int .i64 q4.1) w.heap.size (by show w.heap.size ≠ w.heap.size + 1; omega)).trans e24
 have xC : (w4.setCell ⟨w.heap.size + 1, 1, none⟩ (.int .i64 q4.1)).heap[w.heap.size + 1]? = some (.cells #[S [101, 118, 105, 99, 116], .int .i64 q4.1, .int .i64 0, .bool false, S [], .int .i64 0, S [], .int .i64 0, S [], .int .i64 0, .int .i64 0, aF, aF, .bool false] 160) := (zC _ _ _ _ _ _ e34).trans (by simp)
 have HM := bQ H4 (aT kq4) [59]
 have hv := HV.out
 subst hv
 clear HV
 generalize q4.2.need (cur TL q4.2) [59] = sF at *
 go_wp2_with fail
 refine HM.mono ?_
 rintro e wF ⟨rfl, HF, CF⟩
 clear HM
 have BF := B4.trans CF
 have bR := CF.at' yS (by omega)
 have bX := CF.at' xC (by omega)
 obtain ⟨cR, cfR⟩ := aA bR
 obtain ⟨cX, cfX⟩ := aA bX
 go_wp2_with fail
 exact aS Tryz.results110 w.heap.size _ _ _ rfl rfl (cO _ _ _ _ _ _ _ _ _ _ _ _ _ _ _ _ _ _ bR rfl) Tryz.underlying160 rfl (by kernel_rfl) ⟨aF, aF, rfl, dI.nil _ _ _, dI.nil _ _ _, Rd.cO HF (by omega) (by omega), But.cO BF zR⟩
theorem aDz {d : Nat} (blk : Rs -> RT d × Rs) (h : Rd w rb pb tb lo cap l TL s) (hp : Pl w rb pb lo la lc L fr Rv Hv Mv ms) (hc : Ch l TL) (hk : s.k < TL.length) (hop : bD (cur TL s) = [99, 111, 111, 108]) :
  Calls Tryz.prog 110 #[ptr rb] w (RoS w rb pb tb lo cap l TL d (s.bJ blk (aI d) l TL L)) := by
 have hrb : rb < w.heap.size := (zL h.at')
 have htb : tb < w.heap.size := (h.own.lt tb rfl).2
 have hlen := h.len
 have ht := aT hk
 have hka := hc.aG hk hop (by decide) (by decide)
 have HV : Hid (s.bJ blk (aI d) l TL L = ((⟨[99, 111, 111, 108], (s.aG.bG l (cur TL s.aG) L false).1, 0, false, N9, false⟩, aI d, aI d), (s.aG.bG l (cur TL s.aG) L false).2.need (cur TL (s.aG.bG l (cur TL s.aG) L false).2) [59])) := by
  show _ = _
  unfold Rs.bJ
  rw [hop]
  rfl
 generalize s.bJ blk (aI d) l TL L = v at *
 obtain ⟨w1, hw1, h0, h00, H1, B1, b2, b3⟩ := jQ h [99, 111, 111, 108]
 obtain ⟨⟨k0, k1, k2⟩, hix⟩ := h0.tok ht
 obtain ⟨c, cf⟩ := aA h0.at'
 obtain ⟨⟨oJ, vI, vH⟩, _⟩ := h00.tok ht
 obtain ⟨c0, vU⟩ := aA h00.at'
 rw [hop] at k0 oJ
 go_enter Tryz.func110, Tryz.ntmps110
 go_wp2_with fail
 go_region
 rw [hw1.out]
 clear hw1
 clear k0 k1 k2 oJ vI vH c cf c0 vU hix h00 h0
 obtain ⟨d1, df1⟩ := aA H1.at'
 obtain ⟨d3, df3⟩ := aA b3
 have H2 := H1.set 1 (.int .i64 (s.k + 1 : Nat)) s.aG rfl
 have B2 := B1.own 1 (.int .i64 (s.k + 1 : Nat))
 have b22 := (zS w1 ⟨rb, 1, none⟩ (.int .i64 (s.k + 1 : Nat)) w.heap.size (by show w.heap.size ≠ rb; omega)).trans b2
 have b32 := (zS w1 ⟨rb, 1, none⟩ (.int .i64 (s.k + 1 : Nat)) (w.heap.size + 1) (by show w.heap.size + 1 ≠ rb; omega)).trans b3
 have HN := eP H2 (hp.but B2) (aT hka) false
 have kq4 := oP (L := L) hc hka false
 generalize s.aG.bG l (cur TL s.aG) L false = q4 at *
 go_wp2_with fail
 refine HN.mono ?_
 rintro e w4 ⟨rfl, N4, C4⟩
 clear HN
 have e24 := C4.at' b22 (by omega)
 have e34 := C4.at' b32 (by omega)
 obtain ⟨g4, gf4⟩ := aA e34
 have H4 := N4.other (w.heap.size + 1) 1 (.int .i64 q4.1) (by omega) (by omega)
 have B4 := (B2.trans C4).new (w.heap.size + 1) 1 (.int .i64 q4.1) (by omega)
 have yS := (zS w4 ⟨w.heap.size + 1, 1, none⟩ (.int .i64 q4.1) w.heap.size (by show w.heap.size ≠ w.heap.size + 1; omega)).trans e24
 have xC : (w4.setCell ⟨w.heap.size + 1, 1, none⟩ (.int .i64 q4.1)).heap[w.heap.size + 1]? = some (.cells #[S [99, 111, 111, 108], .int .i64 q4.1, .int .i64 0, .bool false, S [], .int .i64 0, S [], .int .i64 0, S [], .int .i64 0, .int .i64 0, aF, aF, .bool false] 160) := (zC _ _ _ _ _ _ e34).trans (by simp)
 have HM := bQ H4 (aT kq4) [59]
 have hv := HV.out
 subst hv
 clear HV
 generalize q4.2.need (cur TL q4.2) [59] = sF at *
 go_wp2_with fail
 refine HM.mono ?_
 rintro e wF ⟨rfl, HF, CF⟩
 clear HM
 have BF := B4.trans CF
 have bR := CF.at' yS (by omega)
 have bX := CF.at' xC (by omega)
 obtain ⟨cR, cfR⟩ := aA bR
 obtain ⟨cX, cfX⟩ := aA bX
 go_wp2_with fail
 exact aS Tryz.results110 w.heap.size _ _ _ rfl rfl (cO _ _ _ _ _ _ _ _ _ _ _ _ _ _ _ _ _ _ bR rfl) Tryz.underlying160 rfl (by kernel_rfl) ⟨aF, aF, rfl, dI.nil _ _ _, dI.nil _ _ _, Rd.cO HF (by omega) (by omega), But.cO BF zR⟩
theorem aHr {d : Nat} (blk : Rs -> RT d × Rs) (h : Rd w rb pb tb lo cap l TL s) (hp : Pl w rb pb lo la lc L fr Rv Hv Mv ms) (hc : Ch l TL) (hk : s.k < TL.length) (hop : bD (cur TL s) = [105, 110, 99]) :
  Calls Tryz.prog 110 #[ptr rb] w (RoS w rb pb tb lo cap l TL d (s.bJ blk (aI d) l TL L)) := by
 have hrb : rb < w.heap.size := (zL h.at')
 have htb : tb < w.heap.size := (h.own.lt tb rfl).2
 have hlen := h.len
 have ht := aT hk
 have hka := hc.aG hk hop (by decide) (by decide)
 have HV : Hid (s.bJ blk (aI d) l TL L = ((⟨[105, 110, 99], (s.aG.bG l (cur TL s.aG) L true).1, 0, false, N9, false⟩, aI d, aI d), (s.aG.bG l (cur TL s.aG) L true).2.need (cur TL (s.aG.bG l (cur TL s.aG) L true).2) [59])) := by
  show _ = _
  unfold Rs.bJ
  rw [hop]
  rfl
 generalize s.bJ blk (aI d) l TL L = v at *
 obtain ⟨w1, hw1, h0, h00, H1, B1, b2, b3⟩ := jQ h [105, 110, 99]
 obtain ⟨⟨k0, k1, k2⟩, hix⟩ := h0.tok ht
 obtain ⟨c, cf⟩ := aA h0.at'
 obtain ⟨⟨oJ, vI, vH⟩, _⟩ := h00.tok ht
 obtain ⟨c0, vU⟩ := aA h00.at'
 rw [hop] at k0 oJ
 go_enter Tryz.func110, Tryz.ntmps110
 go_wp2_with fail
 go_region
 rw [hw1.out]
 clear hw1
 clear k0 k1 k2 oJ vI vH c cf c0 vU hix h00 h0
 obtain ⟨d1, df1⟩ := aA H1.at'
 obtain ⟨d3, df3⟩ := aA b3
 have H2 := H1.set 1 (.int .i64 (s.k + 1 : Nat)) s.aG rfl
 have B2 := B1.own 1 (.int .i64 (s.k + 1 : Nat))
 have b22 := (zS w1 ⟨rb, 1, none⟩ (.int .i64 (s.k + 1 : Nat)) w.heap.size (by show w.heap.size ≠ rb; omega)).trans b2
 have b32 := (zS w1 ⟨rb, 1, none⟩ (.int .i64 (s.k + 1 : Nat)) (w.heap.size + 1) (by show w.heap.size + 1 ≠ rb; omega)).trans b3
 have HN := eP H2 (hp.but B2) (aT hka) true
 have kq4 := oP (L := L) hc hka true
 generalize s.aG.bG l (cur TL s.aG) L true = q4 at *
 go_wp2_with fail
 refine HN.mono ?_
 rintro e w4 ⟨rfl, N4, C4⟩
 clear HN
 have e24 := C4.at' b22 (by omega)
 have e34 := C4.at' b32 (by omega)
 obtain ⟨g4, gf4⟩ := aA e34
 have H4 := N4.other (w.heap.size + 1) 1 (.int .i64 q4.1) (by omega) (by omega)
 have B4 := (B2.trans C4).new (w.heap.size + 1) 1 (.int .i64 q4.1) (by omega)
 have yS := (zS w4 ⟨w.heap.size + 1, 1, none⟩ (.int .i64 q4.1) w.heap.size (by show w.heap.size ≠ w.heap.size + 1; omega)).trans e24
 have xC : (w4.setCell ⟨w.heap.size + 1, 1, none⟩ (.int .i64 q4.1)).heap[w.heap.size + 1]? = some (.cells #[S [105, 110, 99], .int .i64 q4.1, .int .i64 0, .bool false, S [], .int .i64 0, S [], .int .i64 0, S [], .int .i64 0, .int .i64 0, aF, aF, .bool false] 160) := (zC _ _ _ _ _ _ e34).trans (by simp)
 have HM := bQ H4 (aT kq4) [59]
 have hv := HV.out
 subst hv
 clear HV
 generalize q4.2.need (cur TL q4.2) [59] = sF at *
 go_wp2_with fail
 refine HM.mono ?_
 rintro e wF ⟨rfl, HF, CF⟩
 clear HM
 have BF := B4.trans CF
 have bR := CF.at' yS (by omega)
 have bX := CF.at' xC (by omega)
 obtain ⟨cR, cfR⟩ := aA bR
 obtain ⟨cX, cfX⟩ := aA bX
 go_wp2_with fail
 exact aS Tryz.results110 w.heap.size _ _ _ rfl rfl (cO _ _ _ _ _ _ _ _ _ _ _ _ _ _ _ _ _ _ bR rfl) Tryz.underlying160 rfl (by kernel_rfl) ⟨aF, aF, rfl, dI.nil _ _ _, dI.nil _ _ _, Rd.cO HF (by omega) (by omega), But.cO BF zR⟩
theorem aHs {d : Nat} (blk : Rs -> RT d × Rs) (h : Rd w rb pb tb lo cap l TL s) (hp : Pl w rb pb lo la lc L fr Rv Hv Mv ms) (hc : Ch l TL) (hk : s.k < TL.length) (hop : bD (cur TL s) = [100, 101, 99]) :
  Calls Tryz.prog 110 #[ptr rb] w (RoS w rb pb tb lo cap l TL d (s.bJ blk (aI d) l TL L)) := by
 have hrb : rb < w.heap.size := (zL h.at')
 have htb : tb < w.heap.size := (h.own.lt tb rfl).2
 have hlen := h.len
 have ht := aT hk
 have hka := hc.aG hk hop (by decide) (by decide)
 have HV : Hid (s.bJ blk (aI d) l TL L = ((⟨[100, 101, 99], (s.aG.bG l (cur TL s.aG) L true).1, 0, false, N9, false⟩, aI d, aI d), (s.aG.bG l (cur TL s.aG) L true).2.need (cur TL (s.aG.bG l (cur TL s.aG) L true).2) [59])) := by
  show _ = _
  unfold Rs.bJ
  rw [hop]
  rfl
 generalize s.bJ blk (aI d) l TL L = v at *
 obtain ⟨w1, hw1, h0, h00, H1, B1, b2, b3⟩ := jQ h [100, 101, 99]
 obtain ⟨⟨k0, k1, k2⟩, hix⟩ := h0.tok ht
 obtain ⟨c, cf⟩ := aA h0.at'
 obtain ⟨⟨oJ, vI, vH⟩, _⟩ := h00.tok ht
 obtain ⟨c0, vU⟩ := aA h00.at'
 rw [hop] at k0 oJ
 go_enter Tryz.func110, Tryz.ntmps110
 go_wp2_with fail
 go_region
 rw [hw1.out]
 clear hw1
 clear k0 k1 k2 oJ vI vH c cf c0 vU hix h00 h0
 obtain ⟨d1, df1⟩ := aA H1.at'
 obtain ⟨d3, df3⟩ := aA b3
 have H2 := H1.set 1 (.int .i64 (s.k + 1 : Nat)) s.aG rfl
 have B2 := B1.own 1 (.int .i64 (s.k + 1 : Nat))
 have b22 := (zS w1 ⟨rb, 1, none⟩ (.int .i64 (s.k + 1 : Nat)) w.heap.size (by show w.heap.size ≠ rb; omega)).trans b2
 have b32 := (zS w1 ⟨rb, 1, none⟩ (.int .i64 (s.k + 1 : Nat)) (w.heap.size + 1) (by show w.heap.size + 1 ≠ rb; omega)).trans b3
 have HN := eP H2 (hp.but B2) (aT hka) true
 have kq4 := oP (L := L) hc hka true
 generalize s.aG.bG l (cur TL s.aG) L true = q4 at *
 go_wp2_with fail
 refine HN.mono ?_
 rintro e w4 ⟨rfl, N4, C4⟩
 clear HN
 have e24 := C4.at' b22 (by omega)
 have e34 := C4.at' b32 (by omega)
 obtain ⟨g4, gf4⟩ := aA e34
 have H4 := N4.other (w.heap.size + 1) 1 (.int .i64 q4.1) (by omega) (by omega)
 have B4 := (B2.trans C4).new (w.heap.size + 1) 1 (.int .i64 q4.1) (by omega)
 have yS := (zS w4 ⟨w.heap.size + 1, 1, none⟩ (.int .i64 q4.1) w.heap.size (by show w.heap.size ≠ w.heap.size + 1; omega)).trans e24
 have xC : (w4.setCell ⟨w.heap.size + 1, 1, none⟩ (.int .i64 q4.1)).heap[w.heap.size + 1]? = some (.cells #[S [100, 101, 99], .int .i64 q4.1, .int .i64 0, .bool false, S [], .int .i64 0, S [], .int .i64 0, S [], .int .i64 0, .int .i64 0, aF, aF, .bool false] 160) := (zC _ _ _ _ _ _ e34).trans (by simp)
 have HM := bQ H4 (aT kq4) [59]
 have hv := HV.out
 subst hv
 clear HV
 generalize q4.2.need (cur TL q4.2) [59] = sF at *
 go_wp2_with fail
 refine HM.mono ?_
 rintro e wF ⟨rfl, HF, CF⟩
 clear HM
 have BF := B4.trans CF
 have bR := CF.at' yS (by omega)
 have bX := CF.at' xC (by omega)
 obtain ⟨cR, cfR⟩ := aA bR
 obtain ⟨cX, cfX⟩ := aA bX
 go_wp2_with fail
 exact aS Tryz.results110 w.heap.size _ _ _ rfl rfl (cO _ _ _ _ _ _ _ _ _ _ _ _ _ _ _ _ _ _ bR rfl) Tryz.underlying160 rfl (by kernel_rfl) ⟨aF, aF, rfl, dI.nil _ _ _, dI.nil _ _ _, Rd.cO HF (by omega) (by omega), But.cO BF zR⟩
end
section
variable {w : World} {rb pb tb lo cap : Nat} {l : List UInt8} {TL : List Tok} {s : Rs}
variable {la : Option Addr} {lc : Nat} {L : List DL} {fr : Nat} {Rv Hv Mv : Value} {ms : Bool}
theorem aHq {d : Nat} (blk : Rs -> RT d × Rs) (h : Rd w rb pb tb lo cap l TL s) (hp : Pl w rb pb lo la lc L fr Rv Hv Mv ms) (hc : Ch l TL) (hk : s.k < TL.length) (hop : bD (cur TL s) = [112, 117, 116]) :
  Calls Tryz.prog 110 #[ptr rb] w (RoS w rb pb tb lo cap l TL d (s.bJ blk (aI d) l TL L)) := by
 have hrb : rb < w.heap.size := (zL h.at')
 have htb : tb < w.heap.size := (h.own.lt tb rfl).2
 have hlen := h.len
 have ht := aT hk
 have hka := hc.aG hk hop (by decide) (by decide)
 have HV : Hid (s.bJ blk (aI d) l TL L = ((⟨[112, 117, 116], (s.aG.bG l (cur TL s.aG) L false).1, 0, decide ((s.aG.bG l (cur TL s.aG) L false).2.bad = 0 /\ bD (cur TL (s.aG.bG l (cur TL s.aG) L false).2) = [116, 97, 105, 108]), N9, false⟩, aI d, aI d), (if decide ((s.aG.bG l (cur TL s.aG) L false).2.bad = 0 /\ bD (cur TL (s.aG.bG l (cur TL s.aG) L false).2) = [116, 97, 105, 108]) = true then (s.aG.bG l (cur TL s.aG) L false).2.aG else (s.aG.bG l (cur TL s.aG) L false).2).need (cur TL (if decide ((s.aG.bG l (cur TL s.aG) L false).2.bad = 0 /\ bD (cur TL (s.aG.bG l (cur TL s.aG) L false).2) = [116, 97, 105, 108]) = true then (s.aG.bG l (cur TL s.aG) L false).2.aG else (s.aG.bG l (cur TL s.aG) L false).2)) [59])) := by
  show _ = _
  unfold Rs.bJ
  rw [hop]
  rfl
 generalize s.bJ blk (aI d) l TL L = v at *
 obtain ⟨w1, hw1, h0, h00, H1, B1, b2, b3⟩ := jQ h [112, 117, 116]
 obtain ⟨⟨k0, k1, k2⟩, hix⟩ := h0.tok ht
 obtain ⟨c, cf⟩ := aA h0.at'
 obtain ⟨⟨oJ, vI, vH⟩, _⟩ := h00.tok ht
 obtain ⟨c0, vU⟩ := aA h00.at'
 rw [hop] at k0 oJ
 go_enter Tryz.func110, Tryz.ntmps110
 go_wp2_with fail
 go_region
 rw [hw1.out]
 clear hw1
 clear k0 k1 k2 oJ vI vH c cf c0 vU hix h00 h0
 obtain ⟨d1, df1⟩ := aA H1.at'
 obtain ⟨d3, df3⟩ := aA b3
 have H2 := H1.set 1 (.int .i64 (s.k + 1 : Nat)) s.aG rfl
 have B2 := B1.own 1 (.int .i64 (s.k + 1 : Nat))
 have b22 := (zS w1 ⟨rb, 1, none⟩ (.int .i64 (s.k + 1 : Nat)) w.heap.size (by show w.heap.size ≠ rb; omega)).trans b2
 have b32 := (zS w1 ⟨rb, 1, none⟩ (.int .i64 (s.k + 1 : Nat)) (w.heap.size + 1) (by show w.heap.size + 1 ≠ rb; omega)).trans b3
 have HN := eP H2 (hp.but B2) (aT hka) false
 have kq4 := oP (L := L) hc hka false
 generalize s.aG.bG l (cur TL s.aG) L false = q4 at *
 go_wp2_with fail
 refine HN.mono ?_
 rintro e w4 ⟨rfl, N4, C4⟩
 clear HN
 have e24 := C4.at' b22 (by omega)
 have e34 := C4.at' b32 (by omega)
 obtain ⟨g4, gf4⟩ := aA e34
 have H4 := N4.other (w.heap.size + 1) 1 (.int .i64 q4.1) (by omega) (by omega)
 have B4 := (B2.trans C4).new (w.heap.size + 1) 1 (.int .i64 q4.1) (by omega)
 have yS := (zS w4 ⟨w.heap.size + 1, 1, none⟩ (.int .i64 q4.1) w.heap.size (by show w.heap.size ≠ w.heap.size + 1; omega)).trans e24
 have xC : (w4.setCell ⟨w.heap.size + 1, 1, none⟩ (.int .i64 q4.1)).heap[w.heap.size + 1]? = some (.cells #[S [112, 117, 116], .int .i64 q4.1, .int .i64 0, .bool false, S [], .int .i64 0, S [], .int .i64 0, S [], .int .i64 0, .int .i64 0, aF, aF, .bool false] 160) := (zC _ _ _ _ _ _ e34).trans (by simp)
 go_wp2_with fail
 by_cases ct : q4.2.bad = 0 /\ bD (cur TL q4.2) = [116, 97, 105, 108]
 ·have HV : Hid (v = ((⟨[112, 117, 116], q4.1, 0, true, N9, false⟩, aI d, aI d), q4.2.aG.need (cur TL q4.2.aG) [59])) := by
   show _ = _
   rw [HV.out, decide_eq_true ct]
   rfl
  refine (lG H4 kq4 [116, 97, 105, 108] ct).mono ?_
  rintro e w5 ⟨rfl, N5, C5⟩
  have e25 := C5.at' yS (by omega)
  have e35 := C5.at' xC (by omega)
  obtain ⟨g5, gf5⟩ := aA e35
  have H5 := N5.other (w.heap.size + 1) 3 (.bool true) (by omega) (by omega)
  have B5 := (B4.trans C5).new (w.heap.size + 1) 3 (.bool true) (by omega)
  have b25 := (zS w5 ⟨w.heap.size + 1, 3, none⟩ (.bool true) w.heap.size (by show w.heap.size ≠ w.heap.size + 1; omega)).trans e25
  have b35 : (w5.setCell ⟨w.heap.size + 1, 3, none⟩ (.bool true)).heap[w.heap.size + 1]? = some (.cells #[S [112, 117, 116], .int .i64 q4.1, .int .i64 0, .bool true, S [], .int .i64 0, S [], .int .i64 0, S [], .int .i64 0, .int .i64 0, aF, aF, .bool false] 160) := (zC _ _ _ _ _ _ e35).trans (by simp)
  have kq5 := hc.aG kq4 ct.2 (by decide) (by decide)
  have HM := bQ H5 (aT kq5) [59]
  have hv := HV.out
  subst hv
  clear HV
  generalize q4.2.aG.need (cur TL q4.2.aG) [59] = sF at *
  go_wp2_with fail
  refine HM.mono ?_
  rintro e wF ⟨rfl, HF, CF⟩
  clear HM
  have BF := B5.trans CF
  have bR := CF.at' b25 (by omega)
  have bX := CF.at' b35 (by omega)
  obtain ⟨cR, cfR⟩ := aA bR
  obtain ⟨cX, cfX⟩ := aA bX
  go_wp2_with fail
  exact aS Tryz.results110 w.heap.size _ _ _ rfl rfl (cO _ _ _ _ _ _ _ _ _ _ _ _ _ _ _ _ _ _ bR rfl) Tryz.underlying160 rfl (by kernel_rfl) ⟨aF, aF, rfl, dI.nil _ _ _, dI.nil _ _ _, Rd.cO HF (by omega) (by omega), But.cO BF zR⟩
 ·have HV : Hid (v = ((⟨[112, 117, 116], q4.1, 0, false, N9, false⟩, aI d, aI d), q4.2.need (cur TL q4.2) [59])) := by
   show _ = _
   rw [HV.out, decide_eq_false ct]
   rfl
  refine (lH H4 kq4 [116, 97, 105, 108] ct).mono ?_
  rintro e w5 ⟨rfl, N5, C5⟩
  have e25 := C5.at' yS (by omega)
  have e35 := C5.at' xC (by omega)
  obtain ⟨g5, gf5⟩ := aA e35
  have H5 := N5.other (w.heap.size + 1) 3 (.bool false) (by omega) (by omega)
  have B5 := (B4.trans C5).new (w.heap.size + 1) 3 (.bool false) (by omega)
  have b25 := (zS w5 ⟨w.heap.size + 1, 3, none⟩ (.bool false) w.heap.size (by show w.heap.size ≠ w.heap.size + 1; omega)).trans e25
  have b35 : (w5.setCell ⟨w.heap.size + 1, 3, none⟩ (.bool false)).heap[w.heap.size + 1]? = some (.cells #[S [112, 117, 116], .int .i64 q4.1, .int .i64 0, .bool false, S [], .int .i64 0, S [], .int .i64 0, S [], .int .i64 0, .int .i64 0, aF, aF, .bool false] 160) := (zC _ _ _ _ _ _ e35).trans (by simp)
  have HM := bQ H5 (aT kq4) [59]
  have hv := HV.out
  subst hv
  clear HV
  generalize q4.2.need (cur TL q4.2) [59] = sF at *
  go_wp2_with fail
  refine HM.mono ?_
  rintro e wF ⟨rfl, HF, CF⟩
  clear HM
  have BF := B5.trans CF
  have bR := CF.at' b25 (by omega)
  have bX := CF.at' b35 (by omega)
  obtain ⟨cR, cfR⟩ := aA bR
  obtain ⟨cX, cfX⟩ := aA bX
  go_wp2_with fail
  exact aS Tryz.results110 w.heap.size _ _ _ rfl rfl (cO _ _ _ _ _ _ _ _ _ _ _ _ _ _ _ _ _ _ bR rfl) Tryz.underlying160 rfl (by kernel_rfl) ⟨aF, aF, rfl, dI.nil _ _ _, dI.nil _ _ _, Rd.cO HF (by omega) (by omega), But.cO BF zR⟩
theorem aBu {d : Nat} (blk : Rs -> RT d × Rs) (h : Rd w rb pb tb lo cap l TL s) (hp : Pl w rb pb lo la lc L fr Rv Hv Mv ms) (hc : Ch l TL) (hk : s.k < TL.length) (hop : bD (cur TL s) = [115, 104, 105, 102, 116]) :
  Calls Tryz.prog 110 #[ptr rb] w (RoS w rb pb tb lo cap l TL d (s.bJ blk (aI d) l TL L)) := by
 have hrb : rb < w.heap.size := (zL h.at')
 have htb : tb < w.heap.size := (h.own.lt tb rfl).2
 have hlen := h.len
 have ht := aT hk
 have hka := hc.aG hk hop (by decide) (by decide)
 have HV : Hid (s.bJ blk (aI d) l TL L = ((⟨[115, 104, 105, 102, 116], (s.aG.bG l (cur TL s.aG) L false).1, ((s.aG.bG l (cur TL s.aG) L false).2.bG l (cur TL (s.aG.bG l (cur TL s.aG) L false).2) L false).1, decide (((s.aG.bG l (cur TL s.aG) L false).2.bG l (cur TL (s.aG.bG l (cur TL s.aG) L false).2) L false).2.bad = 0 /\ bD (cur TL ((s.aG.bG l (cur TL s.aG) L false).2.bG l (cur TL (s.aG.bG l (cur TL s.aG) L false).2) L false).2) = [116, 97, 105, 108]), N9, false⟩, aI d, aI d), (if decide (((s.aG.bG l (cur TL s.aG) L false).2.bG l (cur TL (s.aG.bG l (cur TL s.aG) L false).2) L false).2.bad = 0 /\ bD (cur TL ((s.aG.bG l (cur TL s.aG) L false).2.bG l (cur TL (s.aG.bG l (cur TL s.aG) L false).2) L false).2) = [116, 97, 105, 108]) = true then ((s.aG.bG l (cur TL s.aG) L false).2.bG l (cur TL (s.aG.bG l (cur TL s.aG) L false).2) L false).2.aG else ((s.aG.bG l (cur TL s.aG) L false).2.bG l (cur TL (s.aG.bG l (cur TL s.aG) L false).2) L false).2).need (cur TL (if decide (((s.aG.bG l (cur TL s.aG) L false).2.bG l (cur TL (s.aG.bG l (cur TL s.aG) L false).2) L false).2.bad = 0 /\ bD (cur TL ((s.aG.bG l (cur TL s.aG) L false).2.bG l (cur TL (s.aG.bG l (cur TL s.aG) L false).2) L false).2) = [116, 97, 105, 108]) = true then ((s.aG.bG l (cur TL s.aG) L false).2.bG l (cur TL (s.aG.bG l (cur TL s.aG) L false).2) L false).2.aG else ((s.aG.bG l (cur TL s.aG) L false).2.bG l (cur TL (s.aG.bG l (cur TL s.aG) L false).2) L false).2)) [59])) := by
  show _ = _
  unfold Rs.bJ
  rw [hop]
  rfl
 generalize s.bJ blk (aI d) l TL L = v at *
 obtain ⟨w1, hw1, h0, h00, H1, B1, b2, b3⟩ := jQ h [115, 104, 105, 102, 116]
 obtain ⟨⟨k0, k1, k2⟩, hix⟩ := h0.tok ht
 obtain ⟨c, cf⟩ := aA h0.at'
 obtain ⟨⟨oJ, vI, vH⟩, _⟩ := h00.tok ht
 obtain ⟨c0, vU⟩ := aA h00.at'
 rw [hop] at k0 oJ
 go_enter Tryz.func110, Tryz.ntmps110
 go_wp2_with fail
 go_region
 rw [hw1.out]
 clear hw1
 clear k0 k1 k2 oJ vI vH c cf c0 vU hix h00 h0
 obtain ⟨d1, df1⟩ := aA H1.at'
 obtain ⟨d3, df3⟩ := aA b3
 have H2 := H1.set 1 (.int .i64 (s.k + 1 : Nat)) s.aG rfl
 have B2 := B1.own 1 (.int .i64 (s.k + 1 : Nat))
 have b22 := (zS w1 ⟨rb, 1, none⟩ (.int .i64 (s.k + 1 : Nat)) w.heap.size (by show w.heap.size ≠ rb; omega)).trans b2
 have b32 := (zS w1 ⟨rb, 1, none⟩ (.int .i64 (s.k + 1 : Nat)) (w.heap.size + 1) (by show w.heap.size + 1 ≠ rb; omega)).trans b3
 have HN := eP H2 (hp.but B2) (aT hka) false
 have kq4 := oP (L := L) hc hka false
 generalize s.aG.bG l (cur TL s.aG) L false = q4 at *
 go_wp2_with fail
 refine HN.mono ?_
 rintro e w4 ⟨rfl, N4, C4⟩
 clear HN
 have e24 := C4.at' b22 (by omega)
 have e34 := C4.at' b32 (by omega)
 obtain ⟨g4, gf4⟩ := aA e34
 have H4 := N4.other (w.heap.size + 1) 1 (.int .i64 q4.1) (by omega) (by omega)
 have B4 := (B2.trans C4).new (w.heap.size + 1) 1 (.int .i64 q4.1) (by omega)
 have yS := (zS w4 ⟨w.heap.size + 1, 1, none⟩ (.int .i64 q4.1) w.heap.size (by show w.heap.size ≠ w.heap.size + 1; omega)).trans e24
 have xC : (w4.setCell ⟨w.heap.size + 1, 1, none⟩ (.int .i64 q4.1)).heap[w.heap.size + 1]? = some (.cells #[S [115, 104, 105, 102, 116], .int .i64 q4.1, .int .i64 0, .bool false, S [], .int .i64 0, S [], .int .i64 0, S [], .int .i64 0, .int .i64 0, aF, aF, .bool false] 160) := (zC _ _ _ _ _ _ e34).trans (by simp)
 have HN := eP H4 (hp.but B4) (aT kq4) false
 have kq6 := oP (L := L) hc kq4 false
 generalize q4.2.bG l (cur TL q4.2) L false = q6 at *
 go_wp2_with fail
 refine HN.mono ?_
 rintro e w6 ⟨rfl, N6, C6⟩
 clear HN
 have e26 := C6.at' yS (by omega)
 have e36 := C6.at' xC (by omega)
 obtain ⟨g6, gf6⟩ := aA e36
 have H6 := N6.other (w.heap.size + 1) 2 (.int .i64 q6.1) (by omega) (by omega)
 have B6 := (B4.trans C6).new (w.heap.size + 1) 2 (.int .i64 q6.1) (by omega)
 have O9 := (zS w6 ⟨w.heap.size + 1, 2, none⟩ (.int .i64 q6.1) w.heap.size (by show w.heap.size ≠ w.heap.size + 1; omega)).trans e26
 have b36 : (w6.setCell ⟨w.heap.size + 1, 2, none⟩ (.int .i64 q6.1)).heap[w.heap.size + 1]? = some (.cells #[S [115, 104, 105, 102, 116], .int .i64 q4.1, .int .i64 q6.1, .bool false, S [], .int .i64 0, S [], .int .i64 0, S [], .int .i64 0, .int .i64 0, aF, aF, .bool false] 160) := (zC _ _ _ _ _ _ e36).trans (by simp)
 go_wp2_with fail
 by_cases ct : q6.2.bad = 0 /\ bD (cur TL q6.2) = [116, 97, 105, 108]
 ·have HV : Hid (v = ((⟨[115, 104, 105, 102, 116], q4.1, q6.1, true, N9, false⟩, aI d, aI d), q6.2.aG.need (cur TL q6.2.aG) [59])) := by
   show _ = _
   rw [HV.out, decide_eq_true ct]
   rfl
  refine (lG H6 kq6 [116, 97, 105, 108] ct).mono ?_
  rintro e w5 ⟨rfl, N5, C5⟩
  have e25 := C5.at' O9 (by omega)
  have e35 := C5.at' b36 (by omega)
  obtain ⟨g5, gf5⟩ := aA e35
  have H5 := N5.other (w.heap.size + 1) 3 (.bool true) (by omega) (by omega)
  have B5 := (B6.trans C5).new (w.heap.size + 1) 3 (.bool true) (by omega)
  have b25 := (zS w5 ⟨w.heap.size + 1, 3, none⟩ (.bool true) w.heap.size (by show w.heap.size ≠ w.heap.size + 1; omega)).trans e25
  have b35 : (w5.setCell ⟨w.heap.size + 1, 3, none⟩ (.bool true)).heap[w.heap.size + 1]? = some (.cells #[S [115, 104, 105, 102, 116], .int .i64 q4.1, .int .i64 q6.1, .bool true, S [], .int .i64 0, S [], .int .i64 0, S [], .int .i64 0, .int .i64 0, aF, aF, .bool false] 160) := (zC _ _ _ _ _ _ e35).trans (by simp)
  have kq5 := hc.aG kq6 ct.2 (by decide) (by decide)
  have HM := bQ H5 (aT kq5) [59]
  have hv := HV.out
  subst hv
  clear HV
  generalize q6.2.aG.need (cur TL q6.2.aG) [59] = sF at *
  go_wp2_with fail
  refine HM.mono ?_
  rintro e wF ⟨rfl, HF, CF⟩
  clear HM
  have BF := B5.trans CF
  have bR := CF.at' b25 (by omega)
  have bX := CF.at' b35 (by omega)
  obtain ⟨cR, cfR⟩ := aA bR
  obtain ⟨cX, cfX⟩ := aA bX
  go_wp2_with fail
  exact aS Tryz.results110 w.heap.size _ _ _ rfl rfl (cO _ _ _ _ _ _ _ _ _ _ _ _ _ _ _ _ _ _ bR rfl) Tryz.underlying160 rfl (by kernel_rfl) ⟨aF, aF, rfl, dI.nil _ _ _, dI.nil _ _ _, Rd.cO HF (by omega) (by omega), But.cO BF zR⟩
 ·have HV : Hid (v = ((⟨[115, 104, 105, 102, 116], q4.1, q6.1, false, N9, false⟩, aI d, aI d), q6.2.need (cur TL q6.2) [59])) := by
   show _ = _
   rw [HV.out, decide_eq_false ct]
   rfl
  refine (lH H6 kq6 [116, 97, 105, 108] ct).mono ?_
  rintro e w5 ⟨rfl, N5, C5⟩
  have e25 := C5.at' O9 (by omega)
  have e35 := C5.at' b36 (by omega)
  obtain ⟨g5, gf5⟩ := aA e35
  have H5 := N5.other (w.heap.size + 1) 3 (.bool false) (by omega) (by omega)
  have B5 := (B6.trans C5).new (w.heap.size + 1) 3 (.bool false) (by omega)
  have b25 := (zS w5 ⟨w.heap.size + 1, 3, none⟩ (.bool false) w.heap.size (by show w.heap.size ≠ w.heap.size + 1; omega)).trans e25
  have b35 : (w5.setCell ⟨w.heap.size + 1, 3, none⟩ (.bool false)).heap[w.heap.size + 1]? = some (.cells #[S [115, 104, 105, 102, 116], .int .i64 q4.1, .int .i64 q6.1, .bool false, S [], .int .i64 0, S [], .int .i64 0, S [], .int .i64 0, .int .i64 0, aF, aF, .bool false] 160) := (zC _ _ _ _ _ _ e35).trans (by simp)
  have HM := bQ H5 (aT kq6) [59]
  have hv := HV.out
  subst hv
  clear HV
  generalize q6.2.need (cur TL q6.2) [59] = sF at *
  go_wp2_with fail
  refine HM.mono ?_
  rintro e wF ⟨rfl, HF, CF⟩
  clear HM
  have BF := B5.trans CF
  have bR := CF.at' b25 (by omega)
  have bX := CF.at' b35 (by omega)
  obtain ⟨cR, cfR⟩ := aA bR
  obtain ⟨cX, cfX⟩ := aA bX
  go_wp2_with fail
  exact aS Tryz.results110 w.heap.size _ _ _ rfl rfl (cO _ _ _ _ _ _ _ _ _ _ _ _ _ _ _ _ _ _ bR rfl) Tryz.underlying160 rfl (by kernel_rfl) ⟨aF, aF, rfl, dI.nil _ _ _, dI.nil _ _ _, Rd.cO HF (by omega) (by omega), But.cO BF zR⟩
end
section
variable {w : World} {rb pb tb lo cap : Nat} {l : List UInt8} {TL : List Tok} {s : Rs}
variable {la : Option Addr} {lc : Nat} {L : List DL} {fr : Nat} {Rv Hv Mv : Value} {ms : Bool}
def aLy (rb pb tb lo cap : Nat) (l : List UInt8) (TL : List Tok) (la : Option Addr) (lc : Nat) (L : List DL) (fr : Nat) (Rv Hv Mv : Value) (ms : Bool) (d : Nat) (blk : Rs -> RT d × Rs) : Prop :=
 ∀ (w : World) (s : Rs), Rd w rb pb tb lo cap l TL s -> Pl w rb pb lo la lc L fr Rv Hv Mv ms -> s.k < TL.length -> s.deep + d = 8 -> s.loops <= 2 ->
  Calls Tryz.prog 75 #[ptr rb] w fun e w' => ∃ v, e = .returned v /\ dI d w' (fun g => w.heap.size <= g) v (blk s).1 /\ Rd w' rb pb tb lo cap l TL (blk s).2 /\ But rb w w' /\ (blk s).2.k < TL.length /\ (blk s).2.deep = s.deep /\ (blk s).2.loops = s.loops
def DL2 (s s' : Rs) : Prop := s'.deep = s.deep /\ s'.loops = s.loops
theorem DL2.trans {a b c : Rs} (h : DL2 a b) (k : DL2 b c) : DL2 a c := ⟨k.1.trans h.1, k.2.trans h.2⟩
theorem nJ (s : Rs) : DL2 s s.aG := ⟨rfl, rfl⟩
theorem jE (s : Rs) (t : Tok) (x : List UInt8) : DL2 s (s.need t x) := by
 unfold Rs.need
 repeat' split
 all_goals exact ⟨rfl, rfl⟩
theorem aAs (s : Rs) (e p : Nat) : DL2 s (s.note e p) := by
 unfold Rs.note
 split <;> exact ⟨rfl, rfl⟩
theorem wP (s : Rs) (l : List UInt8) (t : Tok) (a b : Nat) : DL2 s (s.num l t a b).2 := by
 unfold Rs.num
 simp only
 repeat' split
 all_goals first | exact (jE _ _ _).trans (aAs _ _ _) | exact jE _ _ _
theorem wQ (s : Rs) (l : List UInt8) (t : Tok) (L : List DL) (va : Bool) : DL2 s (s.bG l t L va).2 := by
 unfold Rs.bG
 repeat' split
 all_goals simp only
 all_goals repeat' split
 all_goals first | exact (jE _ _ _).trans (aAs _ _ _) | exact jE _ _ _
theorem aLf (s : Rs) (l : List UInt8) (TL : List Tok) (L : List DL) : DL2 s (s.val l TL L).2 := by
 unfold Rs.val
 repeat' split
 ·exact wP _ _ _ _ _
 ·exact (nJ _).trans (wQ _ _ _ _ _)
 ·exact nJ _
 ·exact wQ _ _ _ _ _
theorem aGz (TL : List Tok) : ∀ (f : Nat) (s : Rs), DL2 s (s.bH TL f).2
 | 0, _ => ⟨rfl, rfl⟩
 | f + 1, s => by
  unfold Rs.bH
  split
  ·exact (nJ s).trans (aGz TL f s.aG)
  ·exact ⟨rfl, rfl⟩
theorem aOc (s : Rs) (l : List UInt8) (TL : List Tok) (L : List DL) (m : Nat) : DL2 s (s.dF l TL L m).2 := by
 unfold Rs.dF
 repeat' split
 ·exact (nJ _).trans (wQ _ _ _ _ _)
 ·exact (nJ _).trans (wQ _ _ _ _ _)
 ·exact (nJ _).trans (wQ _ _ _ _ _)
 ·exact ((aLf _ _ _ _).trans (jE _ _ _)).trans (aLf _ _ _ _)
theorem rP (s : Rs) (l : List UInt8) (TL : List Tok) (L : List DL) : DL2 s (s.bU l TL L).2 := (aGz TL TL.length s).trans (aOc _ _ _ _ _)
theorem dI.but {d n : Nat} {w' : World} {v : Value} {x : RT d} (h : dI d w (fun g => n <= g) v x) (hb : But rb w w') (hr : rb < n) : dI d w' (fun g => n <= g) v x :=
 dI.move d (fun g hg hl => hb.block g hl (by have : n <= g := hg; omega)) v x h
theorem dI.cell {d n : Nat} {v : Value} {x : RT d} (h : dI d w (fun g => n <= g) v x) {b : Nat} (o : Nat) (u : Value) (hr : b < n) : dI d (w.setCell ⟨b, o, none⟩ u) (fun g => n <= g) v x :=
 dI.move d (fun g hg _ => zS _ _ _ _ (by have : n <= g := hg; show g ≠ b; omega)) v x h
theorem dI.cO {d n b : Nat} {v : Value} {x : RT d} (h : dI d w (fun g => n <= g) v x) {v0 v1 v2 v3 v4 v5 v6 v7 v8 v9 v10 v11 v12 v13 : Value} (hr : b < n) : dI d ((((((((((((((w.setCell ⟨b, 0, none⟩ (v0)).setCell ⟨b, 1, none⟩ (v1)).setCell ⟨b, 2, none⟩ (v2)).setCell ⟨b, 3, none⟩ (v3)).setCell ⟨b, 4, none⟩ (v4)).setCell ⟨b, 5, none⟩ (v5)).setCell ⟨b, 6, none⟩ (v6)).setCell ⟨b, 7, none⟩ (v7)).setCell ⟨b, 8, none⟩ (v8)).setCell ⟨b, 9, none⟩ (v9)).setCell ⟨b, 10, none⟩ (v10)).setCell ⟨b, 11, none⟩ (v11)).setCell ⟨b, 12, none⟩ (v12)).setCell ⟨b, 13, none⟩ (v13)) (fun g => n <= g) v x :=
 (((((((((((((h.cell _ _ hr).cell _ _ hr).cell _ _ hr).cell _ _ hr).cell _ _ hr).cell _ _ hr).cell _ _ hr).cell _ _ hr).cell _ _ hr).cell _ _ hr).cell _ _ hr).cell _ _ hr).cell _ _ hr).cell _ _ hr
theorem aJo {d : Nat} (blk : Rs -> RT d × Rs) (h : Rd w rb pb tb lo cap l TL s) (hp : Pl w rb pb lo la lc L fr Rv Hv Mv ms) (hc : Ch l TL) (hk : s.k < TL.length) (hop : bD (cur TL s) = [105, 102]) (HB : aLy rb pb tb lo cap l TL la lc L fr Rv Hv Mv ms d blk) (hd : s.deep + d = 8) (hlo : s.loops <= 2) :
  Calls Tryz.prog 110 #[ptr rb] w (RoS w rb pb tb lo cap l TL d (s.bJ blk (aI d) l TL L)) := by
 have hrb : rb < w.heap.size := (zL h.at')
 have htb : tb < w.heap.size := (h.own.lt tb rfl).2
 have hlen := h.len
 have ht := aT hk
 have hka := hc.aG hk hop (by decide) (by decide)
 have HV : Hid (s.bJ blk (aI d) l TL L = (if (blk (s.aG.bU l TL L).2).2.bad = 0 /\ bD (cur TL (blk (s.aG.bU l TL L).2).2) = [101, 108, 115, 101] then ((⟨[105, 102], 0, 0, false, (s.aG.bU l TL L).1, true⟩, (blk (s.aG.bU l TL L).2).1, (blk (blk (s.aG.bU l TL L).2).2.aG).1), (blk (blk (s.aG.bU l TL L).2).2.aG).2) else ((⟨[105, 102], 0, 0, false, (s.aG.bU l TL L).1, false⟩, (blk (s.aG.bU l TL L).2).1, aI d), (blk (s.aG.bU l TL L).2).2))) := by
  show _ = _
  unfold Rs.bJ
  rw [hop]
  rfl
 generalize s.bJ blk (aI d) l TL L = v at *
 obtain ⟨w1, hw1, h0, h00, H1, B1, b2, b3⟩ := jQ h [105, 102]
 obtain ⟨⟨k0, k1, k2⟩, hix⟩ := h0.tok ht
 obtain ⟨c, cf⟩ := aA h0.at'
 obtain ⟨⟨oJ, vI, vH⟩, _⟩ := h00.tok ht
 obtain ⟨c0, vU⟩ := aA h00.at'
 rw [hop] at k0 oJ
 go_enter Tryz.func110, Tryz.ntmps110
 go_wp2_with fail
 go_region
 rw [hw1.out]
 clear hw1
 clear k0 k1 k2 oJ vI vH c cf c0 vU hix h00 h0
 obtain ⟨d1, df1⟩ := aA H1.at'
 obtain ⟨d3, df3⟩ := aA b3
 have H2 := H1.set 1 (.int .i64 (s.k + 1 : Nat)) s.aG rfl
 have B2 := B1.own 1 (.int .i64 (s.k + 1 : Nat))
 have b22 := (zS w1 ⟨rb, 1, none⟩ (.int .i64 (s.k + 1 : Nat)) w.heap.size (by show w.heap.size ≠ rb; omega)).trans b2
 have b32 := (zS w1 ⟨rb, 1, none⟩ (.int .i64 (s.k + 1 : Nat)) (w.heap.size + 1) (by show w.heap.size + 1 ≠ rb; omega)).trans b3
 have HN := U7 H2 (hp.but B2) hc hka
 have kr4 := aO9 (L := L) hc hka
 have dr4 := rP s.aG l TL L
 generalize s.aG.bU l TL L = r4 at *
 go_wp2_with fail
 refine HN.mono ?_
 rintro e w4 ⟨rfl, N4, C4⟩
 clear HN
 have e24 := C4.at' b22 (by omega)
 have e34 := C4.at' b32 (by omega)
 obtain ⟨g4, gf4⟩ := aA e34
 have H4 : Rd (((((((w4.setCell ⟨w.heap.size + 1, 4, none⟩ (S r4.1.op)).setCell ⟨w.heap.size + 1, 5, none⟩ (.int .i64 r4.1.n)).setCell ⟨w.heap.size + 1, 6, none⟩ (S r4.1.a.1)).setCell ⟨w.heap.size + 1, 7, none⟩ (.int .i64 r4.1.a.2)).setCell ⟨w.heap.size + 1, 8, none⟩ (S r4.1.b.1)).setCell ⟨w.heap.size + 1, 9, none⟩ (.int .i64 r4.1.b.2)).setCell ⟨w.heap.size + 1, 10, none⟩ (.int .i64 r4.1.bH)) rb pb tb lo cap l TL r4.2 := ((((((N4.other (w.heap.size + 1) _ _ (by omega) (by omega)).other (w.heap.size + 1) _ _ (by omega) (by omega)).other (w.heap.size + 1) _ _ (by omega) (by omega)).other (w.heap.size + 1) _ _ (by omega) (by omega)).other (w.heap.size + 1) _ _ (by omega) (by omega)).other (w.heap.size + 1) _ _ (by omega) (by omega)).other (w.heap.size + 1) _ _ (by omega) (by omega)
 have B4 : But rb w (((((((w4.setCell ⟨w.heap.size + 1, 4, none⟩ (S r4.1.op)).setCell ⟨w.heap.size + 1, 5, none⟩ (.int .i64 r4.1.n)).setCell ⟨w.heap.size + 1, 6, none⟩ (S r4.1.a.1)).setCell ⟨w.heap.size + 1, 7, none⟩ (.int .i64 r4.1.a.2)).setCell ⟨w.heap.size + 1, 8, none⟩ (S r4.1.b.1)).setCell ⟨w.heap.size + 1, 9, none⟩ (.int .i64 r4.1.b.2)).setCell ⟨w.heap.size + 1, 10, none⟩ (.int .i64 r4.1.bH)) := (((((((B2.trans C4).new (w.heap.size + 1) _ _ (by omega)).new (w.heap.size + 1) _ _ (by omega)).new (w.heap.size + 1) _ _ (by omega)).new (w.heap.size + 1) _ _ (by omega)).new (w.heap.size + 1) _ _ (by omega)).new (w.heap.size + 1) _ _ (by omega)).new (w.heap.size + 1) _ _ (by omega)
 have yS : (((((((w4.setCell ⟨w.heap.size + 1, 4, none⟩ (S r4.1.op)).setCell ⟨w.heap.size + 1, 5, none⟩ (.int .i64 r4.1.n)).setCell ⟨w.heap.size + 1, 6, none⟩ (S r4.1.a.1)).setCell ⟨w.heap.size + 1, 7, none⟩ (.int .i64 r4.1.a.2)).setCell ⟨w.heap.size + 1, 8, none⟩ (S r4.1.b.1)).setCell ⟨w.heap.size + 1, 9, none⟩ (.int .i64 r4.1.b.2)).setCell ⟨w.heap.size + 1, 10, none⟩ (.int .i64 r4.1.bH)).heap[w.heap.size]? = some (.cells #[S [], .int .i64 0, .int .i64 0, .bool false, S [], .int .i64 0, S [], .int .i64 0, S [], .int .i64 0, .int .i64 0, aF, aF, .bool false] 160) := by
  iterate 7 rw [zS _ _ _ w.heap.size (by show w.heap.size ≠ w.heap.size + 1; omega)]
  exact e24
 have xC : (((((((w4.setCell ⟨w.heap.size + 1, 4, none⟩ (S r4.1.op)).setCell ⟨w.heap.size + 1, 5, none⟩ (.int .i64 r4.1.n)).setCell ⟨w.heap.size + 1, 6, none⟩ (S r4.1.a.1)).setCell ⟨w.heap.size + 1, 7, none⟩ (.int .i64 r4.1.a.2)).setCell ⟨w.heap.size + 1, 8, none⟩ (S r4.1.b.1)).setCell ⟨w.heap.size + 1, 9, none⟩ (.int .i64 r4.1.b.2)).setCell ⟨w.heap.size + 1, 10, none⟩ (.int .i64 r4.1.bH)).heap[w.heap.size + 1]? = some (.cells #[S [105, 102], .int .i64 0, .int .i64 0, .bool false, S r4.1.op, .int .i64 r4.1.n, S r4.1.a.1, .int .i64 r4.1.a.2, S r4.1.b.1, .int .i64 r4.1.b.2, .int .i64 r4.1.bH, aF, aF, .bool false] 160) :=
  (zC _ _ _ _ _ _ (zC _ _ _ _ _ _ (zC _ _ _ _ _ _ (zC _ _ _ _ _ _ (zC _ _ _ _ _ _ (zC _ _ _ _ _ _ (zC _ _ _ _ _ _ e34))))))).trans (by simp)
 have dr5 := (nJ s).trans dr4
 have HN := HB _ _ H4 (hp.but B4) kr4 (by have := dr5.1; omega) (by have := dr5.2; omega)
 have hzz := B4.size
 have hz3 := (zL xC)
 go_wp2_with fail
 refine HN.mono ?_
 rintro e w6 ⟨y6, rfl, t6, N6, C6, k6, da6, db6⟩
 clear HN
 obtain ⟨ya6, yn6, yc6, rfl⟩ := dI.form d _ _ t6
 have t6 := dI.mono d (N' := fun g => w.heap.size + 2 <= g) (fun g (hg : _ <= g) => by show w.heap.size + 2 <= g; omega) _ _ t6
 have e26 := C6.at' yS (by omega)
 have e36 := C6.at' xC (by omega)
 obtain ⟨g6, gf6⟩ := aA e36
 have H6 := N6.other (w.heap.size + 1) 11 (.slice ya6 yn6 yc6) (by omega) (by omega)
 have B6 := (B4.trans C6).new (w.heap.size + 1) 11 (.slice ya6 yn6 yc6) (by omega)
 have t6 := t6.cell (b := w.heap.size + 1) 11 (.slice ya6 yn6 yc6) (by omega)
 have O9 := (zS w6 ⟨w.heap.size + 1, 11, none⟩ (.slice ya6 yn6 yc6) w.heap.size (by show w.heap.size ≠ w.heap.size + 1; omega)).trans e26
 have b36 : (w6.setCell ⟨w.heap.size + 1, 11, none⟩ (.slice ya6 yn6 yc6)).heap[w.heap.size + 1]? = some (.cells #[S [105, 102], .int .i64 0, .int .i64 0, .bool false, S r4.1.op, .int .i64 r4.1.n, S r4.1.a.1, .int .i64 r4.1.a.2, S r4.1.b.1, .int .i64 r4.1.b.2, .int .i64 r4.1.bH, (.slice ya6 yn6 yc6), aF, .bool false] 160) := (zC _ _ _ _ _ _ e36).trans (by simp)
 go_wp2_with fail
 by_cases ct : (blk r4.2).2.bad = 0 /\ bD (cur TL (blk r4.2).2) = [101, 108, 115, 101]
 ·have hv : v = ((⟨[105, 102], 0, 0, false, r4.1, true⟩, (blk r4.2).1, (blk (blk r4.2).2.aG).1), (blk (blk r4.2).2.aG).2) := by rw [HV.out, if_pos ct]
  subst hv
  clear HV
  refine (lG H6 k6 [101, 108, 115, 101] ct).mono ?_
  rintro e w7 ⟨rfl, N7, C7⟩
  have e27 := C7.at' O9 (by omega)
  have e37 := C7.at' b36 (by omega)
  obtain ⟨g7, gf7⟩ := aA e37
  have H7 := N7.other (w.heap.size + 1) 13 (.bool true) (by omega) (by omega)
  have B7 := (B6.trans C7).new (w.heap.size + 1) 13 (.bool true) (by omega)
  have t6 := (t6.but C7 (by omega)).cell (b := w.heap.size + 1) 13 (.bool true) (by omega)
  have b27 := (zS w7 ⟨w.heap.size + 1, 13, none⟩ (.bool true) w.heap.size (by show w.heap.size ≠ w.heap.size + 1; omega)).trans e27
  have Y4 : (w7.setCell ⟨w.heap.size + 1, 13, none⟩ (.bool true)).heap[w.heap.size + 1]? = some (.cells #[S [105, 102], .int .i64 0, .int .i64 0, .bool false, S r4.1.op, .int .i64 r4.1.n, S r4.1.a.1, .int .i64 r4.1.a.2, S r4.1.b.1, .int .i64 r4.1.b.2, .int .i64 r4.1.bH, (.slice ya6 yn6 yc6), aF, .bool true] 160) := (zC _ _ _ _ _ _ e37).trans (by simp)
  obtain ⟨gx, gxf⟩ := aA Y4
  have k7 := hc.aG k6 ct.2 (by decide) (by decide)
  have HN := HB _ _ H7 (hp.but B7) k7 (by have := dr5.1; show (blk r4.2).2.deep + d = 8; omega) (by have := dr5.2; show (blk r4.2).2.loops <= 2; omega)
  have hzz := B7.size
  have hz3 := (zL Y4)
  go_wp2_with fail
  refine HN.mono ?_
  rintro e w8 ⟨y8, rfl, t8, N8, C8, k8, da8, db8⟩
  clear HN
  obtain ⟨ya8, yn8, yc8, rfl⟩ := dI.form d _ _ t8
  have t8 := dI.mono d (N' := fun g => w.heap.size + 2 <= g) (fun g (hg : _ <= g) => by show w.heap.size + 2 <= g; omega) _ _ t8
  have e28 := C8.at' b27 (by omega)
  have e38 := C8.at' Y4 (by omega)
  obtain ⟨g8, gf8⟩ := aA e38
  have H8 := N8.other (w.heap.size + 1) 12 (.slice ya8 yn8 yc8) (by omega) (by omega)
  have B8 := (B7.trans C8).new (w.heap.size + 1) 12 (.slice ya8 yn8 yc8) (by omega)
  have t8 := t8.cell (b := w.heap.size + 1) 12 (.slice ya8 yn8 yc8) (by omega)
  have b28 := (zS w8 ⟨w.heap.size + 1, 12, none⟩ (.slice ya8 yn8 yc8) w.heap.size (by show w.heap.size ≠ w.heap.size + 1; omega)).trans e28
  have b38 : (w8.setCell ⟨w.heap.size + 1, 12, none⟩ (.slice ya8 yn8 yc8)).heap[w.heap.size + 1]? = some (.cells #[S [105, 102], .int .i64 0, .int .i64 0, .bool false, S r4.1.op, .int .i64 r4.1.n, S r4.1.a.1, .int .i64 r4.1.a.2, S r4.1.b.1, .int .i64 r4.1.b.2, .int .i64 r4.1.bH, (.slice ya6 yn6 yc6), (.slice ya8 yn8 yc8), .bool true] 160) := (zC _ _ _ _ _ _ e38).trans (by simp)
  have t6 := (t6.but C8 (by omega)).cell (b := w.heap.size + 1) 12 (.slice ya8 yn8 yc8) (by omega)
  obtain ⟨cR, cfR⟩ := aA b28
  obtain ⟨cX, cfX⟩ := aA b38
  go_wp2_with fail
  exact aS Tryz.results110 w.heap.size _ _ _ rfl rfl (cO _ _ _ _ _ _ _ _ _ _ _ _ _ _ _ _ _ _ b28 rfl) Tryz.underlying160 rfl (by kernel_rfl) ⟨(.slice ya6 yn6 yc6), (.slice ya8 yn8 yc8), rfl, dI.mono d (fun g (hg : w.heap.size + 2 <= g) => by show w.heap.size <= g; omega) _ _ (dI.cO t6 (by omega)), dI.mono d (fun g (hg : w.heap.size + 2 <= g) => by show w.heap.size <= g; omega) _ _ (dI.cO t8 (by omega)), Rd.cO H8 (by omega) (by omega), But.cO B8 zR⟩
 ·have hv : v = ((⟨[105, 102], 0, 0, false, r4.1, false⟩, (blk r4.2).1, aI d), (blk r4.2).2) := by rw [HV.out, if_neg ct]
  subst hv
  clear HV
  refine (lH H6 k6 [101, 108, 115, 101] ct).mono ?_
  rintro e w7 ⟨rfl, N7, C7⟩
  have e27 := C7.at' O9 (by omega)
  have e37 := C7.at' b36 (by omega)
  obtain ⟨g7, gf7⟩ := aA e37
  have H7 := N7.other (w.heap.size + 1) 13 (.bool false) (by omega) (by omega)
  have B7 := (B6.trans C7).new (w.heap.size + 1) 13 (.bool false) (by omega)
  have t6 := (t6.but C7 (by omega)).cell (b := w.heap.size + 1) 13 (.bool false) (by omega)
  have b27 := (zS w7 ⟨w.heap.size + 1, 13, none⟩ (.bool false) w.heap.size (by show w.heap.size ≠ w.heap.size + 1; omega)).trans e27
  have Y4 : (w7.setCell ⟨w.heap.size + 1, 13, none⟩ (.bool false)).heap[w.heap.size + 1]? = some (.cells #[S [105, 102], .int .i64 0, .int .i64 0, .bool false, S r4.1.op, .int .i64 r4.1.n, S r4.1.a.1, .int .i64 r4.1.a.2, S r4.1.b.1, .int .i64 r4.1.b.2, .int .i64 r4.1.bH, (.slice ya6 yn6 yc6), aF, .bool false] 160) := (zC _ _ _ _ _ _ e37).trans (by simp)
  obtain ⟨cR, cfR⟩ := aA b27
  obtain ⟨cX, cfX⟩ := aA Y4
  go_wp2_with fail
  exact aS Tryz.results110 w.heap.size _ _ _ rfl rfl (cO _ _ _ _ _ _ _ _ _ _ _ _ _ _ _ _ _ _ b27 rfl) Tryz.underlying160 rfl (by kernel_rfl) ⟨(.slice ya6 yn6 yc6), aF, rfl, dI.mono d (fun g (hg : w.heap.size + 2 <= g) => by show w.heap.size <= g; omega) _ _ (dI.cO t6 (by omega)), dI.nil _ _ _, Rd.cO H7 (by omega) (by omega), But.cO B7 zR⟩
end
section
variable {w : World} {rb pb tb lo cap : Nat} {l : List UInt8} {TL : List Tok} {s : Rs}
variable {la : Option Addr} {lc : Nat} {L : List DL} {fr : Nat} {Rv Hv Mv : Value} {ms : Bool}
theorem o9 {d : Nat} (blk : Rs -> RT d × Rs) (h : Rd w rb pb tb lo cap l TL s) (hp : Pl w rb pb lo la lc L fr Rv Hv Mv ms) (hc : Ch l TL) (hk : s.k < TL.length) (hop : bD (cur TL s) = [114, 101, 112, 101, 97, 116]) (HB : aLy rb pb tb lo cap l TL la lc L fr Rv Hv Mv ms d blk) (hd : s.deep + d = 8) (hlo : s.loops <= 2) (hl2 : s.loops ≠ 2) :
  Calls Tryz.prog 110 #[ptr rb] w (RoS w rb pb tb lo cap l TL d (s.bJ blk (aI d) l TL L)) := by
 have hrb : rb < w.heap.size := (zL h.at')
 have htb : tb < w.heap.size := (h.own.lt tb rfl).2
 have hlen := h.len
 have ht := aT hk
 have hka := hc.aG hk hop (by decide) (by decide)
 have HV : Hid (s.bJ blk (aI d) l TL L = (if s.loops = 2 then ((rt0 [114, 101, 112, 101, 97, 116], aI d, aI d), s.fail 3 (cur TL s)) else ((⟨[114, 101, 112, 101, 97, 116], (s.aG.num l (cur TL s.aG) 1 50).1, 0, false, (((s.aG.num l (cur TL s.aG) 1 50).2.need (cur TL (s.aG.num l (cur TL s.aG) 1 50).2) [119, 104, 105, 108, 101]).bU l TL L).1, false⟩, (blk { (((s.aG.num l (cur TL s.aG) 1 50).2.need (cur TL (s.aG.num l (cur TL s.aG) 1 50).2) [119, 104, 105, 108, 101]).bU l TL L).2 with loops := (((s.aG.num l (cur TL s.aG) 1 50).2.need (cur TL (s.aG.num l (cur TL s.aG) 1 50).2) [119, 104, 105, 108, 101]).bU l TL L).2.loops + 1 }).1, aI d), { (blk { (((s.aG.num l (cur TL s.aG) 1 50).2.need (cur TL (s.aG.num l (cur TL s.aG) 1 50).2) [119, 104, 105, 108, 101]).bU l TL L).2 with loops := (((s.aG.num l (cur TL s.aG) 1 50).2.need (cur TL (s.aG.num l (cur TL s.aG) 1 50).2) [119, 104, 105, 108, 101]).bU l TL L).2.loops + 1 }).2 with loops := (blk { (((s.aG.num l (cur TL s.aG) 1 50).2.need (cur TL (s.aG.num l (cur TL s.aG) 1 50).2) [119, 104, 105, 108, 101]).bU l TL L).2 with loops := (((s.aG.num l (cur TL s.aG) 1 50).2.need (cur TL (s.aG.num l (cur TL s.aG) 1 50).2) [119, 104, 105, 108, 101]).bU l TL L).2.loops + 1 }).2.loops - 1 }))) := by
  show _ = _
  unfold Rs.bJ
  rw [hop]
  rfl
 generalize s.bJ blk (aI d) l TL L = v at *
 obtain ⟨w1, hw1, h0, h00, H1, B1, b2, b3⟩ := jQ h [114, 101, 112, 101, 97, 116]
 obtain ⟨⟨k0, k1, k2⟩, hix⟩ := h0.tok ht
 obtain ⟨c, cf⟩ := aA h0.at'
 obtain ⟨⟨oJ, vI, vH⟩, _⟩ := h00.tok ht
 obtain ⟨c0, vU⟩ := aA h00.at'
 rw [hop] at k0 oJ
 go_enter Tryz.func110, Tryz.ntmps110
 go_wp2_with fail
 go_region
 rw [hw1.out]
 clear hw1
 clear k0 k1 k2 oJ vI vH c cf c0 vU hix h00 h0
 obtain ⟨d1, df1⟩ := aA H1.at'
 obtain ⟨d3, df3⟩ := aA b3
 have H2 := H1.set 1 (.int .i64 (s.k + 1 : Nat)) s.aG rfl
 have B2 := B1.own 1 (.int .i64 (s.k + 1 : Nat))
 have b22 := (zS w1 ⟨rb, 1, none⟩ (.int .i64 (s.k + 1 : Nat)) w.heap.size (by show w.heap.size ≠ rb; omega)).trans b2
 have b32 := (zS w1 ⟨rb, 1, none⟩ (.int .i64 (s.k + 1 : Nat)) (w.heap.size + 1) (by show w.heap.size + 1 ≠ rb; omega)).trans b3
 have HV : Hid (v = ((⟨[114, 101, 112, 101, 97, 116], (s.aG.num l (cur TL s.aG) 1 50).1, 0, false, (((s.aG.num l (cur TL s.aG) 1 50).2.need (cur TL (s.aG.num l (cur TL s.aG) 1 50).2) [119, 104, 105, 108, 101]).bU l TL L).1, false⟩, (blk { (((s.aG.num l (cur TL s.aG) 1 50).2.need (cur TL (s.aG.num l (cur TL s.aG) 1 50).2) [119, 104, 105, 108, 101]).bU l TL L).2 with loops := (((s.aG.num l (cur TL s.aG) 1 50).2.need (cur TL (s.aG.num l (cur TL s.aG) 1 50).2) [119, 104, 105, 108, 101]).bU l TL L).2.loops + 1 }).1, aI d), { (blk { (((s.aG.num l (cur TL s.aG) 1 50).2.need (cur TL (s.aG.num l (cur TL s.aG) 1 50).2) [119, 104, 105, 108, 101]).bU l TL L).2 with loops := (((s.aG.num l (cur TL s.aG) 1 50).2.need (cur TL (s.aG.num l (cur TL s.aG) 1 50).2) [119, 104, 105, 108, 101]).bU l TL L).2.loops + 1 }).2 with loops := (blk { (((s.aG.num l (cur TL s.aG) 1 50).2.need (cur TL (s.aG.num l (cur TL s.aG) 1 50).2) [119, 104, 105, 108, 101]).bU l TL L).2 with loops := (((s.aG.num l (cur TL s.aG) 1 50).2.need (cur TL (s.aG.num l (cur TL s.aG) 1 50).2) [119, 104, 105, 108, 101]).bU l TL L).2.loops + 1 }).2.loops - 1 })) := by
  show _ = _
  rw [HV.out, if_neg hl2]
 have hl3 : ((s.loops : Int) == 2) = false := by simp; omega
 have HN := jZ H2 (aT hka) 1 50 (by omega) (hc.num _ _ (aT hka))
 have kq4 := V4 hc hka 1 50
 have dq4 := (nJ s).trans (wP s.aG l (cur TL s.aG) 1 50)
 generalize s.aG.num l (cur TL s.aG) 1 50 = q4 at *
 go_wp2_with fail
 refine HN.mono ?_
 rintro e w4 ⟨rfl, N4, C4⟩
 clear HN
 have e24 := C4.at' b22 (by omega)
 have e34 := C4.at' b32 (by omega)
 obtain ⟨g4, gf4⟩ := aA e34
 have H4 := N4.other (w.heap.size + 1) 1 (.int .i64 q4.1) (by omega) (by omega)
 have B4 := (B2.trans C4).new (w.heap.size + 1) 1 (.int .i64 q4.1) (by omega)
 have yS := (zS w4 ⟨w.heap.size + 1, 1, none⟩ (.int .i64 q4.1) w.heap.size (by show w.heap.size ≠ w.heap.size + 1; omega)).trans e24
 have xC : (w4.setCell ⟨w.heap.size + 1, 1, none⟩ (.int .i64 q4.1)).heap[w.heap.size + 1]? = some (.cells #[S [114, 101, 112, 101, 97, 116], .int .i64 q4.1, .int .i64 0, .bool false, S [], .int .i64 0, S [], .int .i64 0, S [], .int .i64 0, .int .i64 0, aF, aF, .bool false] 160) := (zC _ _ _ _ _ _ e34).trans (by simp)
 have HM := bQ H4 (aT kq4) [119, 104, 105, 108, 101]
 have ks5 := wK [119, 104, 105, 108, 101] hc kq4 (aT kq4) (by decide) (by decide)
 have ds5 := dq4.trans (jE q4.2 (cur TL q4.2) [119, 104, 105, 108, 101])
 generalize q4.2.need (cur TL q4.2) [119, 104, 105, 108, 101] = s5 at *
 go_wp2_with fail
 refine HM.mono ?_
 rintro e w5 ⟨rfl, H5, C5⟩
 clear HM
 have B5 := B4.trans C5
 have b25 := C5.at' yS (by omega)
 have b35 := C5.at' xC (by omega)
 have HN := U7 H5 (hp.but B5) hc ks5
 have kr6 := aO9 (L := L) hc ks5
 have dr6 := rP s5 l TL L
 generalize s5.bU l TL L = r6 at *
 go_wp2_with fail
 refine HN.mono ?_
 rintro e w6 ⟨rfl, N6, C6⟩
 clear HN
 have e26 := C6.at' b25 (by omega)
 have e36 := C6.at' b35 (by omega)
 obtain ⟨g6, gf6⟩ := aA e36
 have H6 : Rd (((((((w6.setCell ⟨w.heap.size + 1, 4, none⟩ (S r6.1.op)).setCell ⟨w.heap.size + 1, 5, none⟩ (.int .i64 r6.1.n)).setCell ⟨w.heap.size + 1, 6, none⟩ (S r6.1.a.1)).setCell ⟨w.heap.size + 1, 7, none⟩ (.int .i64 r6.1.a.2)).setCell ⟨w.heap.size + 1, 8, none⟩ (S r6.1.b.1)).setCell ⟨w.heap.size + 1, 9, none⟩ (.int .i64 r6.1.b.2)).setCell ⟨w.heap.size + 1, 10, none⟩ (.int .i64 r6.1.bH)) rb pb tb lo cap l TL r6.2 := ((((((N6.other (w.heap.size + 1) _ _ (by omega) (by omega)).other (w.heap.size + 1) _ _ (by omega) (by omega)).other (w.heap.size + 1) _ _ (by omega) (by omega)).other (w.heap.size + 1) _ _ (by omega) (by omega)).other (w.heap.size + 1) _ _ (by omega) (by omega)).other (w.heap.size + 1) _ _ (by omega) (by omega)).other (w.heap.size + 1) _ _ (by omega) (by omega)
 have B6 : But rb w (((((((w6.setCell ⟨w.heap.size + 1, 4, none⟩ (S r6.1.op)).setCell ⟨w.heap.size + 1, 5, none⟩ (.int .i64 r6.1.n)).setCell ⟨w.heap.size + 1, 6, none⟩ (S r6.1.a.1)).setCell ⟨w.heap.size + 1, 7, none⟩ (.int .i64 r6.1.a.2)).setCell ⟨w.heap.size + 1, 8, none⟩ (S r6.1.b.1)).setCell ⟨w.heap.size + 1, 9, none⟩ (.int .i64 r6.1.b.2)).setCell ⟨w.heap.size + 1, 10, none⟩ (.int .i64 r6.1.bH)) := (((((((B5.trans C6).new (w.heap.size + 1) _ _ (by omega)).new (w.heap.size + 1) _ _ (by omega)).new (w.heap.size + 1) _ _ (by omega)).new (w.heap.size + 1) _ _ (by omega)).new (w.heap.size + 1) _ _ (by omega)).new (w.heap.size + 1) _ _ (by omega)).new (w.heap.size + 1) _ _ (by omega)
 have O9 : (((((((w6.setCell ⟨w.heap.size + 1, 4, none⟩ (S r6.1.op)).setCell ⟨w.heap.size + 1, 5, none⟩ (.int .i64 r6.1.n)).setCell ⟨w.heap.size + 1, 6, none⟩ (S r6.1.a.1)).setCell ⟨w.heap.size + 1, 7, none⟩ (.int .i64 r6.1.a.2)).setCell ⟨w.heap.size + 1, 8, none⟩ (S r6.1.b.1)).setCell ⟨w.heap.size + 1, 9, none⟩ (.int .i64 r6.1.b.2)).setCell ⟨w.heap.size + 1, 10, none⟩ (.int .i64 r6.1.bH)).heap[w.heap.size]? = some (.cells #[S [], .int .i64 0, .int .i64 0, .bool false, S [], .int .i64 0, S [], .int .i64 0, S [], .int .i64 0, .int .i64 0, aF, aF, .bool false] 160) := by
  iterate 7 rw [zS _ _ _ w.heap.size (by show w.heap.size ≠ w.heap.size + 1; omega)]
  exact e26
 have b36 : (((((((w6.setCell ⟨w.heap.size + 1, 4, none⟩ (S r6.1.op)).setCell ⟨w.heap.size + 1, 5, none⟩ (.int .i64 r6.1.n)).setCell ⟨w.heap.size + 1, 6, none⟩ (S r6.1.a.1)).setCell ⟨w.heap.size + 1, 7, none⟩ (.int .i64 r6.1.a.2)).setCell ⟨w.heap.size + 1, 8, none⟩ (S r6.1.b.1)).setCell ⟨w.heap.size + 1, 9, none⟩ (.int .i64 r6.1.b.2)).setCell ⟨w.heap.size + 1, 10, none⟩ (.int .i64 r6.1.bH)).heap[w.heap.size + 1]? = some (.cells #[S [114, 101, 112, 101, 97, 116], .int .i64 q4.1, .int .i64 0, .bool false, S r6.1.op, .int .i64 r6.1.n, S r6.1.a.1, .int .i64 r6.1.a.2, S r6.1.b.1, .int .i64 r6.1.b.2, .int .i64 r6.1.bH, aF, aF, .bool false] 160) :=
  (zC _ _ _ _ _ _ (zC _ _ _ _ _ _ (zC _ _ _ _ _ _ (zC _ _ _ _ _ _ (zC _ _ _ _ _ _ (zC _ _ _ _ _ _ (zC _ _ _ _ _ _ e36))))))).trans (by simp)
 have dr7 := ds5.trans dr6
 have hl7 : r6.2.loops <= 1 := by have := dr7.2; omega
 obtain ⟨g7, gf7⟩ := aA H6.at'
 have H7 := H6.set 3 (.int .i64 (r6.2.loops + 1 : Nat)) { r6.2 with loops := r6.2.loops + 1 } rfl
 have B7 := B6.own 3 (.int .i64 (r6.2.loops + 1 : Nat))
 have b27 := (zS _ ⟨rb, 3, none⟩ (.int .i64 (r6.2.loops + 1 : Nat)) w.heap.size (by show w.heap.size ≠ rb; omega)).trans O9
 have Y4 := (zS _ ⟨rb, 3, none⟩ (.int .i64 (r6.2.loops + 1 : Nat)) (w.heap.size + 1) (by show w.heap.size + 1 ≠ rb; omega)).trans b36
 have HN := HB _ _ H7 (hp.but B7) kr6 (by have := dr7.1; show r6.2.deep + d = 8; omega) (by show r6.2.loops + 1 <= 2; omega)
 have hzz := B7.size
 have hz3 := (zL Y4)
 go_wp2_with fail
 refine HN.mono ?_
 rintro e w8 ⟨y8, rfl, t8, N8, C8, k8, da8, db8⟩
 clear HN
 obtain ⟨ya8, yn8, yc8, rfl⟩ := dI.form d _ _ t8
 have t8 := dI.mono d (N' := fun g => w.heap.size + 2 <= g) (fun g (hg : _ <= g) => by show w.heap.size + 2 <= g; omega) _ _ t8
 have e28 := C8.at' b27 (by omega)
 have e38 := C8.at' Y4 (by omega)
 obtain ⟨g8, gf8⟩ := aA e38
 have H8 := N8.other (w.heap.size + 1) 11 (.slice ya8 yn8 yc8) (by omega) (by omega)
 have B8 := (B7.trans C8).new (w.heap.size + 1) 11 (.slice ya8 yn8 yc8) (by omega)
 have t8 := t8.cell (b := w.heap.size + 1) 11 (.slice ya8 yn8 yc8) (by omega)
 have b28 := (zS w8 ⟨w.heap.size + 1, 11, none⟩ (.slice ya8 yn8 yc8) w.heap.size (by show w.heap.size ≠ w.heap.size + 1; omega)).trans e28
 have b38 : (w8.setCell ⟨w.heap.size + 1, 11, none⟩ (.slice ya8 yn8 yc8)).heap[w.heap.size + 1]? = some (.cells #[S [114, 101, 112, 101, 97, 116], .int .i64 q4.1, .int .i64 0, .bool false, S r6.1.op, .int .i64 r6.1.n, S r6.1.a.1, .int .i64 r6.1.a.2, S r6.1.b.1, .int .i64 r6.1.b.2, .int .i64 r6.1.bH, (.slice ya8 yn8 yc8), aF, .bool false] 160) := (zC _ _ _ _ _ _ e38).trans (by simp)
 have hp8 : 1 <= (blk { r6.2 with loops := r6.2.loops + 1 }).2.loops /\ (blk { r6.2 with loops := r6.2.loops + 1 }).2.loops <= 2 := by rw [db8]; show 1 <= r6.2.loops + 1 /\ r6.2.loops + 1 <= 2; omega
 clear da8 db8
 have hv := HV.out
 subst hv
 clear HV
 generalize blk { r6.2 with loops := r6.2.loops + 1 } = p8 at *
 obtain ⟨g9, gf9⟩ := aA H8.at'
 have H9 := H8.set 3 (.int .i64 (p8.2.loops - 1 : Nat)) { p8.2 with loops := p8.2.loops - 1 } rfl
 have B9 := B8.own 3 (.int .i64 (p8.2.loops - 1 : Nat))
 have b29 := (zS _ ⟨rb, 3, none⟩ (.int .i64 (p8.2.loops - 1 : Nat)) w.heap.size (by show w.heap.size ≠ rb; omega)).trans b28
 have b39 := (zS _ ⟨rb, 3, none⟩ (.int .i64 (p8.2.loops - 1 : Nat)) (w.heap.size + 1) (by show w.heap.size + 1 ≠ rb; omega)).trans b38
 have t9 := t8.cell (b := rb) 3 (.int .i64 (p8.2.loops - 1 : Nat)) (by omega)
 have en : ((p8.2.loops - 1 : Nat) : Int) = (p8.2.loops : Int) - 1 := by omega
 rw [en] at H9 B9 b29 b39 t9
 obtain ⟨cR, cfR⟩ := aA b29
 obtain ⟨cX, cfX⟩ := aA b39
 go_wp2_with fail
 exact aS Tryz.results110 w.heap.size _ _ _ rfl rfl (cO _ _ _ _ _ _ _ _ _ _ _ _ _ _ _ _ _ _ b29 rfl) Tryz.underlying160 rfl (by kernel_rfl) ⟨(.slice ya8 yn8 yc8), aF, rfl, dI.mono d (fun g (hg : w.heap.size + 2 <= g) => by show w.heap.size <= g; omega) _ _ (dI.cO t9 (by omega)), dI.nil _ _ _, Rd.cO H9 (by omega) (by omega), But.cO B9 zR⟩
theorem aDy {d : Nat} (blk : Rs -> RT d × Rs) (h : Rd w rb pb tb lo cap l TL s) (_hp : Pl w rb pb lo la lc L fr Rv Hv Mv ms) (hc : Ch l TL) (hk : s.k < TL.length) (hop : bD (cur TL s) = [114, 101, 112, 101, 97, 116]) (hb : s.bad = 0) (hl2 : s.loops = 2) :
  Calls Tryz.prog 110 #[ptr rb] w (RoS w rb pb tb lo cap l TL d (s.bJ blk (aI d) l TL L)) := by
 have hrb : rb < w.heap.size := (zL h.at')
 have htb : tb < w.heap.size := (h.own.lt tb rfl).2
 have hlen := h.len
 have ht := aT hk
 have hka := hc.aG hk hop (by decide) (by decide)
 have HV : Hid (s.bJ blk (aI d) l TL L = (if s.loops = 2 then ((rt0 [114, 101, 112, 101, 97, 116], aI d, aI d), s.fail 3 (cur TL s)) else ((⟨[114, 101, 112, 101, 97, 116], (s.aG.num l (cur TL s.aG) 1 50).1, 0, false, (((s.aG.num l (cur TL s.aG) 1 50).2.need (cur TL (s.aG.num l (cur TL s.aG) 1 50).2) [119, 104, 105, 108, 101]).bU l TL L).1, false⟩, (blk { (((s.aG.num l (cur TL s.aG) 1 50).2.need (cur TL (s.aG.num l (cur TL s.aG) 1 50).2) [119, 104, 105, 108, 101]).bU l TL L).2 with loops := (((s.aG.num l (cur TL s.aG) 1 50).2.need (cur TL (s.aG.num l (cur TL s.aG) 1 50).2) [119, 104, 105, 108, 101]).bU l TL L).2.loops + 1 }).1, aI d), { (blk { (((s.aG.num l (cur TL s.aG) 1 50).2.need (cur TL (s.aG.num l (cur TL s.aG) 1 50).2) [119, 104, 105, 108, 101]).bU l TL L).2 with loops := (((s.aG.num l (cur TL s.aG) 1 50).2.need (cur TL (s.aG.num l (cur TL s.aG) 1 50).2) [119, 104, 105, 108, 101]).bU l TL L).2.loops + 1 }).2 with loops := (blk { (((s.aG.num l (cur TL s.aG) 1 50).2.need (cur TL (s.aG.num l (cur TL s.aG) 1 50).2) [119, 104, 105, 108, 101]).bU l TL L).2 with loops := (((s.aG.num l (cur TL s.aG) 1 50).2.need (cur TL (s.aG.num l (cur TL s.aG) 1 50).2) [119, 104, 105, 108, 101]).bU l TL L).2.loops + 1 }).2.loops - 1 }))) := by
  show _ = _
  unfold Rs.bJ
  rw [hop]
  rfl
 generalize s.bJ blk (aI d) l TL L = v at *
 obtain ⟨w1, hw1, h0, h00, H1, B1, b2, b3⟩ := jQ h [114, 101, 112, 101, 97, 116]
 obtain ⟨⟨k0, k1, k2⟩, hix⟩ := h0.tok ht
 obtain ⟨c, cf⟩ := aA h0.at'
 obtain ⟨⟨oJ, vI, vH⟩, _⟩ := h00.tok ht
 obtain ⟨c0, vU⟩ := aA h00.at'
 rw [hop] at k0 oJ
 go_enter Tryz.func110, Tryz.ntmps110
 go_wp2_with fail
 go_region
 rw [hw1.out]
 clear hw1
 clear k0 k1 k2 oJ vI vH c cf c0 vU hix h00 h0
 obtain ⟨d1, df1⟩ := aA H1.at'
 obtain ⟨d3, df3⟩ := aA b3
 have H2 := H1.set 1 (.int .i64 (s.k + 1 : Nat)) s.aG rfl
 have B2 := B1.own 1 (.int .i64 (s.k + 1 : Nat))
 have b22 := (zS w1 ⟨rb, 1, none⟩ (.int .i64 (s.k + 1 : Nat)) w.heap.size (by show w.heap.size ≠ rb; omega)).trans b2
 have b32 := (zS w1 ⟨rb, 1, none⟩ (.int .i64 (s.k + 1 : Nat)) (w.heap.size + 1) (by show w.heap.size + 1 ≠ rb; omega)).trans b3
 have hv : v = ((rt0 [114, 101, 112, 101, 97, 116], aI d, aI d), s.fail 3 (cur TL s)) := by rw [HV.out, if_pos hl2]
 subst hv
 clear HV
 have hl3 : ((s.loops : Int) == 2) = true := by simp; omega
 have HN := pU H1 hb ht 3
 generalize s.fail 3 (cur TL s) = sF at *
 go_wp2_with fail
 refine HN.mono ?_
 rintro e wF ⟨rfl, HF, CF⟩
 clear HN
 have BF := B1.trans CF
 have bR := CF.at' b2 (by omega)
 have bX := CF.at' b3 (by omega)
 obtain ⟨cR, cfR⟩ := aA bR
 obtain ⟨cX, cfX⟩ := aA bX
 go_wp2_with fail
 exact aS Tryz.results110 w.heap.size _ _ _ rfl rfl (cO _ _ _ _ _ _ _ _ _ _ _ _ _ _ _ _ _ _ bR rfl) Tryz.underlying160 rfl (by kernel_rfl) ⟨aF, aF, rfl, dI.nil _ _ _, dI.nil _ _ _, Rd.cO HF (by omega) (by omega), But.cO BF zR⟩
end
section
variable {w : World} {rb pb tb lo cap : Nat} {l : List UInt8} {TL : List Tok} {s : Rs}
variable {la : Option Addr} {lc : Nat} {L : List DL} {fr : Nat} {Rv Hv Mv : Value} {ms : Bool}
theorem aBv {d : Nat} {op : List UInt8} (blk : Rs -> RT d × Rs) (h : Rd w rb pb tb lo cap l TL s) (_hp : Pl w rb pb lo la lc L fr Rv Hv Mv ms) (_hc : Ch l TL) (hk : s.k < TL.length) (hop : bD (cur TL s) = op) (hb : s.bad = 0) (aRt : op ≠ [112, 117, 116]) (aKa : op ≠ [101, 118, 105, 99, 116]) (aOz : op ≠ [99, 111, 111, 108]) (aJ6 : op ≠ [115, 104, 105, 102, 116]) (aRu : op ≠ [105, 110, 99]) (aRv : op ≠ [100, 101, 99]) (aOy : op ≠ [100, 114, 111, 112]) (aO0 : op ≠ [98, 117, 109, 112]) (nif : op ≠ [105, 102]) (aGf : op ≠ [114, 101, 112, 101, 97, 116]) :
  Calls Tryz.prog 110 #[ptr rb] w (RoS w rb pb tb lo cap l TL d (s.bJ blk (aI d) l TL L)) := by
 have hrb : rb < w.heap.size := (zL h.at')
 have htb : tb < w.heap.size := (h.own.lt tb rfl).2
 have hlen := h.len
 have ht := aT hk
 have HV : Hid (s.bJ blk (aI d) l TL L = ((rt0 op, aI d, aI d), s.fail 2 (cur TL s))) := by
  show _ = _
  unfold Rs.bJ
  rw [hop]
  simp only [aRt, aKa, aOz, aJ6, aRu, aRv, aOy, aO0, nif, aGf, or_self, if_false]
 generalize s.bJ blk (aI d) l TL L = v at *
 obtain ⟨w1, hw1, h0, h00, H1, B1, b2, b3⟩ := jQ h op
 obtain ⟨⟨k0, k1, k2⟩, hix⟩ := h0.tok ht
 obtain ⟨c, cf⟩ := aA h0.at'
 obtain ⟨⟨oJ, vI, vH⟩, _⟩ := h00.tok ht
 obtain ⟨c0, vU⟩ := aA h00.at'
 rw [hop] at k0 oJ
 go_enter Tryz.func110, Tryz.ntmps110
 go_wp2_with fail
 go_region
 rw [hw1.out]
 clear hw1
 clear k0 k1 k2 oJ vI vH c cf c0 vU hix h00 h0
 obtain ⟨d1, df1⟩ := aA H1.at'
 obtain ⟨d3, df3⟩ := aA b3
 have aU9 : (op == [112, 117, 116]) = false := by simpa using aRt
 have aTb : (op == [101, 118, 105, 99, 116]) = false := by simpa using aKa
 have aU2 : (op == [99, 111, 111, 108]) = false := by simpa using aOz
 have aTa : (op == [115, 104, 105, 102, 116]) = false := by simpa using aJ6
 have aVa : (op == [105, 110, 99]) = false := by simpa using aRu
 have aVb : (op == [100, 101, 99]) = false := by simpa using aRv
 have aU1 : (op == [100, 114, 111, 112]) = false := by simpa using aOy
 have aU3 : (op == [98, 117, 109, 112]) = false := by simpa using aO0
 have mif : (op == [105, 102]) = false := by simpa using nif
 have aS1 : (op == [114, 101, 112, 101, 97, 116]) = false := by simpa using aGf
 have hv := HV.out
 subst hv
 clear HV
 have HN := pU H1 hb ht 2
 generalize s.fail 2 (cur TL s) = sF at *
 go_wp2_with fail
 refine HN.mono ?_
 rintro e wF ⟨rfl, HF, CF⟩
 clear HN
 have BF := B1.trans CF
 have bR := CF.at' b2 (by omega)
 have bX := CF.at' b3 (by omega)
 obtain ⟨cR, cfR⟩ := aA bR
 obtain ⟨cX, cfX⟩ := aA bX
 go_wp2_with fail
 exact aS Tryz.results110 w.heap.size _ _ _ rfl rfl (cO _ _ _ _ _ _ _ _ _ _ _ _ _ _ _ _ _ _ bR rfl) Tryz.underlying160 rfl (by kernel_rfl) ⟨aF, aF, rfl, dI.nil _ _ _, dI.nil _ _ _, Rd.cO HF (by omega) (by omega), But.cO BF zR⟩
end
section
variable {w : World} {rb pb tb lo cap : Nat} {l : List UInt8} {TL : List Tok} {s : Rs}
variable {la : Option Addr} {lc : Nat} {L : List DL} {fr : Nat} {Rv Hv Mv : Value} {ms : Bool}
theorem aHt {d : Nat} {blk : Rs -> RT d × Rs} (HB : aLy rb pb tb lo cap l TL la lc L fr Rv Hv Mv ms d blk) (h : Rd w rb pb tb lo cap l TL s) (hp : Pl w rb pb lo la lc L fr Rv Hv Mv ms) (hc : Ch l TL) (hk : s.k < TL.length) (hb : s.bad = 0) (hd : s.deep + d = 8) (hlo : s.loops <= 2) :
  Calls Tryz.prog 110 #[ptr rb] w (RoS w rb pb tb lo cap l TL d (s.bJ blk (aI d) l TL L)) := by
 by_cases n1 : bD (cur TL s) = [112, 117, 116]
 ·exact aHq blk h hp hc hk n1
 by_cases n2 : bD (cur TL s) = [101, 118, 105, 99, 116]
 ·exact aBw blk h hp hc hk n2
 by_cases n3 : bD (cur TL s) = [99, 111, 111, 108]
 ·exact aDz blk h hp hc hk n3
 by_cases n4 : bD (cur TL s) = [115, 104, 105, 102, 116]
 ·exact aBu blk h hp hc hk n4
 by_cases n5 : bD (cur TL s) = [105, 110, 99]
 ·exact aHr blk h hp hc hk n5
 by_cases n6 : bD (cur TL s) = [100, 101, 99]
 ·exact aHs blk h hp hc hk n6
 by_cases n7 : bD (cur TL s) = [100, 114, 111, 112]
 ·exact aDx blk h hp hc hk n7
 by_cases n8 : bD (cur TL s) = [98, 117, 109, 112]
 ·exact aD0 blk h hp hc hk n8
 by_cases n9 : bD (cur TL s) = [105, 102]
 ·exact aJo blk h hp hc hk n9 HB hd hlo
 by_cases n10 : bD (cur TL s) = [114, 101, 112, 101, 97, 116]
 ·by_cases hl : s.loops = 2
  ·exact aDy blk h hp hc hk n10 hb hl
  ·exact o9 blk h hp hc hk n10 HB hd hlo hl
 exact aBv blk h hp hc hk rfl hb n1 n2 n3 n4 n5 n6 n7 n8 n9 n10
def Go1 (TL : List Tok) (s s' : Rs) : Prop := s.k <= s'.k /\ s'.k < TL.length
theorem Go1.trans {a b c : Rs} (h : Go1 TL a b) (k : Go1 TL b c) : Go1 TL a c := ⟨Nat.le_trans h.1 k.1, k.2⟩
theorem vM {t : Tok} (x : List UInt8) (hc : Ch l TL) (hk : s.k < TL.length) (ht : TL[s.k]? = some t) (h1 : x ≠ [110, 111, 110, 101]) (h2 : x ≠ [101, 110, 100]) : Go1 TL s (s.need t x) := by
 refine ⟨?_, wK x hc hk ht h1 h2⟩
 unfold Rs.need
 repeat' split
 ·exact Nat.le_succ _
 ·exact zR
 ·exact zR
theorem go_num (hc : Ch l TL) (hk : s.k < TL.length) (a b : Nat) : Go1 TL s (s.num l (cur TL s) a b).2 := by
 refine ⟨?_, V4 hc hk a b⟩
 have := (vM [110, 117, 109] hc hk (aT hk) (by decide) (by decide)).1
 unfold Rs.num
 simp only
 repeat' split
 all_goals first | (rw [iO]; exact this) | exact this
theorem aAl (hc : Ch l TL) (hk : s.k < TL.length) (va : Bool) : Go1 TL s (s.bG l (cur TL s) L va).2 := by
 refine ⟨?_, oP hc hk va⟩
 have := (vM [110, 97, 109, 101] hc hk (aT hk) (by decide) (by decide)).1
 unfold Rs.bG
 repeat' split
 all_goals simp only
 all_goals repeat' split
 all_goals first | (rw [iO]; exact this) | exact this
theorem rF (hc : Ch l TL) (hk : s.k < TL.length) {x : List UInt8} (h : bD (cur TL s) = x) (h1 : x ≠ [110, 111, 110, 101]) (h2 : x ≠ [101, 110, 100]) : Go1 TL s s.aG := ⟨Nat.le_succ _, hc.aG hk h h1 h2⟩
theorem aKx (hc : Ch l TL) (hk : s.k < TL.length) : Go1 TL s (s.val l TL L).2 := by
 unfold Rs.val
 split
 ·exact go_num hc hk _ _
 ·split
  ·rename_i h2
   have := rF hc hk h2.2 (by decide) (by decide)
   exact this.trans (aAl hc this.2 _)
  ·split
   ·rename_i h3; exact rF hc hk h3.2 (by decide) (by decide)
   ·exact aAl hc hk _
theorem aGo (hc : Ch l TL) : ∀ (f : Nat) (s : Rs), s.k < TL.length -> Go1 TL s (s.bH TL f).2
 | 0, _, h => ⟨zR, h⟩
 | f + 1, s, h => by
  unfold Rs.bH
  split
  ·rename_i hx
   have := rF hc h hx.2 (by decide) (by decide)
   exact this.trans (aGo hc f _ this.2)
  ·exact ⟨zR, h⟩
theorem aN2 (hc : Ch l TL) (hk : s.k < TL.length) (m : Nat) : Go1 TL s (s.dF l TL L m).2 := by
 unfold Rs.dF
 have hn : ∀ x, bD (cur TL s) = x -> x ≠ [110, 111, 110, 101] -> x ≠ [101, 110, 100] -> Go1 TL s (s.aG.bG l (cur TL s.aG) L false).2 := fun x h h1 h2 => by
  have := rF hc hk h h1 h2
  exact this.trans (aAl hc this.2 _)
 split
 ·rename_i h1; exact hn _ h1.2 (by decide) (by decide)
 ·split
  ·rename_i h1; exact hn _ h1.2 (by decide) (by decide)
  ·split
   ·rename_i h1; exact hn _ h1.2 (by decide) (by decide)
   ·have g1 := aKx (L := L) hc hk
    have g2 := vM [60] hc g1.2 (aT g1.2) (by decide) (by decide)
    exact (g1.trans g2).trans (aKx hc g2.2)
theorem aKy (hc : Ch l TL) (hk : s.k < TL.length) : Go1 TL s (s.bU l TL L).2 := by
 have g1 := aGo hc TL.length s hk
 exact g1.trans (aN2 hc g1.2 _)
end
section
variable {w : World} {rb pb tb lo cap : Nat} {l : List UInt8} {TL : List Tok} {s : Rs}
variable {la : Option Addr} {lc : Nat} {L : List DL} {fr : Nat} {Rv Hv Mv : Value} {ms : Bool}
def G3 (TL : List Tok) (s s' : Rs) : Prop := Go1 TL s s' /\ DL2 s s'
theorem G3.trans {a b c : Rs} (h : G3 TL a b) (k : G3 TL b c) : G3 TL a c := ⟨h.1.trans k.1, h.2.trans k.2⟩
theorem lJ (hc : Ch l TL) (hk : s.k < TL.length) (x : List UInt8) (h1 : x ≠ [110, 111, 110, 101]) (h2 : x ≠ [101, 110, 100]) : G3 TL s (s.need (cur TL s) x) := ⟨vM x hc hk (aT hk) h1 h2, jE _ _ _⟩
theorem wM (hc : Ch l TL) (hk : s.k < TL.length) (va : Bool) : G3 TL s (s.bG l (cur TL s) L va).2 := ⟨aAl hc hk va, wQ _ _ _ _ _⟩
theorem aGq (hc : Ch l TL) (hk : s.k < TL.length) (c : Prop) [Decidable c] (hx : c -> bD (cur TL s) = [116, 97, 105, 108]) : G3 TL s (if c then s.aG else s) := by
 by_cases h : c
 ·rw [if_pos h]; exact ⟨rF hc hk (hx h) (by decide) (by decide), nJ _⟩
 ·rw [if_neg h]; exact ⟨⟨zR, hk⟩, rfl, rfl⟩
theorem aAk {β : Type} {blk : Rs -> β × Rs} {nil : β} (hB : ∀ s : Rs, s.k < TL.length -> G3 TL s (blk s).2) (hc : Ch l TL) (hk : s.k < TL.length) :
  G3 TL s (s.bJ blk nil l TL L).2 /\ ((s.bJ blk nil l TL L).2.bad ≠ 0 \/ s.k < (s.bJ blk nil l TL L).2.k) := by
 have up : ∀ (x : List UInt8) (r : Rs), bD (cur TL s) = x -> x ≠ [110, 111, 110, 101] -> x ≠ [101, 110, 100] -> (s.aG.k < TL.length -> G3 TL s.aG r) -> G3 TL s r /\ (r.bad ≠ 0 \/ s.k < r.k) := fun x r h h1 h2 hr => by
  have ga := rF hc hk h h1 h2
  have g := hr ga.2
  exact ⟨G3.trans ⟨ga, nJ _⟩ g, Or.inr (Nat.lt_of_lt_of_le (Nat.lt_succ_self _) g.1.1)⟩
 unfold Rs.bJ
 simp only
 split
 ·rename_i h
  refine up _ _ h (by decide) (by decide) fun ka => ?_
  have g1 := wM (l := l) (L := L) hc ka false
  have g2 := aGq hc g1.1.2 (decide ((s.aG.bG l (cur TL s.aG) L false).2.bad = 0 /\ bD (cur TL (s.aG.bG l (cur TL s.aG) L false).2) = [116, 97, 105, 108]) = true) (fun h => (of_decide_eq_true h).2)
  exact (g1.trans g2).trans (lJ hc g2.1.2 _ (by decide) (by decide))
 ·split
  ·rename_i h
   have one : ∀ x, bD (cur TL s) = x -> x ≠ [110, 111, 110, 101] -> x ≠ [101, 110, 100] -> _ := fun x hx h1 h2 => up x _ hx h1 h2 fun ka => by
    have g1 := wM (l := l) (L := L) hc ka false
    exact g1.trans (lJ hc g1.1.2 [59] (by decide) (by decide))
   rcases h with h | h
   ·exact one _ h (by decide) (by decide)
   ·exact one _ h (by decide) (by decide)
  ·split
   ·rename_i h
    refine up _ _ h (by decide) (by decide) fun ka => ?_
    have g1 := wM (l := l) (L := L) hc ka false
    have g1b := wM (l := l) (L := L) hc g1.1.2 false
    have g2 := aGq hc g1b.1.2 (decide (((s.aG.bG l (cur TL s.aG) L false).2.bG l (cur TL (s.aG.bG l (cur TL s.aG) L false).2) L false).2.bad = 0 /\ bD (cur TL ((s.aG.bG l (cur TL s.aG) L false).2.bG l (cur TL (s.aG.bG l (cur TL s.aG) L false).2) L false).2) = [116, 97, 105, 108]) = true) (fun h => (of_decide_eq_true h).2)
    exact ((g1.trans g1b).trans g2).trans (lJ hc g2.1.2 _ (by decide) (by decide))
   ·split
    ·rename_i h
     have one : ∀ x, bD (cur TL s) = x -> x ≠ [110, 111, 110, 101] -> x ≠ [101, 110, 100] -> _ := fun x hx h1 h2 => up x _ hx h1 h2 fun ka => by
      have g1 := wM (l := l) (L := L) hc ka true
      exact g1.trans (lJ hc g1.1.2 [59] (by decide) (by decide))
     rcases h with h | h
     ·exact one _ h (by decide) (by decide)
     ·exact one _ h (by decide) (by decide)
    ·split
     ·rename_i h
      have one : ∀ x, bD (cur TL s) = x -> x ≠ [110, 111, 110, 101] -> x ≠ [101, 110, 100] -> _ := fun x hx h1 h2 => up x _ hx h1 h2 fun ka => lJ hc ka [59] (by decide) (by decide)
      rcases h with h | h
      ·exact one _ h (by decide) (by decide)
      ·exact one _ h (by decide) (by decide)
     ·split
      ·rename_i h
       have gc : s.aG.k < TL.length -> G3 TL s.aG (s.aG.bU l TL L).2 := fun ka => ⟨aKy hc ka, rP _ _ _ _⟩
       split
       ·rename_i he
        refine up _ _ h (by decide) (by decide) fun ka => ?_
        have g1 := gc ka
        have g2 := hB _ g1.1.2
        have g3 : G3 TL _ _ := ⟨rF hc g2.1.2 he.2 (by decide) (by decide), nJ _⟩
        exact ((g1.trans g2).trans g3).trans (hB _ g3.1.2)
       ·refine up _ _ h (by decide) (by decide) fun ka => ?_
        exact (gc ka).trans (hB _ (gc ka).1.2)
      ·split
       ·rename_i h
        split
        ·exact ⟨⟨⟨zR, hk⟩, rfl, rfl⟩, Or.inl (by simp [Rs.fail])⟩
        ·refine up _ _ h (by decide) (by decide) fun ka => ?_
         have g1 : G3 TL s.aG (s.aG.num l (cur TL s.aG) 1 50).2 := ⟨go_num hc ka 1 50, wP _ _ _ _ _⟩
         have g2 := lJ hc g1.1.2 [119, 104, 105, 108, 101] (by decide) (by decide)
         have g3 : G3 TL _ _ := ⟨aKy (L := L) hc g2.1.2, rP _ l TL L⟩
         have g := (g1.trans g2).trans g3
         generalize ((s.aG.num l (cur TL s.aG) 1 50).2.need (cur TL (s.aG.num l (cur TL s.aG) 1 50).2) [119, 104, 105, 108, 101]).bU l TL L = c at *
         have g4 := hB { c.2 with loops := c.2.loops + 1 } g3.1.2
         generalize blk { c.2 with loops := c.2.loops + 1 } = p at *
         refine ⟨⟨Nat.le_trans g.1.1 g4.1.1, g4.1.2⟩, g4.2.1.trans g.2.1, ?_⟩
         have e1 : p.2.loops = c.2.loops + 1 := g4.2.2
         have e2 : c.2.loops = s.aG.loops := g.2.2
         show p.2.loops - 1 = s.aG.loops
         omega
       ·exact ⟨⟨⟨zR, hk⟩, rfl, rfl⟩, Or.inl (by simp [Rs.fail])⟩
def gX {X : Type} (bJ : Rs -> X × Rs) (TL : List Tok) : Nat -> Rs -> List X × Rs
 | 0, s => ([], s)
 | f + 1, s => if s.bad = 0 /\ ¬ bD (cur TL s) = [125] then ((bJ s).1 :: (gX bJ TL f (bJ s).2).1, (gX bJ TL f (bJ s).2).2) else ([], s)
def Rs.lQ (s : Rs) (TL : List Tok) : Rs := if (s.bad = 0 /\ bD (cur TL s) = [123]) /\ s.deep = 8 then s.fail 3 (cur TL s) else s
def Rs.opn (s : Rs) (TL : List Tok) : Rs := { (s.lQ TL).need (cur TL (s.lQ TL)) [123] with deep := ((s.lQ TL).need (cur TL (s.lQ TL)) [123]).deep + 1 }
def Rs.cls (s : Rs) (TL : List Tok) : Rs := { s.need (cur TL s) [125] with deep := (s.need (cur TL s) [125]).deep - 1 }
def Rs.blk (l : List UInt8) (TL : List Tok) (L : List DL) : (d : Nat) -> Rs -> RT d × Rs
 | 0, s => ((), (s.opn TL).cls TL)
 | d + 1, s => ((gX (fun s => s.bJ (Rs.blk l TL L d) (aI d) l TL L) TL TL.length (s.opn TL)).1, (gX (fun s => s.bJ (Rs.blk l TL L d) (aI d) l TL L) TL TL.length (s.opn TL)).2.cls TL)
theorem zY (hc : Ch l TL) (hk : s.k < TL.length) : Go1 TL s (s.opn TL) /\ (s.opn TL).deep = s.deep + 1 /\ (s.opn TL).loops = s.loops := by
 have h0 : Go1 TL s (s.lQ TL) /\ DL2 s (s.lQ TL) := by
  unfold Rs.lQ
  split
  ·exact ⟨⟨zR, hk⟩, rfl, rfl⟩
  ·exact ⟨⟨zR, hk⟩, rfl, rfl⟩
 have h1 := lJ hc h0.1.2 [123] (by decide) (by decide)
 refine ⟨h0.1.trans h1.1, ?_, h1.2.2.trans h0.2.2⟩
 show _ + 1 = _
 rw [h1.2.1, h0.2.1]
theorem aPa (hc : Ch l TL) (hk : s.k < TL.length) : Go1 TL s (s.cls TL) /\ (s.cls TL).deep = s.deep - 1 /\ (s.cls TL).loops = s.loops := by
 have h1 := lJ hc hk [125] (by decide) (by decide)
 refine ⟨h1.1, ?_, h1.2.2⟩
 show _ - 1 = _
 rw [h1.2.1]
theorem aJj {X : Type} {bJ : Rs -> X × Rs} (hs : ∀ s : Rs, s.k < TL.length -> G3 TL s (bJ s).2) : ∀ (f : Nat) (s : Rs), s.k < TL.length -> G3 TL s (gX bJ TL f s).2
 | 0, _, h => ⟨⟨zR, h⟩, rfl, rfl⟩
 | f + 1, s, h => by
  unfold gX
  split
  ·have g := hs s h
   exact g.trans (aJj hs f _ g.1.2)
  ·exact ⟨⟨zR, h⟩, rfl, rfl⟩
theorem vX (hc : Ch l TL) : ∀ (d : Nat) (s : Rs), s.k < TL.length -> G3 TL s (s.blk l TL L d).2
 | 0, s, h => by
  have h1 := zY hc h
  have h2 := aPa hc h1.1.2
  refine ⟨h1.1.trans h2.1, ?_, h2.2.2.trans h1.2.2⟩
  show ((s.opn TL).cls TL).deep = s.deep
  rw [h2.2.1, h1.2.1]
  rfl
 | d + 1, s, h => by
  have h1 := zY hc h
  have hs := aJj (bJ := fun s => s.bJ (Rs.blk l TL L d) (aI d) l TL L) (fun s hk => (aAk (fun s hk => vX hc d s hk) hc hk).1) TL.length (s.opn TL) h1.1.2
  have h2 := aPa hc hs.1.2
  refine ⟨(h1.1.trans hs.1).trans h2.1, ?_, (h2.2.2.trans hs.2.2).trans h1.2.2⟩
  show (Rs.cls _ TL).deep = s.deep
  rw [h2.2.1, hs.2.1, h1.2.1]
  rfl
end
section
variable {w : World} {rb pb tb lo cap : Nat} {l : List UInt8} {TL : List Tok} {s : Rs}
variable {la : Option Addr} {lc : Nat} {L : List DL} {fr : Nat} {Rv Hv Mv : Value} {ms : Bool}
theorem aF9 (hx : ¬ (s.bad = 0 /\ bD (cur TL s) = [123]) \/ s.deep = 8) : (s.opn TL).bad ≠ 0 := by
 show ((s.lQ TL).need (cur TL (s.lQ TL)) [123]).bad ≠ 0
 intro h
 have h1 := V5 h
 unfold Rs.lQ at h1
 split at h1
 ·simp [Rs.fail] at h1
 ·rename_i hn
  rcases hx with hx | hx
  ·exact hx ⟨h1.1, h1.2.1⟩
  ·exact hn ⟨⟨h1.1, h1.2.1⟩, hx⟩
theorem aBm {X : Type} {bJ : Rs -> X × Rs} (f : Nat) (h : s.bad ≠ 0) : gX bJ TL f s = ([], s) := by
 cases f with
 | zero => rfl
 | succ f => unfold gX; rw [if_neg (fun hh => h hh.1)]
theorem yR (d : Nat) (h : (s.opn TL).bad ≠ 0) : s.blk l TL L d = (aI d, (s.opn TL).cls TL) := by
 cases d with
 | zero => rfl
 | succ d => unfold Rs.blk; rw [aBm _ h]; rfl
theorem aJt (d : Nat) (h : Rd w rb pb tb lo cap l TL s) (hc : Ch l TL) (hk : s.k < TL.length) (hd : s.deep <= 8) (_hlo : s.loops <= 2) (hx : ¬ (s.bad = 0 /\ bD (cur TL s) = [123]) \/ s.deep = 8) :
  Calls Tryz.prog 75 #[ptr rb] w (Ro w rb pb tb lo cap l TL aF (s.blk l TL L d).2) := by
 have hoB := aF9 hx
 have hoD : (s.opn TL).deep <= 9 := by have := (zY hc hk).2.1; omega
 have hoK := (zY hc hk).1.2
 have HVB : Hid (s.blk l TL L d = (aI d, (s.opn TL).cls TL)) := yR d hoB
 generalize s.blk l TL L d = v at *
 go_enter Tryz.func75, Tryz.ntmps75
 by_cases cA : s.bad = 0 /\ bD (cur TL s) = [123]
 ·have h8 : s.deep = 8 := by rcases hx with hx | hx; exact absurd cA hx; exact hx
  have h82 : ((s.deep : Int) == 8) = true := by simp; omega
  have xK : s.lQ TL = s.fail 3 (cur TL s) := by unfold Rs.lQ; rw [if_pos ⟨cA, h8⟩]
  have hkO : (s.fail 3 (cur TL s)).k < TL.length := hk
  clear hx
  have HI := yA h hk [123] cA
  go_wp2_with fail
  refine HI.mono ?_
  rintro e w1 ⟨rfl, H1, B1⟩
  clear HI
  obtain ⟨c1, f1⟩ := aA H1.at'
  have HF := pU H1 cA.1 (aT hk) 3
  go_wp2_with fail
  refine HF.mono ?_
  rintro e w2 ⟨rfl, H2, B2'⟩
  clear HF
  have B2 := B1.trans B2'
  have HM := bQ H2 (aT hkO) [123]
  generalize hS1 : (s.fail 3 (cur TL s)).need (cur TL (s.fail 3 (cur TL s))) [123] = s1 at *
  go_wp2_with fail
  refine HM.mono ?_
  rintro e w3 ⟨rfl, H3, B3'⟩
  clear HM
  have B3 := B2.trans B3'
  obtain ⟨c3, f3⟩ := aA H3.at'
  have H4 := H3.set 2 (.int .i64 (s1.deep + 1 : Nat)) { s1 with deep := s1.deep + 1 } rfl
  have B4 := B3.own 2 (.int .i64 (s1.deep + 1 : Nat))
  have hS : s.opn TL = { s1 with deep := s1.deep + 1 } := by unfold Rs.opn; rw [xK, hS1]
  have hds : s1.deep <= 8 := by have := hoD; rw [hS] at this; simp at this; omega
  have hkS : s1.k < TL.length := by have := hoK; rw [hS] at this; exact this
  have hbS : s1.bad ≠ 0 := by have := hoB; rw [hS] at this; exact this
  have HV : Hid (v = (aI _, (s.opn TL).cls TL)) := HVB.out
  rw [hS] at HV
  clear hS hoB hoK hoD hS1
  have hb2 : ((s1.bad : Int) == 0) = false := by simp; omega
  obtain ⟨c4, f4⟩ := aA H4.at'
  go_wp2_with fail
  refine wp_loop_once ?_
  go_wp2_with fail
  have HM := bQ H4 (aT (s := { s1 with deep := s1.deep + 1 }) hkS) [125]
  have hv := HV.out
  subst hv
  clear HV
  have hdl := (jE { s1 with deep := s1.deep + 1 } (cur TL { s1 with deep := s1.deep + 1 }) [125]).1
  have hd5 : 1 <= (Rs.need { s1 with deep := s1.deep + 1 } (cur TL { s1 with deep := s1.deep + 1 }) [125]).deep /\ (Rs.need { s1 with deep := s1.deep + 1 } (cur TL { s1 with deep := s1.deep + 1 }) [125]).deep <= 9 := by rw [hdl]; show 1 <= s1.deep + 1 /\ s1.deep + 1 <= 9; omega
  clear hdl
  have HS5 : Hid (Rs.cls { s1 with deep := s1.deep + 1 } TL = { (Rs.need { s1 with deep := s1.deep + 1 } (cur TL { s1 with deep := s1.deep + 1 }) [125]) with deep := (Rs.need { s1 with deep := s1.deep + 1 } (cur TL { s1 with deep := s1.deep + 1 }) [125]).deep - 1 }) := rfl
  generalize Rs.need { s1 with deep := s1.deep + 1 } (cur TL { s1 with deep := s1.deep + 1 }) [125] = s5 at *
  refine HM.mono ?_
  rintro e w5 ⟨rfl, H5, B5'⟩
  clear HM
  have B5 := B4.trans B5'
  obtain ⟨c5, f5⟩ := aA H5.at'
  have H6 := H5.set 2 (.int .i64 (s5.deep - 1 : Nat)) { s5 with deep := s5.deep - 1 } rfl
  have B6 := B5.own 2 (.int .i64 (s5.deep - 1 : Nat))
  have en : ((s5.deep - 1 : Nat) : Int) = (s5.deep : Int) - 1 := by omega
  rw [en] at H6 B6
  go_wp2_with fail
  go_ret
  exact ⟨rfl, by show Rd _ _ _ _ _ _ _ _ (Rs.cls { s1 with deep := s1.deep + 1 } TL); rw [HS5.out]; exact H6, B6⟩
 ·have xK : s.lQ TL = s := by unfold Rs.lQ; rw [if_neg (fun hh => cA hh.1)]
  have hkO := hk
  clear hx
  have HI := aD1 h hk [123] cA
  go_wp2_with fail
  refine HI.mono ?_
  rintro e w1 ⟨rfl, H1, B1⟩
  clear HI
  obtain ⟨c1, f1⟩ := aA H1.at'
  have HM := bQ H1 (aT hkO) [123]
  generalize hS1 : s.need (cur TL s) [123] = s1 at *
  go_wp2_with fail
  refine HM.mono ?_
  rintro e w3 ⟨rfl, H3, B3'⟩
  clear HM
  have B3 := B1.trans B3'
  obtain ⟨c3, f3⟩ := aA H3.at'
  have H4 := H3.set 2 (.int .i64 (s1.deep + 1 : Nat)) { s1 with deep := s1.deep + 1 } rfl
  have B4 := B3.own 2 (.int .i64 (s1.deep + 1 : Nat))
  have hS : s.opn TL = { s1 with deep := s1.deep + 1 } := by unfold Rs.opn; rw [xK, hS1]
  have hds : s1.deep <= 8 := by have := hoD; rw [hS] at this; simp at this; omega
  have hkS : s1.k < TL.length := by have := hoK; rw [hS] at this; exact this
  have hbS : s1.bad ≠ 0 := by have := hoB; rw [hS] at this; exact this
  have HV : Hid (v = (aI _, (s.opn TL).cls TL)) := HVB.out
  rw [hS] at HV
  clear hS hoB hoK hoD hS1
  have hb2 : ((s1.bad : Int) == 0) = false := by simp; omega
  obtain ⟨c4, f4⟩ := aA H4.at'
  go_wp2_with fail
  refine wp_loop_once ?_
  go_wp2_with fail
  have HM := bQ H4 (aT (s := { s1 with deep := s1.deep + 1 }) hkS) [125]
  have hv := HV.out
  subst hv
  clear HV
  have hdl := (jE { s1 with deep := s1.deep + 1 } (cur TL { s1 with deep := s1.deep + 1 }) [125]).1
  have hd5 : 1 <= (Rs.need { s1 with deep := s1.deep + 1 } (cur TL { s1 with deep := s1.deep + 1 }) [125]).deep /\ (Rs.need { s1 with deep := s1.deep + 1 } (cur TL { s1 with deep := s1.deep + 1 }) [125]).deep <= 9 := by rw [hdl]; show 1 <= s1.deep + 1 /\ s1.deep + 1 <= 9; omega
  clear hdl
  have HS5 : Hid (Rs.cls { s1 with deep := s1.deep + 1 } TL = { (Rs.need { s1 with deep := s1.deep + 1 } (cur TL { s1 with deep := s1.deep + 1 }) [125]) with deep := (Rs.need { s1 with deep := s1.deep + 1 } (cur TL { s1 with deep := s1.deep + 1 }) [125]).deep - 1 }) := rfl
  generalize Rs.need { s1 with deep := s1.deep + 1 } (cur TL { s1 with deep := s1.deep + 1 }) [125] = s5 at *
  refine HM.mono ?_
  rintro e w5 ⟨rfl, H5, B5'⟩
  clear HM
  have B5 := B4.trans B5'
  obtain ⟨c5, f5⟩ := aA H5.at'
  have H6 := H5.set 2 (.int .i64 (s5.deep - 1 : Nat)) { s5 with deep := s5.deep - 1 } rfl
  have B6 := B5.own 2 (.int .i64 (s5.deep - 1 : Nat))
  have en : ((s5.deep - 1 : Nat) : Int) = (s5.deep : Int) - 1 := by omega
  rw [en] at H6 B6
  go_wp2_with fail
  go_ret
  exact ⟨rfl, by show Rd _ _ _ _ _ _ _ _ (Rs.cls { s1 with deep := s1.deep + 1 } TL); rw [HS5.out]; exact H6, B6⟩
end
section
variable {w : World} {rb pb tb lo cap : Nat} {l : List UInt8} {TL : List Tok} {s : Rs}
variable {la : Option Addr} {lc : Nat} {L : List DL} {fr : Nat} {Rv Hv Mv : Value} {ms : Bool}
theorem aB4 {w : World} {base : Nat} {e : TypeId} {size n : Nat} {v : Value} {xs : List Value} (h : w.ownsRow base e size v n xs) : w.ownsRow 0 e size v n xs := by
 refine ⟨h.1, ?_⟩
 rcases h.2 with h0 | ⟨g, cap, cur, hv, hg, r⟩
 ·exact Or.inl h0
 ·exact Or.inr ⟨g, cap, cur, hv, Nat.zero_le _, r⟩
theorem dI.there : ∀ (d : Nat) {w : World} {N : Nat -> Prop} (v : Value) (x : RT d), dI d w N v x -> dI d w (fun g => N g /\ g < w.heap.size) v x
 | 0, _, _, _, _, h => h
 | d + 1, _, _, _, _, ⟨rows, h1, h2, h3⟩ => ⟨rows, mP.mono (fun v x h => dI.there d v x h) _ _ h1, h2, fun g hg => ⟨h3 g hg, (h2.lt g hg).2⟩⟩
theorem aNs : (Tryz.prog.info? 160).map (fun i => (i.zero, i.size, i.bytes)) = some (some (.agg (mJ (rt0 []) aF aF)), 14, 176) := by kernel_rfl
theorem aM7 (x : Rt) (a : Option Addr) (n c : Nat) (a' : Option Addr) (n' c' : Nat) : ∀ u ∈ (mJ x (.slice a n c) (.slice a' n' c')).toList, u.oneCell' = true := by
 have h : (mJ x (.slice a n c) (.slice a' n' c')).toList.all (·.oneCell') = true := by simp [Value.oneCell']
 exact fun u hu => List.all_eq_true.1 h u hu
theorem aEs (rows : List (Rt × Value × Value)) (r : Rt × Value × Value) : X5 (rows ++ [r]) = X5 rows ++ (mJ r.1 r.2.1 r.2.2).toList := by simp [X5]
theorem wE {X : Type} {bJ : Rs -> X × Rs} (f : Nat) (h : ¬ (s.bad = 0 /\ ¬ bD (cur TL s) = [125])) : gX bJ TL f s = ([], s) := by
 cases f with
 | zero => rfl
 | succ f => unfold gX; rw [if_neg h]
theorem aH1 (d : Nat) (HB : aLy rb pb tb lo cap l TL la lc L fr Rv Hv Mv ms d (Rs.blk l TL L d)) (h : Rd w rb pb tb lo cap l TL s) (hp : Pl w rb pb lo la lc L fr Rv Hv Mv ms) (hc : Ch l TL) (hk : s.k < TL.length) (hd : s.deep + (d + 1) = 8) (hlo : s.loops <= 2) (cA : s.bad = 0 /\ bD (cur TL s) = [123]) :
  Calls Tryz.prog 75 #[ptr rb] w fun e w' => ∃ v, e = .returned v /\ dI (d + 1) w' (fun g => w.heap.size <= g) v (s.blk l TL L (d + 1)).1 /\ Rd w' rb pb tb lo cap l TL (s.blk l TL L (d + 1)).2 /\ But rb w w' := by
 have hoD : (s.opn TL).deep <= 9 := by have := (zY hc hk).2.1; omega
 have HoD : Hid ((s.opn TL).deep = s.deep + 1 /\ (s.opn TL).loops = s.loops) := (zY hc hk).2
 have hoK := (zY hc hk).1.2
 have hlen := h.len
 have hrb : rb < w.heap.size := (zL h.at')
 have HV : Hid (@Eq (List (Rt × RT d × RT d) × Rs) (s.blk l TL L (d + 1)) ((gX (fun s => s.bJ (Rs.blk l TL L d) (aI d) l TL L) TL TL.length (s.opn TL)).1, (gX (fun s => s.bJ (Rs.blk l TL L d) (aI d) l TL L) TL TL.length (s.opn TL)).2.cls TL)) := rfl
 generalize s.blk l TL L (d + 1) = v at *
 have h82 : ((s.deep : Int) == 8) = false := by rw [beq_eq_false_iff_ne]; omega
 have xK : s.lQ TL = s := by unfold Rs.lQ; rw [if_neg (fun hh => by omega)]
 have hkO := hk
 go_enter Tryz.func75, Tryz.ntmps75
 have HI := yA h hk [123] cA
 go_wp2_with fail
 refine HI.mono ?_
 rintro e w1 ⟨rfl, H1, B1⟩
 clear HI
 obtain ⟨c1, f1⟩ := aA H1.at'
 have HM := bQ H1 (aT hkO) [123]
 generalize hS1 : s.need (cur TL s) [123] = s1 at *
 go_wp2_with fail
 refine HM.mono ?_
 rintro e w3 ⟨rfl, H3, B3'⟩
 clear HM
 have B3 := B1.trans B3'
 obtain ⟨c3, f3⟩ := aA H3.at'
 have H4 := H3.set 2 (.int .i64 (s1.deep + 1 : Nat)) { s1 with deep := s1.deep + 1 } rfl
 have B4 := B3.own 2 (.int .i64 (s1.deep + 1 : Nat))
 have hS : s.opn TL = { s1 with deep := s1.deep + 1 } := by unfold Rs.opn; rw [xK, hS1]
 have hds : s1.deep <= 8 := by have := hoD; rw [hS] at this; simp at this; omega
 have hkS : s1.k < TL.length := by have := hoK; rw [hS] at this; exact this
 rw [<- hS] at H4
 clear hS hoD hS1 xK h82
 go_wp2_with fail
 have H4' : Rd (w3.setCell ⟨rb, 2, none⟩ (.int .i64 ((s1.deep : Int) + 1))) rb pb tb lo cap l TL (s.opn TL) := H4
 have B4' : But rb w (w3.setCell ⟨rb, 2, none⟩ (.int .i64 ((s1.deep : Int) + 1))) := B4
 generalize w3.setCell ⟨rb, 2, none⟩ (.int .i64 ((s1.deep : Int) + 1)) = w4 at *
 generalize s.opn TL = s4 at *
 clear H4 B4 H3 B3' B3 c3 f3 H1 B1 c1 f1
 go_loopg [3] TL.length (fun f v3 wr => ∃ (rows : List (Rt × Value × Value)) (xs : List (Rt × RT d × RT d)) (si : Rs), Rd wr rb pb tb lo cap l TL si /\ But rb w wr /\ si.k < TL.length /\ (si.bad ≠ 0 \/ TL.length <= f + si.k) /\ rows.length + f <= TL.length /\ Hid (si.deep = s.deep + 1 /\ si.loops = s.loops) /\ wr.ownsRow w.heap.size 160 14 v3 rows.length (X5 rows) /\ mP (dI d wr (fun g => w.heap.size <= g /\ v3.ownBlock ≠ some g)) rows xs /\ Hid (@Eq (List (Rt × RT d × RT d) × Rs) v (xs ++ (gX (fun s => s.bJ (Rs.blk l TL L d) (aI d) l TL L) TL f si).1, (gX (fun s => s.bJ (Rs.blk l TL L d) (aI d) l TL L) TL f si).2.cls TL)))
 case atStart =>
  refine ⟨[], [], s4, H4', B4', hoK, Or.inr (by omega), by simp, HoD, World.ownsRow_nil _ _ _ _, trivial, ?_⟩
  show _ = _
  rw [HV.out]
  simp
 case round =>
  obtain ⟨rows, xs, si, HX, BX, hkX, hfu, hn, HDl, hown, dW, HVl⟩ := hrel
  clear HV HoD H4' B4' hoK
  by_cases go : si.bad = 0 /\ ¬ bD (cur TL si) = [125]
  ·obtain ⟨f, rfl⟩ : ∃ f, gk = f + 1 := ⟨gk - 1, by have := go.1; omega⟩
   have hb2 : ((si.bad : Int) == 0) = true := by simp [go.1]
   obtain ⟨cX, fX⟩ := aA HX.at'
   have HI := aD1 HX hkX [125] (fun hh => go.2 hh.2)
   go_wp2_with fail
   refine HI.mono ?_
   rintro e w5 ⟨rfl, H5, B5'⟩
   clear HI
   have B5 := BX.trans B5'
   have hz5 := B5.size
   have hzr := BX.size
   have HT := aHt HB H5 (hp.but B5) hc hkX go.1 (by have := HDl.out.1; omega) (by have := HDl.out.2; omega)
   have hgo := aAk (nil := aI d) (L := L) (fun s hk => vX (L := L) hc d s hk) hc hkX
   have HS : Hid (@Eq (List (Rt × RT d × RT d) × Rs) v ((xs ++ [(si.bJ (Rs.blk l TL L d) (aI d) l TL L).1]) ++ (gX (fun s => s.bJ (Rs.blk l TL L d) (aI d) l TL L) TL f (si.bJ (Rs.blk l TL L d) (aI d) l TL L).2).1, (gX (fun s => s.bJ (Rs.blk l TL L d) (aI d) l TL L) TL f (si.bJ (Rs.blk l TL L d) (aI d) l TL L).2).2.cls TL)) := by
    show _ = _
    rw [HVl.out]
    conv => lhs; unfold gX
    rw [if_pos go]
    simp
   clear HVl
   have hown5 := aW hown (fun g hg hl => B5'.block g hl (by have := (hown.lt g hg).1; omega))
   have hlt3 : ∀ g, u3.ownBlock = some g -> w.heap.size <= g /\ g < wr.heap.size := fun g hg => hown.lt g hg
   have hold : mP (dI d w5 (fun g => w.heap.size <= g /\ g < wr.heap.size /\ u3.ownBlock ≠ some g)) rows xs := by
    refine mP.mono (fun v x hv => ?_) _ _ dW
    refine dI.move d (fun g hg hl => B5'.block g (by omega) (by omega)) v x ?_
    exact dI.mono d (fun g hg => ⟨hg.1.1, hg.2, hg.1.2⟩) v x (dI.there d v x hv)
   clear dW hown
   generalize si.bJ (Rs.blk l TL L d) (aI d) l TL L = q at *
   go_wp2_with fail
   refine HT.mono ?_
   rintro e w6 ⟨y, z, rfl, ty, tz, H6, B6'⟩
   clear HT
   obtain ⟨va, vn, vc, rfl⟩ := dI.form d _ _ ty
   obtain ⟨ua, un, uc, rfl⟩ := dI.form d _ _ tz
   have B6 := B5.trans B6'
   have hz6 := B6'.size
   have aVc := B5'.size
   have hown6 := aW hown5 (fun g hg hl => B6'.block g hl (by have := (hlt3 g hg).1; omega))
   have aSb : mP (dI d w6 (fun g => w.heap.size <= g /\ g < wr.heap.size /\ u3.ownBlock ≠ some g)) rows xs :=
    mP.mono (fun v x hv => dI.move d (fun g hg hl => B6'.block g hl (by omega)) v x hv) _ _ hold
   clear hold hown5 B6'
   dsimp only
   iterate 4 go_step
   obtain ⟨i0, hi, hz0, hz1, hz2⟩ := aGm aNs
   refine wpList_append_own_at (P := Tryz.prog) _ rfl (.tmp 34) (.tmp 37) 80 rfl w.heap.size 160 i0 (.agg (mJ (rt0 []) aF aF)) 14 176 Tryz.underlying80 hi hz0 hz1 hz2 rfl (by decide) u3 rows.length (X5 rows) rfl (aW hown6 (fun g hg hl => zM _ _ _ hl)) ⟨w6.heap.size, 0, none⟩ 1 1 (mJ q.1.1 (.slice va vn vc) (.slice ua un uc)).toList rfl rfl (aJp _ _ _) (aM7 _ _ _ _ _ _ _) (by simp only [maxLen]; omega) (by omega) (by simp; omega) ?_
   intro v' w7 aCh hgrow hnil hat
   go_wp2_with fail
   go_roundg f
   case measure => omega
   case rel =>
    have hag : ∀ g, g < w6.heap.size -> u3.ownBlock ≠ some g -> w7.heap[g]? = w6.heap[g]? := fun g hl hne => (hgrow.block g (by simp; omega) (fun e => hne e.symm)).trans (zM _ _ _ hl)
    have hvn : ∀ g, g < w6.heap.size -> u3.ownBlock ≠ some g -> v'.ownBlock ≠ some g := fun g hl hne e => by
     rcases hat with h1 | h1
     ·exact hne (h1.symm.trans e)
     ·rw [h1] at e; simp at e; omega
    have hgz := hgrow.size
    simp at hgz
    have aTl : rb < w6.heap.size := by omega
    have hrn : u3.ownBlock ≠ some rb := fun e => by have := (hlt3 rb e).1; omega
    have htb : tb < w.heap.size := (h.own.lt tb rfl).2
    have B7 : But rb w w7 := ⟨hgrow.os.trans B6.os, hgrow.tape.trans B6.tape, hgrow.output.trans B6.output, by have := B6.size; omega, fun k hk' hn' => (hag k (by have := B6.size; omega) (fun e => by have := (hlt3 k e).1; omega)).trans (B6.block k hk' hn')⟩
    have H7 : Rd w7 rb pb tb lo cap l TL q.2 := ⟨(hag rb aTl hrn).trans H6.at', aW H6.own (fun g hg hl => hag g hl (fun e => by
     have e1 : g = tb := by simpa [Value.ownBlock] using hg.symm
     have := (hlt3 g e).1
     omega)), H6.ne, H6.len⟩
    refine ⟨rows ++ [(q.1.1, .slice va vn vc, .slice ua un uc)], xs ++ [q.1], q.2, H7, B7, hgo.1.1.2, ?_, by simp; omega, ⟨hgo.1.2.1.trans HDl.out.1, hgo.1.2.2.trans HDl.out.2⟩, ?_, ?_, HS⟩
    ·rcases hgo.2 with h1 | h1
     ·exact Or.inl h1
     ·rcases hfu with h2 | h2
      ·exact absurd go.1 h2
      ·exact Or.inr (by omega)
    ·rw [aEs]; simpa using aCh
    ·refine mP.snoc (q.1.1, .slice va vn vc, .slice ua un uc) q.1 rfl ?_ ?_ rows xs ?_
     ·refine dI.mono d (fun g hg => ⟨by have := hg.1; omega, hvn g hg.2 (fun e => by have := hlt3 g e; have := hg.1; omega)⟩) _ _ (dI.move d (fun g hg hl => hag g hl (fun e => by have := hlt3 g e; have := hg.1; omega)) _ _ (dI.there d _ _ ty))
     ·refine dI.mono d (fun g hg => ⟨by have := hg.1; omega, hvn g hg.2 (fun e => by have := hlt3 g e; have := hg.1; omega)⟩) _ _ (dI.move d (fun g hg hl => hag g hl (fun e => by have := hlt3 g e; have := hg.1; omega)) _ _ (dI.there d _ _ tz))
     ·refine mP.mono (fun v x hv => ?_) _ _ aSb
      exact dI.mono d (fun g hg => ⟨hg.1, hvn g (by have := hg.2.1; omega) hg.2.2⟩) v x (dI.move d (fun g hg hl => hag g hl hg.2.2) v x hv)
  ·have HVe : Hid (@Eq (List (Rt × RT d × RT d) × Rs) v (xs, si.cls TL)) := by
    show _ = _
    rw [HVl.out, wE _ go]
    simp
   clear HVl
   have hv := HVe.out
   subst hv
   clear HVe hfu
   obtain ⟨cX, fX⟩ := aA HX.at'
   by_cases hbz : si.bad = 0
   ·have hb2 : ((si.bad : Int) == 0) = true := by simp [hbz]
    have hrr : bD (cur TL si) = [125] := by
     by_cases e : bD (cur TL si) = [125]
     ·exact e
     ·exact absurd ⟨hbz, e⟩ go
    have HI := yA HX hkX [125] ⟨hbz, hrr⟩
    go_wp2_with fail
    refine HI.mono ?_
    rintro e w4x ⟨rfl, HY, BY⟩
    clear HI
    go_wp2_with fail
    have HM := bQ HY (aT hkX) [125]
    have hdl := (jE si (cur TL si) [125]).1
    have hd5 : 1 <= (si.need (cur TL si) [125]).deep /\ (si.need (cur TL si) [125]).deep <= 9 := by rw [hdl, HDl.out.1]; omega
    clear hdl
    have HS5 : Hid (si.cls TL = { si.need (cur TL si) [125] with deep := (si.need (cur TL si) [125]).deep - 1 }) := rfl
    generalize si.need (cur TL si) [125] = s5 at *
    refine HM.mono ?_
    rintro e w5 ⟨rfl, H5, B5'⟩
    clear HM
    have B5 := (BX.trans BY).trans B5'
    obtain ⟨c5, f5⟩ := aA H5.at'
    have H6 := H5.set 2 (.int .i64 (s5.deep - 1 : Nat)) { s5 with deep := s5.deep - 1 } rfl
    have B6 := B5.own 2 (.int .i64 (s5.deep - 1 : Nat))
    have en : ((s5.deep - 1 : Nat) : Int) = (s5.deep : Int) - 1 := by omega
    rw [en] at H6 B6
    have mv : ∀ g, w.heap.size <= g -> g < wr.heap.size -> (w5.setCell ⟨rb, 2, none⟩ (.int .i64 ((s5.deep : Int) - 1))).heap[g]? = wr.heap[g]? := fun g hg hl => (zS _ _ _ _ (by show g ≠ rb; omega)).trans ((BY.trans B5').block g hl (by omega))
    have hown6 := aW hown (fun g hg hl => mv g (hown.lt g hg).1 hl)
    have aKs := mP.mono (fun v x hv => dI.mono d (N' := fun g => w.heap.size <= g) (fun g hg => hg.1) v x (dI.move d (fun g hg hl => mv g hg.1 hl) v x hv)) _ _ dW
    go_wp2_with fail
    go_ret
    refine ⟨_, rfl, ⟨rows, aKs, aB4 hown6, fun g hg => (hown6.lt g hg).1⟩, ?_, B6⟩
    show Rd _ _ _ _ _ _ _ _ (si.cls TL)
    rw [HS5.out]
    exact H6
   ·have hb2 : ((si.bad : Int) == 0) = false := by simp; omega
    go_wp2_with fail
    have HM := bQ HX (aT hkX) [125]
    have hdl := (jE si (cur TL si) [125]).1
    have hd5 : 1 <= (si.need (cur TL si) [125]).deep /\ (si.need (cur TL si) [125]).deep <= 9 := by rw [hdl, HDl.out.1]; omega
    clear hdl
    have HS5 : Hid (si.cls TL = { si.need (cur TL si) [125] with deep := (si.need (cur TL si) [125]).deep - 1 }) := rfl
    generalize si.need (cur TL si) [125] = s5 at *
    refine HM.mono ?_
    rintro e w5 ⟨rfl, H5, B5'⟩
    clear HM
    have B5 := BX.trans B5'
    obtain ⟨c5, f5⟩ := aA H5.at'
    have H6 := H5.set 2 (.int .i64 (s5.deep - 1 : Nat)) { s5 with deep := s5.deep - 1 } rfl
    have B6 := B5.own 2 (.int .i64 (s5.deep - 1 : Nat))
    have en : ((s5.deep - 1 : Nat) : Int) = (s5.deep : Int) - 1 := by omega
    rw [en] at H6 B6
    have mv : ∀ g, w.heap.size <= g -> g < wr.heap.size -> (w5.setCell ⟨rb, 2, none⟩ (.int .i64 ((s5.deep : Int) - 1))).heap[g]? = wr.heap[g]? := fun g hg hl => (zS _ _ _ _ (by show g ≠ rb; omega)).trans (B5'.block g hl (by omega))
    have hown6 := aW hown (fun g hg hl => mv g (hown.lt g hg).1 hl)
    have aKs := mP.mono (fun v x hv => dI.mono d (N' := fun g => w.heap.size <= g) (fun g hg => hg.1) v x (dI.move d (fun g hg hl => mv g hg.1 hl) v x hv)) _ _ dW
    go_wp2_with fail
    go_ret
    refine ⟨_, rfl, ⟨rows, aKs, aB4 hown6, fun g hg => (hown6.lt g hg).1⟩, ?_, B6⟩
    show Rd _ _ _ _ _ _ _ _ (si.cls TL)
    rw [HS5.out]
    exact H6
end
section
variable {rb pb tb lo cap : Nat} {l : List UInt8} {TL : List Tok}
variable {la : Option Addr} {lc : Nat} {L : List DL} {fr : Nat} {Rv Hv Mv : Value} {ms : Bool}
theorem aJu (hc : Ch l TL) : ∀ d, aLy rb pb tb lo cap l TL la lc L fr Rv Hv Mv ms d (Rs.blk l TL L d) := by
 have bad : ∀ (d : Nat) (w : World) (s : Rs), Rd w rb pb tb lo cap l TL s -> s.k < TL.length -> s.deep <= 8 -> s.loops <= 2 -> (¬ (s.bad = 0 /\ bD (cur TL s) = [123]) \/ s.deep = 8) ->
   Calls Tryz.prog 75 #[ptr rb] w fun e w' => ∃ v, e = .returned v /\ dI d w' (fun g => w.heap.size <= g) v (s.blk l TL L d).1 /\ Rd w' rb pb tb lo cap l TL (s.blk l TL L d).2 /\ But rb w w' /\ (s.blk l TL L d).2.k < TL.length /\ (s.blk l TL L d).2.deep = s.deep /\ (s.blk l TL L d).2.loops = s.loops := by
  intro d w s h hk hd hlo hx
  have hg := vX (L := L) hc d s hk
  refine (aJt (L := L) d h hc hk hd hlo hx).mono ?_
  rintro e w' ⟨rfl, H, B⟩
  refine ⟨aF, rfl, ?_, H, B, hg.1.2, hg.2.1, hg.2.2⟩
  rw [yR d (aF9 hx)]
  exact dI.nil d _ _
 intro d
 induction d with
 | zero =>
  intro w s h hp hk hd hlo
  exact bad 0 w s h hk (by omega) hlo (Or.inr (by omega))
 | succ d ih =>
  intro w s h hp hk hd hlo
  by_cases cA : s.bad = 0 /\ bD (cur TL s) = [123]
  ·have hg := vX (L := L) hc (d + 1) s hk
   refine (aH1 d ih h hp hc hk hd hlo cA).mono ?_
   rintro e w' ⟨v, rfl, hs, H, B⟩
   exact ⟨v, rfl, hs, H, B, hg.1.2, hg.2.1, hg.2.2⟩
  ·exact bad (d + 1) w s h hk (by omega) hlo (Or.inl cA)
end
end Go.Proofs.YtfddoieakfpagaaGreatDoor
