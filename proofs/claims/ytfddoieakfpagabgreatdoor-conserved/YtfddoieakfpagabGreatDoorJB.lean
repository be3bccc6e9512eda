import Derived.BigQuiet
import Derived.Test.YtfddoieakfpagabGreatDoorJA
import Derived.Test.YtfddoieakfpagabGreatDoorHC
import Derived.Test.YtfddoieakfpagabGreatDoorGD
import Derived.Test.YtfddoieakfpagabGreatDoorHA
namespace Go.Proofs.YtfddoieakfpagabGreatDoor
set_option maxHeartbeats 4000000
set_option maxRecDepth 20000
open Go.RowKit
structure Rn where
 A : Ar
 vars : List Nat
 ev : List Nat
 l0 : Nat
 l1 : Nat
def ints (l : List Nat) : List Value := l.map fun (n : Nat) => Value.int .i64 n
def keysV (l : List Nat) : List Value := l.map fun (n : Nat) => Value.int .u64 n
structure Rx (w : World) (lo rb mb ab mp : Nat) (x y vs ev : Value) (fz : Nat -> Option Obj) (key : Nat) (R : Rn) : Prop where
 at' : w.heap[rb]? = some (.cells #[ptr mb, ptr ab, vs, .int .u64 key, ev, .int .i64 R.l0, .int .i64 R.l1] 127)
 ar : Aw w lo ab mp x y R.A
 va : w.ownsRow lo 3 1 vs R.vars.length (ints R.vars)
 el : w.ownsRow lo 27 1 ev R.ev.length (keysV R.ev)
 off : ¬ AMine ab mp x y rb
 offV : ∀ g, vs.ownBlock = some g -> g ≠ rb /\ ¬ AMine ab mp x y g /\ ev.ownBlock ≠ some g
 offE : ∀ g, ev.ownBlock = some g -> g ≠ rb /\ ¬ AMine ab mp x y g
 low : lo <= rb
 fx : ∀ k o, fz k = some o -> w.heap[k]? = some o /\ k ≠ rb /\ ¬ AMine ab mp x y k /\ vs.ownBlock ≠ some k /\ ev.ownBlock ≠ some k
structure Pz (w : World) (lo mb : Nat) (c : Cc) : Prop where
 ex : ∃ (v : Nat -> Value) (lo0 rm : Nat) (a s : Value), w.heap[mb]? = some (.cells (mcA v c.mf rm a s) 93) /\ PgF w lo0 mb rm v c
 lt : mb < lo
 sz : lo <= w.heap.size
theorem Pz.below {w w' : World} {lo mb : Nat} {c : Cc} (h : Pz w lo mb c) (hb : Below lo w w') : Pz w' lo mb c := by
 obtain ⟨v, lo0, rm, a, s, h1, h2⟩ := h.ex
 exact ⟨⟨v, lo0, rm, a, s, (hb.block mb h.lt).trans h1, h2.move (fun g _ hg => hb.block g (by have := h.lt; omega))⟩, h.lt, Nat.le_trans h.sz hb.size⟩
section
variable {w w' : World} {lo rb mb ab mp : Nat} {x y vs ev : Value} {fz : Nat -> Option Obj} {key : Nat} {R : Rn} {c : Cc}
theorem Rx.rlt (h : Rx w lo rb mb ab mp x y vs ev fz key R) : rb < w.heap.size := (Array.getElem?_eq_some_iff.1 h.at').1
theorem Rx.grow (h : Rx w lo rb mb ab mp x y vs ev fz key R) (hb : Below w.heap.size w w') : Rx w' lo rb mb ab mp x y vs ev fz key R :=
 ⟨(hb.block rb h.rlt).trans h.at', h.ar.grow hb, own_grow h.va hb, own_grow h.el hb, h.off, h.offV, h.offE, h.low, fun k o hk => ⟨(hb.block k (Array.getElem?_eq_some_iff.1 (h.fx k o hk).1).1).trans (h.fx k o hk).1, (h.fx k o hk).2⟩⟩
theorem Rx.drew (h : Rx w lo rb mb ab mp x y vs ev fz key R) : Rx w.drew lo rb mb ab mp x y vs ev fz key R := h.grow ⟨rfl, rfl, rfl, Nat.le_refl _, fun _ _ => rfl⟩
theorem Rx.arena {x' y' : Value} (h : Rx w lo rb mb ab mp x y vs ev fz key R) {B : Ar} (hA : Aw w' lo ab mp x' y' B) (hF : AF ab mp x y x' y' w w') : Rx w' lo rb mb ab mp x' y' vs ev fz key { R with A := B } := by
 have hn : ∀ g, g < w.heap.size -> ¬ AMine ab mp x y g -> ¬ AMine ab mp x' y' g := fun g hg hm hm2 => by
  rcases hF.new g hm2 with h1 | h1
  ·exact hm h1
  ·omega
 refine ⟨(hF.block rb h.rlt h.off).trans h.at', hA, own_mv h.va (fun g hg hl => hF.block g hl (h.offV g hg).2.1), own_mv h.el (fun g hg hl => hF.block g hl (h.offE g hg).2), hn rb h.rlt h.off, fun g hg => ?_, fun g hg => ?_, h.low, fun k o hk => ?_⟩
 ·obtain ⟨a, b, d⟩ := h.offV g hg
  exact ⟨a, hn g (h.va.lt g hg).2 b, d⟩
 ·obtain ⟨a, b⟩ := h.offE g hg
  exact ⟨a, hn g (h.el.lt g hg).2 b⟩
 ·obtain ⟨a, b, d, e⟩ := h.fx k o hk
  have l := (Array.getElem?_eq_some_iff.1 a).1
  exact ⟨(hF.block k l d).trans a, b, hn k l d, e⟩
theorem Rx.lowF {x' y' : Value} (h : Rx w lo rb mb ab mp x y vs ev fz key R) (hF : AF ab mp x y x' y' w w') : Below lo w w' := hF.low h.ar (by have := h.low; have := h.rlt; omega)
def cachedS (c : Cc) (A : Ar) (k : Nat) : Option Bool := (A.find k).bind fun p => if p.2 then (c.gh[p.1]?).map fun b => !b else some false
theorem Pz.ghost (h : Pz w lo mb c) {q : Nat} {b : Bool} (hb : c.gh[q]? = some b) : ∃ g cap, w.cell? ⟨mb, 1, none⟩ = some (.slice (some ⟨g, 0, none⟩) c.gh.length cap) /\ q < c.gh.length /\ w.cell? ⟨g, q, none⟩ = some (.bool b) := by
 obtain ⟨v, lo0, rm, a, s, h1, h2⟩ := h.ex
 have hn := (List.getElem?_eq_some_iff.1 hb).1
 have ho : w.ownsRow lo0 4 1 (v 1) c.gh.length (c.gh.map Value.bool) := h2.pg.own 1 (by decide) (by decide)
 obtain ⟨g, cap, e1, _, _, e4⟩ := row_at ho (by omega)
 refine ⟨g, cap, ?_, hn, ?_⟩
 ·rw [(blk_cl h1).1 1, <- e1]; rfl
 ·rw [e4 q (by omega)]; simp [hb]
theorem ix_boolz (g n cap k : Nat) (hk : k < n) : ∀ W : World, (Instr.indexAt 61 (.slice (some ⟨g, 0, none⟩) n cap) (.int .i64 k)).run Tryz.prog W = .ok (.pointer (some ⟨g, k, none⟩)) W := by
 intro W
 rw [run_indexAt_slice (h := by kernel_rfl), if_pos (by omega)]
 have : (sizeOf (Tryz.prog.elem 61)).run Tryz.prog W = .ok 1 W := by kernel_rfl
 rw [this]
 simp [Result.andThen, Addr.add]
 try omega
theorem rcached_any (h : Rx w lo rb mb ab mp x y vs ev fz key R) (hP : Pz w lo mb c) (k : Nat) (hk : k < 18446744073709551616) (b : Bool) (hq : cachedS c R.A k = some b) :
  Calls Tryz.prog 50 #[ptr rb, .int .u64 k] w fun e w' => e = .returned (.bool b) /\ w' = w := by
 obtain ⟨c1, cf1⟩ := blk_cl h.at'
 unfold cachedS at hq
 simp only [Option.bind_eq_some_iff] at hq
 obtain ⟨⟨q, ok⟩, hf, hq⟩ := hq
 have HF := afind_any h.ar k hk q ok hf
 cases ok with
 | false =>
  simp only [Bool.false_eq_true, if_false, Option.some.injEq] at hq
  subst hq
  go_enter Tryz.func50, Tryz.ntmps50
  go_wp2_with fail
  refine HF.mono ?_
  rintro e w1 ⟨rfl, rfl⟩
  go_wp2_with fail
  go_ret
  exact ⟨rfl, rfl⟩
 | true =>
  simp only [if_true, Option.map_eq_some_iff] at hq
  obtain ⟨g, hg, rfl⟩ := hq
  obtain ⟨gb, cap, k1, k2, k3⟩ := hP.ghost hg
  have hix := ix_boolz gb c.gh.length cap q k2
  go_enter Tryz.func50, Tryz.ntmps50
  go_wp2_with fail
  refine HF.mono ?_
  rintro e w1 ⟨rfl, rfl⟩
  go_wp2_with fail
  go_ret
  exact ⟨rfl, rfl⟩
theorem Rx.told (h : Rx w lo rb mb ab mp x y vs ev fz key R) (u : Value) (k : Nat) (hg : w.grownBy w' ev.ownBlock) (hat : u.ownBlock = ev.ownBlock \/ u.ownBlock = some w.heap.size) (hown : w'.ownsRow lo 27 1 u (R.ev.length + 1) (keysV R.ev ++ [.int .u64 k])) :
  Rx (w'.setCell ⟨rb, 4, none⟩ u) lo rb mb ab mp x y vs u fz key { R with ev := R.ev ++ [k] } /\ Below lo w (w'.setCell ⟨rb, 4, none⟩ u) := by
 have hb : ∀ j, j ≠ rb -> (w'.setCell ⟨rb, 4, none⟩ u).heap[j]? = w'.heap[j]? := fun j hj => Below.heap_setCell _ _ _ _ hj
 have hk : ∀ j, j < w.heap.size -> ev.ownBlock ≠ some j -> w'.heap[j]? = w.heap[j]? := fun j hj hne => hg.block j hj (fun e => hne e.symm)
 have hev : ∀ k, AMine ab mp x y k -> ev.ownBlock ≠ some k := fun k hm e => (h.offE k e).2 hm
 have hu : ∀ g, u.ownBlock = some g -> g ≠ rb /\ ¬ AMine ab mp x y g /\ vs.ownBlock ≠ some g := fun g hgu => by
  rcases hat with e | e
  ·have e2 := e.symm.trans hgu
   exact ⟨(h.offE g e2).1, (h.offE g e2).2, fun e3 => (h.offV g e3).2.2 e2⟩
  ·have e3 : w.heap.size = g := by simpa using e.symm.trans hgu
   exact ⟨by have := h.rlt; omega, fun hm => by have := (h.ar.lt hm).2; omega, fun e4 => by have := (h.va.lt g e4).2; omega⟩
 have hrb : ev.ownBlock ≠ some rb := fun e => (h.offE rb e).1 rfl
 refine ⟨⟨(heap_setCell_same _ _ 4 _ _ _ ((hk rb h.rlt hrb).trans h.at')).trans rfl, h.ar.keep (fun k hm => (hb k (fun e => h.off (by rw [<- e]; exact hm))).trans (hk k (h.ar.lt hm).2 (hev k hm))), own_mv h.va (fun g hgv hl => (hb g (h.offV g hgv).1).trans (hk g hl (h.offV g hgv).2.2)), ?_, h.off, fun g hgv => ⟨(h.offV g hgv).1, (h.offV g hgv).2.1, fun e => (hu g e).2.2 hgv⟩, fun g hgu => ⟨(hu g hgu).1, (hu g hgu).2.1⟩, h.low, fun j o hj => ?_⟩, ?_⟩
 ·show World.ownsRow _ _ _ _ _ (R.ev ++ [k]).length (keysV (R.ev ++ [k]))
  rw [show keysV (R.ev ++ [k]) = keysV R.ev ++ [.int .u64 k] by simp [keysV], List.length_append]
  exact own_mv hown (fun g hgu _ => hb g (hu g hgu).1)
 ·obtain ⟨a, b, d, e, f⟩ := h.fx j o hj
  have l := (Array.getElem?_eq_some_iff.1 a).1
  refine ⟨(hb j b).trans ((hk j l f).trans a), b, d, e, fun e2 => ?_⟩
  rcases hat with e3 | e3
  ·exact f (e3.symm.trans e2)
  ·have : w.heap.size = j := by simpa using e3.symm.trans e2
   omega
 ·have hr := h.rlt
  have hl := h.low
  refine ⟨hg.os, hg.tape, hg.output, by have := hg.size; simpa [World.setCell] using this, fun j hj => (hb j (by omega)).trans (hk j (by omega) (fun e => by have := (h.el.lt j e).1; omega))⟩
def Rn.tell (R : Rn) (c : Cc) (k : Nat) (was : Bool) : Option Rn :=
 if R.ev.length <= 1000000000 then
  if was then (cachedS c R.A k).map fun b => if b then R else { R with ev := R.ev ++ [k] } else some R
 else none
def OutR1 (w : World) (lo rb mb ab mp : Nat) (vs : Value) (fz : Nat -> Option Obj) (key : Nat) (v : Value) (R : Rn) (e : Ending) (w' : World) : Prop := e = .returned v /\ (∃ x y ev, Rx w' lo rb mb ab mp x y vs ev fz key R) /\ Below lo w w'
theorem info_u64 : (Tryz.prog.info? 27).map (fun i => (i.zero, i.size, i.bytes)) = some (some (.int .u64 0), 1, 8) := by kernel_rfl
theorem rtell_any (h : Rx w lo rb mb ab mp x y vs ev fz key R) (hP : Pz w lo mb c) (k : Nat) (hk : k < 18446744073709551616) (was : Bool) (S : Rn) (hq : R.tell c k was = some S) :
  Calls Tryz.prog 136 #[ptr rb, .int .u64 k, .bool was] w (OutR1 w lo rb mb ab mp vs fz key (.tuple #[]) S) := by
 obtain ⟨c1, cf1⟩ := blk_cl h.at'
 unfold Rn.tell at hq
 split at hq
 ·rename_i hlen
  cases was with
  | false =>
   simp only [Bool.false_eq_true, if_false, Option.some.injEq] at hq
   subst hq
   go_enter Tryz.func136, Tryz.ntmps136
   go_wp2_with fail
   exact bodyPost_end (by simp [results, Tryz.results136, go_sem]) rfl ⟨rfl, ⟨x, y, ev, h⟩, Below.refl _ _⟩
  | true =>
   simp only [if_true, Option.map_eq_some_iff] at hq
   obtain ⟨b, hb, hq⟩ := hq
   have HC := rcached_any h hP k hk b hb
   cases b with
   | true =>
    simp only [if_true] at hq
    subst hq
    go_enter Tryz.func136, Tryz.ntmps136
    go_wp2_with fail
    refine HC.mono ?_
    rintro e w1 ⟨rfl, rfl⟩
    go_wp2_with fail
    exact bodyPost_end (by simp [results, Tryz.results136, go_sem]) rfl ⟨rfl, ⟨x, y, ev, h⟩, Below.refl _ _⟩
   | false =>
    simp only [Bool.false_eq_true, if_false] at hq
    have HS : Hid (S = { R with ev := R.ev ++ [k] }) := hq.symm
    clear hq
    go_enter Tryz.func136, Tryz.ntmps136
    go_wp2_with fail
    refine HC.mono ?_
    rintro e w1 ⟨rfl, rfl⟩
    clear HC
    obtain ⟨ea, ek, ec, he⟩ := ownsRow_form2 h.el
    have hek : ek = R.ev.length := by
     have h' := h.el
     rw [he] at h'
     rcases h'.2 with ⟨h1, h2⟩ | ⟨g, cap, cur, h1, _⟩
     ·simp at h1; omega
     ·simp at h1; exact h1.2.1
    subst hek
    have HE : Hid (ev = .slice ea R.ev.length ec) := he
    have hel := h.el
    have hG := fun (u : Value) (w' : World) => (h.grow ((Below.refl w1.heap.size w1).alloc (Nat.le_refl _) (.cells #[.int .u64 k] 27))).told (w' := w') u k
    have hAt := h.at'
    have hrl := h.rlt
    have hoff : ∀ g, (Value.slice ea R.ev.length ec).ownBlock = some g -> g ≠ rb := fun g hg => (h.offE g (by rw [he]; exact hg)).1
    have hlow := h.low
    have B0 : Below lo w1 (w1.alloc (.cells #[.int .u64 k] 27)) := (Below.refl _ w1).alloc (by omega) _
    rw [he] at c1 hel hAt
    clear he
    obtain ⟨i0, hi, hz0, hz1, hz2⟩ := info_parts info_u64
    go_upto_region 1 with fail
    refine wp_region_lit ?_
    iterate 21 go_step
    refine wpList_append_own_at _ rfl (.tmp 17) (.tmp 19) 22 rfl lo 27 i0 (.int .u64 0) 1 8 Tryz.underlying22 hi hz0 hz1 hz2 rfl (by decide) (.slice ea R.ev.length ec) R.ev.length (keysV R.ev) (by simp [Act.eval]) (own_mv hel (fun g _ hl => Below.heap_alloc _ _ _ hl)) ⟨w1.heap.size, 0, none⟩ 1 1 [.int .u64 k] (by simp [Act.eval]) rfl (row_cells w1 #[.int .u64 k] 27) (fun u hu => by simp at hu; subst hu; rfl) (by simp only [maxLen]; omega) (by omega) (by simp; omega) ?_
    intro v' w6 hown6 hgrow _ hat
    obtain ⟨za, zk, zc, rfl⟩ := ownsRow_form2 hown6
    have a6 := (hgrow.block rb (by simp; omega) (fun e => hoff rb e.symm rfl)).trans ((Below.heap_alloc _ _ _ hrl).trans hAt)
    obtain ⟨c6, cf6⟩ := blk_cl a6
    obtain ⟨H2, B2⟩ := hG (.slice za zk zc) w6 (by rw [HE.out]; exact hgrow) (by rw [HE.out]; exact hat) hown6
    clear hG
    go_wp2_with fail
    exact bodyPost_end (by simp [results, Tryz.results136, go_sem]) rfl ⟨rfl, ⟨x, y, _, by rw [HS.out]; exact H2⟩, B0.trans B2⟩
 ·cases hq
def Rn.forget (R : Rn) (c : Cc) (k : Nat) : Option Rn := (cachedS c R.A k).bind fun was => (R.A.forget k).bind fun p => Rn.tell { R with A := p.2 } c k was
theorem rforget_any (h : Rx w lo rb mb ab mp x y vs ev fz key R) (hP : Pz w lo mb c) (k : Nat) (hk : k < 18446744073709551616) (S : Rn) (hq : R.forget c k = some S) :
  Calls Tryz.prog 112 #[ptr rb, .int .u64 k] w (OutR1 w lo rb mb ab mp vs fz key (.tuple #[]) S) := by
 obtain ⟨c1, cf1⟩ := blk_cl h.at'
 unfold Rn.forget at hq
 simp only [Option.bind_eq_some_iff] at hq
 obtain ⟨was, hw, ⟨r, B⟩, hB, hq⟩ := hq
 have HC := rcached_any h hP k hk was hw
 have HF := aforget_any h.ar k hk r B hB
 go_enter Tryz.func112, Tryz.ntmps112
 go_wp2_with fail
 refine HC.mono ?_
 rintro e w1 ⟨rfl, rfl⟩
 go_wp2_with fail
 refine HF.mono ?_
 rintro e w2 ⟨rfl, H2, F2⟩
 clear HC HF c1 cf1
 have B2 := h.lowF F2
 have H3 := h.arena H2 F2
 have HT := rtell_any H3 (hP.below B2) k hk was S hq
 go_wp2_with fail
 refine HT.mono ?_
 rintro e w3 ⟨rfl, H4, B4⟩
 go_wp2_with fail
 exact bodyPost_end (by simp [results, Tryz.results112, go_sem]) rfl ⟨rfl, H4, B2.trans B4⟩
end
def key64 : Nat := 18446744073709551616
def Rn.val (R : Rn) (key : Nat) (o : Nat × Nat) : Option Nat := if o.1 = 1 then R.vars[o.2]? else if o.1 = 2 then R.A.len o.2 else if o.1 = 3 then R.A.freq key else some o.2
def Rn.so (R : Rn) (key : Nat) (s : Stp) : Option Bool :=
 if s.kind = 8 then R.A.full s.on.1
 else if s.kind = 9 then (R.A.len s.on.1).map fun n => n == 0
 else if s.kind = 10 then (R.A.tail s.on.1).bind fun p => if p.2 then if p.1 < key64 then (R.A.freq p.1).map fun f => decide (0 < f) else none else some false
 else (R.val key s.left).bind fun a => (R.val key s.right).map fun b => decide (a < b)
section
variable {w w' : World} {lo rb mb ab mp : Nat} {x y vs ev : Value} {fz : Nat -> Option Obj} {key : Nat} {R : Rn} {c : Cc}
theorem Rx.varAt (h : Rx w lo rb mb ab mp x y vs ev fz key R) {n v : Nat} (hv : R.vars[n]? = some v) : ∃ g cap, vs = .slice (some ⟨g, 0, none⟩) R.vars.length cap /\ vs.ownBlock = some g /\ n < R.vars.length /\ (∀ i, w.frozen? ⟨g, i, none⟩ = false) /\ w.cell? ⟨g, n, none⟩ = some (.int .i64 v) := by
 have hn := (List.getElem?_eq_some_iff.1 hv).1
 obtain ⟨g, cap, h1, h2, h3, h4⟩ := row_at h.va (by omega)
 refine ⟨g, cap, h1, h2, hn, h3, ?_⟩
 rw [h4 n (by omega)]
 simp [ints, hv]
theorem rval_any (h : Rx w lo rb mb ab mp x y vs ev fz key R) (hk : key < key64) (o : Nat × Nat) (n : Nat) (hq : R.val key o = some n) :
  Calls Tryz.prog 109 #[ptr rb, .agg #[.int .i64 o.1, .int .i64 o.2]] w fun e w' => e = .returned (.int .i64 n) /\ Below w.heap.size w w' := by
 obtain ⟨k, m⟩ := o
 have B0 := (Below.refl w.heap.size w).alloc (Nat.le_refl _) (.cells #[.int .i64 k, .int .i64 m] 191)
 have H0 := h.grow B0
 have b0 : (w.alloc (.cells #[.int .i64 k, .int .i64 m] 191)).heap[w.heap.size]? = some (.cells #[.int .i64 k, .int .i64 m] 191) := heap_new rfl
 unfold Rn.val at hq
 simp only at hq
 go_enter Tryz.func109, Tryz.ntmps109
 go_upto_region 1 with fail
 generalize w.alloc (.cells #[.int .i64 k, .int .i64 m] 191) = w1 at *
 have hz : w.heap.size <= w1.heap.size := B0.size
 obtain ⟨c1, cf1⟩ := blk_cl H0.at'
 obtain ⟨c2, cf2⟩ := blk_cl b0
 split at hq
 ·rename_i e1
  subst e1
  obtain ⟨g, cap, e2, _, hn, _, k1⟩ := H0.varAt hq
  have hix := ix_int g 0 R.vars.length cap m hn
  simp only [Nat.zero_add] at hix
  rw [e2] at c1
  clear e2
  go_wp2_with fail
  go_region
  all_goals
   go_wp2_with fail
   go_ret
   exact ⟨rfl, bdrw B0⟩
 ·rename_i e1
  have f1 : ((k : Int) == 1) = false := by simp; omega
  split at hq
  ·rename_i e2
   subst e2
   have HL := alen_any H0.ar.drew m n hq
   go_wp2_with fail
   go_region_with (go_at_call 54; refine HL.mono ?_; rintro e w2 ⟨rfl, rfl⟩)
   all_goals
    go_wp2_with fail
    go_ret
    exact ⟨rfl, bdrw B0⟩
  ·rename_i e2
   have f2 : ((k : Int) == 2) = false := by simp; omega
   split at hq
   ·rename_i e3
    subst e3
    have HL := afreq_any H0.ar.drew key hk n hq
    go_wp2_with fail
    go_region_with (go_at_call 108; refine HL.mono ?_; rintro e w2 ⟨rfl, rfl⟩)
    all_goals
     go_wp2_with fail
     go_ret
     exact ⟨rfl, bdrw B0⟩
   ·rename_i e3
    have f3 : ((k : Int) == 3) = false := by simp; omega
    simp only [Option.some.injEq] at hq
    subst hq
    go_wp2_with fail
    go_ret
    exact ⟨rfl, B0⟩
end
section
variable {w w' : World} {lo rb mb ab mp : Nat} {x y vs ev : Value} {fz : Nat -> Option Obj} {key : Nat} {R : Rn} {c : Cc}
structure KR (w1 : World) (lo rb mb ab mp : Nat) (x y vs ev : Value) (fz : Nat -> Option Obj) (key : Nat) (R : Rn) (bx : Nat) (A : Array Value) (W : World) : Prop where
 rx : Rx W lo rb mb ab mp x y vs ev fz key R
 cells : ∀ o, W.cell? ⟨bx, o, none⟩ = A[o]?
 lt : bx < W.heap.size
 bl : Below w1.heap.size w1 W
theorem KR.val {w1 W : World} {bx : Nat} {A : Array Value} (h : KR w1 lo rb mb ab mp x y vs ev fz key R bx A W) (hk : key < key64) (o1 o2 n : Nat) (hq : R.val key (o1, o2) = some n) :
  Calls Tryz.prog 109 #[ptr rb, .agg #[.int .i64 o1, .int .i64 o2]] W fun e W2 => e = .returned (.int .i64 n) /\ KR w1 lo rb mb ab mp x y vs ev fz key R bx A W2 :=
 (rval_any h.rx hk (o1, o2) n hq).mono fun _ _ ⟨h1, h2⟩ => ⟨h1, h.rx.grow h2, fun o => (h2.cell (p := ⟨bx, o, none⟩) h.lt).trans (h.cells o), Nat.lt_of_lt_of_le h.lt h2.size, h.bl.trans (h2.mono h.bl.size)⟩
theorem rless_any (h : Rx w lo rb mb ab mp x y vs ev fz key R) (hk : key < key64) (s : Stp) (f1 : ((s.kind : Int) == 8) = false) (f2 : ((s.kind : Int) == 9) = false) (f3 : ((s.kind : Int) == 10) = false) (p q : Nat) (hp : R.val key s.left = some p) (hq : R.val key s.right = some q) :
  Calls Tryz.prog 77 #[ptr rb, .agg (spA s)] w fun e w' => e = .returned (.bool (decide (p < q))) /\ Below w.heap.size w w' := by
 have B0 := (Below.refl w.heap.size w).alloc (Nat.le_refl _) (.cells (spA s) 193)
 have H0 := h.grow B0
 have b0 : (w.alloc (.cells (spA s) 193)).heap[w.heap.size]? = some (.cells (spA s) 193) := heap_new rfl
 obtain ⟨sk, son, sds, stl, sng, ⟨a1, a2⟩, ⟨d1, d2⟩, slo, sti, sta⟩ := s
 go_enter Tryz.func77, Tryz.ntmps77
 go_upto_region 1 with fail
 generalize w.alloc (.cells (spA ⟨sk, son, sds, stl, sng, (a1, a2), (d1, d2), slo, sti, sta⟩) 193) = w1 at *
 have hz : w.heap.size <= w1.heap.size := B0.size
 obtain ⟨c1, cf1⟩ := blk_cl H0.at'
 obtain ⟨c2, cf2⟩ := blk_cl b0
 have hbl : w.heap.size < w1.heap.size := (Array.getElem?_eq_some_iff.1 b0).1
 have HB : Hid (decide ((p : Int) < (q : Int)) = decide (p < q)) := by
  show decide _ = decide _
  rw [Bool.eq_iff_iff]
  simp
 have KK : KR w1 lo rb mb ab mp x y vs ev fz key R w.heap.size (spA ⟨sk, son, sds, stl, sng, (a1, a2), (d1, d2), slo, sti, sta⟩) w1.drew := ⟨H0.drew, c2, hbl, bdrw (Below.refl _ _)⟩
 have HP : Hid (∀ {W : World} {A : Array Value}, KR w1 lo rb mb ab mp x y vs ev fz key R w.heap.size A W -> Calls Tryz.prog 109 #[ptr rb, .agg #[.int .i64 a1, .int .i64 a2]] W fun e W2 => e = .returned (.int .i64 p) /\ KR w1 lo rb mb ab mp x y vs ev fz key R w.heap.size A W2) := fun {W A} h => h.val hk a1 a2 p hp
 have HQ : Hid (∀ {W : World} {A : Array Value}, KR w1 lo rb mb ab mp x y vs ev fz key R w.heap.size A W -> Calls Tryz.prog 109 #[ptr rb, .agg #[.int .i64 d1, .int .i64 d2]] W fun e W2 => e = .returned (.int .i64 q) /\ KR w1 lo rb mb ab mp x y vs ev fz key R w.heap.size A W2) := fun {W A} h => h.val hk d1 d2 q hq
 go_upto_region 10 with fail
 clear c1 cf1 c2 cf2 H0 b0 hp hq h
 refine wp_region_but (C := KR w1 lo rb mb ab mp x y vs ev fz key R w.heap.size (spA ⟨sk, son, sds, stl, sng, (a1, a2), (d1, d2), slo, sti, sta⟩)) 9 0 (by kernel_rfl) (by kernel_rfl) KK ?_
 simp only [List.take]
 apply quiet_next
 case hw => rfl
 case h1 =>
  intro W hW
  have cW := hW.cells
  unfold Oper.quietAt
  go_simp
  with_reducible rfl
 apply quiet_next
 case hw => rfl
 case h1 =>
  intro W hW
  have cW := hW.cells
  unfold Oper.quietAt
  go_simp
  with_reducible rfl
 apply quiet_next
 case hw => rfl
 case h1 =>
  intro W hW
  have cW := hW.cells
  unfold Oper.quietAt
  go_simp
  with_reducible rfl
 apply quiet_next
 case hw => rfl
 case h1 =>
  intro W hW
  have cW := hW.cells
  unfold Oper.quietAt
  go_simp
  exact HP.out hW
 apply quiet_next
 case hw => rfl
 case h1 =>
  intro W hW
  have cW := hW.cells
  unfold Oper.quietAt
  go_simp
  with_reducible rfl
 apply quiet_next
 case hw => rfl
 case h1 =>
  intro W hW
  have cW := hW.cells
  unfold Oper.quietAt
  go_simp
  with_reducible rfl
 apply quiet_next
 case hw => rfl
 case h1 =>
  intro W hW
  have cW := hW.cells
  unfold Oper.quietAt
  go_simp
  with_reducible rfl
 apply quiet_next
 case hw => rfl
 case h1 =>
  intro W hW
  have cW := hW.cells
  unfold Oper.quietAt
  go_simp
  exact HQ.out hW
 apply quiet_next
 case hw => rfl
 case h1 =>
  intro W hW
  have cW := hW.cells
  unfold Oper.quietAt
  go_simp
  with_reducible rfl
 refine wpQuiet_nil ?_
 intro W hW
 refine wpOp_now rfl rfl ?_
 go_simp
 refine wpAny_over (by kernel_rfl) ?_ _
 have BW := hW.bl
 go_wp2_with fail
 go_ret
 exact ⟨by rw [<- HB.out]; rfl, B0.trans (BW.mono hz)⟩
theorem rso_any (h : Rx w lo rb mb ab mp x y vs ev fz key R) (hk : key < key64) (s : Stp) (b : Bool) (hq : R.so key s = some b) :
  Calls Tryz.prog 77 #[ptr rb, .agg (spA s)] w fun e w' => e = .returned (.bool b) /\ Below w.heap.size w w' := by
 have B0 := (Below.refl w.heap.size w).alloc (Nat.le_refl _) (.cells (spA s) 193)
 have H0 := h.grow B0
 have b0 : (w.alloc (.cells (spA s) 193)).heap[w.heap.size]? = some (.cells (spA s) 193) := heap_new rfl
 by_cases hless : s.kind = 8 \/ s.kind = 9 \/ s.kind = 10
 case neg =>
  unfold Rn.so at hq
  rw [if_neg (by omega), if_neg (by omega), if_neg (by omega)] at hq
  simp only [Option.bind_eq_some_iff, Option.map_eq_some_iff] at hq
  obtain ⟨p, hp, q, hq, rfl⟩ := hq
  exact rless_any h hk s (by simp; omega) (by simp; omega) (by simp; omega) p q hp hq
 unfold Rn.so at hq
 go_enter Tryz.func77, Tryz.ntmps77
 go_upto_region 1 with fail
 generalize w.alloc (.cells (spA s) 193) = w1 at *
 have hz : w.heap.size <= w1.heap.size := B0.size
 obtain ⟨c1, cf1⟩ := blk_cl H0.at'
 obtain ⟨c2, cf2⟩ := blk_cl b0
 split at hq
 ·rename_i e1
  have HL := afull_any H0.ar s.on.1 b hq
  have f1 : ((s.kind : Int) == 8) = true := by simp; omega
  clear e1
  go_wp2_with fail
  refine HL.mono ?_
  rintro e w2 ⟨rfl, B2⟩
  go_wp2_with fail
  go_ret
  exact ⟨rfl, B0.trans (B2.mono hz)⟩
 ·rename_i e1
  have f1 : ((s.kind : Int) == 8) = false := by simp; omega
  split at hq
  ·rename_i e2
   have f2 : ((s.kind : Int) == 9) = true := by simp; omega
   clear e1 e2
   simp only [Option.map_eq_some_iff] at hq
   obtain ⟨n, hn, rfl⟩ := hq
   have HL := alen_any H0.ar s.on.1 n hn
   have hb : ((n : Int) == 0) = (n == 0) := by
    rw [Bool.eq_iff_iff]
    simp only [beq_iff_eq]
    omega
   have HB : Hid (((n : Int) == 0) = (n == 0)) := hb
   clear hb
   go_wp2_with fail
   refine HL.mono ?_
   rintro e w2 ⟨rfl, rfl⟩
   go_wp2_with fail
   go_ret
   exact ⟨by rw [<- HB.out]; rfl, B0⟩
  ·rename_i e2
   have f2 : ((s.kind : Int) == 9) = false := by simp; omega
   split at hq
   ·rename_i e3
    have f3 : ((s.kind : Int) == 10) = true := by simp; omega
    clear e1 e2 e3
    simp only [Option.bind_eq_some_iff] at hq
    obtain ⟨⟨k, ok⟩, hn, hq⟩ := hq
    have HL := atail_any H0.ar s.on.1 k ok hn
    go_wp2_with fail
    refine HL.mono ?_
    rintro e w2 ⟨rfl, B2⟩
    cases ok with
    | false =>
     simp only [Bool.false_eq_true, if_false, Option.some.injEq] at hq
     subst hq
     go_wp2_with fail
     go_ret
     exact ⟨rfl, B0.trans (B2.mono hz)⟩
    | true =>
     simp only [if_true] at hq
     split at hq
     ·rename_i hk2
      simp only [Option.map_eq_some_iff] at hq
      obtain ⟨f, hf, rfl⟩ := hq
      have HF := afreq_any (H0.ar.grow B2) k hk2 f hf
      have HB : Hid (decide ((0 : Int) < (f : Int)) = decide (0 < f)) := by
       show decide _ = decide _
       rw [Bool.eq_iff_iff]
       simp
      go_wp2_with fail
      refine HF.mono ?_
      rintro e w3 ⟨rfl, rfl⟩
      go_wp2_with fail
      go_ret
      exact ⟨by rw [<- HB.out]; rfl, B0.trans (B2.mono hz)⟩
     ·cases hq
   ·rename_i e3
    omega
theorem run_min (P : Program) (a : Array TypeId) (t : TypeId) (p q : Int) (W : World) : (Builtin.min_ a t #[.int .i64 p, .int .i64 q]).run P W = .ok (.int .i64 (min p q)) W := by
 have e : (if q < p then q else p) = min p q := by rw [Int.min_def]; split <;> split <;> omega
 simp [Builtin.min_, Builtin.min2, e]
theorem run_max (P : Program) (a : Array TypeId) (t : TypeId) (p q : Int) (W : World) : (Builtin.max_ a t #[.int .i64 p, .int .i64 q]).run P W = .ok (.int .i64 (max p q)) W := by
 have e : (if q < p then p else q) = max p q := by rw [Int.max_def]; split <;> split <;> omega
 have e2 : (if p < q then q else p) = max p q := by rw [Int.max_def]; split <;> split <;> omega
 simp [Builtin.max_, Builtin.max2, e2]
def Rn.addFreq (R : Rn) (c : Cc) (k : Nat) (b : Int) : Option Rn := (R.A.freq k).bind fun f => if f <= 1000000 /\ c.mf <= 1000000 then (R.A.setFreq k (max 0 (min ((f : Int) + b) (c.mf : Int))).toNat).map fun B => { R with A := B } else none
theorem raddFreq_any (h : Rx w lo rb mb ab mp x y vs ev fz key R) (hP : Pz w lo mb c) (k : Nat) (hk : k < key64) (b : Int) (hb : b = 1 \/ b = -1) (S : Rn) (hq : R.addFreq c k b = some S) :
  Calls Tryz.prog 113 #[ptr rb, .int .u64 k, .int .i64 b] w (OutR1 w lo rb mb ab mp vs fz key (.tuple #[]) S) := by
 obtain ⟨c1, cf1⟩ := blk_cl h.at'
 unfold Rn.addFreq at hq
 simp only [Option.bind_eq_some_iff] at hq
 obtain ⟨f, hf, hq⟩ := hq
 split at hq
 ·rename_i hbd
  simp only [Option.map_eq_some_iff] at hq
  obtain ⟨B, hB, hS⟩ := hq
  have HS : Hid (S = { R with A := B }) := hS.symm
  clear hS
  have HF := afreq_any h.ar k hk f hf
  have HG := asetFreq_any h.ar.drew k hk _ B hB
  obtain ⟨v, lo0, rm, a, s, m1, m2⟩ := hP.ex
  obtain ⟨c2, cf2⟩ := blk_cl m1
  have hv : Hid (((max 0 (min ((f : Int) + b) (c.mf : Int))).toNat : Int) = max 0 (min ((f : Int) + b) (c.mf : Int))) := by show _ = _; omega
  go_enter Tryz.func113, Tryz.ntmps113
  go_wp2_with fail
  refine HF.mono ?_
  rintro e w1 ⟨rfl, rfl⟩
  have hmin := fun W => run_min Tryz.prog #[3, 3] 3 ((f : Int) + b) (c.mf : Int) W
  have hmax := fun W => run_max Tryz.prog #[3, 3] 3 0 (min ((f : Int) + b) (c.mf : Int)) W
  rw [hv.out] at HG
  generalize max 0 (min ((f : Int) + b) (c.mf : Int)) = nf at *
  generalize min ((f : Int) + b) (c.mf : Int) = mf at *
  clear HF hv
  go_upto_region 1 with fail
  go_region_with (go_at_call 137; refine HG.mono ?_; rintro e w2 ⟨rfl, H2, F2⟩)
  all_goals
   go_wp2_with fail
   have F3 : AF ab mp x y x y w1 w2 := ⟨F2.os, F2.tape, F2.output, F2.size, F2.block, F2.new⟩
   exact bodyPost_end (by simp [results, Tryz.results113, go_sem]) rfl ⟨rfl, ⟨x, y, ev, by rw [HS.out]; exact h.arena H2 F3⟩, h.lowF F3⟩
 ·cases hq
def OutE (w : World) (lo rb mb ab mp : Nat) (vs : Value) (fz : Nat -> Option Obj) (key : Nat) (E : Nat -> Addr) (r : Except (Nat × Nat) Rn) (e : Ending) (w' : World) : Prop := Below lo w w' /\ match r with
 | .ok R => e = .returned .nilIface /\ ∃ x y ev, Rx w' lo rb mb ab mp x y vs ev fz key R
 | .error (i, p) => ∃ f, e = .returned (.iface 96 (.pointer (some ⟨f, 0, none⟩))) /\ lo <= f /\ w'.heap[f]? = some (.cells #[.iface 278 (.pointer (some (E i))), .int .i64 p] 98)
def Rn.move (R : Rn) (c : Cc) (k : Nat) (q : Nat × Nat) (tail : Bool) : Option (Except (Nat × Nat) Rn) := (cachedS c R.A k).bind fun was => (R.A.move k q.1 tail).bind fun p => if p.1 then (Rn.tell { R with A := p.2 } c k was).map .ok else some (.error (10, q.2))
theorem rmove_any (h : Rx w lo rb mb ab mp x y vs ev fz key R) (hP : Pz w lo mb c) {E : Nat -> Addr} (hE : w.cell? ⟨10, 0, none⟩ = some (.iface 278 (.pointer (some (E 10))))) (hEl : 10 < lo) (k : Nat) (hk : k < key64) (q : Nat × Nat) (tail : Bool) (r : Except (Nat × Nat) Rn) (hq : R.move c k q tail = some r) :
  Calls Tryz.prog 110 #[ptr rb, .int .u64 k, .agg #[.int .i64 q.1, .int .i64 q.2], .bool tail] w (OutE w lo rb mb ab mp vs fz key E r) := by
 have hsz := hP.sz
 have hlow := h.low
 have B0 := (Below.refl w.heap.size w).alloc (Nat.le_refl _) (.cells #[.int .i64 q.1, .int .i64 q.2] 188)
 have H0 := h.grow B0
 have b0 : (w.alloc (.cells #[.int .i64 q.1, .int .i64 q.2] 188)).heap[w.heap.size]? = some (.cells #[.int .i64 q.1, .int .i64 q.2] 188) := heap_new rfl
 have L0 := B0.mono hsz
 have P0 := hP.below L0
 have nm0 : ¬ AMine ab mp x y w.heap.size := fun hm => by have := (h.ar.lt hm).2; omega
 unfold Rn.move at hq
 simp only [Option.bind_eq_some_iff] at hq
 obtain ⟨was, hw, ⟨ok, B⟩, hB, hq⟩ := hq
 go_enter Tryz.func110, Tryz.ntmps110
 go_upto_region 1 with fail
 generalize w.alloc (.cells #[.int .i64 q.1, .int .i64 q.2] 188) = w1 at *
 have HC := rcached_any H0 P0 k hk was hw
 have HM := amove_any H0.ar.drew P0.sz k hk q.1 tail ok B hB
 obtain ⟨c1, cf1⟩ := blk_cl H0.at'
 obtain ⟨c2, cf2⟩ := blk_cl b0
 go_wp2_with fail
 refine HC.mono ?_
 rintro e w2 ⟨rfl, rfl⟩
 clear HC
 go_upto_region 2 with fail
 go_cut [23] (fun v wx => v = .bool (!ok) /\ ∃ x', Aw wx lo ab mp x' y B /\ AF ab mp x y x' y w2 wx)
 case first =>
  go_region_with (go_at_call 135; refine HM.mono ?_; rintro e w3 ⟨rfl, x', H3, F3⟩)
  all_goals
   go_wp2_with fail
   go_meet
   exact ⟨rfl, x', H3, ⟨F3.os, F3.tape, F3.output, F3.size, F3.block, F3.new⟩⟩
 case rest =>
 obtain ⟨rfl, x', H3, F3⟩ := hcut
 have H4 := H0.arena H3 F3
 have L3 := H0.lowF F3
 have P3 := P0.below L3
 have b3 := F3.at' b0 nm0
 have hE3 := ((L0.trans L3).cell (p := ⟨10, 0, none⟩) hEl).trans hE
 clear HM c1 cf1 c2 cf2
 cases ok with
 | true =>
  simp only [if_true, Option.map_eq_some_iff] at hq
  obtain ⟨S, hS, hr⟩ := hq
  have HR : Hid (r = .ok S) := hr.symm
  clear hr
  have HT := rtell_any H4 P3 k hk was S hS
  go_wp2_with fail
  refine HT.mono ?_
  rintro e w4 ⟨rfl, H5, L5⟩
  go_wp2_with fail
  go_ret
  refine ⟨(L0.trans L3).trans L5, ?_⟩
  rw [HR.out]
  exact ⟨rfl, H5⟩
 | false =>
  simp only [Bool.false_eq_true, if_false, Option.some.injEq] at hq
  have HR : Hid (r = .error (10, q.2)) := hq.symm
  clear hq
  obtain ⟨c3, cf3⟩ := blk_cl b3
  have zz := P3.sz
  go_wp2_with fail
  go_ret
  refine ⟨(L0.trans L3).alloc zz _, ?_⟩
  rw [HR.out]
  exact ⟨_, rfl, zz, heap_new rfl⟩
end
structure RH (w : World) (lo rb mb ab mp : Nat) (vs : Value) (fz : Nat -> Option Obj) (key : Nat) (c : Cc) (E : Nat -> Addr) (R : Rn) : Prop where
 rx : ∃ x y ev, Rx w lo rb mb ab mp x y vs ev fz key R
 pq : Pz w lo mb c
 e1 : w.cell? ⟨10, 0, none⟩ = some (.iface 278 (.pointer (some (E 10))))
 e2 : w.cell? ⟨11, 0, none⟩ = some (.iface 278 (.pointer (some (E 11))))
 l1 : 10 < lo
 l2 : 11 < lo
section
variable {w w' : World} {lo rb mb ab mp : Nat} {x y vs ev : Value} {fz : Nat -> Option Obj} {key : Nat} {R S : Rn} {c : Cc} {E : Nat -> Addr}
theorem RH.to (h : RH w lo rb mb ab mp vs fz key c E R) (hb : Below lo w w') (hr : ∃ x y ev, Rx w' lo rb mb ab mp x y vs ev fz key S) : RH w' lo rb mb ab mp vs fz key c E S :=
 ⟨hr, h.pq.below hb, (hb.cell (p := ⟨10, 0, none⟩) h.l1).trans h.e1, (hb.cell (p := ⟨11, 0, none⟩) h.l2).trans h.e2, h.l1, h.l2⟩
theorem RH.grow (h : RH w lo rb mb ab mp vs fz key c E R) (hb : Below w.heap.size w w') : RH w' lo rb mb ab mp vs fz key c E R := by
 obtain ⟨x, y, ev, hx⟩ := h.rx
 exact h.to (hb.mono h.pq.sz) ⟨x, y, ev, hx.grow hb⟩
def Rn.atTail (R : Rn) (c : Cc) (s : Stp) : Option (Except (Nat × Nat) Rn) := (R.A.tail s.on.1).bind fun p =>
 if p.2 then
  if p.1 < key64 then
   if s.kind = 1 then (R.forget c p.1).map .ok else if s.kind = 2 then R.move c p.1 s.dst s.tail else if s.kind = 7 then (R.addFreq c p.1 (-1)).map .ok else some (.ok R)
  else none
 else some (.error (11, s.on.2))
theorem rtail_any (h : RH w lo rb mb ab mp vs fz key c E R) (s : Stp) (r : Except (Nat × Nat) Rn) (hq : R.atTail c s = some r) :
  Calls Tryz.prog 111 #[ptr rb, .agg (spA s)] w (OutE w lo rb mb ab mp vs fz key E r) := by
 have hsz := h.pq.sz
 have B0 := (Below.refl w.heap.size w).alloc (Nat.le_refl _) (.cells (spA s) 193)
 have h0 := h.grow B0
 have b0 : (w.alloc (.cells (spA s) 193)).heap[w.heap.size]? = some (.cells (spA s) 193) := heap_new rfl
 have L0 := B0.mono hsz
 unfold Rn.atTail at hq
 simp only [Option.bind_eq_some_iff] at hq
 obtain ⟨⟨k, ok⟩, hk, hq⟩ := hq
 obtain ⟨x, y, ev, H0⟩ := h0.rx
 have HT := atail_any H0.ar.drew s.on.1 k ok hk
 go_enter Tryz.func111, Tryz.ntmps111
 go_upto_region 1 with fail
 generalize w.alloc (.cells (spA s) 193) = w1 at *
 have hbl : w.heap.size < w1.heap.size := (Array.getElem?_eq_some_iff.1 b0).1
 go_cut [5, 6] (fun v5 v6 wx => v5 = .int .u64 k /\ v6 = .bool ok /\ Below w1.heap.size w1 wx)
 case first =>
  obtain ⟨c1, cf1⟩ := blk_cl H0.at'
  obtain ⟨c2, cf2⟩ := blk_cl b0
  go_region_with (go_at_call 107; refine HT.mono ?_; rintro e w3 ⟨rfl, B3⟩)
  all_goals
   go_wp2_with fail
   go_meet
   exact ⟨rfl, rfl, ⟨B3.os, B3.tape, B3.output, B3.size, B3.block⟩⟩
 case rest =>
 obtain ⟨rfl, rfl, B1⟩ := hcut
 have h1 := h0.grow B1
 have b1 := (B1.block _ hbl).trans b0
 have L1 := L0.trans (B1.mono h0.pq.sz)
 clear HT H0 h0 B0 B1 b0 L0
 obtain ⟨x1, y1, ev1, H1⟩ := h1.rx
 obtain ⟨c2, cf2⟩ := blk_cl b1
 cases ok with
 | false =>
  simp only [Bool.false_eq_true, if_false, Option.some.injEq] at hq
  have HR : Hid (r = .error (11, s.on.2)) := hq.symm
  clear hq
  have e2 := h1.e2
  have zz := h1.pq.sz
  go_wp2_with fail
  go_ret
  refine ⟨L1.alloc zz _, ?_⟩
  rw [HR.out]
  exact ⟨_, rfl, zz, heap_new rfl⟩
 | true =>
  simp only [if_true] at hq
  split at hq
  ·rename_i hk2
   split at hq
   ·rename_i e1
    have f1 : ((s.kind : Int) == 1) = true := by simp; omega
    clear e1
    simp only [Option.map_eq_some_iff] at hq
    obtain ⟨S, hS, hr⟩ := hq
    have HR : Hid (r = .ok S) := hr.symm
    clear hr
    have HF := rforget_any H1 h1.pq k hk2 S hS
    go_wp2_with fail
    refine HF.mono ?_
    rintro e w4 ⟨rfl, H5, L5⟩
    go_wp2_with fail
    go_ret
    refine ⟨L1.trans L5, ?_⟩
    rw [HR.out]
    exact ⟨rfl, H5⟩
   ·rename_i e1
    have f1 : ((s.kind : Int) == 1) = false := by simp; omega
    split at hq
    ·rename_i e2
     have f2 : ((s.kind : Int) == 2) = true := by simp; omega
     clear e1 e2
     have HM := rmove_any H1 h1.pq h1.e1 h1.l1 k hk2 s.dst s.tail r hq
     go_wp2_with fail
     refine HM.mono ?_
     rintro e w4 ⟨L5, H5⟩
     cases r with
     | ok S =>
      obtain ⟨rfl, H5⟩ := H5
      go_wp2_with fail
      go_ret
      exact ⟨L1.trans L5, rfl, H5⟩
     | error q =>
      obtain ⟨i, p⟩ := q
      obtain ⟨f, rfl, H5⟩ := H5
      go_wp2_with fail
      go_ret
      exact ⟨L1.trans L5, f, rfl, H5⟩
    ·rename_i e2
     have f2 : ((s.kind : Int) == 2) = false := by simp; omega
     split at hq
     ·rename_i e3
      have f3 : ((s.kind : Int) == 7) = true := by simp; omega
      clear e1 e2 e3
      simp only [Option.map_eq_some_iff] at hq
      obtain ⟨S, hS, hr⟩ := hq
      have HR : Hid (r = .ok S) := hr.symm
      clear hr
      have HF := raddFreq_any H1 h1.pq k hk2 (-1) (Or.inr rfl) S hS
      go_wp2_with fail
      refine HF.mono ?_
      rintro e w4 ⟨rfl, H5, L5⟩
      go_wp2_with fail
      go_ret
      refine ⟨L1.trans L5, ?_⟩
      rw [HR.out]
      exact ⟨rfl, H5⟩
     ·rename_i e3
      have f3 : ((s.kind : Int) == 7) = false := by simp; omega
      clear e1 e2 e3
      simp only [Option.some.injEq] at hq
      have HR : Hid (r = .ok R) := hq.symm
      clear hq
      go_wp2_with fail
      go_ret
      refine ⟨L1, ?_⟩
      rw [HR.out]
      exact ⟨rfl, x1, y1, ev1, H1⟩
  ·cases hq
end
def Rn.step (R : Rn) (c : Cc) (key : Nat) (s : Stp) : Option (Except (Nat × Nat) Rn) :=
 if s.kind = 0 then R.move c key s.on s.tail
 else if s.kind = 1 \/ s.kind = 2 \/ s.kind = 7 then R.atTail c s
 else if s.kind = 3 then (R.forget c key).map .ok
 else if s.kind = 4 then (R.vars[s.on.1]?).bind fun v => (c.mo[s.on.1]?).bind fun m => if v <= 1000000 then some (.ok { R with vars := R.vars.set s.on.1 (min (v + 1) m) }) else none
 else if s.kind = 5 then (R.vars[s.on.1]?).bind fun v => if v <= 1000000 then some (.ok { R with vars := R.vars.set s.on.1 (v - 1) }) else none
 else if s.kind = 6 then (R.addFreq c key 1).map .ok
 else some (.ok R)
section
variable {w w' : World} {lo rb mb ab mp : Nat} {x y vs ev : Value} {fz : Nat -> Option Obj} {key : Nat} {R S : Rn} {c : Cc} {E : Nat -> Addr}
theorem Rx.var (h : Rx w lo rb mb ab mp x y vs ev fz key R) {g : Nat} (hg : vs.ownBlock = some g) (n v : Nat) (hn : n < R.vars.length) :
  Rx (w.setCell ⟨g, n, none⟩ (.int .i64 v)) lo rb mb ab mp x y vs ev fz key { R with vars := R.vars.set n v } /\ Below lo w (w.setCell ⟨g, n, none⟩ (.int .i64 v)) := by
 have hb : ∀ k, k ≠ g -> (w.setCell ⟨g, n, none⟩ (.int .i64 v)).heap[k]? = w.heap[k]? := fun k hk => Below.heap_setCell _ _ _ _ hk
 obtain ⟨n1, n2, n3⟩ := h.offV g hg
 refine ⟨⟨(hb rb (Ne.symm n1)).trans h.at', h.ar.keep (fun k hm => hb k (fun e => n2 (by rw [<- e]; exact hm))), ?_, own_mv h.el (fun q hq _ => hb q (fun e => n3 (by rw [<- e]; exact hq))), h.off, h.offV, h.offE, h.low, fun k o hk => ⟨(hb k (fun e => (h.fx k o hk).2.2.2.1 (by rw [e]; exact hg))).trans (h.fx k o hk).1, (h.fx k o hk).2⟩⟩, (Below.refl lo w).setCell (p := ⟨g, n, none⟩) (h.va.lt g hg).1 _⟩
 have h1 := own_set h.va hg (o := n) (by omega) (.int .i64 v)
 show World.ownsRow _ _ _ _ _ (R.vars.set n v).length (ints (R.vars.set n v))
 have e : ints (R.vars.set n v) = (ints R.vars).set n (.int .i64 v) := by simp [ints, List.map_set]
 rw [e, List.length_set]
 exact h1
theorem Pz.most (h : Pz w lo mb c) {q m : Nat} (hb : c.mo[q]? = some m) : ∃ g cap, w.cell? ⟨mb, 4, none⟩ = some (.slice (some ⟨g, 0, none⟩) c.mo.length cap) /\ q < c.mo.length /\ w.cell? ⟨g, q, none⟩ = some (.int .i64 m) := by
 obtain ⟨v, lo0, rm, a, s, h1, h2⟩ := h.ex
 have hn := (List.getElem?_eq_some_iff.1 hb).1
 have ho : w.ownsRow lo0 3 1 (v 3) c.mo.length (c.mo.map fun (n : Nat) => Value.int .i64 n) := h2.pg.own 3 (by decide) (by decide)
 obtain ⟨g, cap, e1, _, _, e4⟩ := row_at ho (by omega)
 refine ⟨g, cap, ?_, hn, ?_⟩
 ·rw [(blk_cl h1).1 4, <- e1]; rfl
 ·rw [e4 q (by omega)]; simp [hb]
theorem Pz.mostV (h : Pz w lo mb c) : ∃ a k, w.cell? ⟨mb, 4, none⟩ = some (.slice a c.mo.length k) := by
 obtain ⟨v, lo0, rm, a, s, h1, h2⟩ := h.ex
 have ho : w.ownsRow lo0 3 1 (v 3) c.mo.length (c.mo.map fun (n : Nat) => Value.int .i64 n) := h2.pg.own 3 (by decide) (by decide)
 rcases ho.2 with ⟨e1, e2⟩ | ⟨g, cap, cur, e1, _⟩
 ·exact ⟨none, 0, by rw [(blk_cl h1).1 4, e2, <- e1]; rfl⟩
 ·exact ⟨_, _, by rw [(blk_cl h1).1 4, <- e1]; rfl⟩
theorem Rx.varsV (h : Rx w lo rb mb ab mp x y vs ev fz key R) : ∃ a k, vs = .slice a R.vars.length k := by
 rcases h.va.2 with ⟨e1, e2⟩ | ⟨g, cap, cur, e1, _⟩
 ·exact ⟨none, 0, by rw [e1, e2]⟩
 ·exact ⟨_, _, e1⟩
theorem OutE.val {r : Except (Nat × Nat) Rn} {e : Ending} (h : OutE w lo rb mb ab mp vs fz key E r e w') : ∃ v, e = .returned v /\ OutE w lo rb mb ab mp vs fz key E r (.returned v) w' := by
 obtain ⟨h1, h2⟩ := h
 cases r with
 | ok S => obtain ⟨rfl, h3⟩ := h2; exact ⟨_, rfl, h1, rfl, h3⟩
 | error q => obtain ⟨i, p⟩ := q; obtain ⟨f, rfl, h3⟩ := h2; exact ⟨_, rfl, h1, f, rfl, h3⟩
theorem OutE.after {r : Except (Nat × Nat) Rn} {e : Ending} {w0 w1 : World} (h : OutE w1.drew lo rb mb ab mp vs fz key E r e w') (hb : Below lo w0 w1) : OutE w0 lo rb mb ab mp vs fz key E r e w' := by
 obtain ⟨h1, h2⟩ := h
 exact ⟨(bdrw hb).trans h1, h2⟩
structure DS (w : World) (lo rb mb ab mp : Nat) (vs : Value) (fz : Nat -> Option Obj) (key : Nat) (c : Cc) (E : Nat -> Addr) (R : Rn) (s : Stp) (bx : Nat) (W : World) : Prop where
 rh : RH W lo rb mb ab mp vs fz key c E R
 box : W.heap[bx]? = some (.cells (spA s) 193)
 bl : Below lo w W
 ge : lo <= bx
theorem rdo_any (h : RH w lo rb mb ab mp vs fz key c E R) (hk : key < key64) (s : Stp) (r : Except (Nat × Nat) Rn) (hq : R.step c key s = some r) :
  Calls Tryz.prog 78 #[ptr rb, .agg (spA s)] w (OutE w lo rb mb ab mp vs fz key E r) := by
 have hsz := h.pq.sz
 have B0 := (Below.refl w.heap.size w).alloc (Nat.le_refl _) (.cells (spA s) 193)
 have h0 := h.grow B0
 have b0 : (w.alloc (.cells (spA s) 193)).heap[w.heap.size]? = some (.cells (spA s) 193) := heap_new rfl
 have L0 := B0.mono hsz
 obtain ⟨x, y, ev, H0⟩ := h0.rx
 obtain ⟨va, vc, hvs⟩ := H0.varsV
 obtain ⟨ma, mc, hmo⟩ := h0.pq.mostV
 go_enter Tryz.func78, Tryz.ntmps78
 go_upto_region 1 with fail
 generalize w.alloc (.cells (spA s) 193) = w1 at *
 have D0 : DS w lo rb mb ab mp vs fz key c E R s w.heap.size w1.drew := ⟨h0.grow (bdrw (Below.refl _ _)), b0, bdrw L0, hsz⟩
 generalize w.heap.size = bx at *
 go_cut [5, 6] (fun v5 v6 wx => v5 = vs /\ v6 = .slice ma c.mo.length mc /\ DS w lo rb mb ab mp vs fz key c E R s bx wx /\ wx.cell? ⟨mb, 4, none⟩ = some (.slice ma c.mo.length mc))
 case first =>
  obtain ⟨c1, cf1⟩ := blk_cl H0.at'
  rw [hvs] at c1
  have HV : Hid (vs = .slice va R.vars.length vc) := hvs
  clear hvs
  go_region
  all_goals
   go_wp2_with fail
   go_meet
   exact ⟨by rw [HV.out], rfl, D0, hmo⟩
 case rest =>
 obtain ⟨e5, rfl, ⟨h1, b1, L1, g1⟩, hmo1⟩ := hcut
 have e5 := e5.symm
 subst e5
 clear H0 h0 B0 b0 L0 D0 hmo hvs
 obtain ⟨x1, y1, ev1, H1⟩ := h1.rx
 obtain ⟨c1, cf1⟩ := blk_cl H1.at'
 obtain ⟨c2, cf2⟩ := blk_cl b1
 unfold Rn.step at hq
 split at hq
 ·rename_i e0
  have f0 : ((s.kind : Int) == 0) = true := by simp; omega
  clear e0
  have HM := rmove_any H1.drew (h1.grow (bdrw (Below.refl _ _))).pq (h1.grow (bdrw (Below.refl _ _))).e1 h1.l1 key hk s.on s.tail r hq
  go_wp2_with fail
  go_region_with (go_at_call 110; refine HM.mono ?_; rintro e w4 h5; obtain ⟨v4, rfl, H5⟩ := h5.val)
  all_goals
   go_wp2_with fail
   go_ret
   exact H5.after L1
 ·rename_i e0
  have f0 : ((s.kind : Int) == 0) = false := by simp; omega
  split at hq
  ·rename_i e1
   have HM := rtail_any h1 s r hq
   rcases e1 with e1 | e1 | e1
   ·have f1 : ((s.kind : Int) == 1) = true := by simp; omega
    clear e1 e0
    go_wp2_with fail
    refine HM.mono ?_
    rintro e w4 ⟨L5, H5⟩
    cases r with
    | ok S =>
     obtain ⟨rfl, H5⟩ := H5
     go_wp2_with fail
     go_ret
     exact ⟨L1.trans L5, rfl, H5⟩
    | error q =>
     obtain ⟨i, p⟩ := q
     obtain ⟨f, rfl, H5⟩ := H5
     go_wp2_with fail
     go_ret
     exact ⟨L1.trans L5, f, rfl, H5⟩
   ·have f1 : ((s.kind : Int) == 1) = false := by simp; omega
    have f2 : ((s.kind : Int) == 2) = true := by simp; omega
    clear e1 e0
    go_wp2_with fail
    refine HM.mono ?_
    rintro e w4 ⟨L5, H5⟩
    cases r with
    | ok S =>
     obtain ⟨rfl, H5⟩ := H5
     go_wp2_with fail
     go_ret
     exact ⟨L1.trans L5, rfl, H5⟩
    | error q =>
     obtain ⟨i, p⟩ := q
     obtain ⟨f, rfl, H5⟩ := H5
     go_wp2_with fail
     go_ret
     exact ⟨L1.trans L5, f, rfl, H5⟩
   ·have f1 : ((s.kind : Int) == 1) = false := by simp; omega
    have f2 : ((s.kind : Int) == 2) = false := by simp; omega
    have f7 : ((s.kind : Int) == 7) = true := by simp; omega
    clear e1 e0
    go_wp2_with fail
    refine HM.mono ?_
    rintro e w4 ⟨L5, H5⟩
    cases r with
    | ok S =>
     obtain ⟨rfl, H5⟩ := H5
     go_wp2_with fail
     go_ret
     exact ⟨L1.trans L5, rfl, H5⟩
    | error q =>
     obtain ⟨i, p⟩ := q
     obtain ⟨f, rfl, H5⟩ := H5
     go_wp2_with fail
     go_ret
     exact ⟨L1.trans L5, f, rfl, H5⟩
  ·rename_i e1
   have f1 : ((s.kind : Int) == 1) = false := by simp; omega
   have f2 : ((s.kind : Int) == 2) = false := by simp; omega
   have f7 : ((s.kind : Int) == 7) = false := by simp; omega
   split at hq
   ·rename_i e3
    have f3 : ((s.kind : Int) == 3) = true := by simp; omega
    clear e0 e1 e3
    simp only [Option.map_eq_some_iff] at hq
    obtain ⟨S, hS, hr⟩ := hq
    have HR : Hid (r = .ok S) := hr.symm
    clear hr
    have HF := rforget_any H1 h1.pq key hk S hS
    go_wp2_with fail
    refine HF.mono ?_
    rintro e w4 ⟨rfl, H5, L5⟩
    go_wp2_with fail
    go_ret
    refine ⟨L1.trans L5, ?_⟩
    rw [HR.out]
    exact ⟨rfl, H5⟩
   ·rename_i e3
    have f3 : ((s.kind : Int) == 3) = false := by simp; omega
    split at hq
    ·rename_i e4
     have f4 : ((s.kind : Int) == 4) = true := by simp; omega
     clear e0 e1 e3 e4
     simp only [Option.bind_eq_some_iff] at hq
     obtain ⟨v, hv, m, hm, hq⟩ := hq
     split at hq
     ·rename_i hbd
      simp only [Option.some.injEq] at hq
      have HR : Hid (r = .ok { R with vars := R.vars.set s.on.1 (min (v + 1) m) }) := hq.symm
      clear hq
      obtain ⟨g, cap, ev2, hg, hn, hfz, kv⟩ := H1.varAt hv
      obtain ⟨gm, capm, km, hnm, kmv⟩ := h1.pq.most hm
      obtain ⟨H2, B2⟩ := H1.var hg s.on.1 (min (v + 1) m) hn
      have hix := ix_int g 0 R.vars.length cap s.on.1 hn
      have hixm := ix_int gm 0 c.mo.length capm s.on.1 hnm
      simp only [Nat.zero_add] at hix hixm
      have hmin := fun W => run_min Tryz.prog #[3, 3] 3 ((v : Int) + 1) (m : Int) W
      have emin : ((min (v + 1) m : Nat) : Int) = min ((v : Int) + 1) (m : Int) := by omega
      rw [emin] at H2 B2
      generalize min ((v : Int) + 1) (m : Int) = mn at *
      rw [hmo1] at km
      simp only [Option.some.injEq, Value.slice.injEq, true_and] at km
      obtain ⟨rfl, rfl⟩ := km
      subst ev2
      clear hv hm hmo1 h1 H1
      go_wp2_with fail
      go_region
      all_goals
       go_wp2_with fail
       go_ret
       refine ⟨bdrw (L1.trans B2), ?_⟩
       rw [HR.out]
       exact ⟨rfl, x1, y1, ev1, H2.drew⟩
     ·cases hq
    ·rename_i e4
     have f4 : ((s.kind : Int) == 4) = false := by simp; omega
     split at hq
     ·rename_i e5
      have f5 : ((s.kind : Int) == 5) = true := by simp; omega
      clear e0 e1 e3 e4 e5
      simp only [Option.bind_eq_some_iff] at hq
      obtain ⟨v, hv, hq⟩ := hq
      split at hq
      ·rename_i hbd
       simp only [Option.some.injEq] at hq
       have HR : Hid (r = .ok { R with vars := R.vars.set s.on.1 (v - 1) }) := hq.symm
       clear hq
       obtain ⟨g, cap, ev2, hg, hn, hfz, kv⟩ := H1.varAt hv
       obtain ⟨H2, B2⟩ := H1.var hg s.on.1 (v - 1) hn
       have hix := ix_int g 0 R.vars.length cap s.on.1 hn
       simp only [Nat.zero_add] at hix
       have hmax := fun W => run_max Tryz.prog #[3, 3] 3 ((v : Int) - 1) 0 W
       have emax : ((v - 1 : Nat) : Int) = max ((v : Int) - 1) 0 := by omega
       rw [emax] at H2 B2
       generalize max ((v : Int) - 1) 0 = mn at *
       subst ev2
       clear hv hmo1 h1 H1
       go_wp2_with fail
       go_region
       all_goals
        go_wp2_with fail
        go_ret
        refine ⟨bdrw (L1.trans B2), ?_⟩
        rw [HR.out]
        exact ⟨rfl, x1, y1, ev1, H2.drew⟩
      ·cases hq
     ·rename_i e5
      have f5 : ((s.kind : Int) == 5) = false := by simp; omega
      split at hq
      ·rename_i e6
       have f6 : ((s.kind : Int) == 6) = true := by simp; omega
       clear e0 e1 e3 e4 e5 e6
       simp only [Option.map_eq_some_iff] at hq
       obtain ⟨S, hS, hr⟩ := hq
       have HR : Hid (r = .ok S) := hr.symm
       clear hr
       have HF := raddFreq_any H1 h1.pq key hk 1 (Or.inl rfl) S hS
       go_wp2_with fail
       refine HF.mono ?_
       rintro e w4 ⟨rfl, H5, L5⟩
       go_wp2_with fail
       go_ret
       refine ⟨L1.trans L5, ?_⟩
       rw [HR.out]
       exact ⟨rfl, H5⟩
      ·rename_i e6
       have f6 : ((s.kind : Int) == 6) = false := by simp; omega
       clear e0 e1 e3 e4 e5 e6
       simp only [Option.some.injEq] at hq
       have HR : Hid (r = .ok R) := hq.symm
       clear hq
       go_wp2_with fail
       go_ret
       refine ⟨L1, ?_⟩
       rw [HR.out]
       exact ⟨rfl, x1, y1, ev1, H1⟩
end
end Go.Proofs.YtfddoieakfpagabGreatDoor
