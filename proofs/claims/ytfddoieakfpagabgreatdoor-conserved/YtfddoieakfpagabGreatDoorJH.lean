import Derived.Laws.IdiomStrings
import Derived.Test.YtfddoieakfpagabGreatDoorJG
namespace Go.Proofs.YtfddoieakfpagabGreatDoor
set_option maxHeartbeats 4000000
set_option maxRecDepth 20000
open Go.RowKit
theorem pickK_any (c : Int) (n : Nat) (hn : 0 < n) (hn2 : n <= 1000) (w : World) (h1 : -9223372036854775808 <= c) (h2 : c <= 9223372036854775807) :
  Calls Tryz.prog 9 #[.int .i64 c, .int .i64 n] w fun e w' => ∃ k : Nat, k < n /\ e = .returned (.int .i64 k) /\ w' = w := by
 have hz : ((n : Int) == 0) = false := by simp; omega
 by_cases h : c < 0
 ·have h4 : (-(c + 1)).tmod n = -(c + 1) % n := Int.tmod_eq_emod_of_nonneg (by omega)
  have h5 := Int.emod_nonneg (-(c + 1)) (show (n : Int) ≠ 0 by omega)
  have h6 := Int.emod_lt_of_pos (-(c + 1)) (show (0 : Int) < n by omega)
  go_enter Tryz.func9, Tryz.ntmps9
  go_wp2_with fail
  go_ret
  refine ⟨(-(c + 1) % n).toNat, by omega, ?_, rfl⟩
  have h3 : ((-(c + 1) % n).toNat : Int) = -(c + 1) % n := by omega
  rw [h3]
  first | rfl | rw [<- h4] | (congr 3; omega)
 ·have h4 : c.tmod n = c % n := Int.tmod_eq_emod_of_nonneg (by omega)
  have h5 := Int.emod_nonneg c (show (n : Int) ≠ 0 by omega)
  have h6 := Int.emod_lt_of_pos c (show (0 : Int) < n by omega)
  go_enter Tryz.func9, Tryz.ntmps9
  go_wp2_with fail
  go_ret
  refine ⟨(c % n).toNat, by omega, ?_, rfl⟩
  have h3 : ((c % n).toNat : Int) = c % n := by omega
  rw [h3]
  first | rfl | rw [<- h4] | (congr 3; omega)
def dgB (n : Nat) : UInt8 := UInt8.ofNat (48 + n)
def figL (n : Nat) : List UInt8 := if n < 10 then [dgB n] else [dgB (n / 10), dgB (n % 10)]
theorem conv2 (n : Nat) (hn : n <= 255) (W : World) (g : Nat) (hg : W.heap[g]? = some (.cells #[.int .u8 (n : Int)] 5)) : (convert 65 9 (.slice (some ⟨g, 0, none⟩) 1 1)).run Tryz.prog W = .ok (S [UInt8.ofNat n]) W := by
 refine run_convert_bytes_back (P := Tryz.prog) _ 65 9 5 ⟨g, 0, none⟩ 1 [UInt8.ofNat n] Tryz.underlying65 Tryz.underlying5 Tryz.underlying9 ?_
 intro j hj
 have : j = 0 := by simp at hj; omega
 subst this
 have e : (UInt8.ofNat n).toNat = n := by simp; omega
 simp [World.cell?, hg, Addr.add, e]
theorem conv1 (n : Nat) (hn : n <= 255) (W : World) : (convert 65 9 (.slice (some ⟨W.heap.size, 0, none⟩) 1 1)).run Tryz.prog (W.alloc (.cells #[.int .u8 (n : Int)] 5)) = .ok (S [UInt8.ofNat n]) (W.alloc (.cells #[.int .u8 (n : Int)] 5)) := conv2 n hn _ _ (heap_new rfl)
theorem convD (n : Nat) (hn : n < 10) (W : World) (g : Nat) (hg : W.heap[g]? = some (.cells #[.int .u8 (48 + (n : Int))] 5)) : (convert 65 9 (.slice (some ⟨g, 0, none⟩) 1 1)).run Tryz.prog W = .ok (S [dgB n]) W := by
 have e48 : ((48 + n : Nat) : Int) = 48 + (n : Int) := by omega
 exact conv2 (48 + n) (by omega) W g (by rw [e48]; exact hg)
theorem convE (n : Nat) (hn : n < 10) (W : World) : (convert 65 9 (.slice (some ⟨W.heap.size, 0, none⟩) 1 1)).run Tryz.prog (W.alloc (.cells #[.int .u8 (48 + (n : Int))] 5)) = .ok (S [dgB n]) (W.alloc (.cells #[.int .u8 (48 + (n : Int))] 5)) := convD n hn _ _ (heap_new rfl)
theorem fig1_any (n : Nat) (hn : n < 10) (w : World) :
  Calls Tryz.prog 11 #[.int .i64 n] w fun e w' => e = .returned (S [dgB n]) /\ Below w.heap.size w w' := by
 have h1 : decide ((n : Int) < 10) = true := by simp; omega
 have hc := fun W => convE n hn W
 go_enter Tryz.func11, Tryz.ntmps11
 go_wp2_with fail
 go_ret
 exact ⟨rfl, (Below.refl _ _).alloc (Nat.le_refl _) _⟩
theorem figK_any (n : Nat) (hn : n < 100) (w : World) :
  Calls Tryz.prog 11 #[.int .i64 n] w fun e w' => e = .returned (S (figL n)) /\ Below w.heap.size w w' := by
 unfold figL
 by_cases h : n < 10
 ·rw [if_pos h]
  exact fig1_any n h w
 ·rw [if_neg h]
  have h1 : decide ((n : Int) < 10) = false := by simp; omega
  have hq : (n : Int).tdiv 10 = ((n / 10 : Nat) : Int) := by rw [Int.tdiv_eq_ediv_of_nonneg (by omega)]; omega
  have hr : (n : Int).tmod 10 = ((n % 10 : Nat) : Int) := by rw [Int.tmod_eq_emod_of_nonneg (by omega)]; omega
  have ha : n / 10 < 10 := by omega
  have hlt : n % 10 < 10 := by omega
  generalize n / 10 = a at *
  generalize n % 10 = b at *
  have hw1 : IntKind.i64.wrap (a : Int) = a := by rw [IntKind.wrap_i64]; omega
  have hw2 : IntKind.i64.wrap (48 + (b : Int)) = 48 + (b : Int) := by rw [IntKind.wrap_i64]; omega
  have hw3 : IntKind.u8.wrap (48 + (b : Int)) = 48 + (b : Int) := by rw [IntKind.wrap_u8]; omega
  have hc := fun W => convE b hlt W
  have hcd := convD b hlt (w.alloc (.cells #[.int .u8 (48 + (b : Int))] 5)).drew w.heap.size (heap_new rfl)
  have HF1 := fig1_any a ha w.drew
  have HF2 : Calls Tryz.prog 11 #[.int .i64 a] (w.drew.alloc (.cells #[.int .u8 (48 + (b : Int))] 5)) fun e w2 => e = .returned (S [dgB a]) /\ Below w.heap.size w w2 /\ (convert 65 9 (.slice (some ⟨w.heap.size, 0, none⟩) 1 1)).run Tryz.prog w2 = .ok (S [dgB b]) w2 := (fig1_any a ha _).mono fun e w2 ⟨h1, h2⟩ => ⟨h1, (bdrw ((Below.refl _ w).alloc (Nat.le_refl _) _)).trans (h2.mono (by simp)), convD b hlt w2 w.heap.size ((h2.block _ (by simp)).trans (heap_new rfl))⟩
  have HF3 : Calls Tryz.prog 11 #[.int .i64 a] (w.alloc (.cells #[.int .u8 (48 + (b : Int))] 5)).drew fun e w2 => e = .returned (S [dgB a]) /\ Below w.heap.size w w2 /\ (convert 65 9 (.slice (some ⟨w.heap.size, 0, none⟩) 1 1)).run Tryz.prog w2 = .ok (S [dgB b]) w2 := (fig1_any a ha _).mono fun e w2 ⟨h1, h2⟩ => ⟨h1, (bdrw ((Below.refl _ w).alloc (Nat.le_refl _) _)).trans (h2.mono (by simp)), convD b hlt w2 w.heap.size ((h2.block _ (by simp)).trans (heap_new rfl))⟩
  go_enter Tryz.func11, Tryz.ntmps11
  go_wp2_with fail
  go_region_with (go_at_call 11; first | (refine HF1.mono ?_; rintro e w2 ⟨rfl, B2⟩; have B3 : Below w.heap.size w w2 := ⟨B2.os, B2.tape, B2.output, B2.size, B2.block⟩) | (refine HF2.mono ?_; rintro e w2 ⟨rfl, B3, hcv⟩) | (refine HF3.mono ?_; rintro e w2 ⟨rfl, B3, hcv⟩))
  all_goals
   go_wp2_with fail
   go_ret
   exact ⟨rfl, by first | exact B3 | exact B3.alloc B3.size _⟩
theorem kload_any {w : World} {E : Nat -> Addr} (SS : Sent w E) (src queue : List UInt8) (x : Tx) (hr : readS src = .ok x) (hk : (polOf x).keys (polOf x).start queue = some []) :
  Calls Tryz.prog 10 #[S src, S queue] w fun e w' => ∃ g dom, e = .returned (ptr g) /\ Below w.heap.size w w' /\ w.heap.size <= g /\ (∀ k, dom k -> w.heap.size <= k) /\ Eg w' g dom x (polOf x).start (0, 0, 0) := by
 have HL := eload_any src SS
 rw [hr] at HL
 go_enter Tryz.func10, Tryz.ntmps10
 go_wp2_with fail
 refine HL.mono ?_
 rintro e w1 ⟨B1, g, rfl, hg, hE⟩
 have HK := ekeys_any hE (SS.move B1) queue
 rw [hk] at HK
 clear HL
 go_wp2_with fail
 refine HK.mono ?_
 rintro e w2 ⟨B2, u, rfl, hu⟩
 have hu0 : ∃ ua uc, u = .slice ua 0 uc := by
  rcases hu.2 with ⟨k1, k2⟩ | ⟨g, cap, cur, k1, _⟩
  ·exact ⟨none, 0, k1⟩
  ·exact ⟨_, _, k1⟩
 obtain ⟨ua, uc, rfl⟩ := hu0
 clear HK
 go_wp2_with fail
 go_ret
 exact ⟨g, _, rfl, B1.trans (B2.mono B1.size), hg, fun k hk => hk.1, hE.below B2⟩
def eqRc (a b : Rc) : Bool := a.op == b.op && a.n == b.n && a.a == b.a && a.b == b.b && a.nots == b.nots
theorem eqRc_ok {a b : Rc} (h : eqRc a b = true) : a = b := by
 obtain ⟨a1, a2, a3, a4, a5⟩ := a
 obtain ⟨b1, b2, b3, b4, b5⟩ := b
 simp [eqRc] at h
 simp [h]
def eqRt (a b : Rt) : Bool := a.op == b.op && a.n == b.n && a.m == b.m && a.tail == b.tail && eqRc a.con b.con && a.other == b.other
theorem eqRt_ok {a b : Rt} (h : eqRt a b = true) : a = b := by
 obtain ⟨a1, a2, a3, a4, a5, a6⟩ := a
 obtain ⟨b1, b2, b3, b4, b5, b6⟩ := b
 simp [eqRt] at h
 simp [h, eqRc_ok h.1.2]
def eqL {α β : Type} (f : α -> β -> Bool) : List α -> List β -> Bool
 | [], [] => true
 | a :: l, b :: m => f a b && eqL f l m
 | _, _ => false
theorem eqL_ok {α : Type} {f : α -> α -> Bool} (hf : ∀ a b, f a b = true -> a = b) : ∀ (l m : List α), eqL f l m = true -> l = m
 | [], [], _ => rfl
 | a :: l, b :: m, h => by
  simp [eqL] at h
  rw [hf a b h.1, eqL_ok hf l m h.2]
def eqRT : (d : Nat) -> RT d -> RT d -> Bool
 | 0, _, _ => true
 | d + 1, xs, ys => eqL (fun (a b : Rt × RT d × RT d) => eqRt a.1 b.1 && (eqRT d a.2.1 b.2.1 && eqRT d a.2.2 b.2.2)) xs ys
theorem eqRT_ok : ∀ (d : Nat) (x y : RT d), eqRT d x y = true -> x = y
 | 0, _, _, _ => rfl
 | d + 1, xs, ys, h => eqL_ok (fun a b h => by
  obtain ⟨a1, a2, a3⟩ := a
  obtain ⟨b1, b2, b3⟩ := b
  simp at h
  rw [eqRt_ok h.1, eqRT_ok d a2 b2 h.2.1, eqRT_ok d a3 b3 h.2.2]) xs ys h
def isPol (src : List UInt8) (L : List DL) (mf : Nat) (rs : List (List UInt8 × Option (RT 8))) : Bool := match readS src with
 | .error _ => false
 | .ok x => (polOf x).L == L && (polOf x).mf == mf && rs.all fun r => match (polOf x).rul r.1, r.2 with
  | some a, some b => eqRT 8 a b
  | none, none => true
  | _, _ => false
theorem isPol_ok {src : List UInt8} {L : List DL} {mf : Nat} {rs : List (List UInt8 × Option (RT 8))} (h : isPol src L mf rs = true) : ∃ x, readS src = .ok x /\ (polOf x).L = L /\ (polOf x).mf = mf /\ ∀ r ∈ rs, (polOf x).rul r.1 = r.2 := by
 unfold isPol at h
 split at h
 ·cases h
 ·rename_i x hx
  simp only [Bool.and_eq_true, beq_iff_eq, List.all_eq_true] at h
  refine ⟨x, hx, h.1.1, h.1.2, fun r hr => ?_⟩
  have := h.2 r hr
  split at this
  ·rename_i a b ha hb
   rw [ha, hb, eqRT_ok 8 a b this]
  ·rename_i ha hb
   rw [ha, hb]
  ·cases this
def rcZ : Rc := ⟨[], 0, ([110, 117, 109], 0), ([110, 117, 109], 0), 0⟩
def rtP (op : List UInt8) (n : Nat) : Rt := ⟨op, n, 0, false, rcZ, false⟩
def rtC (op cop : List UInt8) (n cn : Nat) : Rt := ⟨op, n, 0, false, ⟨cop, cn, ([110, 117, 109], 0), ([110, 117, 109], 0), 0⟩, false⟩
def plT (d : Nat) (op : List UInt8) (n : Nat) : Rt × RT d × RT d := (rtP op n, RTnil d, RTnil d)
def ifFull (d : Nat) (q : Nat) (body : List (Rt × RT d × RT d)) : Rt × RT (d + 1) × RT (d + 1) := (rtC [105, 102] [102, 117, 108, 108] 0 q, (body : RT (d + 1)), RTnil (d + 1))
def satTxt (m : Nat) : List UInt8 := [113, 117, 101, 117, 101, 32, 114, 32, 53, 48, 59, 32, 118, 97, 114, 32, 118, 32] ++ figL m ++ [59, 32, 111, 110, 32, 114, 32, 123, 32, 100, 101, 99, 32, 118, 59, 32, 125, 32, 111, 110, 32, 109, 105, 115, 115, 32, 123, 32, 105, 110, 99, 32, 118, 59, 32, 105, 102, 32, 102, 117, 108, 108, 32, 114, 32, 123, 32, 101, 118, 105, 99, 116, 32, 114, 59, 32, 125, 32, 112, 117, 116, 32, 114, 59, 32, 125]
def satL (m : Nat) : List DL := [([113, 117, 101, 117, 101], [114], 50), ([118, 97, 114], [118], m)]
def satR : RT 8 := ([plT 7 [100, 101, 99] 1] : List (Rt × RT 7 × RT 7))
def satM : RT 8 := ([plT 7 [105, 110, 99] 1, ifFull 6 0 [plT 6 [101, 118, 105, 99, 116] 0], plT 7 [112, 117, 116] 0] : List (Rt × RT 7 × RT 7))
theorem sat_pol_all : ((List.range 99).all fun m => isPol (satTxt (m + 1)) (satL (m + 1)) 0 [([114], some satR), ([109, 105, 115, 115], some satM)]) = true := by kernel_rfl
theorem sat_pol (m : Nat) (h1 : 1 <= m) (h2 : m <= 99) : ∃ x, readS (satTxt m) = .ok x /\ (polOf x).L = satL m /\ (polOf x).mf = 0 /\ (polOf x).rul [114] = some satR /\ (polOf x).rul [109, 105, 115, 115] = some satM := by
 have h := List.all_eq_true.1 sat_pol_all (m - 1) (by simp; omega)
 rw [show m - 1 + 1 = m by omega] at h
 obtain ⟨x, hx, hL, hm, hr⟩ := isPol_ok h
 exact ⟨x, hx, hL, hm, hr ([114], some satR) (by simp), hr ([109, 105, 115, 115], some satM) (by simp)⟩
theorem blk_one (L : List DL) (mf key d : Nat) (xs : List (Rt × RT d × RT d)) (s : Ex) : Ex.blk L mf key (d + 1) (xs : RT (d + 1)) s = seqX (Ex.stm (Ex.blk L mf key d) L mf key) xs s := rfl
theorem stm_pl (L : List DL) (mf key d : Nat) (op : List UInt8) (n : Nat) (h1 : op ≠ [105, 102]) (h2 : op ≠ [114, 101, 112, 101, 97, 116]) (s : Ex) : Ex.stm (Ex.blk L mf key d) L mf key (plT d op n) s = s.plain L mf key (rtP op n) := by
 unfold Ex.stm
 rw [if_neg (show (plT d op n).1.op ≠ [105, 102] from h1), if_neg (show (plT d op n).1.op ≠ [114, 101, 112, 101, 97, 116] from h2)]
 rfl
theorem stm_if (L : List DL) (mf key d q : Nat) (body : List (Rt × RT d × RT d)) (s : Ex) : Ex.stm (Ex.blk L mf key (d + 1)) L mf key (ifFull d q body) s = if maxX L q <= (s.Q.getD q []).length then seqX (Ex.stm (Ex.blk L mf key d) L mf key) body s else .ok s := by
 unfold Ex.stm
 rw [if_pos (show (ifFull d q body).1.op = [105, 102] from rfl)]
 have e : s.cond L key (ifFull d q body).1.con = decide (maxX L q <= (s.Q.getD q []).length) := by
  unfold Ex.cond Ex.yes
  simp [ifFull, rtC]
 rw [e]
 by_cases h : maxX L q <= (s.Q.getD q []).length
 ·rw [if_pos h, if_pos (by simpa using h)]
  rfl
 ·rw [if_neg h, if_neg (by simpa using h)]
  rfl
theorem pl_put (L : List DL) (mf key q : Nat) (s : Ex) : s.plain L mf key (rtP [112, 117, 116] q) = s.moved L key q false := by unfold Ex.plain; rw [if_pos (show (rtP [112, 117, 116] q).op = [112, 117, 116] from rfl)]; rfl
theorem pl_evict (L : List DL) (mf key q : Nat) (s : Ex) {m : List (Nat × Nat)} {k f : Nat} (h : s.Q.getD q [] = m ++ [(k, f)]) : s.plain L mf key (rtP [101, 118, 105, 99, 116] q) = .ok ((s.out q m.length).leaves L q k) := by
 have e0 : s.plain L mf key (rtP [101, 118, 105, 99, 116] q) = s.last L (rtP [101, 118, 105, 99, 116] q) := by unfold Ex.plain; simp [rtP]
 rw [e0]
 unfold Ex.last
 have e1 : (rtP [101, 118, 105, 99, 116] q).n = q := rfl
 rw [e1, h]
 simp [rtP]
theorem one_where {l : List (Nat × Nat)} {r : List (List (Nat × Nat))} {key f : Nat} {l1 l2 : List (Nat × Nat)} (h : l = l1 ++ (key, f) :: l2) (hn : ∀ e ∈ l1, e.1 ≠ key) : whereX (l :: r) key = some (0, l1.length) := whereX_some hn (j := 0) (by rw [h]; rfl) (fun i l hi => by omega)
theorem sat_hit {P : Pol} {m : Nat} (hL : P.L = satL m) (hr : P.rul [114] = some satR) {l : List (Nat × Nat)} {v key f : Nat} {l1 l2 : List (Nat × Nat)} (h : l = l1 ++ (key, f) :: l2) (hn : ∀ e ∈ l1, e.1 ≠ key) : P.access ⟨[l, []], [0, v], []⟩ key = .ok (true, [], ⟨[l, []], [0, v - 1], []⟩) := by
 have hw := one_where (r := [[]]) h hn
 have he : P.event ⟨[l, []], [0, v], []⟩ key = [114] := by unfold Pol.event; simp only [hw, hL]; rfl
 have hh : P.hit ⟨[l, []], [0, v], []⟩ key = true := by unfold Pol.hit; simp only [hw, hL]; rfl
 unfold Pol.access Pol.tree
 rw [he, hh, hr]
 have eb : Ex.blk P.L P.mf key 8 ((some satR).getD (RTnil 8)) (⟨[l, []], [0, v], []⟩ : Ex).fresh = seqX (Ex.stm (Ex.blk P.L P.mf key 7) P.L P.mf key) [plT 7 [100, 101, 99] 1] (⟨[l, []], [0, v], []⟩ : Ex).fresh := rfl
 rw [eb]
 simp only [seqX, stm_pl _ _ _ _ _ _ (show ([100, 101, 99] : List UInt8) ≠ [105, 102] by decide) (show ([100, 101, 99] : List UInt8) ≠ [114, 101, 112, 101, 97, 116] by decide)]
 rfl
theorem sat_miss {P : Pol} {m : Nat} (hL : P.L = satL m) (hr : P.rul [109, 105, 115, 115] = some satM) {l : List (Nat × Nat)} {v key : Nat} (hv : v <= m) (hl : l.length <= 50) (hn : ∀ e ∈ l, e.1 ≠ key) : ∃ g, P.access ⟨[l, []], [0, v], []⟩ key = .ok (false, g, ⟨[(key, 0) :: (if l.length = 50 then l.dropLast else l), []], [0, min (v + 1) m], []⟩) := by
 have hw : whereX [l, []] key = none := whereX_none (fun q hq => by
  simp at hq
  rcases hq with rfl | rfl
  ·exact hn
  ·intro e he; cases he)
 have he : P.event ⟨[l, []], [0, v], []⟩ key = [109, 105, 115, 115] := by unfold Pol.event; simp only [hw]
 have hh : P.hit ⟨[l, []], [0, v], []⟩ key = false := by unfold Pol.hit; simp only [hw]
 unfold Pol.access Pol.tree
 rw [he, hh, hr, hL]
 have eb : Ex.blk (satL m) P.mf key 8 ((some satM).getD (RTnil 8)) (⟨[l, []], [0, v], []⟩ : Ex).fresh = seqX (Ex.stm (Ex.blk (satL m) P.mf key 7) (satL m) P.mf key) [plT 7 [105, 110, 99] 1, ifFull 6 0 [plT 6 [101, 118, 105, 99, 116] 0], plT 7 [112, 117, 116] 0] (⟨[l, []], [0, v], []⟩ : Ex).fresh := rfl
 rw [eb]
 simp only [seqX, stm_pl _ _ _ _ _ _ (show ([105, 110, 99] : List UInt8) ≠ [105, 102] by decide) (show ([105, 110, 99] : List UInt8) ≠ [114, 101, 112, 101, 97, 116] by decide)]
 have e1 : (⟨[l, []], [0, v], []⟩ : Ex).fresh.plain (satL m) P.mf key (rtP [105, 110, 99] 1) = .ok ⟨[l, []], [0, min (v + 1) m], []⟩ := by
  have e2 : (if v < m then v + 1 else v) = min (v + 1) m := by split <;> omega
  unfold Ex.plain
  simp [rtP, Ex.fresh, maxX, satL, e2]
 rw [e1]
 simp only [stm_if]
 have hmx : maxX (satL m) 0 = 50 := rfl
 have hg : (⟨[l, []], [0, min (v + 1) m], []⟩ : Ex).Q.getD 0 [] = l := rfl
 rw [hmx, hg]
 by_cases hf : l.length = 50
 ·rw [if_pos (by omega), if_pos hf]
  obtain ⟨q, k, f, hq⟩ := last_of (l := l) (by intro e; rw [e] at hf; simp at hf)
  simp only [seqX, stm_pl _ _ _ _ _ _ (show ([101, 118, 105, 99, 116] : List UInt8) ≠ [105, 102] by decide) (show ([101, 118, 105, 99, 116] : List UInt8) ≠ [114, 101, 112, 101, 97, 116] by decide), stm_pl _ _ _ _ _ _ (show ([112, 117, 116] : List UInt8) ≠ [105, 102] by decide) (show ([112, 117, 116] : List UInt8) ≠ [114, 101, 112, 101, 97, 116] by decide)]
  rw [pl_evict (m := q) (k := k) (f := f) _ _ _ _ _ (by rw [hg]; exact hq)]
  have hq1 : ∀ e ∈ q, e.1 ≠ key := fun e he => hn e (by rw [hq]; simp [he])
  have ho : ((⟨[l, []], [0, min (v + 1) m], []⟩ : Ex).out 0 q.length).leaves (satL m) 0 k = ⟨[q, []], [0, min (v + 1) m], [k]⟩ := by
   have he : l.eraseIdx q.length = q := by rw [hq, List.eraseIdx_append_of_length_le (Nat.le_refl _)]; simp
   unfold Ex.leaves Ex.out
   rw [if_pos (show resX (satL m) 0 = true from rfl)]
   simp [he]
  simp only [ho, pl_put]
  have hd : l.dropLast = q := by rw [hq]; simp
  rw [hd]
  have hql : q.length < 50 := by rw [hq] at hf; simp at hf; omega
  refine ⟨[k], ?_⟩
  unfold Ex.moved
  have hw2 : whereX [q, []] key = none := whereX_none (fun q' hq' => by
   simp at hq'
   rcases hq' with rfl | rfl
   ·exact hq1
   ·intro e he; cases he)
  simp only [hw2]
  unfold Ex.comes Ex.inn
  rw [hmx]
  simp [putE, resX, satL, Ex.fresh, show ¬ 50 <= q.length by omega]
 ·rw [if_neg (by omega), if_neg hf]
  simp only [stm_pl _ _ _ _ _ _ (show ([112, 117, 116] : List UInt8) ≠ [105, 102] by decide) (show ([112, 117, 116] : List UInt8) ≠ [114, 101, 112, 101, 97, 116] by decide), pl_put]
  refine ⟨[], ?_⟩
  unfold Ex.moved
  simp only [hw]
  unfold Ex.comes Ex.inn
  rw [hmx]
  simp [putE, resX, satL, Ex.fresh, show ¬ 50 <= l.length by omega]
theorem bapp2 (l m : List UInt8) : (ByteArray.mk l.toArray) ++ (ByteArray.mk m.toArray) = ByteArray.mk (l ++ m).toArray := by
 apply ByteArray.ext
 simp
theorem Fo.below {own : Nat -> Prop} {w w' : World} {lo : Nat} (h : Fo own w w') (ho : ∀ k, own k -> lo <= k) (hl : lo <= w.heap.size) : Below lo w w' := ⟨h.os, h.tape, h.output, h.size, fun k hk => h.block k (by omega) (fun e => by have := ho k e; omega)⟩
theorem figL_len (n : Nat) : (figL n).length <= 2 := by unfold figL; split <;> simp
structure SatI (m i v last : Nat) (q : List (Nat × Nat)) : Prop where
 hv : v <= m
 hq : q.length <= 50
 hk : ∀ e ∈ q, e.1 <= i
 hl : last <= i
 hf : last = 0 \/ ∃ f r, q = (last, f) :: r
theorem SatI.hit {m i v last : Nat} {q : List (Nat × Nat)} (h : SatI m i v last q) : SatI m (i + 1) (v - 1) last q := ⟨by have := h.hv; omega, h.hq, fun e he => by have := h.hk e he; omega, by have := h.hl; omega, h.hf⟩
theorem SatI.miss {m i v last : Nat} {q : List (Nat × Nat)} (h : SatI m i v last q) : SatI m (i + 1) (min (v + 1) m) (i + 1) ((i + 1, 0) :: (if q.length = 50 then q.dropLast else q)) := by
 refine ⟨by omega, ?_, fun e he => ?_, by omega, Or.inr ⟨_, _, rfl⟩⟩
 ·have := h.hq
  split
  ·simp; omega
  ·simp; omega
 ·simp only [List.mem_cons] at he
  rcases he with rfl | he
  ·simp
  ·have : e ∈ q := by
    split at he
    ·exact List.dropLast_subset q he
    ·exact he
   have := h.hk e this
   omega
structure SatE (w : World) (m lo : Nat) (x : Tx) (g i v last : Nat) (wr : World) : Prop where
 ex : ∃ q dom n, SatI m i v last q /\ Eg wr g dom x ⟨[q, []], [0, v], []⟩ n /\ (∀ k, dom k -> lo <= k) /\ n.1 <= i /\ n.2.1 <= i /\ n.2.2 <= 7000000 * i
 g : lo <= g
 b : Below lo w wr
theorem saturates_any {w : World} {E : Nat -> Addr} (SS : Sent w E) (l : List UInt8) (_hl : l.length <= 281474976710656) (c : Int) (h1 : -9223372036854775808 <= c) (h2 : c <= 9223372036854775807) :
  Calls Tryz.prog 6 #[S l, .int .i64 c] w fun e w' => e = .returned (.bool true) /\ Below w.heap.size w w' := by
 go_enter Tryz.func6, Tryz.ntmps6
 go_wp2_with fail
 refine (pickK_any c 99 (by decide) (by decide) w h1 h2).mono ?_
 rintro e w1 ⟨k, hk, rfl, rfl⟩
 have HF := figK_any (1 + k) (by omega) w1
 have e1 : ((1 + k : Nat) : Int) = 1 + (k : Int) := by omega
 rw [e1] at HF
 obtain ⟨x, hx, hL, hmf, hr1, hr2⟩ := sat_pol (1 + k) (by omega) (by omega)
 go_wp2_with fail
 refine HF.mono ?_
 rintro e w2 ⟨rfl, B2⟩
 clear HF
 have hfl := figL_len (1 + k)
 have f1 : ¬ (9223372036854775807 < 18 + (figL (1 + k)).length) := by omega
 go_wp2_with fail
 have e2 : (ByteArray.mk #[113, 117, 101, 117, 101, 32, 114, 32, 53, 48, 59, 32, 118, 97, 114, 32, 118, 32] ++ ByteArray.mk (figL (1 + k)).toArray ++ ByteArray.mk #[59, 32, 111, 110, 32, 114, 32, 123, 32, 100, 101, 99, 32, 118, 59, 32, 125, 32, 111, 110, 32, 109, 105, 115, 115, 32, 123, 32, 105, 110, 99, 32, 118, 59, 32, 105, 102, 32, 102, 117, 108, 108, 32, 114, 32, 123, 32, 101, 118, 105, 99, 116, 32, 114, 59, 32, 125, 32, 112, 117, 116, 32, 114, 59, 32, 125]) = ByteArray.mk (satTxt (1 + k)).toArray := by
  rw [show satTxt (1 + k) = [113, 117, 101, 117, 101, 32, 114, 32, 53, 48, 59, 32, 118, 97, 114, 32, 118, 32] ++ figL (1 + k) ++ [59, 32, 111, 110, 32, 114, 32, 123, 32, 100, 101, 99, 32, 118, 59, 32, 125, 32, 111, 110, 32, 109, 105, 115, 115, 32, 123, 32, 105, 110, 99, 32, 118, 59, 32, 105, 102, 32, 102, 117, 108, 108, 32, 114, 32, 123, 32, 101, 118, 105, 99, 116, 32, 114, 59, 32, 125, 32, 112, 117, 116, 32, 114, 59, 32, 125] from rfl, <- bapp2, <- bapp2]
 rw [e2]
 have hst : (polOf x).start = ⟨[[], []], [0, 0], []⟩ := by
  unfold Pol.start
  rw [hL]
  rfl
 have hks : (polOf x).keys (polOf x).start [114] = some [] := by
  unfold Pol.keys Pol.find
  rw [hL, hst]
  rfl
 refine (kload_any (SS.move B2) _ [114] x hx hks).mono ?_
 rintro e w3 ⟨g, dom, rfl, B3, hg, hd, hE⟩
 rw [hst] at hE
 have hz2 := B2.size
 have H0 : SatE w1 (1 + k) w1.heap.size x g 0 0 0 w3 := ⟨⟨[], dom, (0, 0, 0), ⟨by omega, by simp, by simp, by omega, Or.inl rfl⟩, hE, fun k hk => by have := hd k hk; omega, by simp, by simp, by simp⟩, by omega, B2.trans (B3.mono hz2)⟩
 have hval : ∀ q v, (polOf x).value ⟨[q, []], [0, v], []⟩ [118] = some v := fun q v => by
  unfold Pol.value Pol.find
  rw [hL]
  rfl
 clear hE hd hks
 go_wp2_with fail
 go_loopg [6, 7, 8] (min l.length 16384) (fun f v6 v7 v8 wr => ∃ v last i : Nat, v6 = .int .i64 v /\ v7 = .int .u64 last /\ v8 = .int .i64 i /\ i + f = min l.length 16384 /\ SatE w1 (1 + k) w1.heap.size x g i v last wr)
 case atStart => exact ⟨0, 0, 0, rfl, rfl, rfl, by omega, H0⟩
 case round =>
  obtain ⟨v, last, i, rfl, rfl, rfl, hi, H⟩ := hrel
  have hz := H.b.size
  by_cases hlt : i < l.length /\ i < 16384
  ·obtain ⟨hlt, hlt2⟩ := hlt
   have t1 : decide ((i : Int) < (l.length : Int)) = true := by simp; omega
   have t2 : decide ((i : Int) < 16384) = true := by simp; omega
   have hg := bget l i hlt
   go_upto_region 11 with fail
   clear t1 t2
   obtain ⟨q, dom, n, hI, hE, hd, n1, n2, n3⟩ := H.ex
   have hv := hI.hv
   have hlast := hI.hl
   by_cases hc : (l[i].toNat : Int) % 2 = 1 /\ 0 < last
   ·obtain ⟨c1, c2⟩ := hc
    obtain ⟨f, r, hq⟩ := hI.hf.resolve_left (by omega)
    have HA := eaccess_any hE (SS.move H.b) last (by simp only [key64]; omega) (by omega) (by omega) (by omega)
    rw [sat_hit hL hr1 (l1 := []) (by rw [hq]; rfl) (by simp)] at HA
    have hmx : max (wrap64 ((v : Int) - 1)) 0 = ((v - 1 : Nat) : Int) := by rw [show wrap64 ((v : Int) - 1) = (v : Int) - 1 from by simp only [wrap64]; omega]; omega
    have hmy : max ((v : Int) - 1) 0 = ((v - 1 : Nat) : Int) := by omega
    go_upto_region 16 with fail
    go_wp2_with fail
    refine HA.mono ?_
    rintro e w5 ⟨ev, dom', rfl, hF, hE5, hd5, _⟩
    have B5 : Below w1.heap.size w1 w5 := H.b.trans (hF.below (fun k hk => by rcases hk with hk | hk; exact hd k hk; exact hk ▸ H.g) hz)
    have HV := evalue_any hE5 (SS.move B5) [118]
    rw [hval] at HV
    clear HA hE hF
    go_wp2_with fail
    refine HV.mono ?_
    rintro e w6 ⟨B6, rfl⟩
    clear HV
    have hz5 := B5.size
    go_wp2_with fail
    go_roundg (gk - 1)
    case measure => omega
    case rel => exact ⟨_, _, i + 1, rfl, rfl, by simp, by omega, ⟨⟨_, dom', _, hI.hit, hE5.below B6, fun k hk => by rcases hd5 k hk with hk | hk; exact hd k hk; omega, by simp [cntE]; omega, by simp [cntE]; omega, by simp [cntE]; omega⟩, H.g, B5.trans (B6.mono hz5)⟩⟩
   ·obtain ⟨gn, ha⟩ := sat_miss hL hr2 hv hI.hq (key := i + 1) (fun e he => by have := hI.hk e he; omega)
    have hgl := access_len hE.prg ha
    have HA := eaccess_any hE (SS.move H.b) (i + 1) (by simp only [key64]; omega) (by omega) (by omega) (by omega)
    rw [ha, show ((i + 1 : Nat) : Int) = (i : Int) + 1 from by omega] at HA
    clear ha
    have hmn : min ((v : Int) + 1) (1 + (k : Int)) = ((min (v + 1) (1 + k) : Nat) : Int) := by omega
    by_cases c1 : (l[i].toNat : Int) % 2 = 1
    ·have c2 : ¬ 0 < last := fun h => hc ⟨c1, h⟩
     clear hc
     go_upto_region 16 with fail
     go_wp2_with fail
     refine HA.mono ?_
     rintro e w5 ⟨ev, dom', rfl, hF, hE5, hd5, _⟩
     have B5 : Below w1.heap.size w1 w5 := H.b.trans (hF.below (fun k hk => by rcases hk with hk | hk; exact hd k hk; exact hk ▸ H.g) hz)
     have HV := evalue_any hE5 (SS.move B5) [118]
     rw [hval] at HV
     clear HA hE hF
     go_wp2_with fail
     refine HV.mono ?_
     rintro e w6 ⟨B6, rfl⟩
     clear HV
     have hz5 := B5.size
     go_wp2_with fail
     go_roundg (gk - 1)
     case measure => omega
     case rel => exact ⟨_, _, i + 1, rfl, by simp, by simp, by omega, ⟨⟨_, dom', _, hI.miss, hE5.below B6, fun k hk => by rcases hd5 k hk with hk | hk; exact hd k hk; omega, by simp [cntE]; omega, by simp [cntE]; omega, by simp [cntE]; omega⟩, H.g, B5.trans (B6.mono hz5)⟩⟩
    ·clear hc
     go_upto_region 16 with fail
     go_wp2_with fail
     refine HA.mono ?_
     rintro e w5 ⟨ev, dom', rfl, hF, hE5, hd5, _⟩
     have B5 : Below w1.heap.size w1 w5 := H.b.trans (hF.below (fun k hk => by rcases hk with hk | hk; exact hd k hk; exact hk ▸ H.g) hz)
     have HV := evalue_any hE5 (SS.move B5) [118]
     rw [hval] at HV
     clear HA hE hF
     go_wp2_with fail
     refine HV.mono ?_
     rintro e w6 ⟨B6, rfl⟩
     clear HV
     have hz5 := B5.size
     go_wp2_with fail
     go_roundg (gk - 1)
     case measure => omega
     case rel => exact ⟨_, _, i + 1, rfl, by simp, by simp, by omega, ⟨⟨_, dom', _, hI.miss, hE5.below B6, fun k hk => by rcases hd5 k hk with hk | hk; exact hd k hk; omega, by simp [cntE]; omega, by simp [cntE]; omega, by simp [cntE]; omega⟩, H.g, B5.trans (B6.mono hz5)⟩⟩
  ·by_cases hle : i < l.length
   ·have c1 : ¬ i < 16384 := fun h => hlt ⟨hle, h⟩
    have t1 : decide ((i : Int) < (l.length : Int)) = true := by simp; omega
    have t2 : decide ((i : Int) < 16384) = false := by simp; omega
    clear hlt
    go_upto_region 20 with fail
    go_wp2_with fail
    go_ret
    exact ⟨rfl, H.b⟩
   ·clear hlt
    have t1 : decide ((i : Int) < (l.length : Int)) = false := by simp; omega
    go_wp2_with fail
    go_ret
    exact ⟨rfl, H.b⟩
end Go.Proofs.YtfddoieakfpagabGreatDoor
