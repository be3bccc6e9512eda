import Derived.Deep.DeepCutAuto
import Derived.Test.YtfddoieakfpagaaGreatDoorGG
import Derived.Test.YtfddoieakfpagaaGreatDoorGB
namespace Go.Proofs.YtfddoieakfpagaaGreatDoor
set_option maxHeartbeats 4000000
set_option maxRecDepth 20000
open Go.RowKit
theorem aEx (L : List DL) (d : DL) : oQ (L ++ [d]) = oQ L ++ (dlA d).toList := by simp [oQ]
theorem aNu : (Tryz.prog.info? 90).map (fun i => (i.zero, i.size, i.bytes)) = some (some (.agg (dlA ([], [], 0))), 3, 40) := by kernel_rfl
theorem aOd (d : DL) : ∀ u ∈ (dlA d).toList, u.oneCell' = true := by
 have h : (dlA d).toList.all (·.oneCell') = true := by simp [Value.oneCell']
 exact fun u hu => List.all_eq_true.1 h u hu
theorem aNe {w : World} {base k c n size : Nat} {e : TypeId} {a : Option Addr} {xs : List Value} (h : w.ownsRow base e size (.slice a k c) n xs) : k = n := by
 rcases h.2 with ⟨h1, h2⟩ | ⟨g, cap, cur, h1, _⟩
 ·simp at h1; omega
 ·simp at h1; exact h1.2.1
section
variable {w : World} {rb pb tb lo cap : Nat} {l : List UInt8} {TL : List Tok} {s : Rs}
variable {la : Option Addr} {lc : Nat} {L : List DL} {fr : Nat} {Rv Hv Mv : Value} {ms : Bool}
theorem But.low {w' : World} (h : But rb w w') (h1 : lo <= rb) (h2 : lo <= w.heap.size) : Below lo w w' := ⟨h.os, h.tape, h.output, h.size, fun k hk => h.block k (Nat.lt_of_lt_of_le hk h2) (by omega)⟩
theorem Bu.low {w' : World} (h : Bu rb pb w w') (h1 : lo <= rb) (h3 : lo <= pb) (h2 : lo <= w.heap.size) : Below lo w w' := ⟨h.os, h.tape, h.output, h.size, fun k hk => h.block k (Nat.lt_of_lt_of_le hk h2) (by omega) (by omega)⟩
theorem Rd.grown {w' : World} {row : Option Nat} (h : Rd w rb pb tb lo cap l TL s) (hg : w.grownBy w' row) (h1 : some rb ≠ row) (h2 : some tb ≠ row) : Rd w' rb pb tb lo cap l TL s :=
 ⟨(hg.block _ (zL h.at') h1).trans h.at', aW h.own (fun g hg' hl => by
  have : g = tb := by simpa [Value.ownBlock] using hg'.symm
  subst this
  exact hg.block _ hl h2), h.ne, h.len⟩
theorem Below.grown {a w' : World} {row : Option Nat} (h : Below lo a w) (hl : lo <= w.heap.size) (hg : w.grownBy w' row) (hr : ∀ g, row = some g -> lo <= g) : Below lo a w' :=
 ⟨hg.os.trans h.os, hg.tape.trans h.tape, hg.output.trans h.output, Nat.le_trans h.size hg.size, fun k hk => (hg.block k (Nat.lt_of_lt_of_le hk hl) (fun e => by have := hr k e.symm; omega)).trans (h.block k hk)⟩
def aUf (w : World) (rb pb tb lo cap : Nat) (l : List UInt8) (TL : List Tok) (L : List DL) (fr : Nat) (Rv Hv Mv : Value) (ms : Bool) (r : DL × Rs) (e : Ending) (w' : World) : Prop :=
 e = .returned (.tuple #[]) /\ Rd w' rb pb tb lo cap l TL r.2 /\ (∃ la lc, Pl w' rb pb lo la lc (L ++ [r.1]) fr Rv Hv Mv ms /\ ∀ g, (Value.slice la (L ++ [r.1]).length lc).ownBlock = some g -> g ≠ pb /\ g ≠ tb) /\ Below lo w w'
def M9 (w : World) (rb pb tb lo cap : Nat) (l : List UInt8) (TL : List Tok) (s : Rs) (n1 n2 : Nat) (A1 A2 : Array Value) (wx : World) : Prop :=
 Rd wx rb pb tb lo cap l TL s /\ But rb w wx /\ wx.heap[n1]? = some (.cells A1 87) /\ wx.heap[n2]? = some (.cells A2 87)
theorem M9.but {w wx wy : World} {s s' : Rs} {n1 n2 : Nat} {A1 A2 : Array Value} (h : M9 w rb pb tb lo cap l TL s n1 n2 A1 A2 wx) (hb : But rb wx wy) (hr : Rd wy rb pb tb lo cap l TL s') (h1 : n1 ≠ rb) (h2 : n2 ≠ rb) : M9 w rb pb tb lo cap l TL s' n1 n2 A1 A2 wy :=
 ⟨hr, h.2.1.trans hb, hb.at' h.2.2.1 h1, hb.at' h.2.2.2 h2⟩
theorem aD2 (h : Rd w rb pb tb lo cap l TL s) (hp : Pl w rb pb lo la lc L fr Rv Hv Mv ms) (hc : Ch l TL) (hk : s.k < TL.length) (kd : List UInt8) (hop : bD (cur TL s) = kd) (hkd : kd = [113, 117, 101, 117, 101] \/ kd = [103, 104, 111, 115, 116] \/ kd = [118, 97, 114]) (hpt : pb ≠ tb) (hpl : ∀ g, (Value.slice la L.length lc).ownBlock = some g -> g ≠ pb /\ g ≠ tb) (hl1 : lo <= rb) (hl2 : lo <= pb) (hL : L.length < 701) :
  Calls Tryz.prog 43 #[ptr rb] w (aUf w rb pb tb lo cap l TL L fr Rv Hv Mv ms (s.jV l TL L kd)) := by
 have hrb : rb < w.heap.size := (zL h.at')
 have hpb : pb < w.heap.size := (zL hp.at')
 have htb : tb < w.heap.size := (h.own.lt tb rfl).2
 have hlen := h.len
 have ht := aT hk
 have hka : s.aG.k < TL.length := by rcases hkd with e | e | e <;> exact hc.aG hk (hop.trans e) (by decide) (by decide)
 have qf : (kd == [102, 114, 101, 113]) = false := by rcases hkd with e | e | e <;> rw [e] <;> decide
 have h0 := h.alloc (.cells #[S [], S [], .int .i64 0] 87)
 have H1 := (h.alloc (.cells #[S kd, S (bF l (cur TL s).pos), .int .i64 (cur TL s).pos] 87)).drew
 have B1 : But rb w (w.alloc (.cells #[S kd, S (bF l (cur TL s).pos), .int .i64 (cur TL s).pos] 87)).drew := ((But.refl _ _).alloc _).drew
 have b2 : (w.alloc (.cells #[S kd, S (bF l (cur TL s).pos), .int .i64 (cur TL s).pos] 87)).drew.heap[w.heap.size]? = some (.cells #[S kd, S (bF l (cur TL s).pos), .int .i64 (cur TL s).pos] 87) := aC rfl
 obtain ⟨⟨k0, k1, k2⟩, hix⟩ := h.tok ht
 obtain ⟨c, cf⟩ := aA h.at'
 obtain ⟨⟨oJ, vI, vH⟩, _⟩ := h0.tok ht
 obtain ⟨c0, vU⟩ := aA h0.at'
 rw [hop] at k0 oJ
 clear hop hkd
 have E2 : Hid (s.kR l TL L = if (dV L (bF l (cur TL s.aG).pos)).isSome = true then (s.aG.need (cur TL s.aG) [110, 97, 109, 101]).note 4 (cur TL s.aG).pos else s.aG.need (cur TL s.aG) [110, 97, 109, 101]) := rfl
 have E3 : Hid (s.fA l TL L = if L.length = 8 then (s.kR l TL L).note 9 (cur TL s.aG).pos else s.kR l TL L) := rfl
 have HV : Hid (s.jV l TL L kd = ((kd, bF l (cur TL s.aG).pos, ((s.fA l TL L).num l (cur TL (s.fA l TL L)) 1 (if kd = [118, 97, 114] then 99 else 50)).1), ((s.fA l TL L).num l (cur TL (s.fA l TL L)) 1 (if kd = [118, 97, 114] then 99 else 50)).2.need (cur TL ((s.fA l TL L).num l (cur TL (s.fA l TL L)) 1 (if kd = [118, 97, 114] then 99 else 50)).2) [59])) := rfl
 have hk1 : (s.aG.need (cur TL s.aG) [110, 97, 109, 101]).k < TL.length := (vM _ hc hka (aT hka) (by decide) (by decide)).2
 have hk3 : (s.fA l TL L).k < TL.length := by
  have : (s.kR l TL L).k < TL.length := by unfold Rs.kR; split; (rw [iO]; exact hk1); exact hk1
  unfold Rs.fA
  split
  ·rw [iO]; exact this
  ·exact this
 generalize s.jV l TL L kd = v at *
 go_enter Tryz.func43, Tryz.ntmps43
 go_wp2_with fail
 go_region
 generalize (w.alloc (.cells #[S kd, S (bF l (cur TL s).pos), .int .i64 (cur TL s).pos] 87)).drew = w1 at *
 clear k0 k1 k2 oJ vI vH c cf c0 vU hix h0
 obtain ⟨d1, df1⟩ := aA H1.at'
 have H2 := H1.set 1 (.int .i64 (s.k + 1 : Nat)) s.aG rfl
 have B2 := B1.own 1 (.int .i64 (s.k + 1 : Nat))
 have b22 := (zS w1 ⟨rb, 1, none⟩ (.int .i64 (s.k + 1 : Nat)) w.heap.size (by show w.heap.size ≠ rb; omega)).trans b2
 obtain ⟨d2, df2⟩ := aA H2.at'
 obtain ⟨e2, ef2⟩ := aA b22
 obtain ⟨e1, ef1⟩ := aA b2
 have HN : Calls Tryz.prog 45 #[ptr rb, S [110, 97, 109, 101]] (w1.setCell ⟨rb, 1, none⟩ (.int .i64 (s.k + 1 : Nat))) (Ro (w1.setCell ⟨rb, 1, none⟩ (.int .i64 (s.k + 1 : Nat))) rb pb tb lo cap l TL (.agg #[S (bD (cur TL s.aG)), S (bF l (cur TL s.aG).pos), .int .i64 (cur TL s.aG).pos]) (s.aG.need (cur TL s.aG) [110, 97, 109, 101])) := bQ H2 (aT hka) [110, 97, 109, 101]
 generalize s.aG.need (cur TL s.aG) [110, 97, 109, 101] = s1 at *
 generalize bD (cur TL s.aG) = y at *
 generalize bF l (cur TL s.aG).pos = Z at *
 generalize hnp : (cur TL s.aG).pos = np at *
 clear hnp
 generalize s.kR l TL L = s2 at *
 generalize s.fA l TL L = s3 at *
 go_wp2_with fail
 refine HN.mono ?_
 rintro e wN ⟨rfl, HA, BA'⟩
 have BA := B2.trans BA'
 have zA : w.heap.size < wN.heap.size := Nat.lt_of_lt_of_le (zL b22) BA'.size
 have b2A := (BA'.block _ (zL b22) (by omega)).trans b22
 clear d1 df1 d2 df2 e2 ef2 e1 ef1 HN BA' H1 H2 B1 B2 b2 b22
 have HB := HA.alloc (.cells #[S y, S Z, .int .i64 np] 87)
 have BB := BA.alloc (.cells #[S y, S Z, .int .i64 np] 87)
 have b7 : (wN.alloc (.cells #[S y, S Z, .int .i64 np] 87)).heap[wN.heap.size]? = some (.cells #[S y, S Z, .int .i64 np] 87) := aC rfl
 have b2B := (zM wN (.cells #[S y, S Z, .int .i64 np] 87) _ zA).trans b2A
 have P2 := hp.but BB
 go_upto_region 9 with fail
 generalize wN.alloc (.cells #[S y, S Z, .int .i64 np] 87) = wB at *
 have hn2 : wN.heap.size ≠ rb := by omega
 have hn3 : w.heap.size ≠ rb := by omega
 generalize wN.heap.size = n2 at *
 have hwl : lo <= w.heap.size := by omega
 generalize hn1 : w.heap.size = n1 at *
 have HN1 : Hid (w.heap.size = n1) := hn1
 clear hn1
 have M0 : M9 w rb pb tb lo cap l TL s1 n1 n2 #[S kd, S (bF l (cur TL s).pos), .int .i64 (cur TL s).pos] #[S y, S Z, .int .i64 np] wB := ⟨HB, BB, b2B, b7⟩
 clear HA BA b2A
 generalize (cur TL s).pos = kp at *
 generalize bF l kp = kr at *
 go_cut [61] (fun v wx => v = .bool (dV L Z).isSome /\ M9 w rb pb tb lo cap l TL s1 n1 n2 #[S kd, S kr, .int .i64 kp] #[S y, S Z, .int .i64 np] wx)
 case first =>
  obtain ⟨c, cf⟩ := aA HB.at'
  obtain ⟨c7, f7⟩ := aA b7
  have HF := aCr P2.drew Z
  generalize dV L Z = ix at *
  cases ix with
  | none =>
   go_region_with (go_at_call 72; refine HF.mono ?_; rintro e w3 ⟨rfl, B3⟩)
   all_goals (try unfold aKr; go_wp2_with fail)
   all_goals (go_meet; exact ⟨rfl, M0.but (But.refl _ _).drew M0.1.drew hn3 hn2 |>.but (But.of_below B3) (HB.drew.below B3) hn3 hn2⟩)
  | some k =>
   go_region_with (go_at_call 72; refine HF.mono ?_; rintro e w3 ⟨rfl, B3⟩)
   all_goals (try unfold aKr; go_wp2_with fail)
   all_goals (go_meet; exact ⟨rfl, M0.but (But.refl _ _).drew M0.1.drew hn3 hn2 |>.but (But.of_below B3) (HB.drew.below B3) hn3 hn2⟩)
 case rest =>
 obtain ⟨rfl, M1⟩ := hcut
 clear HB BB b2B b7 P2 M0
 generalize hix : (dV L Z).isSome = ib at *
 clear hix
 go_upto_if 61 with fail
 go_cut [] (fun wx => M9 w rb pb tb lo cap l TL s2 n1 n2 #[S kd, S kr, .int .i64 kp] #[S y, S Z, .int .i64 np] wx)
 case first =>
  obtain ⟨d7, df7⟩ := aA M1.2.2.2
  cases ib with
  | true =>
   have e2 : s2 = s1.note 4 np := E2.out
   have HT := jD M1.1 4 np
   rw [<- e2] at HT
   clear E2 E3 HV e2
   go_wp2_with fail
   refine HT.mono ?_
   rintro e w4 ⟨rfl, H4, N4⟩
   go_wp2_with fail
   go_meet
   exact M1.but N4 H4 hn3 hn2
  | false =>
   have e2 : s2 = s1 := E2.out
   go_wp2_with fail
   go_meet
   rw [e2]
   exact M1
 case rest =>
 have M2 := hcut
 clear M1 hcut E2
 have PC := hp.but M2.2.1
 obtain ⟨c, cf⟩ := aA M2.1.at'
 obtain ⟨dp, dpf⟩ := aA PC.at'
 have hlL := PC.len
 go_upto_if 74 with fail
 go_cut [] (fun wx => M9 w rb pb tb lo cap l TL s3 n1 n2 #[S kd, S kr, .int .i64 kp] #[S y, S Z, .int .i64 np] wx)
 case first =>
  obtain ⟨d7, df7⟩ := aA M2.2.2.2
  by_cases h8 : L.length = 8
  ·have h8' : ((L.length : Int) == 8) = true := by simp [h8]
   have e3 : s3 = s2.note 9 np := by rw [E3.out, if_pos h8]
   have HT := jD M2.1 9 np
   rw [<- e3] at HT
   clear E3 HV e3 h8
   go_wp2_with fail
   refine HT.mono ?_
   rintro e w4 ⟨rfl, H4, N4⟩
   go_wp2_with fail
   go_meet
   exact M2.but N4 H4 hn3 hn2
  ·have h8' : ((L.length : Int) == 8) = false := by simp; omega
   have e3 : s3 = s2 := by rw [E3.out, if_neg h8]
   clear h8
   go_wp2_with fail
   go_meet
   rw [e3]
   exact M2
 case rest =>
 have M3 := hcut
 clear M2 hcut E3 c cf dp dpf PC
 obtain ⟨c, cf⟩ := aA M3.2.2.1
 generalize hmo : (if kd = [118, 97, 114] then 99 else 50 : Nat) = most at *
 have HMO : Hid ((if kd = [118, 97, 114] then 99 else 50 : Nat) = most) := hmo
 clear hmo
 go_upto_if 81 with fail
 go_cut [4] (fun v wx => v = .int .i64 most /\ wx = wc)
 case first =>
  cases hqv : (kd == [118, 97, 114]) with
  | true =>
   have em : most = 99 := by rw [<- HMO.out, if_pos (by simpa using hqv)]
   go_wp2_with fail
   go_meet
   exact ⟨by rw [em]; rfl, rfl⟩
  | false =>
   have em : most = 50 := by rw [<- HMO.out, if_neg (by simpa using hqv)]
   go_wp2_with fail
   go_meet
   exact ⟨by rw [em]; rfl, rfl⟩
 case rest =>
 obtain ⟨rfl, rfl⟩ := hcut
 have aU5 : most <= 1000 := by rw [<- HMO.out]; split <;> omega
 clear c cf
 have HM := jZ M3.1.drew (aT hk3) 1 most (by omega) (hc.num _ _ (aT hk3))
 have HZ := jZ (M3.1.alloc (.cells #[S [], S [], .int .i64 0] 90)).drew (aT hk3) 1 most (by omega) (hc.num _ _ (aT hk3))
 have kq := V4 hc hk3 1 most
 generalize s3.num l (cur TL s3) 1 most = q at *
 go_upto_region 16 with fail
 go_cut [5] (fun v wx => ∃ n5, v = ptr n5 /\ n5 ≠ rb /\ Rd wx rb pb tb lo cap l TL q.2 /\ But rb w wx /\ wx.heap[n5]? = some (.cells #[S kd, S Z, .int .i64 q.1] 90))
 case first =>
  obtain ⟨H3, B3, b2, b7⟩ := M3
  obtain ⟨c2, tC⟩ := aA b2
  obtain ⟨c7, cf7⟩ := aA b7
  have bz : (wc.alloc (.cells #[S [], S [], .int .i64 0] 90)).drew.heap[wc.heap.size]? = some (.cells #[S [], S [], .int .i64 0] 90) := aC rfl
  have b7z : (wc.alloc (.cells #[S [], S [], .int .i64 0] 90)).drew.heap[n2]? = _ := (zM _ _ _ (zL b7)).trans b7
  have b2z : (wc.alloc (.cells #[S [], S [], .int .i64 0] 90)).drew.heap[n1]? = _ := (zM _ _ _ (zL b2)).trans b2
  have hnz : wc.heap.size ≠ rb := by have := (zL H3.at'); omega
  obtain ⟨dz7, aVk⟩ := aA b7z
  obtain ⟨dz2, aVm⟩ := aA b2z
  go_region_law (refine mX rfl ?_; go_simp; go_at_call 71; go_must (first | (refine HM.mono ?_; rintro e w6 ⟨rfl, H6, N6⟩; have b76 := N6.at' b7 hn2; have O9 := N6.at' b2 hn3; obtain ⟨d76, aT8⟩ := aA b76; obtain ⟨d26, aT9⟩ := aA O9; obtain ⟨da7, aVn⟩ := aA ((zM w6 (.cells #[S [], S [], .int .i64 0] 90) _ (zL b76)).trans b76); obtain ⟨da2, aVo⟩ := aA ((zM w6 (.cells #[S [], S [], .int .i64 0] 90) _ (zL O9)).trans O9); have B6 : But rb w w6 := B3.drew.trans N6; have H7 := H6.alloc (.cells #[S kd, S Z, .int .i64 q.1] 90); have B7 := B6.alloc (.cells #[S kd, S Z, .int .i64 q.1] 90); have b57 : (w6.alloc (.cells #[S kd, S Z, .int .i64 q.1] 90)).heap[w6.heap.size]? = some (.cells #[S kd, S Z, .int .i64 q.1] 90) := aC rfl; have hn5 : w6.heap.size ≠ rb := (by have := (zL H6.at'); omega)) | (refine HZ.mono ?_; rintro e w6 ⟨rfl, H6, N6⟩; have b76 := N6.at' b7z hn2; have O9 := N6.at' b2z hn3; have bz6 := N6.at' bz hnz; obtain ⟨d76, aT8⟩ := aA b76; obtain ⟨d26, aT9⟩ := aA O9; obtain ⟨dz6, aVl⟩ := aA bz6; have B6 : But rb w w6 := (B3.alloc (.cells #[S [], S [], .int .i64 0] 90)).drew.trans N6; have hz5 : w.heap.size <= wc.heap.size := B3.size; have tz : tb < wc.heap.size := (H3.own.lt tb rfl).2; have H7 := ((H6.other wc.heap.size 0 (S kd) hnz (by omega)).other wc.heap.size 1 (S Z) hnz (by omega)).other wc.heap.size 2 (.int .i64 q.1) hnz (by omega); have B7 : But rb w (((w6.setCell ⟨wc.heap.size, 0, none⟩ (S kd)).setCell ⟨wc.heap.size, 1, none⟩ (S Z)).setCell ⟨wc.heap.size, 2, none⟩ (.int .i64 q.1)) := ((B6.new _ 0 _ hz5).new _ 1 _ hz5).new _ 2 _ hz5; have b57 := aM2 _ _ _ _ (S kd) (S Z) (.int .i64 q.1) bz6 rfl; have hn5 := hnz)))
  all_goals
   go_wp2_with fail
   go_meet
   exact ⟨_, rfl, hn5, H7, B7, b57⟩
 case rest =>
 obtain ⟨n5, rfl, hn5, H7, B7, b57⟩ := hcut
 clear M3 HM HZ
 go_wp2_with fail
 have HS := bQ H7 (aT kq) [59]
 refine HS.mono ?_
 rintro e w8 ⟨rfl, H8, N8⟩
 have B8 := B7.trans N8
 have P8 := hp.but B8
 have b58 := N8.at' b57 hn5
 have hv := HV.out
 subst hv
 clear HV HS H7 B7 b57 N8
 obtain ⟨d8, df8⟩ := aA H8.at'
 obtain ⟨p8, pf8⟩ := aA P8.at'
 obtain ⟨c58, aVr⟩ := aA b58
 obtain ⟨i0, hi, hz0, hz1, hz2⟩ := info_parts aNu
 have hbd : L.length + 1 <= maxLen := by simp only [maxLen]; omega
 have hby : (L.length + 1) * 40 <= 140737488355328 := by omega
 have hw0 : lo <= w.heap.size := by rw [HN1.out]; exact hwl
 have hl8 : lo <= (w8.alloc (.cells #[S kd, S Z, .int .i64 q.1] 90)).drew.heap.size := Nat.le_trans hw0 (B8.alloc _).drew.size
 have H9 := (H8.alloc (.cells #[S kd, S Z, .int .i64 q.1] 90)).drew
 have P9 := (P8.but ((But.refl rb w8).alloc (.cells #[S kd, S Z, .int .i64 q.1] 90))).drew
 have B9 := (B8.alloc (.cells #[S kd, S Z, .int .i64 q.1] 90)).drew.low hl1 hw0
 have bp9 := (zL P9.at')
 obtain ⟨d9, df9⟩ := aA H9.at'
 obtain ⟨p9, pf9⟩ := aA P9.at'
 have aRs : some pb ≠ (Value.slice la L.length lc).ownBlock := fun e => (hpl pb e.symm).1 rfl
 have aRr : some rb ≠ (Value.slice la L.length lc).ownBlock := fun e => P8.nl rb e.symm rfl
 have aRq : some tb ≠ (Value.slice la L.length lc).ownBlock := fun e => (hpl tb e.symm).2 rfl
 have aR7 := P9.own
 have aTc : Hid (∀ g, (Value.slice la L.length lc).ownBlock = some g -> lo <= g) := fun g hg => (P9.own.lt g hg).1
 have sz9 : Hid (rb < (w8.alloc (.cells #[S kd, S Z, .int .i64 q.1] 90)).drew.heap.size /\ pb < (w8.alloc (.cells #[S kd, S Z, .int .i64 q.1] 90)).drew.heap.size /\ tb < (w8.alloc (.cells #[S kd, S Z, .int .i64 q.1] 90)).drew.heap.size) := ⟨(zL H9.at'), bp9, (H9.own.lt tb rfl).2⟩
 go_upto_region 18 with fail
 go_region_law (refine bT rfl (.tmp 102) (.tmp 104) 77 rfl lo 90 i0 (.agg (dlA ([], [], 0))) 3 40 Tryz.underlying77 hi hz0 hz1 hz2 rfl (by decide) (.slice la L.length lc) L.length (oQ L) (by simp [Act.eval]) aR7 ⟨w8.heap.size, 0, none⟩ 1 1 (dlA (kd, Z, q.1)).toList (by simp [Act.eval]) rfl (fun j u hu => dY w8 (dlA (kd, Z, q.1)) 90 j u hu) (aOd _) hbd hby hl8 ?_; intro v' w10 aEg hgrow hat; obtain ⟨ya, yk, yc, rfl⟩ := aU aEg; have aSn := (hgrow.block pb bp9 aRs).trans P9.at'; obtain ⟨cq, cqf⟩ := aA aSn; have aSm := H9.grown hgrow aRr aRq; obtain ⟨cr, crf⟩ := aA aSm.at')
 all_goals
  go_wp2_with fail
  have hyk : yk = L.length + 1 := aNe aEg
  subst hyk
  have hne : ∀ g, (Value.slice ya (L.length + 1) yc).ownBlock = some g -> g ≠ pb /\ g ≠ tb /\ g ≠ rb := by
   intro g hg
   rcases hat with e | e
   ·have hg' := e.symm.trans hg
    exact ⟨(hpl g hg').1, (hpl g hg').2, P8.nl g hg'⟩
   ·have hg' := e.symm.trans hg
    simp only [Option.some.injEq] at hg'
    have := sz9.out
    omega
  have hlen1 : (L ++ [(kd, Z, q.1)]).length = L.length + 1 := by simp
  refine fH rfl rfl ⟨rfl, aSm.other pb 0 _ P8.ne hpt, ⟨ya, yc, ⟨?_, ?_, P8.ne, ?_, ?_⟩, ?_⟩, ?_⟩
  ·rw [hlen1]; exact (zC _ _ _ _ _ _ aSn).trans rfl
  ·rw [hlen1, aEx]; exact aW aEg (fun g hg _ => zS _ _ _ _ (hne g hg).1)
  ·rw [hlen1]; exact fun g hg => (hne g hg).2.2
  ·rw [hlen1]; omega
  ·rw [hlen1]; exact fun g hg => ⟨(hne g hg).1, (hne g hg).2.1⟩
  ·exact (Below.grown B9 hl8 hgrow aTc.out).setCell hl2 _
end
end Go.Proofs.YtfddoieakfpagaaGreatDoor
