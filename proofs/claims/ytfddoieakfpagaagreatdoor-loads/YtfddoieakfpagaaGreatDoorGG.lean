import Derived.Test.YtfddoieakfpagaaGreatDoorGF
namespace Go.Proofs.YtfddoieakfpagaaGreatDoor
open Go.RowKit

/-- What a token that is one is like. -/
theorem tok_one (l : List UInt8) (i : Nat) (h : endB (tokAt l i) = false) :
    (tokAt l i).txt ≠ [] ∧ rawAt l (tokAt l i).pos = (tokAt l i).txt ∧ ((tokAt l i).kind = 2 ∨ (tokAt l i).kind = 3 ∨ (tokAt l i).kind = 4 ∧ (kwB (tokAt l i).txt = true ∨ (tokAt l i).txt.length = 1)) := by
  by_cases hs : skip l i < l.length
  · have hL := tokAt_word l i hs
    have hD := tokAt_dig l i hs
    have hS := tokAt_sgn l i hs
    have hN := tokAt_none l i hs
    have hdr := drop_cons l (skip l i) hs
    generalize tokAt l i = t at *
    generalize skip l i = j at *
    cases e1 : letU l[j] with
    | true =>
      rw [hL e1] at h ⊢
      have hne : (l.drop j).takeWhile letU ≠ [] := by rw [hdr, List.takeWhile_cons, if_pos e1]; simp
      have hraw : rawAt l j = (l.drop j).takeWhile letU := by unfold rawAt; rw [hdr]; simp only [e1, if_true]
      generalize (l.drop j).takeWhile letU = X at *
      unfold wordT at *
      by_cases h8 : 8 < X.length
      · rw [if_pos h8] at h; simp [endB] at h
      · rw [if_neg h8]
        by_cases hk : kwB X = true
        · rw [if_pos hk]
          exact ⟨hne, hraw, Or.inr (Or.inr ⟨rfl, Or.inl hk⟩)⟩
        · rw [if_neg hk]
          exact ⟨hne, hraw, Or.inl rfl⟩
    | false =>
    cases e2 : digU l[j] with
    | true =>
      rw [hD e1 e2] at h ⊢
      have hne : (l.drop j).takeWhile digU ≠ [] := by rw [hdr, List.takeWhile_cons, if_pos e2]; simp
      have hraw : rawAt l j = (l.drop j).takeWhile digU := by unfold rawAt; rw [hdr]; simp only [e1, e2, if_true, Bool.false_eq_true, if_false]
      generalize (l.drop j).takeWhile digU = X at *
      unfold digT at *
      by_cases h3 : 3 < X.length
      · rw [if_pos h3] at h; simp [endB] at h
      · rw [if_neg h3]
        exact ⟨hne, hraw, Or.inr (Or.inl rfl)⟩
    | false =>
    cases e3 : sgnU l[j] with
    | true =>
      rw [hS e1 e2 e3]
      refine ⟨by simp, ?_, Or.inr (Or.inr ⟨rfl, Or.inr rfl⟩)⟩
      unfold rawAt
      rw [hdr]
      simp only [e1, e2, e3, if_true, Bool.false_eq_true, if_false]
    | false => rw [hN e1 e2 e3] at h; simp [endB] at h
  · rw [tokAt_end l i hs] at h; simp [endB] at h

theorem tokL_at (l : List UInt8) : ∀ (f i : Nat), i ≤ l.length → l.length + 1 ≤ f + i → ∀ (k : Nat) t, (tokL l f i)[k]? = some t → (∃ j, j ≤ l.length ∧ t = tokAt l j) ∧ (endB t = false → (tokL l f i)[k + 1]? = some (nx l t))
  | 0, i, hi, hf, _, _, _ => by omega
  | f + 1, i, hi, hf, k, t, h => by
    unfold tokL at h ⊢
    have hok := nx_ok l i hi
    cases he : endB (tokAt l i) with
    | true =>
      rw [he] at h
      simp only [if_true] at h ⊢
      cases k with
      | zero =>
        simp only [List.getElem?_cons_zero, Option.some.injEq] at h
        subst h
        exact ⟨⟨i, hi, rfl⟩, fun e => by rw [he] at e; cases e⟩
      | succ k => simp at h
    | false =>
      rw [he] at h
      simp only [Bool.false_eq_true, if_false] at h ⊢
      have hone := (tok_one l i he).1
      have hge := tok_pos_ge l i
      have hlen : 1 ≤ (tokAt l i).txt.length := by
        cases hx : (tokAt l i).txt with
        | nil => exact absurd hx hone
        | cons a b => simp
      cases k with
      | zero =>
        simp only [List.getElem?_cons_zero, Option.some.injEq] at h
        subst h
        refine ⟨⟨i, hi, rfl⟩, fun _ => ?_⟩
        simp only [List.getElem?_cons_succ]
        obtain ⟨g, rfl⟩ : ∃ g, f = g + 1 := ⟨f - 1, by omega⟩
        unfold tokL
        simp only [List.getElem?_cons_zero]
        rfl
      | succ k =>
        simp only [List.getElem?_cons_succ] at h ⊢
        exact tokL_at l f _ hok (by omega) k t h

theorem isB_num {l : List UInt8} {i : Nat} (h : isB (tokAt l i) = [110, 117, 109]) : (tokAt l i).kind = 3 := by
  have he := isB_end h (by decide) (by decide)
  obtain ⟨_, _, h3⟩ := tok_one l i he
  unfold isB at h
  rcases h3 with h2 | h3 | ⟨h4, h5⟩
  · rw [h2] at h
    have h : ([110, 97, 109, 101] : List UInt8) = [110, 117, 109] := h
    exact absurd h (by decide)
  · exact h3
  · rw [h4] at h
    have h : (tokAt l i).txt = [110, 117, 109] := h
    rw [h] at h5
    rcases h5 with h5 | h5
    · exact absurd h5 (by decide)
    · simp at h5

/-- The tokens of a text are a chain. -/
theorem ch_tokL (l : List UInt8) : Ch l (tokL l (l.length + 1) 0) := by
  have hA := tokL_at l (l.length + 1) 0 (Nat.zero_le _) (by omega)
  refine ⟨fun k t ht he => (hA k t ht).2 he, fun k t ht hn => ?_⟩
  obtain ⟨⟨j, hj, rfl⟩, _⟩ := hA k t ht
  have h3 := isB_num hn
  have he := isB_end hn (by decide) (by decide)
  rw [(tok_one l j he).2.1]
  exact tk3 l j hj h3
theorem tokL_len (l : List UInt8) : ∀ (f i : Nat), (tokL l f i).length ≤ f
  | 0, _ => Nat.le_refl _
  | f + 1, i => by
    unfold tokL
    split
    · simp
    · simpa using tokL_len l f _
theorem tokL_pos (l : List UInt8) (f i : Nat) : 0 < (tokL l (f + 1) i).length := by unfold tokL; simp
end Go.Proofs.YtfddoieakfpagaaGreatDoor

namespace Go.Proofs.YtfddoieakfpagaaGreatDoor
open Go.RowKit

/-- All blocks but the reader's and the policy's are as they were. -/
structure Bu (rb pb : Nat) (w w' : World) : Prop where
  os : w'.os = w.os
  tape : w'.tape = w.tape
  output : w'.output = w.output
  size : w.heap.size ≤ w'.heap.size
  block : ∀ k, k < w.heap.size → k ≠ rb → k ≠ pb → w'.heap[k]? = w.heap[k]?
theorem Bu.of {rb pb : Nat} {w w' : World} (h : But rb w w') : Bu rb pb w w' := ⟨h.os, h.tape, h.output, h.size, fun k hk h1 _ => h.block k hk h1⟩
theorem Bu.trans {rb pb : Nat} {x y z : World} (h : Bu rb pb x y) (k : Bu rb pb y z) : Bu rb pb x z :=
  ⟨k.os.trans h.os, k.tape.trans h.tape, k.output.trans h.output, Nat.le_trans h.size k.size, fun i hi h1 h2 => (k.block i (Nat.lt_of_lt_of_le hi h.size) h1 h2).trans (h.block i hi h1 h2)⟩
theorem Bu.drew {rb pb : Nat} {a w : World} (h : Bu rb pb a w) : Bu rb pb a w.drew := ⟨h.os, h.tape, h.output, h.size, h.block⟩
theorem Bu.pol {rb pb : Nat} {a w : World} (h : Bu rb pb a w) (o : Nat) (u : Value) : Bu rb pb a (w.setCell ⟨pb, o, none⟩ u) :=
  ⟨h.os, h.tape, h.output, by have := h.size; simpa [World.setCell] using this, fun k hk h1 h2 => (Below.heap_setCell _ _ _ _ h2).trans (h.block k hk h1 h2)⟩

theorem ret0' {fn : Func} {R : Ending → World → Prop} {a : Act} {w : World} (hr : fn.results = #[]) (hd : a.defers = []) (hR : R (.returned (.tuple #[])) w) : bodyPost Tryz.prog fn R .ret a w :=
  bodyPost_ret (by simp [results, hr, go_sem]) hd hR

section
variable {w : World} {rb pb tb lo cap : Nat} {l : List UInt8} {TL : List Tok} {s : Rs}
variable {la : Option Addr} {lc : Nat} {L : List DL} {fr : Nat} {Rv Hv Mv : Value} {ms : Bool}

/-- The declaration of freq: its number, and the reader's state. -/
def Rs.decF0 (s : Rs) (TL : List Tok) : Rs := if s.freqs + 1 > 1 then Rs.note { s.adv with freqs := s.freqs + 1 } 4 (cur TL s).pos else { s.adv with freqs := s.freqs + 1 }
def Rs.decF (s : Rs) (l : List UInt8) (TL : List Tok) : Nat × Rs :=
  let r := (s.decF0 TL).num l (cur TL (s.decF0 TL)) 1 99
  (r.1, r.2.need (cur TL r.2) [59])

set_option maxRecDepth 20000 in
set_option maxHeartbeats 2000000 in
theorem rdecl_freq (h : Rd w rb pb tb lo cap l TL s) (hp : Pl w rb pb lo la lc L fr Rv Hv Mv ms) (hc : Ch l TL) (hk : s.k < TL.length) (hop : isB (cur TL s) = [102, 114, 101, 113]) (hfq : s.freqs ≤ 1000) (hpt : pb ≠ tb) (hpl : ∀ g, (Value.slice la L.length lc).ownBlock = some g → g ≠ pb) :
    Calls Tryz.prog 43 #[ptr rb] w fun e w' => e = .returned (.tuple #[]) ∧ Rd w' rb pb tb lo cap l TL (s.decF l TL).2 ∧ Pl w' rb pb lo la lc L (s.decF l TL).1 Rv Hv Mv ms ∧ Bu rb pb w w' := by
  have hrb : rb < w.heap.size := (Array.getElem?_eq_some_iff.1 h.at').1
  have hpb : pb < w.heap.size := (Array.getElem?_eq_some_iff.1 hp.at').1
  have htb : tb < w.heap.size := (h.own.lt tb rfl).2
  have hlen := h.len
  have ht := cur_at hk
  have hka := hc.adv hk hop (by decide) (by decide)
  have h0 := h.alloc (.cells #[S [], S [], .int .i64 0] 87)
  have H1 := (h.alloc (.cells #[S [102, 114, 101, 113], S (rawAt l (cur TL s).pos), .int .i64 (cur TL s).pos] 87)).drew
  have B1 : But rb w (w.alloc (.cells #[S [102, 114, 101, 113], S (rawAt l (cur TL s).pos), .int .i64 (cur TL s).pos] 87)).drew := ((But.refl _ _).alloc _).drew
  have b2 : (w.alloc (.cells #[S [102, 114, 101, 113], S (rawAt l (cur TL s).pos), .int .i64 (cur TL s).pos] 87)).drew.heap[w.heap.size]? = some (.cells #[S [102, 114, 101, 113], S (rawAt l (cur TL s).pos), .int .i64 (cur TL s).pos] 87) := heap_new rfl
  obtain ⟨⟨k0, k1, k2⟩, hix⟩ := h.tok ht
  obtain ⟨c, cf⟩ := blk_cl h.at'
  obtain ⟨⟨k00, k01, k02⟩, _⟩ := h0.tok ht
  obtain ⟨c0, cf0⟩ := blk_cl h0.at'
  rw [hop] at k0 k00
  have HV : Hid (s.decF l TL = (((s.decF0 TL).num l (cur TL (s.decF0 TL)) 1 99).1, ((s.decF0 TL).num l (cur TL (s.decF0 TL)) 1 99).2.need (cur TL ((s.decF0 TL).num l (cur TL (s.decF0 TL)) 1 99).2) [59])) := rfl
  have hk0 : (s.decF0 TL).k < TL.length := by unfold Rs.decF0; split; (rw [note_k]; exact hka); exact hka
  generalize s.decF l TL = v at *
  go_enter Tryz.func43, Tryz.ntmps43
  go_wp2_with fail
  go_region
  generalize (w.alloc (.cells #[S [102, 114, 101, 113], S (rawAt l (cur TL s).pos), .int .i64 (cur TL s).pos] 87)).drew = w1 at *
  clear k0 k1 k2 k00 k01 k02 c cf c0 cf0 hix h0
  obtain ⟨d1, df1⟩ := blk_cl H1.at'
  have H2 := H1.set 1 (.int .i64 (s.k + 1 : Nat)) s.adv rfl
  have B2 := B1.own 1 (.int .i64 (s.k + 1 : Nat))
  have H3 := H2.set 9 (.int .i64 (s.freqs + 1 : Nat)) { s.adv with freqs := s.freqs + 1 } rfl
  have B3 := B2.own 9 (.int .i64 (s.freqs + 1 : Nat))
  have b22 := (Below.heap_setCell w1 ⟨rb, 1, none⟩ (.int .i64 (s.k + 1 : Nat)) w.heap.size (by show w.heap.size ≠ rb; omega)).trans b2
  have b23 := (Below.heap_setCell _ ⟨rb, 9, none⟩ (.int .i64 (s.freqs + 1 : Nat)) w.heap.size (by show w.heap.size ≠ rb; omega)).trans b22
  obtain ⟨d2, df2⟩ := blk_cl H2.at'
  obtain ⟨d3, df3⟩ := blk_cl H3.at'
  obtain ⟨e3, ef3⟩ := blk_cl b23
  obtain ⟨e2, ef2⟩ := blk_cl b22
  obtain ⟨e1, ef1⟩ := blk_cl b2
  by_cases hq : s.freqs + 1 > 1
  · have e0 : s.decF0 TL = Rs.note { s.adv with freqs := s.freqs + 1 } 4 (cur TL s).pos := by unfold Rs.decF0; rw [if_pos hq]
    have HT := rnote_any H3 4 (cur TL s).pos
    rw [← e0] at HT
    clear e0
    go_wp2_with fail
    refine HT.mono ?_
    rintro e wD ⟨rfl, HDD, BD'⟩
    have BD := B3.trans BD'
    clear HT
    go_wp2_with fail
    have PD := hp.but BD
    have HN := rnumber_any HDD.drew (cur_at hk0) 1 99 (by omega) (hc.num _ _ (cur_at hk0))
    have kq := num_k hc hk0 1 99
    generalize (s.decF0 TL).num l (cur TL (s.decF0 TL)) 1 99 = q at *
    obtain ⟨cD, fD⟩ := blk_cl HDD.at'
    clear d1 df1 d2 df2 d3 df3 e1 ef1 e2 ef2 e3 ef3
    go_region_with (go_at_call 71; refine HN.mono ?_; rintro e w4 ⟨rfl, H4, B4⟩; obtain ⟨c4, f4⟩ := blk_cl H4.at'; have P4 := PD.drew.but B4; obtain ⟨p4, pf4⟩ := blk_cl P4.at')
    all_goals
      have B5 : Bu rb pb w (w4.setCell ⟨pb, 1, none⟩ (.int .i64 q.1)) := ((Bu.of BD).drew.trans (Bu.of B4)).pol 1 (.int .i64 q.1)
      have H5 := H4.other pb 1 (.int .i64 q.1) hp.ne hpt
      have P5 : Pl (w4.setCell ⟨pb, 1, none⟩ (.int .i64 q.1)) rb pb lo la lc L q.1 Rv Hv Mv ms := ⟨(heap_setCell_same _ _ _ _ _ _ P4.at').trans (by simp), own_mv P4.own (fun g hg _ => Below.heap_setCell _ _ _ _ (hpl g hg)), hp.ne, hp.nl, hp.len⟩
      have HM := rneed_any H5 (cur_at kq) [59]
      have hv := HV.out
      subst hv
      clear HV
      go_wp2_with fail
      refine HM.mono ?_
      rintro e wF ⟨rfl, HF, BF⟩
      go_wp2_with fail
      exact ret0' rfl rfl ⟨rfl, HF, P5.but BF, B5.trans (Bu.of BF)⟩
  · have e0 : s.decF0 TL = { s.adv with freqs := s.freqs + 1 } := by unfold Rs.decF0; rw [if_neg hq]
    have HDD := H3
    rw [← e0] at HDD
    have HDD : Rd ((w1.setCell ⟨rb, 1, none⟩ (.int .i64 ((s.k : Int) + 1))).setCell ⟨rb, 9, none⟩ (.int .i64 ((s.freqs : Int) + 1))) rb pb tb lo cap l TL (s.decF0 TL) := HDD
    have BD : But rb w ((w1.setCell ⟨rb, 1, none⟩ (.int .i64 ((s.k : Int) + 1))).setCell ⟨rb, 9, none⟩ (.int .i64 ((s.freqs : Int) + 1))) := B3
    clear e0
    go_wp2_with fail
    generalize (w1.setCell ⟨rb, 1, none⟩ (.int .i64 ((s.k : Int) + 1))).setCell ⟨rb, 9, none⟩ (.int .i64 ((s.freqs : Int) + 1)) = wD at *
    have PD := hp.but BD
    have HN := rnumber_any HDD.drew (cur_at hk0) 1 99 (by omega) (hc.num _ _ (cur_at hk0))
    have kq := num_k hc hk0 1 99
    generalize (s.decF0 TL).num l (cur TL (s.decF0 TL)) 1 99 = q at *
    obtain ⟨cD, fD⟩ := blk_cl HDD.at'
    clear d1 df1 d2 df2 d3 df3 e1 ef1 e2 ef2 e3 ef3
    go_region_with (go_at_call 71; refine HN.mono ?_; rintro e w4 ⟨rfl, H4, B4⟩; obtain ⟨c4, f4⟩ := blk_cl H4.at'; have P4 := PD.drew.but B4; obtain ⟨p4, pf4⟩ := blk_cl P4.at')
    all_goals
      have B5 : Bu rb pb w (w4.setCell ⟨pb, 1, none⟩ (.int .i64 q.1)) := ((Bu.of BD).drew.trans (Bu.of B4)).pol 1 (.int .i64 q.1)
      have H5 := H4.other pb 1 (.int .i64 q.1) hp.ne hpt
      have P5 : Pl (w4.setCell ⟨pb, 1, none⟩ (.int .i64 q.1)) rb pb lo la lc L q.1 Rv Hv Mv ms := ⟨(heap_setCell_same _ _ _ _ _ _ P4.at').trans (by simp), own_mv P4.own (fun g hg _ => Below.heap_setCell _ _ _ _ (hpl g hg)), hp.ne, hp.nl, hp.len⟩
      have HM := rneed_any H5 (cur_at kq) [59]
      have hv := HV.out
      subst hv
      clear HV
      go_wp2_with fail
      refine HM.mono ?_
      rintro e wF ⟨rfl, HF, BF⟩
      go_wp2_with fail
      exact ret0' rfl rfl ⟨rfl, HF, P5.but BF, B5.trans (Bu.of BF)⟩
end
end Go.Proofs.YtfddoieakfpagaaGreatDoor

namespace Go.Proofs.YtfddoieakfpagaaGreatDoor
open Go.RowKit

/-- The declaration of a name: what it declares, and the reader's state. -/
def Rs.decN2 (s : Rs) (l : List UInt8) (TL : List Tok) (L : List DL) : Rs :=
  if (idxL L (rawAt l (cur TL s.adv).pos)).isSome = true then (s.adv.need (cur TL s.adv) [110, 97, 109, 101]).note 4 (cur TL s.adv).pos else s.adv.need (cur TL s.adv) [110, 97, 109, 101]
def Rs.decN3 (s : Rs) (l : List UInt8) (TL : List Tok) (L : List DL) : Rs := if L.length = 8 then (s.decN2 l TL L).note 9 (cur TL s.adv).pos else s.decN2 l TL L
def Rs.decN (s : Rs) (l : List UInt8) (TL : List Tok) (L : List DL) (kd : List UInt8) : DL × Rs :=
  let r := (s.decN3 l TL L).num l (cur TL (s.decN3 l TL L)) 1 (if kd = [118, 97, 114] then 99 else 50)
  ((kd, rawAt l (cur TL s.adv).pos, r.1), r.2.need (cur TL r.2) [59])

/-- The declarations. -/
def Rs.decs (l : List UInt8) (TL : List Tok) : Nat → Rs → List DL → Nat → Rs × List DL × Nat
  | 0, s, L, fr => (s, L, fr)
  | f + 1, s, L, fr =>
    if s.bad = 0 ∧ declB (isB (cur TL s)) = true then
      (if isB (cur TL s) = [102, 114, 101, 113] then Rs.decs l TL f (s.decF l TL).2 L (s.decF l TL).1
      else Rs.decs l TL f (s.decN l TL L (isB (cur TL s))).2 (L ++ [(s.decN l TL L (isB (cur TL s))).1]) fr)
    else (s, L, fr)

/-- Ahead of a rule's block: is it for a miss, the queue's number, the state. -/
def Rs.rulA (s : Rs) (l : List UInt8) (TL : List Tok) (L : List DL) : (Bool × Nat) × Rs :=
  if s.bad = 0 ∧ isB (cur TL s.adv) = [109, 105, 115, 115] then ((true, 0), s.adv.adv)
  else ((false, (s.adv.nam l (cur TL s.adv) L false).1), (s.adv.nam l (cur TL s.adv) L false).2)
/-- What the rules have brought. -/
structure Pm where
  has : List Bool
  rul : List (RT 8)
  ms : Bool
  mis : RT 8
def Pm.twice (p : Pm) (r : Bool × Nat) : Bool := if r.1 = true then p.ms else p.has.getD r.2 false
def Pm.step (p : Pm) (r : Bool × Nat) (x : RT 8) : Pm :=
  if r.1 = true then { p with ms := true, mis := x } else if r.2 < p.has.length then { p with has := p.has.set r.2 true, rul := p.rul.set r.2 x } else p
def Rs.rulB (s : Rs) (l : List UInt8) (TL : List Tok) (L : List DL) (p : Pm) : Rs :=
  if p.twice (s.rulA l TL L).1 = true then (s.rulA l TL L).2.note 8 (cur TL s).pos else (s.rulA l TL L).2
def Rs.rul (s : Rs) (l : List UInt8) (TL : List Tok) (L : List DL) (p : Pm) : Pm × Rs :=
  (p.step (s.rulA l TL L).1 (Rs.blk l TL L 8 (s.rulB l TL L p)).1, (Rs.blk l TL L 8 (s.rulB l TL L p)).2)
def Rs.ruls (l : List UInt8) (TL : List Tok) (L : List DL) : Nat → Rs → Pm → Rs × Pm
  | 0, s, p => (s, p)
  | f + 1, s, p => if s.bad = 0 ∧ isB (cur TL s) = [111, 110] then Rs.ruls l TL L f (s.rul l TL L p).2 (s.rul l TL L p).1 else (s, p)

def rs0 : Rs := ⟨0, 0, 0, 0, 0, 0, 0, 0⟩
def pm0 (n : Nat) : Pm := ⟨List.replicate n false, List.replicate n [], false, []⟩
/-- The reader, behind all; the policy. -/
def refR (l : List UInt8) (TL : List Tok) : Rs × (List DL × Nat) × Pm :=
  let d := Rs.decs l TL (TL.length + 1) rs0 [] 0
  let r := Rs.ruls l TL d.2.1 (TL.length + 1) d.1 (pm0 d.2.1.length)
  (r.1.need (cur TL r.1) [101, 110, 100], d.2, r.2)
/-- What the reference answers: the error and its place; 0, 0: a policy. -/
def refE (s : Rs) (ms : Bool) : Nat × Nat := if s.bad ≠ 0 then (s.bad, s.badAt) else if s.wrong ≠ 0 then (s.wrong, s.wrongAt) else if ms = false then (10, 0) else (0, 0)
end Go.Proofs.YtfddoieakfpagaaGreatDoor

namespace Go.Proofs.YtfddoieakfpagaaGreatDoor
open Go.RowKit

section
variable {l : List UInt8} {TL : List Tok} {L : List DL} {s : Rs}

theorem g3_note (hk : s.k < TL.length) (e p : Nat) : G3 TL s (s.note e p) := ⟨⟨by rw [note_k]; exact Nat.le_refl _, by rw [note_k]; exact hk⟩, dl_note _ _ _⟩
theorem g3_num (hc : Ch l TL) (hk : s.k < TL.length) (a b : Nat) : G3 TL s (s.num l (cur TL s) a b).2 := ⟨go_num hc hk a b, dl_num _ _ _ _ _⟩
theorem g3_refl (hk : s.k < TL.length) : G3 TL s s := ⟨⟨Nat.le_refl _, hk⟩, rfl, rfl⟩
theorem g3_numsemi (hc : Ch l TL) (hk : s.k < TL.length) (a b : Nat) : G3 TL s ((s.num l (cur TL s) a b).2.need (cur TL (s.num l (cur TL s) a b).2) [59]) := by
  have h1 := g3_num hc hk a b
  exact h1.trans (g3_semi hc h1.1.2 [59] (by decide) (by decide))
theorem g3_decF (hc : Ch l TL) (hka : s.adv.k < TL.length) : G3 TL s.adv (s.decF l TL).2 := by
  have h0 : G3 TL s.adv (s.decF0 TL) := by
    unfold Rs.decF0
    split
    · exact g3_note (s := { s.adv with freqs := s.freqs + 1 }) hka _ _
    · exact ⟨⟨Nat.le_refl _, hka⟩, rfl, rfl⟩
  exact h0.trans (g3_numsemi hc h0.1.2 1 99)
theorem g3_decN (hc : Ch l TL) (hka : s.adv.k < TL.length) (kd : List UInt8) : G3 TL s.adv (s.decN l TL L kd).2 := by
  have h1 := g3_semi hc hka [110, 97, 109, 101] (by decide) (by decide)
  have h2 : G3 TL s.adv (s.decN2 l TL L) := by
    unfold Rs.decN2
    split
    · exact h1.trans (g3_note h1.1.2 _ _)
    · exact h1
  have h3 : G3 TL s.adv (s.decN3 l TL L) := by
    unfold Rs.decN3
    split
    · exact h2.trans (g3_note h2.1.2 _ _)
    · exact h2
  exact h3.trans (g3_numsemi hc h3.1.2 1 _)
theorem g3_rulA (hc : Ch l TL) (hka : s.adv.k < TL.length) : G3 TL s.adv (s.rulA l TL L).2 := by
  unfold Rs.rulA
  split
  · rename_i h
    exact ⟨go_adv hc hka h.2 (by decide) (by decide), rfl, rfl⟩
  · exact g3_nam hc hka false
theorem g3_rulB (hc : Ch l TL) (hka : s.adv.k < TL.length) (p : Pm) : G3 TL s.adv (s.rulB l TL L p) := by
  have h1 := g3_rulA (L := L) hc hka
  unfold Rs.rulB
  split
  · exact h1.trans (g3_note h1.1.2 _ _)
  · exact h1
theorem g3_rul (hc : Ch l TL) (hka : s.adv.k < TL.length) (p : Pm) : G3 TL s.adv (s.rul l TL L p).2 := by
  have h1 := g3_rulB (L := L) hc hka p
  exact h1.trans (blk_g (L := L) hc 8 _ h1.1.2)
end
end Go.Proofs.YtfddoieakfpagaaGreatDoor

namespace Go.Proofs.YtfddoieakfpagaaGreatDoor
open Go.RowKit

theorem lget_set {α : Type} (l : List α) (d v : α) (k j : Nat) (hk : k < l.length) : (l.set k v).getD j d = if k = j then v else l.getD j d := by
  rw [List.getD_eq_getElem?_getD, List.getD_eq_getElem?_getD, List.getElem?_set]
  split
  · rename_i e; subst e; simp []
  · rfl
theorem aget_set (A : Array Value) (d v : Value) (k j : Nat) (hk : k < A.size) : (A.setIfInBounds k v).getD j d = if k = j then v else A.getD j d := by
  rw [Array.getD_eq_getD_getElem?, Array.getD_eq_getD_getElem?, Array.getElem?_setIfInBounds]
  split
  · rename_i e; subst e; simp []
  · rfl

/-- The reference's policy while its rules are read. -/
structure Pq (w : World) (rb pb tb lo lo2 gr gh : Nat) (la : Option Addr) (lc : Nat) (L : List DL) (fr : Nat) (RA : Array Value) (Mv : Value) (p : Pm) : Prop where
  pl : Pl w rb pb lo la lc L fr (.slice (some ⟨gr, 0, none⟩) L.length L.length) (.slice (some ⟨gh, 0, none⟩) L.length L.length) Mv p.ms
  r : w.heap[gr]? = some (.cells RA 80)
  h : w.heap[gh]? = some (.cells (p.has.map Value.bool).toArray 4)
  rs : RA.size = L.length
  hs : p.has.length = L.length
  ps : p.rul.length = L.length
  tr : ∀ k, k < L.length → SlT 8 w (fun g => lo2 ≤ g) (RA.getD k nilV) (p.rul.getD k (RTnil 8))
  tm : SlT 8 w (fun g => lo2 ≤ g) Mv p.mis
  d1 : rb < lo2 ∧ pb < lo2 ∧ tb < lo2 ∧ gr < lo2 ∧ gh < lo2 ∧ lo2 ≤ w.heap.size
  d2 : lo ≤ gr ∧ lo ≤ gh ∧ lo ≤ rb ∧ lo ≤ pb
  d3 : gr ≠ gh ∧ gr ≠ rb ∧ gh ≠ rb ∧ gr ≠ pb ∧ gh ≠ pb ∧ gr ≠ tb ∧ gh ≠ tb ∧ pb ≠ tb
  d4 : ∀ g, (Value.slice la L.length lc).ownBlock = some g → g ≠ pb ∧ g ≠ gr ∧ g ≠ gh

section
variable {w w' : World} {rb pb tb lo lo2 cap gr gh : Nat} {l : List UInt8} {TL : List Tok} {s : Rs}
variable {la : Option Addr} {lc : Nat} {L : List DL} {fr : Nat} {RA : Array Value} {Mv : Value} {p : Pm}

theorem Pq.but (q : Pq w rb pb tb lo lo2 gr gh la lc L fr RA Mv p) (hb : But rb w w') : Pq w' rb pb tb lo lo2 gr gh la lc L fr RA Mv p where
  pl := q.pl.but hb
  r := hb.at' q.r q.d3.2.1
  h := hb.at' q.h q.d3.2.2.1
  rs := q.rs
  hs := q.hs
  ps := q.ps
  tr := fun k hk => SlT.move 8 (fun g hg hl => hb.block g hl (by have := q.d1; omega)) _ _ (q.tr k hk)
  tm := SlT.move 8 (fun g hg hl => hb.block g hl (by have := q.d1; omega)) _ _ q.tm
  d1 := by have := q.d1; have := hb.size; omega
  d2 := q.d2
  d3 := q.d3
  d4 := q.d4

/-- A rule for a miss is laid down. -/
theorem Pq.miss (q : Pq w rb pb tb lo lo2 gr gh la lc L fr RA Mv p) (v : Value) (x : RT 8) (hx : SlT 8 w (fun g => lo2 ≤ g) v x) :
    Pq ((w.setCell ⟨pb, 5, none⟩ (.bool true)).setCell ⟨pb, 4, none⟩ v) rb pb tb lo lo2 gr gh la lc L fr RA v { p with ms := true, mis := x } := by
  have d1 := q.d1
  have d3 := q.d3
  have hb : ∀ g, g ≠ pb → ((w.setCell ⟨pb, 5, none⟩ (.bool true)).setCell ⟨pb, 4, none⟩ v).heap[g]? = w.heap[g]? := fun g hg => (Below.heap_setCell _ _ _ _ hg).trans (Below.heap_setCell _ _ _ _ hg)
  refine ⟨⟨?_, own_mv q.pl.own (fun g hg _ => hb g (q.d4 g hg).1), q.pl.ne, q.pl.nl, q.pl.len⟩, (hb gr d3.2.2.2.1).trans q.r, (hb gh d3.2.2.2.2.1).trans q.h, q.rs, q.hs, q.ps, fun k hk => SlT.move 8 (fun g hg hl => hb g (by omega)) _ _ (q.tr k hk), SlT.move 8 (fun g hg hl => hb g (by omega)) _ _ hx, ?_, q.d2, d3, q.d4⟩
  · have h1 := (heap_setCell_same _ _ 5 (.bool true) _ _ q.pl.at')
    exact (heap_setCell_same _ _ 4 v _ _ h1).trans rfl
  · simpa [World.setCell] using d1
/-- A rule for a queue is laid down. -/
theorem Pq.put (q : Pq w rb pb tb lo lo2 gr gh la lc L fr RA Mv p) (k : Nat) (hk : k < L.length) (v : Value) (x : RT 8) (hx : SlT 8 w (fun g => lo2 ≤ g) v x) :
    Pq ((w.setCell ⟨gh, k, none⟩ (.bool true)).setCell ⟨gr, k, none⟩ v) rb pb tb lo lo2 gr gh la lc L fr (RA.setIfInBounds k v) Mv { p with has := p.has.set k true, rul := p.rul.set k x } := by
  have d1 := q.d1
  have d3 := q.d3
  have hb : ∀ g, g ≠ gh → g ≠ gr → ((w.setCell ⟨gh, k, none⟩ (.bool true)).setCell ⟨gr, k, none⟩ v).heap[g]? = w.heap[g]? := fun g h1 h2 => (Below.heap_setCell _ _ _ _ h2).trans (Below.heap_setCell _ _ _ _ h1)
  refine ⟨⟨(hb pb (Ne.symm d3.2.2.2.2.1) (Ne.symm d3.2.2.2.1)).trans q.pl.at', own_mv q.pl.own (fun g hg _ => hb g (q.d4 g hg).2.2 (q.d4 g hg).2.1), q.pl.ne, q.pl.nl, q.pl.len⟩, ?_, ?_, by simpa using q.rs, by simpa using q.hs, by simpa using q.ps, fun j hj => ?_, SlT.move 8 (fun g hg hl => hb g (by omega) (by omega)) _ _ q.tm, ?_, q.d2, d3, q.d4⟩
  · exact heap_setCell_same _ _ k v _ _ ((Below.heap_setCell _ _ _ _ d3.1).trans q.r)
  · refine (Below.heap_setCell _ _ _ _ (Ne.symm d3.1)).trans ((heap_setCell_same _ _ k (.bool true) _ _ q.h).trans ?_)
    congr 2
    apply Array.toList_inj.1
    simp
  · have hkA : k < RA.size := by rw [q.rs]; exact hk
    have hkP : k < p.rul.length := by rw [q.ps]; exact hk
    show SlT 8 _ _ ((RA.setIfInBounds k v).getD j nilV) ((p.rul.set k x).getD j (RTnil 8))
    rw [aget_set _ _ _ _ _ hkA, lget_set _ _ _ _ _ hkP]
    split
    · exact SlT.move 8 (fun g hg hl => hb g (by omega) (by omega)) _ _ hx
    · exact SlT.move 8 (fun g hg hl => hb g (by omega) (by omega)) _ _ (q.tr j hj)
  · simpa [World.setCell] using d1
end
end Go.Proofs.YtfddoieakfpagaaGreatDoor
