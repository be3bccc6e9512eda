import Derived.ChangeSlices
import Derived.SizedLaws
import Derived.Test.YtfddoieakfpagabGreatDoorJI
namespace Go.Proofs.YtfddoieakfpagabGreatDoor
open Go.RowKit
def ckBody : List (Rt × RT 5 × RT 5) := [plT 5 [99, 111, 111, 108] 0, (⟨[115, 104, 105, 102, 116], 0, 0, false, rcZ, false⟩, RTnil 5, RTnil 5)]
def ckRep : Rt × RT 6 × RT 6 := (rtC [114, 101, 112, 101, 97, 116] [119, 97, 114, 109] 50 0, (ckBody : RT 6), RTnil 6)
def ckM : RT 8 := ([ifFull 6 0 [ckRep, plT 6 [101, 118, 105, 99, 116] 0], plT 7 [112, 117, 116] 0] : List (Rt × RT 7 × RT 7))
def ckR : RT 8 := ([plT 7 [98, 117, 109, 112] 0] : List (Rt × RT 7 × RT 7))
def ckTxt (n : Nat) : List UInt8 := [113, 117, 101, 117, 101, 32, 114, 32] ++ figL n ++ [59, 32, 102, 114, 101, 113, 32, 49, 59, 32, 111, 110, 32, 114, 32, 123, 32, 98, 117, 109, 112, 59, 32, 125, 32, 111, 110, 32, 109, 105, 115, 115, 32, 123, 32, 105, 102, 32, 102, 117, 108, 108, 32, 114, 32, 123, 32, 114, 101, 112, 101, 97, 116, 32, 53, 48, 32, 119, 104, 105, 108, 101, 32, 119, 97, 114, 109, 32, 114, 32, 123, 32, 99, 111, 111, 108, 32, 114, 59, 32, 115, 104, 105, 102, 116, 32, 114, 32, 114, 59, 32, 125, 32, 101, 118, 105, 99, 116, 32, 114, 59, 32, 125, 32, 112, 117, 116, 32, 114, 59, 32, 125]
theorem ck_pol_all : ((List.range 49).all fun m => isPol (ckTxt (m + 1)) (oneL (m + 1)) 1 [([114], some ckR), ([109, 105, 115, 115], some ckM)]) = true := by kernel_rfl
theorem ck_pol (m : Nat) (h1 : 1 <= m) (h2 : m <= 49) : ∃ x, readS (ckTxt m) = .ok x /\ (polOf x).L = oneL m /\ (polOf x).mf = 1 /\ (polOf x).rul [114] = some ckR /\ (polOf x).rul [109, 105, 115, 115] = some ckM := by
 have h := List.all_eq_true.1 ck_pol_all (m - 1) (by simp; omega)
 rw [show m - 1 + 1 = m from by omega] at h
 obtain ⟨x, hx, hL, hm, hr⟩ := isPol_ok h
 exact ⟨x, hx, hL, hm, hr ([114], some ckR) (by simp), hr ([109, 105, 115, 115], some ckM) (by simp)⟩
def eX (l : List (Nat × Nat)) (g : List Nat) : Ex := ⟨[l], [0], g⟩
theorem eX_getD (l : List (Nat × Nat)) (g : List Nat) : (eX l g).Q.getD 0 [] = l := rfl
def rotE : Nat -> List (Nat × Nat) -> List (Nat × Nat)
 | 0, l => l
 | c + 1, l => match l.getLast? with
  | none => l
  | some e => if 0 < e.2 then rotE c ((e.1, e.2 - 1) :: l.dropLast) else l
theorem rotE_cold {c : Nat} {m : List (Nat × Nat)} {k : Nat} : rotE c (m ++ [(k, 0)]) = m ++ [(k, 0)] := by
 cases c with
 | zero => rfl
 | succ c => simp [rotE]
theorem rotE_warm {c : Nat} {m : List (Nat × Nat)} {k f : Nat} (hf : 0 < f) : rotE (c + 1) (m ++ [(k, f)]) = rotE c ((k, f - 1) :: m) := by simp [rotE, hf]
section
variable (n mf key : Nat)
theorem ck_cool (g : List Nat) {m : List (Nat × Nat)} {k f : Nat} : (eX (m ++ [(k, f)]) g).plain (oneL n) mf key (rtP [99, 111, 111, 108] 0) = .ok (eX (m ++ [(k, f - 1)]) g) := by
 have e0 : (eX (m ++ [(k, f)]) g).plain (oneL n) mf key (rtP [99, 111, 111, 108] 0) = (eX (m ++ [(k, f)]) g).last (oneL n) (rtP [99, 111, 111, 108] 0) := by unfold Ex.plain; simp [rtP]
 rw [e0]
 unfold Ex.last
 have e1 : (rtP [99, 111, 111, 108] 0).n = 0 := rfl
 rw [e1, eX_getD]
 have e2 : (m ++ [(k, f)]).modify m.length (fun e => (e.1, e.2 - 1)) = m ++ [(k, f - 1)] := by
  apply List.ext_getElem?
  intro i
  rw [List.getElem?_modify]
  by_cases h : m.length = i
  ·subst h; simp
  ·by_cases h2 : i < m.length
   ·simp [List.getElem?_append_left h2, h]
   ·obtain ⟨d, rfl⟩ : ∃ d, i = m.length + (d + 1) := ⟨i - m.length - 1, by omega⟩
    rw [List.getElem?_append_right (by omega), List.getElem?_append_right (by omega), show m.length + (d + 1) - m.length = d + 1 from by omega]
    simp
 simp [rtP, eX, e2]
theorem ck_shift (g : List Nat) {m : List (Nat × Nat)} {k f : Nat} (hm : m.length < n) : (eX (m ++ [(k, f)]) g).plain (oneL n) mf key ⟨[115, 104, 105, 102, 116], 0, 0, false, rcZ, false⟩ = .ok (eX ((k, f) :: m) g) := by
 have e0 : (eX (m ++ [(k, f)]) g).plain (oneL n) mf key ⟨[115, 104, 105, 102, 116], 0, 0, false, rcZ, false⟩ = (eX (m ++ [(k, f)]) g).last (oneL n) ⟨[115, 104, 105, 102, 116], 0, 0, false, rcZ, false⟩ := by unfold Ex.plain; simp
 rw [e0]
 unfold Ex.last
 simp only [eX_getD]
 have ho : (eX (m ++ [(k, f)]) g).out 0 ((m ++ [(k, f)]).length - 1) = eX m g := by
  unfold Ex.out eX
  have : (m ++ [(k, f)]).eraseIdx m.length = m := by rw [List.eraseIdx_append_of_length_le (Nat.le_refl _)]; simp
  simp [this]
 rw [ho]
 have hmx : maxX (oneL n) 0 = n := rfl
 unfold Ex.comes Ex.inn
 simp only [eX_getD, hmx]
 simp [putE, resX, oneL, eX, show ¬ n <= m.length by omega]
theorem ck_body (g : List Nat) {m : List (Nat × Nat)} {k f : Nat} (hm : m.length < n) : Ex.blk (oneL n) mf key 6 (ckBody : RT 6) (eX (m ++ [(k, f)]) g) = .ok (eX ((k, f - 1) :: m) g) := by
 have eb : Ex.blk (oneL n) mf key 6 (ckBody : RT 6) (eX (m ++ [(k, f)]) g) = seqX (Ex.stm (Ex.blk (oneL n) mf key 5) (oneL n) mf key) ckBody (eX (m ++ [(k, f)]) g) := rfl
 rw [eb]
 unfold ckBody
 simp only [seqX, stm_pl _ _ _ _ _ _ (show ([99, 111, 111, 108] : List UInt8) ≠ [105, 102] by decide) (show ([99, 111, 111, 108] : List UInt8) ≠ [114, 101, 112, 101, 97, 116] by decide), ck_cool]
 have es : Ex.stm (Ex.blk (oneL n) mf key 5) (oneL n) mf key (⟨[115, 104, 105, 102, 116], 0, 0, false, rcZ, false⟩, RTnil 5, RTnil 5) (eX (m ++ [(k, f - 1)]) g) = (eX (m ++ [(k, f - 1)]) g).plain (oneL n) mf key ⟨[115, 104, 105, 102, 116], 0, 0, false, rcZ, false⟩ := by
  unfold Ex.stm
  rw [if_neg (by decide), if_neg (by decide)]
 rw [es, ck_shift n mf key g hm]
theorem ck_loop (g : List Nat) : ∀ (c : Nat) (l : List (Nat × Nat)), l.length <= n -> loopX (fun s => s.cond (oneL n) key ⟨[119, 97, 114, 109], 0, ([110, 117, 109], 0), ([110, 117, 109], 0), 0⟩) (Ex.blk (oneL n) mf key 6 (ckBody : RT 6)) c (eX l g) = .ok (eX (rotE c l) g)
 | 0, l, _ => rfl
 | c + 1, l, hl => by
  have hc : (eX l g).cond (oneL n) key ⟨[119, 97, 114, 109], 0, ([110, 117, 109], 0), ([110, 117, 109], 0), 0⟩ = match l.getLast? with | none => false | some e => decide (0 < e.2) := by
   unfold Ex.cond Ex.yes
   simp [eX]
   cases l.getLast? <;> rfl
  unfold loopX
  rw [hc]
  rcases List.eq_nil_or_concat l with rfl | ⟨m, ⟨k, f⟩, rfl⟩
  ·rfl
  ·simp only [List.concat_eq_append] at *
   by_cases hf : 0 < f
   ·rw [rotE_warm hf]
    have hml : m.length < n := by simp at hl; omega
    simp only [List.getLast?_append, List.getLast?_singleton, Option.some_or, hf, decide_true, if_true]
    rw [ck_body n mf key g hml]
    exact ck_loop g c _ (by simp; omega)
   ·have : f = 0 := by omega
    subst this
    rw [rotE_cold]
    simp
end
theorem rotE_mem : ∀ (c : Nat) (l : List (Nat × Nat)) (k : Nat), (∃ f, (k, f) ∈ rotE c l) ↔ ∃ f, (k, f) ∈ l
 | 0, _, _ => Iff.rfl
 | c + 1, l, k => by
  rcases List.eq_nil_or_concat l with rfl | ⟨m, ⟨k2, f2⟩, rfl⟩
  ·rfl
  ·simp only [List.concat_eq_append]
   by_cases hf : 0 < f2
   ·rw [rotE_warm hf, rotE_mem c]
    constructor
    ·rintro ⟨f, hm⟩
     simp only [List.mem_cons, Prod.mk.injEq] at hm
     rcases hm with ⟨rfl, rfl⟩ | hm
     ·exact ⟨f2, by simp⟩
     ·exact ⟨f, by simp [hm]⟩
    ·rintro ⟨f, hm⟩
     simp only [List.mem_append, List.mem_singleton, Prod.mk.injEq] at hm
     rcases hm with hm | ⟨rfl, rfl⟩
     ·exact ⟨f, by simp [hm]⟩
     ·exact ⟨f - 1, by simp⟩
   ·have : f2 = 0 := by omega
    subst this
    rw [rotE_cold]
theorem rotE_len : ∀ (c : Nat) (l : List (Nat × Nat)), (rotE c l).length = l.length
 | 0, _ => rfl
 | c + 1, l => by
  rcases List.eq_nil_or_concat l with rfl | ⟨m, ⟨k2, f2⟩, rfl⟩
  ·rfl
  ·simp only [List.concat_eq_append]
   by_cases hf : 0 < f2
   ·rw [rotE_warm hf, rotE_len c]; simp
   ·have : f2 = 0 := by omega
    subst this
    rw [rotE_cold]
section
variable {P : Pol} {n : Nat}
theorem eX_none {l : List (Nat × Nat)} {key : Nat} (h : ∀ e ∈ l, e.1 ≠ key) : whereX [l] key = none := whereX_none (fun q hq => by
 simp at hq
 subst hq
 exact h)
theorem ck_put (n mf : Nat) {l : List (Nat × Nat)} {key : Nat} (hn : ∀ e ∈ l, e.1 ≠ key) (hl : l.length < n) (g : List Nat) : (eX l g).plain (oneL n) mf key (rtP [112, 117, 116] 0) = .ok (eX ((key, 0) :: l) g) := by
 rw [pl_put]
 unfold Ex.moved
 have hw : whereX (eX l g).Q key = none := eX_none hn
 simp only [hw]
 unfold Ex.comes Ex.inn
 have hmx : maxX (oneL n) 0 = n := rfl
 rw [hmx, eX_getD, if_neg (by omega)]
 simp [putE, resX, oneL, eX]
theorem ck_miss0 (hL : P.L = oneL n) (hr : P.rul [109, 105, 115, 115] = some ckM) {l : List (Nat × Nat)} {key : Nat} (hn : ∀ e ∈ l, e.1 ≠ key) (hl : l.length < n) : P.access (eX l []) key = .ok (false, [], eX ((key, 0) :: l) []) := by
 have hw : whereX (eX l []).Q key = none := eX_none hn
 have he : P.event (eX l []) key = [109, 105, 115, 115] := by unfold Pol.event; simp only [hw]
 have hh : P.hit (eX l []) key = false := by unfold Pol.hit; simp only [hw]
 unfold Pol.access Pol.tree
 rw [he, hh, hr, hL]
 have eb : Ex.blk (oneL n) P.mf key 8 ((some ckM).getD (RTnil 8)) (eX l []).fresh = seqX (Ex.stm (Ex.blk (oneL n) P.mf key 7) (oneL n) P.mf key) [ifFull 6 0 [ckRep, plT 6 [101, 118, 105, 99, 116] 0], plT 7 [112, 117, 116] 0] (eX l []) := rfl
 rw [eb]
 have hmx : maxX (oneL n) 0 = n := rfl
 simp only [seqX, stm_if, hmx, eX_getD]
 rw [if_neg (by omega)]
 simp only [stm_pl _ _ _ _ _ _ (show ([112, 117, 116] : List UInt8) ≠ [105, 102] by decide) (show ([112, 117, 116] : List UInt8) ≠ [114, 101, 112, 101, 97, 116] by decide), ck_put n _ hn hl]
 rfl
theorem ck_miss1 (hL : P.L = oneL n) (hr : P.rul [109, 105, 115, 115] = some ckM) {l m : List (Nat × Nat)} {k f key : Nat} (hn : ∀ e ∈ l, e.1 ≠ key) (hl : l.length = n) (hm : rotE 50 l = m ++ [(k, f)]) : P.access (eX l []) key = .ok (false, [k], eX ((key, 0) :: m) []) := by
 have hw : whereX (eX l []).Q key = none := eX_none hn
 have he : P.event (eX l []) key = [109, 105, 115, 115] := by unfold Pol.event; simp only [hw]
 have hh : P.hit (eX l []) key = false := by unfold Pol.hit; simp only [hw]
 unfold Pol.access Pol.tree
 rw [he, hh, hr, hL]
 have eb : Ex.blk (oneL n) P.mf key 8 ((some ckM).getD (RTnil 8)) (eX l []).fresh = seqX (Ex.stm (Ex.blk (oneL n) P.mf key 7) (oneL n) P.mf key) [ifFull 6 0 [ckRep, plT 6 [101, 118, 105, 99, 116] 0], plT 7 [112, 117, 116] 0] (eX l []) := rfl
 rw [eb]
 have hmx : maxX (oneL n) 0 = n := rfl
 simp only [seqX, stm_if, hmx, eX_getD]
 rw [if_pos (by omega)]
 have es : Ex.stm (Ex.blk (oneL n) P.mf key 6) (oneL n) P.mf key ckRep (eX l []) = .ok (eX (rotE 50 l) []) := by
  rw [<- ck_loop n P.mf key [] 50 l (by omega)]
  unfold Ex.stm
  rw [if_neg (by decide), if_pos (by decide)]
  rfl
 rw [es, hm]
 simp only [stm_pl _ _ _ _ _ _ (show ([101, 118, 105, 99, 116] : List UInt8) ≠ [105, 102] by decide) (show ([101, 118, 105, 99, 116] : List UInt8) ≠ [114, 101, 112, 101, 97, 116] by decide), stm_pl _ _ _ _ _ _ (show ([112, 117, 116] : List UInt8) ≠ [105, 102] by decide) (show ([112, 117, 116] : List UInt8) ≠ [114, 101, 112, 101, 97, 116] by decide)]
 rw [pl_evict (m := m) (k := k) (f := f) _ _ _ _ _ (by rw [eX_getD])]
 have ho : ((eX (m ++ [(k, f)]) []).out 0 m.length).leaves (oneL n) 0 k = eX m [k] := by
  have he : (m ++ [(k, f)]).eraseIdx m.length = m := by rw [List.eraseIdx_append_of_length_le (Nat.le_refl _)]; simp
  unfold Ex.leaves Ex.out
  rw [if_pos (show resX (oneL n) 0 = true from rfl)]
  simp [eX, he]
 simp only [ho]
 have hlm : m.length < n := by
  have := rotE_len 50 l
  rw [hm] at this
  simp at this
  omega
 rw [ck_put n _ (fun e he => ?_) hlm]
 ·rfl
 ·intro h
  obtain ⟨f', hf'⟩ := (rotE_mem 50 l key).1 ⟨e.2, by rw [hm, <- h]; simp [he]⟩
  exact hn _ hf' rfl
theorem ck_hit (hL : P.L = oneL n) (hmf : P.mf = 1) (hr : P.rul [114] = some ckR) {l l1 l2 : List (Nat × Nat)} {key f : Nat} (h : l = l1 ++ (key, f) :: l2) (hn : ∀ e ∈ l1, e.1 ≠ key) : P.access (eX l []) key = .ok (true, [], eX (l1 ++ (if f < 1 then (key, f + 1) else (key, f)) :: l2) []) := by
 have hw := one_where (r := []) h hn
 have hw' : whereX (eX l []).Q key = some (0, l1.length) := hw
 have he : P.event (eX l []) key = [114] := by unfold Pol.event; simp only [hw', hL]; rfl
 have hh : P.hit (eX l []) key = true := by unfold Pol.hit; simp only [hw', hL]; rfl
 unfold Pol.access Pol.tree
 rw [he, hh, hr, hmf]
 have eb : Ex.blk P.L 1 key 8 ((some ckR).getD (RTnil 8)) (eX l []).fresh = seqX (Ex.stm (Ex.blk P.L 1 key 7) P.L 1 key) [plT 7 [98, 117, 109, 112] 0] (eX l []) := rfl
 rw [eb]
 simp only [seqX, stm_pl _ _ _ _ _ _ (show ([98, 117, 109, 112] : List UInt8) ≠ [105, 102] by decide) (show ([98, 117, 109, 112] : List UInt8) ≠ [114, 101, 112, 101, 97, 116] by decide)]
 have e1 : (eX l []).plain P.L 1 key (rtP [98, 117, 109, 112] 0) = .ok ((eX l []).bump 1 key) := by unfold Ex.plain; simp [rtP]
 rw [e1]
 have e2 : (eX l []).bump 1 key = eX (l1 ++ (if f < 1 then (key, f + 1) else (key, f)) :: l2) [] := by
  unfold Ex.bump
  simp only [hw']
  have e3 : l.modify l1.length (fun e => if e.2 < 1 then (e.1, e.2 + 1) else e) = l1 ++ (if f < 1 then (key, f + 1) else (key, f)) :: l2 := by
   rw [h]
   apply List.ext_getElem?
   intro i
   rw [List.getElem?_modify]
   by_cases h1 : l1.length = i
   ·subst h1; simp
   ·by_cases h2 : i < l1.length
    ·simp [List.getElem?_append_left h2, h1]
    ·obtain ⟨d, rfl⟩ : ∃ d, i = l1.length + (d + 1) := ⟨i - l1.length - 1, by omega⟩
     rw [List.getElem?_append_right (by omega), List.getElem?_append_right (by omega), show l1.length + (d + 1) - l1.length = d + 1 from by omega]
     simp
  unfold eX
  simp only [List.modify_zero_cons] at *
  rw [e3]
 rw [e2]
 rfl
theorem ck_keys (hL : P.L = oneL n) (l : List (Nat × Nat)) (g : List Nat) : P.keys (eX l g) [114] = some (l.map fun e => e.1) := by
 unfold Pol.keys Pol.find
 rw [hL]
 rfl
end
def ckl (wm ks : List Nat) : List (Nat × Nat) := ks.map fun k => (k, if k ∈ wm then 1 else 0)
structure CkI (N : Nat) (ks wm : List Nat) : Prop where
 nd : ks.Nodup
 wd : wm.Nodup
 sub : ∀ k ∈ wm, k ∈ ks
 len : ks.length <= N
theorem ckl_keys (wm ks : List Nat) : (ckl wm ks).map (fun e => e.1) = ks := by simp [ckl, List.map_map, Function.comp_def]
theorem ckl_no {wm ks : List Nat} {key : Nat} (h : key ∉ ks) : ∀ e ∈ ckl wm ks, e.1 ≠ key := by
 intro e he
 simp only [ckl, List.mem_map] at he
 obtain ⟨k, hk, rfl⟩ := he
 exact fun e => h (e ▸ hk)
theorem ckl_congr {wm wm' ks : List Nat} (h : ∀ k ∈ ks, (k ∈ wm ↔ k ∈ wm')) : ckl wm ks = ckl wm' ks := by
 unfold ckl
 apply List.map_congr_left
 intro k hk
 simp [h k hk]
theorem ckl_app (wm a b : List Nat) : ckl wm (a ++ b) = ckl wm a ++ ckl wm b := by simp [ckl]
theorem ck_warms {N : Nat} {ks wm l1 l2 : List Nat} {key : Nat} (h : CkI N ks wm) (e : ks = l1 ++ key :: l2) (hw : key ∉ wm) : ckl wm l1 ++ (key, 0 + 1) :: ckl wm l2 = ckl (wm ++ [key]) ks /\ CkI N ks (wm ++ [key]) := by
 have hnd := h.nd
 rw [e, List.nodup_append] at hnd
 have h1 : key ∉ l1 := fun hm => hnd.2.2 key hm key (by simp) rfl
 have h2 : key ∉ l2 := (List.nodup_cons.1 hnd.2.1).1
 constructor
 ·rw [e, ckl_app]
  have a1 : ckl (wm ++ [key]) l1 = ckl wm l1 := ckl_congr (fun k hk => by
   have : k ≠ key := fun e => h1 (e ▸ hk)
   simp [this])
  have a2 : ckl (wm ++ [key]) (key :: l2) = (key, 1) :: ckl wm l2 := by
   have : ckl (wm ++ [key]) l2 = ckl wm l2 := ckl_congr (fun k hk => by
    have : k ≠ key := fun e => h2 (e ▸ hk)
    simp [this])
   rw [<- this]
   simp [ckl]
  rw [a1, a2]
 ·refine ⟨h.nd, ?_, fun k hk => ?_, h.len⟩
  ·rw [List.nodup_append]
   refine ⟨h.wd, by simp, fun a ha b hb => ?_⟩
   simp at hb
   subst hb
   exact fun e => hw (e ▸ ha)
  ·simp only [List.mem_append, List.mem_singleton] at hk
   rcases hk with hk | rfl
   ·exact h.sub k hk
   ·rw [e]; simp
theorem ck_step {N c : Nat} {m wm w1 w2 : List Nat} {k : Nat} (h : CkI N (m ++ [k]) wm) (e : wm = w1 ++ k :: w2) : rotE (c + 1) (ckl wm (m ++ [k])) = rotE c (ckl (w1 ++ w2) (k :: m)) /\ CkI N (k :: m) (w1 ++ w2) := by
 have hkw : k ∈ wm := by rw [e]; simp
 have hnd := h.nd
 rw [List.nodup_append] at hnd
 have hkm : k ∉ m := fun hm => hnd.2.2 k hm k (by simp) rfl
 have hwd := h.wd
 rw [e, List.nodup_append] at hwd
 have hk1 : k ∉ w1 := fun hm => hwd.2.2 k hm k (by simp) rfl
 have hk2 : k ∉ w2 := (List.nodup_cons.1 hwd.2.1).1
 constructor
 ·have a1 : ckl wm (m ++ [k]) = ckl wm m ++ [(k, 1)] := by rw [ckl_app]; simp [ckl, hkw]
  have a2 : ckl (w1 ++ w2) (k :: m) = (k, 0) :: ckl wm m := by
   have : ckl (w1 ++ w2) m = ckl wm m := ckl_congr (fun j hj => by
    have : j ≠ k := fun e => hkm (e ▸ hj)
    rw [e]
    simp [this])
   rw [<- this]
   simp [ckl, hk1, hk2]
  rw [a1, a2, rotE_warm (by omega)]
 ·refine ⟨List.nodup_cons.2 ⟨hkm, hnd.1⟩, ?_, fun j hj => ?_, by have := h.len; simp at this ⊢; omega⟩
  ·rw [List.nodup_append]
   exact ⟨hwd.1, (List.nodup_cons.1 hwd.2.1).2, fun a ha b hb => hwd.2.2 a ha b (by simp [hb])⟩
  ·have hj2 : j ∈ wm := by
    rw [e]
    simp only [List.mem_append, List.mem_cons] at hj ⊢
    rcases hj with hj | hj
    ·exact Or.inl hj
    ·exact Or.inr (Or.inr hj)
   have := h.sub j hj2
   simp only [List.mem_append, List.mem_cons] at this ⊢
   rcases this with hm | hm
   ·exact Or.inr hm
   ·exact Or.inl (by simpa using hm)
theorem ck_still {c : Nat} {m wm : List Nat} {k : Nat} (hw : k ∉ wm) : rotE c (ckl wm (m ++ [k])) = ckl wm m ++ [(k, 0)] := by
 rw [ckl_app]
 simp only [show ckl wm [k] = [(k, 0)] from by simp [ckl, hw]]
 exact rotE_cold
theorem ck_new {N : Nat} {ks wm : List Nat} {key : Nat} (h : CkI N ks wm) (hn : key ∉ ks) (hl : ks.length < N) : (key, 0) :: ckl wm ks = ckl wm (key :: ks) /\ CkI N (key :: ks) wm := by
 have hw : key ∉ wm := fun e => hn (h.sub key e)
 exact ⟨by simp [ckl, hw], List.nodup_cons.2 ⟨hn, h.nd⟩, h.wd, fun k hk => List.mem_cons_of_mem _ (h.sub k hk), by simp; omega⟩
theorem ck_gone {N : Nat} {m wm : List Nat} {k : Nat} (h : CkI N (m ++ [k]) wm) (hw : k ∉ wm) : CkI N m wm := by
 have hnd := h.nd
 rw [List.nodup_append] at hnd
 refine ⟨hnd.1, h.wd, fun j hj => ?_, by have := h.len; simp at this; omega⟩
 have := h.sub j hj
 simp only [List.mem_append, List.mem_singleton] at this
 rcases this with hm | hm
 ·exact hm
 ·exact absurd (hm ▸ hj) hw
section
open Go.ChangeShapes Go.WideShapes Go.RowKit Go.ChangeShapes
def Rq (w : World) (v : Value) (ks : List Nat) : Prop := ∃ a cap, v = .slice a ks.length cap /\ (ks = [] \/ ∃ g o, a = some ⟨g, o, none⟩ /\ g < w.heap.size /\ ∀ (j k : Nat), ks[j]? = some k -> w.cell? ⟨g, o + j, none⟩ = some (.int .u64 k))
theorem Tryz.cellsU : Tryz.prog.cellsOf 27 = 1 := by kernel_rfl
theorem Tryz.bytesU : Tryz.prog.bytesOf 27 = 8 := by kernel_rfl
theorem open_keys {H : Type} {enc : TypeId × Value -> H} {W : World} {fuel : Nat} {a0 : Option Addr} {len cap : Nat} {d0 : DataW H} {p : List MemPlace} (hf : DataW.trod enc Tryz.prog W 0 (fun _ => true) true fuel 22 [.slice a0 len cap] = some (d0, p)) :
  ∃ l : List Nat, l.length = len /\ Rq W (.slice a0 len cap) l /\ (∀ k ∈ l, k < key64) /\ (len = 0 \/ ∃ es sp, d0 = .slice es sp /\ es.length = len) := by
 rcases open_ints Tryz.underlying22 Tryz.underlying27 Tryz.cellsU hf with ⟨h1, h2⟩ | ⟨a, n, c, zs, h1, _, h3, h4, h5, h6, h7, h8⟩
 ·simp only [List.cons.injEq, Value.slice.injEq, and_true] at h1
  obtain ⟨rfl, rfl, rfl⟩ := h1
  exact ⟨[], rfl, ⟨none, 0, rfl, Or.inl rfl⟩, by simp, Or.inl rfl⟩
 ·simp only [List.cons.injEq, Value.slice.injEq, and_true] at h1
  obtain ⟨rfl, rfl, rfl⟩ := h1
  simp only [if_true] at h5
  have hwf : ∀ z ∈ zs, 0 <= z /\ z < 18446744073709551616 := fun z hz => by
   have := h8 z hz
   have h : (decide (IntKind.min .u64 <= z) && decide (z <= IntKind.max .u64)) = true := this
   rw [Bool.and_eq_true, decide_eq_true_eq, decide_eq_true_eq] at h
   have e1 : IntKind.min .u64 = 0 := by decide
   have e2 : IntKind.max .u64 = 18446744073709551615 := by decide
   omega
  have hl : ((zs.take len).map Int.toNat).length = len := by simp; omega
  refine ⟨(zs.take len).map Int.toNat, hl, ⟨some a, cap, by rw [hl], ?_⟩, fun k hk => ?_, Or.inr ?_⟩
  ·by_cases h0 : len = 0
   ·left
    subst h0
    simp
   ·right
    have hc0 := h7 0 (by omega)
    have hsp : a.spot = none /\ a.block < W.heap.size := by
     simp only [Addr.add, if_true] at hc0
     unfold World.cell? at hc0
     split at hc0
     ·rename_i c e f hh
      refine ⟨?_, (Array.getElem?_eq_some_iff.1 hh).1⟩
      cases hs : a.spot with
      | none => rfl
      | some q => simp [hs] at hc0
     ·cases hc0
    obtain ⟨b, o, sp⟩ := a
    obtain ⟨e1, e2⟩ := hsp
    simp only at e1 e2
    subst e1
    refine ⟨b, o, rfl, e2, fun j k hk => ?_⟩
    simp only [List.getElem?_map, Option.map_eq_some_iff] at hk
    obtain ⟨z, hz, rfl⟩ := hk
    rw [List.getElem?_take] at hz
    split at hz
    ·rename_i hj
     have h := h7 j (by omega)
     have e : zs.getD j 0 = z := by rw [List.getD_eq_getElem?_getD, hz]; rfl
     rw [e] at h
     have hp := hwf z (List.mem_of_getElem? hz)
     rw [show ((z.toNat : Nat) : Int) = z from by omega]
     by_cases j0 : j = 0
     ·subst j0
      simpa [Addr.add] using h
     ·simpa [Addr.add, j0] using h
    ·cases hz
  ·simp only [List.mem_map] at hk
   obtain ⟨z, hz, rfl⟩ := hk
   have := hwf z (List.mem_of_mem_take hz)
   simp only [key64]
   omega
  ·simp only [Prod.mk.injEq] at h6
   exact ⟨_, _, h6.1, by simp [lits]; omega⟩
theorem bapp4 (l m : List UInt8) : (ByteArray.mk l.toArray) ++ (ByteArray.mk m.toArray) = ByteArray.mk (l ++ m).toArray := by
 apply ByteArray.ext
 simp
theorem figL_lf (n : Nat) : (figL n).length <= 2 := by unfold figL; split <;> simp
theorem idx_splt {ks : List Nat} {key j : Nat} (h : ks.findIdx? (· == key) = some j) : ∃ l1 l2, ks = l1 ++ key :: l2 /\ key ∉ l1 /\ l1.length = j := by
 rw [List.findIdx?_eq_some_iff_getElem] at h
 obtain ⟨hj, he, hn⟩ := h
 refine ⟨ks.take j, ks.drop (j + 1), ?_, ?_, by simp; omega⟩
 ·have : ks[j] = key := by simpa using he
  rw [<- this, <- List.drop_eq_getElem_cons hj, List.take_append_drop]
 ·intro hm
  obtain ⟨i, hi, e⟩ := List.getElem_of_mem hm
  simp at hi
  have := hn i (by omega)
  simp at e
  simp [e] at this
theorem idx_non {ks : List Nat} {key : Nat} (h : ks.findIdx? (· == key) = none) : key ∉ ks := by
 rw [List.findIdx?_eq_none_iff] at h
 intro hm
 have := h key hm
 simp at this
structure CkE (w : World) (N lo : Nat) (x : Tx) (g i : Nat) (v u : Value) (wr : World) : Prop where
 ex : ∃ ks wm dom n, CkI N ks wm /\ Eg wr g dom x (eX (ckl wm ks) []) n /\ Rk wr v ks /\ wr.ownsRow lo 27 1 u wm.length (keysV wm) /\ (∀ b, v.ownBlock = some b -> ¬ (dom b \/ b = g)) /\ (∀ b, u.ownBlock = some b -> ¬ (dom b \/ b = g) /\ v.ownBlock ≠ some b) /\ (∀ k, dom k -> lo <= k) /\ (n.1 <= i /\ n.2.1 <= i /\ n.2.2 <= 7000000 * i)
 g : lo <= g
 b : Below lo w wr
end
theorem Rk.lt_own {w : World} {v : Value} {ks : List Nat} (h : Rk w v ks) {b : Nat} (hb : v.ownBlock = some b) : b < w.heap.size := by
 obtain ⟨a, cap, e, _, _, h3⟩ := h
 rcases h3 with ⟨e2, _⟩ | ⟨g2, o2, e2, hg2, _⟩
 ·rw [e, e2] at hb; simp [Value.ownBlock] at hb
 ·rw [e, e2] at hb; simp [Value.ownBlock] at hb; omega
theorem cnt_up {n : Nat × Nat × Nat} {i o : Nat} {hit : Bool} (h : n.1 <= i /\ n.2.1 <= i /\ n.2.2 <= 7000000 * i) (ho : o <= 1) : (cntE n hit o).1 <= i + 1 /\ (cntE n hit o).2.1 <= i + 1 /\ (cntE n hit o).2.2 <= 7000000 * (i + 1) := by
 obtain ⟨h1, h2, h3⟩ := h
 cases hit <;> simp [cntE] <;> omega
theorem ck_told {w wr wa : World} {E : Nat -> Addr} {N : Nat} {x : Tx} {g i key : Nat} {dom : Nat -> Prop} {v u vo : Value} {ks wm out : List Nat} {s : Ex} {n : Nat × Nat × Nat} {hit : Bool} (SS : Sent w E) (hb : Below w.heap.size w wr) (hg : w.heap.size <= g) (hE : Eg wr g dom x s n) (hd : ∀ k, dom k -> w.heap.size <= k) (hn : n.1 <= i /\ n.2.1 <= i /\ n.2.2 <= 7000000 * i) (hi : i <= 16384) (hk : key < key64) (Ba : Below wr.heap.size wr wa \/ Below w.heap.size w wa /\ Eg wa g dom x s n)
  (ha : (polOf x).access s key = .ok (hit, out, eX (ckl wm ks) [])) (ho : out.length <= 1) (hks : (polOf x).keys (eX (ckl wm ks) []) [114] = some ks) (hI : CkI N ks wm) (hout : Rk wa vo out) (hofo : ∀ b, vo.ownBlock = some b -> ¬ (dom b \/ b = g)) (hv : Rk wa v ks) (hov : ∀ b, v.ownBlock = some b -> ¬ (dom b \/ b = g)) (hu : wa.ownsRow w.heap.size 27 1 u wm.length (keysV wm)) (hou : ∀ b, u.ownBlock = some b -> ¬ (dom b \/ b = g) /\ v.ownBlock ≠ some b) :
  Calls Tryz.prog 15 #[ptr g, .int .u64 key, .bool hit, vo, S [114], v] wa fun e wb => e = .returned (.bool true) /\ CkE w N w.heap.size x g (i + 1) v u wb := by
 have hz := hb.size
 have hlo : ∀ k, dom k \/ k = g -> w.heap.size <= k := fun k e => by
  rcases e with e | e
  ·exact hd k e
  ·exact e ▸ hg
 have hBa : Below w.heap.size w wa /\ Eg wa g dom x s n := by
  rcases Ba with Ba | Ba
  ·exact ⟨hb.trans (Ba.mono hz), hE.below Ba⟩
  ·exact Ba
 obtain ⟨hwa, hEa⟩ := hBa
 have hza := hwa.size
 refine (told_yes SS hwa hEa hlo key hk (by omega) (by omega) (by omega) ha hks hout hv hofo hov).mono ?_
 rintro e wb ⟨dom', rfl, hF, hE', hd'⟩
 have hnew : ∀ b, b < wa.heap.size -> ¬ (dom b \/ b = g) -> ¬ (dom' b \/ b = g) := fun b hb hn hc => by
  rcases hc with hc | hc
  ·rcases hd' b hc with hc | hc
   ·exact hn (Or.inl hc)
   ·omega
  ·exact hn (Or.inr hc)
 refine ⟨rfl, ⟨ks, wm, dom', _, hI, hE', hv.fo hF hov, own_mv hu (fun b e hl => hF.block b hl (hou b e).1), fun b e => hnew b (hv.lt_own e) (hov b e), fun b e => ⟨hnew b (hu.lt b e).2 (hou b e).1, (hou b e).2⟩, fun k hk => ?_, cnt_up hn ho⟩, hg, hwa.trans (hF.lows hlo hza)⟩
 rcases hd' k hk with hk | hk
 ·exact hd k hk
 ·omega
end Go.Proofs.YtfddoieakfpagabGreatDoor
