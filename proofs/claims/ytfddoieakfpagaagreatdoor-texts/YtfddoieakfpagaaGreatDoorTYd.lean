import Derived.Test.YtfddoieakfpagaaGreatDoorTYc
namespace Go.Proofs.YtfddoieakfpagaaGreatDoor
open Go.RowKit
theorem aLh (n : Nat) : gJ n = Lib.decDigits n := by
 induction n using Nat.strongRecOn with
 | ind n ih =>
  unfold gJ Lib.decDigits
  split
  ·rfl
  ·rw [ih (n / 10) (by omega)]
   rfl
theorem vJ (n : Nat) : jM n = gJ n := by
 unfold jM Lib.itoa
 rw [if_neg (by omega), aLh]
 rfl
def wgP (x : St) : Prop := (x.word = [112, 117, 116] /\ St.to x = ([], 0)) \/ x.word = [115, 104, 105, 102, 116] \/ ((x.word = [101, 118, 105, 99, 116] \/ x.word = [105, 110, 99] \/ x.word = [100, 101, 99] \/ x.word = [99, 111, 111, 108]) /\ St.to x = ([], 0) /\ x.tail = false) \/ ((x.word = [100, 114, 111, 112] \/ x.word = [98, 117, 109, 112]) /\ x.name = ([], 0) /\ St.to x = ([], 0) /\ x.tail = false)
def wgS {β : Type} (P : β -> Prop) (z : β) (r : St × β × β) : Prop := (r.1.word = [105, 102] /\ P r.2.1 /\ P r.2.2 /\ (r.1.other = false -> r.2.2 = z)) \/ (r.1.word = [114, 101, 112, 101, 97, 116] /\ r.1.other = false /\ P r.2.1 /\ r.2.2 = z) \/ (wgP r.1 /\ r.1.other = false /\ r.2.1 = z /\ r.2.2 = z)
def wgB : (d : Nat) -> BT d -> Prop
 | 0, _ => True
 | d + 1, xs => L9 (wgS (wgB d) (aZ d)) xs
theorem aMa : ∀ d, wgB d (aZ d)
 | 0 => trivial
 | _ + 1 => trivial
theorem aB1 {l : List UInt8} {t t' : Tok} {x : St} (h : bI l t = .ok (x, t')) : wgP x /\ x.other = false := by
 unfold bI at h
 unfold wgP
 split at h
 ·rename_i hw
  obtain ⟨n, t1, _, h⟩ := aB h
  rw [jP h]
  exact ⟨Or.inl ⟨hw, rfl⟩, rfl⟩
 ·split at h
  ·rename_i hw
   obtain ⟨n, t1, _, h⟩ := aB h
   obtain ⟨m, t2, _, h⟩ := aB h
   rw [jP h]
   exact ⟨Or.inr (Or.inl hw), rfl⟩
  ·split at h
   ·rename_i hw
    obtain ⟨n, t1, _, h⟩ := aB h
    rw [jP h]
    simp only [oN, Bool.or_eq_true, beq_iff_eq] at hw
    refine ⟨Or.inr (Or.inr (Or.inl ⟨?_, rfl, rfl⟩)), rfl⟩
    rcases hw with ((hw | hw) | hw) | hw
    ·exact Or.inl hw
    ·exact Or.inr (Or.inl hw)
    ·exact Or.inr (Or.inr (Or.inl hw))
    ·exact Or.inr (Or.inr (Or.inr hw))
   ·split at h
    ·rename_i hw
     rw [jP h]
     simp only [lK, Bool.or_eq_true, beq_iff_eq] at hw
     exact ⟨Or.inr (Or.inr (Or.inr ⟨hw, rfl, rfl, rfl⟩)), rfl⟩
    ·cases h
theorem aMq {d : Nat} {l : List UInt8} {lo : Nat} (hb : ∀ lo t x t', aJ l d lo t = .ok (x, t') -> wgB d x) {t t' : Tok} {x : St × BT d × BT d} (h : dB (aJ l d) (aZ d) l lo t = .ok (x, t')) : wgS (wgB d) (aZ d) x := by
 unfold dB at h
 split at h
 ·rename_i hw
  unfold ifS at h
  obtain ⟨c, t1, h1, h⟩ := aB h
  obtain ⟨x1, t2, h2, h⟩ := aB h
  split at h
  ·obtain ⟨y, t3, h3, h⟩ := aB h
   cases h
   exact Or.inl ⟨hw, hb _ _ _ _ h2, hb _ _ _ _ h3, fun e => by cases e⟩
  ·cases h
   exact Or.inl ⟨hw, hb _ _ _ _ h2, aMa d, fun _ => rfl⟩
 ·split at h
  ·rename_i hw
   unfold pV at h
   split at h
   ·cases h
   ·obtain ⟨n, t1, h1, h⟩ := aB h
    obtain ⟨_, t2, h2, h⟩ := aB h
    obtain ⟨c, t3, h3, h⟩ := aB h
    obtain ⟨y, t4, h4, h⟩ := aB h
    cases h
    exact Or.inr (Or.inl ⟨hw, rfl, hb _ _ _ _ h4, rfl⟩)
  ·obtain ⟨s, t1, h1, h⟩ := aB h
   cases h
   exact Or.inr (Or.inr ⟨(aB1 h1).1, (aB1 h1).2, rfl, rfl⟩)
theorem zH {α : Type} {bJ : Tok -> PR α} {l : List UInt8} {P : α -> Prop} (hs : ∀ t x t', bJ t = .ok (x, t') -> P x) : ∀ (n : Nat) (t t' : Tok) (xs : List α), dQ bJ l n t = .ok (xs, t') -> L9 P xs
 | 0, _, _, _, h => by cases h
 | n + 1, t, t', xs, h => by
  unfold dQ at h
  split at h
  ·cases h; trivial
  ·obtain ⟨x, t1, h1, h⟩ := aB h
   obtain ⟨ys, t2, h2, h⟩ := aB h
   have := zH hs n t1 t2 ys h2
   cases h
   exact ⟨hs _ _ _ h1, this⟩
theorem aC8 {l : List UInt8} : ∀ (d lo : Nat) (t : Tok) (x : BT d) (t' : Tok), aJ l d lo t = .ok (x, t') -> wgB d x
 | 0, _, _, _, _, _ => trivial
 | d + 1, lo, t, x, t', h => by
  by_cases hc : t.txt = [123]
  ·have e := (jC l d lo t hc).symm.trans h
   exact zH (fun t x t' h => aMq (fun lo t x t' => aC8 d lo t x t') h) _ _ _ _ e
  ·have e := (lF l d lo t hc).symm.trans h
   cases e
theorem aBq {l : List UInt8} : ∀ (n : Nat) (t t' : Tok) (rs : List (Nat × NP × BT 8)), bY l n t = .ok (rs, t') -> ∀ r ∈ rs, wgB 8 r.2.2
 | 0, _, _, _, h => by cases h
 | n + 1, t, t', ds, h => by
  unfold bY at h
  split at h
  ·obtain ⟨d, t1, h1, h⟩ := aB h
   obtain ⟨es, t2, h2, h⟩ := aB h
   have ih := aBq n t1 t2 es h2
   cases h
   intro x hx
   rcases List.mem_cons.1 hx with rfl | hx
   ·unfold gV at h1
    obtain ⟨n, t3, _, h1⟩ := aB h1
    obtain ⟨y, t4, h4, h1⟩ := aB h1
    have := aC8 8 0 t3 y t4 h4
    cases h1
    exact this
   ·exact ih x hx
  ·cases h
   exact fun _ hx => (by cases hx)
theorem iI (l t : List UInt8) (h : t ≠ [59]) : dG (l, true) t = (l ++ [32] ++ t, true) := by
 unfold dG
 rw [if_pos ⟨rfl, h⟩]
 simp
theorem xW (l : List UInt8) : dG (l, true) [59] = (l ++ [59], true) := by
 unfold dG
 rw [if_neg (by simp)]
theorem zF (l t : List UInt8) : dG (l, false) t = (l ++ t, true) := by
 unfold dG
 rw [if_neg (by simp)]
theorem yN (n : Nat) : gJ n ≠ [59] := by
 unfold gJ
 split
 ·rename_i h
  intro e
  have : dgR n = 59 := by simpa using e
  have e2 : (dgR n).toNat = 59 := by rw [this]; rfl
  unfold dgR at e2
  simp at e2
  omega
 ·intro e
  have h1 : (gJ (n / 10) ++ [dgR (n % 10)]).length = 1 := by rw [e]; rfl
  have h2 : 0 < (gJ (n / 10)).length := by
   unfold gJ
   split <;> simp
  simp at h1
  rw [h1] at h2
  simp at h2
theorem aI9 {L : List DL} (hnm : ∀ d ∈ L, d.2.1 ≠ [59]) {v : Vl} {o : List UInt8 × Nat} (h : VR L v o) (l : List UInt8) : iQ (l, true) v = (l ++ [32] ++ mY L o, true) := by
 have nb : ∀ {nm : List UInt8} {k : Nat} {b : Bool}, NB L nm k b -> jJ L k = nm /\ nm ≠ [59] := fun {nm k b} h => by
  obtain ⟨d, h1, _, _, h4⟩ := h
  refine ⟨?_, by rw [<- h4]; exact hnm d (List.mem_of_getElem? h1)⟩
  unfold jJ
  rw [List.getD_eq_getElem?_getD, h1]
  exact h4
 unfold iQ mY
 rcases h with ⟨h1, h2, h3⟩ | ⟨h1, h2, h3⟩ | ⟨h1, h2, h3⟩ | ⟨h1, h2⟩
 ·rw [if_pos h1, if_pos h2, vJ, h3, iI _ _ (yN _)]
 ·rw [if_neg (by omega), if_pos h1, if_neg (by rw [h2]; decide), if_neg (by rw [h2]; decide), if_neg (by rw [h2]; decide), (nb h3).1, iI _ _ (nb h3).2]
 ·rw [if_neg (by omega), if_neg (by omega), if_pos h1, if_neg (by rw [h2]; decide), if_neg (by rw [h2]; decide), if_pos h2, (nb h3).1]
  show dG (dG (l, true) [108, 101, 110]) v.name.1 = _
  rw [iI _ _ (by decide), iI _ _ (nb h3).2]
  simp
 ·rw [if_neg (by omega), if_neg (by omega), if_neg (by omega), if_pos h1, if_neg (by rw [h2]; decide), if_pos h2, iI _ _ (by decide)]
theorem aLm {L : List DL} (hnm : ∀ d ∈ L, d.2.1 ≠ [59]) {x : Cd} {c : Rc} (h : CR L x c) (l : List UInt8) : dF (l, true) x = (l ++ [32] ++ kG L c, true) := by
 obtain ⟨h1, h2, h3⟩ := h
 have hs : ∃ l2, (if x.neg = true then dG (l, true) [110, 111, 116] else (l, true)) = (l2, true) /\ ∀ t : List UInt8, l2 ++ [32] ++ t = l ++ [32] ++ (oI c.bH ++ t) := by
  unfold oI
  cases hn : x.neg with
  | true =>
   rw [hn] at h1
   have : c.bH % 2 = 1 := by simpa using h1.symm
   rw [if_pos rfl, iI _ _ (by decide), if_pos this]
   exact ⟨_, rfl, fun t => by simp⟩
  | false =>
   rw [hn] at h1
   have : ¬ c.bH % 2 = 1 := by simpa using h1.symm
   rw [if_neg (by simp), if_neg this]
   exact ⟨_, rfl, fun t => by simp⟩
 obtain ⟨l2, e1, e2⟩ := hs
 unfold dF kG
 simp only
 rw [e1]
 rcases h3 with ⟨h3, d, hd1, _, _, hd4⟩ | ⟨h3, h4, h5⟩
 ·have hop : c.op ≠ [60] /\ c.op ≠ [59] := by rcases h3 with e | e | e <;> rw [e] <;> decide
  have hq : jJ L c.n = x.queue.1 := by unfold jJ; rw [List.getD_eq_getElem?_getD, hd1]; exact hd4
  rw [if_pos (by rw [h2]; exact hop.1), if_neg hop.1]
  show dG (dG (l2, true) x.word) x.queue.1 = _
  rw [h2, iI _ _ hop.2, iI _ _ (by rw [<- hd4]; exact hnm d (List.mem_of_getElem? hd1)), e2, hq]
  simp
 ·rw [if_neg (by rw [h2, h3]; simp), if_pos h3, aI9 hnm h4, iI _ _ (by decide), aI9 hnm h5, e2]
  simp
section
variable {L : List DL}
theorem aB6 (hnm : ∀ d ∈ L, d.2.1 ≠ [59] /\ d.2.1 ≠ []) {nm : List UInt8} {k : Nat} {b : Bool} (h : NB L nm k b) : jJ L k = nm /\ nm ≠ [59] /\ nm ≠ [] := by
 obtain ⟨d, h1, _, _, h4⟩ := h
 refine ⟨?_, by rw [<- h4]; exact hnm d (List.mem_of_getElem? h1)⟩
 unfold jJ
 rw [List.getD_eq_getElem?_getD, h1]
 exact h4
theorem zX (l t : List UInt8) (h : t ≠ [59]) (h0 : t ≠ []) : fE (l, true) t = (l ++ [32] ++ t, true) := by
 unfold fE
 rw [if_pos h0, iI _ _ h]
theorem uB (s : Ws) : fE s [] = s := if_neg (by simp)
theorem pM {β : Type} (blk : β -> List UInt8) {y : Rt} {y1 y2 : β} (h : y.op ≠ [105, 102] /\ y.op ≠ [114, 101, 112, 101, 97, 116] /\ ¬ (y.op = [100, 114, 111, 112] \/ y.op = [98, 117, 109, 112])) : gU blk L (y, y1, y2) = y.op ++ ([32] ++ jJ L y.n) ++ (if y.op = [115, 104, 105, 102, 116] then [32] ++ jJ L y.m else []) ++ (if y.tail = true then [32, 116, 97, 105, 108] else []) ++ [59] := (if_neg h.1).trans ((if_neg h.2.1).trans (if_neg h.2.2))
theorem zI {β : Type} (blk : β -> List UInt8) {y : Rt} {y1 y2 : β} (h : y.op = [100, 114, 111, 112] \/ y.op = [98, 117, 109, 112]) : gU blk L (y, y1, y2) = y.op ++ [59] := (if_neg (by rcases h with e | e <;> rw [e] <;> decide)).trans ((if_neg (by rcases h with e | e <;> rw [e] <;> decide)).trans (if_pos h))
theorem aP5 (hnm : ∀ d ∈ L, d.2.1 ≠ [59] /\ d.2.1 ≠ []) {β : Type} (blk : β -> List UInt8) {x : St} {y : Rt} (y1 y2 : β) (h : PR1 L x y) (hg : wgP x) (ht : x.tail = y.tail \/ ¬ (y.op = [112, 117, 116] \/ y.op = [115, 104, 105, 102, 116]) /\ y.tail = false) (l : List UInt8) : rC (dG (l, true) x.word) x = (l ++ [32] ++ gU blk L (y, y1, y2), true) := by
 obtain ⟨h1, h2⟩ := h
 have hw : x.word ≠ [59] := by
  rw [h1]
  rcases h2 with ⟨e, _⟩ | ⟨e, _⟩ | ⟨e | e, _⟩ | ⟨e | e, _⟩ | e | e <;> rw [e] <;> decide
 rw [iI _ _ hw]
 unfold rC
 rw [h1]
 unfold wgP at hg
 rw [h1] at hg
 have aIg : ∀ (b : Bool) (u : List UInt8), dG (if b = true then dG (u, true) [116, 97, 105, 108] else (u, true)) [59] = (u ++ (if b = true then [32, 116, 97, 105, 108] else []) ++ [59], true) := fun b u => by
  cases b with
  | true => rw [if_pos rfl, if_pos rfl, iI _ _ (by decide), xW]; simp
  | false => rw [if_neg (by simp), if_neg (by simp), xW]; simp
 rcases h2 with ⟨e, e2, e3⟩ | ⟨e, e2, e3, e4⟩ | ⟨e, e3⟩ | ⟨e, e3⟩ | e | e
 ·obtain ⟨n1, n2, n3⟩ := aB6 hnm e3
  have hto : (St.to x).1 = [] := by
   rcases hg with ⟨_, g⟩ | g | ⟨g, g2, _⟩ | ⟨_, _, g2, _⟩
   ·rw [g]
   ·rw [e] at g; exact absurd g (by decide)
   ·rw [g2]
   ·rw [g2]
  rw [zX _ _ n2 n3, hto, uB, aIg, e2, pM blk (by rw [e]; decide), n1]
  rw [show (if y.op = [115, 104, 105, 102, 116] then [32] ++ jJ L y.m else ([] : List UInt8)) = [] from if_neg (by rw [e]; decide)]
  simp
 ·obtain ⟨n1, n2, n3⟩ := aB6 hnm e3
  obtain ⟨m1, m2, m3⟩ := aB6 hnm e4
  rw [zX _ _ n2 n3, zX _ _ m2 m3, aIg, e2, pM blk (by rw [e]; decide), n1]
  rw [show (if y.op = [115, 104, 105, 102, 116] then [32] ++ jJ L y.m else ([] : List UInt8)) = [32] ++ jJ L y.m from if_pos e, m1]
  simp
 ·obtain ⟨n1, n2, n3⟩ := aB6 hnm e3
  have hto : (St.to x).1 = [] /\ x.tail = false := by
   rcases hg with ⟨g, _⟩ | g | ⟨_, g2, g3⟩ | ⟨_, _, g2, g3⟩
   ·rcases e with e | e <;> rw [e] at g <;> exact absurd g (by decide)
   ·rcases e with e | e <;> rw [e] at g <;> exact absurd g (by decide)
   ·exact ⟨by rw [g2], g3⟩
   ·exact ⟨by rw [g2], g3⟩
  have hyt : y.tail = false := by
   rcases ht with q | ⟨_, q⟩
   ·rw [<- q]; exact hto.2
   ·exact q
  have hne : y.op ≠ [105, 102] /\ y.op ≠ [114, 101, 112, 101, 97, 116] /\ ¬ (y.op = [100, 114, 111, 112] \/ y.op = [98, 117, 109, 112]) := by rcases e with e | e <;> rw [e] <;> decide
  have hne2 : y.op ≠ [115, 104, 105, 102, 116] := by rcases e with e | e <;> rw [e] <;> decide
  rw [zX _ _ n2 n3, hto.1, uB, aIg, hto.2, pM blk hne, hyt, n1]
  rw [show (if y.op = [115, 104, 105, 102, 116] then [32] ++ jJ L y.m else ([] : List UInt8)) = [] from if_neg hne2]
  simp
 ·obtain ⟨n1, n2, n3⟩ := aB6 hnm e3
  have hto : (St.to x).1 = [] /\ x.tail = false := by
   rcases hg with ⟨g, _⟩ | g | ⟨_, g2, g3⟩ | ⟨_, _, g2, g3⟩
   ·rcases e with e | e <;> rw [e] at g <;> exact absurd g (by decide)
   ·rcases e with e | e <;> rw [e] at g <;> exact absurd g (by decide)
   ·exact ⟨by rw [g2], g3⟩
   ·exact ⟨by rw [g2], g3⟩
  have hyt : y.tail = false := by
   rcases ht with q | ⟨_, q⟩
   ·rw [<- q]; exact hto.2
   ·exact q
  have hne : y.op ≠ [105, 102] /\ y.op ≠ [114, 101, 112, 101, 97, 116] /\ ¬ (y.op = [100, 114, 111, 112] \/ y.op = [98, 117, 109, 112]) := by rcases e with e | e <;> rw [e] <;> decide
  have hne2 : y.op ≠ [115, 104, 105, 102, 116] := by rcases e with e | e <;> rw [e] <;> decide
  rw [zX _ _ n2 n3, hto.1, uB, aIg, hto.2, pM blk hne, hyt, n1]
  rw [show (if y.op = [115, 104, 105, 102, 116] then [32] ++ jJ L y.m else ([] : List UInt8)) = [] from if_neg hne2]
  simp
 ·have hto : x.name.1 = [] /\ (St.to x).1 = [] /\ x.tail = false := by
   rcases hg with ⟨g, _⟩ | g | ⟨g, _⟩ | ⟨_, g1, g2, g3⟩
   ·rw [e] at g; exact absurd g (by decide)
   ·rw [e] at g; exact absurd g (by decide)
   ·rw [e] at g; exact absurd g (by decide)
   ·exact ⟨by rw [g1], by rw [g2], g3⟩
  rw [hto.1, hto.2.1, uB, uB, aIg, hto.2.2, zI blk (Or.inl e)]
  simp
 ·have hto : x.name.1 = [] /\ (St.to x).1 = [] /\ x.tail = false := by
   rcases hg with ⟨g, _⟩ | g | ⟨g, _⟩ | ⟨_, g1, g2, g3⟩
   ·rw [e] at g; exact absurd g (by decide)
   ·rw [e] at g; exact absurd g (by decide)
   ·rw [e] at g; exact absurd g (by decide)
   ·exact ⟨by rw [g1], by rw [g2], g3⟩
  rw [hto.1, hto.2.1, uB, uB, aIg, hto.2.2, zI blk (Or.inr e)]
  simp
theorem aBo {α : Type} (f : α -> List UInt8) : ∀ (xs : List α), xs.flatMap (fun x => [32] ++ f x) ++ [32] = [32] ++ jU f xs
 | [] => rfl
 | x :: xs => by
  have := aBo f xs
  unfold jU at this ⊢
  simp only [List.flatMap_cons, List.append_assoc] at this ⊢
  rw [this]
theorem aLo {c c' : Rc} (h : rcE c c') (ho : okC L c) : kG L c = kG L c' := by
 obtain ⟨h1, h2, h3, h4⟩ := h
 unfold kG
 have hn : oI c.bH = oI c'.bH := by unfold oI; rw [h2]
 rw [hn, <- h1]
 rcases ho with ⟨e, _⟩ | ⟨e, _⟩ | ⟨e, _⟩ | ⟨e, _⟩
 ·rw [if_neg (by rw [e]; decide), if_neg (by rw [e]; decide), h4 (by rw [e]; decide)]
 ·rw [if_neg (by rw [e]; decide), if_neg (by rw [e]; decide), h4 (by rw [e]; decide)]
 ·rw [if_neg (by rw [e]; decide), if_neg (by rw [e]; decide), h4 (by rw [e]; decide)]
 ·have := h3 (by rw [e]; decide)
  rw [if_pos e, if_pos e, this.1, this.2]
theorem aKe {α : Type} {f : α -> List UInt8} {P : α -> α -> Prop} {O : α -> Prop} (hf : ∀ a b, P a b -> O a -> f a = f b) : ∀ (xs ys : List α), aHx P xs ys -> L9 O xs -> jU f xs = jU f ys
 | [], [], _, _ => rfl
 | a :: xs, b :: ys, h, ho => by
  have := aKe hf xs ys h.2 ho.2
  unfold jU at this ⊢
  rw [List.flatMap_cons, List.flatMap_cons, this, hf a b h.1 ho.1]
 | [], _ :: _, h, _ => by cases h
 | _ :: _, [], h, _ => by cases h
theorem wR : ∀ (d : Nat) (r y : RT d), qU d r y -> O3 L d r -> dA L d r = dA L d y
 | 0, _, _, _, _ => rfl
 | d + 1, r, y, h, ho => by
  have key := aKe (f := gU (dA L d) L) (P := fun (a b : Rt × RT d × RT d) => rtE a.1 b.1 /\ qU d a.2.1 b.2.1 /\ qU d a.2.2 b.2.2) (O := OkS L (O3 L d)) (fun ⟨a, a1, a2⟩ ⟨b, b1, b2⟩ hab hO => by
   change rtE a b /\ qU d a1 b1 /\ qU d a2 b2 at hab
   obtain ⟨⟨e1, e2, e3, e4, e5, e6⟩, f1, f2⟩ := hab
   rcases hO with ⟨g, gc, g1, g2⟩ | ⟨g, gc, gn, g1⟩ | g
   ·change a.op = [105, 102] at g
    change okC L a.bU at gc
    change O3 L d a1 at g1
    change O3 L d a2 at g2
    have hb : b.op = [105, 102] := e1 ▸ g
    have t1 := wR d a1 b1 f1 g1
    have t2 := wR d a2 b2 f2 g2
    rw [show gU (dA L d) L (a, a1, a2) = _ from if_pos g, show gU (dA L d) L (b, b1, b2) = _ from if_pos hb]
    simp only
    rw [t1, t2, aLo (e6 (Or.inl g)) gc, e3]
   ·change a.op = [114, 101, 112, 101, 97, 116] at g
    change okC L a.bU at gc
    change O3 L d a1 at g1
    have hb : b.op = [114, 101, 112, 101, 97, 116] := e1 ▸ g
    have t1 := wR d a1 b1 f1 g1
    have en := e5 (by rw [g]; decide) (by rw [g]; decide) (by rw [g]; decide)
    rw [show gU (dA L d) L (a, a1, a2) = _ from (if_neg (by simp only; rw [g]; decide)).trans (if_pos g), show gU (dA L d) L (b, b1, b2) = _ from (if_neg (by simp only; rw [hb]; decide)).trans (if_pos hb)]
    simp only
    rw [t1, aLo (e6 (Or.inr g)) gc, en]
   ·change okP L a at g
    unfold okP at g
    have hz : (a.op = [100, 114, 111, 112] \/ a.op = [98, 117, 109, 112]) \/ (a.op ≠ [105, 102] /\ a.op ≠ [114, 101, 112, 101, 97, 116] /\ ¬ (a.op = [100, 114, 111, 112] \/ a.op = [98, 117, 109, 112])) := by
     rcases g with g | g | ⟨_, g | g | g | g | g | ⟨g, _⟩⟩
     ·exact Or.inl (Or.inl g)
     ·exact Or.inl (Or.inr g)
     all_goals exact Or.inr (by rw [g]; decide)
    rcases hz with hz | hz
    ·rw [zI _ hz, zI _ (e1 ▸ hz), e1]
    ·have hz2 := hz
     rw [e1] at hz2
     have en := e5 hz.1 (fun q => hz.2.2 (Or.inl q)) (fun q => hz.2.2 (Or.inr q))
     rw [pM _ hz, pM _ hz2, en, e2, <- e1]
     by_cases hs : a.op = [115, 104, 105, 102, 116]
     ·rw [e4 hs]
     ·simp only [if_neg hs]) r y h ho.1
  show [123, 32] ++ jU (gU (dA L d) L) r ++ [125] = [123, 32] ++ jU (gU (dA L d) L) y ++ [125]
  rw [key]
theorem aA3 (hnm : ∀ d ∈ L, d.2.1 ≠ [59] /\ d.2.1 ≠ []) : ∀ (d lp : Nat) (x : BT d), TR L d lp x (aP L d x) -> wgB d x -> ∀ l : List UInt8, dR d (l, true) x = (l ++ [32] ++ dA L d (aP L d x), true)
 | 0, _, _, _, _, l => by
  show dG (dG (l, true) [123]) [125] = _
  rw [iI _ _ (by decide), iI _ _ (by decide)]
  show _ = (l ++ [32] ++ ([123, 32] ++ [125]), true)
  simp
 | d + 1, lp, x, hT, hg, l => by
  have aSc : ∀ d ∈ L, d.2.1 ≠ [59] := fun d hd => (hnm d hd).1
  have key : ∀ (xs : List (St × BT d × BT d)), TRL (TRs L (TR L d) lp) xs (xs.map fun r => (eH L r.1, aP L d r.2.1, aP L d r.2.2)) -> L9 (wgS (wgB d) (aZ d)) xs -> ∀ l : List UInt8, kP (kK (dR d)) (l, true) xs = (l ++ (xs.map fun r => (eH L r.1, aP L d r.2.1, aP L d r.2.2)).flatMap (fun y => [32] ++ gU (dA L d) L y), true) := by
   intro xs
   induction xs with
   | nil => intro _ _ l; show (l, true) = _; simp
   | cons r xs ih =>
    intro h1 h2 l
    obtain ⟨h1, h1'⟩ := h1
    obtain ⟨h2, h2'⟩ := h2
    have hst : kK (dR d) (l, true) r = (l ++ [32] ++ gU (dA L d) L (eH L r.1, aP L d r.2.1, aP L d r.2.2), true) := by
     rcases h1 with ⟨a1, a2, a3, a4, a5, a6⟩ | ⟨a1, a2, a3, a4, a5, a6, a7⟩ | a1
     ·rcases h2 with ⟨_, b1, b2, b3⟩ | ⟨b, _⟩ | ⟨b, _⟩
      ·have t1 := aA3 hnm d lp r.2.1 a5 b1
       have t2 := aA3 hnm d lp r.2.2 a6 b2
       rw [show kK (dR d) (l, true) r = _ from if_pos a1, show gU (dA L d) L (eH L r.1, aP L d r.2.1, aP L d r.2.2) = _ from if_pos a2]
       simp only
       rw [a1, iI _ _ (by decide), aLm aSc a3, t1, a4]
       cases (eH L r.1).other with
       | true => rw [if_pos rfl, if_pos rfl, iI _ _ (by decide), t2]; simp
       | false => rw [if_neg (by simp), if_neg (by simp)]; simp
      ·rw [a1] at b; exact absurd b (by decide)
      ·unfold wgP at b
       rw [a1] at b
       simp at b
     ·rcases h2 with ⟨b, _⟩ | ⟨_, _, b1, _⟩ | ⟨b, _⟩
      ·rw [a1] at b; exact absurd b (by decide)
      ·have t1 := aA3 hnm d (lp + 1) r.2.1 a7 b1
       have hr0 : ¬ r.1.word = [105, 102] := by rw [a1]; decide
       have hr1 : ¬ (eH L r.1).op = [105, 102] := by rw [a2]; decide
       rw [show kK (dR d) (l, true) r = _ from (if_neg hr0).trans (if_pos a1), show gU (dA L d) L (eH L r.1, aP L d r.2.1, aP L d r.2.2) = _ from (if_neg hr1).trans (if_pos a2)]
       simp only
       rw [a1, iI _ _ (by decide), show fB (l ++ [32] ++ [114, 101, 112, 101, 97, 116], true) [jM r.1.times.1, [119, 104, 105, 108, 101]] = dG (dG (l ++ [32] ++ [114, 101, 112, 101, 97, 116], true) (jM r.1.times.1)) [119, 104, 105, 108, 101] from rfl, vJ, iI _ _ (yN _), iI _ _ (by decide), aLm aSc a3, t1, a4]
       simp
      ·unfold wgP at b
       rw [a1] at b
       simp at b
     ·have hop : r.1.word ≠ [105, 102] /\ r.1.word ≠ [114, 101, 112, 101, 97, 116] := by
       rw [a1.1]
       rcases a1.2 with ⟨e, _⟩ | ⟨e, _⟩ | ⟨e | e, _⟩ | ⟨e | e, _⟩ | e | e <;> rw [e] <;> decide
      rcases h2 with ⟨b, _⟩ | ⟨b, _⟩ | ⟨b, _⟩
      ·exact absurd b hop.1
      ·exact absurd b hop.2
      ·rw [show kK (dR d) (l, true) r = _ from (if_neg hop.1).trans (if_neg hop.2)]
       exact aP5 hnm (dA L d) _ _ a1 b (Or.inl rfl) l
    show kP (kK (dR d)) (kK (dR d) (l, true) r) xs = _
    rw [hst, ih h1' h2']
    simp
  have hk := key x hT hg (l ++ [32] ++ [123])
  show dG (kP (kK (dR d)) (dG (l, true) [123]) x) [125] = _
  rw [iI _ _ (by decide), hk, iI _ _ (by decide)]
  have hs := aBo (gU (dA L d) L) (List.map (fun r => (eH L r.1, aP L d r.2.1, aP L d r.2.2)) x)
  show _ = (l ++ [32] ++ ([123, 32] ++ jU (gU (dA L d) L) (List.map (fun r => (eH L r.1, aP L d r.2.1, aP L d r.2.2)) x) ++ [125]), true)
  rw [List.append_assoc (l ++ [32] ++ [123]), hs]
  simp
end
theorem aQw (l : List UInt8) (d : Dc) (hw : d.word ≠ [102, 114, 101, 113]) (hn : d.name.1 ≠ [59]) : oZ (l, false) d = (l ++ aE6 (nO d), false) := by
 unfold oZ
 rw [if_pos hw, zF, iI _ _ hn, vJ]
 show nlS (dG (dG _ (gJ d.num.1)) [59]) = _
 rw [iI _ _ (yN _), xW]
 unfold nlS aE6 nO
 simp
theorem aQx (l : List UInt8) (d : Dc) (hw : d.word = [102, 114, 101, 113]) : oZ (l, false) d = (l ++ ([102, 114, 101, 113, 32] ++ gJ d.num.1 ++ [59, 10]), false) := by
 unfold oZ
 rw [if_neg (by simp [hw]), zF, vJ]
 show nlS (dG (dG _ (gJ d.num.1)) [59]) = _
 rw [iI _ _ (yN _), xW, hw]
 unfold nlS
 simp
theorem aG3 : ∀ (ds : List Dc) (l : List UInt8), (∀ d ∈ ds, d.word ≠ [102, 114, 101, 113] -> d.name.1 ≠ [59]) -> dX (l, false) ds false = (l ++ iE (aV ds), false)
 | [], l, _ => by
  show (l, false) = _
  simp [iE, aV]
 | d :: ds, l, h => by
  have ih := fun l => aG3 ds l (fun e he => h e (List.mem_cons_of_mem _ he))
  by_cases e : d.word = [102, 114, 101, 113]
  ·have h1 : (d.word == [102, 114, 101, 113]) = true := by simp [e]
   show dX (if (d.word == [102, 114, 101, 113]) = false then oZ (l, false) d else (l, false)) ds false = _
   rw [if_neg (by simp [h1]), ih]
   have : aV (d :: ds) = aV ds := by unfold aV; rw [List.filter_cons_of_neg (by simp [h1])]
   rw [this]
  ·have h1 : (d.word == [102, 114, 101, 113]) = false := by simpa using e
   show dX (if (d.word == [102, 114, 101, 113]) = false then oZ (l, false) d else (l, false)) ds false = _
   rw [if_pos h1, aQw l d e (h d (by simp) e), ih]
   have : aV (d :: ds) = nO d :: aV ds := by unfold aV; rw [List.filter_cons_of_pos (by simp [h1])]; rfl
   rw [this]
   simp [iE]
def nU (ds : List Dc) : List UInt8 := ds.flatMap fun d => if d.word = [102, 114, 101, 113] then [102, 114, 101, 113, 32] ++ gJ d.num.1 ++ [59, 10] else []
theorem aG4 : ∀ (ds : List Dc) (l : List UInt8), dX (l, false) ds true = (l ++ nU ds, false)
 | [], l => by
  show (l, false) = _
  simp [nU]
 | d :: ds, l => by
  have ih := fun l => aG4 ds l
  by_cases e : d.word = [102, 114, 101, 113]
  ·have h1 : (d.word == [102, 114, 101, 113]) = true := by simp [e]
   show dX (if (d.word == [102, 114, 101, 113]) = true then oZ (l, false) d else (l, false)) ds true = _
   rw [if_pos h1, aQx l d e, ih]
   have : nU (d :: ds) = ([102, 114, 101, 113, 32] ++ gJ d.num.1 ++ [59, 10]) ++ nU ds := by unfold nU; rw [List.flatMap_cons, if_pos e]
   rw [this]
   simp
  ·have h1 : (d.word == [102, 114, 101, 113]) = false := by simpa using e
   show dX (if (d.word == [102, 114, 101, 113]) = true then oZ (l, false) d else (l, false)) ds true = _
   rw [if_neg (by simp [h1]), ih]
   have : nU (d :: ds) = nU ds := by unfold nU; rw [List.flatMap_cons, if_neg e]; rfl
   rw [this]
section
variable {L : List DL}
def kL (L : List DL) (rs : List (Nat × NP × BT 8)) (ev : List UInt8) : List UInt8 := rs.flatMap fun r => if r.2.1.1 = ev then [111, 110, 32] ++ ev ++ [32] ++ dA L 8 (aP L 8 r.2.2) ++ [10] else []
theorem l9 (hnm : ∀ d ∈ L, d.2.1 ≠ [59] /\ d.2.1 ≠ []) (ev : List UInt8) (hev : ev ≠ [59]) : ∀ (rs : List (Nat × NP × BT 8)) (l : List UInt8), (∀ r ∈ rs, TR L 8 0 r.2.2 (aP L 8 r.2.2) /\ wgB 8 r.2.2) -> fQ (l, false) rs ev = (l ++ kL L rs ev, false)
 | [], l, _ => by
  show (l, false) = _
  simp [kL]
 | r :: rs, l, h => by
  have ih := fun l => l9 hnm ev hev rs l (fun e he => h e (List.mem_cons_of_mem _ he))
  obtain ⟨h1, h2⟩ := h r (by simp)
  show fQ (zQ (l, false) ev r) rs ev = _
  unfold zQ
  by_cases e : r.2.1.1 = ev
  ·rw [if_pos e]
   show fQ (nlS (dR 8 (dG (dG (l, false) [111, 110]) ev) r.2.2)) rs ev = _
   rw [zF, iI _ _ hev, aA3 hnm 8 0 r.2.2 h1 h2]
   show fQ (_ ++ [10], false) rs ev = _
   rw [ih]
   have : kL L (r :: rs) ev = ([111, 110, 32] ++ ev ++ [32] ++ dA L 8 (aP L 8 r.2.2) ++ [10]) ++ kL L rs ev := by unfold kL; rw [List.flatMap_cons, if_pos e]
   rw [this]
   simp
  ·rw [if_neg e, ih]
   have : kL L (r :: rs) ev = kL L rs ev := by unfold kL; rw [List.flatMap_cons, if_neg e]; rfl
   rw [this]
theorem aPs (hnm : ∀ d ∈ L, d.2.1 ≠ [59] /\ d.2.1 ≠ []) (x : List Dc × List (Nat × NP × BT 8)) (hd : ∀ d ∈ x.1, d.name.1 ≠ [59]) (hr : ∀ r ∈ x.2, TR L 8 0 r.2.2 (aP L 8 r.2.2) /\ wgB 8 r.2.2) : Y9 x = (iE (aV x.1) ++ nU x.1 ++ x.1.flatMap (fun d => kL L x.2 d.name.1) ++ kL L x.2 [109, 105, 115, 115], false) := by
 unfold Y9
 rw [aG3 x.1 [] (fun d h _ => hd d h), aG4]
 have key : ∀ (ds : List Dc) (l : List UInt8), (∀ d ∈ ds, d.name.1 ≠ [59]) -> kP (fun s (d : Dc) => fQ s x.2 d.name.1) (l, false) ds = (l ++ ds.flatMap (fun d => kL L x.2 d.name.1), false) := by
  intro ds
  induction ds with
  | nil => intro l _; show (l, false) = _; simp
  | cons d ds ih =>
   intro l h
   show kP (fun s (d : Dc) => fQ s x.2 d.name.1) (fQ (l, false) x.2 d.name.1) ds = _
   rw [l9 hnm _ (h d (by simp)) x.2 l hr, ih _ (fun e he => h e (List.mem_cons_of_mem _ he))]
   simp
 rw [key x.1 _ hd, l9 hnm _ (by decide) x.2 _ hr]
 simp
end
theorem vW (s : Ck) (v p m : Nat) : (s.bound v p m).aO = s.aO /\ ((s.bound v p m).first = none -> 1 <= v /\ s.first = none) := by
 unfold Ck.bound
 split
 ·exact ⟨(eU s _ _).2.1, fun h => absurd h (eU s _ _).2.2⟩
 ·exact ⟨rfl, fun h => ⟨by omega, h⟩⟩
theorem J5 (s : Ck) (n : NP) (k : Nat) : (s.declare n k).aO = s.aO := by
 unfold Ck.declare
 split
 ·exact (eU s _ _).2.1
 ·split
  ·exact (eU s _ _).2.1
  ·rfl
theorem aG1 (s : Ck) (d : Dc) (h : (s.decl d).first = none) : (d.word = [102, 114, 101, 113] -> s.aO = 0 /\ 1 <= d.num.1 /\ (s.decl d).aO = 1) /\ (d.word ≠ [102, 114, 101, 113] -> (s.decl d).aO = s.aO) := by
 unfold Ck.decl at h ⊢
 split
 ·rename_i e
  refine ⟨fun e2 => ?_, fun _ => ?_⟩
  ·rcases e with e | e <;> rw [e] at e2 <;> exact absurd e2 (by decide)
  ·rw [(vW _ _ _ _).1, J5]
 ·rename_i n1
  rw [if_neg n1] at h
  split
  ·rename_i e
   refine ⟨fun e2 => ?_, fun _ => ?_⟩
   ·rw [e] at e2; exact absurd e2 (by decide)
   ·rw [(vW _ _ _ _).1, J5]
  ·rename_i n2
   rw [if_neg n2] at h
   split
   ·rename_i e
    rw [if_pos e] at h
    refine ⟨fun _ => ?_, fun e2 => absurd e e2⟩
    have hb := (vW _ _ _ _).2 h
    simp only at hb ⊢
    rw [(vW _ _ _ _).1]
    by_cases hc : s.aO + 1 > 1
    ·rw [if_pos hc] at hb
     exact absurd hb.2 (eU _ _ _).2.2
    ·rw [if_neg hc]
     exact ⟨by omega, hb.1, by show s.aO + 1 = 1; omega⟩
   ·rename_i e
    exact ⟨fun e2 => absurd e2 e, fun _ => rfl⟩
theorem X0 : ∀ (ds : List Dc) (s : Ck), (ds.foldl Ck.decl s).first = none -> 1 <= s.aO -> nU ds = [] /\ ∀ m, ds.foldl frq m = m
 | [], _, _, _ => ⟨rfl, fun _ => rfl⟩
 | d :: ds, s, h, h1 => by
  rw [List.foldl_cons] at h
  obtain ⟨k1, k2⟩ := aG1 s d (lC ds (s.decl d) h).1
  have e : d.word ≠ [102, 114, 101, 113] := fun e => by have := (k1 e).1; omega
  obtain ⟨i1, i2⟩ := X0 ds (s.decl d) h (by rw [k2 e]; exact h1)
  refine ⟨?_, fun m => ?_⟩
  ·unfold nU at i1 ⊢
   rw [List.flatMap_cons, if_neg e, i1]
   rfl
  ·rw [List.foldl_cons, i2]
   exact if_neg e
theorem aCp : ∀ (ds : List Dc) (s : Ck), (ds.foldl Ck.decl s).first = none -> s.aO = 0 -> nU ds = wO (ds.foldl frq 0)
 | [], _, _, _ => rfl
 | d :: ds, s, h, h1 => by
  rw [List.foldl_cons] at h
  obtain ⟨k1, k2⟩ := aG1 s d (lC ds (s.decl d) h).1
  by_cases e : d.word = [102, 114, 101, 113]
  ·obtain ⟨_, g2, g3⟩ := k1 e
   obtain ⟨i1, i2⟩ := X0 ds (s.decl d) h (by omega)
   have hf : frq 0 d = d.num.1 := if_pos e
   rw [List.foldl_cons, i2, hf]
   unfold nU at i1 ⊢
   rw [List.flatMap_cons, if_pos e, i1]
   unfold wO
   rw [if_pos (by omega)]
   simp
  ·have ih := aCp ds (s.decl d) h (by rw [k2 e]; exact h1)
   have hf : frq 0 d = 0 := if_neg e
   rw [List.foldl_cons, hf]
   unfold nU at ih ⊢
   rw [List.flatMap_cons, if_neg e, ih]
   rfl
section
variable {L : List DL}
theorem tZ : ∀ (rs : List (Nat × NP × BT 8)) (ev : List UInt8), (∀ r ∈ rs, r.2.1.1 ≠ ev) -> kL L rs ev = []
 | [], _, _ => rfl
 | r :: rs, ev, h => by
  have ih := tZ rs ev (fun e he => h e (List.mem_cons_of_mem _ he))
  unfold kL at ih ⊢
  rw [List.flatMap_cons, if_neg (h r (by simp)), ih]
  rfl
theorem wG : ∀ (rs : List (Nat × NP × BT 8)) (ev : List UInt8), (rs.map fun r => r.2.1.1).Nodup -> kL L rs ev = match dO rs ev with
  | none => []
  | some b => [111, 110, 32] ++ ev ++ [32] ++ dA L 8 (aP L 8 b) ++ [10]
 | [], _, _ => rfl
 | r :: rs, ev, h => by
  rw [List.map_cons, List.nodup_cons] at h
  rw [iU]
  by_cases e : r.2.1.1 = ev
  ·have hn := tZ (L := L) rs ev (fun q hq e2 => h.1 (List.mem_map.2 ⟨q, hq, e2.trans e.symm⟩))
   rw [if_pos e]
   unfold kL at hn ⊢
   rw [List.flatMap_cons, if_pos e, hn]
   simp
  ·rw [if_neg e, <- wG rs ev h.2]
   unfold kL
   rw [List.flatMap_cons, if_neg e]
   rfl
end
theorem aCv {l : List UInt8} : ∀ (f : Nat) (t : Tok) (ds : List Dc) (t' : Tok), dD l f t = .ok (ds, t') -> ∀ d ∈ ds, d.word = [102, 114, 101, 113] -> d.name.1 = []
 | 0, _, _, _, h => by cases h
 | f + 1, t, ds, t', h => by
  unfold dD at h
  split at h
  ·obtain ⟨d, t1, h1, h⟩ := aB h
   obtain ⟨ds1, t2, h2, h⟩ := aB h
   cases h
   have ih := aCv f t1 ds1 _ h2
   intro x hx hw
   rcases List.mem_cons.1 hx with rfl | hx
   ·unfold eX at h1
    split at h1
    ·obtain ⟨n, t3, _, h1⟩ := aB h1
     obtain ⟨_, t4, _, h1⟩ := aB h1
     cases h1
     rfl
    ·rename_i e2
     obtain ⟨m, t3, h3, h1⟩ := aB h1
     obtain ⟨n, t4, _, h1⟩ := aB h1
     obtain ⟨_, t5, _, h1⟩ := aB h1
     cases h1
     exact absurd hw e2
   ·exact ih x hx hw
  ·cases h
   exact fun _ hx => (by cases hx)
theorem aMo (l : List UInt8) (i : Nat) (h : (aN l i).kind = 2) : (aN l i).txt ≠ [59] /\ (aN l i).txt ≠ [] := by
 have h1 := ((aBf l i).1 h).2
 refine ⟨fun e => ?_, fun e => ?_⟩
 ·rw [e] at h1
  exact absurd (h1 59 (by simp)) (by decide)
 ·unfold aN at h e
  split at h
  ·cases h
  ·rename_i c r hc
   rw [hc] at e
   simp only at e
   split at h
   ·rename_i hl
    rw [if_pos hl] at e
    unfold jW at h e
    split at h
    ·cases h
    ·split at h
     ·cases h
     ·rename_i n1 n2
      rw [if_neg n1, if_neg n2] at e
      simp [hl] at e
   ·split at h
    ·unfold qG at h
     split at h <;> cases h
    ·split at h <;> cases h
theorem aCu {l : List UInt8} : ∀ (f : Nat) (t : Tok) (ds : List Dc) (t' : Tok), dD l f t = .ok (ds, t') -> ∀ d ∈ ds, d.word ≠ [102, 114, 101, 113] -> d.name.1 ≠ [59] /\ d.name.1 ≠ []
 | 0, _, _, _, h => by cases h
 | f + 1, t, ds, t', h => by
  unfold dD at h
  split at h
  ·obtain ⟨d, t1, h1, h⟩ := aB h
   obtain ⟨ds1, t2, h2, h⟩ := aB h
   cases h
   have ih := aCu f t1 ds1 _ h2
   intro x hx hw
   rcases List.mem_cons.1 hx with rfl | hx
   ·unfold eX at h1
    split at h1
    ·rename_i e2
     obtain ⟨n, t3, _, h1⟩ := aB h1
     obtain ⟨_, t4, _, h1⟩ := aB h1
     cases h1
     exact absurd e2 hw
    ·obtain ⟨m, t3, h3, h1⟩ := aB h1
     obtain ⟨n, t4, _, h1⟩ := aB h1
     obtain ⟨_, t5, _, h1⟩ := aB h1
     cases h1
     unfold dK at h3
     split at h3
     ·rename_i hk
      cases h3
      exact aMo l _ hk
     ·cases h3
   ·exact ih x hx hw
  ·cases h
   exact fun _ hx => (by cases hx)
theorem zV {l : List UInt8} {x : List Dc × List (Nat × NP × BT 8)} (hx : dM l = .ok x) : (∀ d ∈ x.1, d.word = [102, 114, 101, 113] -> d.name.1 = []) /\ (∀ d ∈ x.1, d.word ≠ [102, 114, 101, 113] -> d.name.1 ≠ [59] /\ d.name.1 ≠ []) /\ ∀ r ∈ x.2, wgB 8 r.2.2 := by
 unfold dM at hx
 split at hx
 ·cases hx
 split at hx
 ·cases hx
 rename_i y t2 hp
 split at hx
 ·cases hx
 cases hx
 unfold dH at hp
 obtain ⟨ds, t1, v1, hp⟩ := aB hp
 obtain ⟨rs, t3, v2, hp⟩ := aB hp
 have hxy : x = (ds, rs) := by
  unfold qF at hp
  split at hp
  ·cases hp; rfl
  ·cases hp
 subst hxy
 exact ⟨aCv _ _ _ _ v1, aCu _ _ _ _ v1, aBq _ _ _ _ v2⟩
theorem aLg {ds : List Dc} (h : ∀ d ∈ ds, d.word ≠ [102, 114, 101, 113] -> d.name.1 ≠ [59] /\ d.name.1 ≠ []) : ∀ d ∈ aV ds, d.2.1 ≠ [59] /\ d.2.1 ≠ [] := by
 intro d hd
 unfold aV at hd
 rw [List.mem_map] at hd
 obtain ⟨e, he, rfl⟩ := hd
 rw [List.mem_filter] at he
 exact h e he.1 (by simpa using he.2)
theorem aEo {α : Type} (z : α) (f : α -> List UInt8) : ∀ (L : List α), L.flatMap f = (List.range L.length).flatMap fun k => f (L.getD k z) := by
 intro L
 induction L with
 | nil => rfl
 | cons a L ih =>
  rw [List.flatMap_cons, ih, List.length_cons, List.range_succ_eq_map, List.flatMap_cons, List.flatMap_map]
  rfl
theorem G6 (g : List UInt8 -> List UInt8) (hg : g [] = []) : ∀ (ds : List Dc), (∀ d ∈ ds, d.word = [102, 114, 101, 113] -> d.name.1 = []) -> ds.flatMap (fun d => g d.name.1) = (aV ds).flatMap fun d => g d.2.1
 | [], _ => rfl
 | d :: ds, h => by
  have ih := G6 g hg ds (fun e he => h e (List.mem_cons_of_mem _ he))
  rw [List.flatMap_cons, ih]
  by_cases e : d.word = [102, 114, 101, 113]
  ·have : aV (d :: ds) = aV ds := by unfold aV; rw [List.filter_cons_of_neg (by simp [e])]
   rw [this, h d (by simp) e, hg]
   rfl
  ·have : aV (d :: ds) = nO d :: aV ds := by unfold aV; rw [List.filter_cons_of_pos (by simp [e])]; rfl
   rw [this, List.flatMap_cons]
   rfl
theorem X4 {f g : Nat -> List UInt8} : ∀ (n : Nat), (∀ k, k < n -> f k = g k) -> (List.range n).flatMap f = (List.range n).flatMap g
 | 0, _ => rfl
 | n + 1, h => by rw [List.range_succ, List.flatMap_append, List.flatMap_append, X4 n (fun k hk => h k (by omega))]; simp [h n (by omega)]
theorem aJe {l : List UInt8} {x : List Dc × List (Nat × NP × BT 8)} (hx : dM l = .ok x) {p : Pm} (hr : aDf (bM x).L p (bM x)) : (Y9 x).1 = wC (bM x).L (bM x).mf p := by
 obtain ⟨p1, p2, p3⟩ := zV hx
 have hF := kC hx
 have hwf := yB hx
 have D := hF.dx
 obtain ⟨r1, r2, _⟩ := nD (L := aV x.1) x.2 (x.1.foldl Ck.decl qR) D.nmr hwf (jA hF.ck).1
 have hP := zW hx
 have hmf : (bM x).mf = x.1.foldl frq 0 := by
  have e := mQ x.2 (x.1.foldl Cc.jH qL)
  have : (kU x).mf = (x.1.foldl Cc.jH qL).mf := by have := congrArg Cc.mf e; exact this
  show (kU x).mf = _
  rw [this, aE5]
  rfl
 have hnm := aLg p2
 have hL : (bM x).L = aV x.1 := rfl
 have aT0 : ∀ d ∈ x.1, d.name.1 ≠ [59] := fun d hd => by
  by_cases e : d.word = [102, 114, 101, 113]
  ·rw [p1 d hd e]; simp
  ·exact (p2 d hd e).1
 rw [aPs (L := aV x.1) hnm x aT0 (fun r h => ⟨(r1 r h).2.2.1, p3 r h⟩)]
 have hev : ∀ r ∈ x.2, r.2.1.1 ≠ [] := fun r h e => by
  rcases (r1 r h).2.1 with e2 | e2
  ·rw [e] at e2; exact absurd e2 (by decide)
  ·obtain ⟨k, d, h1, h2⟩ := D.nm2 _ _ e2
   exact (hnm d (List.mem_of_getElem? h1)).2 (h2.trans e)
 have hfr := aCp x.1 qR (jA hF.ck).2 rfl
 have hrl : x.1.flatMap (fun d => kL (aV x.1) x.2 d.name.1) = lN (aV x.1) p (aV x.1).length := by
  rw [G6 (fun n => kL (aV x.1) x.2 n) (tZ x.2 [] hev) x.1 p1, aEo ([], [], 0)]
  unfold lN
  refine X4 _ (fun k hk => ?_)
  have hd : (aV x.1)[k]? = some (aV x.1)[k] := List.getElem?_eq_getElem hk
  have hq := hr.q k _ hd
  have hg : (aV x.1).getD k ([], [], 0) = (aV x.1)[k] := by rw [List.getD_eq_getElem?_getD, hd]; rfl
  have hnk : jJ (aV x.1) k = (aV x.1)[k].2.1 := by unfold jJ; rw [hg]
  rw [hg, wG x.2 _ r2]
  have hru : (bM x).dS (aV x.1)[k].2.1 = (dO x.2 (aV x.1)[k].2.1).map (aP (aV x.1) 8) := rfl
  have ho := aD7 hP _ _ hq.2
  have hbl := wR 8 _ _ hq.2 ho.1
  unfold Pol.tree at hbl
  rw [hru] at hq hbl
  cases hro : dO x.2 (aV x.1)[k].2.1 with
  | none =>
   rw [hro] at hq
   rw [aF2 (by simpa using hq.1)]
  | some b =>
   rw [hro] at hq hbl
   rw [zT (by simpa using hq.1), hnk]
   have hbl : dA (aV x.1) 8 (p.dS.getD k (aI 8)) = dA (aV x.1) 8 (aP (aV x.1) 8 b) := hbl
   rw [hbl]
 have hms : kL (aV x.1) x.2 [109, 105, 115, 115] = [111, 110, 32, 109, 105, 115, 115, 32] ++ dA (aV x.1) 8 p.tK ++ [10] := by
  rw [wG x.2 _ r2]
  obtain ⟨y, hy⟩ := hP.miss
  have hy : (dO x.2 [109, 105, 115, 115]).map (aP (aV x.1) 8) = some y := hy
  have ho := aD7 hP _ _ hr.m.2
  have hbl := wR 8 _ _ hr.m.2 ho.1
  unfold Pol.tree at hbl
  rw [show (bM x).dS [109, 105, 115, 115] = (dO x.2 [109, 105, 115, 115]).map (aP (aV x.1) 8) from rfl] at hbl
  cases hro : dO x.2 [109, 105, 115, 115] with
  | none => rw [hro] at hy; cases hy
  | some b =>
   rw [hro] at hbl
   have hbl : dA (aV x.1) 8 p.tK = dA (aV x.1) 8 (aP (aV x.1) 8 b) := hbl
   rw [hbl]
   simp
 unfold wC
 rw [hL, hmf, hfr, hrl, hms]
 simp
def Ty (l : List UInt8) (t : Tok) : Prop := ∃ i, t = aN l i
theorem Ty.nx (l : List UInt8) (t : Tok) : Ty l (nx l t) := ⟨_, rfl⟩
theorem aPu {l : List UInt8} {t : Tok} (h : Ty l t) (hk : t.kind = 3) : t.txt.length <= 3 := by
 obtain ⟨i, rfl⟩ := h
 unfold aN at hk ⊢
 split at hk
 ·cases hk
 ·rename_i c r hc
  split at hk
  ·unfold jW at hk
   split at hk
   ·cases hk
   ·split at hk <;> cases hk
  ·rename_i n1
   split at hk
   ·rename_i h1
    rw [if_neg n1, if_pos h1]
    unfold qG at hk ⊢
    split at hk
    ·cases hk
    ·rename_i h3
     rw [if_neg h3]
     show _ <= 3
     simp only
     omega
   ·split at hk <;> cases hk
theorem aGe : ∀ (t : List UInt8) (n : Nat), fV t n + 23 <= (n + 23) * 10 ^ t.length
 | [], n => by simp [fV]
 | c :: t, n => by
  have hc : c.toNat < 256 := c.toNat_lt
  have ih := aGe t (n * 10 + (c.toNat - 48))
  show fV t (n * 10 + (c.toNat - 48)) + 23 <= _
  rw [List.length_cons, Nat.pow_succ]
  refine Nat.le_trans ih ?_
  rw [Nat.mul_comm (10 ^ t.length) 10, <- Nat.mul_assoc]
  exact Nat.mul_le_mul_right _ (by omega)
theorem aRp {l : List UInt8} {t : Tok} (h : Ty l t) (hk : t.kind = 3) : fV t.txt 0 <= 30000 := by
 have h1 := aPu h hk
 have h2 := aGe t.txt 0
 have h3 : 10 ^ t.txt.length <= 10 ^ 3 := Nat.pow_le_pow_right (by omega) h1
 have h4 : (0 + 23) * 10 ^ t.txt.length <= (0 + 23) * 10 ^ 3 := Nat.mul_le_mul_left _ h3
 omega
def snV (v : Vl) : Prop := v.kind <= 3 /\ v.num.1 <= 30000
def snC (c : Cd) : Prop := snV c.left /\ snV c.right
theorem aA9 {l : List UInt8} {t t' : Tok} {v : Vl} (ht : Ty l t) (h : bW l t = .ok (v, t')) : snV v /\ Ty l t' := by
 unfold bW at h
 unfold snV
 split at h
 ·split at h
  ·cases h; exact ⟨by simp, Ty.nx _ _⟩
  ·cases h
 ·split at h
  ·cases h; exact ⟨by simp, Ty.nx _ _⟩
  ·split at h
   ·cases h; exact ⟨by simp, Ty.nx _ _⟩
   ·split at h
    ·rename_i hk
     cases h
     exact ⟨⟨by simp, aRp ht hk⟩, Ty.nx _ _⟩
    ·cases h
theorem aGg {l : List UInt8} : ∀ (f : Nat) (n : Bool) (t : Tok), Ty l t -> Ty l (iW l f n t).2
 | 0, _, _, h => h
 | f + 1, n, t, h => by
  unfold iW
  split
  ·exact aGg f _ _ (Ty.nx _ _)
  ·exact h
theorem aG5 {l : List UInt8} {t t' : Tok} {x : Cd} (ht : Ty l t) (h : gZ l t = .ok (x, t')) : snC x := by
 unfold gZ iL at h
 have ht2 := aGg (l.length + 1) false t ht
 split at h
 ·split at h
  ·cases h; exact ⟨⟨by simp, by simp⟩, by simp, by simp⟩
  ·cases h
 ·split at h
  ·cases h
  ·rename_i a t1 ha
   split at h
   ·split at h
    ·cases h
    ·rename_i c t2 hc
     cases h
     exact ⟨(aA9 ht2 ha).1, (aA9 (Ty.nx _ _) hc).1⟩
   ·cases h
def snS {β : Type} (P : β -> Prop) (r : St × β × β) : Prop := snC r.1.cond /\ r.1.times.1 <= 30000 /\ P r.2.1 /\ P r.2.2
def snB : (d : Nat) -> BT d -> Prop
 | 0, _ => True
 | d + 1, xs => L9 (snS (snB d)) xs
theorem xY : ∀ d, snB d (aZ d)
 | 0 => trivial
 | _ + 1 => trivial
theorem aB2 {l : List UInt8} {t t' : Tok} {x : St} (h : bI l t = .ok (x, t')) : snC x.cond /\ x.times.1 <= 30000 := by
 have h0 : ∀ s : List UInt8, snC (fC s).cond /\ (fC s).times.1 <= 30000 := fun s => ⟨⟨⟨by simp, by simp⟩, by simp, by simp⟩, by simp⟩
 unfold bI at h
 split at h
 ·obtain ⟨n, t1, _, h⟩ := aB h
  rw [jP h]
  exact h0 []
 ·split at h
  ·obtain ⟨n, t1, _, h⟩ := aB h
   obtain ⟨m, t2, _, h⟩ := aB h
   rw [jP h]
   exact h0 []
  ·split at h
   ·obtain ⟨n, t1, _, h⟩ := aB h
    rw [jP h]
    exact h0 []
   ·split at h
    ·rw [jP h]
     exact h0 []
    ·cases h
theorem aP8 {l : List UInt8} {t t' : Tok} {n : Nat × Nat} (ht : Ty l t) (h : iV l t = .ok (n, t')) : n.1 <= 30000 := by
 unfold iV at h
 split at h
 ·rename_i hk
  cases h
  exact aRp ht hk
 ·cases h
theorem aNh {s l : List UInt8} {t t' : Tok} {u : Unit} (h : dJ s l t = .ok (u, t')) : Ty l t' := by
 unfold dJ at h
 split at h
 ·cases h
  exact Ty.nx _ _
 ·cases h
theorem aMt {d : Nat} {l : List UInt8} {lo : Nat} (hb : ∀ lo t x t', aJ l d lo t = .ok (x, t') -> snB d x) {t t' : Tok} {x : St × BT d × BT d} (h : dB (aJ l d) (aZ d) l lo t = .ok (x, t')) : snS (snB d) x := by
 unfold dB at h
 split at h
 ·unfold ifS at h
  obtain ⟨c, t1, h1, h⟩ := aB h
  obtain ⟨x1, t2, h2, h⟩ := aB h
  have hc := aG5 (Ty.nx _ _) h1
  split at h
  ·obtain ⟨y, t3, h3, h⟩ := aB h
   cases h
   exact ⟨hc, by simp, hb _ _ _ _ h2, hb _ _ _ _ h3⟩
  ·cases h
   exact ⟨hc, by simp, hb _ _ _ _ h2, xY d⟩
 ·split at h
  ·unfold pV at h
   split at h
   ·cases h
   ·obtain ⟨n, t1, h1, h⟩ := aB h
    obtain ⟨_, t2, h2, h⟩ := aB h
    obtain ⟨c, t3, h3, h⟩ := aB h
    obtain ⟨y, t4, h4, h⟩ := aB h
    have e1 := aP8 (Ty.nx _ _) h1
    have e2 := aG5 (aNh h2) h3
    have e3 := hb _ _ _ _ h4
    cases h
    exact ⟨e2, e1, e3, xY d⟩
  ·obtain ⟨s, t1, h1, h⟩ := aB h
   cases h
   exact ⟨(aB2 h1).1, (aB2 h1).2, xY d, xY d⟩
theorem aDb {l : List UInt8} : ∀ (d lo : Nat) (t : Tok) (x : BT d) (t' : Tok), aJ l d lo t = .ok (x, t') -> snB d x
 | 0, _, _, _, _, _ => trivial
 | d + 1, lo, t, x, t', h => by
  by_cases hc : t.txt = [123]
  ·have e := (jC l d lo t hc).symm.trans h
   exact zH (fun t x t' h => aMt (fun lo t x t' => aDb d lo t x t') h) _ _ _ _ e
  ·have e := (lF l d lo t hc).symm.trans h
   cases e
theorem aBs {l : List UInt8} : ∀ (n : Nat) (t t' : Tok) (rs : List (Nat × NP × BT 8)), bY l n t = .ok (rs, t') -> ∀ r ∈ rs, snB 8 r.2.2
 | 0, _, _, _, h => by cases h
 | n + 1, t, t', ds, h => by
  unfold bY at h
  split at h
  ·obtain ⟨d, t1, h1, h⟩ := aB h
   obtain ⟨es, t2, h2, h⟩ := aB h
   have ih := aBs n t1 t2 es h2
   cases h
   intro x hx
   rcases List.mem_cons.1 hx with rfl | hx
   ·unfold gV at h1
    obtain ⟨n, t3, _, h1⟩ := aB h1
    obtain ⟨y, t4, h4, h1⟩ := aB h1
    have := aDb 8 0 t3 y t4 h4
    cases h1
    exact this
   ·exact ih x hx
  ·cases h
   exact fun _ hx => (by cases hx)
theorem aAa : ∀ (d : Nat) (x : BT d), snB d x -> pX d x
 | 0, _, _ => trivial
 | d + 1, x, h => by
  have key : ∀ (xs : List (St × BT d × BT d)), L9 (snS (snB d)) xs -> L9 (aNf (pX d)) xs := by
   intro xs
   induction xs with
   | nil => intro _; trivial
   | cons r xs ih =>
    intro h
    obtain ⟨⟨h1, h2, h3, h4⟩, h5⟩ := h
    exact ⟨⟨fun _ _ => ⟨⟨h1.1.1, by have := h1.1.2; omega⟩, h1.2.1, by have := h1.2.2; omega⟩, by omega, aAa d _ h3, aAa d _ h4⟩, ih h5⟩
  exact key x h
theorem aJ3 {L : List DL} {v : Vl} {o : List UInt8 × Nat} (h : VR L v o) (hs : snV v) : nuV o := by
 intro e
 rcases h with ⟨_, _, h3⟩ | ⟨_, h2, _⟩ | ⟨_, h2, _⟩ | ⟨_, h2⟩
 ·have := hs.2; omega
 all_goals (rw [e] at h2; exact absurd h2 (by decide))
theorem aJ4 {L : List DL} {x : Cd} {c c' : Rc} (h : CR L x c') (hE : rcE c c') (hs : snC x) : nuC c := by
 intro e
 obtain ⟨h1, _, h3, _⟩ := hE
 obtain ⟨_, _, h⟩ := h
 have e3 := h3 (by rw [e]; decide)
 rcases h with ⟨h, _⟩ | ⟨_, h4, h5⟩
 ·rw [<- h1, e] at h
  exact absurd h (by decide)
 ·exact ⟨by rw [e3.1]; exact aJ3 h4 hs.1, by rw [e3.2]; exact aJ3 h5 hs.2⟩
theorem yE {L : List DL} : ∀ (d : Nat) (r : RT d), qU d r (aP L d (aZ d)) -> nuT d r
 | 0, _, _ => trivial
 | d + 1, r, h => by
  have : ∀ rs : List (Rt × RT d × RT d), aHx (fun (a b : Rt × RT d × RT d) => rtE a.1 b.1 /\ qU d a.2.1 b.2.1 /\ qU d a.2.2 b.2.2) rs [] -> L9 (nuS (nuT d)) rs := fun rs h => by
   cases rs with
   | nil => trivial
   | cons _ _ => cases h
  exact this r h
theorem aAd {L : List DL} : ∀ (d lp : Nat) (x : BT d) (r : RT d), TR L d lp x (aP L d x) -> snB d x -> wgB d x -> qU d r (aP L d x) -> nuT d r
 | 0, _, _, _, _, _, _, _ => trivial
 | d + 1, lp, x, r, hT, hs, hg, hE => by
  have key : ∀ (xs : List (St × BT d × BT d)) (rs : List (Rt × RT d × RT d)), TRL (TRs L (TR L d) lp) xs (xs.map fun r => (eH L r.1, aP L d r.2.1, aP L d r.2.2)) -> L9 (snS (snB d)) xs -> L9 (wgS (wgB d) (aZ d)) xs -> aHx (fun (a b : Rt × RT d × RT d) => rtE a.1 b.1 /\ qU d a.2.1 b.2.1 /\ qU d a.2.2 b.2.2) rs (xs.map fun r => (eH L r.1, aP L d r.2.1, aP L d r.2.2)) -> L9 (nuS (nuT d)) rs := by
   intro xs
   induction xs with
   | nil =>
    intro rs _ _ _ h
    cases rs with
    | nil => trivial
    | cons _ _ => cases h
   | cons x xs ih =>
    intro rs h1 h2 h3 h4
    cases rs with
    | nil => cases h4
    | cons r rs =>
     obtain ⟨h1, h1'⟩ := h1
     obtain ⟨⟨s1, s2, s3, s4⟩, h2'⟩ := h2
     obtain ⟨h3, h3'⟩ := h3
     obtain ⟨⟨e1, e2, e3⟩, h4'⟩ := h4
     refine ⟨?_, ih rs h1' h2' h3' h4'⟩
     have hc : (r.1.op = [105, 102] \/ r.1.op = [114, 101, 112, 101, 97, 116]) -> nuC r.1.bU := fun ho => by
      have hr := e1.2.2.2.2.2 ho
      have eo := e1.1
      rcases h1 with ⟨_, _, a3, _⟩ | ⟨_, _, a3, _⟩ | a1
      ·exact aJ4 a3 hr s1
      ·exact aJ4 a3 hr s1
      ·exfalso
       rw [eo] at ho
       rcases a1.2 with ⟨e, _⟩ | ⟨e, _⟩ | ⟨e | e, _⟩ | ⟨e | e, _⟩ | e | e <;> (simp only at ho; rw [e] at ho; exact absurd ho (by decide))
     refine ⟨hc, ?_, ?_⟩
     ·rcases h3 with ⟨w, g1, g2, _⟩ | ⟨w, _, g1, _⟩ | ⟨_, _, g1, _⟩
      ·rcases h1 with ⟨_, _, _, _, a5, _⟩ | ⟨a1, _⟩ | a1
       ·exact aAd d lp _ _ a5 s3 g1 e2
       ·rw [w] at a1; exact absurd a1 (by decide)
       ·exfalso
        have := a1.1
        rw [w] at this
        rcases a1.2 with ⟨e, _⟩ | ⟨e, _⟩ | ⟨e | e, _⟩ | ⟨e | e, _⟩ | e | e <;> (rw [e] at this; exact absurd this (by decide))
      ·rcases h1 with ⟨a1, _⟩ | ⟨_, _, _, _, _, _, a7⟩ | a1
       ·rw [w] at a1; exact absurd a1 (by decide)
       ·exact aAd d (lp + 1) _ _ a7 s3 g1 e2
       ·exfalso
        have := a1.1
        rw [w] at this
        rcases a1.2 with ⟨e, _⟩ | ⟨e, _⟩ | ⟨e | e, _⟩ | ⟨e | e, _⟩ | e | e <;> (rw [e] at this; exact absurd this (by decide))
      ·simp only at e2
       rw [g1] at e2
       exact yE d _ e2
     ·rcases h3 with ⟨w, g1, g2, _⟩ | ⟨_, _, _, g1⟩ | ⟨_, _, _, g1⟩
      ·rcases h1 with ⟨_, _, _, _, _, a6⟩ | ⟨a1, _⟩ | a1
       ·exact aAd d lp _ _ a6 s4 g2 e3
       ·rw [w] at a1; exact absurd a1 (by decide)
       ·exfalso
        have := a1.1
        rw [w] at this
        rcases a1.2 with ⟨e, _⟩ | ⟨e, _⟩ | ⟨e | e, _⟩ | ⟨e | e, _⟩ | e | e <;> (rw [e] at this; exact absurd this (by decide))
      ·simp only at e3
       rw [g1] at e3
       exact yE d _ e3
      ·simp only at e3
       rw [g1] at e3
       exact yE d _ e3
  exact key x r hT hs hg hE
theorem rQ : ∀ (k n : Nat), n < 10 ^ (k + 1) -> (gJ n).length <= k + 1
 | 0, n, h => by
  unfold gJ
  rw [dif_pos (by omega)]
  simp
 | k + 1, n, h => by
  unfold gJ
  split
  ·simp
  ·have := rQ k (n / 10) (by rw [Nat.pow_succ] at h; omega)
   simp
   omega
section
variable {L : List DL}
theorem aJa (hnm : ∀ k, (jJ L k).length <= 700) {v : Vl} {o : List UInt8 × Nat} (h : VR L v o) (hs : snV v) : (mY L o).length <= 710 := by
 unfold mY
 split
 ·rename_i e
  have h1 : o.2 <= 30000 := by
   rcases h with ⟨_, _, h3⟩ | ⟨_, h2, _⟩ | ⟨_, h2, _⟩ | ⟨_, h2⟩
   ·have := hs.2; omega
   all_goals (rw [e] at h2; exact absurd h2 (by decide))
  have := rQ 4 o.2 (by omega)
  omega
 split
 ·simp
 split
 ·have := hnm o.2; simp; omega
 ·have := hnm o.2; omega
theorem aLn (hnm : ∀ k, (jJ L k).length <= 700) {x : Cd} {c : Rc} (h : CR L x c) (hs : snC x) : (kG L c).length <= 1450 := by
 have h0 := uV c.bH
 obtain ⟨_, _, h⟩ := h
 unfold kG
 rcases h with ⟨h3, _⟩ | ⟨h3, h4, h5⟩
 ·have h1 := hnm c.n
  have h2 : c.op.length <= 5 /\ c.op ≠ [60] := by rcases h3 with e | e | e <;> rw [e] <;> decide
  rw [if_neg h2.2]
  simp
  omega
 ·have h1 := aJa hnm h4 hs.1
  have h2 := aJa hnm h5 hs.2
  rw [if_pos h3]
  simp
  omega
theorem aA4 (hnm : ∀ k, (jJ L k).length <= 700) : ∀ (d lp : Nat) (x : BT d), TR L d lp x (aP L d x) -> snB d x -> (dA L d (aP L d x)).length <= 3 + 500 * bP d x
 | 0, _, _, _, _ => by show ([123, 32] ++ [125]).length <= _; simp
 | d + 1, lp, x, hT, hs => by
  have key : ∀ (xs : List (St × BT d × BT d)), TRL (TRs L (TR L d) lp) xs (xs.map fun r => (eH L r.1, aP L d r.2.1, aP L d r.2.2)) -> L9 (snS (snB d)) xs -> (jU (gU (dA L d) L) (xs.map fun r => (eH L r.1, aP L d r.2.1, aP L d r.2.2))).length <= 500 * iZ (bP d) xs := by
   intro xs
   induction xs with
   | nil => intro _ _; show ([] : List UInt8).length <= _; simp
   | cons r xs ih =>
    intro h1 h2
    obtain ⟨h1, h1'⟩ := h1
    obtain ⟨⟨s1, s2, s3, s4⟩, h2'⟩ := h2
    have ih := ih h1' h2'
    have hst : (gU (dA L d) L (eH L r.1, aP L d r.2.1, aP L d r.2.2)).length <= 1600 + 500 * bP d r.2.1 + 500 * bP d r.2.2 := by
     rcases h1 with ⟨a1, a2, a3, a4, a5, a6⟩ | ⟨a1, a2, a3, a4, a5, a6, a7⟩ | a1
     ·have t1 := aA4 hnm d lp r.2.1 a5 s3
      have t2 := aA4 hnm d lp r.2.2 a6 s4
      have t3 : (kG L (eH L r.1).bU).length <= 1450 := aLn hnm a3 s1
      rw [show gU (dA L d) L (eH L r.1, aP L d r.2.1, aP L d r.2.2) = _ from if_pos a2]
      simp only
      split
      ·simp; omega
      ·simp; omega
     ·have t1 := aA4 hnm d (lp + 1) r.2.1 a7 s3
      have t3 : (kG L (eH L r.1).bU).length <= 1450 := aLn hnm a3 s1
      have a5' : (eH L r.1).n <= 50 := a5
      have t4 := rQ 4 (eH L r.1).n (by omega)
      have hr1 : ¬ (eH L r.1).op = [105, 102] := by rw [a2]; decide
      rw [show gU (dA L d) L (eH L r.1, aP L d r.2.1, aP L d r.2.2) = _ from (if_neg hr1).trans (if_pos a2)]
      simp only
      simp
      omega
     ·have a1 : PR1 L r.1 (eH L r.1) := a1
      have hz : ((eH L r.1).op = [100, 114, 111, 112] \/ (eH L r.1).op = [98, 117, 109, 112]) \/ ((eH L r.1).op ≠ [105, 102] /\ (eH L r.1).op ≠ [114, 101, 112, 101, 97, 116] /\ ¬ ((eH L r.1).op = [100, 114, 111, 112] \/ (eH L r.1).op = [98, 117, 109, 112])) := by
       rcases a1.2 with ⟨e, _⟩ | ⟨e, _⟩ | ⟨e | e, _⟩ | ⟨e | e, _⟩ | e | e
       all_goals first
        | exact Or.inl (Or.inl e)
        | exact Or.inl (Or.inr e)
        | exact Or.inr (by rw [e]; decide)
      have hl : (eH L r.1).op.length <= 6 := by
       rcases a1.2 with ⟨e, _⟩ | ⟨e, _⟩ | ⟨e | e, _⟩ | ⟨e | e, _⟩ | e | e
       all_goals (rw [e]; decide)
      have n1 := hnm (eH L r.1).n
      have n2 := hnm (eH L r.1).m
      rcases hz with hz | hz
      ·rw [zI _ hz]; simp; omega
      ·rw [pM _ hz]
       split <;> split <;> simp <;> omega
    have e1 : jU (gU (dA L d) L) ((r :: xs).map fun r => (eH L r.1, aP L d r.2.1, aP L d r.2.2)) = (gU (dA L d) L (eH L r.1, aP L d r.2.1, aP L d r.2.2) ++ [32]) ++ jU (gU (dA L d) L) (xs.map fun r => (eH L r.1, aP L d r.2.1, aP L d r.2.2)) := rfl
    have e2 : iZ (bP d) (r :: xs) = 4 + bP d r.2.1 + bP d r.2.2 + iZ (bP d) xs := rfl
    rw [e1, e2]
    simp only [List.length_append, List.length_cons, List.length_nil]
    omega
  have hk := key x hT hs
  show (([123, 32] : List UInt8) ++ jU (gU (dA L d) L) (List.map (fun (r : St × BT d × BT d) => (eH L r.1, aP L d r.2.1, aP L d r.2.2)) x) ++ [125]).length <= 3 + 500 * iZ (bP d) x
  simp only [List.length_append, List.length_cons, List.length_nil]
  omega
end
theorem aF4 {l : List UInt8} {x : List Dc × List (Nat × NP × BT 8)} (hx : dM l = .ok x) : ∀ r ∈ x.2, snB 8 r.2.2 := by
 unfold dM at hx
 split at hx
 ·cases hx
 split at hx
 ·cases hx
 rename_i y t2 hp
 split at hx
 ·cases hx
 cases hx
 unfold dH at hp
 obtain ⟨ds, t1, v1, hp⟩ := aB hp
 obtain ⟨rs, t3, v2, hp⟩ := aB hp
 have hxy : x = (ds, rs) := by
  unfold qF at hp
  split at hp
  ·cases hp; rfl
  ·cases hp
 subst hxy
 exact aBs _ _ _ _ v2
theorem aP9 {x : List Dc × List (Nat × NP × BT 8)} (hF : Fine x) : ∀ d ∈ aV x.1, d.1.length <= 5 /\ d.2.1.length <= 700 /\ d.2.2 <= 99 := by
 intro d hd
 have k1 := hF.dx.kd d hd
 have k2 := hF.dx.mx d hd
 refine ⟨by rcases k1 with e | e | e <;> rw [e] <;> decide, ?_, k2.2.1⟩
 unfold aV at hd
 rw [List.mem_map] at hd
 obtain ⟨e, he, rfl⟩ := hd
 rw [List.mem_filter] at he
 exact hF.d7 e he.1
theorem aOx {L : List DL} {m : Nat} (h : ∀ d ∈ L, d.2.1.length <= m) (k : Nat) : (jJ L k).length <= m := by
 unfold jJ
 rw [List.getD_eq_getElem?_getD]
 cases hk : L[k]? with
 | none => simp
 | some d => exact h d (List.mem_of_getElem? hk)
theorem aJg {l : List UInt8} {x : List Dc × List (Nat × NP × BT 8)} (hx : dM l = .ok x) (ev : List UInt8) (r : RT 8) (hE : qU 8 r ((bM x).tree ev)) : (dA (bM x).L 8 r).length <= 400000003 /\ O3 (bM x).L 8 r /\ nuT 8 r := by
 have hF := kC hx
 have hP := zW hx
 have ho := aD7 hP ev r hE
 have hbl := wR 8 _ _ hE ho.1
 obtain ⟨r1, r2, _⟩ := nD (L := aV x.1) x.2 (x.1.foldl Ck.decl qR) hF.dx.nmr (yB hx) (jA hF.ck).1
 have hnm := aOx (fun d hd => (aP9 hF d hd).2.1)
 rw [hbl]
 unfold Pol.tree at hE ⊢
 have hru : (bM x).dS ev = (dO x.2 ev).map (aP (aV x.1) 8) := rfl
 rw [hru] at hE ⊢
 cases hro : dO x.2 ev with
 | none =>
  rw [hro] at hE
  refine ⟨?_, ho.1, yE (L := aV x.1) 8 r hE⟩
  show (([123, 32] : List UInt8) ++ [] ++ [125]).length <= _
  simp
 | some b =>
  rw [hro] at hE
  obtain ⟨q, hq, _, rfl⟩ := uA hro
  have hT := (r1 q hq).2.2.1
  have hs := aF4 hx q hq
  refine ⟨?_, ho.1, aAd 8 0 q.2.2 r hT hs ((zV hx).2.2 q hq) hE⟩
  have h1 := aA4 hnm 8 0 q.2.2 hT hs
  have h2 := hF.rc q hq
  show (dA (aV x.1) 8 (aP (aV x.1) 8 q.2.2)).length <= _
  omega
theorem aEp {α : Type} {f : α -> List UInt8} {m : Nat} : ∀ (L : List α), (∀ d ∈ L, (f d).length <= m) -> (L.flatMap f).length <= m * L.length
 | [], _ => Nat.zero_le _
 | a :: L, h => by
  rw [List.flatMap_cons, List.length_append, List.length_cons]
  have h1 := h a (by simp)
  have h2 := aEp L (fun d hd => h d (List.mem_cons_of_mem _ hd))
  rw [Nat.mul_add]
  omega
theorem aBc {l : List UInt8} {x : List Dc × List (Nat × NP × BT 8)} (hx : dM l = .ok x) {p : Pm} (hr : aDf (bM x).L p (bM x)) :
  (∀ k, k < (bM x).L.length -> O3 (bM x).L 8 (p.dS.getD k (aI 8)) /\ nuT 8 (p.dS.getD k (aI 8))) /\ (O3 (bM x).L 8 p.tK /\ nuT 8 p.tK) /\ (wC (bM x).L (bM x).mf p).length <= 100000000000 := by
 have hF := kC hx
 have hnm := aP9 hF
 have hL : (bM x).L = aV x.1 := rfl
 have hmf : (bM x).mf <= 99 := by
  have hP := zW hx
  rw [hP.mf]
  exact hP.dm.mf
 have hk : ∀ k, k < (bM x).L.length -> (dA (bM x).L 8 (p.dS.getD k (aI 8))).length <= 400000003 /\ O3 (bM x).L 8 (p.dS.getD k (aI 8)) /\ nuT 8 (p.dS.getD k (aI 8)) := fun k hk =>
  aJg hx _ _ (hr.q k _ (List.getElem?_eq_getElem hk)).2
 have hm := aJg hx _ _ hr.m.2
 refine ⟨fun k h => (hk k h).2, hm.2, ?_⟩
 have h8 : (bM x).L.length <= 8 := hF.dx.nl.2
 have hq : ∀ k, (jJ (bM x).L k).length <= 700 := aOx (fun d hd => (hnm d hd).2.1)
 have l1 : (iE (bM x).L).length <= 1000 * (bM x).L.length := by
  unfold iE
  refine aEp _ (fun d hd => ?_)
  have := hnm d hd
  have hd2 := rQ 4 d.2.2 (by omega)
  unfold aE6
  simp
  omega
 have l2 : (wO (bM x).mf).length <= 20 := by
  have hd2 := rQ 4 (bM x).mf (by omega)
  unfold wO
  split
  ·simp; omega
  ·simp
 have l3 : (lN (bM x).L p (bM x).L.length).length <= 400001000 * (List.range (bM x).L.length).length := by
  unfold lN
  refine aEp _ (fun k h => ?_)
  have := (hk k (List.mem_range.1 h)).1
  have := hq k
  unfold o8
  split
  ·simp only [List.length_append, List.length_cons, List.length_nil]; omega
  ·simp
 rw [List.length_range] at l3
 have := hm.1
 unfold wC
 simp only [List.length_append, List.length_cons, List.length_nil]
 omega
theorem aMn (L : List DL) (fr : Nat) (p : Pm) : wC L fr p ≠ [] := by
 unfold wC
 simp
theorem aP7 {x : List Dc × List (Nat × NP × BT 8)} (hF : Fine x) : ∀ d ∈ x.1, d.num.1 <= 100000 := by
 intro d hd
 obtain ⟨k1, k2, k3⟩ := (lC x.1 qR (jA hF.ck).2).2 d hd
 rcases hF.dw d hd with e | e | e | e
 ·have := k1 (Or.inl e); omega
 ·have := k1 (Or.inr e); omega
 ·have := k2 e; omega
 ·have := k3 e; omega
section
variable {w : World}
theorem aLz {l : List UInt8} {x : List Dc × List (Nat × NP × BT 8)} (hx : dM l = .ok x) {p : Pm} (hr : aDf (bM x).L p (bM x)) {hi pb : Nat} (h : Pf w hi pb (bM x).L (bM x).mf p) : Calls Tryz.prog 20 #[ptr pb] w fun e w' => e = .returned (S (wC (bM x).L (bM x).mf p)) /\ Below w.heap.size w w' := by
 have hF := kC hx
 obtain ⟨t1, t2, t3⟩ := aBc hx hr
 have hP := zW hx
 refine aQ8 h (fun d hd => ?_) ?_ ?_ t1 t2 t3
 ·have := aP9 hF d hd
  omega
 ·rw [hP.mf]
  have := hP.dm.mf
  omega
 ·have := hP.ll
  omega
end
end Go.Proofs.YtfddoieakfpagaaGreatDoor
