import Derived.Test.YtfddoieakfpagabGreatDoorJG
namespace Go.Proofs.YtfddoieakfpagabGreatDoor
open Go.RowKit
def inX (Q : List (List (Nat × Nat))) (q k : Nat) : Prop := ∃ e ∈ Q.getD q [], e.1 = k
theorem gd_mod (Q : List (List (Nat × Nat))) (q j : Nat) (f : List (Nat × Nat) -> List (Nat × Nat)) : (Q.modify q f).getD j [] = if j = q /\ q < Q.length then f (Q.getD q []) else Q.getD j [] := by
 simp only [List.getD_eq_getElem?_getD, List.getElem?_modify]
 by_cases h : q = j
 ·subst h
  by_cases hl : q < Q.length
  ·simp [hl]
  ·simp [hl]
 ·rw [if_neg (fun e => h e.1.symm)]
  cases Q[j]? <;> simp [h]
structure Kc (L : List DL) (key : Nat) (s t : Ex) : Prop where
 len : t.Q.length = s.Q.length
 gone : ∀ k ∈ s.gone, k ∈ t.gone
 res : ∀ q k, resX L q = true -> inX s.Q q k -> (∃ p, resX L p = true /\ inX t.Q p k) \/ k ∈ t.gone
 old : ∀ q k, inX t.Q q k -> k = key \/ ∃ p, inX s.Q p k
 cap : (∀ q, (s.Q.getD q []).length <= maxX L q) -> ∀ q, (t.Q.getD q []).length <= maxX L q
section
variable {L : List DL} {key : Nat} {s t u : Ex}
theorem Kc.refl (s : Ex) : Kc L key s s := ⟨rfl, fun _ h => h, fun q _k h1 h2 => Or.inl ⟨q, h1, h2⟩, fun q _k h => Or.inr ⟨q, h⟩, fun h => h⟩
theorem Kc.trans (h : Kc L key s t) (h' : Kc L key t u) : Kc L key s u where
 len := h'.len.trans h.len
 gone := fun k hk => h'.gone k (h.gone k hk)
 res := fun q k h1 h2 => by
  rcases h.res q k h1 h2 with ⟨p, h3, h4⟩ | h3
  ·exact h'.res p k h3 h4
  ·exact Or.inr (h'.gone k h3)
 old := fun q k hk => by
  rcases h'.old q k hk with h1 | ⟨p, h1⟩
  ·exact Or.inl h1
  ·exact h.old p k h1
 cap := fun h0 => h'.cap (h.cap h0)
theorem Kc.same (h1 : t.gone = s.gone) (h0 : t.Q.length = s.Q.length) (h2 : ∀ q, (t.Q.getD q []).map (·.1) = (s.Q.getD q []).map (·.1)) : Kc L key s t := by
 have hi : ∀ q k, inX t.Q q k ↔ inX s.Q q k := fun q k => by
  have := h2 q
  unfold inX
  rw [<- List.mem_map (f := fun e : Nat × Nat => e.1), <- List.mem_map (f := fun e : Nat × Nat => e.1), this]
 refine ⟨h0, fun k hk => h1 ▸ hk, fun q k a b => Or.inl ⟨q, a, (hi q k).2 b⟩, fun q k a => Or.inr ⟨q, (hi q k).1 a⟩, fun h q => ?_⟩
 have := congrArg List.length (h2 q)
 rw [List.length_map, List.length_map] at this
 rw [this]
 exact h q
theorem resX_lt {q : Nat} (h : resX L q = true) : q < L.length := by
 unfold resX at h
 cases e : L[q]? with
 | none => rw [e] at h; cases h
 | some d => exact (List.getElem?_eq_some_iff.1 e).1
theorem out_in {q i p k : Nat} {e : Nat × Nat} (he : (s.Q.getD q [])[i]? = some e) (h : inX s.Q p k) : (p = q /\ k = e.1) \/ inX (s.out q i).Q p k := by
 obtain ⟨x, hx, rfl⟩ := h
 unfold inX Ex.out
 simp only
 rw [gd_mod]
 split
 ·rename_i c
  obtain ⟨rfl, _⟩ := c
  obtain ⟨j, hj⟩ := List.mem_iff_getElem?.1 hx
  by_cases hij : j = i
  ·subst hij
   rw [he] at hj
   cases hj
   exact Or.inl ⟨rfl, rfl⟩
  ·refine Or.inr ⟨x, ?_, rfl⟩
   rw [List.mem_eraseIdx_iff_getElem?]
   exact ⟨j, hij, hj⟩
 ·exact Or.inr ⟨x, hx, rfl⟩
theorem in_out {q i p k : Nat} (h : inX (s.out q i).Q p k) : inX s.Q p k := by
 obtain ⟨x, hx, rfl⟩ := h
 unfold Ex.out at hx
 simp only at hx
 rw [gd_mod] at hx
 split at hx
 ·rename_i c
  obtain ⟨rfl, _⟩ := c
  exact ⟨x, List.mem_of_mem_eraseIdx hx, rfl⟩
 ·exact ⟨x, hx, rfl⟩
theorem out_len {q i p : Nat} : ((s.out q i).Q.getD p []).length <= (s.Q.getD p []).length := by
 unfold Ex.out
 simp only
 rw [gd_mod]
 split
 ·rename_i c
  obtain ⟨rfl, _⟩ := c
  rw [List.length_eraseIdx]
  split <;> omega
 ·exact Nat.le_refl _
theorem put_mem {tail : Bool} {e x : Nat × Nat} {l : List (Nat × Nat)} : x ∈ putE tail e l ↔ x = e \/ x ∈ l := by
 unfold putE
 cases tail <;> simp
 exact Or.comm
theorem put_len {tail : Bool} {e : Nat × Nat} {l : List (Nat × Nat)} : (putE tail e l).length = l.length + 1 := by
 unfold putE
 cases tail <;> simp
theorem leaves_q {q k : Nat} : (s.leaves L q k).Q = s.Q := by unfold Ex.leaves; split <;> rfl
theorem leavesO_q {q : Option Nat} {k : Nat} : (s.leavesO L q k).Q = s.Q := by
 cases q with
 | none => rfl
 | some q => exact leaves_q
theorem leaves_g {q k x : Nat} (h : x ∈ s.gone) : x ∈ (s.leaves L q k).gone := by
 unfold Ex.leaves
 split
 ·exact List.mem_append_left _ h
 ·exact h
theorem leavesO_g {q : Option Nat} {k x : Nat} (h : x ∈ s.gone) : x ∈ (s.leavesO L q k).gone := by
 cases q with
 | none => exact h
 | some q => exact leaves_g h
theorem leaves_k {q k : Nat} (h : resX L q = true) : k ∈ (s.leaves L q k).gone := by
 unfold Ex.leaves
 rw [if_pos h]
 simp
theorem comes_kc {e : Nat × Nat} {fro : Option Nat} {tq : Nat} {tail : Bool} {s0 : Ex} (hl : s0.Q.length = L.length) (h0 : s.Q.length = s0.Q.length) (hg : s.gone = s0.gone) (hk : e.1 = key \/ ∃ p, inX s0.Q p e.1) (h1 : ∀ q k, inX s0.Q q k -> (fro = some q /\ k = e.1) \/ inX s.Q q k) (h2 : ∀ q k, inX s.Q q k -> inX s0.Q q k) (h3 : ∀ q, (s.Q.getD q []).length <= (s0.Q.getD q []).length) (h : s.comes L e fro tq tail = .ok t) : Kc L key s0 t := by
 unfold Ex.comes Ex.inn at h
 split at h
 ·cases h
 ·rename_i v hv
  split at hv
  ·cases hv
  ·rename_i hc
   cases hv
   cases h
   have hQ : (if resX L tq = true then ({ s with Q := s.Q.modify tq (putE tail e) } : Ex) else Ex.leavesO L { s with Q := s.Q.modify tq (putE tail e) } fro e.1).Q = s.Q.modify tq (putE tail e) := by
    split
    ·rfl
    ·rw [leavesO_q]
   have hG : ∀ x ∈ s0.gone, x ∈ (if resX L tq = true then ({ s with Q := s.Q.modify tq (putE tail e) } : Ex) else Ex.leavesO L { s with Q := s.Q.modify tq (putE tail e) } fro e.1).gone := fun x hx => by
    split
    ·exact hg ▸ hx
    ·exact leavesO_g (by exact hg ▸ hx)
   have hkeep : ∀ q k, inX s.Q q k -> inX (s.Q.modify tq (putE tail e)) q k := fun q k ⟨x, hx, hxk⟩ => by
    unfold inX
    rw [gd_mod]
    split
    ·rename_i c
     exact ⟨x, put_mem.2 (Or.inr (c.1 ▸ hx)), hxk⟩
    ·exact ⟨x, hx, hxk⟩
   refine ⟨by rw [hQ, List.length_modify, h0], hG, fun q k a b => ?_, fun q k a => ?_, fun a q => ?_⟩
   ·rw [hQ]
    rcases h1 q k b with ⟨c, rfl⟩ | c
    ·by_cases hr : resX L tq = true
     ·refine Or.inl ⟨tq, hr, e, ?_, rfl⟩
      rw [gd_mod, if_pos ⟨rfl, by rw [h0, hl]; exact resX_lt hr⟩]
      exact put_mem.2 (Or.inl rfl)
     ·refine Or.inr ?_
      rw [if_neg hr, c]
      exact leaves_k a
    ·exact Or.inl ⟨q, a, hkeep q k c⟩
   ·rw [hQ] at a
    obtain ⟨x, hx, rfl⟩ := a
    rw [gd_mod] at hx
    split at hx
    ·rename_i c
     rcases put_mem.1 hx with rfl | hx
     ·exact hk
     ·exact Or.inr ⟨tq, h2 _ _ ⟨x, hx, rfl⟩⟩
    ·exact Or.inr ⟨q, h2 _ _ ⟨x, hx, rfl⟩⟩
   ·rw [hQ, gd_mod]
    have := h3 q
    have := a q
    split
    ·rename_i c
     obtain ⟨rfl, _⟩ := c
     rw [put_len]
     omega
    ·omega
end
theorem where_at {k : Nat} : ∀ {Q : List (List (Nat × Nat))} {p : Nat × Nat}, whereX Q k = some p -> ∃ e, (Q.getD p.1 [])[p.2]? = some e /\ e.1 = k
 | [], p, h => by cases h
 | q :: r, p, h => by
  unfold whereX at h
  split at h
  ·rename_i i hi
   cases h
   rw [List.findIdx?_eq_some_iff_getElem] at hi
   obtain ⟨h1, h2, _⟩ := hi
   exact ⟨q[i], by simp [h1], by simpa [isK] using h2⟩
  ·cases hw : whereX r k with
   | none => rw [hw] at h; cases h
   | some p' =>
    rw [hw] at h
    cases h
    obtain ⟨e, h1, h2⟩ := where_at hw
    exact ⟨e, by simpa using h1, h2⟩
section
variable {L : List DL} {key mf : Nat} {s t : Ex}
theorem out_kc {q i : Nat} {e : Nat × Nat} (he : (s.Q.getD q [])[i]? = some e) : Kc L key s ((s.out q i).leaves L q e.1) := by
 refine ⟨by rw [leaves_q]; simp [Ex.out], fun k hk => leaves_g hk, fun p k a b => ?_, fun p k a => ?_, fun a p => ?_⟩
 ·rw [leaves_q]
  rcases out_in he b with ⟨rfl, rfl⟩ | c
  ·exact Or.inr (leaves_k a)
  ·exact Or.inl ⟨p, a, c⟩
 ·rw [leaves_q] at a
  exact Or.inr ⟨p, in_out a⟩
 ·rw [leaves_q]
  exact Nat.le_trans out_len (a p)
theorem moved_kc {tq : Nat} {tail : Bool} (hl : s.Q.length = L.length) (h : s.moved L key tq tail = .ok t) : Kc L key s t := by
 unfold Ex.moved at h
 split at h
 ·exact comes_kc hl rfl rfl (Or.inl rfl) (fun q k a => Or.inr a) (fun q k a => a) (fun q => Nat.le_refl _) h
 ·rename_i p hp
  obtain ⟨e, h1, h2⟩ := where_at hp
  have e1 : (s.Q.getD p.1 []).getD p.2 (0, 0) = e := by rw [List.getD_eq_getElem?_getD, h1]; rfl
  rw [e1] at h
  refine comes_kc (s := s.out p.1 p.2) (s0 := s) hl (by simp [Ex.out]) rfl (Or.inl h2) (fun q k a => ?_) (fun q k a => in_out a) (fun q => out_len) h
  rcases out_in h1 a with ⟨rfl, rfl⟩ | c
  ·exact Or.inl ⟨rfl, rfl⟩
  ·exact Or.inr c
theorem dropped_kc : Kc L key s (s.dropped L key) := by
 unfold Ex.dropped
 split
 ·exact Kc.refl _
 ·rename_i p hp
  obtain ⟨e, h1, h2⟩ := where_at hp
  rw [<- h2]
  exact out_kc h1
theorem map_fst_modify (l : List (Nat × Nat)) (i : Nat) (f : Nat × Nat -> Nat × Nat) (hf : ∀ e, (f e).1 = e.1) : (l.modify i f).map (·.1) = l.map (·.1) := by
 apply List.ext_getElem?
 intro j
 rw [List.getElem?_map, List.getElem?_map, List.getElem?_modify]
 cases l[j]? with
 | none => rfl
 | some e =>
  simp
  split
  ·exact hf e
  ·rfl
theorem freq_kc {i : List (Nat × Nat) -> Nat} {qq : Nat} {f : Nat × Nat -> Nat × Nat} (hf : ∀ e, (f e).1 = e.1) : Kc L key s { s with Q := s.Q.modify qq fun l => l.modify (i l) f } := by
 refine Kc.same rfl (by simp) (fun p => ?_)
 simp only
 rw [gd_mod]
 split
 ·rename_i c
  rw [c.1, map_fst_modify _ _ _ hf]
 ·rfl
theorem last_kc {x : Rt} (hl : s.Q.length = L.length) (h : s.last L x = .ok t) : Kc L key s t := by
 unfold Ex.last at h
 split at h
 ·cases h
 ·rename_i e he
  have h1 : (s.Q.getD x.n [])[(s.Q.getD x.n []).length - 1]? = some e := by rw [<- List.getLast?_eq_getElem?]; exact he
  split at h
  ·cases h
   exact freq_kc (i := fun l => l.length - 1) (fun _ => rfl)
  split at h
  ·cases h
   exact out_kc h1
  split at h
  ·refine comes_kc (s := s.out x.n ((s.Q.getD x.n []).length - 1)) (s0 := s) hl (by simp [Ex.out]) rfl (Or.inr ⟨x.n, e, List.mem_of_getElem? h1, rfl⟩) (fun q k a => ?_) (fun q k a => in_out a) (fun q => out_len) h
   rcases out_in h1 a with ⟨rfl, rfl⟩ | c
   ·exact Or.inl ⟨rfl, rfl⟩
   ·exact Or.inr c
  ·cases h
   exact Kc.refl _
theorem plain_kc {x : Rt} (hl : s.Q.length = L.length) (h : s.plain L mf key x = .ok t) : Kc L key s t := by
 unfold Ex.plain at h
 split at h
 ·exact moved_kc hl h
 split at h
 ·cases h; exact dropped_kc
 split at h
 ·cases h; exact Kc.same rfl rfl (fun _ => rfl)
 split at h
 ·cases h; exact Kc.same rfl rfl (fun _ => rfl)
 split at h
 ·cases h
  unfold Ex.bump
  split
  ·exact Kc.refl _
  ·rename_i p hp
   exact freq_kc (i := fun _ => p.2) (fun e => by split <;> rfl)
 ·exact last_kc hl h
theorem loop_kc {cond : Ex -> Bool} {body : Ex -> Except Nat Ex} (hb : ∀ s t, s.Q.length = L.length -> body s = .ok t -> Kc L key s t) : ∀ (n : Nat) (s t : Ex), s.Q.length = L.length -> loopX cond body n s = .ok t -> Kc L key s t
 | 0, s, t, _, h => by cases h; exact Kc.refl _
 | n + 1, s, t, hl, h => by
  unfold loopX at h
  split at h
  ·split at h
   ·cases h
   ·rename_i v hv
    have h1 := hb s v hl hv
    exact h1.trans (loop_kc hb n v t (h1.len.trans hl) h)
  ·cases h; exact Kc.refl _
theorem seq_kc {α : Type} {f : α -> Ex -> Except Nat Ex} : ∀ (xs : List α) (_ : ∀ x ∈ xs, ∀ s t, s.Q.length = L.length -> f x s = .ok t -> Kc L key s t) (s t : Ex), s.Q.length = L.length -> seqX f xs s = .ok t -> Kc L key s t
 | [], _, s, t, _, h => by cases h; exact Kc.refl _
 | x :: xs, hf, s, t, hl, h => by
  unfold seqX at h
  split at h
  ·cases h
  ·rename_i v hv
   have h1 := hf x (by simp) s v hl hv
   exact h1.trans (seq_kc xs (fun y hy => hf y (by simp [hy])) v t (h1.len.trans hl) h)
end
theorem blk_kc {L : List DL} {key mf : Nat} : ∀ (d : Nat) (x : RT d) (s t : Ex), s.Q.length = L.length -> Ex.blk L mf key d x s = .ok t -> Kc L key s t
 | 0, _, s, t, _, h => by cases h; exact Kc.refl _
 | d + 1, xs, s, t, hl, h => by
  unfold Ex.blk at h
  refine seq_kc xs (fun r _ s t hl h => ?_) s t hl h
  unfold Ex.stm at h
  split at h
  ·split at h
   ·exact blk_kc d _ s t hl h
   ·exact blk_kc d _ s t hl h
  split at h
  ·exact loop_kc (fun s t hl h => blk_kc d _ s t hl h) _ s t hl h
  ·exact plain_kc hl h
theorem access_kc {P : Pol} {s t : Ex} {key : Nat} {hit : Bool} {out : List Nat} (hl : s.Q.length = P.L.length) (h : P.access s key = .ok (hit, out, t)) : hit = P.hit s key /\ t.Q.length = s.Q.length /\ (∀ q k, resX P.L q = true -> inX s.Q q k -> (∃ p, resX P.L p = true /\ inX t.Q p k) \/ k ∈ out) /\ (∀ q k, inX t.Q q k -> k = key \/ ∃ p, inX s.Q p k) /\ ((∀ q, (s.Q.getD q []).length <= maxX P.L q) -> ∀ q, (t.Q.getD q []).length <= maxX P.L q) := by
 unfold Pol.access at h
 split at h
 ·cases h
 ·rename_i u hu
  cases h
  have := blk_kc 8 _ _ _ (by exact hl) hu
  exact ⟨rfl, this.len, this.res, this.old, this.cap⟩
structure Un (L : List DL) (s : Ex) : Prop where
 len : s.Q.length = L.length
 nd : ∀ q, ((s.Q.getD q []).map (·.1)).Nodup
 dj : ∀ q p k, inX s.Q q k -> inX s.Q p k -> q = p
 wh : ∀ q k, inX s.Q q k -> ∃ i, whereX s.Q k = some (q, i)
 kd : ∀ q k, inX s.Q q k -> ∃ d, L[q]? = some d /\ d.1 ≠ [118, 97, 114]
section
variable {c : Cc} {P : Pol} {qi vi : Nat -> Nat} {A : Ar} {V : List Nat} {s : Ex}
theorem un_of (hp : Prg c P qi vi) (hs : MS c P qi vi A V s) : Un P.L s := by
 obtain ⟨Qm, hS⟩ := hs
 have hls : Lst c P.L qi s.Q Qm := hS.ls
 have hkd : ∀ q k, inX s.Q q k -> ∃ d, P.L[q]? = some d /\ d.1 ≠ [118, 97, 114] /\ s.Q[q]? = some (Qm (qi q)) /\ qi q < c.ro.length := fun q k ⟨e, he, _⟩ => by
  by_cases hq : q < s.Q.length
  ·have hL : P.L[q]? = some (P.L[q]'(by rw [<- hls.len]; exact hq)) := List.getElem?_eq_getElem _
   refine ⟨_, hL, fun hv => ?_, ?_⟩
   ·have := hls.qv q _ hL hv
    rw [List.getD_eq_getElem?_getD, this] at he
    cases he
   ·by_cases hv : (P.L[q]'(by rw [<- hls.len]; exact hq)).1 = [118, 97, 114]
    ·have := hls.qv q _ hL hv
     rw [List.getD_eq_getElem?_getD, this] at he
     cases he
    ·exact ⟨hls.qq q _ hL hv, (hp.dm.isq q _ hL hv).1⟩
  ·rw [List.getD_eq_getElem?_getD, List.getElem?_eq_none (by omega)] at he
   cases he
 have hone : ∀ q k, inX s.Q q k -> ∃ f l1 l2, InQ c.ro.length Qm k (qi q) f l1 l2 := fun q k h => by
  obtain ⟨d, _, _, h3, h4⟩ := hkd q k h
  obtain ⟨e, he, rfl⟩ := h
  rw [List.getD_eq_getElem?_getD, h3] at he
  have he : e ∈ Qm (qi q) := he
  rcases hS.ar.where' e.1 with ⟨q', f, l1, l2, hi⟩ | hn
  ·have : qi q = q' := by
    by_cases x : qi q = q'
    ·exact x
    ·exact absurd rfl (hi.no (qi q) h4 x e he)
   subst this
   exact ⟨f, l1, l2, hi⟩
  ·exact absurd rfl (hn (qi q) h4 e he)
 refine ⟨hls.len, fun q => ?_, fun q p k h1 h2 => ?_, fun q k h => ?_, fun q k h => ?_⟩
 ·rw [List.nodup_iff_count]
  intro k
  by_cases hk : k ∈ (s.Q.getD q []).map (·.1)
  ·obtain ⟨e, he, hek⟩ := List.mem_map.1 hk
   have hin : inX s.Q q k := ⟨e, he, hek⟩
   obtain ⟨d, _, _, h3, _⟩ := hkd q k hin
   obtain ⟨f, l1, l2, hi⟩ := hone q k hin
   rw [List.getD_eq_getElem?_getD, h3]
   have n1 : (l1.map (·.1)).count k = 0 := List.count_eq_zero.2 (fun h => by obtain ⟨e, he, hek⟩ := List.mem_map.1 h; exact hi.n1 e he hek)
   have n2 : (l2.map (·.1)).count k = 0 := List.count_eq_zero.2 (fun h => by obtain ⟨e, he, hek⟩ := List.mem_map.1 h; exact hi.n2 e he hek)
   show ((Qm (qi q)).map (·.1)).count k <= 1
   rw [hi.at', List.map_append, List.map_cons, List.count_append, List.count_cons, n1, n2]
   simp
  ·rw [List.count_eq_zero.2 hk]
   exact Nat.zero_le _
 ·obtain ⟨d, a1, a2, _, _⟩ := hkd q k h1
  obtain ⟨d', b1, b2, _, _⟩ := hkd p k h2
  obtain ⟨f, l1, l2, hi⟩ := hone q k h1
  obtain ⟨f', m1, m2, hj⟩ := hone p k h2
  exact hp.dm.inq q d p d' a1 b1 a2 b2 (hi.uniq hj).1
 ·obtain ⟨d, a1, a2, _, _⟩ := hkd q k h
  obtain ⟨f, l1, l2, hi⟩ := hone q k h
  obtain ⟨k', d', b1, b2, b3, b4, _⟩ := hls.at_in hp.dm hi
  have := hp.dm.inq q d k' d' a1 b1 a2 b2 b3.symm
  exact ⟨_, this ▸ b4⟩
 ·obtain ⟨d, a1, a2, _, _⟩ := hkd q k h
  exact ⟨d, a1, a2⟩
def nmsW (L : List DL) (w : List UInt8) : List (List UInt8) := (L.filter (·.1 == w)).map (·.2.1)
def allK (P : Pol) (s : Ex) (w : List UInt8) : List Nat := (nmsW P.L w).flatMap fun n => (P.keys s n).getD []
theorem keys_at (hp : Prg c P qi vi) {q : Nat} {d : DL} (h : P.L[q]? = some d) (hv : d.1 ≠ [118, 97, 114]) : P.keys s d.2.1 = some ((s.Q.getD q []).map Prod.fst) := by
 unfold Pol.keys
 rw [find_of hp h]
 simp only
 rw [if_neg hv]
theorem mem_all (hp : Prg c P qi vi) {w : List UInt8} (hw : w ≠ [118, 97, 114]) {k : Nat} : k ∈ allK P s w ↔ ∃ q d, P.L[q]? = some d /\ d.1 = w /\ inX s.Q q k := by
 unfold allK nmsW
 simp only [List.mem_flatMap, List.mem_map, List.mem_filter]
 constructor
 ·rintro ⟨n, ⟨d, ⟨h1, h2⟩, rfl⟩, h3⟩
  obtain ⟨q, hq⟩ := List.mem_iff_getElem?.1 h1
  have h2 : d.1 = w := by simpa using h2
  rw [keys_at hp hq (by rw [h2]; exact hw)] at h3
  obtain ⟨e, he, hek⟩ := List.mem_map.1 h3
  exact ⟨q, d, hq, h2, e, he, hek⟩
 ·rintro ⟨q, d, hq, h2, e, he, hek⟩
  refine ⟨d.2.1, ⟨d, ⟨List.mem_of_getElem? hq, by simpa using h2⟩, rfl⟩, ?_⟩
  rw [keys_at hp hq (by rw [h2]; exact hw)]
  exact List.mem_map.2 ⟨e, he, hek⟩
theorem nodup_all (hp : Prg c P qi vi) (hu : Un P.L s) : (allK P s [113, 117, 101, 117, 101] ++ allK P s [103, 104, 111, 115, 116]).Nodup := by
 have hL : P.L.Pairwise fun d d' => d.1 ≠ [118, 97, 114] -> d'.1 ≠ [118, 97, 114] -> ∀ x ∈ (P.keys s d.2.1).getD [], ∀ y ∈ (P.keys s d'.2.1).getD [], x ≠ y := by
  rw [List.pairwise_iff_getElem]
  intro i j hi hj hij v1 v2 x hx y hy e
  subst e
  rw [keys_at hp (List.getElem?_eq_getElem hi) v1] at hx
  rw [keys_at hp (List.getElem?_eq_getElem hj) v2] at hy
  obtain ⟨e1, m1, n1⟩ := List.mem_map.1 hx
  obtain ⟨e2, m2, n2⟩ := List.mem_map.1 hy
  have := hu.dj i j x ⟨e1, m1, n1⟩ ⟨e2, m2, n2⟩
  omega
 have hone : ∀ w : List UInt8, w ≠ [118, 97, 114] -> (allK P s w).Nodup := fun w hw => by
  unfold allK nmsW
  rw [List.flatMap_map]
  unfold List.Nodup
  rw [List.pairwise_flatMap]
  refine ⟨fun d hd => ?_, ?_⟩
  ·obtain ⟨h1, h2⟩ := List.mem_filter.1 hd
   have h2 : d.1 = w := by simpa using h2
   obtain ⟨q, hq⟩ := List.mem_iff_getElem?.1 h1
   rw [keys_at hp hq (by rw [h2]; exact hw)]
   exact hu.nd q
  ·refine (hL.filter _).imp_of_mem (fun {d d'} m1 m2 h => ?_)
   have e1 : d.1 = w := by simpa using (List.mem_filter.1 m1).2
   have e2 : d'.1 = w := by simpa using (List.mem_filter.1 m2).2
   exact h (by rw [e1]; exact hw) (by rw [e2]; exact hw)
 rw [List.nodup_append]
 refine ⟨hone _ (by decide), hone _ (by decide), fun a ha b hb e => ?_⟩
 subst e
 obtain ⟨q, d, h1, h2, h3⟩ := (mem_all hp (by decide)).1 ha
 obtain ⟨p, d', g1, g2, g3⟩ := (mem_all hp (by decide)).1 hb
 have := hu.dj q p a h3 g3
 subst this
 rw [h1] at g1
 cases g1
 rw [h2] at g2
 exact absurd g2 (by decide)
theorem res_iff {q : Nat} : resX P.L q = true ↔ ∃ d, P.L[q]? = some d /\ d.1 = [113, 117, 101, 117, 101] := by
 unfold resX
 cases h : P.L[q]? with
 | none => simp
 | some d => simp
theorem hit_iff (hp : Prg c P qi vi) (hu : Un P.L s) {k : Nat} : P.hit s k = true ↔ k ∈ allK P s [113, 117, 101, 117, 101] := by
 rw [mem_all hp (by decide)]
 unfold Pol.hit
 constructor
 ·intro h
  split at h
  ·cases h
  ·rename_i p hw
   obtain ⟨d, h1, h2⟩ := res_iff.1 h
   obtain ⟨e, h3, h4⟩ := where_at hw
   exact ⟨p.1, d, h1, h2, e, List.mem_of_getElem? h3, h4⟩
 ·rintro ⟨q, d, h1, h2, h3⟩
  obtain ⟨i, hi⟩ := hu.wh q k h3
  rw [hi]
  exact res_iff.2 ⟨d, h1, h2⟩
theorem in_all (hp : Prg c P qi vi) (hu : Un P.L s) {q k : Nat} (h : inX s.Q q k) : k ∈ allK P s [113, 117, 101, 117, 101] \/ k ∈ allK P s [103, 104, 111, 115, 116] := by
 obtain ⟨d, h1, h2⟩ := hu.kd q k h
 rcases hp.kd d (List.mem_of_getElem? h1) with e | e | e
 ·exact Or.inl ((mem_all hp (by decide)).2 ⟨q, d, h1, e, h⟩)
 ·exact Or.inr ((mem_all hp (by decide)).2 ⟨q, d, h1, e, h⟩)
 ·exact absurd e h2
theorem access_keeps (hp : Prg c P qi vi) (hu : Un P.L s) {t : Ex} {key : Nat} {hit : Bool} {out : List Nat} (h : P.access s key = .ok (hit, out, t)) : (hit = true ↔ key ∈ allK P s [113, 117, 101, 117, 101]) /\ (∀ k ∈ allK P s [113, 117, 101, 117, 101], k ∈ allK P t [113, 117, 101, 117, 101] \/ k ∈ out) /\ (∀ k ∈ allK P t [113, 117, 101, 117, 101], k ∈ allK P s [113, 117, 101, 117, 101] \/ k = key \/ k ∈ allK P s [103, 104, 111, 115, 116]) /\ ((∀ q, (s.Q.getD q []).length <= maxX P.L q) -> ∀ q, (t.Q.getD q []).length <= maxX P.L q) := by
 obtain ⟨h1, _, h3, h4, h5⟩ := access_kc hu.len h
 refine ⟨by rw [h1]; exact hit_iff hp hu, fun k hk => ?_, fun k hk => ?_, h5⟩
 ·obtain ⟨q, d, g1, g2, g3⟩ := (mem_all hp (by decide)).1 hk
  rcases h3 q k (res_iff.2 ⟨d, g1, g2⟩) g3 with ⟨p, r1, r2⟩ | r
  ·obtain ⟨d', e1, e2⟩ := res_iff.1 r1
   exact Or.inl ((mem_all hp (by decide)).2 ⟨p, d', e1, e2, r2⟩)
  ·exact Or.inr r
 ·obtain ⟨q, d, g1, g2, g3⟩ := (mem_all hp (by decide)).1 hk
  rcases h4 q k g3 with rfl | ⟨p, r⟩
  ·exact Or.inr (Or.inl rfl)
  ·rcases in_all hp hu r with r | r
   ·exact Or.inl r
   ·exact Or.inr (Or.inr r)
theorem removed_is (hp : Prg c P qi vi) (hu : Un P.L s) {k : Nat} : ((s.removed k).1 = true ↔ k ∈ allK P s [113, 117, 101, 117, 101] ++ allK P s [103, 104, 111, 115, 116]) /\ ((s.removed k).2.removed k).1 = false /\ ((∀ q, (s.Q.getD q []).length <= maxX P.L q) -> ∀ q, ((s.removed k).2.Q.getD q []).length <= maxX P.L q) := by
 unfold Ex.removed
 cases hw : whereX s.Q k with
 | none =>
  refine ⟨⟨fun h => by simp at h, fun h => ?_⟩, by simp only [hw], fun h => h⟩
  exfalso
  have : ∃ q, inX s.Q q k := by
   rcases List.mem_append.1 h with h | h <;> obtain ⟨q, _, _, _, h3⟩ := (mem_all hp (by decide)).1 h <;> exact ⟨q, h3⟩
  obtain ⟨q, h3⟩ := this
  obtain ⟨i, hi⟩ := hu.wh q k h3
  rw [hw] at hi
  cases hi
 | some p =>
  obtain ⟨e, h3, h4⟩ := where_at hw
  refine ⟨⟨fun _ => List.mem_append.2 (in_all hp hu ⟨e, List.mem_of_getElem? h3, h4⟩), fun _ => rfl⟩, ?_, fun h q => Nat.le_trans out_len (h q)⟩
  simp only
  cases hw2 : whereX (s.out p.1 p.2).Q k with
  | none => rfl
  | some p2 =>
   exfalso
   obtain ⟨e2, g3, g4⟩ := where_at hw2
   have hin2 : inX (s.out p.1 p.2).Q p2.1 k := ⟨e2, List.mem_of_getElem? g3, g4⟩
   have := hu.dj _ _ k ⟨e, List.mem_of_getElem? h3, h4⟩ (in_out hin2)
   have hnd := hu.nd p.1
   unfold inX Ex.out at hin2
   simp only at hin2
   rw [<- this, gd_mod] at hin2
   obtain ⟨e5, m5, k5⟩ := hin2
   split at m5
   ·rw [List.mem_eraseIdx_iff_getElem?] at m5
    obtain ⟨j, hj, m6⟩ := m5
    have a1 : ((s.Q.getD p.1 []).map (·.1))[j]? = some k := by rw [List.getElem?_map, m6, <- k5]; rfl
    have a2 : ((s.Q.getD p.1 []).map (·.1))[p.2]? = some k := by rw [List.getElem?_map, h3, <- h4]; rfl
    have l1 := (List.getElem?_eq_some_iff.1 a1).1
    exact hj ((List.getElem?_inj l1 hnd).1 (a1.trans a2.symm))
   ·rename_i c
    have this : ¬ p.1 < s.Q.length := fun x => c ⟨rfl, x⟩
    rw [List.getD_eq_getElem?_getD, List.getElem?_eq_none (Nat.le_of_not_lt this)] at h3
    cases h3
end
end Go.Proofs.YtfddoieakfpagabGreatDoor
