import Derived.Test.YtfddoieakfpagabGreatDoorJA
import Derived.Test.YtfddoieakfpagabGreatDoorHB
import Derived.Test.YtfddoieakfpagabGreatDoorGC
namespace Go.Proofs.YtfddoieakfpagabGreatDoor
set_option maxHeartbeats 1000000
open Go.RowKit
def nxt (N : List Nd) (a : Nat) : Option Int := (N[a]?).map fun d => d.next
def prv (N : List Nd) (a : Nat) : Option Nat := (N[a]?).map fun d => d.prev
def LR (N : List Nd) (a b : Nat) : Prop := nxt N a = some (b : Int) /\ prv N b = some a
def Lk (N : List Nd) : List Nat -> Prop
 | [] => True
 | [_] => True
 | a :: b :: l => LR N a b /\ Lk N (b :: l)
theorem lk_app (N : List Nd) : ∀ (m : List Nat) (x : Nat) (r : List Nat), Lk N (m ++ x :: r) ↔ Lk N (m ++ [x]) /\ Lk N (x :: r)
 | [], x, r => by simp [Lk]
 | [a], x, r => by simp [Lk]
 | a :: b :: m, x, r => by
  have ih := lk_app N (b :: m) x r
  simp only [List.cons_append, Lk] at ih ⊢
  rw [ih, and_assoc]
theorem lk_frame {N N' : List Nd} : ∀ (c : List Nat), Lk N c -> (∀ x ∈ c.dropLast, nxt N' x = nxt N x) -> (∀ x ∈ c.tail, prv N' x = prv N x) -> Lk N' c
 | [], _, _, _ => trivial
 | [_], _, _, _ => trivial
 | a :: b :: l, h, h1, h2 => by
  obtain ⟨⟨k1, k2⟩, k3⟩ := h
  refine ⟨⟨(h1 a (by simp [List.dropLast])).trans k1, (h2 b (by simp)).trans k2⟩, lk_frame (b :: l) k3 (fun x hx => h1 x (by simp [List.dropLast]; exact Or.inr (by simpa using hx))) (fun x hx => h2 x (by simp at hx ⊢; exact Or.inr hx))⟩
theorem snoc_of (q : Nat) (l : List Nat) : ∃ m p, q :: l = m ++ [p] := ⟨(q :: l).dropLast, (q :: l).getLast (by simp), (List.dropLast_concat_getLast (by simp)).symm⟩
theorem cons_of (q : Nat) : ∀ l : List Nat, ∃ s m, l ++ [q] = s :: m
 | [] => ⟨q, [], rfl⟩
 | a :: l => ⟨a, l ++ [q], rfl⟩
theorem lk_ends {N : List Nd} {q : Nat} {l : List Nat} (h : Lk N (q :: l ++ [q])) {m : List Nat} {p : Nat} (hp : q :: l = m ++ [p]) {s : Nat} {r : List Nat} (hs : l ++ [q] = s :: r) : prv N q = some p /\ nxt N q = some (s : Int) := by
 constructor
 ·rw [hp, List.append_assoc] at h
  have := ((lk_app N m p [q]).1 h).2
  exact this.1.2
 ·rw [List.cons_append, hs] at h
  exact h.1.1
theorem lk_around {N : List Nd} {q n : Nat} {l1 l2 : List Nat} (h : Lk N (q :: (l1 ++ n :: l2) ++ [q])) {m : List Nat} {p : Nat} (hp : q :: l1 = m ++ [p]) {s : Nat} {r : List Nat} (hs : l2 ++ [q] = s :: r) : Lk N (m ++ [p]) /\ LR N p n /\ LR N n s /\ Lk N (s :: r) := by
 have e : q :: (l1 ++ n :: l2) ++ [q] = m ++ p :: n :: s :: r := by
  rw [<- hs]
  have : m ++ p :: n :: (l2 ++ [q]) = (m ++ [p]) ++ n :: (l2 ++ [q]) := by simp
  rw [this, <- hp]
  simp
 rw [e] at h
 obtain ⟨h1, h2⟩ := (lk_app N m p _).1 h
 exact ⟨h1, h2.1, h2.2.1, h2.2.2⟩
theorem lk_cut {N N' : List Nd} {q n : Nat} {l1 l2 : List Nat} (h : Lk N (q :: (l1 ++ n :: l2) ++ [q])) (hnd : (q :: (l1 ++ n :: l2)).Nodup) {p s : Nat} (hp : prv N n = some p) (hs : nxt N n = some (s : Int))
  (e1 : nxt N' p = some (s : Int)) (e2 : ∀ x, x ≠ p -> nxt N' x = nxt N x) (e3 : prv N' s = some p) (e4 : ∀ x, x ≠ s -> prv N' x = prv N x) : Lk N' (q :: (l1 ++ l2) ++ [q]) := by
 obtain ⟨m, p', hm⟩ := snoc_of q l1
 obtain ⟨s', r, hr⟩ := cons_of q l2
 obtain ⟨k1, k2, k3, k4⟩ := lk_around h hm hr
 have ep : p' = p := by have := k2.2.symm.trans hp; simpa using this
 have es : s' = s := by have := k3.1.symm.trans hs; simp at this; omega
 subst ep; subst es
 have e : q :: (l1 ++ l2) ++ [q] = m ++ p' :: s' :: r := by
  rw [<- hr]
  have : m ++ p' :: (l2 ++ [q]) = (m ++ [p']) ++ (l2 ++ [q]) := by simp
  rw [this, <- hm]
  simp
 rw [e, lk_app]
 have nd1 : (q :: l1).Nodup := hnd.sublist (by simp)
 have nd2 : (l2 ++ [q]).Nodup := by
  have : (q :: l2).Nodup := hnd.sublist (by simp)
  simp only [List.nodup_cons] at this
  rw [List.nodup_append]
  exact ⟨this.2, by simp, fun a ha b hb => by simp at hb; subst hb; exact fun e => this.1 (e ▸ ha)⟩
 rw [hm] at nd1
 rw [hr] at nd2
 have pm : p' ∈ q :: l1 := by rw [hm]; simp
 have sm : s' ∈ l2 ++ [q] := by rw [hr]; simp
 have dis : ∀ x ∈ l1, x ∉ l2 ++ [q] := fun x hx hx2 => by
  simp only [List.nodup_cons, List.nodup_append, List.mem_append, List.mem_cons] at hnd
  simp at hx2
  rcases hx2 with hx2 | rfl
  ·exact hnd.2.2.2 x hx x (Or.inr hx2) rfl
  ·exact hnd.1 (Or.inl hx)
 have dis2 : ∀ x ∈ l2, x ∉ q :: l1 := fun x hx hx2 => by
  simp only [List.nodup_cons, List.nodup_append, List.mem_append, List.mem_cons] at hnd
  simp at hx2
  rcases hx2 with rfl | hx2
  ·exact hnd.1 (Or.inr (Or.inr hx))
  ·exact hnd.2.2.2 x hx2 x (Or.inr hx) rfl
 refine ⟨lk_frame _ k1 (fun x hx => e2 x ?_) (fun x hx => e4 x ?_), ⟨e1, e3⟩, lk_frame _ k4 (fun x hx => e2 x ?_) (fun x hx => e4 x ?_)⟩
 ·rw [List.dropLast_concat] at hx
  rintro rfl
  rw [List.nodup_append] at nd1
  exact nd1.2.2 x hx x (by simp) rfl
 ·rw [<- hm] at hx
  simp at hx
  rintro rfl
  exact dis x hx sm
 ·rw [<- hr, List.dropLast_concat] at hx
  rintro rfl
  exact dis2 x hx pm
 ·simp at hx
  rintro rfl
  simp only [List.nodup_cons] at nd2
  exact nd2.1 hx
theorem lk_put {N N' : List Nd} {q n : Nat} {l1 l2 : List Nat} (h : Lk N (q :: (l1 ++ l2) ++ [q])) (hnd : (q :: (l1 ++ l2)).Nodup) (hn : n ∉ q :: (l1 ++ l2)) {p s : Nat} {m r : List Nat} (hp : q :: l1 = m ++ [p]) (hs : l2 ++ [q] = s :: r)
  (e1 : nxt N' p = some (n : Int)) (e1' : nxt N' n = some (s : Int)) (e2 : ∀ x, x ≠ p -> x ≠ n -> nxt N' x = nxt N x) (e3 : prv N' s = some n) (e3' : prv N' n = some p) (e4 : ∀ x, x ≠ s -> x ≠ n -> prv N' x = prv N x) : Lk N' (q :: (l1 ++ n :: l2) ++ [q]) := by
 have e0 : q :: (l1 ++ l2) ++ [q] = m ++ p :: s :: r := by
  rw [<- hs]
  have : m ++ p :: (l2 ++ [q]) = (m ++ [p]) ++ (l2 ++ [q]) := by simp
  rw [this, <- hp]
  simp
 rw [e0, lk_app] at h
 obtain ⟨k1, _, k4⟩ := h
 have e : q :: (l1 ++ n :: l2) ++ [q] = m ++ p :: n :: s :: r := by
  rw [<- hs]
  have : m ++ p :: n :: (l2 ++ [q]) = (m ++ [p]) ++ n :: (l2 ++ [q]) := by simp
  rw [this, <- hp]
  simp
 rw [e, lk_app]
 have nd1 : (q :: l1).Nodup := hnd.sublist (by simp)
 have nd2 : (l2 ++ [q]).Nodup := by
  have : (q :: l2).Nodup := hnd.sublist (by simp)
  simp only [List.nodup_cons] at this
  rw [List.nodup_append]
  exact ⟨this.2, by simp, fun a ha b hb => by simp at hb; subst hb; exact fun e => this.1 (e ▸ ha)⟩
 rw [hp] at nd1
 rw [hs] at nd2
 have pm : p ∈ q :: l1 := by rw [hp]; simp
 have sm : s ∈ l2 ++ [q] := by rw [hs]; simp
 have dis : ∀ x ∈ l1, x ∉ l2 ++ [q] := fun x hx hx2 => by
  simp only [List.nodup_cons, List.nodup_append, List.mem_append] at hnd
  simp at hx2
  rcases hx2 with hx2 | rfl
  ·exact hnd.2.2.2 x hx x hx2 rfl
  ·exact hnd.1 (Or.inl hx)
 have dis2 : ∀ x ∈ l2, x ∉ q :: l1 := fun x hx hx2 => by
  simp only [List.nodup_cons, List.nodup_append, List.mem_append] at hnd
  simp at hx2
  rcases hx2 with rfl | hx2
  ·exact hnd.1 (Or.inr hx)
  ·exact hnd.2.2.2 x hx2 x hx rfl
 have hn1 : ∀ x ∈ q :: l1, x ≠ n := fun x hx => by rintro rfl; apply hn; simp at hx ⊢; rcases hx with hx | hx <;> simp [hx]
 have hn2 : ∀ x ∈ l2 ++ [q], x ≠ n := fun x hx => by rintro rfl; apply hn; simp at hx ⊢; rcases hx with hx | hx <;> simp [hx]
 refine ⟨lk_frame _ k1 (fun x hx => e2 x ?_ ?_) (fun x hx => e4 x ?_ ?_), ⟨e1, e3'⟩, ⟨e1', e3⟩, lk_frame _ k4 (fun x hx => e2 x ?_ ?_) (fun x hx => e4 x ?_ ?_)⟩
 ·rw [List.dropLast_concat] at hx
  rintro rfl
  rw [List.nodup_append] at nd1
  exact nd1.2.2 x hx x (by simp) rfl
 ·exact hn1 x (by rw [hp]; rw [List.dropLast_concat] at hx; simp [hx])
 ·rw [<- hp] at hx
  simp at hx
  rintro rfl
  exact dis x hx sm
 ·rw [<- hp] at hx
  simp at hx
  exact hn1 x (by simp [hx])
 ·rw [<- hs, List.dropLast_concat] at hx
  rintro rfl
  exact dis2 x hx pm
 ·rw [<- hs, List.dropLast_concat] at hx
  exact hn2 x (by simp [hx])
 ·simp at hx
  rintro rfl
  simp only [List.nodup_cons] at nd2
  exact nd2.1 hx
 ·simp at hx
  exact hn2 x (by rw [hs]; simp [hx])
def keyMax : Nat := 18446744073709551616
def upd {α : Type} (I : Nat -> α) (q : Nat) (l : α) : Nat -> α := fun p => if p = q then l else I p
theorem upd_same {α : Type} (I : Nat -> α) (q : Nat) (l : α) : upd I q l q = l := if_pos rfl
theorem upd_other {α : Type} (I : Nat -> α) {q p : Nat} (l : α) (h : p ≠ q) : upd I q l p = I p := if_neg h
def tot : Nat -> (Nat -> List Nat) -> Nat
 | 0, _ => 0
 | n + 1, I => tot n I + (I n).length
theorem tot_same : ∀ (n : Nat) (I J : Nat -> List Nat), (∀ q, q < n -> I q = J q) -> tot n I = tot n J
 | 0, _, _, _ => rfl
 | n + 1, I, J, h => by unfold tot; rw [tot_same n I J (fun q hq => h q (by omega)), h n (by omega)]
theorem tot_upd : ∀ (n : Nat) (I : Nat -> List Nat) (q : Nat) (l : List Nat), q < n -> tot n (upd I q l) + (I q).length = tot n I + l.length
 | 0, _, _, _, h => by omega
 | n + 1, I, q, l, h => by
  unfold tot
  by_cases e : q = n
  ·subst e
   rw [upd_same, tot_same q (upd I q l) I (fun p hp => upd_other I l (by omega))]
   omega
  ·have := tot_upd n I q l (by omega)
   rw [upd_other I l (show n ≠ q by omega)]
   omega
theorem tot_le : ∀ (n : Nat) (I : Nat -> List Nat), (∀ q, q < n -> (I q).length <= 50) -> tot n I <= 50 * n
 | 0, _, _ => Nat.le_refl _
 | n + 1, I, h => by
  have h1 := tot_le n I (fun q hq => h q (by omega))
  have h2 := h n (by omega)
  unfold tot
  omega
theorem tot_lt : ∀ (n : Nat) (I : Nat -> List Nat) (q : Nat), (∀ q, q < n -> (I q).length <= 50) -> q < n -> (I q).length < 50 -> tot n I < 50 * n
 | 0, _, _, _, h, _ => by omega
 | n + 1, I, q, h, hq, hl => by
  have h2 := h n (by omega)
  unfold tot
  by_cases e : q = n
  ·subst e
   have h1 := tot_le q I (fun q hq => h q (by omega))
   omega
  ·have h1 := tot_lt n I q (fun q hq => h q (by omega)) (by omega) hl
   omega
def Frc (N : List Nd) : Int -> List Nat -> Prop
 | f, [] => f = -1
 | f, n :: l => f = (n : Int) /\ ∃ d, N[n]? = some d /\ Frc N d.next l
theorem frc_frame {N N' : List Nd} : ∀ (l : List Nat) (f : Int), Frc N f l -> (∀ n ∈ l, nxt N' n = nxt N n) -> Frc N' f l
 | [], _, h, _ => h
 | n :: l, f, ⟨h1, d, h2, h3⟩, hn => by
  have h4 := hn n (by simp)
  unfold nxt at h4
  rw [h2] at h4
  simp only [Option.map_some, Option.map_eq_some_iff] at h4
  obtain ⟨d', h5, h6⟩ := h4
  exact ⟨h1, d', h5, by rw [h6]; exact frc_frame l d.next h3 (fun x hx => hn x (by simp [hx]))⟩
def eN (N : List Nd) (n : Nat) : Nat × Nat := ((N[n]?).map fun d => (d.key, d.freq)).getD (0, 0)
structure Rep (A : Ar) (nq : Nat) (cap : Nat -> Nat) (I : Nat -> List Nat) (fr L : List Nat) : Prop where
 qn : A.qs.length = nq
 qs : ∀ q, q < nq -> A.qs[q]? = some ((I q).length, cap q)
 ring : ∀ q, q < nq -> Lk A.nodes (q :: I q ++ [q])
 nd : ∀ q, q < nq -> (I q).Nodup
 ent : ∀ q, q < nq -> ∀ n ∈ I q, nq <= n /\ ∃ d, A.nodes[n]? = some d /\ d.queue = q /\ lookN d.key A.wh = some n /\ d.key < keyMax
 lo : ∀ n ∈ L, nq <= n /\ (∃ d, A.nodes[n]? = some d /\ lookN d.key A.wh = some n /\ d.key < keyMax) /\ ∀ q, q < nq -> n ∉ I q
 wh : ∀ k n, lookN k A.wh = some n -> (∃ d, A.nodes[n]? = some d /\ d.key = k) /\ ((∃ q, q < nq /\ n ∈ I q) \/ n ∈ L)
 fre : Frc A.nodes A.free fr
 frn : fr.Nodup
 frd : ∀ n ∈ fr, nq <= n /\ n ∉ L /\ ∀ q, q < nq -> n ∉ I q
 cnt : A.nodes.length = nq + tot nq I + fr.length + L.length
 wn : A.wn = tot nq I + L.length
 cb : ∀ q, q < nq -> (I q).length <= cap q
 cm : ∀ q, q < nq -> cap q <= 50
 nm : nq <= 8
 nlb : A.nodes.length <= nq + 50 * nq
section
variable {A : Ar} {nq : Nat} {cap : Nat -> Nat} {I : Nat -> List Nat} {fr L : List Nat}
theorem Rep.dis (h : Rep A nq cap I fr L) {x q p : Nat} (hq : q < nq) (hp : p < nq) (h1 : x ∈ q :: I q) (h2 : x ∈ p :: I p) : q = p := by
 simp only [List.mem_cons] at h1 h2
 rcases h1 with rfl | h1 <;> rcases h2 with h2 | h2
 ·exact h2
 ·have := (h.ent p hp x h2).1; omega
 ·have := (h.ent q hq x h1).1; omega
 ·obtain ⟨_, d, a1, a2, _⟩ := h.ent q hq x h1
  obtain ⟨_, e, b1, b2, _⟩ := h.ent p hp x h2
  rw [a1] at b1
  cases b1
  omega
theorem Rep.ndq (h : Rep A nq cap I fr L) {q : Nat} (hq : q < nq) : (q :: I q).Nodup := by
 rw [List.nodup_cons]
 exact ⟨fun hm => by have := (h.ent q hq q hm).1; omega, h.nd q hq⟩
theorem Rep.lt (h : Rep A nq cap I fr L) {q n : Nat} (hq : q < nq) (hn : n ∈ q :: I q) : n < A.nodes.length := by
 simp only [List.mem_cons] at hn
 rcases hn with rfl | hn
 ·have := h.cnt; omega
 ·obtain ⟨_, d, h1, _⟩ := h.ent q hq n hn
  exact (List.getElem?_eq_some_iff.1 h1).1
theorem Rep.len (h : Rep A nq cap I fr L) {q : Nat} (hq : q < nq) : (I q).length <= 50 := Nat.le_trans (h.cb q hq) (h.cm q hq)
theorem Rep.around (h : Rep A nq cap I fr L) {q n : Nat} (hq : q < nq) {l1 l2 : List Nat} (hI : I q = l1 ++ n :: l2) : ∃ (d : Nd) (p s : Nat), A.nodes[n]? = some d /\ d.queue = q /\ d.prev = p /\ d.next = (s : Int) /\ p ∈ q :: I q /\ s ∈ q :: I q /\ p ≠ n /\ s ≠ n := by
 obtain ⟨hn1, d, h1, h2, _⟩ := h.ent q hq n (by rw [hI]; simp)
 have hr := h.ring q hq
 have hnd := h.ndq hq
 rw [hI] at hr hnd
 obtain ⟨m, p, hm⟩ := snoc_of q l1
 obtain ⟨s, r, hs⟩ := cons_of q l2
 obtain ⟨_, ⟨_, k2⟩, ⟨k3, _⟩, _⟩ := lk_around hr hm hs
 unfold prv at k2
 unfold nxt at k3
 rw [h1] at k2 k3
 simp only [Option.map_some, Option.some.injEq] at k2 k3
 have pm : p ∈ q :: l1 := by rw [hm]; simp
 have sm : s ∈ l2 ++ [q] := by rw [hs]; simp
 have hnd' : n ∉ q :: l1 /\ n ∉ l2 := by
  simp only [List.nodup_cons, List.nodup_append, List.mem_append, List.mem_cons] at hnd
  obtain ⟨a, b, c, e⟩ := hnd
  refine ⟨fun hx => ?_, c.1⟩
  simp at hx
  rcases hx with rfl | hx
  ·exact a (by simp)
  ·exact e n hx n (by simp) rfl
 refine ⟨d, p, s, h1, h2, k2, k3, ?_, ?_, ?_, ?_⟩
 ·rw [hI]; simp at pm ⊢; rcases pm with e | e <;> simp [e]
 ·rw [hI]; simp at sm ⊢; rcases sm with e | e <;> simp [e]
 ·rintro rfl; exact hnd'.1 pm
 ·rintro rfl
  simp at sm
  rcases sm with e | e
  ·exact hnd'.2 e
  ·subst e; exact hnd'.1 (by simp)
theorem eN_mod {N : List Nd} {a : Nat} {f : Nd -> Nd} (hf : ∀ d, (f d).key = d.key /\ (f d).freq = d.freq) (x : Nat) : eN (N.modify a f) x = eN N x := by
 unfold eN
 rw [List.getElem?_modify]
 cases N[x]? with
 | none => rfl
 | some d => by_cases e : a = x <;> simp [e, hf d]
theorem nxt_mod {N : List Nd} {a : Nat} {f : Nd -> Nd} (hf : ∀ d, (f d).next = d.next) (x : Nat) : nxt (N.modify a f) x = nxt N x := by
 unfold nxt
 rw [List.getElem?_modify]
 cases N[x]? with
 | none => rfl
 | some d => by_cases e : a = x <;> simp [e, hf d]
theorem prv_mod {N : List Nd} {a : Nat} {f : Nd -> Nd} (hf : ∀ d, (f d).prev = d.prev) (x : Nat) : prv (N.modify a f) x = prv N x := by
 unfold prv
 rw [List.getElem?_modify]
 cases N[x]? with
 | none => rfl
 | some d => by_cases e : a = x <;> simp [e, hf d]
theorem nxt_mod_other {N : List Nd} {a : Nat} {f : Nd -> Nd} {x : Nat} (hx : x ≠ a) : nxt (N.modify a f) x = nxt N x := by
 unfold nxt
 rw [List.getElem?_modify]
 cases N[x]? <;> simp [Ne.symm hx]
theorem prv_mod_other {N : List Nd} {a : Nat} {f : Nd -> Nd} {x : Nat} (hx : x ≠ a) : prv (N.modify a f) x = prv N x := by
 unfold prv
 rw [List.getElem?_modify]
 cases N[x]? <;> simp [Ne.symm hx]
theorem nxt_mod_same {N : List Nd} {a : Nat} {f : Nd -> Nd} {v : Int} (h : a < N.length) (hf : ∀ d, (f d).next = v) : nxt (N.modify a f) a = some v := by
 unfold nxt
 rw [List.getElem?_modify, List.getElem?_eq_getElem h]
 simp [hf]
theorem prv_mod_same {N : List Nd} {a : Nat} {f : Nd -> Nd} {v : Nat} (h : a < N.length) (hf : ∀ d, (f d).prev = v) : prv (N.modify a f) a = some v := by
 unfold prv
 rw [List.getElem?_modify, List.getElem?_eq_getElem h]
 simp [hf]
def Like (N N' : List Nd) : Prop := N'.length = N.length /\ ∀ (x : Nat) (d : Nd), N[x]? = some d -> ∃ d', N'[x]? = some d' /\ d'.key = d.key /\ d'.queue = d.queue
theorem like_mod {N N' : List Nd} (h : Like N N') {a : Nat} {f : Nd -> Nd} (hf : ∀ d, (f d).key = d.key /\ (f d).queue = d.queue) : Like N (N'.modify a f) := by
 refine ⟨by rw [List.length_modify]; exact h.1, fun x d hd => ?_⟩
 obtain ⟨d', h1, h2, h3⟩ := h.2 x d hd
 rw [List.getElem?_modify, h1]
 by_cases e : a = x
 ·exact ⟨f d', by simp [e], by rw [(hf d').1, h2], by rw [(hf d').2, h3]⟩
 ·exact ⟨d', by simp [e], h2, h3⟩
theorem like_refl (N : List Nd) : Like N N := ⟨rfl, fun _ d h => ⟨d, h, rfl, rfl⟩⟩
theorem Rep.unlink (h : Rep A nq cap I fr []) {q n : Nat} (hq : q < nq) {l1 l2 : List Nat} (hI : I q = l1 ++ n :: l2) :
  ∃ B, A.unlink n = some B /\ Rep B nq cap (upd I q (l1 ++ l2)) fr [n] /\ (∀ x, eN B.nodes x = eN A.nodes x) /\ B.wh = A.wh := by
 obtain ⟨d, p, s, h1, h2, h3, h4, hp, hs, hpn, hsn⟩ := h.around hq hI
 have lp := h.lt hq hp
 have ls := h.lt hq hs
 have hl : (I q).length = l1.length + l2.length + 1 := by rw [hI]; simp; omega
 have hlen := h.len hq
 have hqs := h.qs q hq
 unfold Ar.unlink
 rw [h1]
 simp only [Option.bind_some]
 rw [h2, hqs]
 simp only [Option.bind_some]
 rw [h3, h4]
 rw [if_pos ⟨by omega, by simpa using ls, lp, by omega, by omega⟩]
 refine ⟨_, rfl, ?_, ?_, rfl⟩
 case refine_2 =>
  intro x
  show eN ((A.nodes.modify p _).modify _ _) x = _
  rw [eN_mod (by intro; exact ⟨rfl, rfl⟩), eN_mod (by intro; exact ⟨rfl, rfl⟩)]
 case refine_1 =>
 change Rep ⟨(A.nodes.modify p fun e => { e with next := (s : Int) }).modify (s : Int).toNat fun e => { e with prev := p }, A.free, A.wh, A.wn, A.qs.modify q fun r => ((I q).length - 1, r.2)⟩ nq cap _ fr [n]
 have hlike : Like A.nodes ((A.nodes.modify p fun e => { e with next := (s : Int) }).modify (s : Int).toNat fun e => { e with prev := p }) := like_mod (like_mod (like_refl _) (by intro; exact ⟨rfl, rfl⟩)) (by intro; exact ⟨rfl, rfl⟩)
 have hnx : ∀ x, x ≠ p -> nxt ((A.nodes.modify p fun e => { e with next := (s : Int) }).modify (s : Int).toNat fun e => { e with prev := p }) x = nxt A.nodes x := fun x hx => by
  rw [nxt_mod (by intro; rfl), nxt_mod_other hx]
 have hpv : ∀ x, x ≠ s -> prv ((A.nodes.modify p fun e => { e with next := (s : Int) }).modify (s : Int).toNat fun e => { e with prev := p }) x = prv A.nodes x := fun x hx => by
  rw [prv_mod_other (by simpa using hx), prv_mod (by intro; rfl)]
 have hnp : nxt ((A.nodes.modify p fun e => { e with next := (s : Int) }).modify (s : Int).toNat fun e => { e with prev := p }) p = some (s : Int) := by
  rw [nxt_mod (by intro; rfl)]
  exact nxt_mod_same lp (fun _ => rfl)
 have hps : prv ((A.nodes.modify p fun e => { e with next := (s : Int) }).modify (s : Int).toNat fun e => { e with prev := p }) s = some p := by
  rw [show (s : Int).toNat = s from rfl]
  exact prv_mod_same (by simpa using ls) (fun _ => rfl)
 have hnn : nxt A.nodes n = some (s : Int) := by unfold nxt; rw [h1]; simp [h4]
 have hpn' : prv A.nodes n = some p := by unfold prv; rw [h1]; simp [h3]
 have hmem : ∀ r, r < nq -> ∀ x ∈ upd I q (l1 ++ l2) r, x ∈ I r /\ x ≠ n := fun r hr x hx => by
  by_cases e : r = q
  ·subst e
   rw [upd_same] at hx
   have hnd := h.nd r hr
   rw [hI] at hnd ⊢
   refine ⟨by simp at hx ⊢; rcases hx with e | e <;> simp [e], ?_⟩
   rintro rfl
   simp only [List.nodup_append, List.nodup_cons] at hnd
   simp at hx
   rcases hx with e | e
   ·exact hnd.2.2 x e x (by simp) rfl
   ·exact hnd.2.1.1 e
  ·rw [upd_other I _ e] at hx
   refine ⟨hx, ?_⟩
   rintro rfl
   exact e (h.dis hr hq (x := x) (by simp [hx]) (by rw [hI]; simp))
 generalize hN : ((A.nodes.modify p fun e => { e with next := (s : Int) }).modify (s : Int).toNat fun e => { e with prev := p }) = N at *
 refine ⟨?_, ?_, ?_, ?_, ?_, ?_, ?_, ?_, h.frn, ?_, ?_, ?_, ?_, h.cm, h.nm, ?_⟩
 ·show (A.qs.modify q _).length = nq
  rw [List.length_modify]; exact h.qn
 ·intro r hr
  show (A.qs.modify q _)[r]? = _
  rw [List.getElem?_modify, h.qs r hr]
  by_cases e : q = r
  ·subst e
   rw [upd_same]
   simp
   omega
  ·rw [upd_other I _ (Ne.symm e)]; simp [e]
 ·intro r hr
  show Lk N _
  by_cases e : r = q
  ·subst e
   rw [upd_same]
   have hr2 := h.ring r hr
   have hnd := h.ndq hr
   rw [hI] at hr2 hnd
   exact lk_cut hr2 hnd hpn' hnn hnp hnx hps hpv
  ·rw [upd_other I _ e]
   have hx : ∀ x, x ∈ r :: I r -> x ≠ p /\ x ≠ s := fun x hx => ⟨fun e2 => e (h.dis hr hq hx (e2 ▸ hp)), fun e2 => e (h.dis hr hq hx (e2 ▸ hs))⟩
   refine lk_frame _ (h.ring r hr) (fun x hx2 => hnx x (hx x ?_).1) (fun x hx2 => hpv x (hx x ?_).2)
   ·rw [List.dropLast_concat] at hx2; exact hx2
   ·simp at hx2 ⊢; rcases hx2 with e | e <;> simp [e]
 ·intro r hr
  by_cases e : r = q
  ·subst e
   rw [upd_same]
   have := h.nd r hr
   rw [hI] at this
   exact this.sublist (by simp)
  ·rw [upd_other I _ e]; exact h.nd r hr
 ·intro r hr x hx
  obtain ⟨hx1, _⟩ := hmem r hr x hx
  obtain ⟨k1, d1, k2, k3, k4, k5⟩ := h.ent r hr x hx1
  obtain ⟨d2, j1, j2, j3⟩ := hlike.2 x d1 k2
  exact ⟨k1, d2, j1, by omega, by rw [j2]; exact k4, by rw [j2]; exact k5⟩
 ·intro x hx
  simp at hx
  subst hx
  obtain ⟨k1, d1, k2, k3, k4, k5⟩ := h.ent q hq x (by rw [hI]; simp)
  obtain ⟨d2, j1, j2, j3⟩ := hlike.2 x d1 k2
  exact ⟨k1, ⟨d2, j1, by rw [j2]; exact k4, by rw [j2]; exact k5⟩, fun r hr hx => (hmem r hr x hx).2 rfl⟩
 ·intro k x hk
  obtain ⟨⟨d1, k1, k2⟩, k3⟩ := h.wh k x hk
  obtain ⟨d2, j1, j2, j3⟩ := hlike.2 x d1 k1
  refine ⟨⟨d2, j1, by omega⟩, ?_⟩
  rcases k3 with ⟨r, hr, k3⟩ | k3
  ·by_cases e : x = n
   ·exact Or.inr (by simp [e])
   ·refine Or.inl ⟨r, hr, ?_⟩
    by_cases e2 : r = q
    ·subst e2
     rw [upd_same]
     rw [hI] at k3
     simp at k3 ⊢
     rcases k3 with k3 | k3 | k3
     ·exact Or.inl k3
     ·exact absurd k3 e
     ·exact Or.inr k3
    ·rw [upd_other I _ e2]; exact k3
  ·cases k3
 ·refine frc_frame (N := A.nodes) fr A.free h.fre (fun x hx => hnx x ?_)
  rintro rfl
  obtain ⟨f1, _, f2⟩ := h.frd x hx
  simp at hp
  rcases hp with rfl | hp
  ·omega
  ·exact f2 q hq hp
 ·intro x hx
  obtain ⟨f1, _, f2⟩ := h.frd x hx
  refine ⟨f1, ?_, fun r hr hx => f2 r hr (hmem r hr x hx).1⟩
  simp
  rintro rfl
  exact f2 q hq (by rw [hI]; simp)
 ·show N.length = _
  have := tot_upd nq I q (l1 ++ l2) hq
  rw [hlike.1, h.cnt]
  simp at this ⊢
  omega
 ·show A.wn = _
  have := tot_upd nq I q (l1 ++ l2) hq
  rw [h.wn]
  simp at this ⊢
  omega
 ·intro r hr
  by_cases e : r = q
  ·subst e
   rw [upd_same]
   have := h.cb r hr
   simp
   omega
  ·rw [upd_other I _ e]; exact h.cb r hr
 ·show N.length <= _
  rw [hlike.1]; exact h.nlb
end
section
variable {A : Ar} {nq : Nat} {cap : Nat -> Nat} {I : Nat -> List Nat} {fr L : List Nat}
def LikeB (n q : Nat) (N N' : List Nd) : Prop := N'.length = N.length /\ ∀ (x : Nat) (d : Nd), N[x]? = some d -> ∃ d', N'[x]? = some d' /\ d'.key = d.key /\ (x ≠ n -> d'.queue = d.queue) /\ (x = n -> d'.queue = q)
theorem likeB_mod {n q : Nat} {N N' : List Nd} (h : LikeB n q N N') {a : Nat} {f : Nd -> Nd} (hf : ∀ d, (f d).key = d.key /\ (f d).queue = d.queue) : LikeB n q N (N'.modify a f) := by
 refine ⟨by rw [List.length_modify]; exact h.1, fun x d hd => ?_⟩
 obtain ⟨d', h1, h2, h3, h4⟩ := h.2 x d hd
 rw [List.getElem?_modify, h1]
 by_cases e : a = x
 ·exact ⟨f d', by simp [e], by rw [(hf d').1, h2], fun hx => by rw [(hf d').2, h3 hx], fun hx => by rw [(hf d').2, h4 hx]⟩
 ·exact ⟨d', by simp [e], h2, h3, h4⟩
theorem likeB_set (n q : Nat) (N : List Nd) : LikeB n q N (N.modify n fun e => { e with queue := q }) := by
 refine ⟨by rw [List.length_modify], fun x d hd => ?_⟩
 rw [List.getElem?_modify, hd]
 by_cases e : n = x
 ·exact ⟨{ d with queue := q }, by simp [e], rfl, fun hx => absurd e (Ne.symm hx), fun _ => rfl⟩
 ·exact ⟨d, by simp [e], rfl, fun _ => rfl, fun hx => absurd hx.symm e⟩
def putIn (tail : Bool) (n : Nat) (l : List Nat) : List Nat := if tail then l ++ [n] else n :: l
theorem putIn_split (tail : Bool) (n : Nat) (l : List Nat) : ∃ l1 l2, l = l1 ++ l2 /\ putIn tail n l = l1 ++ n :: l2 /\ (tail = true -> l2 = []) /\ (tail = false -> l1 = []) := by
 cases tail
 ·exact ⟨[], l, rfl, rfl, (fun h => by cases h), (fun _ => rfl)⟩
 ·exact ⟨l, [], by simp, rfl, (fun _ => rfl), (fun h => by cases h)⟩
theorem Rep.link {n : Nat} (h : Rep A nq cap I fr [n]) {q : Nat} (hq : q < nq) (tail : Bool) (hroom : (I q).length < cap q) :
  ∃ B, A.link n q tail = some B /\ Rep B nq cap (upd I q (putIn tail n (I q))) fr [] /\ (∀ x, eN B.nodes x = eN A.nodes x) /\ B.wh = A.wh := by
 obtain ⟨hn1, ⟨dn, hn2, hn3, hn4⟩, hn5⟩ := h.lo n (by simp)
 obtain ⟨l1, l2, hI, hput, ht, hf⟩ := putIn_split tail n (I q)
 obtain ⟨m, p, hm⟩ := snoc_of q l1
 obtain ⟨s, r, hs⟩ := cons_of q l2
 have pm : p ∈ q :: l1 := by rw [hm]; simp
 have sm : s ∈ l2 ++ [q] := by rw [hs]; simp
 have hp : p ∈ q :: I q := by rw [hI]; simp at pm ⊢; rcases pm with e | e <;> simp [e]
 have hs' : s ∈ q :: I q := by rw [hI]; simp at sm ⊢; rcases sm with e | e <;> simp [e]
 have lp := h.lt hq hp
 have ls := h.lt hq hs'
 have ln : n < A.nodes.length := (List.getElem?_eq_some_iff.1 hn2).1
 have lq : q < A.nodes.length := h.lt hq (by simp)
 have hring := h.ring q hq
 have hnn : ∀ r, r < nq -> ∀ x ∈ r :: I r, x ≠ n := fun r hr x hx => by
  rintro rfl
  simp at hx
  rcases hx with rfl | hx
  ·omega
  ·exact hn5 r hr hx
 have hps : LR A.nodes p s := by
  have e : q :: I q ++ [q] = m ++ p :: s :: r := by
   rw [<- hs, hI]
   have : m ++ p :: (l2 ++ [q]) = (m ++ [p]) ++ (l2 ++ [q]) := by simp
   rw [this, <- hm]
   simp
  rw [e, lk_app] at hring
  exact hring.2.1
 have hnext : A.next q tail = some (s : Int) := by
  unfold Ar.next
  rw [List.getElem?_eq_getElem lq]
  simp only [Option.map_some, Option.some.injEq]
  cases tail with
  | true =>
   have := ht rfl
   subst this
   simp at hs
   simp [hs.1]
  | false =>
   have := hf rfl
   subst this
   have : p = q := by
    cases m with
    | nil => simp at hm; exact hm.symm
    | cons a m => simp at hm
   subst this
   have := hps.1
   unfold nxt at this
   rw [List.getElem?_eq_getElem lq] at this
   simpa using this
 have hqs := h.qs q hq
 have hlen := h.len hq
 have hts : ∃ t, A.nodes[s]? = some t /\ t.prev = p := by
  have := hps.2
  unfold prv at this
  rw [List.getElem?_eq_getElem ls] at this
  exact ⟨_, List.getElem?_eq_getElem ls, by simpa using this⟩
 obtain ⟨t, ht1, ht2⟩ := hts
 unfold Ar.link
 rw [hnext]
 simp only [Option.bind_some]
 rw [show (s : Int).toNat = s from rfl, ht1]
 simp only [Option.bind_some]
 rw [hqs]
 simp only [Option.bind_some]
 rw [ht2]
 rw [if_pos ⟨by omega, ln, lp, by omega⟩]
 refine ⟨_, rfl, ?_, ?_, rfl⟩
 case refine_2 =>
  intro x
  show eN (((((A.nodes.modify n _).modify n _).modify n _).modify p _).modify s _) x = _
  rw [eN_mod (by intro; exact ⟨rfl, rfl⟩), eN_mod (by intro; exact ⟨rfl, rfl⟩), eN_mod (by intro; exact ⟨rfl, rfl⟩), eN_mod (by intro; exact ⟨rfl, rfl⟩), eN_mod (by intro; exact ⟨rfl, rfl⟩)]
 case refine_1 =>
 change Rep ⟨((((A.nodes.modify n fun e => { e with queue := q }).modify n fun e => { e with prev := p }).modify n fun e => { e with next := (s : Int) }).modify p fun e => { e with next := (n : Int) }).modify s fun e => { e with prev := n }, A.free, A.wh, A.wn, A.qs.modify q fun r => ((I q).length + 1, r.2)⟩ nq cap _ fr []
 have hpn : p ≠ n := hnn q hq p hp
 have hsn : s ≠ n := hnn q hq s hs'
 have hlike : LikeB n q A.nodes (((((A.nodes.modify n fun e => { e with queue := q }).modify n fun e => { e with prev := p }).modify n fun e => { e with next := (s : Int) }).modify p fun e => { e with next := (n : Int) }).modify s fun e => { e with prev := n }) :=
  likeB_mod (likeB_mod (likeB_mod (likeB_mod (likeB_set n q A.nodes) (by intro; exact ⟨rfl, rfl⟩)) (by intro; exact ⟨rfl, rfl⟩)) (by intro; exact ⟨rfl, rfl⟩)) (by intro; exact ⟨rfl, rfl⟩)
 have hnx : ∀ x, x ≠ p -> x ≠ n -> nxt (((((A.nodes.modify n fun e => { e with queue := q }).modify n fun e => { e with prev := p }).modify n fun e => { e with next := (s : Int) }).modify p fun e => { e with next := (n : Int) }).modify s fun e => { e with prev := n }) x = nxt A.nodes x := fun x hx hx2 => by
  rw [nxt_mod (by intro; rfl), nxt_mod_other hx, nxt_mod_other hx2, nxt_mod_other hx2, nxt_mod_other hx2]
 have hpv : ∀ x, x ≠ s -> x ≠ n -> prv (((((A.nodes.modify n fun e => { e with queue := q }).modify n fun e => { e with prev := p }).modify n fun e => { e with next := (s : Int) }).modify p fun e => { e with next := (n : Int) }).modify s fun e => { e with prev := n }) x = prv A.nodes x := fun x hx hx2 => by
  rw [prv_mod_other hx, prv_mod (by intro; rfl), prv_mod_other hx2, prv_mod_other hx2, prv_mod_other hx2]
 have hnp : nxt (((((A.nodes.modify n fun e => { e with queue := q }).modify n fun e => { e with prev := p }).modify n fun e => { e with next := (s : Int) }).modify p fun e => { e with next := (n : Int) }).modify s fun e => { e with prev := n }) p = some (n : Int) := by
  rw [nxt_mod (by intro; rfl)]
  exact nxt_mod_same (by simpa using lp) (fun _ => rfl)
 have hnn2 : nxt (((((A.nodes.modify n fun e => { e with queue := q }).modify n fun e => { e with prev := p }).modify n fun e => { e with next := (s : Int) }).modify p fun e => { e with next := (n : Int) }).modify s fun e => { e with prev := n }) n = some (s : Int) := by
  rw [nxt_mod (by intro; rfl), nxt_mod_other (Ne.symm hpn)]
  exact nxt_mod_same (by simpa using ln) (fun _ => rfl)
 have hps2 : prv (((((A.nodes.modify n fun e => { e with queue := q }).modify n fun e => { e with prev := p }).modify n fun e => { e with next := (s : Int) }).modify p fun e => { e with next := (n : Int) }).modify s fun e => { e with prev := n }) s = some n :=
  prv_mod_same (by simpa using ls) (fun _ => rfl)
 have hpn2 : prv (((((A.nodes.modify n fun e => { e with queue := q }).modify n fun e => { e with prev := p }).modify n fun e => { e with next := (s : Int) }).modify p fun e => { e with next := (n : Int) }).modify s fun e => { e with prev := n }) n = some p := by
  rw [prv_mod_other (Ne.symm hsn), prv_mod (by intro; rfl), prv_mod (by intro; rfl)]
  exact prv_mod_same (by simpa using ln) (fun _ => rfl)
 rw [hput]
 have hmem : ∀ r, r < nq -> ∀ x ∈ upd I q (l1 ++ n :: l2) r, x ∈ I r \/ (x = n /\ r = q) := fun r hr x hx => by
  by_cases e : r = q
  ·subst e
   rw [upd_same] at hx
   rw [hI]
   simp at hx ⊢
   rcases hx with e | e | e <;> simp [e]
  ·rw [upd_other I _ e] at hx
   exact Or.inl hx
 generalize hN : (((((A.nodes.modify n fun e => { e with queue := q }).modify n fun e => { e with prev := p }).modify n fun e => { e with next := (s : Int) }).modify p fun e => { e with next := (n : Int) }).modify s fun e => { e with prev := n }) = N at *
 refine ⟨?_, ?_, ?_, ?_, ?_, ?_, ?_, ?_, h.frn, ?_, ?_, ?_, ?_, h.cm, h.nm, ?_⟩
 ·show (A.qs.modify q _).length = nq
  rw [List.length_modify]; exact h.qn
 ·intro r hr
  show (A.qs.modify q _)[r]? = _
  rw [List.getElem?_modify, h.qs r hr]
  by_cases e : q = r
  ·subst e
   rw [upd_same, hI]
   simp
   omega
  ·rw [upd_other I _ (Ne.symm e)]; simp [e]
 ·intro r hr
  show Lk N _
  by_cases e : r = q
  ·subst e
   rw [upd_same]
   have hr2 := h.ring r hr
   have hnd := h.ndq hr
   have hn9 : n ∉ r :: I r := fun hx => hnn r hr n hx rfl
   rw [hI] at hr2 hnd hn9
   exact lk_put hr2 hnd hn9 hm hs hnp hnn2 hnx hps2 hpn2 hpv
  ·rw [upd_other I _ e]
   have hx : ∀ x, x ∈ r :: I r -> x ≠ p /\ x ≠ s /\ x ≠ n := fun x hx => ⟨fun e2 => e (h.dis hr hq hx (e2 ▸ hp)), fun e2 => e (h.dis hr hq hx (e2 ▸ hs')), hnn r hr x hx⟩
   refine lk_frame _ (h.ring r hr) (fun x hx2 => hnx x (hx x ?_).1 (hx x ?_).2.2) (fun x hx2 => hpv x (hx x ?_).2.1 (hx x ?_).2.2)
   ·rw [List.dropLast_concat] at hx2; exact hx2
   ·rw [List.dropLast_concat] at hx2; exact hx2
   ·simp at hx2 ⊢; rcases hx2 with e | e <;> simp [e]
   ·simp at hx2 ⊢; rcases hx2 with e | e <;> simp [e]
 ·intro r hr
  by_cases e : r = q
  ·subst e
   rw [upd_same]
   have hnd := h.nd r hr
   have hn9 := hn5 r hr
   rw [hI] at hnd hn9
   simp at hn9
   rw [List.nodup_append] at hnd ⊢
   refine ⟨hnd.1, List.nodup_cons.2 ⟨hn9.2, hnd.2.1⟩, fun a ha b hb => ?_⟩
   simp at hb
   rcases hb with rfl | hb
   ·rintro rfl; exact hn9.1 ha
   ·exact hnd.2.2 a ha b hb
  ·rw [upd_other I _ e]; exact h.nd r hr
 ·intro r hr x hx
  rcases hmem r hr x hx with hx1 | ⟨rfl, rfl⟩
  ·obtain ⟨k1, d1, k2, k3, k4, k5⟩ := h.ent r hr x hx1
   obtain ⟨d2, j1, j2, j3, _⟩ := hlike.2 x d1 k2
   exact ⟨k1, d2, j1, by rw [j3 (hnn r hr x (by simp [hx1]))]; exact k3, by rw [j2]; exact k4, by rw [j2]; exact k5⟩
  ·obtain ⟨d2, j1, j2, _, j4⟩ := hlike.2 x dn hn2
   exact ⟨hn1, d2, j1, j4 rfl, by rw [j2]; exact hn3, by rw [j2]; exact hn4⟩
 ·intro x hx
  cases hx
 ·intro k x hk
  obtain ⟨⟨d1, k1, k2⟩, k3⟩ := h.wh k x hk
  obtain ⟨d2, j1, j2, _⟩ := hlike.2 x d1 k1
  refine ⟨⟨d2, j1, by omega⟩, Or.inl ?_⟩
  rcases k3 with ⟨r, hr, k3⟩ | k3
  ·refine ⟨r, hr, ?_⟩
   by_cases e2 : r = q
   ·subst e2
    rw [upd_same]
    rw [hI] at k3
    simp at k3 ⊢
    rcases k3 with k3 | k3 <;> simp [k3]
   ·rw [upd_other I _ e2]; exact k3
  ·simp at k3
   subst k3
   exact ⟨q, hq, by rw [upd_same]; simp⟩
 ·refine frc_frame (N := A.nodes) fr A.free h.fre (fun x hx => hnx x ?_ ?_)
  ·rintro rfl
   obtain ⟨f1, _, f2⟩ := h.frd x hx
   simp at hp
   rcases hp with rfl | hp
   ·omega
   ·exact f2 q hq hp
  ·rintro rfl
   exact (h.frd x hx).2.1 (by simp)
 ·intro x hx
  obtain ⟨f1, f3, f2⟩ := h.frd x hx
  refine ⟨f1, by simp, fun r hr hx => ?_⟩
  rcases hmem r hr x hx with hx1 | ⟨rfl, rfl⟩
  ·exact f2 r hr hx1
  ·exact f3 (by simp)
 ·show N.length = _
  have := tot_upd nq I q (l1 ++ n :: l2) hq
  rw [hlike.1, h.cnt]
  rw [hI] at this
  simp at this ⊢
  omega
 ·show A.wn = _
  have := tot_upd nq I q (l1 ++ n :: l2) hq
  rw [h.wn]
  rw [hI] at this
  simp at this ⊢
  omega
 ·intro r hr
  by_cases e : r = q
  ·subst e
   rw [upd_same]
   rw [hI] at hroom
   simp at hroom ⊢
   omega
  ·rw [upd_other I _ e]; exact h.cb r hr
 ·show N.length <= _
  rw [hlike.1]; exact h.nlb
end
section
variable {A : Ar} {nq : Nat} {cap : Nat -> Nat} {I : Nat -> List Nat} {fr L : List Nat}
theorem lookN_cons (k n x : Nat) (m : List (Nat × Nat)) : lookN x ((k, n) :: m) = if k = x then some n else lookN x m := rfl
theorem Rep.taken {N : List Nd} {n k : Nat} {f : Int} {fr' : List Nat} {c : Nat} (h : Rep A nq cap I fr []) (hk : lookN k A.wh = none) (hk2 : k < keyMax) (hn : nq <= n) (hnI : ∀ q, q < nq -> n ∉ I q) (hnN : N[n]? = some (keyN k)) (hN : ∀ x, x ≠ n -> N[x]? = A.nodes[x]? \/ A.nodes.length <= x)
  (hf : Frc N f fr') (hfn : fr'.Nodup) (hfd : ∀ x ∈ fr', x ∈ fr /\ x ≠ n) (hc : N.length = nq + tot nq I + fr'.length + 1) (hl : N.length <= nq + 50 * nq) (hcc : c = A.wn + 1) :
  Rep ⟨N, f, (k, n) :: A.wh, c, A.qs⟩ nq cap I fr' [n] := by
 have hx : ∀ (x : Nat) (d : Nd), A.nodes[x]? = some d -> x ≠ n -> N[x]? = some d := fun x d hd hne => by
  rcases hN x hne with e | e
  ·rw [e]; exact hd
  ·have := (List.getElem?_eq_some_iff.1 hd).1; omega
 have hmem : ∀ q, q < nq -> ∀ x ∈ q :: I q, x ≠ n /\ x < A.nodes.length := fun q hq x hm => ⟨by
  rintro rfl
  simp at hm
  rcases hm with rfl | hm
  ·omega
  ·exact hnI q hq hm, h.lt hq hm⟩
 have hwk : ∀ k' x, lookN k' A.wh = some x -> k' ≠ k := fun k' x e1 e2 => by rw [e2, hk] at e1; cases e1
 refine ⟨h.qn, h.qs, ?_, h.nd, ?_, ?_, ?_, hf, hfn, ?_, ?_, ?_, h.cb, h.cm, h.nm, hl⟩
 ·intro q hq
  have he : ∀ x, x ∈ q :: I q -> N[x]? = A.nodes[x]? := fun x hm => by
   obtain ⟨h1, h2⟩ := hmem q hq x hm
   rcases hN x h1 with e | e
   ·exact e
   ·omega
  refine lk_frame _ (h.ring q hq) (fun x hm => ?_) (fun x hm => ?_)
  ·unfold nxt; rw [he x (by rw [List.dropLast_concat] at hm; exact hm)]
  ·unfold prv; rw [he x (by simp at hm ⊢; rcases hm with e | e <;> simp [e])]
 ·intro q hq x hm
  obtain ⟨k1, d, k2, k3, k4, k5⟩ := h.ent q hq x hm
  refine ⟨k1, d, hx x d k2 (hmem q hq x (by simp [hm])).1, k3, ?_, k5⟩
  rw [lookN_cons, if_neg (Ne.symm (hwk _ _ k4))]
  exact k4
 ·intro x hm
  simp at hm
  subst hm
  exact ⟨hn, ⟨keyN k, hnN, by rw [lookN_cons]; exact if_pos rfl, hk2⟩, hnI⟩
 ·intro k' x hl
  rw [lookN_cons] at hl
  split at hl
  ·rename_i e
   cases hl
   exact ⟨⟨keyN k, hnN, e⟩, Or.inr (by simp)⟩
  ·obtain ⟨⟨d, k1, k2⟩, k3⟩ := h.wh k' x hl
   rcases k3 with ⟨q, hq, k3⟩ | k3
   ·exact ⟨⟨d, hx x d k1 (hmem q hq x (by simp [k3])).1, k2⟩, Or.inl ⟨q, hq, k3⟩⟩
   ·cases k3
 ·intro x hm
  obtain ⟨h1, h2⟩ := hfd x hm
  obtain ⟨f1, _, f3⟩ := h.frd x h1
  exact ⟨f1, by simpa using h2, f3⟩
 ·exact hc
 ·show c = _
  rw [hcc, h.wn]
  simp
theorem Rep.add (h : Rep A nq cap I fr []) {k : Nat} (hk : lookN k A.wh = none) (hk2 : k < keyMax) {q : Nat} (hq : q < nq) (hroom : (I q).length < cap q) :
  ∃ n B fr', A.add k = some (n, B) /\ Rep B nq cap I fr' [n] /\ eN B.nodes n = (k, 0) /\ (∀ p, p < nq -> ∀ x ∈ I p, eN B.nodes x = eN A.nodes x) /\ lookN k B.wh = some n /\ ∀ k', k' ≠ k -> lookN k' B.wh = lookN k' A.wh := by
 have ht := tot_lt nq I q (fun p hp => h.len hp) hq (Nat.lt_of_lt_of_le hroom (h.cm q hq))
 have hwn := h.wn
 have hcnt := h.cnt
 have hnm := h.nm
 have hnl := h.nlb
 simp only [List.length_nil, Nat.add_zero] at hwn hcnt
 unfold Ar.add
 rw [if_pos (by omega)]
 unfold Ar.fresh
 rw [if_pos (by omega)]
 have hfre := h.fre
 cases fr with
 | nil =>
  have hf1 : A.free = -1 := hfre
  rw [if_pos hf1]
  simp only [List.length_nil, Nat.add_zero] at hcnt
  refine ⟨A.nodes.length, _, [], rfl, ?_, ?_, ?_, ?_, ?_⟩
  ·change Rep ⟨(A.nodes ++ [zeroN 0]).modify A.nodes.length fun _ => keyN k, A.free, (k, A.nodes.length) :: A.wh, (if (lookN k A.wh).isSome then A.wn else A.wn + 1), A.qs⟩ nq cap I [] [A.nodes.length]
   refine h.taken hk hk2 (by omega) (fun p hp hm => ?_) ?_ ?_ hf1 (by simp) (by simp) ?_ ?_ ?_
   ·have := h.lt hp (n := A.nodes.length) (by simp [hm]); omega
   ·rw [List.getElem?_modify, List.getElem?_append_right (Nat.le_refl _)]; simp
   ·intro x hx
    rw [List.getElem?_modify]
    by_cases e : x < A.nodes.length
    ·refine Or.inl ?_
     rw [List.getElem?_append_left e]
     cases A.nodes[x]? <;> simp [Ne.symm hx]
    ·exact Or.inr (by omega)
   ·simp; omega
   ·simp; omega
   ·rw [hk]; rfl
  ·show eN ((A.nodes ++ [zeroN 0]).modify A.nodes.length fun _ => keyN k) A.nodes.length = _
   unfold eN
   rw [List.getElem?_modify, List.getElem?_append_right (Nat.le_refl _)]
   simp [keyN]
  ·intro p hp x hx
   have := h.lt hp (n := x) (by simp [hx])
   show eN ((A.nodes ++ [zeroN 0]).modify A.nodes.length fun _ => keyN k) x = _
   unfold eN
   rw [List.getElem?_modify, List.getElem?_append_left this]
   cases A.nodes[x]? <;> simp [show A.nodes.length ≠ x by omega]
  ·show lookN k ((k, A.nodes.length) :: A.wh) = _
   rw [lookN_cons, if_pos rfl]
  ·intro k' hk'
   show lookN k' ((k, A.nodes.length) :: A.wh) = _
   rw [lookN_cons, if_neg (Ne.symm hk')]
 | cons n fr' =>
  obtain ⟨hf1, d, hf2, hf3⟩ := hfre
  obtain ⟨g1, _, g3⟩ := h.frd n (by simp)
  have ln := (List.getElem?_eq_some_iff.1 hf2).1
  have hnd := h.frn
  rw [List.nodup_cons] at hnd
  rw [hf1, if_neg (by omega), if_pos (by omega), show (n : Int).toNat = n from rfl, hf2]
  refine ⟨n, _, fr', rfl, ?_, ?_, ?_, ?_, ?_⟩
  ·change Rep ⟨A.nodes.modify n fun _ => keyN k, d.next, (k, n) :: A.wh, (if (lookN k A.wh).isSome then A.wn else A.wn + 1), A.qs⟩ nq cap I fr' [n]
   refine h.taken hk hk2 g1 g3 ?_ ?_ ?_ hnd.2 ?_ ?_ ?_ ?_
   ·rw [List.getElem?_modify, hf2]; simp
   ·intro x hx
    rw [List.getElem?_modify]
    refine Or.inl ?_
    cases A.nodes[x]? <;> simp [Ne.symm hx]
   ·exact frc_frame fr' d.next hf3 (fun x hx => nxt_mod_other (by rintro rfl; exact hnd.1 hx))
   ·intro x hx
    exact ⟨by simp [hx], by rintro rfl; exact hnd.1 hx⟩
   ·simp at hcnt ⊢; omega
   ·simp; omega
   ·rw [hk]; rfl
  ·show eN (A.nodes.modify n fun _ => keyN k) n = _
   unfold eN
   rw [List.getElem?_modify, hf2]
   simp [keyN]
  ·intro p hp x hx
   show eN (A.nodes.modify n fun _ => keyN k) x = _
   have hne : n ≠ x := by rintro rfl; exact g3 p hp hx
   unfold eN
   rw [List.getElem?_modify]
   cases A.nodes[x]? <;> simp [hne]
  ·show lookN k ((k, n) :: A.wh) = _
   rw [lookN_cons, if_pos rfl]
  ·intro k' hk'
   show lookN k' ((k, n) :: A.wh) = _
   rw [lookN_cons, if_neg (Ne.symm hk')]
theorem Rep.given {n k : Nat} (h : Rep A nq cap I fr [n]) (hk : lookN k A.wh = some n) :
  Rep ((A.struck k).spare n) nq cap I (n :: fr) [] /\ ∀ p, p < nq -> ∀ x ∈ I p, eN ((A.struck k).spare n).nodes x = eN A.nodes x := by
 obtain ⟨hn1, ⟨dn, hn2, hn3, hn4⟩, hn5⟩ := h.lo n (by simp)
 have ln := (List.getElem?_eq_some_iff.1 hn2).1
 have hdk : dn.key = k := by
  obtain ⟨⟨d, k1, k2⟩, _⟩ := h.wh k n hk
  rw [hn2] at k1
  cases k1
  exact k2
 have hwn := h.wn
 have hcnt := h.cnt
 simp only [List.length_singleton] at hwn hcnt
 change Rep ⟨A.nodes.modify n fun _ => zeroN A.free, n, dropN k A.wh, A.wn - (if (lookN k A.wh).isSome then 1 else 0), A.qs⟩ nq cap I (n :: fr) [] /\ ∀ p, p < nq -> ∀ x ∈ I p, eN (A.nodes.modify n fun _ => zeroN A.free) x = eN A.nodes x
 have hne : ∀ q, q < nq -> ∀ x ∈ q :: I q, x ≠ n := fun q hq x hm => by
  rintro rfl
  simp at hm
  rcases hm with rfl | hm
  ·omega
  ·exact hn5 q hq hm
 have hx : ∀ x, x ≠ n -> (A.nodes.modify n fun _ => zeroN A.free)[x]? = A.nodes[x]? := fun x hx => by
  rw [List.getElem?_modify]
  cases A.nodes[x]? <;> simp [Ne.symm hx]
 refine ⟨⟨h.qn, h.qs, ?_, h.nd, ?_, ?_, ?_, ?_, ?_, ?_, ?_, ?_, h.cb, h.cm, h.nm, ?_⟩, ?_⟩
 ·intro q hq
  refine lk_frame _ (h.ring q hq) (fun x hm => nxt_mod_other ?_) (fun x hm => prv_mod_other ?_)
  ·rw [List.dropLast_concat] at hm; exact hne q hq x hm
  ·exact hne q hq x (by simp at hm ⊢; rcases hm with e | e <;> simp [e])
 ·intro q hq x hm
  obtain ⟨k1, d, k2, k3, k4, k5⟩ := h.ent q hq x hm
  have hxn := hne q hq x (by simp [hm])
  refine ⟨k1, d, (hx x hxn).trans k2, k3, ?_, k5⟩
  rw [lookN_drop_other]
  ·exact k4
  ·rintro e
   rw [e, hk] at k4
   cases k4
   exact hxn rfl
 ·intro x hm
  cases hm
 ·intro k' x hl
  have hkk : k' ≠ k := by
   rintro rfl
   rw [lookN_drop_same] at hl
   cases hl
  rw [lookN_drop_other hkk] at hl
  obtain ⟨⟨d, k1, k2⟩, k3⟩ := h.wh k' x hl
  have hxn : x ≠ n := by
   rintro rfl
   rw [hn2] at k1
   cases k1
   omega
  refine ⟨⟨d, (hx x hxn).trans k1, k2⟩, Or.inl ?_⟩
  rcases k3 with k3 | k3
  ·exact k3
  ·simp at k3
   exact absurd k3 hxn
 ·refine ⟨rfl, zeroN A.free, ?_, ?_⟩
  ·rw [List.getElem?_modify, hn2]; simp
  ·exact frc_frame fr A.free h.fre (fun x hy => nxt_mod_other (by rintro rfl; exact (h.frd x hy).2.1 (by simp)))
 ·rw [List.nodup_cons]
  exact ⟨fun hm => (h.frd n hm).2.1 (by simp), h.frn⟩
 ·intro x hm
  simp at hm
  rcases hm with rfl | hm
  ·exact ⟨hn1, by simp, hn5⟩
  ·obtain ⟨f1, _, f3⟩ := h.frd x hm
   exact ⟨f1, by simp, f3⟩
 ·show (A.nodes.modify n _).length = _
  simp
  omega
 ·show A.wn - _ = _
  rw [hk]
  simp
  omega
 ·show (A.nodes.modify n _).length <= _
  rw [List.length_modify]; exact h.nlb
 ·intro p hp x hm
  unfold eN
  rw [hx x (hne p hp x (by simp [hm]))]
theorem Rep.setF (h : Rep A nq cap I fr []) (n f : Nat) : Rep (A.setN n fun d => { d with freq := f }) nq cap I fr [] := by
 have hlike : Like A.nodes (A.nodes.modify n fun d => { d with freq := f }) := like_mod (like_refl _) (by intro; exact ⟨rfl, rfl⟩)
 change Rep ⟨A.nodes.modify n fun d => { d with freq := f }, A.free, A.wh, A.wn, A.qs⟩ nq cap I fr []
 refine ⟨h.qn, h.qs, ?_, h.nd, ?_, ?_, ?_, ?_, h.frn, h.frd, ?_, h.wn, h.cb, h.cm, h.nm, ?_⟩
 ·intro q hq
  exact lk_frame _ (h.ring q hq) (fun x _ => nxt_mod (by intro; rfl) x) (fun x _ => prv_mod (by intro; rfl) x)
 ·intro q hq x hm
  obtain ⟨k1, d, k2, k3, k4, k5⟩ := h.ent q hq x hm
  obtain ⟨d2, j1, j2, j3⟩ := hlike.2 x d k2
  exact ⟨k1, d2, j1, by omega, by rw [j2]; exact k4, by omega⟩
 ·intro x hm
  cases hm
 ·intro k x hl
  obtain ⟨⟨d, k1, k2⟩, k3⟩ := h.wh k x hl
  obtain ⟨d2, j1, j2, j3⟩ := hlike.2 x d k1
  exact ⟨⟨d2, j1, by omega⟩, k3⟩
 ·exact frc_frame fr A.free h.fre (fun x _ => nxt_mod (by intro; rfl) x)
 ·show (A.nodes.modify n _).length = _
  rw [List.length_modify]; exact h.cnt
 ·show (A.nodes.modify n _).length <= _
  rw [List.length_modify]; exact h.nlb
end
def isK (k : Nat) (e : Nat × Nat) : Bool := e.1 == k
def delK (k : Nat) (l : List (Nat × Nat)) : List (Nat × Nat) := l.eraseP (isK k)
def setK (k f : Nat) (e : Nat × Nat) : Nat × Nat := if e.1 = k then (k, f) else e
theorem delK_none {k : Nat} {l : List (Nat × Nat)} (h : ∀ e ∈ l, e.1 ≠ k) : delK k l = l := List.eraseP_of_forall_not (fun e he => by simpa [isK] using h e he)
theorem delK_split {k f : Nat} {l1 l2 : List (Nat × Nat)} (h : ∀ e ∈ l1, e.1 ≠ k) : delK k (l1 ++ (k, f) :: l2) = l1 ++ l2 := by
 unfold delK
 rw [List.eraseP_append_right _ (fun e he => by simpa [isK] using h e he), List.eraseP_cons_of_pos (by simp [isK])]
def AbsR (A : Ar) (nq : Nat) (cap : Nat -> Nat) (Q : Nat -> List (Nat × Nat)) : Prop := ∃ I fr, Rep A nq cap I fr [] /\ ∀ q, q < nq -> Q q = (I q).map (eN A.nodes)
structure InQ (nq : Nat) (Q : Nat -> List (Nat × Nat)) (k q f : Nat) (l1 l2 : List (Nat × Nat)) : Prop where
 lt : q < nq
 at' : Q q = l1 ++ (k, f) :: l2
 n1 : ∀ e ∈ l1, e.1 ≠ k
 n2 : ∀ e ∈ l2, e.1 ≠ k
 no : ∀ p, p < nq -> p ≠ q -> ∀ e ∈ Q p, e.1 ≠ k
def NoQ (nq : Nat) (Q : Nat -> List (Nat × Nat)) (k : Nat) : Prop := ∀ p, p < nq -> ∀ e ∈ Q p, e.1 ≠ k
section
variable {A : Ar} {nq : Nat} {cap : Nat -> Nat} {I : Nat -> List Nat} {fr L : List Nat} {Q : Nat -> List (Nat × Nat)}
theorem Rep.key (h : Rep A nq cap I fr L) {q x : Nat} (hq : q < nq) (hx : x ∈ I q) : lookN (eN A.nodes x).1 A.wh = some x /\ (eN A.nodes x).1 < keyMax := by
 obtain ⟨_, d, h1, _, h3, h4⟩ := h.ent q hq x hx
 unfold eN
 rw [h1]
 exact ⟨h3, h4⟩
theorem AbsR.no (h : AbsR A nq cap Q) {k : Nat} (hk : lookN k A.wh = none) : NoQ nq Q k := by
 obtain ⟨I, fr, h, hQ⟩ := h
 intro p hp e he
 rw [hQ p hp] at he
 obtain ⟨x, hx, rfl⟩ := List.mem_map.1 he
 intro e
 have := (h.key hp hx).1
 rw [e, hk] at this
 cases this
theorem Rep.at' (h : Rep A nq cap I fr []) (hQ : ∀ q, q < nq -> Q q = (I q).map (eN A.nodes)) {k n : Nat} (hk : lookN k A.wh = some n) : ∃ q l1 l2 d, q < nq /\ I q = l1 ++ n :: l2 /\ A.nodes[n]? = some d /\ d.queue = q /\ d.key = k /\ eN A.nodes n = (k, d.freq) /\ InQ nq Q k q d.freq (l1.map (eN A.nodes)) (l2.map (eN A.nodes)) := by
 obtain ⟨⟨d, k1, k2⟩, k3⟩ := h.wh k n hk
 rcases k3 with ⟨q, hq, k3⟩ | k3
 ·obtain ⟨l1, l2, hI⟩ := List.append_of_mem k3
  obtain ⟨_, d', e1, e2, _⟩ := h.ent q hq n k3
  rw [k1] at e1
  cases e1
  have he : eN A.nodes n = (k, d.freq) := by unfold eN; rw [k1]; simp [k2]
  have hnd := h.nd q hq
  have huniq : ∀ p, p < nq -> ∀ x ∈ I p, (eN A.nodes x).1 = k -> x = n := fun p hp x hx e => by
   have := (h.key hp hx).1
   rw [e, hk] at this
   simpa using this.symm
  refine ⟨q, l1, l2, d, hq, hI, k1, e2, k2, he, hq, ?_, ?_, ?_, ?_⟩
  ·rw [hQ q hq, hI]; simp [he]
  ·intro e hm e3
   obtain ⟨x, hx, rfl⟩ := List.mem_map.1 hm
   have := huniq q hq x (by rw [hI]; simp [hx]) e3
   subst this
   rw [hI, List.nodup_append] at hnd
   exact hnd.2.2 x hx x (by simp) rfl
  ·intro e hm e3
   obtain ⟨x, hx, rfl⟩ := List.mem_map.1 hm
   have := huniq q hq x (by rw [hI]; simp [hx]) e3
   subst this
   rw [hI, List.nodup_append, List.nodup_cons] at hnd
   exact hnd.2.1.1 hx
  ·intro p hp hpq e hm e3
   rw [hQ p hp] at hm
   obtain ⟨x, hx, rfl⟩ := List.mem_map.1 hm
   have := huniq p hp x hx e3
   subst this
   exact hpq (h.dis hp hq (x := x) (by simp [hx]) (by simp [k3]))
 ·cases k3
theorem InQ.uniq {k q f q' f' : Nat} {l1 l2 m1 m2 : List (Nat × Nat)} (h : InQ nq Q k q f l1 l2) (h' : InQ nq Q k q' f' m1 m2) : q = q' /\ f = f' /\ l1 = m1 /\ l2 = m2 := by
 have hq : q = q' := by
  by_cases e : q = q'
  ·exact e
  ·exact absurd rfl (h'.no q h.lt e (k, f) (by rw [h.at']; simp))
 subst hq
 have e := h.at'.symm.trans h'.at'
 have a1 := h.n1
 have b1 := h'.n1
 clear h h'
 induction l1 generalizing m1 with
 | nil =>
  cases m1 with
  | nil => simp at e; exact ⟨rfl, e.1, rfl, e.2⟩
  | cons x m1 => simp at e; exact absurd (by rw [<- e.1]) (b1 x (by simp))
 | cons y l1 ih =>
  cases m1 with
  | nil => simp at e; exact absurd (by rw [e.1]) (a1 y (by simp))
  | cons x m1 =>
   simp at e
   obtain ⟨_, h2, h3, h4⟩ := ih (m1 := m1) (by simpa using e.2) (fun e he => a1 e (by simp [he])) (fun e he => b1 e (by simp [he]))
   exact ⟨rfl, h2, by rw [e.1, h3], h4⟩
theorem InQ.look (h : AbsR A nq cap Q) {k q f : Nat} {l1 l2 : List (Nat × Nat)} (hi : InQ nq Q k q f l1 l2) : ∃ n, lookN k A.wh = some n := by
 cases hk : lookN k A.wh with
 | some n => exact ⟨n, rfl⟩
 | none => exact absurd rfl (h.no hk q hi.lt (k, f) (by rw [hi.at']; simp))
theorem NoQ.look (h : AbsR A nq cap Q) {k : Nat} (hi : NoQ nq Q k) : lookN k A.wh = none := by
 cases hk : lookN k A.wh with
 | none => rfl
 | some n =>
  obtain ⟨I, fr, h, hQ⟩ := h
  obtain ⟨q, l1, l2, d, hq, _, _, _, _, _, h2⟩ := h.at' hQ hk
  exact absurd rfl (hi q hq (k, d.freq) (by rw [h2.at']; simp))
theorem AbsR.where' (h : AbsR A nq cap Q) (k : Nat) : (∃ q f l1 l2, InQ nq Q k q f l1 l2) \/ NoQ nq Q k := by
 cases hk : lookN k A.wh with
 | none => exact Or.inr (h.no hk)
 | some n =>
  obtain ⟨I, fr, h, hQ⟩ := h
  obtain ⟨q, l1, l2, d, hq, _, _, _, _, _, h2⟩ := h.at' hQ hk
  exact Or.inl ⟨_, _, _, _, h2⟩
theorem AbsR.find_in (h : AbsR A nq cap Q) {k q f : Nat} {l1 l2 : List (Nat × Nat)} (hi : InQ nq Q k q f l1 l2) : A.find k = some (q, true) /\ A.freq k = some f := by
 obtain ⟨n, hk⟩ := hi.look h
 obtain ⟨I, fr, h, hQ⟩ := h
 obtain ⟨q', m1, m2, d, hq, _, h1, h2, _, _, h3⟩ := h.at' hQ hk
 obtain ⟨rfl, rfl, _, _⟩ := hi.uniq h3
 unfold Ar.find Ar.freq
 rw [hk]
 simp only [h1, Option.map_some, h2]
 exact ⟨trivial, trivial⟩
theorem AbsR.find_no (h : AbsR A nq cap Q) {k : Nat} (hi : NoQ nq Q k) : A.find k = some (0, false) /\ A.freq k = some 0 := by
 unfold Ar.find Ar.freq
 rw [hi.look h]
 exact ⟨rfl, rfl⟩
theorem AbsR.len_eq (h : AbsR A nq cap Q) {q : Nat} (hq : q < nq) : A.len q = some (Q q).length /\ A.full q = some ((Q q).length == cap q) /\ (Q q).length <= cap q /\ cap q <= 50 := by
 obtain ⟨I, fr, h, hQ⟩ := h
 unfold Ar.len Ar.full
 rw [h.qs q hq, hQ q hq]
 simp
 exact ⟨h.cb q hq, h.cm q hq⟩
theorem AbsR.tail_eq (h : AbsR A nq cap Q) {q : Nat} (hq : q < nq) : (Q q = [] -> A.tail q = some (0, false)) /\ ∀ l k f, Q q = l ++ [(k, f)] -> A.tail q = some (k, true) /\ k < keyMax /\ InQ nq Q k q f l [] := by
 have hA := h
 obtain ⟨I, fr, h, hQ⟩ := h
 unfold Ar.tail
 rw [h.qs q hq]
 constructor
 ·intro e
  rw [hQ q hq] at e
  simp at e
  simp [e]
 ·intro l k f e
  rw [hQ q hq] at e
  have hne : (I q).length ≠ 0 := by intro e2; simp at e2; rw [e2] at e; simp at e
  simp only [Option.bind_some, if_neg hne]
  obtain ⟨m, p, hm⟩ := snoc_of q (I q)
  obtain ⟨s, r, hs⟩ := cons_of q (I q)
  obtain ⟨k1, _⟩ := lk_ends (h.ring q hq) hm hs
  have hpI : ∃ m', I q = m' ++ [p] := by
   cases m with
   | nil => simp at hm; exact absurd (by rw [hm.2]; rfl) hne
   | cons a m' => simp at hm; exact ⟨m', hm.2⟩
  obtain ⟨m', hm'⟩ := hpI
  rw [hm'] at e
  simp at e
  have hpk : eN A.nodes p = (k, f) := e.2
  have hkey := h.key hq (x := p) (by rw [hm']; simp)
  rw [hpk] at hkey
  obtain ⟨q', l1, l2, d, hq', hI', h1, h2, h3, h4, h5⟩ := h.at' hQ hkey.1
  unfold prv at k1
  cases hd : A.nodes[q]? with
  | none => rw [hd] at k1; cases k1
  | some sd =>
   rw [hd] at k1
   simp only [Option.map_some, Option.some.injEq] at k1
   simp only [Option.bind_some, k1, h1, Option.map_some]
   refine ⟨by rw [h3], hkey.2, ?_⟩
   have e2 : q' = q := h.dis hq' hq (x := p) (by rw [hI']; simp) (by rw [hm']; simp)
   subst e2
   have hf : d.freq = f := by rw [hpk] at h4; simp at h4; exact h4.symm
   rw [hf] at h5
   have hl2 : l2 = [] := by
    have hnd := h.nd q' hq
    have := hm'.symm.trans hI'
    have hnd2 := hnd
    rw [hI'] at hnd2
    cases hl : l2 with
    | nil => rfl
    | cons a t =>
     exfalso
     rw [hl] at this hnd2
     have hlast : p ∈ a :: t := by
      have e9 : (m' ++ [p]).getLast? = (l1 ++ p :: a :: t).getLast? := by rw [this]
      simp at e9
      cases h9 : (a :: t).getLast? with
      | none => simp at h9
      | some z =>
       rw [h9] at e9
       simp at e9
       subst e9
       exact List.mem_of_getLast? h9
     rw [List.nodup_append, List.nodup_cons] at hnd2
     exact hnd2.2.1.1 hlast
   subst hl2
   have : l = l1.map (eN A.nodes) := by
    have h6 := hm'.symm.trans hI'
    have h7 := List.append_inj' h6 rfl
    rw [<- h7.1, <- e.1]
   rw [this]
   exact h5
theorem AbsR.setFreq_in (h : AbsR A nq cap Q) {k q f0 : Nat} {l1 l2 : List (Nat × Nat)} (hi : InQ nq Q k q f0 l1 l2) (f : Nat) : ∃ B, A.setFreq k f = some B /\ AbsR B nq cap (fun p => (Q p).map (setK k f)) := by
 obtain ⟨n, hk⟩ := hi.look h
 obtain ⟨I, fr, h, hQ⟩ := h
 obtain ⟨q', m1, m2, d, hq, _, h1, h2, h3, h4, h5⟩ := h.at' hQ hk
 unfold Ar.setFreq
 rw [hk]
 have ln := (List.getElem?_eq_some_iff.1 h1).1
 simp only [if_pos ln]
 refine ⟨_, rfl, I, fr, h.setF n f, fun p hp => ?_⟩
 show (Q p).map (setK k f) = _
 rw [hQ p hp, List.map_map]
 apply List.map_congr_left
 intro x hx
 show setK k f (eN A.nodes x) = eN (A.nodes.modify n _) x
 by_cases e : x = n
 ·subst e
  unfold eN setK
  rw [List.getElem?_modify, h1]
  simp [h3]
 ·have : (eN A.nodes x).1 ≠ k := fun e2 => by
   have := (h.key hp hx).1
   rw [e2, hk] at this
   simp at this
   exact e this.symm
  unfold setK
  rw [if_neg this]
  unfold eN
  rw [List.getElem?_modify]
  cases A.nodes[x]? <;> simp [Ne.symm e]
theorem AbsR.setFreq_no (h : AbsR A nq cap Q) {k : Nat} (hi : NoQ nq Q k) (f : Nat) : A.setFreq k f = some A := by
 unfold Ar.setFreq
 rw [hi.look h]
theorem InQ.del {k q f : Nat} {l1 l2 : List (Nat × Nat)} (hi : InQ nq Q k q f l1 l2) : delK k (Q q) = l1 ++ l2 /\ ∀ p, p < nq -> p ≠ q -> delK k (Q p) = Q p :=
 ⟨by rw [hi.at']; exact delK_split hi.n1, fun p hp hpq => delK_none (hi.no p hp hpq)⟩
theorem Rep.out (h : Rep A nq cap I fr []) (hQ : ∀ q, q < nq -> Q q = (I q).map (eN A.nodes)) {k n : Nat} (hk : lookN k A.wh = some n) : ∃ B J, A.unlink n = some B /\ Rep B nq cap J fr [n] /\ lookN k B.wh = some n /\ (∀ x, eN B.nodes x = eN A.nodes x) /\ ∀ p, p < nq -> (J p).map (eN B.nodes) = delK k (Q p) := by
 obtain ⟨q, l1, l2, d, hq, hI, h1, h2, h3, h4, h5⟩ := h.at' hQ hk
 obtain ⟨B, b1, b2, b3, b4⟩ := h.unlink hq hI
 obtain ⟨d1, d2⟩ := h5.del
 refine ⟨B, _, b1, b2, by rw [b4]; exact hk, b3, fun p hp => ?_⟩
 rw [show eN B.nodes = eN A.nodes from funext b3]
 by_cases e : p = q
 ·subst e
  rw [upd_same, d1]
  simp
 ·rw [upd_other I _ e, d2 p hp e]
  exact (hQ p hp).symm
theorem AbsR.forget_in (h : AbsR A nq cap Q) {k q f : Nat} {l1 l2 : List (Nat × Nat)} (hi : InQ nq Q k q f l1 l2) : ∃ B, A.forget k = some (true, B) /\ AbsR B nq cap (fun p => delK k (Q p)) := by
 obtain ⟨n, hk⟩ := hi.look h
 obtain ⟨I, fr, h, hQ⟩ := h
 obtain ⟨B, J, b1, b2, b3, b4, b5⟩ := h.out hQ hk
 obtain ⟨g1, g2⟩ := b2.given b3
 obtain ⟨_, ⟨dn, hn2, _⟩, _⟩ := b2.lo n (by simp)
 have ln := (List.getElem?_eq_some_iff.1 hn2).1
 unfold Ar.forget
 rw [hk]
 simp only [b1, Option.bind_some, if_pos ln]
 refine ⟨_, rfl, J, _, g1, fun p hp => ?_⟩
 show delK k (Q p) = _
 rw [<- b5 p hp]
 exact List.map_congr_left (fun x hx => (g2 p hp x hx).symm)
theorem AbsR.forget_no (h : AbsR A nq cap Q) {k : Nat} (hi : NoQ nq Q k) : A.forget k = some (false, A) := by
 unfold Ar.forget
 rw [hi.look h]
def putE (tail : Bool) (e : Nat × Nat) (l : List (Nat × Nat)) : List (Nat × Nat) := if tail then l ++ [e] else e :: l
theorem putIn_map (tail : Bool) (n : Nat) (l : List Nat) (F : Nat -> Nat × Nat) : (putIn tail n l).map F = putE tail (F n) (l.map F) := by
 cases tail <;> simp [putIn, putE]
theorem AbsR.move_no (h : AbsR A nq cap Q) {k : Nat} (hi : NoQ nq Q k) (hk2 : k < keyMax) {q : Nat} (hq : q < nq) (tail : Bool) :
  ((Q q).length = cap q -> A.move k q tail = some (false, A)) /\ ((Q q).length ≠ cap q -> ∃ B, A.move k q tail = some (true, B) /\ AbsR B nq cap (upd Q q (putE tail (k, 0) (Q q)))) := by
 obtain ⟨_, hfull, hcb, _⟩ := h.len_eq hq
 have hk := hi.look h
 unfold Ar.move
 rw [hfull]
 simp only [Option.bind_some, hk]
 constructor
 ·intro e
  rw [if_pos (by simpa using e)]
 ·intro e
  rw [if_neg (by simpa using e)]
  obtain ⟨I, fr, h, hQ⟩ := h
  have hlen : (I q).length = (Q q).length := by rw [hQ q hq]; simp
  obtain ⟨n, B, fr', b1, b2, b3, b4, b5, b6⟩ := h.add hk hk2 hq (by omega)
  obtain ⟨C, c1, c2, c3, c4⟩ := b2.link hq tail (by omega)
  simp only [b1, Option.bind_some, c1, Option.map_some]
  refine ⟨C, rfl, _, fr', c2, fun p hp => ?_⟩
  rw [show eN C.nodes = eN B.nodes from funext c3]
  have hB : ∀ p, p < nq -> (I p).map (eN B.nodes) = Q p := fun p hp => by
   rw [hQ p hp]
   exact List.map_congr_left (fun x hx => b4 p hp x hx)
  by_cases e : p = q
  ·subst e
   rw [upd_same, upd_same, putIn_map, b3, hB p hp]
  ·rw [upd_other Q _ e, upd_other I _ e, hB p hp]
theorem AbsR.move_in (h : AbsR A nq cap Q) {k p f : Nat} {l1 l2 : List (Nat × Nat)} (hi : InQ nq Q k p f l1 l2) {q : Nat} (hq : q < nq) (tail : Bool) :
  ((delK k (Q q)).length = cap q -> A.move k q tail = some (false, A)) /\ ((delK k (Q q)).length ≠ cap q -> ∃ B, A.move k q tail = some (true, B) /\ AbsR B nq cap (upd (fun r => delK k (Q r)) q (putE tail (k, f) (delK k (Q q))))) := by
 obtain ⟨_, hfull, hcb, _⟩ := h.len_eq hq
 obtain ⟨n, hk⟩ := hi.look h
 obtain ⟨e1, e2⟩ := hi.del
 obtain ⟨I, fr, h, hQ⟩ := h
 obtain ⟨p', m1, m2, d, hp, hI, h1, h2, h3, h4, h5⟩ := h.at' hQ hk
 obtain ⟨rfl, rfl, _, _⟩ := hi.uniq h5
 have hcond : ((Q q).length == cap q && !(d.queue == q)) = true ↔ (delK k (Q q)).length = cap q := by
  rw [h2]
  by_cases e : p = q
  ·subst e
   have : (Q p).length = (delK k (Q p)).length + 1 := by rw [e1, hi.at']; simp; omega
   simp
   omega
  ·rw [e2 q hq (Ne.symm e)]
   simp [e]
 unfold Ar.move
 rw [hfull]
 simp only [Option.bind_some, hk, h1]
 constructor
 ·intro e
  rw [if_pos (hcond.2 e)]
 ·intro e
  rw [if_neg (fun e3 => e (hcond.1 e3))]
  obtain ⟨B, J, b1, b2, b3, b4, b5⟩ := h.out hQ hk
  have hlen : (J q).length = (delK k (Q q)).length := by rw [<- b5 q hq]; simp
  have hle : (delK k (Q q)).length <= cap q := by
   have : (delK k (Q q)).length <= (Q q).length := (List.eraseP_sublist).length_le
   omega
  obtain ⟨C, c1, c2, c3, c4⟩ := b2.link hq tail (by omega)
  simp only [b1, Option.bind_some, c1, Option.map_some]
  refine ⟨C, rfl, _, fr, c2, fun r hr => ?_⟩
  rw [show eN C.nodes = eN B.nodes from funext c3]
  by_cases e : r = q
  ·subst e
   rw [upd_same, upd_same, putIn_map, b5 r hr, b4 n, h4]
  ·rw [upd_other _ _ e, upd_other J _ e, b5 r hr]
end
def genS {β : Type} (gen : Nat -> Nat -> β -> List Stp) (c : Cc) (base lp : Nat) (r : St × β × β) : List Stp :=
 if r.1.word = [105, 102] then
  { c.tsx r.1.cond with target := base + (gen (base + 1) lp r.2.1).length + 2 } :: (gen (base + 1) lp r.2.1 ++ jmpS (base + (gen (base + 1) lp r.2.1).length + 2 + (gen (base + (gen (base + 1) lp r.2.1).length + 2) lp r.2.2).length) :: gen (base + (gen (base + 1) lp r.2.1).length + 2) lp r.2.2)
 else if r.1.word = [114, 101, 112, 101, 97, 116] then
  ⟨12, (0, 0), (0, 0), false, false, (0, 0), (0, 0), lp, r.1.times.1, 0⟩ :: ⟨13, (0, 0), (0, 0), false, false, (0, 0), (0, 0), lp, 0, base + (gen (base + 3) (lp + 1) r.2.1).length + 4⟩ :: { c.tsx r.1.cond with target := base + (gen (base + 3) (lp + 1) r.2.1).length + 4 } :: (gen (base + 3) (lp + 1) r.2.1 ++ [jmpS (base + 1)])
 else [c.pln r.1]
def genL {β : Type} (gen : Nat -> Nat -> β -> List Stp) (c : Cc) : Nat -> Nat -> List (St × β × β) -> List Stp
 | _, _, [] => []
 | base, lp, r :: rs => genS gen c base lp r ++ genL gen c (base + (genS gen c base lp r).length) lp rs
def genB (c : Cc) : (d : Nat) -> Nat -> Nat -> BT d -> List Stp
 | 0, _, _, _ => []
 | d + 1, base, lp, xs => genL (genB c d) c base lp xs
theorem mod_mid {α : Type} (f : α -> α) (x : α) (r : List α) : ∀ (l : List α) (n : Nat), n = l.length -> (l ++ x :: r).modify n f = l ++ f x :: r
 | [], n, h => by subst h; simp
 | a :: l, n, h => by subst h; simp [mod_mid f x r l l.length rfl]
def Cc.with (c : Cc) (st : List Stp) (lp : Nat) : Cc := { c with st := st, lp := lp }
theorem genB_with (c : Cc) (st : List Stp) (lp : Nat) : ∀ (d : Nat), genB (c.with st lp) d = genB c d
 | 0 => rfl
 | d + 1 => by
  have ih := genB_with c st lp d
  funext base lp' xs
  show genL (genB (c.with st lp) d) (c.with st lp) base lp' xs = genL (genB c d) c base lp' xs
  rw [ih]
  have hS : ∀ base r, genS (genB c d) (c.with st lp) base lp' r = genS (genB c d) c base lp' r := fun _ _ => rfl
  have : ∀ (xs : List (St × BT d × BT d)) base, genL (genB c d) (c.with st lp) base lp' xs = genL (genB c d) c base lp' xs := by
   intro xs
   induction xs with
   | nil => intro _; rfl
   | cons r rs ih => intro base; show genS (genB c d) (c.with st lp) base lp' r ++ genL (genB c d) (c.with st lp) _ lp' rs = _; rw [ih]; rfl
  exact this xs base
def GenOk (d : Nat) : Prop := ∀ (c : Cc) (x : BT d), c.blk d x = c.with (c.st ++ genB c d c.st.length c.lp x) c.lp
theorem stm_gen {d : Nat} (hd : GenOk d) (c : Cc) (r : St × BT d × BT d) : c.stm (Cc.blk d) r = c.with (c.st ++ genS (genB c d) c c.st.length c.lp r) c.lp := by
 unfold Cc.stm genS
 split
 ·unfold Cc.ifs
  simp only
  rw [hd (c.add (c.tsx r.1.cond)) r.2.1]
  have e1 : (c.add (c.tsx r.1.cond)).st.length = c.st.length + 1 := by simp [Cc.add]
  have e2 : genB (c.add (c.tsx r.1.cond)) d = genB c d := genB_with c (c.st ++ [c.tsx r.1.cond]) c.lp d
  rw [e1, e2]
  have e3 : (c.add (c.tsx r.1.cond)).lp = c.lp := rfl
  rw [e3]
  generalize hT : genB c d (c.st.length + 1) c.lp r.2.1 = T
  have e4 : (((c.add (c.tsx r.1.cond)).with ((c.add (c.tsx r.1.cond)).st ++ T) c.lp).add (jmpS 0)).land c.st.length = c.with (c.st ++ { c.tsx r.1.cond with target := c.st.length + T.length + 2 } :: (T ++ [jmpS 0])) c.lp := by
   unfold Cc.land Cc.with Cc.add
   simp only [Cc.mk.injEq, true_and, and_true]
   rw [List.append_assoc, List.append_assoc, List.singleton_append, mod_mid _ _ _ _ _ rfl]
   simp
   omega
  rw [e4, hd]
  have e5 : (c.with (c.st ++ { c.tsx r.1.cond with target := c.st.length + T.length + 2 } :: (T ++ [jmpS 0])) c.lp).st.length = c.st.length + T.length + 2 := by simp [Cc.with]; omega
  have e6 : genB (c.with (c.st ++ { c.tsx r.1.cond with target := c.st.length + T.length + 2 } :: (T ++ [jmpS 0])) c.lp) d = genB c d := genB_with c _ c.lp d
  rw [e5, e6]
  have e7 : (c.with (c.st ++ { c.tsx r.1.cond with target := c.st.length + T.length + 2 } :: (T ++ [jmpS 0])) c.lp).lp = c.lp := rfl
  rw [e7]
  generalize genB c d (c.st.length + T.length + 2) c.lp r.2.2 = E
  unfold Cc.land Cc.with Cc.add
  simp only [Cc.mk.injEq, true_and, and_true]
  have e8 : c.st ++ { c.tsx r.1.cond with target := c.st.length + T.length + 2 } :: (T ++ [jmpS 0]) ++ E = (c.st ++ { c.tsx r.1.cond with target := c.st.length + T.length + 2 } :: T) ++ jmpS 0 :: E := by simp
  rw [e8, mod_mid _ _ _ _ _ (by simp <;> omega)]
  simp [jmpS]
  try omega
 ·split
  ·unfold Cc.rep
   simp only
   generalize hA : (⟨12, (0, 0), (0, 0), false, false, (0, 0), (0, 0), c.lp, r.1.times.1, 0⟩ : Stp) = a
   have e0 : ({ ((c.add a).add ⟨13, (0, 0), (0, 0), false, false, (0, 0), (0, 0), c.lp, 0, 0⟩).add (Cc.tsx ((c.add a).add ⟨13, (0, 0), (0, 0), false, false, (0, 0), (0, 0), c.lp, 0, 0⟩) r.1.cond) with lp := (((c.add a).add ⟨13, (0, 0), (0, 0), false, false, (0, 0), (0, 0), c.lp, 0, 0⟩).add (Cc.tsx ((c.add a).add ⟨13, (0, 0), (0, 0), false, false, (0, 0), (0, 0), c.lp, 0, 0⟩) r.1.cond)).lp + 1 } : Cc) = c.with (c.st ++ a :: ⟨13, (0, 0), (0, 0), false, false, (0, 0), (0, 0), c.lp, 0, 0⟩ :: [c.tsx r.1.cond]) (c.lp + 1) := by
    unfold Cc.with Cc.add
    simp
    rfl
   rw [e0, hd]
   have e5 : (c.with (c.st ++ a :: ⟨13, (0, 0), (0, 0), false, false, (0, 0), (0, 0), c.lp, 0, 0⟩ :: [c.tsx r.1.cond]) (c.lp + 1)).st.length = c.st.length + 3 := by simp [Cc.with]
   have e6 : genB (c.with (c.st ++ a :: ⟨13, (0, 0), (0, 0), false, false, (0, 0), (0, 0), c.lp, 0, 0⟩ :: [c.tsx r.1.cond]) (c.lp + 1)) d = genB c d := genB_with c _ _ d
   have e7 : (c.with (c.st ++ a :: ⟨13, (0, 0), (0, 0), false, false, (0, 0), (0, 0), c.lp, 0, 0⟩ :: [c.tsx r.1.cond]) (c.lp + 1)).lp = c.lp + 1 := rfl
   rw [e5, e6, e7]
   generalize genB c d (c.st.length + 3) (c.lp + 1) r.2.1 = T
   unfold Cc.land Cc.with Cc.add
   simp only [Cc.mk.injEq, true_and, and_true, Nat.add_sub_cancel]
   have e8 : c.st ++ a :: ⟨13, (0, 0), (0, 0), false, false, (0, 0), (0, 0), c.lp, 0, 0⟩ :: [c.tsx r.1.cond] ++ T ++ [jmpS (c.st.length + 1)] = (c.st ++ [a]) ++ ⟨13, (0, 0), (0, 0), false, false, (0, 0), (0, 0), c.lp, 0, 0⟩ :: (c.tsx r.1.cond :: (T ++ [jmpS (c.st.length + 1)])) := by simp
   rw [e8, mod_mid _ _ _ _ _ (by simp)]
   have e9 : ∀ z : Stp, (c.st ++ [a]) ++ z :: (c.tsx r.1.cond :: (T ++ [jmpS (c.st.length + 1)])) = (c.st ++ a :: [z]) ++ c.tsx r.1.cond :: (T ++ [jmpS (c.st.length + 1)]) := fun z => by simp
   rw [e9, mod_mid _ _ _ _ _ (by simp)]
   simp
   omega
  ·rfl
theorem gen_ok : ∀ d, GenOk d
 | 0 => fun c x => by show c = c.with (c.st ++ []) c.lp; simp [Cc.with]
 | d + 1 => fun c x => by
  show List.foldl (fun c r => c.stm (Cc.blk d) r) c x = c.with (c.st ++ genL (genB c d) c c.st.length c.lp x) c.lp
  have ih := gen_ok d
  have : ∀ (xs : List (St × BT d × BT d)) (c : Cc), List.foldl (fun c r => c.stm (Cc.blk d) r) c xs = c.with (c.st ++ genL (genB c d) c c.st.length c.lp xs) c.lp := by
   intro xs
   induction xs with
   | nil => intro c; show c = c.with (c.st ++ []) c.lp; simp [Cc.with]
   | cons r rs ihl =>
    intro c
    rw [List.foldl_cons, ihl, stm_gen ih]
    generalize hX : genS (genB c d) c c.st.length c.lp r = X
    have e1 : genB (c.with (c.st ++ X) c.lp) d = genB c d := genB_with c _ _ d
    have hG : ∀ base, genL (genB c d) (c.with (c.st ++ X) c.lp) base c.lp rs = genL (genB c d) c base c.lp rs := by
     have := genB_with c (c.st ++ X) c.lp (d + 1)
     intro base
     have h2 := congrFun (congrFun (congrFun this base) c.lp) rs
     have h3 : genL (genB (c.with (c.st ++ X) c.lp) d) (c.with (c.st ++ X) c.lp) base c.lp rs = genL (genB c d) c base c.lp rs := h2
     rw [e1] at h3
     exact h3
    rw [e1]
    show (c.with (c.st ++ X) c.lp).with ((c.st ++ X) ++ genL (genB c d) (c.with (c.st ++ X) c.lp) (c.st ++ X).length c.lp rs) c.lp = c.with (c.st ++ (genS (genB c d) c c.st.length c.lp r ++ genL (genB c d) c (c.st.length + (genS (genB c d) c c.st.length c.lp r).length) c.lp rs)) c.lp
    rw [hG, hX]
    simp [Cc.with]
  exact this x c
abbrev DL := List UInt8 × List UInt8 × Nat
def idxL : List DL -> List UInt8 -> Option Nat
 | [], _ => none
 | d :: L, x => if d.2.1 == x then some 0 else (idxL L x).map (· + 1)
theorem idxL_cons (d : DL) (L : List DL) (x : List UInt8) : idxL (d :: L) x = if d.2.1 == x then some 0 else (idxL L x).map (· + 1) := rfl
structure Rc where
 op : List UInt8
 n : Nat
 a : List UInt8 × Nat
 b : List UInt8 × Nat
 nots : Nat
abbrev rc0 : Rc := ⟨[], 0, ([], 0), ([], 0), 0⟩
structure Rt where
 op : List UInt8
 n : Nat
 m : Nat
 tail : Bool
 con : Rc
 other : Bool
abbrev rt0 (op : List UInt8) : Rt := ⟨op, 0, 0, false, rc0, false⟩
def RT : Nat -> Type
 | 0 => Unit
 | d + 1 => List (Rt × RT d × RT d)
def RTnil : (d : Nat) -> RT d
 | 0 => ()
 | _ + 1 => []
structure Ex where
 Q : List (List (Nat × Nat))
 V : List Nat
 gone : List Nat
def whereX : List (List (Nat × Nat)) -> Nat -> Option (Nat × Nat)
 | [], _ => none
 | q :: r, k => match q.findIdx? (isK k) with
  | some i => some (0, i)
  | none => (whereX r k).map fun p => (p.1 + 1, p.2)
def resX (L : List DL) (k : Nat) : Bool := match L[k]? with
 | some d => d.1 == [113, 117, 101, 117, 101]
 | none => false
def maxX (L : List DL) (k : Nat) : Nat := match L[k]? with
 | some d => d.2.2
 | none => 0
def Ex.out (s : Ex) (q i : Nat) : Ex := { s with Q := s.Q.modify q fun l => l.eraseIdx i }
def Ex.inn (L : List DL) (s : Ex) (e : Nat × Nat) (q : Nat) (tail : Bool) : Option Ex := if maxX L q <= (s.Q.getD q []).length then none else some { s with Q := s.Q.modify q (putE tail e) }
def Ex.leaves (L : List DL) (s : Ex) (q key : Nat) : Ex := if resX L q = true then { s with gone := s.gone ++ [key] } else s
def Ex.leavesO (L : List DL) (s : Ex) (q : Option Nat) (key : Nat) : Ex := match q with
 | none => s
 | some q => s.leaves L q key
def Ex.comes (L : List DL) (s : Ex) (e : Nat × Nat) (fro : Option Nat) (tq : Nat) (tail : Bool) : Except Nat Ex := match s.inn L e tq tail with
 | none => .error 11
 | some t => .ok (if resX L tq = true then t else t.leavesO L fro e.1)
def Ex.fr (s : Ex) (key : Nat) : Nat := match whereX s.Q key with
 | none => 0
 | some p => ((s.Q.getD p.1 []).getD p.2 (0, 0)).2
def Ex.val (s : Ex) (key : Nat) (v : List UInt8 × Nat) : Nat :=
 if v.1 = [110, 117, 109] then v.2 else if v.1 = [108, 101, 110] then (s.Q.getD v.2 []).length else if v.1 = [118, 97, 114] then s.V.getD v.2 0 else s.fr key
def Ex.yes (L : List DL) (s : Ex) (key : Nat) (c : Rc) : Bool :=
 if c.op = [102, 117, 108, 108] then decide (maxX L c.n <= (s.Q.getD c.n []).length)
 else if c.op = [101, 109, 112, 116, 121] then decide ((s.Q.getD c.n []).length = 0)
 else if c.op = [119, 97, 114, 109] then (match (s.Q.getD c.n []).getLast? with
  | none => false
  | some e => decide (0 < e.2))
 else decide (s.val key c.a < s.val key c.b)
def Ex.cond (L : List DL) (s : Ex) (key : Nat) (c : Rc) : Bool := s.yes L key c != (c.nots % 2 == 1)
def Ex.moved (L : List DL) (s : Ex) (key tq : Nat) (tail : Bool) : Except Nat Ex := match whereX s.Q key with
 | none => s.comes L (key, 0) none tq tail
 | some p => (s.out p.1 p.2).comes L ((s.Q.getD p.1 []).getD p.2 (0, 0)) (some p.1) tq tail
def Ex.dropped (L : List DL) (s : Ex) (key : Nat) : Ex := match whereX s.Q key with
 | none => s
 | some p => (s.out p.1 p.2).leaves L p.1 key
def Ex.bump (s : Ex) (mf key : Nat) : Ex := match whereX s.Q key with
 | none => s
 | some p => { s with Q := s.Q.modify p.1 fun l => l.modify p.2 fun e => if e.2 < mf then (e.1, e.2 + 1) else e }
def Ex.last (L : List DL) (s : Ex) (x : Rt) : Except Nat Ex := match (s.Q.getD x.n []).getLast? with
 | none => .error 12
 | some e =>
  if x.op = [99, 111, 111, 108] then .ok { s with Q := s.Q.modify x.n fun l => l.modify (l.length - 1) fun e => (e.1, e.2 - 1) }
  else if x.op = [101, 118, 105, 99, 116] then .ok ((s.out x.n ((s.Q.getD x.n []).length - 1)).leaves L x.n e.1)
  else if x.op = [115, 104, 105, 102, 116] then (s.out x.n ((s.Q.getD x.n []).length - 1)).comes L e (some x.n) x.m x.tail
  else .ok s
def Ex.plain (L : List DL) (mf key : Nat) (x : Rt) (s : Ex) : Except Nat Ex :=
 if x.op = [112, 117, 116] then s.moved L key x.n x.tail
 else if x.op = [100, 114, 111, 112] then .ok (s.dropped L key)
 else if x.op = [105, 110, 99] then .ok { s with V := s.V.modify x.n fun v => if v < maxX L x.n then v + 1 else v }
 else if x.op = [100, 101, 99] then .ok { s with V := s.V.modify x.n fun v => v - 1 }
 else if x.op = [98, 117, 109, 112] then .ok (s.bump mf key)
 else s.last L x
def loopX (cond : Ex -> Bool) (body : Ex -> Except Nat Ex) : Nat -> Ex -> Except Nat Ex
 | 0, s => .ok s
 | n + 1, s => if cond s = true then (match body s with
  | .error e => .error e
  | .ok t => loopX cond body n t) else .ok s
def seqX {α : Type} (f : α -> Ex -> Except Nat Ex) : List α -> Ex -> Except Nat Ex
 | [], s => .ok s
 | x :: xs, s => match f x s with
  | .error e => .error e
  | .ok t => seqX f xs t
def Ex.stm {β : Type} (blk : β -> Ex -> Except Nat Ex) (L : List DL) (mf key : Nat) (r : Rt × β × β) (s : Ex) : Except Nat Ex :=
 if r.1.op = [105, 102] then (if s.cond L key r.1.con = true then blk r.2.1 s else blk r.2.2 s)
 else if r.1.op = [114, 101, 112, 101, 97, 116] then loopX (fun s => s.cond L key r.1.con) (blk r.2.1) r.1.n s
 else s.plain L mf key r.1
def Ex.blk (L : List DL) (mf key : Nat) : (d : Nat) -> RT d -> Ex -> Except Nat Ex
 | 0, _, s => .ok s
 | d + 1, xs, s => seqX (Ex.stm (Ex.blk L mf key d) L mf key) xs s
theorem find_none {k : Nat} {l : List (Nat × Nat)} (h : ∀ e ∈ l, e.1 ≠ k) : l.findIdx? (isK k) = none := by
 rw [List.findIdx?_eq_none_iff]
 exact fun e he => by simpa [isK] using h e he
theorem find_some {k f : Nat} : ∀ {l1 l2 : List (Nat × Nat)}, (∀ e ∈ l1, e.1 ≠ k) -> (l1 ++ (k, f) :: l2).findIdx? (isK k) = some l1.length
 | [], l2, _ => by simp [List.findIdx?_cons, isK]
 | a :: l1, l2, h => by
  have h1 : isK k a = false := by simpa [isK] using h a (by simp)
  have ih := find_some (l1 := l1) (l2 := l2) (f := f) (fun e (he : e ∈ l1) => h e (by simp [he]))
  rw [List.cons_append, List.findIdx?_cons, h1, ih]
  rfl
theorem whereX_none {k : Nat} : ∀ {Q : List (List (Nat × Nat))}, (∀ l ∈ Q, ∀ e ∈ l, e.1 ≠ k) -> whereX Q k = none
 | [], _ => rfl
 | q :: r, h => by
  unfold whereX
  rw [find_none (h q (by simp)), whereX_none (fun l hl => h l (by simp [hl]))]
  rfl
theorem whereX_some {k f : Nat} {l1 l2 : List (Nat × Nat)} (h1 : ∀ e ∈ l1, e.1 ≠ k) : ∀ {Q : List (List (Nat × Nat))} {j : Nat}, Q[j]? = some (l1 ++ (k, f) :: l2) -> (∀ (i : Nat) l, i < j -> Q[i]? = some l -> ∀ e ∈ l, e.1 ≠ k) -> whereX Q k = some (j, l1.length)
 | [], _, h, _ => by simp at h
 | q :: r, 0, h, _ => by
  simp at h
  unfold whereX
  rw [h, find_some h1]
 | q :: r, j + 1, h, hn => by
  unfold whereX
  rw [find_none (hn 0 q (by omega) (by simp)), whereX_some h1 (by simpa using h) (fun i l hi hl => hn (i + 1) l (by omega) (by simpa using hl))]
  rfl
end Go.Proofs.YtfddoieakfpagabGreatDoor
