import Derived.Test.YtfddoieakfpagabGreatDoorDB
import Derived.Test.YtfddoieakfpagabGreatDoorXD
namespace Go.Proofs.YtfddoieakfpagabGreatDoor
set_option maxHeartbeats 2000000
set_option maxRecDepth 20000
open Go.RowKit
theorem stmts_wg {α : Type} {stm : Tok -> PR α} {l : List UInt8} {P : α -> Prop} (hs : ∀ t x t', stm t = .ok (x, t') -> P x) : ∀ (n : Nat) (t t' : Tok) (xs : List α), stmtsS stm l n t = .ok (xs, t') -> OkL P xs
 | 0, _, _, _, h => by cases h
 | n + 1, t, t', xs, h => by
  unfold stmtsS at h
  split at h
  ·cases h; trivial
  ·obtain ⟨x, t1, h1, h⟩ := bindR_ok h
   obtain ⟨ys, t2, h2, h⟩ := bindR_ok h
   have := stmts_wg hs n t1 t2 ys h2
   cases h
   exact ⟨hs _ _ _ h1, this⟩
def Ty (l : List UInt8) (t : Tok) : Prop := ∃ i, t = tokAt l i
theorem Ty.nx (l : List UInt8) (t : Tok) : Ty l (nx l t) := ⟨_, rfl⟩
theorem tk_num {l : List UInt8} {t : Tok} (h : Ty l t) (hk : t.kind = 3) : t.txt.length <= 3 := by
 obtain ⟨i, rfl⟩ := h
 unfold tokAt at hk ⊢
 split at hk
 ·cases hk
 ·rename_i c r hc
  split at hk
  ·unfold wordT at hk
   split at hk
   ·cases hk
   ·split at hk <;> cases hk
  ·rename_i n1
   split at hk
   ·rename_i h1
    rw [if_neg n1, if_pos h1]
    unfold digT at hk ⊢
    split at hk
    ·cases hk
    ·rename_i h3
     rw [if_neg h3]
     show _ <= 3
     simp only
     omega
   ·split at hk <;> cases hk
theorem numL_le : ∀ (t : List UInt8) (n : Nat), numL t n + 23 <= (n + 23) * 10 ^ t.length
 | [], n => by simp [numL]
 | c :: t, n => by
  have hc : c.toNat < 256 := c.toNat_lt
  have ih := numL_le t (n * 10 + (c.toNat - 48))
  show numL t (n * 10 + (c.toNat - 48)) + 23 <= _
  rw [List.length_cons, Nat.pow_succ]
  refine Nat.le_trans ih ?_
  rw [Nat.mul_comm (10 ^ t.length) 10, <- Nat.mul_assoc]
  exact Nat.mul_le_mul_right _ (by omega)
theorem num3 {l : List UInt8} {t : Tok} (h : Ty l t) (hk : t.kind = 3) : numL t.txt 0 <= 30000 := by
 have h1 := tk_num h hk
 have h2 := numL_le t.txt 0
 have h3 : 10 ^ t.txt.length <= 10 ^ 3 := Nat.pow_le_pow_right (by omega) h1
 have h4 : (0 + 23) * 10 ^ t.txt.length <= (0 + 23) * 10 ^ 3 := Nat.mul_le_mul_left _ h3
 omega
def snV (v : Vl) : Prop := v.kind <= 3 /\ v.num.1 <= 30000
def snC (c : Cd) : Prop := snV c.left /\ snV c.right
theorem value_sn {l : List UInt8} {t t' : Tok} {v : Vl} (ht : Ty l t) (h : valueS l t = .ok (v, t')) : snV v /\ Ty l t' := by
 unfold valueS at h
 unfold snV
 split at h
 ·split at h
  ·cases h; exact ⟨by simp, Ty.nx _ _⟩
  ·cases h
 ·split at h
  ·cases h; exact ⟨by simp, Ty.nx _ _⟩
  ·split at h
   ·cases h; exact ⟨by simp, Ty.nx _ _⟩
   ·split at h
    ·rename_i hk
     cases h
     exact ⟨⟨by simp, num3 ht hk⟩, Ty.nx _ _⟩
    ·cases h
theorem nots_ty {l : List UInt8} : ∀ (f : Nat) (n : Bool) (t : Tok), Ty l t -> Ty l (notsS l f n t).2
 | 0, _, _, h => h
 | f + 1, n, t, h => by
  unfold notsS
  split
  ·exact nots_ty f _ _ (Ty.nx _ _)
  ·exact h
theorem cond_sn {l : List UInt8} {t t' : Tok} {x : Cd} (ht : Ty l t) (h : condS l t = .ok (x, t')) : snC x := by
 unfold condS condT at h
 have ht2 := nots_ty (l.length + 1) false t ht
 split at h
 ·split at h
  ·cases h; exact ⟨⟨by simp, by simp⟩, by simp, by simp⟩
  ·cases h
 ·split at h
  ·cases h
  ·rename_i a t1 ha
   split at h
   ·split at h
    ·cases h
    ·rename_i c t2 hc
     cases h
     exact ⟨(value_sn ht2 ha).1, (value_sn (Ty.nx _ _) hc).1⟩
   ·cases h
def snS {β : Type} (P : β -> Prop) (r : St × β × β) : Prop := snC r.1.cond /\ r.1.times.1 <= 30000 /\ P r.2.1 /\ P r.2.2
def snB : (d : Nat) -> BT d -> Prop
 | 0, _ => True
 | d + 1, xs => OkL (snS (snB d)) xs
theorem snB_nil : ∀ d, snB d (BTnil d)
 | 0 => trivial
 | _ + 1 => trivial
theorem plain_sn {l : List UInt8} {t t' : Tok} {x : St} (h : plainS l t = .ok (x, t')) : snC x.cond /\ x.times.1 <= 30000 := by
 have h0 : ∀ s : List UInt8, snC (stW s).cond /\ (stW s).times.1 <= 30000 := fun s => ⟨⟨⟨by simp, by simp⟩, by simp, by simp⟩, by simp⟩
 unfold plainS at h
 split at h
 ·obtain ⟨n, t1, _, h⟩ := bindR_ok h
  rw [semi_ok h]
  exact h0 []
 ·split at h
  ·obtain ⟨n, t1, _, h⟩ := bindR_ok h
   obtain ⟨m, t2, _, h⟩ := bindR_ok h
   rw [semi_ok h]
   exact h0 []
  ·split at h
   ·obtain ⟨n, t1, _, h⟩ := bindR_ok h
    rw [semi_ok h]
    exact h0 []
   ·split at h
    ·rw [semi_ok h]
     exact h0 []
    ·cases h
theorem num_sn {l : List UInt8} {t t' : Tok} {n : Nat × Nat} (ht : Ty l t) (h : numS l t = .ok (n, t')) : n.1 <= 30000 := by
 unfold numS at h
 split at h
 ·rename_i hk
  cases h
  exact num3 ht hk
 ·cases h
theorem need_ty {s l : List UInt8} {t t' : Tok} {u : Unit} (h : needS s l t = .ok (u, t')) : Ty l t' := by
 unfold needS at h
 split at h
 ·cases h
  exact Ty.nx _ _
 ·cases h
theorem stmt_sn {d : Nat} {l : List UInt8} {lo : Nat} (hb : ∀ lo t x t', blockS l d lo t = .ok (x, t') -> snB d x) {t t' : Tok} {x : St × BT d × BT d} (h : stmtS (blockS l d) (BTnil d) l lo t = .ok (x, t')) : snS (snB d) x := by
 unfold stmtS at h
 split at h
 ·unfold ifS at h
  obtain ⟨c, t1, h1, h⟩ := bindR_ok h
  obtain ⟨x1, t2, h2, h⟩ := bindR_ok h
  have hc := cond_sn (Ty.nx _ _) h1
  split at h
  ·obtain ⟨y, t3, h3, h⟩ := bindR_ok h
   cases h
   exact ⟨hc, by simp, hb _ _ _ _ h2, hb _ _ _ _ h3⟩
  ·cases h
   exact ⟨hc, by simp, hb _ _ _ _ h2, snB_nil d⟩
 ·split at h
  ·unfold repS at h
   split at h
   ·cases h
   ·obtain ⟨n, t1, h1, h⟩ := bindR_ok h
    obtain ⟨_, t2, h2, h⟩ := bindR_ok h
    obtain ⟨c, t3, h3, h⟩ := bindR_ok h
    obtain ⟨y, t4, h4, h⟩ := bindR_ok h
    have e1 := num_sn (Ty.nx _ _) h1
    have e2 := cond_sn (need_ty h2) h3
    have e3 := hb _ _ _ _ h4
    cases h
    exact ⟨e2, e1, e3, snB_nil d⟩
  ·obtain ⟨s, t1, h1, h⟩ := bindR_ok h
   cases h
   exact ⟨(plain_sn h1).1, (plain_sn h1).2, snB_nil d, snB_nil d⟩
theorem block_sn {l : List UInt8} : ∀ (d lo : Nat) (t : Tok) (x : BT d) (t' : Tok), blockS l d lo t = .ok (x, t') -> snB d x
 | 0, _, _, _, _, _ => trivial
 | d + 1, lo, t, x, t', h => by
  by_cases hc : t.txt = [123]
  ·have e := (blockS_yes l d lo t hc).symm.trans h
   exact stmts_wg (fun t x t' h => stmt_sn (fun lo t x t' => block_sn d lo t x t') h) _ _ _ _ e
  ·have e := (blockS_no l d lo t hc).symm.trans h
   cases e
theorem rules_sn {l : List UInt8} : ∀ (n : Nat) (t t' : Tok) (rs : List (Nat × NP × BT 8)), rulesS l n t = .ok (rs, t') -> ∀ r ∈ rs, snB 8 r.2.2
 | 0, _, _, _, h => by cases h
 | n + 1, t, t', ds, h => by
  unfold rulesS at h
  split at h
  ·obtain ⟨d, t1, h1, h⟩ := bindR_ok h
   obtain ⟨es, t2, h2, h⟩ := bindR_ok h
   have ih := rules_sn n t1 t2 es h2
   cases h
   intro x hx
   rcases List.mem_cons.1 hx with rfl | hx
   ·unfold ruleS at h1
    obtain ⟨n, t3, _, h1⟩ := bindR_ok h1
    obtain ⟨y, t4, h4, h1⟩ := bindR_ok h1
    have := block_sn 8 0 t3 y t4 h4
    cases h1
    exact this
   ·exact ih x hx
  ·cases h
   exact fun _ hx => (by cases hx)
theorem okWT_of : ∀ (d : Nat) (x : BT d), snB d x -> okWT d x
 | 0, _, _ => trivial
 | d + 1, x, h => by
  have key : ∀ (xs : List (St × BT d × BT d)), OkL (snS (snB d)) xs -> OkL (okWS (okWT d)) xs := by
   intro xs
   induction xs with
   | nil => intro _; trivial
   | cons r xs ih =>
    intro h
    obtain ⟨⟨h1, h2, h3, h4⟩, h5⟩ := h
    exact ⟨⟨fun _ _ => ⟨⟨h1.1.1, by have := h1.1.2; omega⟩, h1.2.1, by have := h1.2.2; omega⟩, by omega, okWT_of d _ h3, okWT_of d _ h4⟩, ih h5⟩
  exact key x h
theorem read_sn {l : List UInt8} {x : List Dc × List (Nat × NP × BT 8)} (hx : readS l = .ok x) : ∀ r ∈ x.2, snB 8 r.2.2 := by
 unfold readS at hx
 split at hx
 ·cases hx
 split at hx
 ·cases hx
 rename_i y t2 hp
 split at hx
 ·cases hx
 cases hx
 unfold policyS at hp
 obtain ⟨ds, t1, v1, hp⟩ := bindR_ok hp
 obtain ⟨rs, t3, v2, hp⟩ := bindR_ok hp
 have hxy : x = (ds, rs) := by
  unfold endS at hp
  split at hp
  ·cases hp; rfl
  ·cases hp
 subst hxy
 exact rules_sn _ _ _ _ v2
theorem numx_k {x : List Dc × List (Nat × NP × BT 8)} (hF : Fine x) : ∀ d ∈ x.1, d.num.1 <= 100000 := by
 intro d hd
 obtain ⟨k1, k2, k3⟩ := (decls_none x.1 ck0 (check_none hF.ck).2).2 d hd
 rcases hF.dw d hd with e | e | e | e
 ·have := k1 (Or.inl e); omega
 ·have := k1 (Or.inr e); omega
 ·have := k2 e; omega
 ·have := k3 e; omega
theorem dig_pow : ∀ (k n : Nat), n < 10 ^ (k + 1) -> (Lib.decDigits n).length <= k + 1
 | 0, n, h => by
  unfold Lib.decDigits
  rw [dif_pos (by omega)]
  simp
 | k + 1, n, h => by
  unfold Lib.decDigits
  split
  ·simp
  ·have := dig_pow k (n / 10) (by rw [Nat.pow_succ] at h; omega)
   simp
   omega
theorem ito_l {n : Nat} (h : n <= 99999) : (itoB n).length <= 5 := by
 unfold itoB Lib.itoa
 rw [if_neg (by omega)]
 exact dig_pow 4 _ (by simp; omega)
theorem tk_l (s : Ws) (t : List UInt8) : (tkS s t).1.length <= s.1.length + t.length + 1 := by
 unfold tkS
 simp only
 split <;> simp <;> omega
theorem val_l {s : Ws} {v : Vl} (hn : v.name.1.length <= 700) (hs : snV v) : (valS s v).1.length <= s.1.length + 710 := by
 unfold valS
 split
 ·have := tk_l s (itoB v.num.1); have := ito_l (n := v.num.1) (by have := hs.2; omega); omega
 split
 ·have := tk_l s v.name.1; omega
 split
 ·have h1 := tk_l (tkS s [108, 101, 110]) v.name.1
  have h2 := tk_l s [108, 101, 110]
  simp at h2
  show (tkS (tkS s [108, 101, 110]) v.name.1).1.length <= _
  omega
 split
 ·have := tk_l s [102, 114, 101, 113]; simp at this; omega
 ·omega
theorem con_l {s : Ws} {c : Cd} (hc : c.small) (hs : snC c) (hw : wfC c) : (conT s c).1.length <= s.1.length + 1500 := by
 obtain ⟨c1, c2, c3⟩ := hc
 unfold conT
 have h0 : (if c.neg = true then tkS s [110, 111, 116] else s).1.length <= s.1.length + 4 := by
  split
  ·have := tk_l s [110, 111, 116]; simp at this; omega
  ·omega
 generalize (if c.neg = true then tkS s [110, 111, 116] else s) = s1 at *
 simp only
 split
 ·rename_i hne
  have hwl : c.word.length <= 5 := by
   rcases hw with (e | e | e) | ⟨e, _⟩
   ·rw [e]; decide
   ·rw [e]; decide
   ·rw [e]; decide
   ·exact absurd e hne
  have h1 := tk_l (tkS s1 c.word) c.queue.1
  have h2 := tk_l s1 c.word
  show (tkS (tkS s1 c.word) c.queue.1).1.length <= _
  omega
 ·have h1 := val_l (s := s1) c2 hs.1
  have h2 := tk_l (valS s1 c.left) [60]
  have h3 := val_l (s := tkS (valS s1 c.left) [60]) c3 hs.2
  simp at h2
  omega
theorem pn_l (s : Ws) (t : List UInt8) : (plnN s t).1.length <= s.1.length + t.length + 1 := by
 unfold plnN
 split
 ·exact tk_l _ _
 ·omega
theorem pl_l {s : Ws} {x : St} (h1 : x.name.1.length <= 700) (h2 : (St.to x).1.length <= 700) : (plnS s x).1.length <= s.1.length + 1500 := by
 unfold plnS
 have a1 := pn_l s x.name.1
 have a2 := pn_l (plnN s x.name.1) (St.to x).1
 generalize plnN (plnN s x.name.1) (St.to x).1 = u at *
 have a3 : (if x.tail = true then tkS u [116, 97, 105, 108] else u).1.length <= u.1.length + 5 := by
  split
  ·have := tk_l u [116, 97, 105, 108]; simp at this; omega
  ·omega
 have a4 := tk_l (if x.tail = true then tkS u [116, 97, 105, 108] else u) [59]
 simp at a4
 omega
theorem blk_l : ∀ (d lp : Nat) (s : Ws) (x : BT d), smallB d x -> wfB d lp x -> snB d x -> (blkT d s x).1.length <= s.1.length + 4 + 1000 * costB d x
 | 0, _, s, _, _, _, _ => by
  have h1 := tk_l s [123]
  have h2 := tk_l (tkS s [123]) [125]
  simp at h1 h2
  show (tkS (tkS s [123]) [125]).1.length <= _
  omega
 | d + 1, lp, s, x, hs, hw, hn => by
  have key : ∀ (xs : List (St × BT d × BT d)) (s : Ws), smallL (smallB d) xs -> wfL (wfS (wfB d) lp) xs -> OkL (snS (snB d)) xs -> (lstT (stmT (blkT d)) s xs).1.length <= s.1.length + 1000 * costL (costB d) xs := by
   intro xs
   induction xs with
   | nil => intro s _ _ _; exact Nat.le_add_right _ _
   | cons r xs ih =>
    intro s hs hw hn
    obtain ⟨⟨m1, m2, m3⟩, b1, b2, hs⟩ := hs
    obtain ⟨w1, hw⟩ := hw
    obtain ⟨⟨n1, n2, n3, n4⟩, hn⟩ := hn
    have i1 := ih (stmT (blkT d) s r) hs hw hn
    have i2 : (stmT (blkT d) s r).1.length <= s.1.length + 1000 * (4 + costB d r.2.1 + costB d r.2.2) := by
     unfold stmT
     have t1 := tk_l s r.1.word
     rcases w1 with ⟨e, hc, g1, g2⟩ | ⟨e, hc, _, g1⟩ | hp
     ·rw [if_pos e]
      rw [e] at t1 ⊢
      simp at t1
      have c1 := con_l (s := tkS s [105, 102]) m3 n1 hc
      generalize conT (tkS s [105, 102]) r.1.cond = u at *
      have k1 := blk_l d lp u r.2.1 b1 g1 n3
      split
      ·have t2 := tk_l (blkT d u r.2.1) [101, 108, 115, 101]
       simp at t2
       have k2 := blk_l d lp (tkS (blkT d u r.2.1) [101, 108, 115, 101]) r.2.2 b2 g2 n4
       omega
      ·omega
     ·rw [if_neg (by rw [e]; decide), if_pos e]
      rw [e] at t1 ⊢
      simp at t1
      have t2 := tk_l (tkS s [114, 101, 112, 101, 97, 116]) (itoB r.1.times.1)
      have t3 := tk_l (tkS (tkS s [114, 101, 112, 101, 97, 116]) (itoB r.1.times.1)) [119, 104, 105, 108, 101]
      have t4 := ito_l (n := r.1.times.1) (by omega)
      simp at t3
      show (blkT d (conT (tkS (tkS (tkS s [114, 101, 112, 101, 97, 116]) (itoB r.1.times.1)) [119, 104, 105, 108, 101]) r.1.cond) r.2.1).1.length <= _
      have c1 := con_l (s := tkS (tkS (tkS s [114, 101, 112, 101, 97, 116]) (itoB r.1.times.1)) [119, 104, 105, 108, 101]) m3 n1 hc
      generalize conT (tkS (tkS (tkS s [114, 101, 112, 101, 97, 116]) (itoB r.1.times.1)) [119, 104, 105, 108, 101]) r.1.cond = u at *
      have k1 := blk_l d (lp + 1) u r.2.1 b1 g1 n3
      omega
     ·have hne : r.1.word ≠ [105, 102] /\ r.1.word ≠ [114, 101, 112, 101, 97, 116] /\ r.1.word.length <= 5 := by
       rcases hp with e | e | (e | e) | (e | e) | e | e <;> rw [e] <;> decide
      rw [if_neg hne.1, if_neg hne.2.1]
      have c1 := pl_l (s := tkS s r.1.word) m1 m2
      have := hne.2.2
      omega
    show (lstT (stmT (blkT d)) (stmT (blkT d) s r) xs).1.length <= s.1.length + 1000 * (4 + costB d r.2.1 + costB d r.2.2 + costL (costB d) xs)
    omega
  have h1 := tk_l s [123]
  have h2 := key x (tkS s [123]) hs hw hn
  have h3 := tk_l (lstT (stmT (blkT d)) (tkS s [123]) x) [125]
  simp at h1 h3
  show (tkS (lstT (stmT (blkT d)) (tkS s [123]) x) [125]).1.length <= s.1.length + 4 + 1000 * costL (costB d) x
  omega
def isNm (t : List UInt8) : Prop := (∀ c ∈ t, letU c = true) /\ t ≠ [] /\ kwB t = false
theorem tw_all' (p : UInt8 -> Bool) : ∀ (l : List UInt8), ∀ c ∈ l.takeWhile p, p c = true
 | [], _, h => by cases h
 | a :: l, c, h => by
  rw [List.takeWhile_cons] at h
  split at h
  ·rename_i ha
   rcases List.mem_cons.1 h with rfl | h
   ·exact ha
   ·exact tw_all' p l c h
  ·cases h
theorem tk_nm {l : List UInt8} {t : Tok} (h : Ty l t) (hk : t.kind = 2) : isNm t.txt := by
 obtain ⟨i, rfl⟩ := h
 unfold tokAt at hk ⊢
 split at hk
 ·cases hk
 ·rename_i c r hc
  split at hk
  ·rename_i hl
   rw [if_pos hl]
   unfold wordT at hk ⊢
   split at hk
   ·cases hk
   ·rename_i h8
    split at hk
    ·cases hk
    ·rename_i hkw
     rw [if_neg h8, if_neg hkw]
     refine ⟨tw_all' letU _, fun e => ?_, by simpa using hkw⟩
     simp only at e
     rw [List.takeWhile_cons, if_pos hl] at e
     cases e
  ·split at hk
   ·unfold digT at hk
    split at hk <;> cases hk
   ·split at hk <;> cases hk
theorem decls_nm {l : List UInt8} : ∀ (f : Nat) (t : Tok) (ds : List Dc) (t' : Tok), declsS l f t = .ok (ds, t') -> ∀ d ∈ ds, d.word ≠ [102, 114, 101, 113] -> isNm d.name.1
 | 0, _, _, _, h => by cases h
 | f + 1, t, ds, t', h => by
  unfold declsS at h
  split at h
  ·obtain ⟨d, t1, h1, h⟩ := bindR_ok h
   obtain ⟨ds1, t2, h2, h⟩ := bindR_ok h
   cases h
   have ih := decls_nm f t1 ds1 _ h2
   intro x hx hw
   rcases List.mem_cons.1 hx with rfl | hx
   ·unfold declS at h1
    split at h1
    ·rename_i e
     obtain ⟨n, t3, _, h1⟩ := bindR_ok h1
     obtain ⟨_, t4, _, h1⟩ := bindR_ok h1
     cases h1
     exact absurd e hw
    ·obtain ⟨m, t3, h3, h1⟩ := bindR_ok h1
     obtain ⟨n, t4, _, h1⟩ := bindR_ok h1
     obtain ⟨_, t5, _, h1⟩ := bindR_ok h1
     cases h1
     unfold nameS at h3
     split at h3
     ·rename_i hk
      cases h3
      exact tk_nm (Ty.nx _ _) hk
     ·cases h3
   ·exact ih x hx hw
  ·cases h
   exact fun _ hx => (by cases hx)
theorem read_nm {l : List UInt8} {x : List Dc × List (Nat × NP × BT 8)} (h : readS l = .ok x) : ∀ d ∈ x.1, d.word ≠ [102, 114, 101, 113] -> isNm d.name.1 := by
 unfold readS at h
 split at h
 ·cases h
 split at h
 ·cases h
 rename_i y t2 hp
 split at h
 ·cases h
 cases h
 unfold policyS at hp
 obtain ⟨ds, t1, v1, hp⟩ := bindR_ok hp
 obtain ⟨rs, t3, v2, hp⟩ := bindR_ok hp
 have hxy : x = (ds, rs) := by
  unfold endS at hp
  split at hp
  ·cases hp; rfl
  ·cases hp
 subst hxy
 exact decls_nm _ _ _ _ v1
def alB (c : UInt8) : Bool := letU c || digU c
theorem nm_run : ∀ (w : List UInt8) (r cur last : List UInt8) (q g : List (List UInt8)), (∀ c ∈ w, alB c = true) -> nmW (w ++ r) cur last q g = nmW r (cur ++ w) last q g
 | [], r, cur, last, q, g, _ => by simp
 | a :: w, r, cur, last, q, g, h => by
  rw [List.cons_append]
  show (if _ then _ else _) = _
  rw [if_pos (show (letU a || digU a) = true from h a (by simp)), nm_run w r _ _ _ _ (fun c hc => h c (by simp [hc]))]
  simp
theorem nm_word {w : List UInt8} {c : UInt8} {r last : List UInt8} {q g : List (List UInt8)} (h : ∀ c ∈ w, alB c = true) (h0 : w ≠ []) (hc : alB c = false) : nmW (w ++ c :: r) [] last q g = if w = [111, 110] then (pqN last q w, pgN last g w) else nmW r [] w (pqN last q w) (pgN last g w) := by
 rw [nm_run w _ _ _ _ _ h, List.nil_append]
 show (if _ then _ else _) = _
 rw [if_neg (by rw [show (letU c || digU c) = false from hc]; simp), if_neg h0]
theorem nm_gap {c : UInt8} {r last : List UInt8} {q g : List (List UInt8)} (hc : alB c = false) : nmW (c :: r) [] last q g = nmW r [] last q g := by
 show (if _ then _ else _) = _
 rw [if_neg (by rw [show (letU c || digU c) = false from hc]; simp), if_pos rfl]
def plainW (t : List UInt8) : Prop := t ≠ [113, 117, 101, 117, 101] /\ t ≠ [103, 104, 111, 115, 116]
theorem dig_al : ∀ (n : Nat), (∀ c ∈ Lib.decDigits n, alB c = true /\ letU c = false) /\ Lib.decDigits n ≠ [] := by
 intro n
 induction n using Nat.strongRecOn with
 | _ n dg =>
  unfold Lib.decDigits
  have key : ∀ m, m < 10 -> alB (UInt8.ofNat (48 + m)) = true /\ letU (UInt8.ofNat (48 + m)) = false := by decide
  split
  ·rename_i h
   refine ⟨fun c hc => ?_, by simp⟩
   simp only [List.mem_singleton] at hc
   subst hc
   exact key n h
  ·rename_i h
   have ih := dg (n / 10) (by omega)
   refine ⟨fun c hc => ?_, by simp⟩
   rcases List.mem_append.1 hc with hc | hc
   ·exact ih.1 c hc
   ·simp only [List.mem_singleton] at hc
    subst hc
    exact key (n % 10) (by omega)
theorem ito_al (n : Nat) : (∀ c ∈ itoB n, alB c = true) /\ itoB n ≠ [] /\ plainW (itoB n) /\ itoB n ≠ [111, 110] /\ itoB n ≠ [59] := by
 unfold itoB Lib.itoa
 rw [if_neg (by omega)]
 obtain ⟨h1, h2⟩ := dig_al (n : Int).toNat
 have hne : ∀ t : List UInt8, (∃ c ∈ t, letU c = true) -> Lib.decDigits (n : Int).toNat ≠ t := fun t ⟨c, hc, hl⟩ e => by
  rw [<- e] at hc
  rw [(h1 c hc).2] at hl
  cases hl
 refine ⟨fun c hc => (h1 c hc).1, h2, ⟨hne _ ⟨113, by simp, by decide⟩, hne _ ⟨103, by simp, by decide⟩⟩, hne _ ⟨111, by simp, by decide⟩, fun e => ?_⟩
 have := (h1 59 (by rw [e]; simp)).1
 exact absurd this (by decide)
theorem nm_al' {t : List UInt8} (h : isNm t) : (∀ c ∈ t, alB c = true) /\ t ≠ [] /\ plainW t /\ t ≠ [111, 110] /\ t ≠ [59] := by
 obtain ⟨h1, h2, h3⟩ := h
 have hne : ∀ s : List UInt8, kwB s = true -> t ≠ s := fun s hs e => by rw [e, hs] at h3; cases h3
 refine ⟨fun c hc => by unfold alB; rw [h1 c hc]; rfl, h2, ⟨hne _ (by decide), hne _ (by decide)⟩, hne _ (by decide), fun e => ?_⟩
 have := h1 59 (by rw [e]; simp)
 exact absurd this (by decide)
def lnD (d : Dc) : List UInt8 := d.word ++ 32 :: (d.name.1 ++ 32 :: (itoB d.num.1 ++ 59 :: [10]))
def lnF (d : Dc) : List UInt8 := [102, 114, 101, 113] ++ 32 :: (itoB d.num.1 ++ 59 :: [10])
theorem dclT_d (l : List UInt8) (d : Dc) (hw : d.word ≠ [102, 114, 101, 113]) (hn : d.name.1 ≠ [59]) : dclT (l, false) d = (l ++ lnD d, false) := by
 have hi := (ito_al d.num.1).2.2.2.2
 unfold dclT
 rw [if_pos hw]
 simp [nlS, tksS, tkS, hn, hi, lnD]
theorem dclT_f (l : List UInt8) (d : Dc) (hw : d.word = [102, 114, 101, 113]) : dclT (l, false) d = (l ++ lnF d, false) := by
 have hi := (ito_al d.num.1).2.2.2.2
 unfold dclT
 rw [if_neg (by rw [hw]; simp), hw]
 simp [nlS, tksS, tkS, hi, lnF]
theorem dcls_d : ∀ (ds : List Dc) (l : List UInt8), (∀ d ∈ ds, d.word ≠ [102, 114, 101, 113] -> d.name.1 ≠ [59]) -> dclsT (l, false) ds false = (l ++ (ds.filter fun d => !(d.word == [102, 114, 101, 113])).flatMap lnD, false)
 | [], l, _ => by simp [dclsT, lstT]
 | d :: ds, l, h => by
  show dclsT (if (d.word == [102, 114, 101, 113]) = false then dclT (l, false) d else (l, false)) ds false = _
  by_cases hw : d.word = [102, 114, 101, 113]
  ·rw [if_neg (by simp [hw]), dcls_d ds l (fun d hd => h d (by simp [hd]))]
   simp [hw]
  ·rw [if_pos (by simpa using hw), dclT_d l d hw (h d (by simp) hw), dcls_d ds _ (fun d hd => h d (by simp [hd]))]
   simp [hw]
theorem dcls_f : ∀ (ds : List Dc) (l : List UInt8), dclsT (l, false) ds true = (l ++ (ds.filter fun d => d.word == [102, 114, 101, 113]).flatMap lnF, false)
 | [], l => by simp [dclsT, lstT]
 | d :: ds, l => by
  show dclsT (if (d.word == [102, 114, 101, 113]) = true then dclT (l, false) d else (l, false)) ds true = _
  by_cases hw : d.word = [102, 114, 101, 113]
  ·rw [if_pos (by simp [hw]), dclT_f l d hw, dcls_f ds]
   simp [hw]
  ·rw [if_neg (by simpa using hw), dcls_f ds]
   simp [hw]
def pfx (s t : Ws) : Prop := ∃ r, t.1 = s.1 ++ r
theorem pfx.refl (s : Ws) : pfx s s := ⟨[], by simp⟩
theorem pfx.trans {s t u : Ws} (h : pfx s t) (h' : pfx t u) : pfx s u := by
 obtain ⟨r, h⟩ := h
 obtain ⟨r', h'⟩ := h'
 exact ⟨r ++ r', by rw [h', h, List.append_assoc]⟩
theorem tk_p (s : Ws) (t : List UInt8) : pfx s (tkS s t) := ⟨_, rfl⟩
theorem tks_p : ∀ (ts : List (List UInt8)) (s : Ws), pfx s (tksS s ts)
 | [], s => pfx.refl s
 | t :: ts, s => (tk_p s t).trans (tks_p ts (tkS s t))
theorem val_p (s : Ws) (v : Vl) : pfx s (valS s v) := by
 unfold valS
 split
 ·exact tk_p _ _
 split
 ·exact tk_p _ _
 split
 ·exact tks_p _ _
 split
 ·exact tk_p _ _
 ·exact pfx.refl _
theorem con_p (s : Ws) (c : Cd) : pfx s (conT s c) := by
 unfold conT
 have h0 : pfx s (if c.neg = true then tkS s [110, 111, 116] else s) := by
  split
  ·exact tk_p _ _
  ·exact pfx.refl _
 simp only
 split
 ·exact h0.trans (tks_p _ _)
 ·exact h0.trans ((val_p _ _).trans ((tk_p _ _).trans (val_p _ _)))
theorem pn_p (s : Ws) (t : List UInt8) : pfx s (plnN s t) := by
 unfold plnN
 split
 ·exact tk_p _ _
 ·exact pfx.refl _
theorem pl_p (s : Ws) (x : St) : pfx s (plnS s x) := by
 unfold plnS
 refine ((pn_p s x.name.1).trans (pn_p (plnN s x.name.1) (St.to x).1)).trans (pfx.trans ?_ (tk_p _ _))
 split
 ·exact tk_p _ _
 ·exact pfx.refl _
theorem lst_p {α : Type} {f : Ws -> α -> Ws} (hf : ∀ s x, pfx s (f s x)) : ∀ (xs : List α) (s : Ws), pfx s (lstT f s xs)
 | [], s => pfx.refl s
 | x :: xs, s => (hf s x).trans (lst_p hf xs (f s x))
theorem stm_p {β : Type} {blk : Ws -> β -> Ws} (hb : ∀ s x, pfx s (blk s x)) (s : Ws) (r : St × β × β) : pfx s (stmT blk s r) := by
 unfold stmT
 split
 ·split
  ·exact (tk_p _ _).trans ((con_p _ _).trans ((hb _ _).trans ((tk_p _ _).trans (hb _ _))))
  ·exact (tk_p _ _).trans ((con_p _ _).trans (hb _ _))
 split
 ·exact (tk_p _ _).trans ((tks_p _ _).trans ((con_p _ _).trans (hb _ _)))
 ·exact (tk_p _ _).trans (pl_p _ _)
theorem blk_p : ∀ (d : Nat) (s : Ws) (x : BT d), pfx s (blkT d s x)
 | 0, _s, _ => (tk_p _ _).trans (tk_p _ _)
 | d + 1, _s, xs => (tk_p _ _).trans ((lst_p (fun s x => stm_p (blk_p d) s x) xs _).trans (tk_p _ _))
def OnS (T : List UInt8) (s : Ws) : Prop := ∃ r, s.1 = T ++ ([111, 110] ++ 32 :: r)
theorem OnS.pfx {T : List UInt8} {s t : Ws} (h : OnS T s) (hp : pfx s t) : OnS T t := by
 obtain ⟨r, h⟩ := h
 obtain ⟨r', hp⟩ := hp
 exact ⟨r ++ r', by rw [hp, h]; simp⟩
theorem nl_p (s : Ws) : Go.Proofs.YtfddoieakfpagabGreatDoor.pfx s (nlS s) := ⟨[10], rfl⟩
theorem rul_on {T : List UInt8} {s : Ws} (hs : s = (T, false) \/ OnS T s) {ev : List UInt8} (he : ev ≠ [59]) (r : Nat × NP × BT 8) : (rulT s ev r = (T, false) \/ OnS T (rulT s ev r)) /\ (r.2.1.1 = ev -> OnS T (rulT s ev r)) := by
 unfold rulT
 by_cases h : r.2.1.1 = ev
 ·rw [if_pos h]
  have : OnS T (nlS (blkT 8 (tksS s [[111, 110], ev]) r.2.2)) := by
   rcases hs with rfl | hs
   ·refine OnS.pfx (s := tksS (T, false) [[111, 110], ev]) ⟨ev, ?_⟩ ((blk_p _ _ _).trans (nl_p _))
    simp [tksS, tkS, he]
   ·exact hs.pfx ((tks_p _ _).trans ((blk_p _ _ _).trans (nl_p _)))
  exact ⟨Or.inr this, fun _ => this⟩
 ·rw [if_neg h]
  exact ⟨hs, fun e => absurd e h⟩
theorem ruls_on {T : List UInt8} {ev : List UInt8} (he : ev ≠ [59]) : ∀ (rs : List (Nat × NP × BT 8)) (s : Ws), (s = (T, false) \/ OnS T s) -> (rulsT s rs ev = (T, false) \/ OnS T (rulsT s rs ev)) /\ ((∃ r ∈ rs, r.2.1.1 = ev) -> OnS T (rulsT s rs ev))
 | [], s, hs => ⟨hs, fun ⟨r, hr, _⟩ => by cases hr⟩
 | r :: rs, s, hs => by
  obtain ⟨a1, a2⟩ := rul_on hs he r
  obtain ⟨b1, b2⟩ := ruls_on he rs (rulT s ev r) a1
  refine ⟨b1, fun ⟨r', hr', e⟩ => ?_⟩
  rcases List.mem_cons.1 hr' with rfl | hr'
  ·have h0 := a2 e
   exact h0.pfx (lst_p (fun s r => by
    unfold rulT
    split
    ·exact (tks_p _ _).trans ((blk_p _ _ _).trans (nl_p _))
    ·exact Go.Proofs.YtfddoieakfpagabGreatDoor.pfx.refl _) rs _)
  ·exact b2 ⟨r', hr', e⟩
theorem txt_on {x : List Dc × List (Nat × NP × BT 8)} (hn : ∀ d ∈ x.1, d.name.1 ≠ [59]) (hm : ∃ r ∈ x.2, r.2.1.1 = [109, 105, 115, 115]) : ∃ r, (txtT x).1 = (x.1.filter fun d => !(d.word == [102, 114, 101, 113])).flatMap lnD ++ (x.1.filter fun d => d.word == [102, 114, 101, 113]).flatMap lnF ++ ([111, 110] ++ 32 :: r) := by
 unfold txtT
 rw [dcls_d x.1 [] (fun d hd _ => hn d hd), dcls_f, List.nil_append]
 generalize (x.1.filter fun d => !(d.word == [102, 114, 101, 113])).flatMap lnD ++ (x.1.filter fun d => d.word == [102, 114, 101, 113]).flatMap lnF = T
 have key : ∀ (ds : List Dc) (s : Ws), (∀ d ∈ ds, d.name.1 ≠ [59]) -> (s = (T, false) \/ OnS T s) -> (lstT (fun s (d : Dc) => rulsT s x.2 d.name.1) s ds = (T, false) \/ OnS T (lstT (fun s (d : Dc) => rulsT s x.2 d.name.1) s ds)) := by
  intro ds
  induction ds with
  | nil => intro s _ h; exact h
  | cons d ds ih => intro s hd h; exact ih _ (fun d' h' => hd d' (by simp [h'])) (ruls_on (hd d (by simp)) x.2 s h).1
 exact (ruls_on (by decide) x.2 _ (key x.1 _ hn (Or.inl rfl))).2 hm
theorem nm_dec {d : Dc} {r last : List UInt8} {q g : List (List UInt8)} (hw : d.word = [113, 117, 101, 117, 101] \/ d.word = [103, 104, 111, 115, 116] \/ d.word = [118, 97, 114]) (hn : isNm d.name.1) (hl : plainW last) : nmW (lnD d ++ r) [] last q g = nmW r [] (itoB d.num.1) (if d.word = [113, 117, 101, 117, 101] then q ++ [d.name.1] else q) (if d.word = [103, 104, 111, 115, 116] then g ++ [d.name.1] else g) := by
 obtain ⟨n1, n2, n3, n4, _⟩ := nm_al' hn
 obtain ⟨i1, i2, i3, i4, _⟩ := ito_al d.num.1
 have w1 : (∀ c ∈ d.word, alB c = true) /\ d.word ≠ [] /\ d.word ≠ [111, 110] := by rcases hw with e | e | e <;> rw [e] <;> decide
 have e0 : lnD d ++ r = d.word ++ 32 :: (d.name.1 ++ 32 :: (itoB d.num.1 ++ 59 :: (10 :: r))) := by simp [lnD]
 rw [e0, nm_word w1.1 w1.2.1 (by decide), if_neg w1.2.2]
 have p1 : pqN last q d.word = q := if_neg hl.1
 have p2 : pgN last g d.word = g := if_neg hl.2
 rw [p1, p2, nm_word n1 n2 (by decide), if_neg n4, nm_word i1 i2 (by decide), if_neg i4, nm_gap (by decide)]
 have p3 : ∀ a b, pqN d.name.1 a b = a := fun a b => if_neg n3.1
 have p4 : ∀ a b, pgN d.name.1 a b = a := fun a b => if_neg n3.2
 rw [p3, p4]
 rfl
theorem nm_frq {d : Dc} {r last : List UInt8} {q g : List (List UInt8)} (hl : plainW last) : nmW (lnF d ++ r) [] last q g = nmW r [] (itoB d.num.1) q g := by
 obtain ⟨i1, i2, i3, i4, _⟩ := ito_al d.num.1
 have e0 : lnF d ++ r = [102, 114, 101, 113] ++ 32 :: (itoB d.num.1 ++ 59 :: (10 :: r)) := by simp [lnF]
 have p1 : pqN last q [102, 114, 101, 113] = q := if_neg hl.1
 have p2 : pgN last g [102, 114, 101, 113] = g := if_neg hl.2
 rw [e0, nm_word (by decide) (by decide) (by decide), if_neg (by decide), p1, p2, nm_word i1 i2 (by decide), if_neg i4, nm_gap (by decide)]
 rfl
theorem nm_decs : ∀ (ds : List Dc) (r last : List UInt8) (q g : List (List UInt8)), (∀ d ∈ ds, (d.word = [113, 117, 101, 117, 101] \/ d.word = [103, 104, 111, 115, 116] \/ d.word = [118, 97, 114]) /\ isNm d.name.1) -> plainW last -> ∃ last', plainW last' /\ nmW (ds.flatMap lnD ++ r) [] last q g = nmW r [] last' (q ++ (ds.filter fun d => d.word == [113, 117, 101, 117, 101]).map (·.name.1)) (g ++ (ds.filter fun d => d.word == [103, 104, 111, 115, 116]).map (·.name.1))
 | [], r, last, q, g, _, hl => ⟨last, hl, by simp⟩
 | d :: ds, r, last, q, g, h, hl => by
  obtain ⟨h1, h2⟩ := h d (by simp)
  obtain ⟨l2, hl2, e⟩ := nm_decs ds r (itoB d.num.1) (if d.word = [113, 117, 101, 117, 101] then q ++ [d.name.1] else q) (if d.word = [103, 104, 111, 115, 116] then g ++ [d.name.1] else g) (fun d' hd' => h d' (by simp [hd'])) (ito_al _).2.2.1
  refine ⟨l2, hl2, ?_⟩
  rw [List.flatMap_cons, List.append_assoc, nm_dec h1 h2 hl, e]
  congr 1
  ·by_cases c : d.word = [113, 117, 101, 117, 101] <;> simp [c]
  ·by_cases c : d.word = [103, 104, 111, 115, 116] <;> simp [c]
theorem nm_frqs : ∀ (ds : List Dc) (r last : List UInt8) (q g : List (List UInt8)), plainW last -> ∃ last', plainW last' /\ nmW (ds.flatMap lnF ++ r) [] last q g = nmW r [] last' q g
 | [], r, last, q, g, hl => ⟨last, hl, by simp⟩
 | d :: ds, r, last, q, g, hl => by
  obtain ⟨l2, hl2, e⟩ := nm_frqs ds r (itoB d.num.1) q g (ito_al _).2.2.1
  exact ⟨l2, hl2, by rw [List.flatMap_cons, List.append_assoc, nm_frq hl, e]⟩
theorem nms_of {ds : List Dc} (w : List UInt8) (_hw : w ≠ [102, 114, 101, 113]) : ((ds.filter fun d => !(d.word == [102, 114, 101, 113])).filter fun d => d.word == w).map (·.name.1) = nmsW (declL ds) w := by
 unfold nmsW declL
 rw [List.filter_map, List.map_map]
 rfl
theorem decls_fq {l : List UInt8} : ∀ (f : Nat) (t : Tok) (ds : List Dc) (t' : Tok), declsS l f t = .ok (ds, t') -> ∀ d ∈ ds, d.word = [102, 114, 101, 113] -> d.name.1 = []
 | 0, _, _, _, h => by cases h
 | f + 1, t, ds, t', h => by
  unfold declsS at h
  split at h
  ·obtain ⟨d, t1, h1, h⟩ := bindR_ok h
   obtain ⟨ds1, t2, h2, h⟩ := bindR_ok h
   cases h
   have ih := decls_fq f t1 ds1 _ h2
   intro x hx hw
   rcases List.mem_cons.1 hx with rfl | hx
   ·unfold declS at h1
    split at h1
    ·obtain ⟨n, t3, _, h1⟩ := bindR_ok h1
     obtain ⟨_, t4, _, h1⟩ := bindR_ok h1
     cases h1
     rfl
    ·rename_i e2
     obtain ⟨m, t3, h3, h1⟩ := bindR_ok h1
     obtain ⟨n, t4, _, h1⟩ := bindR_ok h1
     obtain ⟨_, t5, _, h1⟩ := bindR_ok h1
     cases h1
     exact absurd hw e2
   ·exact ih x hx hw
  ·cases h
   exact fun _ hx => (by cases hx)
theorem read_fq {l : List UInt8} {x : List Dc × List (Nat × NP × BT 8)} (h : readS l = .ok x) : ∀ d ∈ x.1, d.word = [102, 114, 101, 113] -> d.name.1 = [] := by
 unfold readS at h
 split at h
 ·cases h
 split at h
 ·cases h
 rename_i y t2 hp
 split at h
 ·cases h
 cases h
 unfold policyS at hp
 obtain ⟨ds, t1, v1, hp⟩ := bindR_ok hp
 obtain ⟨rs, t3, v2, hp⟩ := bindR_ok hp
 have hxy : x = (ds, rs) := by
  unfold endS at hp
  split at hp
  ·cases hp; rfl
  ·cases hp
 subst hxy
 exact decls_fq _ _ _ _ v1
theorem miss_in {l : List UInt8} {x : List Dc × List (Nat × NP × BT 8)} (h : readS l = .ok x) : ∃ r ∈ x.2, r.2.1.1 = [109, 105, 115, 115] := by
 obtain ⟨y, hy⟩ := (prg_of h).miss
 have hy : (ruleOf x.2 [109, 105, 115, 115]).map (treeOf (declL x.1) 8) = some y := hy
 cases hr : ruleOf x.2 [109, 105, 115, 115] with
 | none => rw [hr] at hy; cases hy
 | some z =>
  obtain ⟨r, h1, h2, _⟩ := ruleOf_mem hr
  exact ⟨r, h1, h2⟩
theorem names_txt {l : List UInt8} {x : List Dc × List (Nat × NP × BT 8)} (hx : readS l = .ok x) : nmW (txtT x).1 [] [] [] [] = (nmsW (polOf x).L [113, 117, 101, 117, 101], nmsW (polOf x).L [103, 104, 111, 115, 116]) := by
 have hF := read_fine hx
 have hnm := read_nm hx
 have hn : ∀ d ∈ x.1, d.name.1 ≠ [59] := fun d hd => by
  by_cases hw : d.word = [102, 114, 101, 113]
  ·rw [read_fq hx d hd hw]; decide
  ·exact (nm_al' (hnm d hd hw)).2.2.2.2
 obtain ⟨r, e⟩ := txt_on hn (miss_in hx)
 obtain ⟨l1, p1, e1⟩ := nm_decs (x.1.filter fun d => !(d.word == [102, 114, 101, 113])) ((x.1.filter fun d => d.word == [102, 114, 101, 113]).flatMap lnF ++ ([111, 110] ++ 32 :: r)) [] [] [] (fun d hd => by
  obtain ⟨h1, h2⟩ := List.mem_filter.1 hd
  have h2 : d.word ≠ [102, 114, 101, 113] := by simpa using h2
  refine ⟨?_, hnm d h1 h2⟩
  rcases hF.dw d h1 with a | a | a | a
  ·exact Or.inl a
  ·exact Or.inr (Or.inl a)
  ·exact Or.inr (Or.inr a)
  ·exact absurd a h2) ⟨by decide, by decide⟩
 obtain ⟨l2, p2, e2⟩ := nm_frqs (x.1.filter fun d => d.word == [102, 114, 101, 113]) ([111, 110] ++ 32 :: r) l1 ([] ++ ((x.1.filter fun d => !(d.word == [102, 114, 101, 113])).filter fun d => d.word == [113, 117, 101, 117, 101]).map (·.name.1)) ([] ++ ((x.1.filter fun d => !(d.word == [102, 114, 101, 113])).filter fun d => d.word == [103, 104, 111, 115, 116]).map (·.name.1)) p1
 rw [e, List.append_assoc, e1, e2, nm_word (by decide) (by decide) (by decide), if_pos rfl]
 have q1 : ∀ a b, pqN l2 a b = a := fun a b => if_neg p2.1
 have q2 : ∀ a b, pgN l2 a b = a := fun a b => if_neg p2.2
 rw [q1, q2, List.nil_append, List.nil_append, nms_of _ (by decide), nms_of _ (by decide)]
 rfl
theorem fault_keep (c : Ck) (i p : Nat) : (c.fault i p).names = c.names /\ (c.fault i p).freqs = c.freqs /\ (c.fault i p).first ≠ none := by
 unfold Ck.fault
 cases hf : c.first with
 | none => exact ⟨rfl, rfl, by simp⟩
 | some e => exact ⟨rfl, rfl, by rw [hf]; simp⟩
theorem bound_fq (s : Ck) (v p m : Nat) : (s.bound v p m).freqs = s.freqs /\ ((s.bound v p m).first = none -> 1 <= v /\ s.first = none) := by
 unfold Ck.bound
 split
 ·exact ⟨(fault_keep s _ _).2.1, fun h => absurd h (fault_keep s _ _).2.2⟩
 ·exact ⟨rfl, fun h => ⟨by omega, h⟩⟩
theorem declare_fq (s : Ck) (n : NP) (k : Nat) : (s.declare n k).freqs = s.freqs := by
 unfold Ck.declare
 split
 ·exact (fault_keep s _ _).2.1
 ·split
  ·exact (fault_keep s _ _).2.1
  ·rfl
theorem decl_fq (s : Ck) (d : Dc) (h : (s.decl d).first = none) : (d.word = [102, 114, 101, 113] -> s.freqs = 0 /\ 1 <= d.num.1 /\ (s.decl d).freqs = 1) /\ (d.word ≠ [102, 114, 101, 113] -> (s.decl d).freqs = s.freqs) := by
 unfold Ck.decl at h ⊢
 split
 ·rename_i e
  refine ⟨fun e2 => ?_, fun _ => ?_⟩
  ·rcases e with e | e <;> rw [e] at e2 <;> exact absurd e2 (by decide)
  ·rw [(bound_fq _ _ _ _).1, declare_fq]
 ·rename_i n1
  rw [if_neg n1] at h
  split
  ·rename_i e
   refine ⟨fun e2 => ?_, fun _ => ?_⟩
   ·rw [e] at e2; exact absurd e2 (by decide)
   ·rw [(bound_fq _ _ _ _).1, declare_fq]
  ·rename_i n2
   rw [if_neg n2] at h
   split
   ·rename_i e
    rw [if_pos e] at h
    refine ⟨fun _ => ?_, fun e2 => absurd e e2⟩
    have hb := (bound_fq _ _ _ _).2 h
    simp only at hb ⊢
    rw [(bound_fq _ _ _ _).1]
    by_cases hc : s.freqs + 1 > 1
    ·rw [if_pos hc] at hb
     exact absurd hb.2 (fault_keep _ _ _).2.2
    ·rw [if_neg hc]
     exact ⟨by omega, hb.1, by show s.freqs + 1 = 1; omega⟩
   ·rename_i e
    exact ⟨fun e2 => absurd e2 e, fun _ => rfl⟩
theorem frq_cnt : ∀ (ds : List Dc) (s : Ck), (ds.foldl Ck.decl s).first = none -> s.freqs <= 1 -> s.freqs + (ds.filter fun d => d.word == [102, 114, 101, 113]).length <= 1
 | [], s, _, h1 => by simpa using h1
 | d :: ds, s, h, h1 => by
  rw [List.foldl_cons] at h
  obtain ⟨k1, k2⟩ := decl_fq s d (decls_none ds (s.decl d) h).1
  by_cases e : d.word = [102, 114, 101, 113]
  ·obtain ⟨a1, _, a3⟩ := k1 e
   have := frq_cnt ds (s.decl d) h (by omega)
   rw [List.filter_cons_of_pos (by simp [e]), List.length_cons]
   omega
  ·have := frq_cnt ds (s.decl d) h (by rw [k2 e]; exact h1)
   rw [List.filter_cons_of_neg (by simpa using e)]
   rw [k2 e] at this
   exact this
theorem len_split (p : Dc -> Bool) : ∀ (ds : List Dc), ds.length = (ds.filter fun d => !(p d)).length + (ds.filter p).length
 | [] => rfl
 | d :: ds => by
  have := len_split p ds
  cases h : p d <;> simp [h] <;> omega
theorem decls_nine {l : List UInt8} {x : List Dc × List (Nat × NP × BT 8)} (hx : readS l = .ok x) : x.1.length <= 9 := by
 have hF := read_fine hx
 have h1 := frq_cnt x.1 ck0 (check_none hF.ck).2 (by decide)
 have h2 : (declL x.1).length <= 8 := (prg_of hx).ll
 unfold declL at h2
 rw [List.length_map] at h2
 have := len_split (fun d => d.word == [102, 114, 101, 113]) x.1
 omega
theorem rul_l {s : Ws} {ev : List UInt8} (he : ev.length <= 700) {r : Nat × NP × BT 8} (h1 : smallB 8 r.2.2) (h2 : wfB 8 0 r.2.2) (h3 : snB 8 r.2.2) (h4 : costB 8 r.2.2 <= 2800) : (rulT s ev r).1.length <= s.1.length + 2900000 := by
 unfold rulT
 split
 ·have a1 := tk_l s [111, 110]
  have a2 := tk_l (tkS s [111, 110]) ev
  have a3 := blk_l 8 0 (tksS s [[111, 110], ev]) r.2.2 h1 h2 h3
  simp at a1
  have a4 : (tksS s [[111, 110], ev]).1.length = (tkS (tkS s [111, 110]) ev).1.length := rfl
  unfold nlS
  simp only [List.length_append, List.length_singleton]
  omega
 ·omega
theorem lst_l {α : Type} {f : Ws -> α -> Ws} {M : Nat} : ∀ (xs : List α) (s : Ws), (∀ x ∈ xs, ∀ s, (f s x).1.length <= s.1.length + M) -> (lstT f s xs).1.length <= s.1.length + xs.length * M
 | [], s, _ => by simp [lstT]
 | x :: xs, s, h => by
  have h1 := h x (by simp) s
  have h2 := lst_l xs (f s x) (fun y hy => h y (by simp [hy]))
  have h3 : (x :: xs).length * M = M + xs.length * M := by rw [List.length_cons, Nat.add_mul]; omega
  rw [h3]
  show (lstT f (f s x) xs).1.length <= _
  omega
theorem txt_l {l : List UInt8} {x : List Dc × List (Nat × NP × BT 8)} (hx : readS l = .ok x) : (txtT x).1.length <= 100000000000 /\ (txtT x).1 ≠ [] := by
 have hF := read_fine hx
 have h9 := decls_nine hx
 have hr := hF.rn
 have hdn := numx_k hF
 have hR : ∀ ev : List UInt8, ev.length <= 700 -> ∀ s, (rulsT s x.2 ev).1.length <= s.1.length + x.2.length * 2900000 := fun ev he s =>
  lst_l x.2 s (fun r hr s => rul_l he (hF.r7 r hr).2 (read_wf hx r hr) (read_sn hx r hr) (read_cost hx r hr))
 have hD : ∀ f s, (dclsT s x.1 f).1.length <= s.1.length + x.1.length * 800 := fun f s => lst_l x.1 s (fun d hd s => by
  split
  ·unfold dclT
   have a0 : d.word.length <= 5 := by rcases hF.dw d hd with e | e | e | e <;> rw [e] <;> decide
   have a1 := tk_l s d.word
   have a2 := tk_l (tkS s d.word) d.name.1
   have a3 := hF.d7 d hd
   have a4 : (if d.word ≠ [102, 114, 101, 113] then tkS (tkS s d.word) d.name.1 else tkS s d.word).1.length <= s.1.length + 710 := by
    split <;> omega
   generalize (if d.word ≠ [102, 114, 101, 113] then tkS (tkS s d.word) d.name.1 else tkS s d.word) = u at *
   have a5 := tk_l u (itoB d.num.1)
   have a6 := tk_l (tkS u (itoB d.num.1)) [59]
   have a7 := ito_l (n := d.num.1) (by
    obtain ⟨k1, k2, k3⟩ := (decls_none x.1 ck0 (check_none hF.ck).2).2 d hd
    rcases hF.dw d hd with e | e | e | e
    ·have := k1 (Or.inl e); omega
    ·have := k1 (Or.inr e); omega
    ·have := k2 e; omega
    ·have := k3 e; omega)
   simp at a6
   have a8 : (tksS u [itoB d.num.1, [59]]).1.length = (tkS (tkS u (itoB d.num.1)) [59]).1.length := rfl
   unfold nlS
   simp only [List.length_append, List.length_singleton]
   omega
  ·omega)
 have h1 := hD false ([], false)
 have h2 := hD true (dclsT ([], false) x.1 false)
 have h3 := lst_l (f := fun s (d : Dc) => rulsT s x.2 d.name.1) (M := x.2.length * 2900000) x.1 (dclsT (dclsT ([], false) x.1 false) x.1 true) (fun d hd s => hR _ (hF.d7 d hd) s)
 have h4 := hR [109, 105, 115, 115] (by decide) (lstT (fun s (d : Dc) => rulsT s x.2 d.name.1) (dclsT (dclsT ([], false) x.1 false) x.1 true) x.1)
 have h5 : x.1.length * (x.2.length * 2900000) <= 9 * (900 * 2900000) := Nat.mul_le_mul h9 (Nat.mul_le_mul_right _ hr)
 have h6 : x.2.length * 2900000 <= 900 * 2900000 := Nat.mul_le_mul_right _ hr
 simp at h1
 refine ⟨?_, fun e => ?_⟩
 ·show (rulsT (lstT (fun s (d : Dc) => rulsT s x.2 d.name.1) (dclsT (dclsT ([], false) x.1 false) x.1 true) x.1) x.2 [109, 105, 115, 115]).1.length <= _
  omega
 ·have hn : ∀ d ∈ x.1, d.name.1 ≠ [59] := fun d hd => by
   by_cases hw : d.word = [102, 114, 101, 113]
   ·rw [read_fq hx d hd hw]; decide
   ·exact (nm_al' (read_nm hx d hd hw)).2.2.2.2
  obtain ⟨r, e2⟩ := txt_on hn (miss_in hx)
  rw [e] at e2
  have := congrArg List.length e2
  simp at this
section
variable {w : World} {eb : Nat} {dom : Nat -> Prop} {x : Tx} {s : Ex} {n : Nat × Nat × Nat}
theorem etext (h : Eg w eb dom x s n) (ht : Tb w.heap.size w) : Calls Tryz.prog 20 #[ptr eb] w fun e w' => e = .returned (S (txtT x).1) /\ Below w.heap.size w w' := by
 obtain ⟨nb, lo, mb, A, V, h1, h2, h3, h4, h5⟩ := h.ex
 obtain ⟨l, hx⟩ := h.rd
 obtain ⟨hlen, h0⟩ := txt_l hx
 have HL := loaded_any h1
 have HT := ptext h2.tree ht (numx_k (read_fine hx)) (fun r hr => okWT_of 8 r.2.2 (read_sn hx r hr)) hlen h0
 obtain ⟨c1, cf1⟩ := blk_cl h1
 generalize (txtT x).1 = t at *
 go_enter Tryz.func20, Tryz.ntmps20
 go_wp2_with (first | (go_at_call 27; refine HL.mono ?_; rintro e w1 ⟨rfl, rfl⟩) | (go_at_call 33; refine HT.mono ?_; rintro e w2 ⟨rfl, q⟩))
 go_ret
 exact ⟨rfl, q⟩
end
end Go.Proofs.YtfddoieakfpagabGreatDoor
