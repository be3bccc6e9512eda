import Derived.Test.YtfddoieakfpagabGreatDoorJF
namespace Go.Proofs.YtfddoieakfpagabGreatDoor
set_option maxHeartbeats 4000000
set_option maxRecDepth 20000
open Go.RowKit
abbrev Tx := List Dc × List (Nat × NP × BT 8)
def qiX (x : Tx) : Nat -> Nat := cntL nvB (declL x.1)
def viX (x : Tx) : Nat -> Nat := cntL vrB (declL x.1)
structure Eg (w : World) (eb : Nat) (dom : Nat -> Prop) (x : Tx) (s : Ex) (n : Nat × Nat × Nat) : Prop where
 ex : ∃ nb lo mb A V, w.heap[eb]? = some (.cells #[ptr nb, ptr mb, .int .i64 n.1, .int .i64 n.2.1, .int .i64 n.2.2] 72) /\ TreeF w nb lo x /\ lo <= mb /\ Mv w mb nb dom (compS x) A V /\ MS (compS x) (polOf x) (qiX x) (viX x) A V s
 rd : ∃ l, readS l = .ok x
 off : ¬ dom eb
 gn : s.gone = []
section
variable {w w' : World} {eb : Nat} {dom : Nat -> Prop} {x : Tx} {s : Ex} {n : Nat × Nat × Nat} {E : Nat -> Addr}
theorem Eg.prg (h : Eg w eb dom x s n) : Prg (compS x) (polOf x) (qiX x) (viX x) := by
 obtain ⟨l, hl⟩ := h.rd
 exact prg_of hl
theorem Eg.lt (h : Eg w eb dom x s n) : eb < w.heap.size := by
 obtain ⟨nb, lo, mb, A, V, h1, _⟩ := h.ex
 exact (Array.getElem?_eq_some_iff.1 h1).1
theorem Eg.dl (h : Eg w eb dom x s n) : ∀ k, dom k -> k < w.heap.size := by
 obtain ⟨nb, lo, mb, A, V, _, _, _, ⟨v, rm, lo0, ab, mp, xx, y, vs, hM⟩, _⟩ := h.ex
 exact hM.dl
theorem Eg.keep (h : Eg w eb dom x s n) (hs : w.heap.size <= w'.heap.size) (hb : ∀ k, k < w.heap.size -> dom k \/ k = eb -> w'.heap[k]? = w.heap[k]?) : Eg w' eb dom x s n := by
 obtain ⟨nb, lo, mb, A, V, h1, h2, h3, h4, h5⟩ := h.ex
 refine ⟨⟨nb, lo, mb, A, V, (hb eb h.lt (Or.inr rfl)).trans h1, h2.move (fun g hg hl => ?_), h3, h4.keep hs (fun k hk hd => hb k hk (Or.inl hd)), h5⟩, h.rd, h.off, h.gn⟩
 obtain ⟨v, rm, lo0, ab, mp, xx, y, vs, hM⟩ := h4
 have hd := hM.dp g hg (by omega)
 exact hb g (hM.dl g hd) (Or.inl hd)
theorem Eg.below (h : Eg w eb dom x s n) (hb : Below w.heap.size w w') : Eg w' eb dom x s n := h.keep hb.size (fun k hk _ => hb.block k hk)
theorem Sent.keep {A : Nat -> Addr} (h : Sent w A) {own : Nat -> Prop} (hb : Fo own w w') (ho : ∀ k, k < 13 \/ k = 13 \/ k = 12 -> ¬ own k) (hA : ∀ i, i < 12 \/ i = 13 -> ¬ own (A i).block) : Sent w' A := by
 refine ⟨fun i h1 => (World.cell?_of_block (a := ⟨i, 0, none⟩) (hb.block i (cell_lt (h.g i h1)) (ho i (by omega)))).trans (h.g i h1), fun i h1 => ?_, h.n, (World.cell?_of_block (a := ⟨12, 0, none⟩) (hb.block _ (cell_lt h.e) (ho _ (Or.inr (Or.inr rfl))))).trans h.e⟩
 obtain ⟨c, t, hc⟩ := h.b i h1
 exact ⟨c, t, (hb.block _ (Array.getElem?_eq_some_iff.1 hc).1 (hA i h1)).trans hc⟩
theorem loaded_any {nb mb : Nat} {v2 v3 v4 : Value} (h : w.heap[eb]? = some (.cells #[ptr nb, ptr mb, v2, v3, v4] 72)) :
  Calls Tryz.prog 27 #[ptr eb] w fun e w' => e = .returned (.bool true) /\ w' = w := by
 obtain ⟨c1, cf1⟩ := blk_cl h
 go_enter Tryz.func27, Tryz.ntmps27
 go_wp2_with fail
 go_ret
 exact ⟨rfl, rfl⟩
def cntE (n : Nat × Nat × Nat) (hit : Bool) (k : Nat) : Nat × Nat × Nat := (if hit = true then n.1 + 1 else n.1, if hit = true then n.2.1 else n.2.1 + 1, n.2.2 + k)
theorem count_any {nb mb : Nat} (n : Nat × Nat × Nat) (h : w.heap[eb]? = some (.cells #[ptr nb, ptr mb, .int .i64 n.1, .int .i64 n.2.1, .int .i64 n.2.2] 72)) (hit : Bool) (k : Nat) (h1 : n.1 <= 1000000000000000) (h2 : n.2.1 <= 1000000000000000) (h3 : n.2.2 + k <= 1000000000000000) :
  Calls Tryz.prog 35 #[ptr eb, .bool hit, .int .i64 k] w fun e w' => e = .returned (.tuple #[]) /\ Fo (fun j => j = eb) w w' /\ w'.heap[eb]? = some (.cells #[ptr nb, ptr mb, .int .i64 (cntE n hit k).1, .int .i64 (cntE n hit k).2.1, .int .i64 (cntE n hit k).2.2] 72) := by
 obtain ⟨n1, n2, n3⟩ := n
 obtain ⟨c1, cf1⟩ := blk_cl h
 have hF : ∀ (u1 u2 : Value) (a b : Nat), Fo (fun j => j = eb) w ((w.setCell ⟨eb, a, none⟩ u1).setCell ⟨eb, b, none⟩ u2) := fun u1 u2 a b => ⟨rfl, rfl, rfl, by simp [World.setCell], fun j _ hj => (Below.heap_setCell _ ⟨eb, b, none⟩ _ j hj).trans (Below.heap_setCell _ ⟨eb, a, none⟩ _ j hj)⟩
 have hb := fun (u1 u2 : Value) (a b : Nat) => heap_setCell_same (w.setCell ⟨eb, a, none⟩ u1) eb b u2 _ _ (heap_setCell_same w eb a u1 _ _ h)
 have h1 : n1 <= 1000000000000000 := h1
 have h2 : n2 <= 1000000000000000 := h2
 have h3 : n3 + k <= 1000000000000000 := h3
 cases hit with
 | true =>
  go_enter Tryz.func35, Tryz.ntmps35
  go_wp2_with fail
  exact bodyPost_end (by simp [results, Tryz.results35, go_sem]) rfl ⟨rfl, hF _ _ 2 4, (hb _ _ 2 4).trans (by simp [cntE])⟩
 | false =>
  go_enter Tryz.func35, Tryz.ntmps35
  go_wp2_with fail
  exact bodyPost_end (by simp [results, Tryz.results35, go_sem]) rfl ⟨rfl, hF _ _ 3 4, (hb _ _ 3 4).trans (by simp [cntE])⟩
end
section
variable {w w' : World} {eb : Nat} {dom : Nat -> Prop} {x : Tx} {s : Ex} {n : Nat × Nat × Nat} {E : Nat -> Addr}
theorem access_len {c : Cc} {P : Pol} {qi vi : Nat -> Nat} (hp : Prg c P qi vi) {key : Nat} {h : Bool} {g : List Nat} {t : Ex} (ha : P.access s key = .ok (h, g, t)) : g.length <= 7000000 := by
 unfold Pol.access at ha
 cases hx : Ex.blk P.L P.mf key 8 (P.tree (P.event s key)) s.fresh with
 | error e => rw [hx] at ha; cases ha
 | ok u =>
  rw [hx] at ha
  simp only [Except.ok.injEq, Prod.mk.injEq] at ha
  obtain ⟨_, rfl, _⟩ := ha
  have h1 := blk_le 8 _ _ _ hx
  have h2 : wtB 8 (P.tree (P.event s key)) <= 7000000 := by
   have hru := hp.ru (P.event s key)
   unfold Pol.tree
   cases hr : P.rul (P.event s key) with
   | none => exact (by decide)
   | some y =>
    rw [hr] at hru
    obtain ⟨x, _, _, h3, _⟩ := hru
    exact h3
  have h3 : s.fresh.gone.length = 0 := rfl
  omega
theorem ev_short {l : List UInt8} {x : Tx} (h : readS l = .ok x) : ∀ e ∈ (compS x).ev, e.length <= 700 := by
 have hF := read_fine h
 have D := hF.dx
 have e0 := ruls_core x.2 (x.1.foldl Cc.dcl cc0)
 have hev : (compS x).ev = (x.1.foldl Cc.dcl cc0).ev := by have := congrArg Cc.ev e0; exact this
 intro e he
 rw [hev, D.ev] at he
 obtain ⟨d, hd, rfl⟩ := List.mem_map.1 he
 have hd := (List.mem_filter.1 hd).1
 unfold declL at hd
 obtain ⟨d', hd', rfl⟩ := List.mem_map.1 hd
 exact hF.d7 d' (List.mem_filter.1 hd').1
def OutEA (w : World) (eb : Nat) (dom : Nat -> Prop) (x : Tx) (n : Nat × Nat × Nat) (r : Except Nat (Bool × List Nat × Ex)) (e : Ending) (w' : World) : Prop := match r with
 | .error q => e = .returned (.tuple #[.bool false, .slice none 0 0, .int .i64 q]) /\ Below w.heap.size w w'
 | .ok (hit, gone, t) => ∃ ev dom', e = .returned (.tuple #[.bool hit, ev, .int .i64 0]) /\ Fo (fun k => dom k \/ k = eb) w w' /\ Eg w' eb dom' x t (cntE n hit gone.length) /\ (∀ k, dom' k -> dom k \/ w.heap.size <= k) /\ w'.ownsRow w.heap.size 27 1 ev gone.length (keysV gone) /\ ∀ g, ev.ownBlock = some g -> ¬ dom' g /\ g ≠ eb
theorem eno_full : enoS 10 = 11 := by decide
theorem eno_empty : enoS 11 = 12 := by decide
theorem eaccess_any (h : Eg w eb dom x s n) (SS : Sent w E) (key : Nat) (hk : key < key64) (h1 : n.1 <= 100000000000000) (h2 : n.2.1 <= 100000000000000) (h3 : n.2.2 <= 100000000000000) :
  Calls Tryz.prog 23 #[ptr eb, .int .u64 key] w (OutEA w eb dom x n ((polOf x).access s key)) := by
 obtain ⟨nb, lo, mb, A, V, hat, hT, hlo, ⟨v, rm, lo0, ab, mp, xx, y, vs, hM⟩, hS⟩ := h.ex
 have hp := h.prg
 obtain ⟨l, hl⟩ := h.rd
 obtain ⟨ev, hN, hA⟩ := acc_spec hp hS (key := key) hk
 have hlen := fun hit gone t ha => access_len (s := s) (key := key) (h := hit) (g := gone) (t := t) hp ha
 have e1 := SS.g 10 (by decide)
 have e2 := SS.g 11 (by decide)
 have l1 := cell_lt e1
 have l2 := cell_lt e2
 have HL := loaded_any hat
 obtain ⟨c1, cf1⟩ := blk_cl hat
 have heb := h.lt
 have hmb : dom mb := hM.dm
 have hne : mb ≠ eb := fun e => h.off (e ▸ hmb)
 have hKeep : Hid (∀ w2 n2 dom2 A2 V2 t, t.gone = [] -> Fo (fun k => k = mb \/ k = eb) w w2 -> w2.heap[eb]? = some (.cells #[ptr nb, ptr mb, .int .i64 (n2 : Nat × Nat × Nat).1, .int .i64 n2.2.1, .int .i64 n2.2.2] 72) -> Mv w2 mb nb dom2 (compS x) A2 V2 -> MS (compS x) (polOf x) (qiX x) (viX x) A2 V2 t -> ¬ dom2 eb -> Eg w2 eb dom2 x t n2) := fun w2 n2 dom2 A2 V2 t hg hF hh hm hs hd => ⟨⟨nb, lo, mb, A2, V2, hh, hT.move (fun g hg hl => hF.block g (by have := hM.lt; omega) (fun e => by
   rcases e with e | e
   ·omega
   ·exact h.off (e ▸ hM.dp g hg (by omega)))), hlo, hm, hs⟩, h.rd, hd, hg⟩
 cases hr : (polOf x).access s key with
 | error q =>
  rw [hr] at hA
  obtain ⟨f, i, p, hi, hgo⟩ := hA
  have HM := macc_any hM hN.nn hN.qn hN.vn key hk ev hN.he (ev_short hl) _ hN.hh e1 e2 l1 l2 hN.sn hN.tg f _ hgo
  have hq : Hid (q = enoS i) := by
   show _ = _
   rcases hi with ⟨a, b⟩ | ⟨a, b⟩
   ·rw [a, b, eno_full]
   ·rw [a, b, eno_empty]
  have hi2 : i < 12 \/ i = 13 := by rcases hi with ⟨_, b⟩ | ⟨_, b⟩ <;> (rw [b]; decide)
  clear hgo hN hr hi hKeep
  go_enter Tryz.func23, Tryz.ntmps23
  go_wp2_with fail
  refine HL.mono ?_
  rintro e w1 ⟨rfl, rfl⟩
  go_wp2_with fail
  refine HM.mono ?_
  rintro e w2 ⟨fb, rfl, hfb, hF, B2⟩
  have S2 := SS.move B2
  have HE := errno_any S2 fb i hi2 (by simp [World.cell?, hF])
  clear HM
  go_wp2_with fail
  refine HE.mono ?_
  rintro e w3 ⟨rfl, rfl⟩
  go_wp2_with fail
  exact bodyPost_ret (v := .tuple #[.bool false, .slice none 0 0, .int .i64 (enoS i)]) (by simp [results, Tryz.results23, go_sem]) rfl ⟨by rw [hq.out], B2⟩
 | ok q =>
  obtain ⟨hit, gone, t⟩ := q
  rw [hr] at hA
  obtain ⟨f, R, hgo, hRe, hMS, htg⟩ := hA
  have hgl := hlen hit gone t hr
  have HM := macc_any hM hN.nn hN.qn hN.vn key hk ev hN.he (ev_short hl) _ hN.hh e1 e2 l1 l2 hN.sn hN.tg f _ hgo
  have hhit : (polOf x).hit s key = hit := by
   unfold Pol.access at hr
   split at hr
   ·cases hr
   ·simp only [Except.ok.injEq, Prod.mk.injEq] at hr
    exact hr.1
  rw [hhit] at HM
  subst hRe
  clear hgo hN hr hlen hhit
  go_enter Tryz.func23, Tryz.ntmps23
  go_wp2_with fail
  refine HL.mono ?_
  rintro e w1 ⟨rfl, rfl⟩
  go_wp2_with fail
  refine HM.mono ?_
  rintro e w2 ⟨u, dom2, rfl, hF2, hM2, hd2, hd3, hu, hun⟩
  obtain ⟨ua, uk, uc, rfl⟩ := ownsRow_form2 hu
  have huk : uk = R.ev.length := by
   rcases hu.2 with ⟨k1, k2⟩ | ⟨g, cap, cur, k1, _⟩
   ·simp at k1; omega
   ·simp at k1; exact k1.2.1
  subst huk
  have hat2 := (hF2.block eb heb (Ne.symm hne)).trans hat
  have HC := count_any n hat2 hit R.ev.length (by omega) (by omega) (by omega)
  clear HM c1 cf1
  go_wp2_with fail
  refine HC.mono ?_
  rintro e w3 ⟨rfl, hF3, hat3⟩
  go_wp2_with fail
  have hoff : ¬ dom2 eb := fun hd => by
   rcases hd2 eb hd with hd | hd
   ·exact h.off hd
   ·omega
  have hF4 : Fo (fun k => k = mb \/ k = eb) w1 w3 := (hF2.mono (fun k e => Or.inl e)).trans hF3 (fun k e => Or.inl (Or.inr e))
  have hM3 : Mv w3 mb nb dom2 (compS x) R.A R.vars := hM2.keep hF3.size (fun k hk hd => hF3.block k hk (fun e => hoff (e ▸ hd)))
  refine bodyPost_ret (v := .tuple #[.bool hit, .slice ua R.ev.length uc, .int .i64 0]) (by simp [results, Tryz.results23, go_sem]) rfl ⟨_, dom2, rfl, hF4.mono (fun k e => ?_), hKeep.out w3 _ dom2 R.A R.vars t htg hF4 hat3 hM3 hMS hoff, hd2, own_mv hu (fun g hg hl => hF3.block g hl (fun e => ?_)), fun g hg => ⟨hun g hg, ?_⟩⟩
  ·rcases e with e | e
   ·exact Or.inl (e ▸ hmb)
   ·exact Or.inr e
  ·have := (hu.lt g hg).1; omega
  ·have := (hu.lt g hg).1; omega
theorem eremove_any (h : Eg w eb dom x s n) (key : Nat) (hk : key < key64) :
  Calls Tryz.prog 24 #[ptr eb, .int .u64 key] w fun e w' => e = .returned (.bool (s.removed key).1) /\ Fo (fun k => dom k) w w' /\ Eg w' eb dom x (s.removed key).2 n := by
 obtain ⟨nb, lo, mb, A, V, hat, hT, hlo, ⟨v, rm, lo0, ab, mp, xx, y, vs, hM⟩, hS⟩ := h.ex
 have hp := h.prg
 obtain ⟨B, hB, hSB⟩ := rem_spec hp hS key
 have HL := loaded_any hat
 have HM := mremove_any hM key hk _ B hB
 have hgn : (s.removed key).2.gone = [] := by
  unfold Ex.removed
  split
  ·exact h.gn
  ·exact h.gn
 generalize s.removed key = rr at *
 obtain ⟨b, t⟩ := rr
 obtain ⟨c1, cf1⟩ := blk_cl hat
 have hfin : Hid (∀ w2, Fo (fun k => dom k) w w2 -> Mv w2 mb nb dom (compS x) B V -> (∀ g, nb <= g -> g < mb -> w2.heap[g]? = w.heap[g]?) -> Eg w2 eb dom x t n) := fun w2 hF hm hr => ⟨⟨nb, lo, mb, B, V, (hF.block eb h.lt h.off).trans hat, hT.move (fun g hg hl => hr g hg (by omega)), hlo, hm, hSB⟩, h.rd, h.off, hgn⟩
 clear hSB hS
 go_enter Tryz.func24, Tryz.ntmps24
 go_wp2_with fail
 refine HL.mono ?_
 rintro e w1 ⟨rfl, rfl⟩
 go_wp2_with fail
 refine HM.mono ?_
 rintro e w2 ⟨rfl, hF, hm, hr⟩
 go_wp2_with fail
 go_ret
 exact ⟨rfl, hF, hfin.out w2 hF hm hr⟩
def OutEK (w : World) (r : Option (List Nat)) (e : Ending) (w' : World) : Prop := Below w.heap.size w w' /\ match r with
 | none => e = .returned (.tuple #[.slice none 0 0, .int .i64 13])
 | some ks => ∃ u, e = .returned (.tuple #[u, .int .i64 0]) /\ w'.ownsRow w.heap.size 27 1 u ks.length (keysV ks)
theorem keys_spec {c : Cc} {P : Pol} {qi vi : Nat -> Nat} {A : Ar} {V : List Nat} (hp : Prg c P qi vi) (hs : MS c P qi vi A V s) : ∃ I fr, Rep A c.ro.length (fun q => c.ro.getD q 0) I fr [] /\ ∀ name, (ixS c.ev name).map (fun q => (I q).map fun n => (eN A.nodes n).1) = P.keys s name := by
 obtain ⟨Qm, hS⟩ := hs
 obtain ⟨I, fr, hR, hQ⟩ := hS.ar
 refine ⟨I, fr, hR, fun name => ?_⟩
 have hle := hp.le.1
 cases hx : ixS c.ev name with
 | some q =>
  have hq := ixS_some hx
  have hql := (List.getElem?_eq_some_iff.1 hq).1
  obtain ⟨k, d, h1, h2, h3⟩ := hp.dm.sur q (by omega)
  have h4 := hp.ev k d h1 h2
  rw [h3, hq] at h4
  cases h4
  unfold Pol.keys
  rw [find_of hp h1]
  simp only [h2, if_false, Option.map_some]
  have h5 := hS.ls.getD h1 h2
  have h5 : s.Q.getD k [] = Qm (qi k) := h5
  rw [h5, h3, hQ q (by omega), List.map_map]
  rfl
 | none =>
  unfold Pol.keys
  cases hf : P.find name with
  | none => rfl
  | some kd =>
   obtain ⟨k, d⟩ := kd
   obtain ⟨h1, h2⟩ := find_some' hf
   by_cases hv : d.1 = [118, 97, 114]
   ·simp [hv]
   ·exfalso
    have h4 := hp.ev k d h1 hv
    exact ixS_ne h4 (by rw [h2]; exact hx)
theorem value_spec {c : Cc} {P : Pol} {qi vi : Nat -> Nat} {A : Ar} {V : List Nat} (hp : Prg c P qi vi) (hs : MS c P qi vi A V s) (name : List UInt8) : ((ixS c.vn name).bind fun q => V[q]?) = P.value s name := by
 obtain ⟨Qm, hS⟩ := hs
 have hle := hp.le.2.1
 unfold Pol.value
 cases hx : ixS c.vn name with
 | some q =>
  have hq := ixS_some hx
  have hql := (List.getElem?_eq_some_iff.1 hq).1
  obtain ⟨k, d, h1, h2, h3⟩ := hp.sv q (by omega)
  have h4 := hp.vn k d h1 h2
  rw [h3, hq] at h4
  cases h4
  rw [find_of hp h1]
  obtain ⟨v, v1, v2, _⟩ := hS.vv k d h1 h2
  have v1 : s.V[k]? = some v := v1
  have v2 : V[vi k]? = some v := v2
  simp only [h2, if_true, Option.bind_some]
  rw [<- h3, v2, List.getD_eq_getElem?_getD, v1]
  rfl
 | none =>
  cases hf : P.find name with
  | none => rfl
  | some kd =>
   obtain ⟨k, d⟩ := kd
   obtain ⟨h1, h2⟩ := find_some' hf
   by_cases hv : d.1 = [118, 97, 114]
   ·exfalso
    exact ixS_ne (hp.vn k d h1 hv) (by rw [h2]; exact hx)
   ·simp [hv]
theorem ekeys_any (h : Eg w eb dom x s n) (SS : Sent w E) (name : List UInt8) :
  Calls Tryz.prog 16 #[ptr eb, S name] w (OutEK w ((polOf x).keys s name)) := by
 obtain ⟨nb, lo, mb, A, V, hat, hT, hlo, ⟨v, rm, lo0, ab, mp, xx, y, vs, hM⟩, hS⟩ := h.ex
 have hp := h.prg
 obtain ⟨I, fr, hR, hks⟩ := keys_spec hp hS
 have HL := loaded_any hat
 have HM := mkeys_any hM hR hp.le.1 (SS.g 0 (by decide)) name
 rw [hks name] at HM
 obtain ⟨c1, cf1⟩ := blk_cl hat
 clear hks hR hT hS hp
 cases hr : (polOf x).keys s name with
 | none =>
  rw [hr] at HM
  go_enter Tryz.func16, Tryz.ntmps16
  go_wp2_with fail
  refine HL.mono ?_
  rintro e w1 ⟨rfl, rfl⟩
  go_wp2_with fail
  refine HM.mono ?_
  rintro e w2 ⟨B2, h2⟩
  have h2 : e = .returned (.tuple #[.slice none 0 0, .iface 278 (.pointer (some (E 0)))]) := h2
  subst h2
  have HE := errno_name (SS.move B2)
  clear HM hr
  go_wp2_with fail
  refine HE.mono ?_
  rintro e w3 ⟨rfl, rfl⟩
  go_wp2_with fail
  exact bodyPost_ret (v := .tuple #[.slice none 0 0, .int .i64 13]) (by simp [results, Tryz.results16, go_sem]) rfl ⟨B2, rfl⟩
 | some ks =>
  rw [hr] at HM
  go_enter Tryz.func16, Tryz.ntmps16
  go_wp2_with fail
  refine HL.mono ?_
  rintro e w1 ⟨rfl, rfl⟩
  go_wp2_with fail
  refine HM.mono ?_
  rintro e w2 ⟨B2, u, rfl, hu⟩
  obtain ⟨ua, uk, uc, rfl⟩ := ownsRow_form2 hu
  clear HM hr
  go_wp2_with fail
  exact bodyPost_ret (v := .tuple #[.slice ua uk uc, .int .i64 0]) (by simp [results, Tryz.results16, go_sem]) rfl ⟨B2, _, rfl, hu⟩
theorem evalue_any (h : Eg w eb dom x s n) (SS : Sent w E) (name : List UInt8) :
  Calls Tryz.prog 25 #[ptr eb, S name] w fun e w' => Below w.heap.size w w' /\ match (polOf x).value s name with
   | none => e = .returned (.tuple #[.int .i64 0, .int .i64 13])
   | some k => e = .returned (.tuple #[.int .i64 k, .int .i64 0]) := by
 obtain ⟨nb, lo, mb, A, V, hat, hT, hlo, ⟨v, rm, lo0, ab, mp, xx, y, vs, hM⟩, hS⟩ := h.ex
 have hp := h.prg
 have hvs := value_spec hp hS name
 have hvl : V.length = (compS x).mo.length := by obtain ⟨Qm, hs⟩ := hS; exact hs.rl
 have hle := hp.le
 have HL := loaded_any hat
 have HM := mvalue_any hM (by omega) (by omega) (SS.g 0 (by decide)) name
 rw [hvs] at HM
 obtain ⟨c1, cf1⟩ := blk_cl hat
 clear hvs hT hS hp hvl hle
 cases hr : (polOf x).value s name with
 | none =>
  rw [hr] at HM
  go_enter Tryz.func25, Tryz.ntmps25
  go_wp2_with fail
  refine HL.mono ?_
  rintro e w1 ⟨rfl, rfl⟩
  go_wp2_with fail
  refine HM.mono ?_
  rintro e w2 ⟨B2, h2⟩
  have h2 : e = .returned (.tuple #[.int .i64 0, .iface 278 (.pointer (some (E 0)))]) := h2
  subst h2
  have HE := errno_name (SS.move B2)
  clear HM hr
  go_wp2_with fail
  refine HE.mono ?_
  rintro e w3 ⟨rfl, rfl⟩
  go_wp2_with fail
  exact bodyPost_ret (v := .tuple #[.int .i64 0, .int .i64 13]) (by simp [results, Tryz.results25, go_sem]) rfl ⟨B2, rfl⟩
 | some k =>
  rw [hr] at HM
  go_enter Tryz.func25, Tryz.ntmps25
  go_wp2_with fail
  refine HL.mono ?_
  rintro e w1 ⟨rfl, rfl⟩
  go_wp2_with fail
  refine HM.mono ?_
  rintro e w2 ⟨B2, h2⟩
  have h2 : e = .returned (.tuple #[.int .i64 k, .nilIface]) := h2
  subst h2
  clear HM hr
  go_wp2_with fail
  exact bodyPost_ret (v := .tuple #[.int .i64 (k : Int), .int .i64 0]) (by simp [results, Tryz.results25, go_sem]) rfl ⟨B2, rfl⟩
theorem ecounts_any (h : Eg w eb dom x s n) :
  Calls Tryz.prog 22 #[ptr eb] w fun e w' => Below w.heap.size w w' /\ e = .returned (.agg #[.int .i64 n.1, .int .i64 n.2.1, .int .i64 n.2.2]) := by
 obtain ⟨nb, lo, mb, A, V, hat, _⟩ := h.ex
 have B0 : Below w.heap.size w (w.alloc (.cells #[.int .i64 0, .int .i64 0, .int .i64 0] 47)) := (Below.refl _ _).alloc (Nat.le_refl _) _
 have b0 : (w.alloc (.cells #[.int .i64 0, .int .i64 0, .int .i64 0] 47)).heap[w.heap.size]? = some (.cells #[.int .i64 0, .int .i64 0, .int .i64 0] 47) := heap_new rfl
 have hat1 := (B0.block eb h.lt).trans hat
 have HL := loaded_any hat1
 obtain ⟨c1, cf1⟩ := blk_cl hat1
 obtain ⟨c2, cf2⟩ := blk_cl b0
 go_enter Tryz.func22, Tryz.ntmps22
 go_wp2_with fail
 refine HL.mono ?_
 rintro e w1 ⟨rfl, rfl⟩
 go_wp2_with fail
 exact bodyPost_cell Tryz.results22 w.heap.size _ _ _ rfl rfl (heap_new rfl) Tryz.underlying47 rfl (by kernel_rfl) ⟨(Below.refl _ _).alloc (Nat.le_refl _) _, rfl⟩
end
theorem own_ty {w : World} {lo size n : Nat} {e : TypeId} {v : Value} {xs : List Value} (h : w.ownsRow lo e size v n xs) {g : Nat} (hg : v.ownBlock = some g) : ∃ cs, w.heap[g]? = some (.cells cs e) := by
 rcases h.2 with ⟨e1, _⟩ | ⟨g', cap, cur, e1, _, h3, _⟩
 ·rw [e1] at hg; simp [Value.ownBlock] at hg
 ·rw [e1] at hg
  simp [Value.ownBlock] at hg
  subst hg
  exact ⟨_, h3⟩
theorem M0.mv {w : World} {lo mb nb gb : Nat} {c : Cc} {dom : Nat -> Prop} {ce : Array Value} (h : M0 w lo mb c) (hge0 : w.heap[gb]? = some (.cells ce 72)) (hgm : mb < gb) (hnb : nb <= lo) (hd : ∀ k, nb <= k -> k < w.heap.size -> k ≠ gb -> dom k) (hm : dom mb) (hdl : ∀ k, dom k -> k < w.heap.size) (hlo : lo <= mb) : Mv w mb nb dom c (arS c.ro) (List.replicate c.mo.length 0) := by
 obtain ⟨v, rb, ab, mp, x, y, vs, h1, h2, h3, h4, h5, h6⟩ := h
 obtain ⟨l1, l2, l3, l4⟩ := h3.lts
 have l5 := h3.lt
 have hA : Aw w 0 ab mp x y (arS c.ro) := ⟨h3.at', MapK.none h3.mp, by have := own_low h3.nd (Nat.zero_le _); simpa [arS, nds] using this, by have := own_low h3.qu (Nat.zero_le _); simpa [arS] using this, h3.sep, fun g hg => by
  rcases hg with hg | hg
  ·have := l3 g hg; omega
  ·have := l4 g hg; omega, by omega, ⟨Nat.zero_le _, Nat.zero_le _⟩⟩
 have hng : ∀ k, AMine ab mp x y k \/ vs.ownBlock = some k -> k ≠ gb := fun k hk e => by
  subst e
  rcases hk with hk | hk
  ·rcases hk with rfl | rfl | hk | hk
   ·have := h3.at'; rw [hge0] at this; simp at this
   ·have := h3.mp; rw [hge0] at this; cases this
   ·obtain ⟨cs, hc⟩ := own_ty h3.nd hk; rw [hge0] at hc; simp at hc
   ·obtain ⟨cs, hc⟩ := own_ty h3.qu hk; rw [hge0] at hc; simp at hc
  ·obtain ⟨cs, hc⟩ := own_ty h5 hk; rw [hge0] at hc; simp at hc
 have hge : ∀ k, AMine ab mp x y k \/ vs.ownBlock = some k -> mb < k /\ k < w.heap.size := fun k hk => by
  rcases hk with hk | hk
  ·rcases hk with rfl | rfl | hk | hk
   ·omega
   ·omega
   ·have := l3 k hk; omega
   ·have := l4 k hk; omega
  ·have := h5.lt k hk; omega
 have hmb := (Array.getElem?_eq_some_iff.1 h1).1
 refine ⟨v, rb, lo, ab, mp, x, y, vs, ⟨h1, h2, hA, ?_, fun k hk => ?_, fun g hg hm => ?_, hm, fun k k1 k2 => hd k k1 (by omega) (by omega), hdl, hnb⟩⟩
 ·have := own_low h5 (Nat.zero_le _)
  simpa [ints] using this
 ·have := hge k hk
  exact ⟨hd k (by omega) this.2 (hng k hk), by omega, by omega⟩
 ·obtain ⟨a1, a2, a3, a4⟩ := h6 g hg
  rcases hm with rfl | rfl | hm | hm
  ·exact a1 rfl
  ·exact a2 rfl
  ·exact a3 hm
  ·exact a4 hm
def OutEL (w : World) (r : Except (Nat × Nat) Tx) (e : Ending) (w' : World) : Prop := Below w.heap.size w w' /\ match r with
 | .ok x => ∃ g, e = .returned (.tuple #[ptr g, .int .i64 0, .int .i64 0]) /\ w.heap.size <= g /\ Eg w' g (fun k => w.heap.size <= k /\ k < w'.heap.size /\ k ≠ g) x (polOf x).start (0, 0, 0)
 | .error (i, p) => e = .returned (.tuple #[.pointer none, .int .i64 (enoS i), .int .i64 p])
theorem eload_any (l : List UInt8) {w : World} {E : Nat -> Addr} (SS : Sent w E) : Calls Tryz.prog 18 #[S l] w (OutEL w (readS l)) := by
 refine (load_any l SS).mono ?_
 intro e w' h
 unfold OutL at h
 unfold OutEL
 cases hr : readS l with
 | error q =>
  obtain ⟨i, p⟩ := q
  rw [hr] at h
  exact ⟨h.2, h.1⟩
 | ok x =>
  rw [hr] at h
  obtain ⟨g, nb, mb, h1, h2, h3, h4, h5, h6, ⟨lo, k1, k2, k3, k4⟩, hF⟩ := h
  have hg := (Array.getElem?_eq_some_iff.1 h6).1
  refine ⟨h2, g, h1, by omega, ⟨nb, lo, mb, _, _, h6, k3, k2, k4.mv h6 h5 (by omega) (fun k a b c => ⟨by omega, b, c⟩) ?_ (fun k hk => hk.2.1) k2, ms_start (prg_of hr)⟩, ⟨l, hr⟩, fun hd => hd.2.2 rfl, rfl⟩
  ·exact ⟨by omega, by omega, by omega⟩
end Go.Proofs.YtfddoieakfpagabGreatDoor
