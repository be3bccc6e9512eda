import Derived.Test.YtfddoieakfpagabGreatDoorDA
import Derived.Deep.CutBlock
import Derived.Deep.DeepCutAuto
import Derived.Test.YtfddoieakfpagabGreatDoorJI
namespace Go.Proofs.YtfddoieakfpagabGreatDoor
set_option maxHeartbeats 4000000
set_option maxRecDepth 20000
open Go.RowKit
def pqN (last : List UInt8) (q : List (List UInt8)) (w : List UInt8) : List (List UInt8) := if last = [113, 117, 101, 117, 101] then q ++ [w] else q
def pgN (last : List UInt8) (g : List (List UInt8)) (w : List UInt8) : List (List UInt8) := if last = [103, 104, 111, 115, 116] then g ++ [w] else g
def nmW : List UInt8 -> List UInt8 -> List UInt8 -> List (List UInt8) -> List (List UInt8) -> List (List UInt8) × List (List UInt8)
 | [], cur, last, q, g => if cur = [] then (q, g) else (pqN last q cur, pgN last g cur)
 | c :: r, cur, last, q, g => if (letU c || digU c) = true then nmW r (cur ++ [c]) last q g else if cur = [] then nmW r [] last q g else if cur = [111, 110] then (pqN last q cur, pgN last g cur) else nmW r [] cur (pqN last q cur) (pgN last g cur)
def Rs2 (w : World) (lo : Nat) (v : Value) (q : List (List UInt8)) : Prop := w.ownsRow lo 9 1 v q.length (q.map S)
theorem info_sg : (Tryz.prog.info? 9).map (fun i => (i.zero, i.size, i.bytes)) = some (some (S []), 1, 16) := by kernel_rfl
structure Nq (w : World) (lo : Nat) (v u : Value) (q g : List (List UInt8)) : Prop where
 a : Rs2 w lo v q
 b : Rs2 w lo u g
 sp : ∀ k, v.ownBlock = some k -> u.ownBlock ≠ some k
theorem Nq.swap {w : World} {lo : Nat} {v u : Value} {q g : List (List UInt8)} (h : Nq w lo v u q g) : Nq w lo u v g q := ⟨h.b, h.a, fun k a b => h.sp k b a⟩
theorem Nq.app {w w6 : World} {lo : Nat} {v u v' : Value} {q g : List (List UInt8)} {X : List UInt8} (h : Nq w lo v u q g) (hown6 : w6.ownsRow lo 9 1 v' (q.length + 1) (q.map S ++ [S X])) (hgrow : (w.alloc (.cells #[S X] 9)).grownBy w6 v.ownBlock) (hat : v'.ownBlock = v.ownBlock \/ v'.ownBlock = some (w.alloc (.cells #[S X] 9)).heap.size) : Nq w6 lo v' u (q ++ [X]) g := by
 refine ⟨by unfold Rs2; simpa using hown6, ?_, fun k e e2 => ?_⟩
 ·exact own_mv h.b (fun b e hb => (hgrow.block b (by simp; omega) (fun e2 => h.sp b e2.symm e)).trans (Below.heap_alloc _ _ _ hb))
 ·rcases hat with hat | hat
  ·exact h.sp k (hat ▸ e) e2
  ·rw [hat] at e
   cases e
   have := (h.b.lt _ e2).2
   simp at this
   omega
theorem td_nil {l : List UInt8} {i : Nat} : (l.take i).drop i = [] := List.drop_of_length_le (by rw [List.length_take]; omega)
theorem nm_go {l : List UInt8} {i from' : Nat} {last : List UInt8} {q g : List (List UInt8)} (hi : i < l.length) (hf : from' <= i) (h : (letU l[i] || digU l[i]) = true) : nmW (l.drop i) ((l.take i).drop from') last q g = nmW (l.drop (i + 1)) ((l.take (i + 1)).drop from') last q g := by
 rw [List.drop_eq_getElem_cons hi]
 show (if _ then _ else _) = _
 rw [if_pos h]
 congr 1
 rw [List.take_add_one, List.getElem?_eq_getElem hi, List.drop_append_of_le_length (by simp; omega)]
 rfl
theorem nm_al {l : List UInt8} {i : Nat} {cur last : List UInt8} {q g : List (List UInt8)} (h : (if h : i < l.length then (letU l[i] || digU l[i]) else false) = false) (hi : i <= l.length) : nmW (l.drop i) cur last q g = if cur = [] then (if i < l.length then nmW (l.drop (i + 1)) [] last q g else (q, g)) else if i < l.length /\ cur ≠ [111, 110] then nmW (l.drop (i + 1)) [] cur (pqN last q cur) (pgN last g cur) else (pqN last q cur, pgN last g cur) := by
 by_cases hl : i < l.length
 ·rw [dif_pos hl] at h
  rw [List.drop_eq_getElem_cons hl]
  show (if _ then _ else _) = _
  rw [if_neg (by rw [h]; simp)]
  split
  ·first | rfl | rw [if_pos hl]
  ·by_cases ho : cur = [111, 110]
   ·rw [if_pos ho, if_neg (fun e => e.2 ho)]
   ·rw [if_neg ho, if_pos ⟨hl, ho⟩]
 ·rw [List.drop_of_length_le (by omega)]
  show (if _ then _ else _) = _
  split
  ·first | rfl | rw [if_neg hl]
  ·first | rfl | rw [if_neg (fun e => hl e.1)]
theorem names_any (l : List UInt8) (w : World) (hl : l.length <= 100000000000) : Calls Tryz.prog 19 #[S l] w fun e w' => ∃ vq vg, e = .returned (.tuple #[vq, vg]) /\ Below w.heap.size w w' /\ Rs2 w' w.heap.size vq (nmW l [] [] [] []).1 /\ Rs2 w' w.heap.size vg (nmW l [] [] [] []).2 := by
 generalize hR : nmW l [] [] [] [] = R at *
 have HR : Hid (R = nmW l [] [] [] []) := hR.symm
 clear hR
 unfold S
 have hext := bext l
 go_enter Tryz.func19, Tryz.ntmps19
 go_wp2_with fail
 go_loopg [4, 5, 6, 7, 8] (l.length + 1) (fun f v4 v5 v6 v7 v8 wr => ∃ (i fr : Nat) (last : List UInt8) (q g : List (List UInt8)), v6 = .int .i64 fr /\ v7 = S last /\ v8 = .int .i64 i /\ fr <= i /\ i + f = l.length + 1 /\ q.length <= i /\ g.length <= i /\ Below w.heap.size w wr /\ Nq wr w.heap.size v4 v5 q g /\ Hid (R = if i <= l.length then nmW (l.drop i) ((l.take i).drop fr) last q g else (q, g)))
 case atStart => exact ⟨0, 0, [], [], [], rfl, rfl, rfl, Nat.le_refl _, by omega, by simp, by simp, Below.refl _ _, ⟨World.ownsRow_nil _ _ _ _, World.ownsRow_nil _ _ _ _, fun k e => by simp [Value.ownBlock] at e⟩, by show _ = _; rw [HR.out, if_pos (Nat.zero_le _)]; simp⟩
 case round =>
  obtain ⟨i, fr, last, q, g, rfl, rfl, rfl, hfr, hf, hq, hg, HB, HN, HI⟩ := hrel
  have hz := HB.size
  by_cases hi : i <= l.length
  ·have h5 : decide ((i : Int) <= (l.length : Int)) = true := by simp; omega
   have HI : Hid (R = nmW (l.drop i) ((l.take i).drop fr) last q g) := by show _ = _; rw [HI.out, if_pos hi]
   go_upto_region 7 with fail
   obtain ⟨al, hal⟩ : ∃ b, Hid ((if h : i < l.length then (letU l[i] || digU l[i]) else false) = b) := ⟨(if h : i < l.length then (letU l[i] || digU l[i]) else false), rfl⟩
   go_cut [43] (fun v wx => v = .bool al /\ wr = wx)
   case first =>
    by_cases hil : i < l.length
    ·have hg2 := bget l i hil
     have e1 := hal.out
     rw [dif_pos hil] at e1
     have u1 := u8_ge l[i]
     have u2 := u8_le l[i]
     unfold letU letterB digU digitB at e1
     cases c1 : decide ((97 : Int) <= (l[i].toNat : Int)) <;> cases c2 : decide ((l[i].toNat : Int) <= 122) <;> cases c3 : decide ((48 : Int) <= (l[i].toNat : Int)) <;> cases c4 : decide ((l[i].toNat : Int) <= 57) <;> rw [c1, c2, c3, c4] at e1 <;> simp at e1 <;> subst e1
     all_goals
      have c11 : decide ((l[i].toNat : Int) >= 97) = decide ((97 : Int) <= (l[i].toNat : Int)) := rfl
      have c31 : decide ((l[i].toNat : Int) >= 48) = decide ((48 : Int) <= (l[i].toNat : Int)) := rfl
      rw [c1] at c11
      rw [c3] at c31
      clear u1 u2 hal
      go_wp2_with fail
      go_meet
      exact ⟨rfl, rfl⟩
    ·have e1 := hal.out
     rw [dif_neg hil] at e1
     subst e1
     go_wp2_with fail
     go_meet
     exact ⟨rfl, rfl⟩
   case rest =>
   obtain ⟨rfl, rfl⟩ := hcut
   cases al with
   | true =>
    have hil : i < l.length := by
     by_cases h : i < l.length
     ·exact h
     ·have := hal.out
      rw [dif_neg h] at this
      cases this
    have e1 := hal.out
    rw [dif_pos hil] at e1
    have HI : Hid (R = if i + 1 <= l.length then nmW (l.drop (i + 1)) ((l.take (i + 1)).drop fr) last q g else (q, g)) := by show _ = _; rw [HI.out, nm_go hil hfr e1, if_pos (by omega)]
    clear e1 hal
    go_wp2_with fail
    go_roundg (gk - 1)
    case measure => omega
    case rel => exact ⟨i + 1, fr, last, q, g, rfl, rfl, by simp, by omega, by omega, by omega, by omega, HB, HN, HI⟩
   | false =>
   have HI : Hid _ := HI.out.trans (nm_al hal.out hi)
   go_upto_region 9 with fail
   generalize hX : (l.take i).drop fr = X at *
   have hXl : X.length <= l.length := by rw [<- hX]; simp; omega
   clear hal
   by_cases hX0 : X = []
   ·have h9 : (X == []) = true := by simpa using hX0
    have HI : Hid (R = if i + 1 <= l.length then nmW (l.drop (i + 1)) ((l.take (i + 1)).drop (i + 1)) last q g else (q, g)) := by
     show _ = _
     rw [HI.out, if_pos hX0]
     by_cases hil : i < l.length
     ·rw [if_pos hil, if_pos (show i + 1 <= l.length from hil), td_nil]
     ·rw [if_neg hil, if_neg (show ¬ i + 1 <= l.length from hil)]
    clear hX
    go_wp2_with fail
    go_roundg (gk - 1)
    case measure => omega
    case rel => exact ⟨i + 1, i + 1, last, q, g, by simp, rfl, by simp, Nat.le_refl _, by omega, by omega, by omega, HB, HN, HI⟩
   ·have h9 : (X == []) = false := by simpa using hX0
    clear hX
    obtain ⟨va, vk, vc, rfl⟩ := ownsRow_form2 HN.a
    obtain ⟨ua, uk, uc, rfl⟩ := ownsRow_form2 HN.b
    obtain ⟨i0, hi0, hz0, hz1, hz2⟩ := info_parts info_sg
    go_upto_block 2 with fail
    go_cut [4, 5] (fun v4 v5 wx => Nq wx w.heap.size v4 v5 (pqN last q X) (pgN last g X) /\ Below w.heap.size w wx)
    case first =>
     clear HI HR
     cases hc1 : (last == [113, 117, 101, 117, 101]) with
     | true =>
      have e1 : Hid (pqN last q X = q ++ [X]) := if_pos (by simpa using hc1)
      have e2 : Hid (pgN last g X = g) := if_neg (by rw [show last = [113, 117, 101, 117, 101] from by simpa using hc1]; decide)
      go_upto_region 12 with fail
      refine wp_region_lit ?_
      iterate 9 go_step
      refine wpList_append_own_at _ rfl (.tmp 53) (.tmp 55) 40 rfl w.heap.size 9 i0 (S []) 1 16 Tryz.underlying40 hi0 hz0 hz1 hz2 rfl (by decide) (.slice va vk vc) q.length (q.map S) (by simp [Act.eval]) (own_mv HN.a (fun _ _ hl => Below.heap_alloc _ _ _ hl)) ⟨wr.heap.size, 0, none⟩ 1 1 [S X] (by simp [Act.eval]) rfl (row_cells wr #[S X] 9) (by simp [Value.oneCell']) (by simp only [maxLen]; omega) (by omega) (by simp; omega) ?_
      intro v' w6 hown6 hgrow hnil hat
      have HN6 := HN.app hown6 hgrow hat
      have HB6 : Below w.heap.size w w6 := (HB.alloc hz _).grown hgrow (by simp; omega) (fun g hg => (HN.a.lt g hg).1)
      clear HN HB
      go_wp2_with fail
      go_meet
      exact ⟨by rw [e1.out, e2.out]; exact HN6, HB6⟩
     | false =>
      have e1 : Hid (pqN last q X = q) := if_neg (by simpa using hc1)
      cases hc2 : (last == [103, 104, 111, 115, 116]) with
      | true =>
       have e2 : Hid (pgN last g X = g ++ [X]) := if_pos (by simpa using hc2)
       go_upto_region 14 with fail
       refine wp_region_lit ?_
       iterate 9 go_step
       refine wpList_append_own_at _ rfl (.tmp 59) (.tmp 61) 40 rfl w.heap.size 9 i0 (S []) 1 16 Tryz.underlying40 hi0 hz0 hz1 hz2 rfl (by decide) (.slice ua uk uc) g.length (g.map S) (by simp [Act.eval]) (own_mv HN.b (fun _ _ hl => Below.heap_alloc _ _ _ hl)) ⟨wr.heap.size, 0, none⟩ 1 1 [S X] (by simp [Act.eval]) rfl (row_cells wr #[S X] 9) (by simp [Value.oneCell']) (by simp only [maxLen]; omega) (by omega) (by simp; omega) ?_
       intro v' w6 hown6 hgrow hnil hat
       have HN6 := (HN.swap.app hown6 hgrow hat).swap
       have HB6 : Below w.heap.size w w6 := (HB.alloc hz _).grown hgrow (by simp; omega) (fun g hg => (HN.b.lt g hg).1)
       clear HN HB
       go_wp2_with fail
       go_meet
       exact ⟨by rw [e1.out, e2.out]; exact HN6, HB6⟩
      | false =>
       have e2 : Hid (pgN last g X = g) := if_neg (by simpa using hc2)
       go_wp2_with fail
       go_meet
       exact ⟨by rw [e1.out, e2.out]; exact HN, HB⟩
    case rest =>
    obtain ⟨HN2, HB2⟩ := hcut
    have lq : (pqN last q X).length <= q.length + 1 := by unfold pqN; split <;> simp
    have lg : (pgN last g X).length <= g.length + 1 := by unfold pgN; split <;> simp
    cases ho : (X == [111, 110]) with
    | true =>
     have HI : Hid (R = (pqN last q X, pgN last g X)) := by
      show _ = _
      rw [HI.out, if_neg hX0, if_neg (fun e => e.2 (by simpa using ho))]
     generalize pqN last q X = q2 at *
     generalize pgN last g X = g2 at *
     go_wp2_with fail
     go_ret2
     exact ⟨_, _, rfl, HB2, by rw [HI.out]; exact HN2.a, by rw [HI.out]; exact HN2.b⟩
    | false =>
     have HI : Hid (R = if i + 1 <= l.length then nmW (l.drop (i + 1)) ((l.take (i + 1)).drop (i + 1)) X (pqN last q X) (pgN last g X) else (pqN last q X, pgN last g X)) := by
      show _ = _
      rw [HI.out, if_neg hX0]
      by_cases hil : i < l.length
      ·rw [if_pos ⟨hil, by simpa using ho⟩, if_pos (show i + 1 <= l.length from hil), td_nil]
      ·rw [if_neg (fun e => hil e.1), if_neg (show ¬ i + 1 <= l.length from hil)]
     generalize pqN last q X = q2 at *
     generalize pgN last g X = g2 at *
     go_wp2_with fail
     go_roundg (gk - 1)
     case measure => omega
     case rel => exact ⟨i + 1, i + 1, X, q2, g2, by simp, rfl, by simp, Nat.le_refl _, by omega, by omega, by omega, HB2, HN2, HI⟩
  ·have h5 : decide ((i : Int) <= (l.length : Int)) = false := by simp; omega
   have HI : Hid (R = (q, g)) := by show _ = _; rw [HI.out, if_neg hi]
   go_wp2_with fail
   go_ret2
   exact ⟨_, _, rfl, HB, by rw [HI.out]; exact HN.a, by rw [HI.out]; exact HN.b⟩
section
variable {w : World} {eb : Nat} {dom : Nat -> Prop} {x : Tx} {s : Ex} {n : Nat × Nat × Nat} {E : Nat -> Addr}
def evK (x : Tx) (s : Ex) (ns : List (List UInt8)) : List Nat := ns.flatMap fun m => ((polOf x).keys s m).getD []
theorem every_any (h : Eg w eb dom x s n) (SS : Sent w E) (ns : List (List UInt8)) (hns : ∀ m ∈ ns, ∃ ks, (polOf x).keys s m = some ks /\ ks.length <= 50) (hn : ns.length <= 1000) {lo : Nat} {v : Value} (hv : Rs2 w lo v ns) :
  Calls Tryz.prog 21 #[ptr eb, v] w fun e w' => ∃ u, e = .returned (.tuple #[u, .bool true]) /\ Below w.heap.size w w' /\ w'.ownsRow w.heap.size 27 1 u (evK x s ns).length (keysV (evK x s ns)) := by
 obtain ⟨i0, hi0, hz0, hz1, hz2⟩ := info_parts info_u64
 have hfm : ∃ a cap, v = .slice a ns.length cap := by
  by_cases h0 : 0 < ns.length
  ·obtain ⟨g, cap, e, _⟩ := row_at hv h0
   exact ⟨_, _, e⟩
  ·rcases hv.2 with ⟨e, _⟩ | ⟨g, cap, cur, e, _⟩
   ·exact ⟨none, 0, by rw [e]; simp; omega⟩
   ·exact ⟨_, _, e⟩
 obtain ⟨va, vc, rfl⟩ := hfm
 have hE9 : Hid (Eg w eb dom x s n) := h
 have hS9 : Hid (Sent w E) := SS
 have hn9 : Hid (∀ m ∈ ns, ∃ ks, (polOf x).keys s m = some ks /\ ks.length <= 50) := hns
 have hlen : ∀ k, (evK x s (ns.take k)).length <= 50 * k := fun k => by
  induction k with
  | zero => simp [evK]
  | succ k ih =>
   by_cases hk : k < ns.length
   ·obtain ⟨ks, e1, e2⟩ := hns _ (List.getElem_mem hk)
    rw [List.take_add_one, List.getElem?_eq_getElem hk]
    unfold evK at *
    have e3 : (some ns[k]).toList.flatMap (fun m => ((polOf x).keys s m).getD []) = ks := by simp [e1]
    rw [List.flatMap_append, List.length_append, e3]
    omega
   ·rw [List.take_of_length_le (by omega)]
    rw [List.take_of_length_le (by omega)] at ih
    omega
 have hlen9 : Hid (∀ k, (evK x s (ns.take k)).length <= 50 * k) := hlen
 clear h SS hns hlen
 go_enter Tryz.func21, Tryz.ntmps21
 go_wp2_with fail
 go_loopg [6, 13] ns.length (fun f v6 v13 wr => ∃ k : Nat, v13 = .int .i64 k /\ k + f = ns.length /\ Below w.heap.size w wr /\ wr.ownsRow w.heap.size 27 1 v6 (evK x s (ns.take k)).length (keysV (evK x s (ns.take k))))
 case atStart => exact ⟨0, rfl, by omega, Below.refl _ _, by simpa [evK, keysV] using World.ownsRow_nil w w.heap.size 27 1⟩
 case round =>
  obtain ⟨k, rfl, hk, HB, hown⟩ := hrel
  have hz := HB.size
  have hl := hlen9.out k
  by_cases hkl : k < ns.length
  ·obtain ⟨g, cap, hv1, hv2, _, hv4⟩ := row_at hv (by omega)
   injection hv1 with hv11 hv12 hv13
   subst hv11 hv13
   have hgl : g < w.heap.size := (hv.lt g hv2).2
   have hc := (HB.cell (p := ⟨g, k, none⟩) hgl).trans ((hv4 k (by omega)).trans (by rw [List.getElem?_map, List.getElem?_eq_getElem hkl, Option.map_some]))
   have hix := ix_str g ns.length vc k hkl
   obtain ⟨ks, e1, e2⟩ := hn9.out _ (List.getElem_mem hkl)
   have HK := ekeys_any (hE9.out.below HB) (hS9.out.move HB) ns[k]
   rw [e1] at HK
   have eN : Hid (evK x s (ns.take (k + 1)) = evK x s (ns.take k) ++ ks) := by
    show _ = _
    rw [List.take_add_one, List.getElem?_eq_getElem hkl]
    unfold evK
    rw [List.flatMap_append]
    simp [e1]
   generalize ns[k] = nm at *
   generalize evK x s (ns.take k) = ds at *
   clear hE9 hS9 hn9 hlen9 hv4 e1
   unfold OutEK at HK
   obtain ⟨va, vk, vc2, rfl⟩ := ownsRow_form2 hown
   go_wp2_with (go_at_call 16; refine HK.mono ?_; rintro e w2 ⟨B2, u, rfl, hu⟩)
   have hzw := B2.size
   have hu2 := hu
   have HB2 := HB.trans (B2.mono hz)
   have hown2 := own_mv hown (fun g _ hl => B2.block g hl)
   have e5 : decide ((ks.length : Int) > 50) = false := by simp; omega
   obtain ⟨ua, uk, uc, rfl⟩ := ownsRow_form2 hu
   have huk : uk = ks.length := by
    rcases hu.2 with ⟨q1, q2⟩ | ⟨q1, q2, q3, q4, _⟩
    ·injection q1 with q5 q6 q7; omega
    ·injection q4
   subst huk
   obtain ⟨a, ca, hru, a1, a2, a3⟩ := Rk.own hu
   injection hru with r1 r2 r3
   subst r1 r3
   go_upto_region 8 with fail
   refine wp_region_lit ?_
   iterate 6 go_step
   rcases a3 with ⟨rfl, rfl, rfl⟩ | ⟨ga, oa, rfl, la, ha⟩
   ·refine wpList_append_own_none rfl (.tmp 30) (.tmp 31) 22 rfl w.heap.size 27 i0 1 Tryz.underlying22 hi0 (.slice va vk vc2) ds.length (keysV ds) (by simp [Act.eval]) hown2 (by simp [Act.eval]) ?_
    have eN : Hid (evK x s (ns.take (k + 1)) = ds) := by show _ = _; rw [eN.out, List.append_nil]
    clear hown hu hu2
    go_wp2_with fail
    go_roundg (gk - 1)
    case measure => omega
    case rel => exact ⟨k + 1, by simp, by omega, HB2, by rw [eN.out]; exact hown2⟩
   ·have hrd : ∀ j u, (keysV ks)[j]? = some u -> w2.cell? ((⟨ga, oa, none⟩ : Addr).add j) = some u := keys_read ha
    refine wpList_append_own_at _ rfl (.tmp 30) (.tmp 31) 22 rfl w.heap.size 27 i0 (.int .u64 0) 1 8 Tryz.underlying22 hi0 hz0 hz1 hz2 rfl (by decide) (.slice va vk vc2) ds.length (keysV ds) (by simp [Act.eval]) hown2 ⟨ga, oa, none⟩ ks.length uc (keysV ks) (by simp [Act.eval]) (by simp [keysV]) hrd keys_one (by simp only [maxLen]; omega) (by omega) (by omega) ?_
    intro v' w6 hown6 hgrow _ hat
    have HB6 : Below w.heap.size w w6 := HB2.trans ⟨hgrow.os, hgrow.tape, hgrow.output, by have := hgrow.size; omega, fun j hj => hgrow.block j (by omega) (fun e => by have := (hown2.lt j e.symm).1; omega)⟩
    have eN : Hid ((evK x s (ns.take (k + 1))).length = ds.length + ks.length /\ keysV (evK x s (ns.take (k + 1))) = keysV ds ++ keysV ks) := by rw [eN.out]; exact ⟨by simp, by simp [keysV]⟩
    obtain ⟨za, zk, zc, rfl⟩ := ownsRow_form2 hown6
    clear hown hu hu2 hown2 hrd ha hgrow hat
    go_wp2_with fail
    go_roundg (gk - 1)
    case measure => omega
    case rel => exact ⟨k + 1, by simp, by omega, HB6, by rw [eN.out.1, eN.out.2]; exact hown6⟩
  ·go_wp2_with fail
   go_ret2
   have ek : ns.take k = ns := List.take_of_length_le (by omega)
   rw [ek] at hown
   exact ⟨_, rfl, HB, hown⟩
end
end Go.Proofs.YtfddoieakfpagabGreatDoor
