import Derived.Laws.AppendOwnNone
import Derived.Test.YtfddoieakfpagabGreatDoorJH
namespace Go.Proofs.YtfddoieakfpagabGreatDoor
set_option maxHeartbeats 2000000
set_option maxRecDepth 20000
open Go.RowKit
def Rk (w : World) (v : Value) (ks : List Nat) : Prop := ∃ a cap, v = .slice a ks.length cap /\ ks.length <= cap /\ cap <= maxLen /\ ((a = none /\ ks = [] /\ cap = 0) \/ ∃ g o, a = some ⟨g, o, none⟩ /\ g < w.heap.size /\ ∀ (j k : Nat), ks[j]? = some k -> w.cell? ⟨g, o + j, none⟩ = some (.int .u64 k))
theorem ix_u64 (g o n cap k : Nat) (hk : k < n) : ∀ W : World, (Instr.indexAt 22 (.slice (some ⟨g, o, none⟩) n cap) (.int .i64 k)).run Tryz.prog W = .ok (.pointer (some ⟨g, o + k, none⟩)) W := by
 intro W
 rw [run_indexAt_slice (h := by kernel_rfl), if_pos (by omega)]
 have : (sizeOf (Tryz.prog.elem 22)).run Tryz.prog W = .ok 1 W := by kernel_rfl
 rw [this]
 simp [Result.andThen, Addr.add]
section
variable {w w' : World} {v : Value} {ks : List Nat}
theorem Rk.below (h : Rk w v ks) (hb : Below w.heap.size w w') : Rk w' v ks := by
 obtain ⟨a, cap, e, h1, h2, h3⟩ := h
 refine ⟨a, cap, e, h1, h2, h3.imp_right ?_⟩
 rintro ⟨g, o, e2, hg, hc⟩
 exact ⟨g, o, e2, by have := hb.size; omega, fun j k hk => (hb.cell (p := ⟨g, o + j, none⟩) hg).trans (hc j k hk)⟩
theorem Rk.fo {own : Nat -> Prop} (h : Rk w v ks) (hb : Fo own w w') (hn : ∀ g, v.ownBlock = some g -> ¬ own g) : Rk w' v ks := by
 obtain ⟨a, cap, e, h1, h2, h3⟩ := h
 refine ⟨a, cap, e, h1, h2, h3.imp_right ?_⟩
 rintro ⟨g, o, e2, hg, hc⟩
 exact ⟨g, o, e2, by have := hb.size; omega, fun j k hk => (World.cell?_of_block (a := ⟨g, o + j, none⟩) (hb.block g hg (hn g (by rw [e, e2]; rfl)))).trans (hc j k hk)⟩
theorem Rk.own {lo : Nat} (h : w.ownsRow lo 27 1 v ks.length (keysV ks)) : Rk w v ks := by
 rcases h.2 with ⟨rfl, h2⟩ | ⟨g, cap, cur, rfl, h1, h2, h3, h4, h5, h6⟩
 ·have : ks = [] := List.eq_nil_of_length_eq_zero h2
  subst this
  exact ⟨none, 0, rfl, by simp, by simp, Or.inl ⟨rfl, rfl, rfl⟩⟩
 ·refine ⟨_, cap, rfl, h3, h4, Or.inr ⟨g, 0, rfl, (Array.getElem?_eq_some_iff.1 h2).1, fun j k hj => ?_⟩⟩
  have hlt := (List.getElem?_eq_some_iff.1 hj).1
  have := h.cellAt j (by omega)
  simp only [Nat.zero_add]
  rw [this]
  simp [keysV, hj]
theorem Rk.nil : Rk w (.slice none 0 0) [] := ⟨none, 0, rfl, by simp, by simp, Or.inl ⟨rfl, rfl, rfl⟩⟩
end
section
variable {w w' : World} {v u : Value} {ks : List Nat}
theorem same_yes (h1 : Rk w v ks) (h2 : Rk w u ks) : Calls Tryz.prog 17 #[v, u] w fun e w' => e = .returned (.bool true) /\ Below w.heap.size w w' := by
 obtain ⟨a, ca, rfl, a1, a2, a3⟩ := h1
 obtain ⟨b, cb, rfl, b1, b2, b3⟩ := h2
 have hn : ks.length <= 9223372036854775807 := by simp only [maxLen] at a2; omega
 go_enter Tryz.func17, Tryz.ntmps17
 go_wp2_with fail
 go_loopg [13] ks.length (fun f v wr => ∃ k : Nat, v = .int .i64 k /\ k + f = ks.length /\ Below w.heap.size w wr)
 case atStart => exact ⟨0, rfl, by omega, Below.refl _ _⟩
 case round =>
  obtain ⟨k, rfl, hk, HB⟩ := hrel
  by_cases hlt : k < ks.length
  ·have hne : ks ≠ [] := fun e => by subst e; simp at hlt
   obtain ⟨ga, oa, rfl, la, ha⟩ := a3.resolve_left (fun e => hne e.2.1)
   obtain ⟨gb, ob, rfl, lb, hb⟩ := b3.resolve_left (fun e => hne e.2.1)
   have ca1 := (HB.cell (p := ⟨ga, oa + k, none⟩) la).trans (ha k _ (List.getElem?_eq_getElem hlt))
   have cb1 := (HB.cell (p := ⟨gb, ob + k, none⟩) lb).trans (hb k _ (List.getElem?_eq_getElem hlt))
   have ia := ix_u64 ga oa ks.length ca k hlt
   have ib := ix_u64 gb ob ks.length cb k hlt
   clear ha hb a3 b3
   generalize ks[k] = x at *
   go_upto_region 6 with fail
   go_region
   all_goals go_wp2_with fail
   go_roundg (gk - 1)
   case measure => omega
   case rel => exact ⟨k + 1, by simp, by omega, HB.drew⟩
  ·have fk : decide ((k : Int) < (ks.length : Int)) = false := by simp; omega
   go_wp2_with fail
   go_ret
   exact ⟨rfl, HB⟩
theorem at_any (h1 : Rk w v ks) (key : Nat) (r : Int) (hr : r = match ks.findIdx? (· == key) with | some i => (i : Int) | none => -1) : Calls Tryz.prog 12 #[v, .int .u64 key] w fun e w' => e = .returned (.int .i64 r) /\ w' = w := by
 obtain ⟨a, ca, rfl, a1, a2, a3⟩ := h1
 have hn : ks.length <= 9223372036854775807 := by simp only [maxLen] at a2; omega
 have HR : Hid (r = match ks.findIdx? (· == key) with | some i => (i : Int) | none => -1) := hr
 clear hr
 go_enter Tryz.func12, Tryz.ntmps12
 go_wp2_with fail
 go_loopg [9] ks.length (fun f v wr => ∃ k : Nat, v = .int .i64 k /\ k + f = ks.length /\ wr = w /\ Hid (∀ (j : Nat) x, j < k -> ks[j]? = some x -> x ≠ key))
 case atStart => exact ⟨0, rfl, by omega, rfl, fun j x hj => by omega⟩
 case round =>
  obtain ⟨k, rfl, hk, rfl, HK⟩ := hrel
  by_cases hlt : k < ks.length
  ·have hne : ks ≠ [] := fun e => by subst e; simp at hlt
   obtain ⟨ga, oa, rfl, _, ha⟩ := a3.resolve_left (fun e => hne e.2.1)
   have hrow : ks[k]? = some ks[k] := List.getElem?_eq_getElem hlt
   have ca1 := ha k _ hrow
   have ia := ix_u64 ga oa ks.length ca k hlt
   have HQ : Hid (ks[k] = key -> r = k) := fun e => by
    rw [HR.out]
    have : ks.findIdx? (· == key) = some k := by
     rw [List.findIdx?_eq_some_iff_getElem]
     refine ⟨hlt, by simpa using e, fun j hj => by simpa using HK.out j _ hj (List.getElem?_eq_getElem (by omega))⟩
    rw [this]
   have HQ2 : Hid (ks[k] ≠ key -> ∀ (j : Nat) x, j < k + 1 -> ks[j]? = some x -> x ≠ key) := fun e j x hj hx => by
    by_cases e2 : j = k
    ·subst e2
     rw [hrow] at hx
     cases hx
     exact e
    ·exact HK.out j x (by omega) hx
   clear ha a3 hrow HK
   generalize ks[k] = x at *
   by_cases hq : x = key
   ·have hrr : Hid (r = k) := HQ.out hq
    have hq2 : ((x : Int) == (key : Int)) = true := by simp [hq]
    clear HQ HQ2 HR hq
    go_wp2_with fail
    go_ret
    exact ⟨by rw [hrr.out]; rfl, rfl⟩
   ·have hq2 : ((x : Int) == (key : Int)) = false := by simp; omega
    go_wp2_with fail
    go_roundg (gk - 1)
    case measure => omega
    case rel => exact ⟨k + 1, by simp, by omega, rfl, HQ2.out hq⟩
  ·have fk : decide ((k : Int) < (ks.length : Int)) = false := by simp; omega
   have e0 : Hid (r = -1) := by
    show r = -1
    rw [HR.out]
    have : ks.findIdx? (· == key) = none := by
     rw [List.findIdx?_eq_none_iff]
     intro x hx
     obtain ⟨j, hj, rfl⟩ := List.getElem_of_mem hx
     simpa using HK.out j _ (by omega) (List.getElem?_eq_getElem hj)
    rw [this]
   go_wp2_with fail
   go_ret
   exact ⟨by rw [e0.out]; rfl, rfl⟩
end
section
variable {w w' : World} {v u : Value} {ks : List Nat}
theorem keys_one {l : List Nat} : ∀ u ∈ keysV l, u.oneCell' = true := by
 intro u hu
 simp only [keysV, List.mem_map] at hu
 obtain ⟨k, _, rfl⟩ := hu
 rfl
theorem keys_read {g o : Nat} {l : List Nat} (h : ∀ (j k : Nat), l[j]? = some k -> w.cell? ⟨g, o + j, none⟩ = some (.int .u64 k)) : ∀ j u, (keysV l)[j]? = some u -> w.cell? ((⟨g, o, none⟩ : Addr).add j) = some u := by
 intro j u hu
 simp only [keysV, List.getElem?_map, Option.map_eq_some_iff] at hu
 obtain ⟨k, hk, rfl⟩ := hu
 have := h j k hk
 by_cases e : j = 0
 ·subst e
  simpa [Addr.add] using this
 ·simpa [Addr.add, e] using this
theorem own_new (key : Nat) : (w.alloc (.cells #[.int .u64 key] 27)).ownsRow w.heap.size 27 1 (.slice (some ⟨w.heap.size, 0, none⟩) 1 1) 1 [.int .u64 key] := ⟨rfl, Or.inr ⟨w.heap.size, 1, _, rfl, Nat.le_refl _, heap_new rfl, Nat.le_refl _, by simp [maxLen], rfl, rfl⟩⟩
theorem front_any (h1 : Rk w v ks) (hl : ks.length <= 1000000) (key : Nat) : Calls Tryz.prog 14 #[v, .int .u64 key] w fun e w' => ∃ u, e = .returned u /\ Below w.heap.size w w' /\ w'.ownsRow w.heap.size 27 1 u (key :: ks).length (keysV (key :: ks)) := by
 obtain ⟨i0, hi, hz0, hz1, hz2⟩ := info_parts info_u64
 have B0 : Below w.heap.size w (w.alloc (.cells #[.int .u64 key] 27)) := (Below.refl _ w).alloc (Nat.le_refl _) _
 obtain ⟨a, ca, rfl, a1, a2, a3⟩ := h1
 have hN := own_new (w := w) key
 rcases a3 with ⟨rfl, rfl, rfl⟩ | ⟨ga, oa, rfl, la, ha⟩
 ·simp only [List.length_nil]
  go_enter Tryz.func14, Tryz.ntmps14
  go_upto_region 1 with fail
  refine wp_region_lit ?_
  iterate 9 go_step
  refine wpList_append_own_none rfl (.tmp 6) (.tmp 7) 22 rfl w.heap.size 27 i0 1 Tryz.underlying22 hi (.slice (some ⟨w.heap.size, 0, none⟩) 1 1) 1 [.int .u64 key] (by simp [Act.eval]) hN (by simp [Act.eval]) ?_
  go_wp2_with fail
  exact bodyPost_ret (v := .slice (some ⟨w.heap.size, 0, none⟩) 1 1) (by simp [results, Tryz.results14, go_sem]) rfl ⟨_, rfl, B0, hN⟩
 ·have hz : (w.alloc (.cells #[.int .u64 key] 27)).heap.size = w.heap.size + 1 := by simp
  have hrd : ∀ j u, (keysV ks)[j]? = some u -> (w.alloc (.cells #[.int .u64 key] 27)).cell? ((⟨ga, oa, none⟩ : Addr).add j) = some u := keys_read (fun j k hk => (B0.cell (p := ⟨ga, oa + j, none⟩) la).trans (ha j k hk))
  clear ha
  go_enter Tryz.func14, Tryz.ntmps14
  go_upto_region 1 with fail
  refine wp_region_lit ?_
  iterate 9 go_step
  refine wpList_append_own_at _ rfl (.tmp 6) (.tmp 7) 22 rfl w.heap.size 27 i0 (.int .u64 0) 1 8 Tryz.underlying22 hi hz0 hz1 hz2 rfl (by decide) (.slice (some ⟨w.heap.size, 0, none⟩) 1 1) 1 [.int .u64 key] (by simp [Act.eval]) hN ⟨ga, oa, none⟩ ks.length ca (keysV ks) (by simp [Act.eval]) (by simp [keysV]) hrd keys_one (by simp only [maxLen]; omega) (by omega) (by omega) ?_
  intro v' w6 hown6 hgrow _ hat
  obtain ⟨za, zk, zc, rfl⟩ := ownsRow_form2 hown6
  have B6 : Below w.heap.size w w6 := B0.trans ⟨hgrow.os, hgrow.tape, hgrow.output, hgrow.size, fun j hj => hgrow.block j (by omega) (fun e => by simp [Value.ownBlock] at e; omega)⟩
  have hown7 : w6.ownsRow w.heap.size 27 1 (.slice za zk zc) (key :: ks).length (keysV (key :: ks)) := by
   rw [show (key :: ks).length = 1 + ks.length from by simp; omega]
   exact hown6
  clear hown6 hgrow hat
  go_wp2_with fail
  exact bodyPost_ret (v := .slice za zk zc) (by simp [results, Tryz.results14, go_sem]) rfl ⟨_, rfl, B6, hown7⟩
theorem without_any (h1 : Rk w v ks) (i : Nat) (hi : i < ks.length) (hl : ks.length <= 1000000) : Calls Tryz.prog 13 #[v, .int .i64 i] w fun e w' => ∃ u, e = .returned u /\ Below w.heap.size w w' /\ w'.ownsRow w.heap.size 27 1 u (ks.eraseIdx i).length (keysV (ks.eraseIdx i)) := by
 obtain ⟨i0, hi0, hz0, hz1, hz2⟩ := info_parts info_u64
 obtain ⟨a, ca, rfl, a1, a2, a3⟩ := h1
 have hne : ks ≠ [] := fun e => by subst e; simp at hi
 obtain ⟨ga, oa, rfl, la, ha⟩ := a3.resolve_left (fun e => hne e.2.1)
 have hrd : ∀ j u, (keysV (ks.take i))[j]? = some u -> w.cell? ((⟨ga, oa, none⟩ : Addr).add j) = some u := keys_read (fun j k hk => ha j k (by
  rw [List.getElem?_take] at hk
  split at hk
  ·exact hk
  ·cases hk))
 go_enter Tryz.func13, Tryz.ntmps13
 go_upto_region 1 with fail
 refine wp_region_lit ?_
 iterate 9 go_step
 refine wpList_append_own_at _ rfl (.const (.slice none 0 0)) (.tmp 8) 22 rfl w.heap.size 27 i0 (.int .u64 0) 1 8 Tryz.underlying22 hi0 hz0 hz1 hz2 rfl (by decide) (.slice none 0 0) 0 [] rfl (World.ownsRow_nil _ _ _ _) ⟨ga, oa, none⟩ i ca (keysV (ks.take i)) (by simp [Act.eval]) (by simp [keysV]; omega) hrd keys_one (by simp only [maxLen]; omega) (by omega) (by omega) ?_
 intro v' w6 hown6 hgrow _ hat
 obtain ⟨za, zk, zc, rfl⟩ := ownsRow_form2 hown6
 have B6 : Below w.heap.size w w6 := ⟨hgrow.os, hgrow.tape, hgrow.output, hgrow.size, fun j hj => hgrow.block j (by omega) (fun e => by simp [Value.ownBlock] at e)⟩
 have hz := B6.size
 have hsub : ∃ o, (if ca = i + 1 then some (⟨ga, oa, none⟩ : Addr) else some ⟨ga, oa + (i + 1), none⟩) = some ⟨ga, o, none⟩ /\ ∀ j u, (keysV (ks.drop (i + 1)))[j]? = some u -> w6.cell? ((⟨ga, o, none⟩ : Addr).add j) = some u := by
  by_cases hca : ca = i + 1
  ·rw [if_pos hca]
   refine ⟨oa, rfl, fun j u hu => ?_⟩
   rw [List.drop_eq_nil_of_le (by omega)] at hu
   simp [keysV] at hu
  ·rw [if_neg hca]
   refine ⟨_, rfl, keys_read (fun j k hk => (B6.cell (p := ⟨ga, oa + (i + 1) + j, none⟩) la).trans (by
    rw [List.getElem?_drop] at hk
    rw [Nat.add_assoc]
    exact ha _ k hk))⟩
 obtain ⟨o2, ho2, hrd2⟩ := hsub
 clear ha hrd
 go_upto_region 2 with fail
 refine wp_region_lit ?_
 iterate 15 go_step
 refine wpList_append_own_at _ rfl (.tmp 10) (.tmp 14) 22 rfl w.heap.size 27 i0 (.int .u64 0) 1 8 Tryz.underlying22 hi0 hz0 hz1 hz2 rfl (by decide) (.slice za zk zc) (0 + i) ([] ++ keysV (ks.take i)) (by simp [Act.eval]) hown6 ⟨ga, o2, none⟩ (ks.length - (i + 1)) (ca - (i + 1)) (keysV (ks.drop (i + 1))) (by simp [Act.eval]) (by simp [keysV]) hrd2 keys_one (by simp only [maxLen]; omega) (by omega) (by omega) ?_
 intro v'' w7 hown7 hgrow7 _ _
 obtain ⟨ya, yk, yc, rfl⟩ := ownsRow_form2 hown7
 have B7 : Below w.heap.size w w7 := B6.trans ⟨hgrow7.os, hgrow7.tape, hgrow7.output, hgrow7.size, fun j hj => hgrow7.block j (by omega) (fun e => by have := (hown6.lt j e.symm).1; omega)⟩
 have hown8 : w7.ownsRow w.heap.size 27 1 (.slice ya yk yc) (ks.eraseIdx i).length (keysV (ks.eraseIdx i)) := by
  rw [List.length_eraseIdx, if_pos hi, show ks.length - 1 = 0 + i + (ks.length - (i + 1)) from by omega, List.eraseIdx_eq_take_drop_succ]
  have : keysV (ks.take i ++ ks.drop (i + 1)) = [] ++ keysV (ks.take i) ++ keysV (ks.drop (i + 1)) := by simp [keysV]
  rw [this]
  exact hown7
 clear hown6 hown7 hgrow hgrow7 hat hrd2
 go_wp2_with fail
 exact bodyPost_ret (v := .slice ya yk yc) (by simp [results, Tryz.results13, go_sem]) rfl ⟨_, rfl, B7, hown8⟩
end
theorem Fo.lows {own : Nat -> Prop} {w w' : World} {lo : Nat} (h : Fo own w w') (ho : ∀ k, own k -> lo <= k) (hl : lo <= w.heap.size) : Below lo w w' := ⟨h.os, h.tape, h.output, h.size, fun k hk => h.block k (by omega) (fun e => by have := ho k e; omega)⟩
section
variable {w0 w w' : World} {eb : Nat} {dom : Nat -> Prop} {x : Tx} {s t : Ex} {n : Nat × Nat × Nat} {E : Nat -> Addr} {vo vl : Value}
theorem told_yes (SS : Sent w0 E) (B0 : Below w0.heap.size w0 w) (h : Eg w eb dom x s n) (hlo : ∀ k, dom k \/ k = eb -> w0.heap.size <= k) (key : Nat) (hk : key < key64) (h1 : n.1 <= 100000000000000) (h2 : n.2.1 <= 100000000000000) (h3 : n.2.2 <= 100000000000000) {hit : Bool} {out l : List Nat} {queue : List UInt8} (ha : (polOf x).access s key = .ok (hit, out, t)) (hks : (polOf x).keys t queue = some l) (ho : Rk w vo out) (hl : Rk w vl l) (hf1 : ∀ g, vo.ownBlock = some g -> ¬ (dom g \/ g = eb)) (hf2 : ∀ g, vl.ownBlock = some g -> ¬ (dom g \/ g = eb)) :
  Calls Tryz.prog 15 #[ptr eb, .int .u64 key, .bool hit, vo, S queue, vl] w fun e w' => ∃ dom', e = .returned (.bool true) /\ Fo (fun k => dom k \/ k = eb) w w' /\ Eg w' eb dom' x t (cntE n hit out.length) /\ (∀ k, dom' k -> dom k \/ w.heap.size <= k) := by
 have hz0 := B0.size
 have HA := eaccess_any h (SS.move B0) key hk h1 h2 h3
 rw [ha] at HA
 go_enter Tryz.func15, Tryz.ntmps15
 go_wp2_with fail
 refine HA.mono ?_
 rintro e w1 ⟨ev, dom', rfl, hF, hE1, hd1, hown, hoff⟩
 have B1 : Below w0.heap.size w0 w1 := B0.trans (hF.lows hlo hz0)
 have HK := ekeys_any hE1 (SS.move B1) queue
 rw [hks] at HK
 clear HA
 go_wp2_with fail
 refine HK.mono ?_
 rintro e w2 ⟨B2, u, rfl, hu⟩
 have hz1 := hF.size
 have hev : Rk w2 ev out := (Rk.own hown).below B2
 have ho2 : Rk w2 vo out := (ho.fo hF hf1).below B2
 have hl2 : Rk w2 vl l := (hl.fo hF hf2).below B2
 have hu2 : Rk w2 u l := Rk.own hu
 clear HK
 go_wp2_with fail
 refine (same_yes hev ho2).mono ?_
 rintro e w3 ⟨rfl, B3⟩
 go_wp2_with fail
 refine (same_yes (hu2.below B3) (hl2.below B3)).mono ?_
 rintro e w4 ⟨rfl, B4⟩
 go_wp2_with fail
 go_ret
 have F4 : Fo (fun k => dom k \/ k = eb) w w4 := hF.trans (Fo.of (own := fun _ => False) ((B2.trans (B3.mono B2.size)).trans (B4.mono (Nat.le_trans B2.size B3.size)))) (fun k e => e.elim)
 exact ⟨dom', rfl, F4, ((hE1.below B2).below B3).below B4, hd1⟩
end
def oneL (n : Nat) : List DL := [([113, 117, 101, 117, 101], [114], n)]
def oneM : RT 8 := ([ifFull 6 0 [plT 6 [101, 118, 105, 99, 116] 0], plT 7 [112, 117, 116] 0] : List (Rt × RT 7 × RT 7))
def oneR : RT 8 := ([plT 7 [112, 117, 116] 0] : List (Rt × RT 7 × RT 7))
def zE (ks : List Nat) : List (Nat × Nat) := ks.map fun k => (k, 0)
def oneE (ks : List Nat) : Ex := ⟨[zE ks], [0], []⟩
theorem zE_no {ks : List Nat} {key : Nat} (h : key ∉ ks) : ∀ e ∈ zE ks, e.1 ≠ key := by
 intro e he
 simp only [zE, List.mem_map] at he
 obtain ⟨k, hk, rfl⟩ := he
 exact fun e => h (e ▸ hk)
theorem one_none {ks : List Nat} {key : Nat} (h : key ∉ ks) : whereX [zE ks] key = none := whereX_none (fun q hq => by
 simp at hq
 subst hq
 exact zE_no h)
theorem one_at {ks l1 l2 : List Nat} {key : Nat} (h : ks = l1 ++ key :: l2) (hn : key ∉ l1) : whereX [zE ks] key = some (0, l1.length) := by
 have := one_where (l := zE ks) (r := []) (key := key) (f := 0) (l1 := zE l1) (l2 := zE l2) (by rw [h]; simp [zE]) (zE_no hn)
 simpa [zE] using this
section
variable {P : Pol} {n : Nat}
theorem one_start (hL : P.L = oneL n) : P.start = oneE [] := by
 unfold Pol.start
 rw [hL]
 rfl
theorem one_keys (hL : P.L = oneL n) (ks : List Nat) : P.keys (oneE ks) [114] = some ks := by
 unfold Pol.keys Pol.find
 rw [hL]
 have e : (zE ks).map (fun e => e.1) = ks := by simp [zE, List.map_map, Function.comp_def]
 show some ((zE ks).map (fun e => e.1)) = some ks
 rw [e]
theorem one_hit0 (hL : P.L = oneL n) (hr : P.rul [114] = none) {ks l1 l2 : List Nat} {key : Nat} (h : ks = l1 ++ key :: l2) (hn : key ∉ l1) : P.access (oneE ks) key = .ok (true, [], oneE ks) := by
 have hw := one_at h hn
 have he : P.event (oneE ks) key = [114] := by unfold Pol.event; simp only [oneE, hw, hL]; rfl
 have hh : P.hit (oneE ks) key = true := by unfold Pol.hit; simp only [oneE, hw, hL]; rfl
 unfold Pol.access Pol.tree
 rw [he, hh, hr]
 rfl
theorem one_hit (hL : P.L = oneL n) (hr : P.rul [114] = some oneR) {ks l1 l2 : List Nat} {key : Nat} (h : ks = l1 ++ key :: l2) (hn : key ∉ l1) (hl : ks.length <= n) : P.access (oneE ks) key = .ok (true, [], oneE (key :: (l1 ++ l2))) := by
 have hw := one_at h hn
 have he : P.event (oneE ks) key = [114] := by unfold Pol.event; simp only [oneE, hw, hL]; rfl
 have hh : P.hit (oneE ks) key = true := by unfold Pol.hit; simp only [oneE, hw, hL]; rfl
 unfold Pol.access Pol.tree
 rw [he, hh, hr, hL]
 have eb : Ex.blk (oneL n) P.mf key 8 ((some oneR).getD (RTnil 8)) (oneE ks).fresh = seqX (Ex.stm (Ex.blk (oneL n) P.mf key 7) (oneL n) P.mf key) [plT 7 [112, 117, 116] 0] (oneE ks) := rfl
 rw [eb]
 simp only [seqX, stm_pl _ _ _ _ _ _ (show ([112, 117, 116] : List UInt8) ≠ [105, 102] by decide) (show ([112, 117, 116] : List UInt8) ≠ [114, 101, 112, 101, 97, 116] by decide), pl_put]
 have hlen : (l1 ++ l2).length < n := by rw [h] at hl; simp at hl ⊢; omega
 have ho : (oneE ks).out 0 l1.length = oneE (l1 ++ l2) := by
  unfold Ex.out oneE
  have : (zE ks).eraseIdx l1.length = zE (l1 ++ l2) := by
   have e : l1.length = (zE l1).length := by simp [zE]
   rw [h, e]
   simp only [zE, List.map_append, List.map_cons]
   rw [List.eraseIdx_append_of_length_le (by simp)]
   simp
  simp [this]
 have hx : ((oneE ks).Q.getD 0 []).getD l1.length (0, 0) = (key, 0) := by
  show (zE ks).getD l1.length (0, 0) = _
  rw [h]
  simp [zE]
 unfold Ex.moved
 have hw' : whereX (oneE ks).Q key = some (0, l1.length) := hw
 simp only [hw']
 rw [hx, ho]
 unfold Ex.comes Ex.inn
 have hmx : maxX (oneL n) 0 = n := rfl
 have hq : (oneE (l1 ++ l2)).Q.getD 0 [] = zE (l1 ++ l2) := rfl
 rw [hmx, hq, if_neg (show ¬ n <= (zE (l1 ++ l2)).length by simp [zE] at hlen ⊢; omega)]
 simp [putE, resX, oneL, oneE, zE, Ex.fresh]
theorem one_put (n mf : Nat) {ks : List Nat} {key : Nat} (hn : key ∉ ks) (hl : ks.length < n) (g : List Nat) : (⟨[zE ks], [0], g⟩ : Ex).plain (oneL n) mf key (rtP [112, 117, 116] 0) = .ok ⟨[zE (key :: ks)], [0], g⟩ := by
 rw [pl_put]
 unfold Ex.moved
 simp only [one_none hn]
 unfold Ex.comes Ex.inn
 have hmx : maxX (oneL n) 0 = n := rfl
 have hq : (⟨[zE ks], [0], g⟩ : Ex).Q.getD 0 [] = zE ks := rfl
 rw [hmx, hq, if_neg (show ¬ n <= (zE ks).length by simp [zE]; omega)]
 simp [putE, resX, oneL, zE]
theorem one_miss0 (hL : P.L = oneL n) (hr : P.rul [109, 105, 115, 115] = some oneM) {ks : List Nat} {key : Nat} (hn : key ∉ ks) (hl : ks.length < n) : P.access (oneE ks) key = .ok (false, [], oneE (key :: ks)) := by
 have hw : whereX (oneE ks).Q key = none := one_none hn
 have he : P.event (oneE ks) key = [109, 105, 115, 115] := by unfold Pol.event; simp only [hw]
 have hh : P.hit (oneE ks) key = false := by unfold Pol.hit; simp only [hw]
 unfold Pol.access Pol.tree
 rw [he, hh, hr, hL]
 have eb : Ex.blk (oneL n) P.mf key 8 ((some oneM).getD (RTnil 8)) (oneE ks).fresh = seqX (Ex.stm (Ex.blk (oneL n) P.mf key 7) (oneL n) P.mf key) [ifFull 6 0 [plT 6 [101, 118, 105, 99, 116] 0], plT 7 [112, 117, 116] 0] ⟨[zE ks], [0], []⟩ := rfl
 rw [eb]
 have hmx : maxX (oneL n) 0 = n := rfl
 have hq : (⟨[zE ks], [0], []⟩ : Ex).Q.getD 0 [] = zE ks := rfl
 simp only [seqX, stm_if, hmx, hq]
 rw [if_neg (show ¬ n <= (zE ks).length by simp [zE]; omega)]
 simp only [stm_pl _ _ _ _ _ _ (show ([112, 117, 116] : List UInt8) ≠ [105, 102] by decide) (show ([112, 117, 116] : List UInt8) ≠ [114, 101, 112, 101, 97, 116] by decide), one_put n _ hn hl]
 rfl
theorem one_miss1 (hL : P.L = oneL n) (hr : P.rul [109, 105, 115, 115] = some oneM) {m : List Nat} {k key : Nat} (hn : key ∉ m ++ [k]) (hl : (m ++ [k]).length = n) : P.access (oneE (m ++ [k])) key = .ok (false, [k], oneE (key :: m)) := by
 have hw : whereX (oneE (m ++ [k])).Q key = none := one_none hn
 have he : P.event (oneE (m ++ [k])) key = [109, 105, 115, 115] := by unfold Pol.event; simp only [hw]
 have hh : P.hit (oneE (m ++ [k])) key = false := by unfold Pol.hit; simp only [hw]
 unfold Pol.access Pol.tree
 rw [he, hh, hr, hL]
 have eb : Ex.blk (oneL n) P.mf key 8 ((some oneM).getD (RTnil 8)) (oneE (m ++ [k])).fresh = seqX (Ex.stm (Ex.blk (oneL n) P.mf key 7) (oneL n) P.mf key) [ifFull 6 0 [plT 6 [101, 118, 105, 99, 116] 0], plT 7 [112, 117, 116] 0] ⟨[zE (m ++ [k])], [0], []⟩ := rfl
 rw [eb]
 have hmx : maxX (oneL n) 0 = n := rfl
 have hq : (⟨[zE (m ++ [k])], [0], []⟩ : Ex).Q.getD 0 [] = zE (m ++ [k]) := rfl
 have hln : (zE (m ++ [k])).length = n := by simpa [zE] using hl
 simp only [seqX, stm_if, hmx, hq]
 rw [if_pos (by omega)]
 simp only [stm_pl _ _ _ _ _ _ (show ([101, 118, 105, 99, 116] : List UInt8) ≠ [105, 102] by decide) (show ([101, 118, 105, 99, 116] : List UInt8) ≠ [114, 101, 112, 101, 97, 116] by decide), stm_pl _ _ _ _ _ _ (show ([112, 117, 116] : List UInt8) ≠ [105, 102] by decide) (show ([112, 117, 116] : List UInt8) ≠ [114, 101, 112, 101, 97, 116] by decide)]
 rw [pl_evict (m := zE m) (k := k) (f := 0) _ _ _ _ _ (by rw [hq]; simp [zE])]
 have ho : ((⟨[zE (m ++ [k])], [0], []⟩ : Ex).out 0 (zE m).length).leaves (oneL n) 0 k = ⟨[zE m], [0], [k]⟩ := by
  have he : (zE (m ++ [k])).eraseIdx (zE m).length = zE m := by
   simp only [zE, List.map_append]
   rw [List.eraseIdx_append_of_length_le (Nat.le_refl _)]
   simp
  unfold Ex.leaves Ex.out
  rw [if_pos (show resX (oneL n) 0 = true from rfl)]
  simp [he]
 simp only [ho]
 rw [one_put n _ (fun e => hn (by simp [e])) (by simp at hl; omega)]
 rfl
end
end Go.Proofs.YtfddoieakfpagabGreatDoor
