import Derived.Test.YtfddoieakfpagabGreatDoorJT
namespace Go.Proofs.YtfddoieakfpagabGreatDoor
open Go.RowKit
theorem tq_text (n m g : Nat) : ByteArray.mk tqA.toArray ++ ByteArray.mk (figL n).toArray ++ ByteArray.mk tqB.toArray ++ ByteArray.mk (figL m).toArray ++ ByteArray.mk tqC.toArray ++ ByteArray.mk (figL g).toArray ++ ByteArray.mk tqD.toArray = ByteArray.mk (tqTxt n m g).toArray := by
  rw [bapp4, bapp4, bapp4, bapp4, bapp4, bapp4]
  simp [tqTxt]
theorem erase_at {l l1 l2 : List Nat} {k j : Nat} (h : l = l1 ++ k :: l2) (hj : l1.length = j) : l.eraseIdx j = l1 ++ l2 := by
  rw [h, ← hj, List.eraseIdx_append_of_length_le (Nat.le_refl _)]
  simp
theorem erase_last {l m : List Nat} {k j : Nat} (h : l = m ++ [k]) (hj : m.length = j) : l.eraseIdx j = m := by
  rw [h, ← hj, List.eraseIdx_append_of_length_le (Nat.le_refl _)]
  simp
theorem last_split {l : List Nat} {n : Nat} (h : l.length = 1 + n) : ∃ m k, l = m ++ [k] ∧ m.length = n ∧ l[n]? = some k := by
  have hn : l ≠ [] := fun e => by rw [e] at h; simp at h; omega
  refine ⟨l.dropLast, l.getLast hn, (List.dropLast_concat_getLast hn).symm, by simp; omega, ?_⟩
  have hl : l.length - 1 = n := by omega
  rw [List.getLast_eq_getElem, List.getElem?_eq_getElem (by omega)]
  simp [hl]
/-- What stands last, as a slice of its own. -/
theorem Rk.tail {w : World} {gl ol n c : Nat} {l : List Nat} {k : Nat} (h : Rk w (.slice (some ⟨gl, ol, none⟩) l.length c) l) (hl : l.length = 1 + n) (hk : l[n]? = some k) : Rk w (.slice (some ⟨gl, ol + n, none⟩) 1 (c - n)) [k] ∧ w.cell? ⟨gl, ol + n, none⟩ = some (.int .u64 k) ∧ gl < w.heap.size := by
  obtain ⟨a, cap, e, h1, h2, h3⟩ := h
  simp only [Value.slice.injEq] at e
  obtain ⟨rfl, _, rfl⟩ := e
  rcases h3 with ⟨h3, _⟩ | ⟨g2, o2, e2, hg2, hc⟩
  · cases h3
  · simp only [Option.some.injEq, Addr.mk.injEq] at e2
    obtain ⟨rfl, rfl, _⟩ := e2
    have hck := hc n k hk
    refine ⟨⟨_, _, rfl, by simp; omega, by omega, Or.inr ⟨gl, ol + n, rfl, hg2, fun j u hu => ?_⟩⟩, hck, hg2⟩
    rcases j with _ | j
    · simp at hu; subst hu; exact hck
    · simp at hu
set_option maxRecDepth 20000 in
set_option maxHeartbeats 3000000 in
theorem twoQueues_any {w : World} {E : Nat → Addr} (SS : Sent w E) {va : Value} {l : List Nat} (hv : Rq w va l) (hk64 : ∀ k ∈ l, k < key64) (hl : l.length ≤ 281474976710656) (c1 c2 c3 : Int) (h1 : -9223372036854775808 ≤ c1 ∧ c1 ≤ 9223372036854775807) (h2 : -9223372036854775808 ≤ c2 ∧ c2 ≤ 9223372036854775807) (h3 : -9223372036854775808 ≤ c3 ∧ c3 ≤ 9223372036854775807) :
    Calls Tryz.prog 4 #[va, .int .i64 c1, .int .i64 c2, .int .i64 c3] w fun e w' => e = .returned (.bool true) ∧ Below w.heap.size w w' := by
  obtain ⟨aa, ca, rfl, a3⟩ := hv
  go_enter Tryz.func4, Tryz.ntmps4
  go_wp2_with fail
  refine (pickK_any c1 20 (by decide) (by decide) w h1.1 h1.2).mono ?_
  rintro e w1 ⟨kn, hkn, rfl, rfl⟩
  go_wp2_with fail
  refine (pickK_any c2 20 (by decide) (by decide) w1 h2.1 h2.2).mono ?_
  rintro e w1 ⟨km, hkm, rfl, rfl⟩
  go_wp2_with fail
  refine (pickK_any c3 20 (by decide) (by decide) w1 h3.1 h3.2).mono ?_
  rintro e w1 ⟨kg, hkg, rfl, rfl⟩
  obtain ⟨x, hx, hp⟩ := tq_pol (1 + kn) (1 + km) (1 + kg) (by omega) (by omega) (by omega) (by omega) (by omega) (by omega)
  have HF1 := figK_any (1 + kn) (by omega) w1
  rw [show ((1 + kn : Nat) : Int) = 1 + (kn : Int) from by omega] at HF1
  have hf1 := figL_lf (1 + kn)
  have hf2 := figL_lf (1 + km)
  have hf3 := figL_lf (1 + kg)
  go_wp2_with fail
  refine HF1.mono ?_
  rintro e w2 ⟨rfl, B2⟩
  clear HF1
  have HF2 := figK_any (1 + km) (by omega) w2
  rw [show ((1 + km : Nat) : Int) = 1 + (km : Int) from by omega] at HF2
  have f1 : ¬ (9223372036854775807 < 9 + (figL (1 + kn)).length) := by omega
  have f2 : ¬ (9223372036854775807 < 9 + (figL (1 + kn)).length + 13) := by omega
  go_wp2_with fail
  refine HF2.mono ?_
  rintro e w3 ⟨rfl, B3⟩
  clear HF2
  have HF3 := figK_any (1 + kg) (by omega) w3
  rw [show ((1 + kg : Nat) : Int) = 1 + (kg : Int) from by omega] at HF3
  have f3 : ¬ (9223372036854775807 < 9 + (figL (1 + kn)).length + 13 + (figL (1 + km)).length) := by omega
  have f4 : ¬ (9223372036854775807 < 9 + (figL (1 + kn)).length + 13 + (figL (1 + km)).length + 12) := by omega
  go_wp2_with fail
  refine HF3.mono ?_
  rintro e w4 ⟨rfl, B4⟩
  clear HF3
  have f5 : ¬ (9223372036854775807 < 9 + (figL (1 + kn)).length + 13 + (figL (1 + km)).length + 12 + (figL (1 + kg)).length) := by omega
  go_wp2_with fail
  have e2 := tq_text (1 + kn) (1 + km) (1 + kg)
  simp only [tqA, tqB, tqC, tqD] at e2
  rw [e2]
  have hks : (polOf x).keys (polOf x).start [109, 97, 105, 110] = some [] := by rw [tq_start hp]; exact (tq_keys hp).2.1
  have B24 : Below w1.heap.size w1 w4 := (B2.trans (B3.mono B2.size)).trans (B4.mono (Nat.le_trans B2.size B3.size))
  refine (kload_any (SS.move B24) _ [109, 97, 105, 110] x hx hks).mono ?_
  rintro e w5 ⟨g, dom, rfl, B5, hg, hd, hE⟩
  rw [tq_start hp] at hE
  have hz2 := B24.size
  have H0 : TqE w1 (1 + kn) (1 + km) (1 + kg) w1.heap.size x g 0 (.slice none 0 0) (.slice none 0 0) (.slice none 0 0) w5 := ⟨⟨[], [], [], dom, (0, 0, 0), ⟨by simp, by simp, by simp, by simp⟩, hE, Rk.nil, Rk.nil, Rk.nil, fun b hb => by simp [Value.ownBlock] at hb, fun j hj => by have := hd j hj; omega, by simp⟩, by omega, B24.trans (B5.mono hz2)⟩
  clear hE hd hks B2 B3 B4 B5 B24 hz2 hg hx e2 f1 f2 f3 f4 f5 hf1 hf2 hf3
  go_wp2_with fail
  go_loopg [10, 11, 12, 49] (min l.length 16384) (fun f v10 v11 v12 v49 wr => ∃ i : Nat, v49 = .int .i64 i ∧ i + f = min l.length 16384 ∧ TqE w1 (1 + kn) (1 + km) (1 + kg) w1.heap.size x g i v10 v11 v12 wr)
  case atStart => exact ⟨0, rfl, by omega, H0⟩
  case round =>
    obtain ⟨i, rfl, hi, H⟩ := hrel
    have hz := H.b.size
    clear H0
    obtain ⟨is, ms, os, dom, cn, hI, hE, hRi, hRm, hRo, hoff, hd, hcn⟩ := H.ex
    by_cases hlt : i < l.length
    · have hne : l ≠ [] := fun e => by subst e; simp at hlt
      obtain ⟨ga, oa, rfl, lga, hcell⟩ := a3.resolve_left hne
      have cc := (H.b.cell (p := ⟨ga, oa + i, none⟩) lga).trans (hcell i _ (List.getElem?_eq_getElem hlt))
      have ix := ix_u64 ga oa l.length ca i hlt
      have hk6 := hk64 _ (List.getElem_mem hlt)
      generalize l[i] = key at *
      have t1 : decide ((i : Int) < (l.length : Int)) = true := by simp; omega
      clear hcell a3 hne
      by_cases hlt2 : i < 16384
      · have t3 : ((i : Int) == 16384) = false := by simp; omega
        have hRi0 := hRi
        have hRm0 := hRm
        have hRo0 := hRo
        obtain ⟨ia, ic, rfl, i1, i2, i3⟩ := hRi0
        obtain ⟨ma, mc, rfl, m1, m2, m3⟩ := hRm0
        obtain ⟨xa, xc, rfl, x1, x2, x3⟩ := hRo0
        have hdl := hE.dl
        have hgl := hE.lt
        have hnd : Hid (∀ b, wr.heap.size ≤ b → ¬ (dom b ∨ b = g)) := fun b hb e => by
          rcases e with e | e
          · have := hdl b e; omega
          · omega
        have hli := hI.li
        have hlm := hI.lm
        have hlo := hI.lo
        cases hf : ms.findIdx? (· == key) with
        | some j =>
          have HA := at_any hRm key j (by rw [hf])
          obtain ⟨r2, HB⟩ : ∃ r : Int, Calls Tryz.prog 12 #[.slice xa os.length xc, .int .u64 key] wr fun e w' => e = .returned (.int .i64 r) ∧ w' = wr := ⟨_, at_any hRo key _ rfl⟩
          obtain ⟨l1, l2, e, hnn, hj⟩ := idx_splt hf
          have hki : key ∉ is := hI.dis key (by rw [e]; simp)
          have hacc := tq_main (o := os) hp hki e hnn hI.lm
          have hjl : j < ms.length := by rw [e]; simp; omega
          have HWo := without_any hRm j hjl (by omega)
          rw [erase_at e hj] at HWo
          have h12 : (l1 ++ l2).length ≤ 1000000 ∧ (key :: (l1 ++ l2)).length ≤ 1 + km := by rw [e] at hlm; simp at hlm ⊢; omega
          have hdis : ∀ k ∈ key :: (l1 ++ l2), k ∉ is := fun k hk => by
            rcases List.mem_cons.1 hk with rfl | hk
            · exact hki
            · exact hI.dis k (by rw [e]; simp at hk ⊢; rcases hk with hk | hk <;> simp [hk])
          have HNx : Hid (∀ w7 wz u, Below wr.heap.size wr w7 → Below w7.heap.size w7 wz → wz.ownsRow w7.heap.size 27 1 u (key :: (l1 ++ l2)).length (keysV (key :: (l1 ++ l2))) → Calls Tryz.prog 15 #[ptr g, .int .u64 key, .bool true, .slice none 0 0, S [109, 97, 105, 110], u] wz fun e wb => e = .returned (.bool true) ∧ TqE w1 (1 + kn) (1 + km) (1 + kg) w1.heap.size x g (i + 1) (.slice ia is.length ic) (u) (.slice xa os.length xc) wb) := fun w7 wz u B7 B8 o8 => by
            have hs7 := B7.size
            have BB := B7.trans (B8.mono hs7)
            exact tq_told SS H.b H.g hE hd hcn (by omega) hk6 BB hp hacc (by simp) ⟨hdis, hI.li, h12.2, hI.lo⟩ Rk.nil (fun b hb => by simp [Value.ownBlock] at hb) (hRi.below BB) (Rk.own o8) (hRo.below BB) (fun b hb => by
              rcases hb with hb | hb | hb
              · exact hoff b (Or.inl hb)
              · exact hnd.out b (by have := (o8.lt b hb).1; omega)
              · exact hoff b (Or.inr (Or.inr hb)))
          have h12 := h12.1
          clear e hnn hj hki hacc hjl hdis hf
          clear hI hE hRi hRm hRo hoff hd hcn hdl i3 m3 x3
          go_upto_region 13 with fail
          go_wp2_with fail
          refine HA.mono ?_
          rintro e w6 ⟨rfl, rfl⟩
          clear HA
          go_upto_region 14 with fail
          go_wp2_with fail
          refine HB.mono ?_
          rintro e w6 ⟨rfl, rfl⟩
          clear HB
          go_upto_region 24 with fail
          go_wp2_with fail
          refine HWo.mono ?_
          rintro e w7 ⟨u7, rfl, B7, o7⟩
          have HFr := front_any (Rk.own o7) h12 key
          clear HWo o7
          go_wp2_with fail
          refine HFr.mono ?_
          rintro e w8 ⟨u8, rfl, B8, o8⟩
          clear HFr
          have HT := HNx.out w7 w8 u8 B7 B8 o8
          clear HNx
          go_upto_region 32 with fail
          go_wp2_with fail
          refine HT.mono ?_
          rintro e w9 ⟨rfl, H9⟩
          clear HT
          have HK := tq_looks SS hp H9
          go_upto_region 34 with fail
          go_wp2_with fail
          refine HK.mono ?_
          rintro e w10 ⟨u10, rfl, HK2⟩
          clear HK
          go_wp2_with fail
          refine HK2.mono ?_
          rintro e w11 ⟨u11, rfl, HS1⟩
          clear HK2
          go_wp2_with fail
          refine HS1.mono ?_
          rintro e w12 ⟨rfl, HS2⟩
          clear HS1
          go_wp2_with fail
          refine HS2.mono ?_
          rintro e w13 ⟨rfl, H13⟩
          clear HS2
          go_wp2_with fail
          go_roundg (gk - 1)
          case measure => omega
          case rel => exact ⟨i + 1, by simp, by omega, H13⟩
        | none =>
          have hnm := idx_non hf
          have HA := at_any hRm key (-1) (by rw [hf])
          clear hf
          cases hf : is.findIdx? (· == key) with
          | some j =>
            have HC := at_any hRi key j (by rw [hf])
            obtain ⟨r2, HB⟩ : ∃ r : Int, Calls Tryz.prog 12 #[.slice xa os.length xc, .int .u64 key] wr fun e w' => e = .returned (.int .i64 r) ∧ w' = wr := ⟨_, at_any hRo key _ rfl⟩
            obtain ⟨l1, l2, e, hnn, hj⟩ := idx_splt hf
            have hacc := tq_in (m := ms) (o := os) hp e hnn
            have HNx := tq_told (vi := .slice ia is.length ic) (vm := .slice ma ms.length mc) (vo := .slice xa os.length xc) SS H.b H.g hE hd hcn (by omega) hk6 (Below.refl _ _) hp hacc (by simp) hI Rk.nil (fun b hb => by simp [Value.ownBlock] at hb) hRi hRm hRo hoff
            clear e hnn hj hacc hf hnm
            clear hI hE hRi hRm hRo hoff hd hcn hdl i3 m3 x3
            go_upto_region 13 with fail
            go_wp2_with fail
            refine HA.mono ?_
            rintro e w6 ⟨rfl, rfl⟩
            clear HA
            go_upto_region 14 with fail
            go_wp2_with fail
            refine HB.mono ?_
            rintro e w6 ⟨rfl, rfl⟩
            clear HB
            go_upto_region 15 with fail
            go_wp2_with fail
            refine HC.mono ?_
            rintro e w6 ⟨rfl, rfl⟩
            clear HC
            have HT := HNx
            clear HNx
            go_upto_region 32 with fail
            go_wp2_with fail
            refine HT.mono ?_
            rintro e w9 ⟨rfl, H9⟩
            clear HT
            have HK := tq_looks SS hp H9
            go_upto_region 34 with fail
            go_wp2_with fail
            refine HK.mono ?_
            rintro e w10 ⟨u10, rfl, HK2⟩
            clear HK
            go_wp2_with fail
            refine HK2.mono ?_
            rintro e w11 ⟨u11, rfl, HS1⟩
            clear HK2
            go_wp2_with fail
            refine HS1.mono ?_
            rintro e w12 ⟨rfl, HS2⟩
            clear HS1
            go_wp2_with fail
            refine HS2.mono ?_
            rintro e w13 ⟨rfl, H13⟩
            clear HS2
            go_wp2_with fail
            go_roundg (gk - 1)
            case measure => omega
            case rel => exact ⟨i + 1, by simp, by omega, H13⟩
          | none =>
            have hni := idx_non hf
            have HC := at_any hRi key (-1) (by rw [hf])
            clear hf
            cases hf : os.findIdx? (· == key) with
            | some j =>
              have HB := at_any hRo key j (by rw [hf])
              obtain ⟨l1, l2, e, hnn, hj⟩ := idx_splt hf
              have hjl : j < os.length := by rw [e]; simp; omega
              have h12 : (l1 ++ l2).length ≤ 1 + kg := by rw [e] at hlo; simp at hlo ⊢; omega
              have HW2 : Hid (∀ w7, Below wr.heap.size wr w7 → Calls Tryz.prog 13 #[.slice xa os.length xc, .int .i64 j] w7 fun e w' => ∃ u, e = .returned u ∧ Below w7.heap.size w7 w' ∧ w'.ownsRow w7.heap.size 27 1 u (l1 ++ l2).length (keysV (l1 ++ l2))) := fun w7 B7 => by
                have := without_any (hRo.below B7) j hjl (by omega)
                rw [erase_at e hj] at this
                exact this
              by_cases hfull : ms.length = 1 + km
              · have feq : ((ms.length : Int) == 1 + (km : Int)) = true := by simp; omega
                have hmn : ms ≠ [] := fun e => by rw [e] at hfull; simp at hfull; omega
                obtain ⟨gl, ol, rfl, _, _⟩ := m3.resolve_left (fun e => hmn e.2.1)
                obtain ⟨m', kk, em, hml, hrow⟩ := last_split hfull
                obtain ⟨hout, _, _⟩ := hRm.tail hfull hrow
                have hlc : ¬ mc = km := by omega
                have hlk : km ≤ ms.length := by omega
                have hsk : ms.length - km = 1 := by omega
                have HWo := without_any hRm km (by omega) (by omega)
                rw [erase_last em hml] at HWo
                have hacc : (polOf x).access (tqX is ms os []) key = .ok (false, [kk], tqX is (key :: m') (l1 ++ l2) []) := by
                  rw [em]
                  exact tq_gh1 hp hni (by rw [← em]; exact hnm) e hnn (by rw [← em]; exact hfull)
                have hdis : ∀ k ∈ key :: m', k ∉ is := fun k hk => by
                  rcases List.mem_cons.1 hk with rfl | hk
                  · exact hni
                  · exact hI.dis k (by rw [em]; simp [hk])
                have hm6 : m'.length ≤ 1000000 := by omega
                have hm7 : (key :: m').length ≤ 1 + km := by simp; omega
                have HNx : Hid (∀ w7 w8 wz u8 u9, Below wr.heap.size wr w7 → Below w7.heap.size w7 w8 → w8.ownsRow w7.heap.size 27 1 u8 (l1 ++ l2).length (keysV (l1 ++ l2)) → Below w8.heap.size w8 wz → wz.ownsRow w8.heap.size 27 1 u9 (key :: m').length (keysV (key :: m')) → Calls Tryz.prog 15 #[ptr g, .int .u64 key, .bool false, .slice (some ⟨gl, ol + km, none⟩) (ms.length - km) (mc - km), S [109, 97, 105, 110], u9] wz fun e wb => e = .returned (.bool true) ∧ TqE w1 (1 + kn) (1 + km) (1 + kg) w1.heap.size x g (i + 1) (.slice ia is.length ic) (u9) (u8) wb) := fun w7 w8 wz u8 u9 B7 B8 o8 B9 o9 => by
                  have hs7 := B7.size
                  have hs8 := B8.size
                  have BB := (B7.trans (B8.mono hs7)).trans (B9.mono (Nat.le_trans hs7 hs8))
                  rw [hsk]
                  exact tq_told SS H.b H.g hE hd hcn (by omega) hk6 BB hp hacc (by simp) ⟨hdis, hI.li, hm7, h12⟩ (hout.below BB) (fun b hb => hoff b (Or.inr (Or.inl (by simpa [Value.ownBlock] using hb)))) (hRi.below BB) (Rk.own o9) ((Rk.own o8).below B9) (fun b hb => by
                    rcases hb with hb | hb | hb
                    · exact hoff b (Or.inl hb)
                    · exact hnd.out b (by have := (o9.lt b hb).1; omega)
                    · exact hnd.out b (by have := (o8.lt b hb).1; omega))
                clear e hnn hj hacc hjl hdis hf hmn em hml hrow hout hsk hfull hm7 h12 hnm hni
                clear hI hE hRi hRm hRo hoff hd hcn hdl i3 x3
                go_upto_region 13 with fail
                go_wp2_with fail
                refine HA.mono ?_
                rintro e w6 ⟨rfl, rfl⟩
                clear HA
                go_upto_region 14 with fail
                go_wp2_with fail
                refine HB.mono ?_
                rintro e w6 ⟨rfl, rfl⟩
                clear HB
                go_upto_region 15 with fail
                go_wp2_with fail
                refine HC.mono ?_
                rintro e w6 ⟨rfl, rfl⟩
                clear HC
                go_upto_region 29 with fail
                go_wp2_with fail
                rw [show (1 + (km : Int) - 1) = (km : Int) from by omega]
                refine HWo.mono ?_
                rintro e w7 ⟨u7, rfl, B7, o7⟩
                have HW3 := HW2.out w7 B7
                clear HWo HW2
                go_upto_region 30 with fail
                go_wp2_with fail
                refine HW3.mono ?_
                rintro e w8 ⟨u8, rfl, B8, o8⟩
                have HFr := front_any ((Rk.own o7).below B8) hm6 key
                clear HW3 o7
                go_upto_region 31 with fail
                go_wp2_with fail
                refine HFr.mono ?_
                rintro e w9 ⟨u9, rfl, B9, o9⟩
                clear HFr
                have HT := HNx.out w7 w8 w9 u8 u9 B7 B8 o8 B9 o9
                clear HNx
                go_upto_region 32 with fail
                go_wp2_with fail
                refine HT.mono ?_
                rintro e wy ⟨rfl, H9⟩
                clear HT
                have HK := tq_looks SS hp H9
                go_upto_region 34 with fail
                go_wp2_with fail
                refine HK.mono ?_
                rintro e w10 ⟨u10, rfl, HK2⟩
                clear HK
                go_wp2_with fail
                refine HK2.mono ?_
                rintro e w11 ⟨u11, rfl, HS1⟩
                clear HK2
                go_wp2_with fail
                refine HS1.mono ?_
                rintro e w12 ⟨rfl, HS2⟩
                clear HS1
                go_wp2_with fail
                refine HS2.mono ?_
                rintro e w13 ⟨rfl, H13⟩
                clear HS2
                go_wp2_with fail
                go_roundg (gk - 1)
                case measure => omega
                case rel => exact ⟨i + 1, by simp, by omega, H13⟩
              · have fneq : ((ms.length : Int) == 1 + (km : Int)) = false := by simp; omega
                have HWo := HW2.out wr (Below.refl _ _)
                have hacc := tq_gh0 hp hni hnm e hnn (show ms.length < 1 + km by omega)
                have hdis : ∀ k ∈ key :: ms, k ∉ is := fun k hk => by
                  rcases List.mem_cons.1 hk with rfl | hk
                  · exact hni
                  · exact hI.dis k hk
                have HF7 : Hid (∀ w7, Below wr.heap.size wr w7 → Calls Tryz.prog 14 #[.slice ma ms.length mc, .int .u64 key] w7 fun e w' => ∃ u, e = .returned u ∧ Below w7.heap.size w7 w' ∧ w'.ownsRow w7.heap.size 27 1 u (key :: ms).length (keysV (key :: ms))) := fun w7 B7 => front_any (hRm.below B7) (by omega) key
                have hm7 : (key :: ms).length ≤ 1 + km := by simp; omega
                have HNx : Hid (∀ w7 wz u7 u8, Below wr.heap.size wr w7 → w7.ownsRow wr.heap.size 27 1 u7 (l1 ++ l2).length (keysV (l1 ++ l2)) → Below w7.heap.size w7 wz → wz.ownsRow w7.heap.size 27 1 u8 (key :: ms).length (keysV (key :: ms)) → Calls Tryz.prog 15 #[ptr g, .int .u64 key, .bool false, .slice none 0 0, S [109, 97, 105, 110], u8] wz fun e wb => e = .returned (.bool true) ∧ TqE w1 (1 + kn) (1 + km) (1 + kg) w1.heap.size x g (i + 1) (.slice ia is.length ic) (u8) (u7) wb) := fun w7 wz u7 u8 B7 o7 B8 o8 => by
                  have hs7 := B7.size
                  have BB := B7.trans (B8.mono hs7)
                  exact tq_told SS H.b H.g hE hd hcn (by omega) hk6 BB hp hacc (by simp) ⟨hdis, hI.li, hm7, h12⟩ Rk.nil (fun b hb => by simp [Value.ownBlock] at hb) (hRi.below BB) (Rk.own o8) ((Rk.own o7).below B8) (fun b hb => by
                    rcases hb with hb | hb | hb
                    · exact hoff b (Or.inl hb)
                    · exact hnd.out b (by have := (o8.lt b hb).1; omega)
                    · exact hnd.out b (by have := (o7.lt b hb).1; omega))
                clear e hnn hj hacc hjl hdis hf hfull hm7 h12 hnm hni HW2
                clear hI hE hRi hRm hRo hoff hd hcn hdl i3 m3 x3
                go_upto_region 13 with fail
                go_wp2_with fail
                refine HA.mono ?_
                rintro e w6 ⟨rfl, rfl⟩
                clear HA
                go_upto_region 14 with fail
                go_wp2_with fail
                refine HB.mono ?_
                rintro e w6 ⟨rfl, rfl⟩
                clear HB
                go_upto_region 15 with fail
                go_wp2_with fail
                refine HC.mono ?_
                rintro e w6 ⟨rfl, rfl⟩
                clear HC
                go_upto_region 30 with fail
                go_wp2_with fail
                refine HWo.mono ?_
                rintro e w7 ⟨u7, rfl, B7, o7⟩
                have HFr := HF7.out w7 B7
                clear HWo HF7
                go_upto_region 31 with fail
                go_wp2_with fail
                refine HFr.mono ?_
                rintro e w8 ⟨u8, rfl, B8, o8⟩
                clear HFr
                have HT := HNx.out w7 w8 u7 u8 B7 o7 B8 o8
                clear HNx
                go_upto_region 32 with fail
                go_wp2_with fail
                refine HT.mono ?_
                rintro e w9 ⟨rfl, H9⟩
                clear HT
                have HK := tq_looks SS hp H9
                go_upto_region 34 with fail
                go_wp2_with fail
                refine HK.mono ?_
                rintro e w10 ⟨u10, rfl, HK2⟩
                clear HK
                go_wp2_with fail
                refine HK2.mono ?_
                rintro e w11 ⟨u11, rfl, HS1⟩
                clear HK2
                go_wp2_with fail
                refine HS1.mono ?_
                rintro e w12 ⟨rfl, HS2⟩
                clear HS1
                go_wp2_with fail
                refine HS2.mono ?_
                rintro e w13 ⟨rfl, H13⟩
                clear HS2
                go_wp2_with fail
                go_roundg (gk - 1)
                case measure => omega
                case rel => exact ⟨i + 1, by simp, by omega, H13⟩
            | none =>
              have hno := idx_non hf
              have HB := at_any hRo key (-1) (by rw [hf])
              clear hf
              by_cases hfull : is.length = 1 + kn
              · have feq : ((is.length : Int) == 1 + (kn : Int)) = true := by simp; omega
                have hin : is ≠ [] := fun e => by rw [e] at hfull; simp at hfull; omega
                obtain ⟨gl, ol, rfl, _, _⟩ := i3.resolve_left (fun e => hin e.2.1)
                obtain ⟨i', kk, ei, hil, hrow⟩ := last_split hfull
                obtain ⟨hout, hck, lgl⟩ := hRi.tail hfull hrow
                have hlc : ¬ ic = kn := by omega
                have hlk : kn ≤ is.length := by omega
                have hsk : is.length - kn = 1 := by omega
                have ixk := ix_u64 gl ol is.length ic kn (by omega)
                rw [show (kn : Int) = 1 + (kn : Int) - 1 from by omega] at ixk
                have HW2 : Hid (∀ w7, Below wr.heap.size wr w7 → Calls Tryz.prog 13 #[.slice (some ⟨gl, ol, none⟩) is.length ic, .int .i64 kn] w7 fun e w' => ∃ u, e = .returned u ∧ Below w7.heap.size w7 w' ∧ w'.ownsRow w7.heap.size 27 1 u (i').length (keysV (i'))) := fun w7 B7 => by
                  have := without_any (hRi.below B7) kn (by omega) (by omega)
                  rw [erase_last ei hil] at this
                  exact this
                have hdis : ∀ k ∈ ms, k ∉ key :: i' := fun k hk hc => by
                  rcases List.mem_cons.1 hc with rfl | hc
                  · exact hnm hk
                  · exact hI.dis k hk (by rw [ei]; simp [hc])
                have hi6 : i'.length ≤ 1000000 := by omega
                have hi7 : (key :: i').length ≤ 1 + kn := by simp; omega
                by_cases hfg : os.length = 1 + kg
                · have geq : ((os.length : Int) == 1 + (kg : Int)) = true := by simp; omega
                  obtain ⟨o', k2, eo, hol, _⟩ := last_split hfg
                  have HWo := without_any hRo kg (by omega) (by omega)
                  rw [erase_last eo hol] at HWo
                  have hacc : (polOf x).access (tqX is ms os []) key = .ok (false, [kk], tqX (key :: i') ms (kk :: o') []) := by
                    rw [ei, eo]
                    exact tq_ms2 hp (by rw [← ei]; exact hni) hnm (by rw [← eo]; exact hno) (by rw [← ei]; exact hfull) (by rw [← eo]; exact hfg)
                  have ho6 : o'.length ≤ 1000000 := by omega
                  have ho7 : (kk :: o').length ≤ 1 + kg := by simp; omega
                  have HNx : Hid (∀ w6 w7 w8 wz u7 u9, Below wr.heap.size wr w6 → Below w6.heap.size w6 w7 → w7.ownsRow w6.heap.size 27 1 u7 (kk :: o').length (keysV (kk :: o')) → Below w7.heap.size w7 w8 → Below w8.heap.size w8 wz → wz.ownsRow w8.heap.size 27 1 u9 (key :: i').length (keysV (key :: i')) → Calls Tryz.prog 15 #[ptr g, .int .u64 key, .bool false, .slice (some ⟨gl, ol + kn, none⟩) (is.length - kn) (ic - kn), S [109, 97, 105, 110], .slice ma ms.length mc] wz fun e wb => e = .returned (.bool true) ∧ TqE w1 (1 + kn) (1 + km) (1 + kg) w1.heap.size x g (i + 1) (u9) (.slice ma ms.length mc) (u7) wb) := fun w6 w7 w8 wz u7 u9 B6 B7 o7 B8 B9 o9 => by
                    have hs6 := B6.size
                    have hs7 := B7.size
                    have hs8 := B8.size
                    have BB := ((B6.trans (B7.mono hs6)).trans (B8.mono (Nat.le_trans hs6 hs7))).trans (B9.mono (Nat.le_trans hs6 (Nat.le_trans hs7 hs8)))
                    rw [hsk]
                    exact tq_told SS H.b H.g hE hd hcn (by omega) hk6 BB hp hacc (by simp) ⟨hdis, hi7, hI.lm, ho7⟩ (hout.below BB) (fun b hb => hoff b (Or.inl (by simpa [Value.ownBlock] using hb))) (Rk.own o9) (hRm.below BB) (((Rk.own o7).below B8).below B9) (fun b hb => by
                      rcases hb with hb | hb | hb
                      · exact hnd.out b (by have := (o9.lt b hb).1; omega)
                      · exact hoff b (Or.inr (Or.inl hb))
                      · exact hnd.out b (by have := (o7.lt b hb).1; omega))
                  clear hacc hdis hin ei hil hrow hout hsk hfull hfg hi7 ho7 hnm hni hno eo hol
                  clear hI hE hRi hRm hRo hoff hd hcn hdl m3 x3
                  go_upto_region 13 with fail
                  go_wp2_with fail
                  refine HA.mono ?_
                  rintro e w6 ⟨rfl, rfl⟩
                  clear HA
                  go_upto_region 14 with fail
                  go_wp2_with fail
                  refine HB.mono ?_
                  rintro e w6 ⟨rfl, rfl⟩
                  clear HB
                  go_upto_region 15 with fail
                  go_wp2_with fail
                  refine HC.mono ?_
                  rintro e w6 ⟨rfl, rfl⟩
                  clear HC
                  go_upto_region 18 with fail
                  go_wp2_with fail
                  rw [show (1 + (kg : Int) - 1) = (kg : Int) from by omega]
                  refine HWo.mono ?_
                  rintro e wq ⟨u5, rfl, B5, o5⟩
                  have hck5 := (B5.cell (p := ⟨gl, ol + kn, none⟩) lgl).trans hck
                  have HFr := front_any (Rk.own o5) ho6 kk
                  clear HWo o5 hck
                  go_upto_region 20 with fail
                  go_wp2_with fail
                  refine HFr.mono ?_
                  rintro e w7 ⟨u7, rfl, B7, o7⟩
                  have HW3 := HW2.out w7 (B5.trans (B7.mono B5.size))
                  clear HFr HW2 hck5 ixk
                  go_upto_region 21 with fail
                  go_wp2_with fail
                  rw [show (1 + (kn : Int) - 1) = (kn : Int) from by omega]
                  refine HW3.mono ?_
                  rintro e w8 ⟨u8, rfl, B8, o8⟩
                  have HFs := front_any (Rk.own o8) hi6 key
                  clear HW3 o8
                  go_upto_region 22 with fail
                  go_wp2_with fail
                  refine HFs.mono ?_
                  rintro e w9 ⟨u9, rfl, B9, o9⟩
                  clear HFs
                  have HT := HNx.out wq w7 w8 w9 u7 u9 B5 B7 o7 B8 B9 o9
                  clear HNx
                  go_upto_region 32 with fail
                  go_wp2_with fail
                  refine HT.mono ?_
                  rintro e wy ⟨rfl, H9⟩
                  clear HT
                  have HK := tq_looks SS hp H9
                  go_upto_region 34 with fail
                  go_wp2_with fail
                  refine HK.mono ?_
                  rintro e w10 ⟨u10, rfl, HK2⟩
                  clear HK
                  go_wp2_with fail
                  refine HK2.mono ?_
                  rintro e w11 ⟨u11, rfl, HS1⟩
                  clear HK2
                  go_wp2_with fail
                  refine HS1.mono ?_
                  rintro e w12 ⟨rfl, HS2⟩
                  clear HS1
                  go_wp2_with fail
                  refine HS2.mono ?_
                  rintro e w13 ⟨rfl, H13⟩
                  clear HS2
                  go_wp2_with fail
                  go_roundg (gk - 1)
                  case measure => omega
                  case rel => exact ⟨i + 1, by simp, by omega, H13⟩
                · have gneq : ((os.length : Int) == 1 + (kg : Int)) = false := by simp; omega
                  have HFr := front_any hRo (by omega) kk
                  have hacc : (polOf x).access (tqX is ms os []) key = .ok (false, [kk], tqX (key :: i') ms (kk :: os) []) := by
                    rw [ei]
                    exact tq_ms1 hp (by rw [← ei]; exact hni) hnm hno (by rw [← ei]; exact hfull) (by omega)
                  have ho7 : (kk :: os).length ≤ 1 + kg := by simp; omega
                  have HNx : Hid (∀ w6 w7 w8 wz u7 u9, Below wr.heap.size wr w6 → Below w6.heap.size w6 w7 → w7.ownsRow w6.heap.size 27 1 u7 (kk :: os).length (keysV (kk :: os)) → Below w7.heap.size w7 w8 → Below w8.heap.size w8 wz → wz.ownsRow w8.heap.size 27 1 u9 (key :: i').length (keysV (key :: i')) → Calls Tryz.prog 15 #[ptr g, .int .u64 key, .bool false, .slice (some ⟨gl, ol + kn, none⟩) (is.length - kn) (ic - kn), S [109, 97, 105, 110], .slice ma ms.length mc] wz fun e wb => e = .returned (.bool true) ∧ TqE w1 (1 + kn) (1 + km) (1 + kg) w1.heap.size x g (i + 1) (u9) (.slice ma ms.length mc) (u7) wb) := fun w6 w7 w8 wz u7 u9 B6 B7 o7 B8 B9 o9 => by
                    have hs6 := B6.size
                    have hs7 := B7.size
                    have hs8 := B8.size
                    have BB := ((B6.trans (B7.mono hs6)).trans (B8.mono (Nat.le_trans hs6 hs7))).trans (B9.mono (Nat.le_trans hs6 (Nat.le_trans hs7 hs8)))
                    rw [hsk]
                    exact tq_told SS H.b H.g hE hd hcn (by omega) hk6 BB hp hacc (by simp) ⟨hdis, hi7, hI.lm, ho7⟩ (hout.below BB) (fun b hb => hoff b (Or.inl (by simpa [Value.ownBlock] using hb))) (Rk.own o9) (hRm.below BB) (((Rk.own o7).below B8).below B9) (fun b hb => by
                      rcases hb with hb | hb | hb
                      · exact hnd.out b (by have := (o9.lt b hb).1; omega)
                      · exact hoff b (Or.inr (Or.inl hb))
                      · exact hnd.out b (by have := (o7.lt b hb).1; omega))
                  clear hacc hdis hin ei hil hrow hout hsk hfull hfg hi7 ho7 hnm hni hno
                  clear hI hE hRi hRm hRo hoff hd hcn hdl m3 x3
                  go_upto_region 13 with fail
                  go_wp2_with fail
                  refine HA.mono ?_
                  rintro e w6 ⟨rfl, rfl⟩
                  clear HA
                  go_upto_region 14 with fail
                  go_wp2_with fail
                  refine HB.mono ?_
                  rintro e w6 ⟨rfl, rfl⟩
                  clear HB
                  go_upto_region 15 with fail
                  go_wp2_with fail
                  refine HC.mono ?_
                  rintro e w6 ⟨rfl, rfl⟩
                  clear HC
                  go_upto_region 20 with fail
                  go_wp2_with fail
                  refine HFr.mono ?_
                  rintro e w7 ⟨u7, rfl, B7, o7⟩
                  have HW3 := HW2.out w7 B7
                  clear HFr HW2 ixk
                  go_upto_region 21 with fail
                  go_wp2_with fail
                  rw [show (1 + (kn : Int) - 1) = (kn : Int) from by omega]
                  refine HW3.mono ?_
                  rintro e w8 ⟨u8, rfl, B8, o8⟩
                  have HFs := front_any (Rk.own o8) hi6 key
                  clear HW3 o8
                  go_upto_region 22 with fail
                  go_wp2_with fail
                  refine HFs.mono ?_
                  rintro e w9 ⟨u9, rfl, B9, o9⟩
                  clear HFs
                  have HT := HNx.out w6 w7 w8 w9 u7 u9 (Below.refl _ _) B7 o7 B8 B9 o9
                  clear HNx
                  go_upto_region 32 with fail
                  go_wp2_with fail
                  refine HT.mono ?_
                  rintro e wy ⟨rfl, H9⟩
                  clear HT
                  have HK := tq_looks SS hp H9
                  go_upto_region 34 with fail
                  go_wp2_with fail
                  refine HK.mono ?_
                  rintro e w10 ⟨u10, rfl, HK2⟩
                  clear HK
                  go_wp2_with fail
                  refine HK2.mono ?_
                  rintro e w11 ⟨u11, rfl, HS1⟩
                  clear HK2
                  go_wp2_with fail
                  refine HS1.mono ?_
                  rintro e w12 ⟨rfl, HS2⟩
                  clear HS1
                  go_wp2_with fail
                  refine HS2.mono ?_
                  rintro e w13 ⟨rfl, H13⟩
                  clear HS2
                  go_wp2_with fail
                  go_roundg (gk - 1)
                  case measure => omega
                  case rel => exact ⟨i + 1, by simp, by omega, H13⟩
              · have fneq : ((is.length : Int) == 1 + (kn : Int)) = false := by simp; omega
                have HFr := front_any hRi (by omega) key
                have hacc := tq_ms0 hp hni hnm hno (show is.length < 1 + kn by omega)
                have hdis : ∀ k ∈ ms, k ∉ key :: is := fun k hk hc => by
                  rcases List.mem_cons.1 hc with rfl | hc
                  · exact hnm hk
                  · exact hI.dis k hk hc
                have hi7 : (key :: is).length ≤ 1 + kn := by simp; omega
                have HNx : Hid (∀ wz u7, Below wr.heap.size wr wz → wz.ownsRow wr.heap.size 27 1 u7 (key :: is).length (keysV (key :: is)) → Calls Tryz.prog 15 #[ptr g, .int .u64 key, .bool false, .slice none 0 0, S [109, 97, 105, 110], .slice ma ms.length mc] wz fun e wb => e = .returned (.bool true) ∧ TqE w1 (1 + kn) (1 + km) (1 + kg) w1.heap.size x g (i + 1) (u7) (.slice ma ms.length mc) (.slice xa os.length xc) wb) := fun wz u7 B7 o7 =>
                  tq_told SS H.b H.g hE hd hcn (by omega) hk6 B7 hp hacc (by simp) ⟨hdis, hi7, hI.lm, hI.lo⟩ Rk.nil (fun b hb => by simp [Value.ownBlock] at hb) (Rk.own o7) (hRm.below B7) (hRo.below B7) (fun b hb => by
                    rcases hb with hb | hb | hb
                    · exact hnd.out b (o7.lt b hb).1
                    · exact hoff b (Or.inr (Or.inl hb))
                    · exact hoff b (Or.inr (Or.inr hb)))
                clear hacc hdis hfull hi7 hnm hni hno
                clear hI hE hRi hRm hRo hoff hd hcn hdl i3 m3 x3
                go_upto_region 13 with fail
                go_wp2_with fail
                refine HA.mono ?_
                rintro e w6 ⟨rfl, rfl⟩
                clear HA
                go_upto_region 14 with fail
                go_wp2_with fail
                refine HB.mono ?_
                rintro e w6 ⟨rfl, rfl⟩
                clear HB
                go_upto_region 15 with fail
                go_wp2_with fail
                refine HC.mono ?_
                rintro e w6 ⟨rfl, rfl⟩
                clear HC
                go_upto_region 22 with fail
                go_wp2_with fail
                refine HFr.mono ?_
                rintro e w7 ⟨u7, rfl, B7, o7⟩
                clear HFr
                have HT := HNx.out w7 u7 B7 o7
                clear HNx
                go_upto_region 32 with fail
                go_wp2_with fail
                refine HT.mono ?_
                rintro e w9 ⟨rfl, H9⟩
                clear HT
                have HK := tq_looks SS hp H9
                go_upto_region 34 with fail
                go_wp2_with fail
                refine HK.mono ?_
                rintro e w10 ⟨u10, rfl, HK2⟩
                clear HK
                go_wp2_with fail
                refine HK2.mono ?_
                rintro e w11 ⟨u11, rfl, HS1⟩
                clear HK2
                go_wp2_with fail
                refine HS1.mono ?_
                rintro e w12 ⟨rfl, HS2⟩
                clear HS1
                go_wp2_with fail
                refine HS2.mono ?_
                rintro e w13 ⟨rfl, H13⟩
                clear HS2
                go_wp2_with fail
                go_roundg (gk - 1)
                case measure => omega
                case rel => exact ⟨i + 1, by simp, by omega, H13⟩
      · have t3 : ((i : Int) == 16384) = true := by simp; omega
        go_upto_region 39 with fail
        go_wp2_with fail
        go_ret
        exact ⟨rfl, H.b⟩
    · have t1 : decide ((i : Int) < (l.length : Int)) = false := by simp; omega
      go_wp2_with fail
      go_ret
      exact ⟨rfl, H.b⟩
end Go.Proofs.YtfddoieakfpagabGreatDoor
