import Derived.Test.YtfddoieakfpagabGreatDoorJJ
namespace Go.Proofs.YtfddoieakfpagabGreatDoor
open Go.RowKit
theorem ckl_split {wm ks l1 l2 : List Nat} {key : Nat} (e : ks = l1 ++ key :: l2) : ckl wm ks = ckl wm l1 ++ (key, if key ∈ wm then 1 else 0) :: ckl wm l2 := by rw [e]; simp [ckl]
theorem nd_len : ∀ (wm ks : List Nat), wm.Nodup → (∀ k ∈ wm, k ∈ ks) → wm.length ≤ ks.length
  | [], _, _, _ => Nat.zero_le _
  | a :: l, ks, h, hs => by
    have ha := hs a (by simp)
    have hn := List.nodup_cons.1 h
    have h1 := nd_len l (ks.erase a) hn.2 (fun k hk => (List.mem_erase_of_ne (show k ≠ a from fun e => hn.1 (by rw [← e]; exact hk))).2 (hs k (by simp [hk])))
    rw [List.length_erase_of_mem ha] at h1
    have h2 := List.length_pos_of_mem ha
    simp
    omega
theorem ck_start {P : Pol} {n : Nat} (hL : P.L = oneL n) : P.start = eX (ckl [] []) [] := by
  unfold Pol.start
  rw [hL]
  rfl
set_option maxRecDepth 20000 in
set_option maxHeartbeats 1500000 in
theorem clock_any {w : World} {E : Nat → Addr} (SS : Sent w E) {va : Value} {l : List Nat} (hv : Rq w va l) (hk64 : ∀ k ∈ l, k < key64) (hl : l.length ≤ 281474976710656) (c : Int) (h1 : -9223372036854775808 ≤ c) (h2 : c ≤ 9223372036854775807) :
    Calls Tryz.prog 3 #[va, .int .i64 c] w fun e w' => e = .returned (.bool true) ∧ Below w.heap.size w w' := by
  obtain ⟨aa, ca, rfl, a3⟩ := hv
  go_enter Tryz.func3, Tryz.ntmps3
  go_wp2_with fail
  refine (pickK_any c 49 (by decide) (by decide) w h1 h2).mono ?_
  rintro e w1 ⟨k, hk, rfl, rfl⟩
  have HF := figK_any (1 + k) (by omega) w1
  have e1 : ((1 + k : Nat) : Int) = 1 + (k : Int) := by omega
  rw [e1] at HF
  obtain ⟨x, hx, hL, hmf, hr1, hr2⟩ := ck_pol (1 + k) (by omega) (by omega)
  go_wp2_with fail
  refine HF.mono ?_
  rintro e w2 ⟨rfl, B2⟩
  clear HF
  have hfl := figL_lf (1 + k)
  have f1 : ¬ (9223372036854775807 < 8 + (figL (1 + k)).length) := by omega
  go_wp2_with fail
  have e2 : ∀ m, (ByteArray.mk #[113, 117, 101, 117, 101, 32, 114, 32] ++ ByteArray.mk (figL m).toArray ++ ByteArray.mk #[59, 32, 102, 114, 101, 113, 32, 49, 59, 32, 111, 110, 32, 114, 32, 123, 32, 98, 117, 109, 112, 59, 32, 125, 32, 111, 110, 32, 109, 105, 115, 115, 32, 123, 32, 105, 102, 32, 102, 117, 108, 108, 32, 114, 32, 123, 32, 114, 101, 112, 101, 97, 116, 32, 53, 48, 32, 119, 104, 105, 108, 101, 32, 119, 97, 114, 109, 32, 114, 32, 123, 32, 99, 111, 111, 108, 32, 114, 59, 32, 115, 104, 105, 102, 116, 32, 114, 32, 114, 59, 32, 125, 32, 101, 118, 105, 99, 116, 32, 114, 59, 32, 125, 32, 112, 117, 116, 32, 114, 59, 32, 125]) = ByteArray.mk (ckTxt m).toArray := fun m => by
    rw [show ckTxt m = [113, 117, 101, 117, 101, 32, 114, 32] ++ figL m ++ [59, 32, 102, 114, 101, 113, 32, 49, 59, 32, 111, 110, 32, 114, 32, 123, 32, 98, 117, 109, 112, 59, 32, 125, 32, 111, 110, 32, 109, 105, 115, 115, 32, 123, 32, 105, 102, 32, 102, 117, 108, 108, 32, 114, 32, 123, 32, 114, 101, 112, 101, 97, 116, 32, 53, 48, 32, 119, 104, 105, 108, 101, 32, 119, 97, 114, 109, 32, 114, 32, 123, 32, 99, 111, 111, 108, 32, 114, 59, 32, 115, 104, 105, 102, 116, 32, 114, 32, 114, 59, 32, 125, 32, 101, 118, 105, 99, 116, 32, 114, 59, 32, 125, 32, 112, 117, 116, 32, 114, 59, 32, 125] from rfl, ← bapp4, ← bapp4]
  rw [e2]
  have hks : (polOf x).keys (polOf x).start [114] = some [] := by rw [ck_start hL]; exact ck_keys hL _ _
  refine (kload_any (SS.move B2) _ [114] x hx hks).mono ?_
  rintro e w3 ⟨g, dom, rfl, B3, hg, hd, hE⟩
  rw [ck_start hL] at hE
  have hz2 := B2.size
  have H0 : CkE w1 (1 + k) w1.heap.size x g 0 (.slice none 0 0) (.slice none 0 0) w3 := ⟨⟨[], [], dom, (0, 0, 0), ⟨by simp, by simp, by simp, by simp⟩, hE, Rk.nil, World.ownsRow_nil _ _ _ _, fun b hb => by simp [Value.ownBlock] at hb, fun b hb => by simp [Value.ownBlock] at hb, fun j hj => by have := hd j hj; omega, by simp⟩, by omega, B2.trans (B3.mono hz2)⟩
  clear hE hd hks B2 B3 hz2 hg hx e1
  go_wp2_with fail
  go_loopg [6, 7, 24] (min l.length 16384) (fun f v6 v7 v24 wr => ∃ i : Nat, v24 = .int .i64 i ∧ i + f = min l.length 16384 ∧ CkE w1 (1 + k) w1.heap.size x g i v6 v7 wr)
  case atStart => exact ⟨0, rfl, by omega, H0⟩
  case round =>
    obtain ⟨i, rfl, hi, H⟩ := hrel
    obtain ⟨go, hgo⟩ : ∃ q, Hid (q = gk) := ⟨gk, rfl⟩
    have hz := H.b.size
    clear e2 f1 hfl H0
    obtain ⟨ks, wm, dom, n, hI, hE, hR, hW, hoff, hofu, hd, hn⟩ := H.ex
    by_cases hlt : i < l.length
    · have hne : l ≠ [] := fun e => by subst e; simp at hlt
      obtain ⟨ga, oa, rfl, lga, hcell⟩ := a3.resolve_left hne
      have cc := (H.b.cell (p := ⟨ga, oa + i, none⟩) lga).trans (hcell i _ (List.getElem?_eq_getElem hlt))
      have ix := ix_u64 ga oa l.length ca i hlt
      have hk6 := hk64 _ (List.getElem_mem hlt)
      generalize l[i] = key at *
      have t1 : decide ((i : Int) < (l.length : Int)) = true := by simp; omega
      clear hcell a3 hne
      by_cases hlt2 : i < 16384
      · have t3 : ((i : Int) == 16384) = false := by simp; omega
        have hR0 := hR
        obtain ⟨la, lc, rfl, l1, l2, l3⟩ := hR0
        have hlen := hI.len
        cases hf : ks.findIdx? (· == key) with
        | some j =>
          have HA := at_any hR key j (by rw [hf])
          obtain ⟨p1, p2, e, hnn, hj⟩ := idx_splt hf
          cases hf2 : wm.findIdx? (· == key) with
          | some j2 =>
            have HA2 := at_any (Rk.own hW) key j2 (by rw [hf2])
            obtain ⟨q1, q2, e', _, _⟩ := idx_splt hf2
            have hkw : key ∈ wm := by rw [e']; simp
            have hacc : (polOf x).access (eX (ckl wm ks) []) key = .ok (true, [], eX (ckl wm ks) []) := by
              have := ck_hit hL hmf hr1 (ckl_split (wm := wm) e) (ckl_no hnn)
              rw [this, if_neg (by simp [hkw]), ← ckl_split e]
            have HT := ck_told SS H.b H.g hE hd hn (by omega) hk6 (Or.inl (Below.refl _ _)) hacc (by simp) (by rw [ck_keys hL, ckl_keys]) hI Rk.nil (fun b hb => by simp [Value.ownBlock] at hb) hR hoff hW hofu
            clear e hnn hj hf hf2 e' hkw hacc l3 hE hoff hofu hd hn
            go_upto_region 11 with fail
            go_wp2_with fail
            refine HA.mono ?_
            rintro e w5 ⟨rfl, rfl⟩
            clear HA
            go_upto_region 13 with fail
            go_wp2_with fail
            refine HA2.mono ?_
            rintro e w6 ⟨rfl, rfl⟩
            clear HA2
            go_upto_region 23 with fail
            go_wp2_with fail
            refine HT.mono ?_
            rintro e w8 ⟨rfl, H8⟩
            clear HT
            go_wp2_with fail
            go_roundg (gk - 1)
            case measure => omega
            case rel => exact ⟨i + 1, by simp, by omega, H8⟩
          | none =>
            have hkw := idx_non hf2
            have HA2 := at_any (Rk.own hW) key (-1) (by rw [hf2])
            obtain ⟨hq1, hq2⟩ := ck_warms hI e hkw
            have hacc : (polOf x).access (eX (ckl wm ks) []) key = .ok (true, [], eX (ckl (wm ++ [key]) ks) []) := by
              have := ck_hit hL hmf hr1 (ckl_split (wm := wm) e) (ckl_no hnn)
              rw [this, ← hq1]
              simp [hkw]
            obtain ⟨i0, hi0, hz0, hz1, hz2⟩ := info_parts info_u64
            obtain ⟨wa', wk, wc, rfl⟩ := ownsRow_form2 hW
            have hwk : wm.length ≤ 1000000 := by
              have := nd_len wm ks hI.wd hI.sub
              omega
            have HNx : Hid (∀ wb v', Below w1.heap.size w1 wb → Eg wb g dom x (eX (ckl wm ks) []) n → Rk wb (.slice la ks.length lc) ks → wb.ownsRow w1.heap.size 27 1 v' (wm.length + 1) (keysV wm ++ [.int .u64 key]) → (∀ b, v'.ownBlock = some b → ¬ (dom b ∨ b = g) ∧ (Value.slice la ks.length lc).ownBlock ≠ some b) → Calls Tryz.prog 15 #[ptr g, .int .u64 key, .bool true, .slice none 0 0, S [114], .slice la ks.length lc] wb fun e wd => e = .returned (.bool true) ∧ CkE w1 (1 + k) w1.heap.size x g (i + 1) (.slice la ks.length lc) v' wd) := fun wb v' hB hEb hRb hown ho =>
              ck_told SS H.b H.g hE hd hn (by omega) hk6 (Or.inr ⟨hB, hEb⟩) hacc (by simp) (by rw [ck_keys hL, ckl_keys]) hq2 Rk.nil (fun b hb => by simp [Value.ownBlock] at hb) hRb hoff (by simpa [keysV] using hown) ho
            have HG : Hid (∀ wb, (∀ b, b < wr.heap.size → (Value.slice wa' wk wc).ownBlock ≠ some b → wb.heap[b]? = wr.heap[b]?) → wr.heap.size ≤ wb.heap.size → Eg wb g dom x (eX (ckl wm ks) []) n ∧ Rk wb (.slice la ks.length lc) ks) := fun wb hb hs => ⟨hE.keep hs (fun b hl hd => hb b hl (fun e => (hofu b e).1 hd)), by
              obtain ⟨a, cap, e, q1, q2, q3⟩ := hR
              refine ⟨a, cap, e, q1, q2, q3.imp_right ?_⟩
              rintro ⟨g3, o3, e3, l3', c3⟩
              exact ⟨g3, o3, e3, by omega, fun j k hk => (World.cell?_of_block (a := ⟨g3, o3 + j, none⟩) (hb g3 l3' (fun e4 => (hofu g3 e4).2 (by rw [e, e3]; rfl)))).trans (c3 j k hk)⟩⟩
            have hdl := hE.dl
            have hgl := hE.lt
            have hOF : Hid (∀ b, (Value.slice wa' wk wc).ownBlock = some b → ¬ (dom b ∨ b = g) ∧ (Value.slice la ks.length lc).ownBlock ≠ some b) := hofu
            have hLT : Hid (∀ b, (Value.slice la ks.length lc).ownBlock = some b → b < wr.heap.size) := fun b e => hR.lt_own e
            have hDL : Hid (∀ b, wr.heap.size ≤ b → ¬ (dom b ∨ b = g)) := fun b hb e => by
              rcases e with e | e
              · have := hdl b e; omega
              · omega
            clear e hnn hj hf hf2 hkw hacc hq1 hq2 l3 hE hoff hofu hd hn hdl
            go_upto_region 11 with fail
            go_wp2_with fail
            refine HA.mono ?_
            rintro e w5 ⟨rfl, rfl⟩
            clear HA
            go_upto_region 13 with fail
            go_wp2_with fail
            refine HA2.mono ?_
            rintro e w6 ⟨rfl, rfl⟩
            clear HA2
            go_upto_region 14 with fail
            refine wp_region_lit ?_
            iterate 9 go_step
            refine wpList_append_own_at _ rfl (.tmp 43) (.tmp 45) 22 rfl w1.heap.size 27 i0 (.int .u64 0) 1 8 Tryz.underlying22 hi0 hz0 hz1 hz2 rfl (by decide) (.slice wa' wk wc) wm.length (keysV wm) (by simp [Act.eval]) (own_mv hW (fun b _ hl => Below.heap_alloc _ _ _ hl)) ⟨w6.heap.size, 0, none⟩ 1 1 [.int .u64 key] (by simp [Act.eval]) rfl (row_cells w6 #[.int .u64 key] 27) (fun u hu => by simp at hu; subst hu; rfl) (by simp only [maxLen]; omega) (by omega) (by simp; omega) ?_
            intro v' w7 hown7 hgrow _ hat
            obtain ⟨za, zk, zc, rfl⟩ := ownsRow_form2 hown7
            have hblk : ∀ b, b < w6.heap.size → (Value.slice wa' wk wc).ownBlock ≠ some b → w7.heap[b]? = w6.heap[b]? := fun b hb hn => (hgrow.block b (by simp; omega) (fun e => hn e.symm)).trans (Below.heap_alloc _ _ _ hb)
            have hs7 : w6.heap.size ≤ w7.heap.size := by have := hgrow.size; simp at this; omega
            have B7 : Below w1.heap.size w1 w7 := H.b.trans ⟨hgrow.os, hgrow.tape, hgrow.output, hs7, fun b hb => hblk b (by omega) (fun e => by have := (hW.lt b e).1; omega)⟩
            obtain ⟨hE7, hR7⟩ := HG.out w7 hblk hs7
            have HT := HNx.out w7 _ B7 hE7 hR7 hown7 (fun b hb => by
              rcases hat with h | h
              · exact hOF.out b (h ▸ hb)
              · rw [h] at hb
                simp at hb
                exact ⟨hDL.out b (by omega), fun e => by have := hLT.out b e; omega⟩)
            clear HNx HG hown7 hE7 hR7 hblk hgrow hat hW
            go_upto_region 23 with fail
            go_wp2_with fail
            refine HT.mono ?_
            rintro e w8 ⟨rfl, H8⟩
            clear HT
            go_wp2_with fail
            go_roundg (gk - 1)
            case measure => omega
            case rel => exact ⟨i + 1, by simp, by omega, H8⟩
        | none =>
          have hno := idx_non hf
          have HA := at_any hR key (-1) (by rw [hf])
          have hdl := hE.dl
          have hgl := hE.lt
          clear hf
          by_cases hfull : ks.length = 1 + k
          · have feq : ((ks.length : Int) == 1 + (k : Int)) = true := by simp; omega
            have hlen2 : Hid (ks.length = 1 + k) := hfull
            have hwl : wm.length ≤ 49 := by have := nd_len wm ks hI.wd hI.sub; omega
            clear hfull hlen
            go_upto_region 11 with fail
            go_wp2_with fail
            refine HA.mono ?_
            rintro e w5 ⟨rfl, rfl⟩
            clear HA
            go_wp2_with fail
            go_loopg [6, 7] 50 (fun f v6 v7 wr2 => ∃ ks' wm' : List Nat, wm'.length ≤ f ∧ Hid (ks'.length = 1 + k) ∧ CkI (1 + k) ks' wm' ∧ Hid (rotE 50 (ckl wm ks) = rotE f (ckl wm' ks')) ∧ Hid (∀ j, j ∈ ks' ↔ j ∈ ks) ∧ Below w5.heap.size w5 wr2 ∧ Rk wr2 v6 ks' ∧ wr2.ownsRow w1.heap.size 27 1 v7 wm'.length (keysV wm') ∧ Hid ((∀ b, v6.ownBlock = some b → ¬ (dom b ∨ b = g)) ∧ ∀ b, v7.ownBlock = some b → ¬ (dom b ∨ b = g) ∧ v6.ownBlock ≠ some b))
            case atStart => exact ⟨ks, wm, by omega, hlen2, hI, rfl, fun j => Iff.rfl, Below.refl _ _, hR, hW, hoff, hofu⟩
            case round =>
              obtain ⟨ks', wm', hwf, hlen', hI', hrot, hmem, B', hR', hW', hof⟩ := hrel
              have hB's := B'.size
              have hkn : ks' ≠ [] := fun e => by have := hlen'.out; rw [e] at this; simp at this; omega
              obtain ⟨m, kk, hm⟩ : ∃ m kk, ks' = m ++ [kk] := ⟨ks'.dropLast, ks'.getLast hkn, (List.dropLast_concat_getLast hkn).symm⟩
              have hml : Hid (m.length = k) := by
                have := hlen'.out
                rw [hm] at this
                simp at this
                show m.length = k
                omega
              have hR0 := hR'
              obtain ⟨la', lc', rfl, q1, q2, q3⟩ := hR0
              obtain ⟨gl, ol, rfl, lgl, hcl⟩ := q3.resolve_left (fun e => hkn e.2.1)
              have hrow : ks'[k]? = some kk := by rw [hm, ← hml.out]; simp
              have hck := hcl k kk hrow
              have hkl : k < ks'.length := by have := hlen'.out; omega
              have hwl' : wm'.length ≤ 49 := by have := nd_len wm' ks' hI'.wd hI'.sub; have := hlen'.out; omega
              have ixk := ix_u64 gl ol ks'.length lc' k hkl
              rw [show (k : Int) = 1 + (k : Int) - 1 from by omega] at ixk
              obtain ⟨wa', wk', wc', rfl⟩ := ownsRow_form2 hW'
              cases hf : wm'.findIdx? (· == kk) with
              | some j =>
                have HA := at_any (Rk.own hW') kk j (by rw [hf])
                obtain ⟨p1, p2, ew, hn1, hj⟩ := idx_splt hf
                have hjl : j < wm'.length := by rw [ew]; simp; omega
                have HWo := without_any (Rk.own hW') j hjl (by omega)
                have her : wm'.eraseIdx j = p1 ++ p2 := by rw [ew, ← hj, List.eraseIdx_append_of_length_le (Nat.le_refl _)]; simp
                rw [her] at HWo
                obtain ⟨hs1, hs2⟩ := ck_step (c := gk - 1) (m := m) (k := kk) (by rw [← hm]; exact hI') ew
                have hrk : ∀ w7, Below wr.heap.size wr w7 → Rk w7 (.slice (some ⟨gl, ol, none⟩) k lc') m := fun w7 B7 => ⟨_, _, by rw [hml.out], by have := hml.out; omega, by omega, Or.inr ⟨gl, ol, rfl, by have := B7.size; omega, fun i u hu => (B7.cell (p := ⟨gl, ol + i, none⟩) lgl).trans (hcl i u (by rw [hm, List.getElem?_append_left (List.getElem?_eq_some_iff.1 hu).1]; exact hu))⟩⟩
                have HFr : Hid (∀ w7, Below wr.heap.size wr w7 → Calls Tryz.prog 14 #[.slice (some ⟨gl, ol, none⟩) k lc', .int .u64 kk] w7 fun e w' => ∃ u, e = .returned u ∧ Below w7.heap.size w7 w' ∧ w'.ownsRow w7.heap.size 27 1 u (kk :: m).length (keysV (kk :: m))) := fun w7 B7 => front_any (hrk w7 B7) (by have := hml.out; omega) kk
                have HNx : Hid (∀ w7 w8 va vb, Below wr.heap.size wr w7 → w7.ownsRow wr.heap.size 27 1 va (p1 ++ p2).length (keysV (p1 ++ p2)) → Below w7.heap.size w7 w8 → w8.ownsRow w7.heap.size 27 1 vb (kk :: m).length (keysV (kk :: m)) → ∃ ks' wm' : List Nat, wm'.length ≤ gk - 1 ∧ Hid (ks'.length = 1 + k) ∧ CkI (1 + k) ks' wm' ∧ Hid (rotE 50 (ckl wm ks) = rotE (gk - 1) (ckl wm' ks')) ∧ Hid (∀ j, j ∈ ks' ↔ j ∈ ks) ∧ Below w5.heap.size w5 w8 ∧ Rk w8 vb ks' ∧ w8.ownsRow w1.heap.size 27 1 va wm'.length (keysV wm') ∧ Hid ((∀ b, vb.ownBlock = some b → ¬ (dom b ∨ b = g)) ∧ ∀ b, va.ownBlock = some b → ¬ (dom b ∨ b = g) ∧ vb.ownBlock ≠ some b)) := fun w7 w8 va vb B7 o7 B8 o8 => by
                  have hs7 := B7.size
                  have hs8 := B8.size
                  have hnd : ∀ b, w5.heap.size ≤ b → ¬ (dom b ∨ b = g) := fun b hb e => by
                    rcases e with e | e
                    · have := hdl b e; omega
                    · omega
                  refine ⟨kk :: m, p1 ++ p2, ?_, ?_, hs2, ?_, ?_, (B'.trans (B7.mono hB's)).trans (B8.mono (by omega)), Rk.own o8, own_mv (own_low o7 (by omega)) (fun b _ hl => B8.block b hl), ?_, ?_⟩
                  · rw [ew] at hwf; simp at hwf ⊢; omega
                  · have := hml.out; show (kk :: m).length = 1 + k; simp; omega
                  · show rotE 50 (ckl wm ks) = _
                    rw [hrot.out, hm, ← hs1, show gk - 1 + 1 = gk from by omega]
                  · intro j
                    rw [← hmem.out j, hm]
                    simp [or_comm]
                  · exact fun b hb => hnd b (by have := (o8.lt b hb).1; omega)
                  · exact fun b hb => ⟨hnd b (by have := (o7.lt b hb).1; omega), fun e => by have := (o8.lt b e).1; have := (o7.lt b hb).2; omega⟩
                clear hs1 hs2 hrk hcl hrow hm hkn hf ew hn1 hj her hrot hmem hof hI' q3 hE hoff hofu hd hn hno hdl hI
                go_wp2_with fail
                refine HA.mono ?_
                rintro e w6 ⟨rfl, rfl⟩
                go_wp2_with fail
                refine HA.mono ?_
                rintro e w6 ⟨rfl, rfl⟩
                clear HA
                go_wp2_with fail
                refine HWo.mono ?_
                rintro e w7 ⟨u7, rfl, B7, o7⟩
                have hkc : k ≤ lc' := by omega
                have hwr : IntKind.i64.wrap (1 + (k : Int) - 1) = (k : Int) := by rw [IntKind.wrap_i64]; omega
                have hc1 : (k : Int) ≤ (lc' : Int) := by omega
                have hc2 : (k : Int) < (ks'.length : Int) := by omega
                have hcW : Hid (∀ {W : World}, Below w7.heap.size w7 W → W.cell? ⟨gl, ol + k, none⟩ = some (.int .u64 kk)) := fun {W} hW => (hW.cell (p := ⟨gl, ol + k, none⟩) (by have := B7.size; show gl < w7.heap.size; omega)).trans ((B7.cell (p := ⟨gl, ol + k, none⟩) lgl).trans hck)
                have HF7 : Hid (∀ {W : World}, Below w7.heap.size w7 W → Calls Tryz.prog 14 #[.slice (some ⟨gl, ol, none⟩) k lc', .int .u64 kk] W fun e w8 => ∃ u, e = .returned u ∧ (∃ ks' wm' : List Nat, wm'.length ≤ gk - 1 ∧ Hid (ks'.length = 1 + k) ∧ CkI (1 + k) ks' wm' ∧ Hid (rotE 50 (ckl wm ks) = rotE (gk - 1) (ckl wm' ks')) ∧ Hid (∀ j, j ∈ ks' ↔ j ∈ ks) ∧ Below w5.heap.size w5 w8 ∧ Rk w8 u ks' ∧ w8.ownsRow w1.heap.size 27 1 u7 wm'.length (keysV wm') ∧ Hid ((∀ b, u.ownBlock = some b → ¬ (dom b ∨ b = g)) ∧ ∀ b, u7.ownBlock = some b → ¬ (dom b ∨ b = g) ∧ u.ownBlock ≠ some b))) := fun {W} hW => (HFr.out W (B7.trans (hW.mono B7.size))).mono fun e w8 ⟨u, he, B8, o8⟩ => ⟨u, he, HNx.out W w8 u7 u (B7.trans (hW.mono B7.size)) (own_mv o7 (fun b _ hl => hW.block b hl)) B8 o8⟩
                clear HWo HFr HNx o7 B7
                go_upto_region 19 with fail
                refine wp_region_but (C := Below w7.heap.size w7) 9 1 (by kernel_rfl) (by kernel_rfl) ((Below.refl _ w7).drew) ?_
                simp only [List.take]
                apply quiet_next
                case hw => rfl
                case h1 =>
                  intro W hW
                  have cW := hcW.out hW
                  unfold Oper.quietAt
                  go_simp
                  try simp only [hwr, hc1, hc2, Int.natCast_nonneg, Int.toNat_natCast, and_self, if_true]
                  first
                    | with_reducible rfl
                    | (refine And.intro rfl ?_; with_reducible rfl)
                apply quiet_next
                case hw => rfl
                case h1 =>
                  intro W hW
                  have cW := hcW.out hW
                  unfold Oper.quietAt
                  go_simp
                  try simp only [hwr, hc1, hc2, Int.natCast_nonneg, Int.toNat_natCast, and_self, if_true]
                  first
                    | with_reducible rfl
                    | (refine And.intro rfl ?_; with_reducible rfl)
                apply quiet_next
                case hw => rfl
                case h1 =>
                  intro W hW
                  have cW := hcW.out hW
                  unfold Oper.quietAt
                  go_simp
                  try simp only [hwr, hc1, hc2, Int.natCast_nonneg, Int.toNat_natCast, and_self, if_true]
                  first
                    | with_reducible rfl
                    | (refine And.intro rfl ?_; with_reducible rfl)
                apply quiet_next
                case hw => rfl
                case h1 =>
                  intro W hW
                  have cW := hcW.out hW
                  unfold Oper.quietAt
                  go_simp
                  try simp only [hwr, hc1, hc2, Int.natCast_nonneg, Int.toNat_natCast, and_self, if_true]
                  first
                    | with_reducible rfl
                    | (refine And.intro rfl ?_; with_reducible rfl)
                apply quiet_next
                case hw => rfl
                case h1 =>
                  intro W hW
                  have cW := hcW.out hW
                  unfold Oper.quietAt
                  go_simp
                  try simp only [hwr, hc1, hc2, Int.natCast_nonneg, Int.toNat_natCast, and_self, if_true]
                  first
                    | with_reducible rfl
                    | (refine And.intro rfl ?_; with_reducible rfl)
                apply quiet_next
                case hw => rfl
                case h1 =>
                  intro W hW
                  have cW := hcW.out hW
                  unfold Oper.quietAt
                  go_simp
                  try simp only [hwr, hc1, hc2, Int.natCast_nonneg, Int.toNat_natCast, and_self, if_true]
                  first
                    | with_reducible rfl
                    | (refine And.intro rfl ?_; with_reducible rfl)
                apply quiet_next
                case hw => rfl
                case h1 =>
                  intro W hW
                  have cW := hcW.out hW
                  unfold Oper.quietAt
                  go_simp
                  try simp only [hwr, hc1, hc2, Int.natCast_nonneg, Int.toNat_natCast, and_self, if_true]
                  first
                    | with_reducible rfl
                    | (refine And.intro rfl ?_; with_reducible rfl)
                apply quiet_next
                case hw => rfl
                case h1 =>
                  intro W hW
                  have cW := hcW.out hW
                  unfold Oper.quietAt
                  go_simp
                  try simp only [hwr, hc1, hc2, Int.natCast_nonneg, Int.toNat_natCast, and_self, if_true]
                  first
                    | with_reducible rfl
                    | (refine And.intro rfl ?_; with_reducible rfl)
                apply quiet_next
                case hw => rfl
                case h1 =>
                  intro W hW
                  have cW := hcW.out hW
                  unfold Oper.quietAt
                  go_simp
                  try simp only [hwr, hc1, hc2, Int.natCast_nonneg, Int.toNat_natCast, and_self, if_true]
                  first
                    | with_reducible rfl
                    | (refine And.intro rfl ?_; with_reducible rfl)
                refine wpQuiet_nil ?_
                intro W hW
                refine wpOp_now rfl rfl ?_
                go_simp
                go_at_call 14
                refine Calls.mono (HF7.out hW) ?_
                rintro e w8 ⟨u8, rfl, H8⟩
                go_simp
                refine wpAny_one (k := 10) (by kernel_rfl) ?_
                refine wpOp_now rfl rfl ?_
                go_simp
                refine wpAny_over (by kernel_rfl) ?_ _
                go_wp2_with fail
                go_roundg (gk - 1)
                case measure => omega
                case rel => exact H8
              | none =>
                have hkw := idx_non hf
                have HA := at_any (Rk.own hW') kk (-1) (by rw [hf])
                have hrot2 : rotE 50 (ckl wm ks) = ckl wm' m ++ [(kk, 0)] := by rw [hrot.out, hm, ck_still hkw]
                have hacc := ck_miss1 hL hr2 (l := ckl wm ks) (key := key) (ckl_no hno) (by simp [ckl]; exact hlen2.out) hrot2
                have hIg := ck_gone (by rw [← hm]; exact hI') hkw
                have hnm : key ∉ m := fun e => hno ((hmem.out key).1 (by rw [hm]; simp [e]))
                obtain ⟨hq1, hq2⟩ := ck_new hIg hnm (by have := hml.out; omega)
                rw [hq1] at hacc
                have hlc : ¬ lc' = k := by omega
                have hsk : ks'.length - k = 1 := by have := hlen'.out; omega
                have hout : Rk wr (.slice (some ⟨gl, ol + k, none⟩) 1 (lc' - k)) [kk] := ⟨_, _, rfl, by simp; omega, by omega, Or.inr ⟨gl, ol + k, rfl, lgl, fun j u hu => by
                  rcases j with _ | j
                  · simp at hu; subst hu; exact hck
                  · simp at hu⟩⟩
                have HWo := without_any hR' k hkl (by have := hlen'.out; omega)
                have her : ks'.eraseIdx k = m := by rw [hm, ← hml.out, List.eraseIdx_append_of_length_le (Nat.le_refl _)]; simp
                rw [her] at HWo
                have HNx : Hid (∀ w7 w8 vb, Below wr.heap.size wr w7 → Below w7.heap.size w7 w8 → w8.ownsRow w7.heap.size 27 1 vb (key :: m).length (keysV (key :: m)) → Calls Tryz.prog 15 #[ptr g, .int .u64 key, .bool false, .slice (some ⟨gl, ol + k, none⟩) (ks'.length - k) (lc' - k), S [114], vb] w8 fun e wb => e = .returned (.bool true) ∧ CkE w1 (1 + k) w1.heap.size x g (i + 1) vb (.slice wa' wk' wc') wb) := fun w7 w8 vb B7 B8 o8 => by
                  have hs7 := B7.size
                  have hs8 := B8.size
                  rw [hsk]
                  exact ck_told SS H.b H.g hE hd hn (by omega) hk6 (Or.inl ((B'.trans (B7.mono hB's)).trans (B8.mono (by omega)))) hacc (by simp) (by rw [ck_keys hL, ckl_keys]) hq2 ((hout.below B7).below B8) (fun b hb => hof.out.1 b (by simpa [Value.ownBlock] using hb)) (Rk.own o8) (fun b hb e => by
                    have := (o8.lt b hb).1
                    rcases e with e | e
                    · have := hdl b e; omega
                    · omega) (own_mv (own_mv hW' (fun b _ hl => B7.block b hl)) (fun b _ hl => B8.block b hl)) (fun b hb => ⟨(hof.out.2 b hb).1, fun e => by
                    have := (o8.lt b e).1
                    have := (hW'.lt b hb).2
                    omega⟩)
                have hm6 : m.length ≤ 1000000 := by have := hml.out; omega
                have hlk : k ≤ ks'.length := by omega
                clear hrot2 hacc hIg hnm hq1 hq2 hsk hout her hcl hrow hm hkn hf hrot hmem hof hI' q3 hE hoff hofu hd hn hno hdl hI hkw
                go_wp2_with fail
                refine HA.mono ?_
                rintro e w6 ⟨rfl, rfl⟩
                clear HA
                go_upto_region 21 with fail
                go_wp2_with fail
                rw [show (1 + (k : Int) - 1) = (k : Int) from by omega]
                refine HWo.mono ?_
                rintro e w7 ⟨u7, rfl, B7, o7⟩
                have HFr := front_any (Rk.own o7) hm6 key
                clear HWo o7
                go_upto_region 22 with fail
                go_wp2_with fail
                refine HFr.mono ?_
                rintro e w8 ⟨u8, rfl, B8, o8⟩
                have HT := HNx.out w7 w8 u8 B7 B8 o8
                clear HFr HNx
                go_upto_region 23 with fail
                go_wp2_with fail
                refine HT.mono ?_
                rintro e w9 ⟨rfl, H9⟩
                clear HT
                go_wp2_with fail
                go_roundg (go - 1)
                case measure => have := hgo.out; omega
                case rel => exact ⟨i + 1, by simp, by have := hgo.out; omega, H9⟩
          · have fneq : ((ks.length : Int) == 1 + (k : Int)) = false := by simp; omega
            have HFr := front_any hR (by omega) key
            obtain ⟨hq1, hq2⟩ := ck_new hI hno (by omega)
            have hacc := ck_miss0 hL hr2 (l := ckl wm ks) (ckl_no hno) (by simp [ckl]; omega)
            rw [hq1] at hacc
            have HNx : Hid (∀ wa u, Below wr.heap.size wr wa → wa.ownsRow wr.heap.size 27 1 u (key :: ks).length (keysV (key :: ks)) → Calls Tryz.prog 15 #[ptr g, .int .u64 key, .bool false, .slice none 0 0, S [114], u] wa fun e wb => e = .returned (.bool true) ∧ CkE w1 (1 + k) w1.heap.size x g (i + 1) u u7 wb) := fun wa u Ba hown =>
              ck_told SS H.b H.g hE hd hn (by omega) hk6 (Or.inl Ba) hacc (by simp) (by rw [ck_keys hL, ckl_keys]) hq2 Rk.nil (fun b hb => by simp [Value.ownBlock] at hb) (Rk.own hown) (fun b hb e => by
                have := (hown.lt b hb).1
                rcases e with e | e
                · have := hdl b e; omega
                · omega) (own_mv hW (fun b e hl => Ba.block b hl)) (fun b hb => ⟨(hofu b hb).1, fun e => by
                have := (hown.lt b e).1
                have := (hW.lt b hb).2
                omega⟩)
            clear hacc hno hq1 hq2 l3 hE hoff hofu hd hn hdl
            go_upto_region 11 with fail
            go_wp2_with fail
            refine HA.mono ?_
            rintro e w5 ⟨rfl, rfl⟩
            clear HA
            go_upto_region 22 with fail
            go_wp2_with fail
            refine HFr.mono ?_
            rintro e w7 ⟨u2, rfl, B7, hown7⟩
            obtain ⟨ya, yk, yc, rfl⟩ := ownsRow_form2 hown7
            have HT := HNx.out w7 _ B7 hown7
            clear HFr HNx hown7
            go_upto_region 23 with fail
            go_wp2_with fail
            refine HT.mono ?_
            rintro e w8 ⟨rfl, H8⟩
            clear HT
            go_wp2_with fail
            go_roundg (gk - 1)
            case measure => omega
            case rel => exact ⟨i + 1, by simp, by omega, H8⟩
      · have t3 : ((i : Int) == 16384) = true := by simp; omega
        go_upto_region 26 with fail
        go_wp2_with fail
        go_ret
        exact ⟨rfl, H.b⟩
    · have t1 : decide ((i : Int) < (l.length : Int)) = false := by simp; omega
      go_wp2_with fail
      go_ret
      exact ⟨rfl, H.b⟩
end Go.Proofs.YtfddoieakfpagabGreatDoor
