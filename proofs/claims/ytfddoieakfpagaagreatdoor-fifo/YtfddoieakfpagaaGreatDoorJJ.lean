import Derived.Test.YtfddoieakfpagaaGreatDoorJI
namespace Go.Proofs.YtfddoieakfpagaaGreatDoor
open Go.RowKit
/-- Keys that came in. -/
def Rq (w : World) (v : Value) (ks : List Nat) : Prop := ∃ a cap, v = .slice a ks.length cap ∧ (ks = [] ∨ ∃ g o, a = some ⟨g, o, none⟩ ∧ g < w.heap.size ∧ ∀ (j k : Nat), ks[j]? = some k → w.cell? ⟨g, o + j, none⟩ = some (.int .u64 k))
set_option maxRecDepth 20000 in
set_option maxHeartbeats 1500000 in
theorem fifo_any {w : World} {E : Nat → Addr} (SS : Sent w E) {va : Value} {l : List Nat} (hv : Rq w va l) (hk64 : ∀ k ∈ l, k < key64) (hl : l.length ≤ 281474976710656) (c : Int) (h1 : -9223372036854775808 ≤ c) (h2 : c ≤ 9223372036854775807) :
    Calls Tryz.prog 13 #[va, .int .i64 c] w fun e w' => e = .returned (.bool true) ∧ Below w.heap.size w w' := by
  obtain ⟨aa, ca, rfl, a3⟩ := hv
  go_enter Tryz.func13, Tryz.ntmps13
  go_wp2_with fail
  refine (pickK_any c 50 (by decide) (by decide) w h1 h2).mono ?_
  rintro e w1 ⟨k, hk, rfl, rfl⟩
  have HF := figK_any (1 + k) (by omega) w1
  have e1 : ((1 + k : Nat) : Int) = 1 + (k : Int) := by omega
  rw [e1] at HF
  obtain ⟨x, hx, hL, hr1, hr2⟩ := fif_pol (1 + k) (by omega) (by omega)
  go_wp2_with fail
  refine HF.mono ?_
  rintro e w2 ⟨rfl, B2⟩
  clear HF
  have hfl := figL_le (1 + k)
  have f1 : ¬ (9223372036854775807 < 8 + (figL (1 + k)).length) := by omega
  go_wp2_with fail
  have e2 : (ByteArray.mk #[113, 117, 101, 117, 101, 32, 114, 32] ++ ByteArray.mk (figL (1 + k)).toArray ++ ByteArray.mk #[59, 32, 111, 110, 32, 109, 105, 115, 115, 32, 123, 32, 105, 102, 32, 102, 117, 108, 108, 32, 114, 32, 123, 32, 101, 118, 105, 99, 116, 32, 114, 59, 32, 125, 32, 112, 117, 116, 32, 114, 59, 32, 125]) = ByteArray.mk (fifTxt (1 + k)).toArray := by
    rw [show fifTxt (1 + k) = [113, 117, 101, 117, 101, 32, 114, 32] ++ figL (1 + k) ++ [59, 32, 111, 110, 32, 109, 105, 115, 115, 32, 123, 32, 105, 102, 32, 102, 117, 108, 108, 32, 114, 32, 123, 32, 101, 118, 105, 99, 116, 32, 114, 59, 32, 125, 32, 112, 117, 116, 32, 114, 59, 32, 125] from rfl, ← bapp3, ← bapp3]
  rw [e2]
  have hks : (polOf x).keys (polOf x).start [114] = some [] := by rw [one_start hL]; exact one_keys hL []
  refine (kload_any (SS.move B2) _ [114] x hx hks).mono ?_
  rintro e w3 ⟨g, dom, rfl, B3, hg, hd, hE⟩
  rw [one_start hL] at hE
  have hz2 := B2.size
  have H0 : FifE w1 (1 + k) w1.heap.size x g 0 (.slice none 0 0) w3 := ⟨⟨[], dom, (0, 0, 0), hE, Rk.nil, by simp, fun b hb => by simp [Value.ownBlock] at hb, fun k hk => by have := hd k hk; omega, by simp, by simp, by simp⟩, by omega, B2.trans (B3.mono hz2)⟩
  clear hE hd hks
  go_wp2_with fail
  go_loopg [6, 23] (min l.length 16384) (fun f v6 v23 wr => ∃ i : Nat, v23 = .int .i64 i ∧ i + f = min l.length 16384 ∧ FifE w1 (1 + k) w1.heap.size x g i v6 wr)
  case atStart => exact ⟨0, rfl, by omega, H0⟩
  case round =>
    obtain ⟨i, rfl, hi, H⟩ := hrel
    have hz := H.b.size
    clear e2 f1 hfl hx B3 H0 e1
    obtain ⟨ks, dom, n, hE, hR, hN, hoff, hd, n1, n2, n3⟩ := H.ex
    have hlo : ∀ k, dom k ∨ k = g → w1.heap.size ≤ k := fun k e => by
      rcases e with e | e
      · exact hd k e
      · exact e ▸ H.g
    by_cases hlt : i < l.length
    · by_cases hlt2 : i < 16384
      · have hne : l ≠ [] := fun e => by subst e; simp at hlt
        obtain ⟨ga, oa, rfl, lga, hcell⟩ := a3.resolve_left hne
        have cc := (H.b.cell (p := ⟨ga, oa + i, none⟩) lga).trans (hcell i _ (List.getElem?_eq_getElem hlt))
        have ix := ix_u64 ga oa l.length ca i hlt
        have hk6 := hk64 _ (List.getElem_mem hlt)
        generalize l[i] = key at *
        have t1 : decide ((i : Int) < (l.length : Int)) = true := by simp; omega
        have t3 : ((i : Int) == 16384) = false := by simp; omega
        have hz0 : lga = lga := rfl
        clear hcell a3 hne hz0
        cases hf : ks.findIdx? (· == key) with
        | some j =>
          have HA := at_any hR key j (by rw [hf])
          obtain ⟨l1, l2, e, hn, hj⟩ := idx_split hf
          have hacc := one_hit0 hL hr1 e hn
          have HT := told_yes SS H.b hE hlo key hk6 (by omega) (by omega) (by omega) hacc (one_keys hL ks) Rk.nil hR (fun b hb => by simp [Value.ownBlock] at hb) hoff
          have HNx := fun wb dom2 hF hE2 hd2 => FifE.next (w := w1) (wr := wr) (wa := wr) (wb := wb) (N := 1 + k) (lo := w1.heap.size) (x := x) (i := i) (dom' := dom2) (out := []) (hit := true) H.g H.b hz hd n1 n2 n3 (Below.refl _ _) hF hE2 hd2 hR hoff hN (by simp)
          have HNx : Hid (∀ wb dom2, _ → _ → _ → _) := HNx
          clear hacc e hn hj hf
          go_upto_region 10 with fail
          go_wp2_with fail
          refine HA.mono ?_
          rintro e w5 ⟨rfl, rfl⟩
          clear HA
          go_upto_region 17 with fail
          go_wp2_with fail
          refine HT.mono ?_
          rintro e w6 ⟨dom2, rfl, hF, hE2, hd2⟩
          clear HT
          go_wp2_with fail
          go_roundg (gk - 1)
          case measure => omega
          case rel => exact ⟨i + 1, by simp, by omega, HNx.out w6 dom2 hF hE2 hd2⟩
        | none =>
          have hno := idx_no hf
          have HA := at_any hR key (-1) (by rw [hf])
          clear hf
          have hR0 := hR
          obtain ⟨la, lc, rfl, l1, l2, l3⟩ := hR0
          have hdl := hE.dl
          have hgl := hE.lt
          by_cases hfull : ks.length = 1 + k
          · have feq : ((ks.length : Int) == 1 + (k : Int)) = true := by simp; omega
            have hkn : ks ≠ [] := fun e => by rw [e] at hfull; simp at hfull; omega
            obtain ⟨gl, ol, rfl, lgl, hcl⟩ := l3.resolve_left (fun e => hkn e.2.1)
            obtain ⟨m, kk, hm⟩ : ∃ m kk, ks = m ++ [kk] := ⟨ks.dropLast, ks.getLast hkn, (List.dropLast_concat_getLast hkn).symm⟩
            have hml : m.length = k := by rw [hm] at hfull; simp at hfull; omega
            have hlc : ¬ lc = k := by omega
            have hrow : ks[k]? = some kk := by rw [hm, ← hml]; simp
            have hout : Rk wr (.slice (some ⟨gl, ol + k, none⟩) 1 (lc - k)) [kk] := ⟨_, _, rfl, by simp; omega, by omega, Or.inr ⟨gl, ol + k, rfl, lgl, fun j u hu => by
              rcases j with _ | j
              · simp at hu; subst hu; exact hcl k kk hrow
              · simp at hu⟩⟩
            have HW := without_any hR k (by omega) (by omega)
            have her : ks.eraseIdx k = m := by rw [hm, ← hml, List.eraseIdx_append_of_length_le (Nat.le_refl _)]; simp
            rw [her] at HW
            have hacc : (polOf x).access (oneE ks) key = .ok (false, [kk], oneE (key :: m)) := by
              rw [hm]
              exact one_miss1 hL hr2 (by rw [← hm]; exact hno) (by rw [← hm]; exact hfull)
            have hofo : ∀ b, (Value.slice (some ⟨gl, ol + k, none⟩) 1 (lc - k)).ownBlock = some b → ¬ (dom b ∨ b = g) := fun b hb => hoff b (by simpa [Value.ownBlock] using hb)
            have hsk : ks.length - k = 1 := by omega
            have HNx : Hid (∀ wa lo u, wr.heap.size ≤ lo → Below wr.heap.size wr wa → wa.ownsRow lo 26 1 u (key :: m).length (keysV (key :: m)) → Calls Tryz.prog 30 #[ptr g, .int .u64 key, .bool false, .slice (some ⟨gl, ol + k, none⟩) (ks.length - k) (lc - k), S [114], u] wa fun e wb => e = .returned (.bool true) ∧ FifE w1 (1 + k) w1.heap.size x g (i + 1) u wb) := fun wa lo u hlo2 Ba hown => by
              rw [hsk]
              have hou : ∀ b, u.ownBlock = some b → ¬ (dom b ∨ b = g) := fun b hb e => by
                have := (hown.lt b hb).1
                rcases e with e | e
                · have := hdl b e; omega
                · omega
              refine (told_yes SS (H.b.trans (Ba.mono hz)) (hE.below Ba) hlo key hk6 (by omega) (by omega) (by omega) hacc (one_keys hL (key :: m)) (hout.below Ba) (Rk.own hown) hofo hou).mono ?_
              rintro e wb ⟨dom2, rfl, hF, hE2, hd2⟩
              exact ⟨rfl, FifE.next H.g H.b hz hd n1 n2 n3 Ba hF hE2 hd2 (Rk.own hown) hou (by simp; omega) (by simp)⟩
            have hm6 : m.length ≤ 1000000 := by omega
            have hlk : k ≤ ks.length := by omega
            clear hacc hno her hrow hcl hm l3 hout hofo hkn hsk hfull hml
            go_upto_region 10 with fail
            go_wp2_with fail
            refine HA.mono ?_
            rintro e w5 ⟨rfl, rfl⟩
            clear HA
            go_upto_region 15 with fail
            go_wp2_with fail
            rw [show (1 + (k : Int) - 1) = (k : Int) from by omega]
            refine HW.mono ?_
            rintro e w6 ⟨u, rfl, B6, hown⟩
            have HFr := front_any (Rk.own hown) hm6 key
            obtain ⟨ua, uk, uc, rfl⟩ := ownsRow_form2 hown
            clear HW hown
            go_upto_region 16 with fail
            go_wp2_with fail
            refine HFr.mono ?_
            rintro e w7 ⟨u2, rfl, B7, hown7⟩
            obtain ⟨ya, yk, yc, rfl⟩ := ownsRow_form2 hown7
            have HT := HNx.out w7 _ _ B6.size (B6.trans (B7.mono B6.size)) hown7
            clear HFr HNx hown7
            go_upto_region 17 with fail
            go_wp2_with fail
            refine HT.mono ?_
            rintro e w8 ⟨rfl, H8⟩
            clear HT
            go_wp2_with fail
            go_roundg (gk - 1)
            case measure => omega
            case rel => exact ⟨i + 1, by simp, by omega, H8⟩
          · have fneq : ((ks.length : Int) == 1 + (k : Int)) = false := by simp; omega
            have HFr := front_any hR (by omega) key
            have hacc := one_miss0 hL hr2 hno (by omega)
            have HNx : Hid (∀ wa u, Below wr.heap.size wr wa → wa.ownsRow wr.heap.size 26 1 u (key :: ks).length (keysV (key :: ks)) → Calls Tryz.prog 30 #[ptr g, .int .u64 key, .bool false, .slice none 0 0, S [114], u] wa fun e wb => e = .returned (.bool true) ∧ FifE w1 (1 + k) w1.heap.size x g (i + 1) u wb) := fun wa u Ba hown => by
              have hou : ∀ b, u.ownBlock = some b → ¬ (dom b ∨ b = g) := fun b hb e => by
                have := (hown.lt b hb).1
                rcases e with e | e
                · have := hdl b e; omega
                · omega
              refine (told_yes SS (H.b.trans (Ba.mono hz)) (hE.below Ba) hlo key hk6 (by omega) (by omega) (by omega) hacc (one_keys hL (key :: ks)) Rk.nil (Rk.own hown) (fun b hb => by simp [Value.ownBlock] at hb) hou).mono ?_
              rintro e wb ⟨dom2, rfl, hF, hE2, hd2⟩
              exact ⟨rfl, FifE.next H.g H.b hz hd n1 n2 n3 Ba hF hE2 hd2 (Rk.own hown) hou (by simp; omega) (by simp)⟩
            clear hacc hno
            go_upto_region 10 with fail
            go_wp2_with fail
            refine HA.mono ?_
            rintro e w5 ⟨rfl, rfl⟩
            clear HA
            go_upto_region 16 with fail
            go_wp2_with fail
            refine HFr.mono ?_
            rintro e w6 ⟨u, rfl, B6, hown⟩
            obtain ⟨ua, uk, uc, rfl⟩ := ownsRow_form2 hown
            have HT := HNx.out w6 _ B6 hown
            clear HFr HNx hown
            go_upto_region 17 with fail
            go_wp2_with fail
            refine HT.mono ?_
            rintro e w7 ⟨rfl, H7⟩
            clear HT
            go_wp2_with fail
            go_roundg (gk - 1)
            case measure => omega
            case rel => exact ⟨i + 1, by simp, by omega, H7⟩
      · have hne : l ≠ [] := fun e => by subst e; simp at hlt
        obtain ⟨ga, oa, rfl, lga, hcell⟩ := a3.resolve_left hne
        have cc := (H.b.cell (p := ⟨ga, oa + i, none⟩) lga).trans (hcell i _ (List.getElem?_eq_getElem hlt))
        have ix := ix_u64 ga oa l.length ca i hlt
        generalize l[i] = key at *
        have t1 : decide ((i : Int) < (l.length : Int)) = true := by simp; omega
        have t3 : ((i : Int) == 16384) = true := by simp; omega
        clear hcell a3 hne
        go_upto_region 20 with fail
        go_wp2_with fail
        go_ret
        exact ⟨rfl, H.b⟩
    · have t1 : decide ((i : Int) < (l.length : Int)) = false := by simp; omega
      go_wp2_with fail
      go_ret
      exact ⟨rfl, H.b⟩
end Go.Proofs.YtfddoieakfpagaaGreatDoor
