import Derived.Test.YtfddoieakfpagaaGreatDoorGE
import Derived.Deep.CutBlock
import Derived.Deep.DeepCutAuto
namespace Go.Proofs.YtfddoieakfpagaaGreatDoor
set_option maxHeartbeats 2000000
set_option maxRecDepth 20000
open Go.RowKit
def iM : List (List UInt8) := [[113, 117, 101, 117, 101], [103, 104, 111, 115, 116], [118, 97, 114], [102, 114, 101, 113], [111, 110], [109, 105, 115, 115], [112, 117, 116], [116, 97, 105, 108], [101, 118, 105, 99, 116], [115, 104, 105, 102, 116], [100, 114, 111, 112], [105, 110, 99], [100, 101, 99], [98, 117, 109, 112], [99, 111, 111, 108], [105, 102], [101, 108, 115, 101], [114, 101, 112, 101, 97, 116], [119, 104, 105, 108, 101], [110, 111, 116], [102, 117, 108, 108], [101, 109, 112, 116, 121], [119, 97, 114, 109], [108, 101, 110]]
structure Wd0 (w : World) (g wo : Nat) : Prop where
 v : w.cell? ⟨12, 0, none⟩ = some (.slice (some ⟨g, wo, none⟩) 24 24)
 c : ∀ k (h : k < 24), w.cell? ⟨g, wo + k, none⟩ = some (S (iM[k]'(by exact h)))
def Wd (w : World) (g : Nat) : Prop := ∃ wo, Wd0 w g wo
theorem aJz {w : World} {base : Nat} {e : TypeId} {size n : Nat} {v : Value} {xs : List Value} (h : w.ownsRow base e size v n xs) : ∃ a k c, v = .slice a k c := by
 rcases h.2 with ⟨h, _⟩ | ⟨g, cap, cur, h, _⟩
 ·exact ⟨_, _, _, h⟩
 ·exact ⟨_, _, _, h⟩
theorem aA5 {w w6 : World} {A B : Array Value} {TA TB : TypeId} {base : Nat} {e : TypeId} {size n : Nat} {v : Value} {xs : List Value} (h : w.ownsRow base e size v n xs) (hg : ((w.alloc (.cells A TA)).alloc (.cells B TB)).grownBy w6 v.ownBlock) :
  w6.heap[w.heap.size]? = some (.cells A TA) /\ w.heap.size + 2 <= w6.heap.size := by
 have hz := hg.size
 simp at hz
 refine ⟨?_, by omega⟩
 rw [hg.block _ (by simp; omega) (fun e => by have := (h.lt _ e.symm).2; omega), zM _ _ _ (by simp)]
 exact aC rfl
theorem aI0 (a b : List UInt8) : (a == b) = (b == a) := by
 cases h : (b == a) with
 | true => rw [eq_of_beq h]; simp
 | false => simp at h ⊢; exact fun e => h e.symm
theorem Wd0.move {w w' : World} {g wo lo : Nat} (h : Wd0 w g wo) (hb : Below lo w w') (h1 : 12 < lo) (h2 : g < lo) : Wd0 w' g wo :=
 ⟨(hb.cell (p := ⟨12, 0, none⟩) h1).trans h.v, fun k hk => (hb.cell (p := ⟨g, wo + k, none⟩) h2).trans (h.c k hk)⟩
theorem aNk (g wo k : Nat) (hk : k < 24) : ∀ W : World, (Instr.indexAt 120 (.slice (some ⟨g, wo, none⟩) 24 24) (.int .i64 k)).run Tryz.prog W = .ok (.pointer (some ⟨g, wo + k, none⟩)) W := by
 intro W
 rw [run_indexAt_slice (h := by kernel_rfl), if_pos (by omega)]
 have : (sizeOf (Tryz.prog.elem 120)).run Tryz.prog W = .ok 1 W := by kernel_rfl
 rw [this]
 simp [Result.andThen, Addr.add]
def isA (X : List UInt8) (m : Nat) : List UInt8 := if (iM.take m).contains X = true then X else [110, 97, 109, 101]
theorem aNn (X : List UInt8) : (iM.take 24).contains X = O8 X := rfl
theorem aKo (X : List UInt8) (m : Nat) (h : m < 24) : isA X (m + 1) = if (iM[m]'h == X) = true then X else isA X m := by
 unfold isA
 have e : iM.take (m + 1) = iM.take m ++ [iM[m]'h] := by rw [List.take_add_one, List.getElem?_eq_getElem (by exact h)]; rfl
 rw [e]
 have e2 : (iM.take m ++ [iM[m]'h]).contains X = ((iM.take m).contains X || (iM[m]'h == X)) := by
  rw [List.contains_eq_any_beq, List.contains_eq_any_beq, List.any_append]
  simp only [List.any_cons, List.any_nil, Bool.or_false]
  congr 1
  exact aI0 _ _
 rw [e2]
 cases h1 : (iM.take m).contains X <;> cases h2 : (iM[m]'h == X) <;> simp
theorem aKi (X : List UInt8) (h : O8 X = true) : (X == [110, 111, 110, 101]) = false /\ (X == [101, 110, 100]) = false := by
 have hm : X ∈ aAg := by simpa [O8] using h
 have : ∀ Y ∈ aAg, (Y == [110, 111, 110, 101]) = false /\ (Y == [101, 110, 100]) = false := by decide
 exact this X hm
theorem aJf (p : UInt8 -> Bool) (l : List UInt8) (j : Nat) (hj : j < l.length) (hp : p l[j] = true) : j + ((l.drop j).takeWhile p).length <= l.length /\ (∀ m, m < ((l.drop j).takeWhile p).length -> ∀ h : j + m < l.length, p l[j + m] = true) /\ (∀ h : j + ((l.drop j).takeWhile p).length < l.length, p l[j + ((l.drop j).takeWhile p).length] = false) /\ (l.take (j + ((l.drop j).takeWhile p).length)).drop j = (l.drop j).takeWhile p /\ 0 < ((l.drop j).takeWhile p).length := by
 have h2 := wX p (l.drop j)
 have h3 : ((l.drop j).takeWhile p).length <= l.length - j := by simpa using h2
 refine ⟨by omega, fun m hm h => by have := aBd p (l.drop j) m hm (by simp; omega); simpa using this, fun h => by have := aBe p (l.drop j) _ rfl (by simp; omega); simpa using this, by rw [List.drop_take, Nat.add_sub_cancel_left]; exact sG p (l.drop j), ?_⟩
 rw [drop_cons l j hj, List.takeWhile_cons, if_pos hp]
 exact Nat.succ_pos _
def FT (l : List UInt8) (i j : Nat) (is X : List UInt8) : Prop := bD (aN l i) = is /\ bF l j = X /\ (aN l i).pos = j /\ (l.take (j + X.length)).drop j = X /\ j + X.length <= l.length /\ ((gW (aN l i) = false /\ (aN l i).txt = X /\ 0 < X.length /\ (is == [110, 111, 110, 101]) = false /\ (is == [101, 110, 100]) = false) \/ (gW (aN l i) = true /\ ((is == [110, 111, 110, 101]) = true \/ (is == [110, 111, 110, 101]) = false /\ (is == [101, 110, 100]) = true)))
theorem FT.go {l : List UInt8} {i j kd : Nat} {is X : List UInt8} (ht : aN l i = ⟨kd, X, j⟩) (hr : bF l j = X) (hs : bD ⟨kd, X, j⟩ = is) (h4 : (l.take (j + X.length)).drop j = X) (hl : j + X.length <= l.length) (h0 : 0 < X.length) (hk : (kd == 0 || kd == 1) = false) (h1 : (is == [110, 111, 110, 101]) = false) (h2 : (is == [101, 110, 100]) = false) : FT l i j is X := by
 unfold FT gW
 rw [ht]
 exact ⟨hs, hr, rfl, h4, hl, Or.inl ⟨hk, rfl, h0, h1, h2⟩⟩
theorem FT.end {l : List UInt8} {i j kd : Nat} {is X : List UInt8} (ht : aN l i = ⟨kd, [], j⟩) (hr : bF l j = X) (hs : bD ⟨kd, [], j⟩ = is) (h4 : (l.take (j + X.length)).drop j = X) (hl : j + X.length <= l.length) (hk : (kd == 0 || kd == 1) = true) (h1 : (is == [110, 111, 110, 101]) = true \/ (is == [110, 111, 110, 101]) = false /\ (is == [101, 110, 100]) = true) : FT l i j is X := by
 unfold FT gW
 rw [ht]
 exact ⟨hs, hr, rfl, h4, hl, Or.inr ⟨hk, h1⟩⟩
theorem Q9 {l : List UInt8} {j : Nat} (_h : j <= l.length) : (l.take (j + ([] : List UInt8).length)).drop j = [] := by simp
theorem aDr (l : List UInt8) (w : World) (g : Nat) (HG0 : Wd w g) (hl : l.length <= 700) (TL : List Tok) (hTL : TL = mG l (l.length + 1) 0) :
  Calls Tryz.prog 41 #[S l] w fun e w' => ∃ v, e = .returned v /\ Below w.heap.size w w' /\ w'.ownsRow w.heap.size 87 3 v TL.length (qP l TL) := by
 have HT : Hid (TL = mG l (l.length + 1) 0) := hTL
 clear hTL
 obtain ⟨wo, HG0⟩ := HG0
 have HG : Hid (Wd0 w g wo) := HG0
 clear HG0
 unfold S
 have aQk := aOn l
 go_enter Tryz.func41, Tryz.ntmps41
 go_wp2_with fail
 go_loopg [3, 4] (l.length + 1) (fun f v3 v4 wr => ∃ (i : Nat) (done : List Tok), v4 = .int .i64 i /\ i <= l.length /\ l.length + 1 <= f + i /\ done.length + f <= l.length + 1 /\ Below w.heap.size w wr /\ wr.ownsRow w.heap.size 87 3 v3 done.length (qP l done) /\ Hid (TL = done ++ mG l f i))
 case atStart => exact ⟨0, [], rfl, by omega, by omega, by simp, Below.refl _ _, World.ownsRow_nil _ _ _ _, HT⟩
 case round =>
  obtain ⟨i, done, rfl, hi, hf, hdn, HB, hown, HTL⟩ := hrel
  obtain ⟨va, vk, vc, rfl⟩ := aJz hown
  obtain ⟨fk, rfl⟩ : ∃ fk, gk = fk + 1 := ⟨gk - 1, by omega⟩
  have hge := xZ l i
  have hle := Z7 l i hi
  have hlt := aFy l i
  have hat := aFz l i
  have HE : Hid (¬ skip l i < l.length -> aN l i = ⟨1, [], skip l i⟩) := kW l i
  have HW : Hid (∀ (h : skip l i < l.length), dU l[skip l i] = true -> aN l i = jW ((l.drop (skip l i)).takeWhile dU) (skip l i)) := jS l i
  have HD : Hid (∀ (h : skip l i < l.length), dU l[skip l i] = false -> dN l[skip l i] = true -> aN l i = qG ((l.drop (skip l i)).takeWhile dN) (skip l i)) := kX l i
  have HS : Hid (∀ (h : skip l i < l.length), dU l[skip l i] = false -> dN l[skip l i] = false -> pO l[skip l i] = true -> aN l i = ⟨4, [l[skip l i]], skip l i⟩) := kV l i
  have HN : Hid (∀ (h : skip l i < l.length), dU l[skip l i] = false -> dN l[skip l i] = false -> pO l[skip l i] = false -> aN l i = ⟨0, [], skip l i⟩) := jT l i
  generalize skip l i = j at *
  have hz := HB.size
  go_upto_block 2 with fail
  go_cut [4] (fun v wx => v = .int .i64 j /\ wr = wx)
  case first =>
   go_wp2_with fail
   go_loopg [4] (j - i) (fun f v4 w2 => ∃ k : Nat, v4 = .int .i64 k /\ i <= k /\ k + f = j /\ w2 = wr)
   case atStart => exact ⟨i, rfl, zR, by omega, rfl⟩
   case round =>
    obtain ⟨k, rfl, hk1, hk2, rfl⟩ := hrel
    by_cases hkj : k < j
    ·have hkl : k < l.length := by omega
     have hg := wS l k hkl
     have hb := hlt k hk1 hkj hkl
     clear hlt hat
     have hb2 : ((l[k].toNat : Int) == 32 || (l[k].toNat : Int) == 10) = true := hb
     cases h32 : ((l[k].toNat : Int) == 32)
     case false =>
      have h10 : ((l[k].toNat : Int) == 10) = true := by rw [h32] at hb2; simpa using hb2
      go_wp2_with fail
      go_roundg (gk - 1)
      case measure => omega
      case rel => exact ⟨k + 1, by simp, by omega, by omega, rfl⟩
     go_wp2_with fail
     go_roundg (gk - 1)
     case measure => omega
     case rel => exact ⟨k + 1, by simp, by omega, by omega, rfl⟩
    ·obtain rfl : k = j := by omega
     clear hlt hkj hk1
     by_cases hkl : k < l.length
     ·have hg := wS l k hkl
      have hb2 : ((l[k].toNat : Int) == 32 || (l[k].toNat : Int) == 10) = false := hat hkl
      have h32 : ((l[k].toNat : Int) == 32) = false := by cases h : ((l[k].toNat : Int) == 32) <;> simp [h] at hb2 ⊢
      have h10 : ((l[k].toNat : Int) == 10) = false := by cases h : ((l[k].toNat : Int) == 10) <;> simp [h] at hb2 ⊢
      go_wp2_with fail
      go_meet
      exact ⟨rfl, rfl⟩
     ·go_wp2_with fail
      go_meet
      exact ⟨rfl, rfl⟩
  case rest =>
  obtain ⟨rfl, rfl⟩ := hcut
  clear hlt hat
  go_upto_block 4 with fail
  go_cut [6] (fun v wx => ∃ is X : List UInt8, v = .int .i64 (j + X.length : Nat) /\ wx = wr.alloc (.cells #[S is, S [], .int .i64 j] 87) /\ Hid (FT l i j is X))
  case first =>
   by_cases hkl : j < l.length
   ·have hg := wS l j hkl
    have hne : ((j : Int) == (l.length : Int)) = false := by simp; omega
    clear HE
    cases hL : dU l[j] with
    | true =>
     have HT3 : Hid (aN l i = jW ((l.drop j).takeWhile dU) j) := HW.out hkl hL
     have HR : Hid (bF l j = (l.drop j).takeWhile dU) := by show _ = _; unfold bF; rw [drop_cons l j hkl]; simp [hL]
     have hW := HG.out.move HB (aAz HG.out.v) (aAz (HG.out.c 0 (by decide)))
     have hwv := fun o => (World.cell?_alloc_lt wr o ⟨12, 0, none⟩ (aAz hW.v)).trans hW.v
     obtain ⟨f0, f1, f3, f4, f5⟩ := aJf dU l j hkl hL
     generalize (l.drop j).takeWhile dU = X at *
     clear HW HD HS HN
     go_upto_block 5 with (first | (go_at_call 68; refine (nT _ _).mono ?_; rintro e w' ⟨rfl, rfl⟩) | (go_at_call 69; refine (nY _ _).mono ?_; rintro e w' ⟨rfl, rfl⟩))
     go_cut [6] (fun v wx => v = .int .i64 (j + X.length : Nat) /\ wx = wr.alloc (.cells #[S [110, 111, 110, 101], S [], .int .i64 j] 87))
     case first =>
      go_wp2_with fail
      go_loopg [6] X.length (fun f v6 w2 => ∃ m : Nat, v6 = .int .i64 (j + m : Nat) /\ m + f = X.length /\ w2 = wr.alloc (.cells #[S [110, 111, 110, 101], S [], .int .i64 j] 87))
      case atStart => exact ⟨0, rfl, by omega, rfl⟩
      case round =>
       obtain ⟨m, rfl, hm, rfl⟩ := hrel
       by_cases hmn : m < X.length
       ·have hml : j + m < l.length := by omega
        have hg2 := wS l (j + m) hml
        have hp := f1 m hmn hml
        clear f1 f3 hg
        go_wp2_with (first | (go_at_call 68; refine (nT _ _).mono ?_; rintro e w' ⟨rfl, rfl⟩) | (go_at_call 69; refine (nY _ _).mono ?_; rintro e w' ⟨rfl, rfl⟩))
        go_roundg (gk - 1)
        case measure => omega
        case rel => exact ⟨m + 1, by simp; omega, by omega, rfl⟩
       ·obtain rfl : m = X.length := by omega
        clear f1 hmn hm
        by_cases hq : j + X.length < l.length
        ·have hg2 := wS l (j + X.length) hq
         have hp := f3 hq
         clear f3
         go_wp2_with (first | (go_at_call 68; refine (nT _ _).mono ?_; rintro e w' ⟨rfl, rfl⟩) | (go_at_call 69; refine (nY _ _).mono ?_; rintro e w' ⟨rfl, rfl⟩))
         go_meet
         exact ⟨rfl, rfl⟩
        ·clear f3
         go_wp2_with fail
         go_meet
         exact ⟨rfl, rfl⟩
     case rest =>
     obtain ⟨rfl, rfl⟩ := hcut
     by_cases hn8 : X.length <= 8
     ·have h8 : decide ((X.length : Int) <= 8) = true := by simp; omega
      go_wp2_with fail
      go_loopg [60] 24 (fun f v60 w2 => ∃ m : Nat, v60 = .int .i64 m /\ m + f = 24 /\ w2 = wr.alloc (.cells #[S (isA X m), S [], .int .i64 j] 87))
      case atStart => exact ⟨0, rfl, rfl, rfl⟩
      case round =>
       obtain ⟨m, rfl, hm, rfl⟩ := hrel
       by_cases aEi : m < 24
       ·have hwc : ∀ o, (wr.alloc o).cell? ⟨g, wo + m, none⟩ = some (S (iM[m]'aEi)) := fun o => (World.cell?_alloc_lt _ _ ⟨g, wo + m, none⟩ (aAz (hW.c m aEi))).trans (hW.c m aEi)
        have aVj := aNk g wo m aEi
        have hsu := aKo X m aEi
        generalize iM[m]'aEi = Y at *
        cases hq2 : (Y == X)
        case false =>
         have HI : Hid (isA X (m + 1) = isA X m) := by show _ = _; rw [hsu, if_neg (by simp [hq2])]
         clear hsu
         generalize isA X m = I at *
         go_wp2_with fail
         go_roundg (gk - 1)
         case measure => omega
         case rel => exact ⟨m + 1, by simp, by omega, by rw [HI.out]⟩
        have HI : Hid (isA X (m + 1) = Y) := by show _ = _; rw [hsu, if_pos hq2]; exact (eq_of_beq hq2).symm
        clear hsu
        generalize isA X m = I at *
        go_wp2_with fail
        go_roundg (gk - 1)
        case measure => omega
        case rel => exact ⟨m + 1, by simp, by omega, by rw [HI.out]⟩
       ·obtain rfl : m = 24 := by omega
        clear aEi hm
        go_wp2_with fail
        go_meet
        refine ⟨isA X 24, X, rfl, rfl, ?_⟩
        have h3 := HT3.out
        unfold jW at h3
        rw [if_neg (by omega)] at h3
        unfold isA
        rw [aNn]
        cases hkw : O8 X with
        | true =>
         rw [if_pos hkw] at h3
         exact FT.go h3 HR.out rfl f4 f0 f5 rfl (aKi X hkw).1 (aKi X hkw).2
        | false =>
         rw [if_neg (by simp [hkw])] at h3
         exact FT.go h3 HR.out rfl f4 f0 f5 rfl rfl rfl
     ·have h8 : decide ((X.length : Int) <= 8) = false := by simp; omega
      go_wp2_with fail
      go_meet
      refine ⟨[110, 111, 110, 101], X, rfl, rfl, FT.end (kd := 0) ?_ HR.out rfl f4 f0 rfl (Or.inl rfl)⟩
      rw [HT3.out]
      unfold jW
      rw [if_pos (by omega)]
    | false =>
    cases hD : dN l[j] with
    | true =>
     have HT3 : Hid (aN l i = qG ((l.drop j).takeWhile dN) j) := HD.out hkl hL hD
     have HR : Hid (bF l j = (l.drop j).takeWhile dN) := by show _ = _; unfold bF; rw [drop_cons l j hkl]; simp [hL, hD]
     obtain ⟨f0, f1, f3, f4, f5⟩ := aJf dN l j hkl hD
     generalize (l.drop j).takeWhile dN = X at *
     clear HW HD HS HN
     go_upto_block 9 with (first | (go_at_call 68; refine (nT _ _).mono ?_; rintro e w' ⟨rfl, rfl⟩) | (go_at_call 69; refine (nY _ _).mono ?_; rintro e w' ⟨rfl, rfl⟩))
     go_cut [6] (fun v wx => v = .int .i64 (j + X.length : Nat) /\ wx = wr.alloc (.cells #[S [110, 111, 110, 101], S [], .int .i64 j] 87))
     case first =>
      go_wp2_with fail
      go_loopg [6] X.length (fun f v6 w2 => ∃ m : Nat, v6 = .int .i64 (j + m : Nat) /\ m + f = X.length /\ w2 = wr.alloc (.cells #[S [110, 111, 110, 101], S [], .int .i64 j] 87))
      case atStart => exact ⟨0, rfl, by omega, rfl⟩
      case round =>
       obtain ⟨m, rfl, hm, rfl⟩ := hrel
       by_cases hmn : m < X.length
       ·have hml : j + m < l.length := by omega
        have hg2 := wS l (j + m) hml
        have hp := f1 m hmn hml
        clear f1 f3 hg
        go_wp2_with (first | (go_at_call 68; refine (nT _ _).mono ?_; rintro e w' ⟨rfl, rfl⟩) | (go_at_call 69; refine (nY _ _).mono ?_; rintro e w' ⟨rfl, rfl⟩))
        go_roundg (gk - 1)
        case measure => omega
        case rel => exact ⟨m + 1, by simp; omega, by omega, rfl⟩
       ·obtain rfl : m = X.length := by omega
        clear f1 hmn hm
        by_cases hq : j + X.length < l.length
        ·have hg2 := wS l (j + X.length) hq
         have hp := f3 hq
         clear f3
         go_wp2_with (first | (go_at_call 68; refine (nT _ _).mono ?_; rintro e w' ⟨rfl, rfl⟩) | (go_at_call 69; refine (nY _ _).mono ?_; rintro e w' ⟨rfl, rfl⟩))
         go_meet
         exact ⟨rfl, rfl⟩
        ·clear f3
         go_wp2_with fail
         go_meet
         exact ⟨rfl, rfl⟩
     case rest =>
     obtain ⟨rfl, rfl⟩ := hcut
     by_cases hn3 : X.length <= 3
     ·have h8 : decide ((X.length : Int) <= 3) = true := by simp; omega
      go_wp2_with fail
      go_meet
      refine ⟨[110, 117, 109], X, rfl, rfl, FT.go (kd := 3) ?_ HR.out rfl f4 f0 f5 rfl rfl rfl⟩
      rw [HT3.out]
      unfold qG
      rw [if_neg (by omega)]
     ·have h8 : decide ((X.length : Int) <= 3) = false := by simp; omega
      go_wp2_with fail
      go_meet
      refine ⟨[110, 111, 110, 101], X, rfl, rfl, FT.end (kd := 0) ?_ HR.out rfl f4 f0 rfl (Or.inl rfl)⟩
      rw [HT3.out]
      unfold qG
      rw [if_pos (by omega)]
    | false =>
    cases hS : pO l[j] with
    | false =>
     have HF : Hid (FT l i j [110, 111, 110, 101] []) := FT.end (kd := 0) (HN.out hkl hL hD hS) (by unfold bF; rw [drop_cons l j hkl]; simp [hL, hD, hS]) rfl (Q9 hle) (by simpa using hle) rfl (Or.inl rfl)
     have hs := hS
     unfold pO at hs
     simp only [Bool.or_eq_false_iff] at hs
     obtain ⟨⟨⟨s1, s2⟩, s3⟩, s4⟩ := hs
     have s1 : ((l[j].toNat : Int) == 59) = false := aMl s1
     have s2 : ((l[j].toNat : Int) == 123) = false := aMl s2
     have s3 : ((l[j].toNat : Int) == 125) = false := aMl s3
     have s4 : ((l[j].toNat : Int) == 60) = false := aMl s4
     clear HW HD HS HN hS
     go_wp2_with (first | (go_at_call 68; refine (nT _ _).mono ?_; rintro e w' ⟨rfl, rfl⟩) | (go_at_call 69; refine (nY _ _).mono ?_; rintro e w' ⟨rfl, rfl⟩))
     go_meet
     exact ⟨[110, 111, 110, 101], [], rfl, rfl, HF⟩
    | true =>
     have htk := tk1 l j hkl
     have HF : Hid (FT l i j [l[j]] [l[j]]) := FT.go (kd := 4) (HS.out hkl hL hD hS) (by unfold bF; rw [drop_cons l j hkl]; simp [hL, hD, hS]) rfl (by simpa using htk) (by simp; omega) (by simp) rfl (by simp) (by simp)
     have hs := hS
     unfold pO at hs
     clear HW HD HS HN
     have hs : (((l[j].toNat : Int) == 59) || ((l[j].toNat : Int) == 123) || ((l[j].toNat : Int) == 125) || ((l[j].toNat : Int) == 60)) = true := aS7 hs
     cases h59 : ((l[j].toNat : Int) == 59) <;> cases aT5 : ((l[j].toNat : Int) == 123) <;> cases aT4 : ((l[j].toNat : Int) == 125) <;> cases h60 : ((l[j].toNat : Int) == 60)
     case false.false.false.false => simp [h59, aT5, aT4, h60] at hs
     all_goals
      clear hs
      go_wp2_with (first | (go_at_call 68; refine (nT _ _).mono ?_; rintro e w' ⟨rfl, rfl⟩) | (go_at_call 69; refine (nY _ _).mono ?_; rintro e w' ⟨rfl, rfl⟩))
      go_meet
      exact ⟨[l[j]], [l[j]], by simp, rfl, HF⟩
   ·have hne : ((j : Int) == (l.length : Int)) = true := by simp; omega
    have HF : Hid (FT l i j [101, 110, 100] []) := FT.end (kd := 1) (HE.out hkl) (by unfold bF; rw [List.drop_of_length_le (by omega)]) rfl (Q9 hle) (by simpa using hle) rfl (Or.inr ⟨rfl, rfl⟩)
    clear HE HW HD HS HN
    go_wp2_with fail
    go_meet
    exact ⟨[101, 110, 100], [], rfl, rfl, HF⟩
  case rest =>
  obtain ⟨is, X, rfl, rfl, HF⟩ := hcut
  obtain ⟨q1, q2, q3, f4, f0, hor⟩ := HF.out
  have q9 : Hid (bD (aN l i) = is /\ bF l j = X /\ (aN l i).pos = j) := ⟨q1, q2, q3⟩
  clear HE HW HD HS HN HF q1 q2 q3
  obtain ⟨i0, hi0, hz0, hz1, hz2⟩ := aGm aNo
  go_upto_region 29 with fail
  refine wp_region_lit ?_
  iterate 9 go_step
  refine wpList_append_own_at _ rfl (.tmp 130) (.tmp 132) 75 rfl w.heap.size 87 i0 (.agg #[S [], S [], .int .i64 0]) 3 40 Tryz.underlying75 hi0 hz0 hz1 hz2 rfl (by decide) (.slice va vk vc) done.length (qP l done) (by simp [Act.eval]) (aW hown (fun g _ hl => (zM _ _ _ (by simp; omega)).trans (zM _ _ _ hl))) ⟨wr.heap.size + 1, 0, none⟩ 1 1 [S is, .string ⟨X.toArray⟩, .int .i64 j] (by simp [Act.eval]) rfl (fun o u hu => by have := aJp (wr.alloc (.cells #[S is, .string ⟨X.toArray⟩, .int .i64 j] 87)) #[S is, .string ⟨X.toArray⟩, .int .i64 j] 87 o u hu; simpa using this) (by simp [Value.oneCell']) (by simp only [maxLen]; omega) (by omega) (by simp; omega) ?_
  intro v' w6 hown6 hgrow hnil hat
  obtain ⟨c5, z6⟩ := aA5 hown hgrow
  have HB6 : Below w.heap.size w w6 := (HB.alloc hz _).alloc (by simp; omega) _ |>.grown hgrow (by simp; omega) (fun g hg => (hown.lt g hg).1)
  obtain ⟨c5a, c5b⟩ := aA c5
  have aCh : w6.ownsRow w.heap.size 87 3 v' (done ++ [aN l i]).length (qP l (done ++ [aN l i])) := by
   rw [aEr, List.length_append, q9.out.1, q9.out.2.2, q9.out.2.1]
   exact hown6
  rcases hor with ⟨e1, e2, e3, h1, h2⟩ | ⟨e1, h1⟩
  ·have E1 : Hid (TL = done ++ [aN l i] ++ mG l fk (j + X.length)) := by
    show _ = _
    rw [HTL.out]
    conv => lhs; unfold mG
    rw [if_neg (by simp [e1]), e2, q9.out.2.2]
    simp
   clear e1 e2 HTL
   go_wp2_with fail
   go_roundg fk
   case measure => omega
   case rel => exact ⟨j + X.length, done ++ [aN l i], by simp, f0, by omega, by simp; omega, HB6, aCh, E1⟩
  ·have E1 : TL = done ++ [aN l i] := by
    rw [HTL.out]
    unfold mG
    rw [if_pos e1]
   rw [<- E1] at aCh
   clear e1 E1 HTL
   rcases h1 with h1 | ⟨h1, h2⟩
   all_goals
    go_wp2_with fail
    exact bodyPost_ret (v := v') (by simp [results, Tryz.results41, go_sem]) rfl ⟨v', rfl, HB6, aCh⟩
end Go.Proofs.YtfddoieakfpagaaGreatDoor
