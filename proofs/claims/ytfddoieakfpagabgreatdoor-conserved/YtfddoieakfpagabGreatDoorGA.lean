import Derived.WalkKit
import Derived.WalkSpells
import Derived.WalkLawsBesides
import Derived.Lib.Bytealg
import Derived.Laws.ResultCell
import Derived.Lib.IndexAny
import Derived.Deep.RegionWith
import Derived.BigRegion
import Derived.Deep.LoopGhost
import Derived.Deep.DeepMust
import Derived.Deep.Cut
import Derived.Test.YtfddoieakfpagabGreatDoorProg
namespace Go.Proofs.YtfddoieakfpagabGreatDoor
set_option maxHeartbeats 4000000
set_option maxRecDepth 20000
open Go.RowKit
def blankB (c : Int) : Bool := c == 32 || c == 10
def letterB (c : Int) : Bool := decide (97 <= c) && decide (c <= 122)
def digitB (c : Int) : Bool := decide (48 <= c) && decide (c <= 57)
theorem isBlank_any (c : Int) (w : World) :
  Calls Tryz.prog 81 #[.int .u8 c] w fun e w' => e = .returned (.bool (blankB c)) /\ w' = w := by
 go_enter Tryz.func81, Tryz.ntmps81
 go_wp2
 all_goals go_ret
 all_goals exact ⟨by simp [blankB, *], rfl⟩
theorem isLetter_any (c : Int) (w : World) (h0 : 0 <= c) (h1 : c <= 255) :
  Calls Tryz.prog 82 #[.int .u8 c] w fun e w' => e = .returned (.bool (letterB c)) /\ w' = w := by
 go_enter Tryz.func82, Tryz.ntmps82
 go_wp2
 all_goals go_ret
 ·exact ⟨by simp [letterB, *], rfl⟩
 ·exact ⟨by simp [letterB]; omega, rfl⟩
theorem isDigit_any (c : Int) (w : World) (h0 : 0 <= c) (h1 : c <= 255) :
  Calls Tryz.prog 85 #[.int .u8 c] w fun e w' => e = .returned (.bool (digitB c)) /\ w' = w := by
 go_enter Tryz.func85, Tryz.ntmps85
 go_wp2
 all_goals go_ret
 ·exact ⟨by simp [digitB, *], rfl⟩
 ·exact ⟨by simp [digitB]; omega, rfl⟩
def blkU (c : UInt8) : Bool := blankB (c.toNat : Int)
def letU (c : UInt8) : Bool := letterB (c.toNat : Int)
def digU (c : UInt8) : Bool := digitB (c.toNat : Int)
def sgnU (c : UInt8) : Bool := c == 59 || c == 123 || c == 125 || c == 60
abbrev S (l : List UInt8) : Value := .string ⟨l.toArray⟩
def kwList : List (List UInt8) := [[113, 117, 101, 117, 101], [103, 104, 111, 115, 116], [118, 97, 114], [102, 114, 101, 113], [111, 110], [109, 105, 115, 115], [112, 117, 116], [116, 97, 105, 108], [101, 118, 105, 99, 116], [115, 104, 105, 102, 116], [100, 114, 111, 112], [105, 110, 99], [100, 101, 99], [98, 117, 109, 112], [99, 111, 111, 108], [105, 102], [101, 108, 115, 101], [114, 101, 112, 101, 97, 116], [119, 104, 105, 108, 101], [110, 111, 116], [102, 117, 108, 108], [101, 109, 112, 116, 121], [119, 97, 114, 109], [108, 101, 110]]
def kwB (l : List UInt8) : Bool := kwList.contains l
theorem tw_lt {α : Type} (p : α -> Bool) : ∀ (l : List α) (k : Nat) (_ : k < (l.takeWhile p).length) (h2 : k < l.length), p l[k] = true
 | [], _, h, _ => by simp at h
 | a :: l, k, h, h2 => by
  by_cases hp : p a = true
  ·cases k with
   | zero => simpa using hp
   | succ k => simp [hp] at h; simpa using tw_lt p l k h (by simpa using h2)
  ·simp [hp] at h
theorem tw_eq {α : Type} (p : α -> Bool) : ∀ (l : List α) (k : Nat) (_ : k = (l.takeWhile p).length) (h2 : k < l.length), p l[k] = false
 | [], _, _, h2 => by simp at h2
 | a :: l, k, h, h2 => by
  by_cases hp : p a = true
  ·cases k with
   | zero => simp [hp] at h
   | succ k => simp [hp] at h; simpa using tw_eq p l k h (by simpa using h2)
  ·simp [hp] at h; subst h; simpa using hp
theorem tw_le {α : Type} (p : α -> Bool) (l : List α) : (l.takeWhile p).length <= l.length := (List.takeWhile_prefix p).length_le
theorem tw_take {α : Type} (p : α -> Bool) : ∀ (l : List α), l.take (l.takeWhile p).length = l.takeWhile p
 | [] => rfl
 | a :: l => by
  by_cases hp : p a = true
  ·simp [hp, tw_take p l]
  ·simp [hp]
theorem isBlank_u (c : UInt8) (w : World) :
  Calls Tryz.prog 81 #[.int .u8 (c.toNat : Int)] w fun e w' => e = .returned (.bool (blkU c)) /\ w' = w := isBlank_any _ _
theorem u8_ge (c : UInt8) : (0 : Int) <= (c.toNat : Int) := by omega
theorem u8_le (c : UInt8) : (c.toNat : Int) <= 255 := by have := c.toNat_lt; omega
theorem isLetter_u (c : UInt8) (w : World) :
  Calls Tryz.prog 82 #[.int .u8 (c.toNat : Int)] w fun e w' => e = .returned (.bool (letU c)) /\ w' = w := isLetter_any _ _ (u8_ge c) (u8_le c)
theorem isDigit_u (c : UInt8) (w : World) :
  Calls Tryz.prog 85 #[.int .u8 (c.toNat : Int)] w fun e w' => e = .returned (.bool (digU c)) /\ w' = w := isDigit_any _ _ (u8_ge c) (u8_le c)
theorem bext (l : List UInt8) (a b : Nat) : (ByteArray.mk l.toArray).extract a b = ⟨((l.take b).drop a).toArray⟩ := by
 apply ByteArray.ext
 rw [ByteArray.data_extract]
 simp [List.drop_take]
theorem bget (l : List UInt8) (k : Nat) (h : k < l.length) : (ByteArray.mk l.toArray)[k]'(by simpa [ByteArray.size] using h) = l[k] := rfl
theorem leading_letter (l : List UInt8) (w : World) (hs : l.length <= 700) :
  Calls Tryz.prog 84 #[S l, .func (.func 82) #[] #[]] w fun e w' => e = .returned (S (l.takeWhile letU)) /\ w' = w := by
 unfold S
 have hext := bext l
 have hle := tw_le letU l
 go_enter Tryz.func84, Tryz.ntmps84
 go_wp2_with fail
 go_loop [5] (fun n => ∃ k : Nat, k <= (l.takeWhile letU).length /\ n = .int .i64 k) (fun i => 1000 - (intOf i).toNat)
 case atStart => exact ⟨0, Nat.zero_le _, rfl⟩
 case round =>
  obtain ⟨k, hk, rfl⟩ := hrel
  by_cases hlt : k < l.length
  ·have hg := bget l k hlt
   by_cases hq : k < (l.takeWhile letU).length
   ·have hb := tw_lt letU l k hq hlt
    go_wp2_with (go_at_call 82; refine (isLetter_u _ _).mono ?_; rintro e w' ⟨rfl, rfl⟩)
    go_round
    case rel => exact ⟨k + 1, by omega, by go_num⟩
    case measure => simp [intOf]; omega
   ·have hb := tw_eq letU l k (by omega) hlt
    go_wp2_with (go_at_call 82; refine (isLetter_u _ _).mono ?_; rintro e w' ⟨rfl, rfl⟩)
    go_ret
    refine ⟨?_, rfl⟩
    have e : k = (l.takeWhile letU).length := by omega
    rw [<- tw_take letU l, <- e]; rfl
  ·go_wp2_with fail
   go_ret
   refine ⟨?_, rfl⟩
   have e : k = (l.takeWhile letU).length := by omega
   rw [<- tw_take letU l, <- e]; rfl
theorem leading_digit (l : List UInt8) (w : World) (hs : l.length <= 700) :
  Calls Tryz.prog 84 #[S l, .func (.func 85) #[] #[]] w fun e w' => e = .returned (S (l.takeWhile digU)) /\ w' = w := by
 unfold S
 have hext := bext l
 have hle := tw_le digU l
 go_enter Tryz.func84, Tryz.ntmps84
 go_wp2_with fail
 go_loop [5] (fun n => ∃ k : Nat, k <= (l.takeWhile digU).length /\ n = .int .i64 k) (fun i => 1000 - (intOf i).toNat)
 case atStart => exact ⟨0, Nat.zero_le _, rfl⟩
 case round =>
  obtain ⟨k, hk, rfl⟩ := hrel
  by_cases hlt : k < l.length
  ·have hg := bget l k hlt
   by_cases hq : k < (l.takeWhile digU).length
   ·have hb := tw_lt digU l k hq hlt
    go_wp2_with (go_at_call 85; refine (isDigit_u _ _).mono ?_; rintro e w' ⟨rfl, rfl⟩)
    go_round
    case rel => exact ⟨k + 1, by omega, by go_num⟩
    case measure => simp [intOf]; omega
   ·have hb := tw_eq digU l k (by omega) hlt
    go_wp2_with (go_at_call 85; refine (isDigit_u _ _).mono ?_; rintro e w' ⟨rfl, rfl⟩)
    go_ret
    refine ⟨?_, rfl⟩
    have e : k = (l.takeWhile digU).length := by omega
    rw [<- tw_take digU l, <- e]; rfl
  ·go_wp2_with fail
   go_ret
   refine ⟨?_, rfl⟩
   have e : k = (l.takeWhile digU).length := by omega
   rw [<- tw_take digU l, <- e]; rfl
theorem isKeyword_any (l : List UInt8) (w : World) :
  Calls Tryz.prog 114 #[S l] w fun e w' => e = .returned (.bool (kwB l)) /\ w' = w := by
 unfold S
 go_enter Tryz.func114, Tryz.ntmps114
 go_wp2
 all_goals first | (exfalso; simp_all; done) | skip
 all_goals go_ret
 all_goals refine ⟨?_, rfl⟩
 all_goals (simp_all [kwB, kwList]; done)
theorem idx_run (s : ByteArray) (c : Int) (w : World) :
  (callFunc 149 #[.string s, .int .u8 c]).run Tryz.prog w = .ok (.value (.int .i64 (Lib.indexByte s.data.toList c.toNat.toUInt8))) w := by
 rw [run_callFunc_extern Tryz.func149 (by kernel_rfl) (by kernel_rfl) (by kernel_rfl) (e := Extern.BytealgIndexByte.indexByte) (by kernel_rfl), Lib.run_indexByteString]
 rfl
theorem sgn_idx (c : UInt8) : decide (0 <= Lib.indexByte [59, 123, 125, 60] c) = sgnU c := by
 rw [<- Lib.contains_iff_indexByte, Bool.eq_iff_iff]
 simp [sgnU, or_assoc]
theorem isSign_u (c : UInt8) (w : World) :
  Calls Tryz.prog 87 #[.int .u8 (c.toNat : Int)] w fun e w' => e = .returned (.bool (sgnU c)) /\ w' = w := by
 have hi := idx_run
 have hc := sgn_idx c
 have hu : ((c.toNat : Int).toNat.toUInt8) = c := by simp
 go_enter Tryz.func87, Tryz.ntmps87
 go_wp2
 all_goals go_ret
 all_goals exact ⟨by simp [*], rfl⟩
structure Tok where
 kind : Nat
 txt : List UInt8
 pos : Nat
abbrev tokV (t : Tok) : Value := .agg #[.int .i64 t.kind, .string ⟨t.txt.toArray⟩, .int .i64 t.pos]
def wordT (l : List UInt8) (i : Nat) : Tok := if 8 < l.length then ⟨0, [], i⟩ else if kwB l then ⟨4, l, i⟩ else ⟨2, l, i⟩
def digT (l : List UInt8) (i : Nat) : Tok := if 3 < l.length then ⟨0, [], i⟩ else ⟨3, l, i⟩
theorem wordToken_any (l : List UInt8) (i : Nat) (w : World) (hl : l.length <= 700) (_hi : i <= 700) :
  Calls Tryz.prog 83 #[S l, .int .i64 i] w fun e w' => e = .returned (tokV (wordT l i)) /\ Below w.heap.size w w' := by
 unfold S
 by_cases h8 : 8 < l.length
 ·go_enter Tryz.func83, Tryz.ntmps83
  go_wp2
  exact bodyPost_ret (v := .agg #[.int .i64 0, .string ⟨#[]⟩, .int .i64 i]) (by simp [results, Tryz.results83, go_sem]) rfl ⟨by simp [tokV, wordT, h8], (Below.refl _ _).alloc (Nat.le_refl _) _⟩
 ·cases hk : kwB l with
  | true =>
   go_enter Tryz.func83, Tryz.ntmps83
   go_wp2_with (go_at_call 114; refine (isKeyword_any _ _).mono ?_; rintro e w' ⟨rfl, rfl⟩)
   exact bodyPost_ret (v := .agg #[.int .i64 4, .string ⟨l.toArray⟩, .int .i64 i]) (by simp [results, Tryz.results83, go_sem]) rfl ⟨by simp [tokV, wordT, h8, hk], (Below.refl _ _).alloc (Nat.le_refl _) _⟩
  | false =>
   go_enter Tryz.func83, Tryz.ntmps83
   go_wp2_with (go_at_call 114; refine (isKeyword_any _ _).mono ?_; rintro e w' ⟨rfl, rfl⟩)
   exact bodyPost_ret (v := .agg #[.int .i64 2, .string ⟨l.toArray⟩, .int .i64 i]) (by simp [results, Tryz.results83, go_sem]) rfl ⟨by simp [tokV, wordT, h8, hk], (Below.refl _ _).alloc (Nat.le_refl _) _⟩
theorem digitsToken_any (l : List UInt8) (i : Nat) (w : World) (hl : l.length <= 700) :
  Calls Tryz.prog 86 #[S l, .int .i64 i] w fun e w' => e = .returned (tokV (digT l i)) /\ Below w.heap.size w w' := by
 unfold S
 by_cases h8 : 3 < l.length
 ·go_enter Tryz.func86, Tryz.ntmps86
  go_wp2
  exact bodyPost_ret (v := .agg #[.int .i64 0, .string ⟨#[]⟩, .int .i64 i]) (by simp [results, Tryz.results86, go_sem]) rfl ⟨by simp [tokV, digT, h8], (Below.refl _ _).alloc (Nat.le_refl _) _⟩
 ·go_enter Tryz.func86, Tryz.ntmps86
  go_wp2
  exact bodyPost_ret (v := .agg #[.int .i64 3, .string ⟨l.toArray⟩, .int .i64 i]) (by simp [results, Tryz.results86, go_sem]) rfl ⟨by simp [tokV, digT, h8], (Below.refl _ _).alloc (Nat.le_refl _) _⟩
def skip (l : List UInt8) (i : Nat) : Nat := i + ((l.drop i).takeWhile blkU).length
def tokAt (l : List UInt8) (i : Nat) : Tok :=
 match l.drop (skip l i) with
 | [] => ⟨1, [], skip l i⟩
 | c :: r => if letU c then wordT ((c :: r).takeWhile letU) (skip l i) else if digU c then digT ((c :: r).takeWhile digU) (skip l i) else if sgnU c then ⟨4, [c], skip l i⟩ else ⟨0, [], skip l i⟩
theorem skip_ge (l : List UInt8) (i : Nat) : i <= skip l i := Nat.le_add_right _ _
theorem skip_le (l : List UInt8) (i : Nat) (h : i <= l.length) : skip l i <= l.length := by
 have := tw_le blkU (l.drop i); simp at this; unfold skip; omega
theorem skip_lt (l : List UInt8) (i k : Nat) (h1 : i <= k) (h2 : k < skip l i) (h3 : k < l.length) : blkU l[k] = true := by
 have := tw_lt blkU (l.drop i) (k - i) (by unfold skip at h2; omega) (by simp; omega)
 simpa [Nat.add_sub_cancel' h1] using this
theorem skip_at (l : List UInt8) (i : Nat) (h3 : skip l i < l.length) : blkU l[skip l i] = false := by
 have := tw_eq blkU (l.drop i) (skip l i - i) (by unfold skip; omega) (by simp [skip] at *; omega)
 have e : i + (skip l i - i) = skip l i := by have := skip_ge l i; omega
 simpa [e] using this
theorem bcell {W w1 : World} (hb : Below W.heap.size W w1) : (∀ b o, b < W.heap.size -> w1.cell? ⟨b, o, none⟩ = W.cell? ⟨b, o, none⟩) /\ (∀ b o, b < W.heap.size -> w1.frozen? ⟨b, o, none⟩ = W.frozen? ⟨b, o, none⟩) :=
 ⟨fun b o h => hb.cell (p := ⟨b, o, none⟩) h, fun b o h => hb.frozen (p := ⟨b, o, none⟩) h⟩
theorem drop_cons (l : List UInt8) (j : Nat) (h : j < l.length) : l.drop j = l[j] :: l.drop (j + 1) := List.drop_eq_getElem_cons h
theorem tokAt_end (l : List UInt8) (i : Nat) (h : ¬ skip l i < l.length) : tokAt l i = ⟨1, [], skip l i⟩ := by
 unfold tokAt; rw [List.drop_of_length_le (by omega)]
theorem tokAt_word (l : List UInt8) (i : Nat) (h : skip l i < l.length) (h1 : letU l[skip l i] = true) : tokAt l i = wordT ((l.drop (skip l i)).takeWhile letU) (skip l i) := by
 unfold tokAt; rw [drop_cons l _ h]; simp only [h1, if_true]
theorem tokAt_dig (l : List UInt8) (i : Nat) (h : skip l i < l.length) (h1 : letU l[skip l i] = false) (h2 : digU l[skip l i] = true) : tokAt l i = digT ((l.drop (skip l i)).takeWhile digU) (skip l i) := by
 unfold tokAt; rw [drop_cons l _ h]; simp only [h1, h2, if_true, Bool.false_eq_true, if_false]
theorem tokAt_sgn (l : List UInt8) (i : Nat) (h : skip l i < l.length) (h1 : letU l[skip l i] = false) (h2 : digU l[skip l i] = false) (h3 : sgnU l[skip l i] = true) : tokAt l i = ⟨4, [l[skip l i]], skip l i⟩ := by
 unfold tokAt; rw [drop_cons l _ h]; simp only [h1, h2, h3, if_true, Bool.false_eq_true, if_false]
theorem tokAt_none (l : List UInt8) (i : Nat) (h : skip l i < l.length) (h1 : letU l[skip l i] = false) (h2 : digU l[skip l i] = false) (h3 : sgnU l[skip l i] = false) : tokAt l i = ⟨0, [], skip l i⟩ := by
 unfold tokAt; rw [drop_cons l _ h]; simp only [h1, h2, h3, Bool.false_eq_true, if_false]
theorem tk1 (l : List UInt8) (j : Nat) (h : j < l.length) : (l.take (j + 1)).drop j = [l[j]] := by
 rw [List.drop_take, drop_cons l j h, Nat.add_sub_cancel_left]; rfl
theorem tokenAt_any (l : List UInt8) (i : Nat) (w : World) (hl : l.length <= 700) (hi : i <= l.length) :
  Calls Tryz.prog 59 #[S l, .int .i64 i] w fun e w' => e = .returned (tokV (tokAt l i)) /\ Below w.heap.size w w' := by
 unfold S
 have hge := skip_ge l i
 have hle := skip_le l i hi
 have hlt := skip_lt l i
 have hat := skip_at l i
 have HE : Hid (¬ skip l i < l.length -> tokAt l i = ⟨1, [], skip l i⟩) := tokAt_end l i
 have HW : Hid (∀ (h : skip l i < l.length), letU l[skip l i] = true -> tokAt l i = wordT ((l.drop (skip l i)).takeWhile letU) (skip l i)) := tokAt_word l i
 have HD : Hid (∀ (h : skip l i < l.length), letU l[skip l i] = false -> digU l[skip l i] = true -> tokAt l i = digT ((l.drop (skip l i)).takeWhile digU) (skip l i)) := tokAt_dig l i
 have HS : Hid (∀ (h : skip l i < l.length), letU l[skip l i] = false -> digU l[skip l i] = false -> sgnU l[skip l i] = true -> tokAt l i = ⟨4, [l[skip l i]], skip l i⟩) := tokAt_sgn l i
 have HN : Hid (∀ (h : skip l i < l.length), letU l[skip l i] = false -> digU l[skip l i] = false -> sgnU l[skip l i] = false -> tokAt l i = ⟨0, [], skip l i⟩) := tokAt_none l i
 generalize tokAt l i = t at *
 generalize skip l i = j at *
 have hext := bext l
 go_enter Tryz.func59, Tryz.ntmps59
 go_wp2_with fail
 go_loop [1] (fun n => ∃ k : Nat, i <= k /\ k <= j /\ n = .int .i64 k) (fun i => 1000 - (intOf i).toNat)
 case atStart => exact ⟨i, Nat.le_refl _, hge, rfl⟩
 case round =>
  obtain ⟨k, hk1, hk2, rfl⟩ := hrel
  by_cases hkj : k < j
  ·have hkl : k < l.length := by omega
   have hg := bget l k hkl
   have hb := hlt k hk1 hkj hkl
   clear hlt hat
   go_wp2_with (go_at_call 81; refine (isBlank_u _ _).mono ?_; rintro e w' ⟨rfl, rfl⟩)
   go_round
   case rel => exact ⟨k + 1, by omega, by omega, by go_num⟩
   case measure => simp [intOf]; omega
  ·have e : k = j := by omega
   subst e
   by_cases hkl : k < l.length
   ·have hg := bget l k hkl
    have hb := hat hkl
    have htk := tk1 l k hkl
    clear hlt hat
    cases hL : letU l[k] with
    | true =>
     have hdl : (l.drop k).length <= 700 := by simp; omega
     have htl : ((l.drop k).takeWhile letU).length <= 700 := Nat.le_trans (tw_le _ _) hdl
     go_wp2_with (first | (go_at_call 81; refine (isBlank_u _ _).mono ?_; rintro e w' ⟨rfl, rfl⟩) | (go_at_call 82; refine (isLetter_u _ _).mono ?_; rintro e w' ⟨rfl, rfl⟩) | (go_at_call 84; refine (leading_letter _ _ hdl).mono ?_; rintro e w' ⟨rfl, rfl⟩) | (go_at_call 83; refine (wordToken_any _ _ _ htl (by omega)).mono ?_; rintro e w1 ⟨rfl, hb1⟩; obtain ⟨hc, hf⟩ := bcell hb1))
     refine bodyPost_ret (v := tokV (wordT ((l.drop k).takeWhile letU) k)) (by simp [results, Tryz.results59, go_sem, hc]) rfl ⟨by rw [HW.out hkl hL], ?_⟩
     exact (((((Below.refl _ _).alloc (Nat.le_refl _) _).trans (hb1.mono (by simp))).setCell (by simp) _).setCell (by simp) _).setCell (by simp) _
    | false =>
    cases hD : digU l[k] with
    | true =>
     have hdl : (l.drop k).length <= 700 := by simp; omega
     have htl : ((l.drop k).takeWhile digU).length <= 700 := Nat.le_trans (tw_le _ _) hdl
     go_wp2_with (first | (go_at_call 81; refine (isBlank_u _ _).mono ?_; rintro e w' ⟨rfl, rfl⟩) | (go_at_call 82; refine (isLetter_u _ _).mono ?_; rintro e w' ⟨rfl, rfl⟩) | (go_at_call 85; refine (isDigit_u _ _).mono ?_; rintro e w' ⟨rfl, rfl⟩) | (go_at_call 84; refine (leading_digit _ _ hdl).mono ?_; rintro e w' ⟨rfl, rfl⟩) | (go_at_call 86; refine (digitsToken_any _ _ _ htl).mono ?_; rintro e w1 ⟨rfl, hb1⟩; obtain ⟨hc, hf⟩ := bcell hb1))
     refine bodyPost_ret (v := tokV (digT ((l.drop k).takeWhile digU) k)) (by simp [results, Tryz.results59, go_sem, hc]) rfl ⟨by rw [HD.out hkl hL hD], ?_⟩
     exact (((((Below.refl _ _).alloc (Nat.le_refl _) _).trans (hb1.mono (by simp))).setCell (by simp) _).setCell (by simp) _).setCell (by simp) _
    | false =>
     go_wp2_with (first | (go_at_call 81; refine (isBlank_u _ _).mono ?_; rintro e w' ⟨rfl, rfl⟩) | (go_at_call 82; refine (isLetter_u _ _).mono ?_; rintro e w' ⟨rfl, rfl⟩) | (go_at_call 85; refine (isDigit_u _ _).mono ?_; rintro e w' ⟨rfl, rfl⟩) | (go_at_call 87; refine (isSign_u _ _).mono ?_; rintro e w' ⟨rfl, rfl⟩))
     ·exact bodyPost_ret (v := .agg #[.int .i64 4, .string ⟨#[l[k]]⟩, .int .i64 k]) (by simp [results, Tryz.results59, go_sem]) rfl ⟨by rw [HS.out hkl hL hD ‹_›]; simp [tokV], (Below.refl _ _).alloc (Nat.le_refl _) _⟩
     ·exact bodyPost_ret (v := .agg #[.int .i64 0, .string ⟨#[]⟩, .int .i64 k]) (by simp [results, Tryz.results59, go_sem]) rfl ⟨by rw [HN.out hkl hL hD ‹_›]; simp [tokV], (Below.refl _ _).alloc (Nat.le_refl _) _⟩
   ·clear hlt hat
    go_wp2_with fail
    exact bodyPost_ret (v := .agg #[.int .i64 1, .string ⟨#[]⟩, .int .i64 k]) (by simp [results, Tryz.results59, go_sem]) rfl ⟨by rw [HE.out hkl]; simp [tokV], (Below.refl _ _).alloc (Nat.le_refl _) _⟩
structure But (b : Nat) (w w' : World) : Prop where
 os : w'.os = w.os
 tape : w'.tape = w.tape
 output : w'.output = w.output
 size : w.heap.size <= w'.heap.size
 block : ∀ k, k < w.heap.size -> k ≠ b -> w'.heap[k]? = w.heap[k]?
theorem But.refl (b : Nat) (w : World) : But b w w := ⟨rfl, rfl, rfl, Nat.le_refl _, fun _ _ _ => rfl⟩
theorem But.trans {b : Nat} {x y z : World} (h : But b x y) (k : But b y z) : But b x z :=
 ⟨k.os.trans h.os, k.tape.trans h.tape, k.output.trans h.output, Nat.le_trans h.size k.size, fun i hi hn => (k.block i (Nat.lt_of_lt_of_le hi h.size) hn).trans (h.block i hi hn)⟩
theorem But.of_below {b : Nat} {w w' : World} (h : Below w.heap.size w w') : But b w w' :=
 ⟨h.os, h.tape, h.output, h.size, fun i hi _ => h.block i hi⟩
theorem But.drew {b : Nat} {a w : World} (h : But b a w) : But b a w.drew := ⟨h.os, h.tape, h.output, h.size, h.block⟩
theorem But.alloc {b : Nat} {a w : World} (h : But b a w) (o : Obj) : But b a (w.alloc o) :=
 h.trans ⟨rfl, rfl, rfl, by simp, fun k hk _ => Below.heap_alloc _ _ _ hk⟩
theorem But.setCell {b : Nat} {a w : World} (h : But b a w) {p : Addr} (hp : a.heap.size <= p.block \/ p.block = b) (u : Value) : But b a (w.setCell p u) :=
 ⟨h.os, h.tape, h.output, by have := h.size; simpa [World.setCell] using this, fun k hk hn => by
  rw [Below.heap_setCell _ _ _ _ (by rcases hp with hp | hp <;> omega)]; exact h.block k hk hn⟩
def rdObj (l : List UInt8) (t : Tok) (bl lo : Nat) : Obj :=
 .cells #[.string ⟨l.toArray⟩, .int .i64 t.kind, .string ⟨t.txt.toArray⟩, .int .i64 t.pos, .int .i64 bl, .int .i64 lo] 150
def At (w : World) (b : Nat) (l : List UInt8) (t : Tok) (bl lo : Nat) : Prop := w.heap[b]? = some (rdObj l t bl lo)
theorem At.lt {w : World} {b : Nat} {l : List UInt8} {t : Tok} {bl lo : Nat} (h : At w b l t bl lo) : b < w.heap.size := by
 unfold At at h
 exact (Array.getElem?_eq_some_iff.1 h).1
theorem At.cells {w : World} {b : Nat} {l : List UInt8} {t : Tok} {bl lo : Nat} (h : At w b l t bl lo) :
  w.cell? ⟨b, 0, none⟩ = some (.string ⟨l.toArray⟩) /\ w.cell? ⟨b, 1, none⟩ = some (.int .i64 t.kind) /\ w.cell? ⟨b, 2, none⟩ = some (.string ⟨t.txt.toArray⟩) /\
  w.cell? ⟨b, 3, none⟩ = some (.int .i64 t.pos) /\ w.cell? ⟨b, 4, none⟩ = some (.int .i64 bl) /\ w.cell? ⟨b, 5, none⟩ = some (.int .i64 lo) := by
 unfold At rdObj at h
 simp [World.cell?, h]
theorem At.frozen {w : World} {b : Nat} {l : List UInt8} {t : Tok} {bl lo : Nat} (h : At w b l t bl lo) (i : Nat) : w.frozen? ⟨b, i, none⟩ = false := by
 unfold At rdObj at h
 simp [World.frozen?, h]
theorem At.keep {w w' : World} {b : Nat} {l : List UInt8} {t : Tok} {bl lo : Nat} (h : At w b l t bl lo) (hb : Below w.heap.size w w') : At w' b l t bl lo := by
 unfold At at *
 rw [hb.block b (At.lt h)]; exact h
theorem At.drew {w : World} {b : Nat} {l : List UInt8} {t : Tok} {bl lo : Nat} (h : At w b l t bl lo) : At w.drew b l t bl lo := h
theorem At.alloc {w : World} {b : Nat} {l : List UInt8} {t : Tok} {bl lo : Nat} (h : At w b l t bl lo) (o : Obj) : At (w.alloc o) b l t bl lo := by
 unfold At at *
 rw [Below.heap_alloc _ _ _ (At.lt h)]; exact h
theorem At.setOther {w : World} {b : Nat} {l : List UInt8} {t : Tok} {bl lo : Nat} (h : At w b l t bl lo) (p : Addr) (u : Value) (hp : b ≠ p.block) : At (w.setCell p u) b l t bl lo := by
 unfold At at *
 rw [Below.heap_setCell _ _ _ _ hp]; exact h
theorem heap_new {w : World} {o : Obj} {n : Nat} (h : n = w.heap.size) : (w.alloc o).heap[n]? = some o := by
 subst h; show (w.heap.push _)[w.heap.size]? = _; simp
theorem heap_setCell_same (w : World) (b o : Nat) (u : Value) (c : Array Value) (e : TypeId) (h : w.heap[b]? = some (.cells c e)) :
  (w.setCell ⟨b, o, none⟩ u).heap[b]? = some (.cells (c.setIfInBounds o u) e) := by
 simp only [World.setCell, Array.getElem?_modify, h]
 simp
theorem At.put {w : World} {b : Nat} {l : List UInt8} {t : Tok} {bl lo : Nat} (h : At w b l t bl lo) (t' : Tok) :
  At (((w.setCell ⟨b, 1, none⟩ (.int .i64 t'.kind)).setCell ⟨b, 2, none⟩ (.string ⟨t'.txt.toArray⟩)).setCell ⟨b, 3, none⟩ (.int .i64 t'.pos)) b l t' bl lo := by
 unfold At rdObj at *
 rw [heap_setCell_same _ b 3 _ _ _ (heap_setCell_same _ b 2 _ _ _ (heap_setCell_same _ b 1 _ _ _ h))]
 rfl
theorem At.putB {w : World} {b : Nat} {l : List UInt8} {t : Tok} {bl lo : Nat} (h : At w b l t bl lo) (bl' : Nat) : At (w.setCell ⟨b, 4, none⟩ (.int .i64 bl')) b l t bl' lo := by
 unfold At rdObj at *
 rw [heap_setCell_same _ b 4 _ _ _ h]
 rfl
theorem At.putL {w : World} {b : Nat} {l : List UInt8} {t : Tok} {bl lo : Nat} (h : At w b l t bl lo) (lo' : Nat) : At (w.setCell ⟨b, 5, none⟩ (.int .i64 lo')) b l t bl lo' := by
 unfold At rdObj at *
 rw [heap_setCell_same _ b 5 _ _ _ h]
 rfl
theorem leave_any (w : World) (b : Nat) (l : List UInt8) (t : Tok) (bl lo : Nat) (u : TypeId) (a : Value) (h : At w b l t bl lo) :
  Calls Tryz.prog 122 #[.pointer (some ⟨b, 0, none⟩), .iface u a] w fun e w' =>
   e = .panicked [{ v := .iface 96 (.pointer (some ⟨w.heap.size, 0, none⟩)), recovered := false }] /\ w' = w.alloc (.cells #[.iface u a, .int .i64 t.pos] 98) := by
 obtain ⟨c0, c1, c2, c3, c4, c5⟩ := h.cells
 go_enter Tryz.func122, Tryz.ntmps122
 go_wp2
 exact ⟨rfl, rfl, rfl⟩
theorem nx_ok (l : List UInt8) (i : Nat) (h : i <= l.length) : (tokAt l i).pos + (tokAt l i).txt.length <= l.length := by
 have h1 := skip_le l i h
 by_cases hs : skip l i < l.length
 ·have hL := tokAt_word l i hs
  have hD := tokAt_dig l i hs
  have hS := tokAt_sgn l i hs
  have hN := tokAt_none l i hs
  have ha := tw_le letU (l.drop (skip l i))
  have hb := tw_le digU (l.drop (skip l i))
  simp only [List.length_drop] at ha hb
  generalize tokAt l i = t at *
  generalize skip l i = j at *
  cases e1 : letU l[j] with
  | true => rw [hL e1]; unfold wordT; split <;> (try split) <;> simp <;> omega
  | false =>
  cases e2 : digU l[j] with
  | true => rw [hD e1 e2]; unfold digT; split <;> simp <;> omega
  | false =>
  cases e3 : sgnU l[j] with
  | true => rw [hS e1 e2 e3]; simp; omega
  | false => rw [hN e1 e2 e3]; simp; omega
 ·rw [tokAt_end l i hs]; simpa using h1
def nx (l : List UInt8) (t : Tok) : Tok := tokAt l (t.pos + t.txt.length)
theorem step_any (w : World) (b : Nat) (l : List UInt8) (t : Tok) (bl lo : Nat) (h : At w b l t bl lo) (hl : l.length <= 700) (ht : t.pos + t.txt.length <= l.length) :
  Calls Tryz.prog 116 #[.pointer (some ⟨b, 0, none⟩)] w fun e w' => e = .returned (tokV t) /\ At w' b l (nx l t) bl lo /\ But b w w' := by
 obtain ⟨c0, c1, c2, c3, c4, c5⟩ := h.cells
 have hf := h.frozen
 have hlt := h.lt
 go_enter Tryz.func116, Tryz.ntmps116
 go_wp2
 have e1 : IntKind.i64.wrap ((t.pos : Int) + (t.txt.length : Int)) = ((t.pos + t.txt.length : Nat) : Int) := by rw [IntKind.wrap_i64]; omega
 go_region_with (go_at_call 59; refine (tokenAt_any _ _ _ hl ht).mono ?_; rintro e w1 ⟨rfl, hb1⟩; have hA1 := ((h.alloc _).alloc _).drew.keep hb1; obtain ⟨d0, d1, d2, d3, d4, d5⟩ := hA1.cells; have hf1 := hA1.frozen; have g1 := fun o => hb1.cell (p := ⟨w.heap.size, o, none⟩) (by simp; omega); have g2 := fun o => hb1.cell (p := ⟨w.heap.size + 1, o, none⟩) (by simp); have g3 := fun o => hb1.frozen (p := ⟨w.heap.size, o, none⟩) (by simp; omega))
 all_goals go_wp2
 all_goals
  refine bodyPost_ret (v := tokV t) (by simp [results, Tryz.results116, go_sem, g1]) rfl ⟨rfl, ?_, ?_⟩
  ·exact (((hA1.put (tokAt l (t.pos + t.txt.length))).setOther _ _ (by simp; omega)).setOther _ _ (by simp; omega)).setOther _ _ (by simp; omega)
  ·exact (((((((((But.refl b w).alloc _).alloc _).drew.trans (But.of_below hb1)).setCell (Or.inr rfl) _).setCell (Or.inr rfl) _).setCell (Or.inr rfl) _).setCell (Or.inl (Nat.le_refl _)) _).setCell (Or.inl (Nat.le_refl _)) _).setCell (Or.inl (Nat.le_refl _)) _
abbrev ptr (b : Nat) : Value := .pointer (some ⟨b, 0, none⟩)
abbrev PR (α : Type) := Except (Bool × Nat) (α × Tok)
structure Rw (w : World) (b : Nat) (l : List UInt8) (t : Tok) (bl lo : Nat) (X Y : Value) : Prop where
 rd : At w b l t bl lo
 syn : w.cell? ⟨13, 0, none⟩ = some (.iface 278 X)
 deep : w.cell? ⟨2, 0, none⟩ = some (.iface 278 Y)
 nsyn : b ≠ 13
 ndeep : b ≠ 2
 len : l.length <= 700
 tk : ∃ i, i <= l.length /\ t = tokAt l i
theorem But.cell {b : Nat} {w w' : World} (h : But b w w') {k o : Nat} {v : Value} (hc : w.cell? ⟨k, o, none⟩ = some v) (hk : k ≠ b) : w'.cell? ⟨k, o, none⟩ = some v := by
 have hlt : k < w.heap.size := by
  by_cases e : k < w.heap.size
  ·exact e
  ·exfalso; unfold World.cell? at hc; simp [Array.getElem?_eq_none (Nat.le_of_not_lt e)] at hc
 rw [<- hc]
 exact World.cell?_of_block (w := w) (h.block k hlt hk)
theorem Rw.keep {w w' : World} {b : Nat} {l : List UInt8} {t t' : Tok} {bl lo bl' lo' : Nat} {X Y : Value} (h : Rw w b l t bl lo X Y) (hb : But b w w') (ha : At w' b l t' bl' lo') (ht : ∃ i, i <= l.length /\ t' = tokAt l i) : Rw w' b l t' bl' lo' X Y :=
 ⟨ha, hb.cell h.syn (Ne.symm h.nsyn), hb.cell h.deep (Ne.symm h.ndeep), h.nsyn, h.ndeep, h.len, ht⟩
theorem Rw.bnd {w : World} {b : Nat} {l : List UInt8} {t : Tok} {bl lo : Nat} {X Y : Value} (h : Rw w b l t bl lo X Y) : t.pos + t.txt.length <= l.length := by
 obtain ⟨i, hi, rfl⟩ := h.tk; exact nx_ok l i hi
theorem Rw.nxt {w : World} {b : Nat} {l : List UInt8} {t : Tok} {bl lo : Nat} {X Y : Value} (h : Rw w b l t bl lo X Y) : ∃ i, i <= l.length /\ nx l t = tokAt l i := ⟨_, h.bnd, rfl⟩
theorem Rw.alloc {w : World} {b : Nat} {l : List UInt8} {t : Tok} {bl lo : Nat} {X Y : Value} (h : Rw w b l t bl lo X Y) (o : Obj) : Rw (w.alloc o) b l t bl lo X Y := h.keep ((But.refl b w).alloc o) (h.rd.alloc o) h.tk
theorem Rw.drew {w : World} {b : Nat} {l : List UInt8} {t : Tok} {bl lo : Nat} {X Y : Value} (h : Rw w b l t bl lo X Y) : Rw w.drew b l t bl lo X Y := h.keep (But.refl b w).drew h.rd.drew h.tk
theorem Rw.set {w : World} {b : Nat} {l : List UInt8} {t : Tok} {bl lo : Nat} {X Y : Value} (h : Rw w b l t bl lo X Y) {n o : Nat} (hn : n ≠ b) (hs : n ≠ 13) (hd : n ≠ 2) (u : Value) : Rw (w.setCell ⟨n, o, none⟩ u) b l t bl lo X Y :=
 ⟨h.rd.setOther _ _ (Ne.symm hn), (World.cell?_of_block (w := w) (Below.heap_setCell w _ u 13 (Ne.symm hs))).trans h.syn, (World.cell?_of_block (w := w) (Below.heap_setCell w _ u 2 (Ne.symm hd))).trans h.deep, h.nsyn, h.ndeep, h.len, h.tk⟩
theorem Rw.gt {w : World} {b : Nat} {l : List UInt8} {t : Tok} {bl lo : Nat} {X Y : Value} (h : Rw w b l t bl lo X Y) : 13 < w.heap.size /\ 2 < w.heap.size /\ b < w.heap.size := by
 refine ⟨?_, ?_, h.rd.lt⟩
 ·by_cases e : 13 < w.heap.size
  ·exact e
  ·exfalso; have hc := h.syn; unfold World.cell? at hc; simp [Array.getElem?_eq_none (Nat.le_of_not_lt e)] at hc
 ·by_cases e : 2 < w.heap.size
  ·exact e
  ·exfalso; have hc := h.deep; unfold World.cell? at hc; simp [Array.getElem?_eq_none (Nat.le_of_not_lt e)] at hc
theorem But.loc {b : Nat} {W w1 : World} (hb : But b W w1) (n : Nat) (hn : n < W.heap.size) (hne : n ≠ b) :
  (∀ o, w1.cell? ⟨n, o, none⟩ = W.cell? ⟨n, o, none⟩) /\ (∀ o, w1.frozen? ⟨n, o, none⟩ = W.frozen? ⟨n, o, none⟩) :=
 ⟨fun o => World.cell?_of_block (w := W) (a := ⟨n, o, none⟩) (hb.block n hn hne), fun o => World.frozen?_of_block (w := W) (a := ⟨n, o, none⟩) (hb.block n hn hne)⟩
structure RB (w0 w : World) (b : Nat) (l : List UInt8) (t : Tok) (bl lo : Nat) (X Y : Value) : Prop where
 r : Rw w b l t bl lo X Y
 k : But b w0 w
 z : 13 < w0.heap.size /\ 2 < w0.heap.size /\ b < w0.heap.size
theorem RB.refl {w : World} {b : Nat} {l : List UInt8} {t : Tok} {bl lo : Nat} {X Y : Value} (h : Rw w b l t bl lo X Y) : RB w w b l t bl lo X Y := ⟨h, But.refl b w, h.gt⟩
theorem RB.alloc {w0 w : World} {b : Nat} {l : List UInt8} {t : Tok} {bl lo : Nat} {X Y : Value} (h : RB w0 w b l t bl lo X Y) (o : Obj) : RB w0 (w.alloc o) b l t bl lo X Y := ⟨h.r.alloc o, h.k.alloc o, h.z⟩
theorem RB.drew {w0 w : World} {b : Nat} {l : List UInt8} {t : Tok} {bl lo : Nat} {X Y : Value} (h : RB w0 w b l t bl lo X Y) : RB w0 w.drew b l t bl lo X Y := ⟨h.r.drew, h.k.drew, h.z⟩
theorem RB.set {w0 w : World} {b : Nat} {l : List UInt8} {t : Tok} {bl lo : Nat} {X Y : Value} (h : RB w0 w b l t bl lo X Y) {n : Nat} (hn : w0.heap.size <= n) (o : Nat) (u : Value) : RB w0 (w.setCell ⟨n, o, none⟩ u) b l t bl lo X Y :=
 ⟨h.r.set (by have := h.z; omega) (by have := h.z; omega) (by have := h.z; omega) u, h.k.setCell (Or.inl hn) u, h.z⟩
theorem RB.trans {w0 w w' : World} {b : Nat} {l : List UInt8} {t t' : Tok} {bl lo bl' lo' : Nat} {X Y : Value} (h : RB w0 w b l t bl lo X Y) (h' : RB w w' b l t' bl' lo' X Y) : RB w0 w' b l t' bl' lo' X Y :=
 ⟨h'.r, h.k.trans h'.k, h.z⟩
theorem RB.putB {w0 w : World} {b : Nat} {l : List UInt8} {t : Tok} {bl lo : Nat} {X Y : Value} (h : RB w0 w b l t bl lo X Y) (bl' : Nat) : RB w0 (w.setCell ⟨b, 4, none⟩ (.int .i64 bl')) b l t bl' lo X Y :=
 ⟨h.r.keep ((But.refl b w).setCell (Or.inr rfl) _) (h.r.rd.putB bl') h.r.tk, h.k.setCell (Or.inr rfl) _, h.z⟩
theorem RB.putL {w0 w : World} {b : Nat} {l : List UInt8} {t : Tok} {bl lo : Nat} {X Y : Value} (h : RB w0 w b l t bl lo X Y) (lo' : Nat) : RB w0 (w.setCell ⟨b, 5, none⟩ (.int .i64 lo')) b l t bl lo' X Y :=
 ⟨h.r.keep ((But.refl b w).setCell (Or.inr rfl) _) (h.r.rd.putL lo') h.r.tk, h.k.setCell (Or.inr rfl) _, h.z⟩
theorem step_r {w : World} {b : Nat} {l : List UInt8} {t : Tok} {bl lo : Nat} {X Y : Value} (h : Rw w b l t bl lo X Y) :
  Calls Tryz.prog 116 #[ptr b] w fun e w' => e = .returned (tokV t) /\ RB w w' b l (nx l t) bl lo X Y :=
 (step_any w b l t bl lo h.rd h.len h.bnd).mono fun _ _ ⟨e, ha, hb⟩ => ⟨e, h.keep hb ha h.nxt, hb, h.gt⟩
def Flt (w : World) (b : Nat) (Z : Value) (p : Nat) (e : Ending) (w' : World) : Prop :=
 ∃ f, e = .panicked [{ v := .iface 96 (.pointer (some ⟨f, 0, none⟩)), recovered := false }] /\ w'.heap[f]? = some (.cells #[.iface 278 Z, .int .i64 p] 98) /\ w.heap.size <= f /\ But b w w'
theorem Flt.from {w0 w : World} {b : Nat} {Z : Value} {p : Nat} {e : Ending} {w' : World} (h : Flt w b Z p e w') (hb : But b w0 w) : Flt w0 b Z p e w' := by
 obtain ⟨f, h1, h2, h3, h4⟩ := h
 exact ⟨f, h1, h2, Nat.le_trans hb.size h3, hb.trans h4⟩
theorem leave_r {w : World} {b : Nat} {l : List UInt8} {t : Tok} {bl lo : Nat} {X Y : Value} (Z : Value) (h : Rw w b l t bl lo X Y) :
  Calls Tryz.prog 122 #[ptr b, .iface 278 Z] w fun e w' => Flt w b Z t.pos e w' := by
 refine (leave_any w b l t bl lo _ _ h.rd).mono ?_
 rintro e w' ⟨rfl, rfl⟩
 exact ⟨w.heap.size, rfl, heap_new rfl, Nat.le_refl _, (But.refl b w).alloc _⟩
theorem take_yes {w : World} {b : Nat} {l : List UInt8} {t : Tok} {bl lo : Nat} {X Y : Value} (s : List UInt8) (h : Rw w b l t bl lo X Y) (hs : t.txt = s) :
  Calls Tryz.prog 139 #[ptr b, S s] w fun e w' => e = .returned (.bool true) /\ RB w w' b l (nx l t) bl lo X Y := by
 subst hs
 obtain ⟨c0, c1, c2, c3, c4, c5⟩ := h.rd.cells
 go_enter Tryz.func139, Tryz.ntmps139
 go_wp2_with (go_at_call 116; refine (step_r h).mono ?_; rintro e w1 ⟨rfl, hr⟩)
 go_ret
 exact ⟨rfl, hr⟩
theorem take_no {w : World} {b : Nat} {l : List UInt8} {t : Tok} {bl lo : Nat} {X Y : Value} (s : List UInt8) (h : Rw w b l t bl lo X Y) (hs : ¬ t.txt = s) :
  Calls Tryz.prog 139 #[ptr b, S s] w fun e w' => e = .returned (.bool false) /\ w' = w := by
 obtain ⟨c0, c1, c2, c3, c4, c5⟩ := h.rd.cells
 have hq : (t.txt == s) = false := by simpa using hs
 have hq2 : (t.txt != s) = true := by simpa using hs
 go_enter Tryz.func139, Tryz.ntmps139
 go_wp2_with fail
 go_ret
 exact ⟨rfl, rfl⟩
theorem need_yes {w : World} {b : Nat} {l : List UInt8} {t : Tok} {bl lo : Nat} {X Y : Value} (s : List UInt8) (h : Rw w b l t bl lo X Y) (hs : t.txt = s) :
  Calls Tryz.prog 119 #[ptr b, S s] w fun e w' => e = .returned (.tuple #[]) /\ RB w w' b l (nx l t) bl lo X Y := by
 go_enter Tryz.func119, Tryz.ntmps119
 go_wp2_with (go_at_call 139; refine (take_yes s h hs).mono ?_; rintro e w1 ⟨rfl, hr⟩)
 go_end0
 exact ⟨rfl, hr⟩
theorem need_no {w : World} {b : Nat} {l : List UInt8} {t : Tok} {bl lo : Nat} {X Y : Value} (s : List UInt8) (h : Rw w b l t bl lo X Y) (hs : ¬ t.txt = s) :
  Calls Tryz.prog 119 #[ptr b, S s] w fun e w' => Flt w b X t.pos e w' := by
 have hg := h.syn
 go_enter Tryz.func119, Tryz.ntmps119
 go_wp2_with (first | (go_at_call 139; refine (take_no s h hs).mono ?_; rintro e w1 ⟨rfl, rfl⟩) | (go_at_call 122; refine (leave_r X h).mono ?_; rintro e w1 ⟨f, rfl, h2⟩))
 exact ⟨rfl, f, rfl, h2⟩
theorem needKind_yes {w : World} {b : Nat} {l : List UInt8} {t : Tok} {bl lo : Nat} {X Y : Value} (k : Nat) (h : Rw w b l t bl lo X Y) (hs : t.kind = k) :
  Calls Tryz.prog 91 #[ptr b, .int .i64 k] w fun e w' => e = .returned (tokV t) /\ RB w w' b l (nx l t) bl lo X Y := by
 subst hs
 obtain ⟨c0, c1, c2, c3, c4, c5⟩ := h.rd.cells
 have hgt := h.gt
 go_enter Tryz.func91, Tryz.ntmps91
 go_wp2_with (go_at_call 116; refine (step_r (h.alloc _)).mono ?_; rintro e w1 ⟨rfl, hr⟩; obtain ⟨g1, g2⟩ := hr.k.loc w.heap.size (by simp) (by omega))
 exact bodyPost_ret (v := tokV t) (by simp [results, Tryz.results91, go_sem, g1]) rfl ⟨rfl, ((((RB.refl h).alloc _).trans hr).set (Nat.le_refl _) _ _ |>.set (Nat.le_refl _) _ _).set (Nat.le_refl _) _ _⟩
theorem needKind_no {w : World} {b : Nat} {l : List UInt8} {t : Tok} {bl lo : Nat} {X Y : Value} (k : Nat) (h : Rw w b l t bl lo X Y) (hs : ¬ t.kind = k) :
  Calls Tryz.prog 91 #[ptr b, .int .i64 k] w fun e w' => Flt w b X t.pos e w' := by
 obtain ⟨c0, c1, c2, c3, c4, c5⟩ := h.rd.cells
 have hgt := h.gt
 have hg := (h.alloc (.cells #[Value.int IntKind.i64 0, Value.string { data := #[] }, Value.int IntKind.i64 0] 148)).syn
 have hq : ((t.kind : Int) == (k : Int)) = false := by rw [beq_eq_false_iff_ne]; omega
 have hq2 : ((t.kind : Int) != (k : Int)) = true := by rw [bne_iff_ne]; omega
 go_enter Tryz.func91, Tryz.ntmps91
 go_wp2_with (go_at_call 122; refine (leave_r X (h.alloc _)).mono ?_; rintro e w1 h3; obtain ⟨f, rfl, h2⟩ := h3.from ((But.refl b w).alloc _); clear h3)
 exact ⟨rfl, f, rfl, h2⟩
abbrev nameV (t : Tok) : Value := .agg #[.string ⟨t.txt.toArray⟩, .int .i64 t.pos]
theorem name_yes {w : World} {b : Nat} {l : List UInt8} {t : Tok} {bl lo : Nat} {X Y : Value} (h : Rw w b l t bl lo X Y) (hs : t.kind = 2) :
  Calls Tryz.prog 117 #[ptr b] w fun e w' => e = .returned (nameV t) /\ RB w w' b l (nx l t) bl lo X Y := by
 have hgt := h.gt
 go_enter Tryz.func117, Tryz.ntmps117
 go_wp2_with (go_at_call 91; refine (needKind_yes 2 (h.alloc _) hs).mono ?_; rintro e w1 ⟨rfl, hr⟩; obtain ⟨g1, g2⟩ := hr.k.loc w.heap.size (by simp) (by omega); have hz : w.heap.size < w1.heap.size := by have := hr.k.size; simp at this; omega)
 exact bodyPost_ret (v := nameV t) (by simp [results, Tryz.results117, go_sem, g1, hz]) rfl ⟨rfl, by
  have H0 := ((RB.refl h).alloc _).trans hr
  repeat (first | exact H0 | refine RB.alloc ?_ _ | refine RB.set ?_ (Nat.le_refl _) _ _ | refine RB.drew ?_)⟩
theorem name_no {w : World} {b : Nat} {l : List UInt8} {t : Tok} {bl lo : Nat} {X Y : Value} (h : Rw w b l t bl lo X Y) (hs : ¬ t.kind = 2) :
  Calls Tryz.prog 117 #[ptr b] w fun e w' => Flt w b X t.pos e w' := by
 go_enter Tryz.func117, Tryz.ntmps117
 go_wp2_with (go_at_call 91; refine (needKind_no 2 (h.alloc _) hs).mono ?_; rintro e w1 h3; obtain ⟨f, rfl, h2⟩ := h3.from ((But.refl b w).alloc _); clear h3)
 exact ⟨rfl, f, rfl, h2⟩
def numL : List UInt8 -> Nat -> Nat
 | [], n => n
 | c :: r, n => numL r (n * 10 + (c.toNat - 48))
abbrev numV (t : Tok) : Value := .agg #[.int .i64 (numL t.txt 0 : Nat), .int .i64 t.pos]
theorem number_no {w : World} {b : Nat} {l : List UInt8} {t : Tok} {bl lo : Nat} {X Y : Value} (h : Rw w b l t bl lo X Y) (hs : ¬ t.kind = 3) :
  Calls Tryz.prog 118 #[ptr b] w fun e w' => Flt w b X t.pos e w' := by
 go_enter Tryz.func118, Tryz.ntmps118
 go_wp2_with (go_at_call 91; refine (needKind_no 3 (h.alloc _) hs).mono ?_; rintro e w1 h3; obtain ⟨f, rfl, h2⟩ := h3.from ((But.refl b w).alloc _); clear h3)
 exact ⟨rfl, f, rfl, h2⟩
theorem tk3 (l : List UInt8) (i : Nat) (_h : i <= l.length) (hk : (tokAt l i).kind = 3) : (tokAt l i).txt.length <= 3 /\ ∀ c ∈ (tokAt l i).txt, digU c = true := by
 by_cases hs : skip l i < l.length
 ·have hL := tokAt_word l i hs
  have hD := tokAt_dig l i hs
  have hS := tokAt_sgn l i hs
  have hN := tokAt_none l i hs
  generalize tokAt l i = t at *
  generalize skip l i = j at *
  cases e1 : letU l[j] with
  | true => rw [hL e1] at hk ⊢; exfalso; revert hk; unfold wordT; split <;> (try split) <;> simp
  | false =>
  cases e2 : digU l[j] with
  | true =>
   rw [hD e1 e2] at hk ⊢
   unfold digT at *
   split at hk
   ·simp at hk
   ·rename_i hn
    rw [if_neg hn]
    exact ⟨by simpa using hn, fun c hc => List.all_eq_true.1 List.all_takeWhile c hc⟩
  | false =>
  cases e3 : sgnU l[j] with
  | true => rw [hS e1 e2 e3] at hk; simp at hk
  | false => rw [hN e1 e2 e3] at hk; simp at hk
 ·rw [tokAt_end l i hs] at hk; simp at hk
theorem numL_snoc : ∀ (x : List UInt8) (c : UInt8) (n : Nat), numL (x ++ [c]) n = numL x n * 10 + (c.toNat - 48)
 | [], _, _ => rfl
 | _ :: x, c, _ => numL_snoc x c _
theorem digU_bd (c : UInt8) (h : digU c = true) : 48 <= c.toNat /\ c.toNat <= 57 := by
 simp [digU, digitB] at h; omega
theorem numL_lt : ∀ (x : List UInt8) (n : Nat), (∀ c ∈ x, digU c = true) -> numL x n < (n + 1) * 10 ^ x.length
 | [], n, _ => by simp [numL]
 | c :: x, n, h => by
  have hc := digU_bd c (h c (by simp))
  have := numL_lt x (n * 10 + (c.toNat - 48)) (fun d hd => h d (by simp [hd]))
  simp only [numL, List.length_cons]
  refine Nat.lt_of_lt_of_le this ?_
  rw [Nat.pow_succ, <- Nat.mul_assoc, Nat.mul_right_comm]
  apply Nat.mul_le_mul_right
  omega
theorem num_bd (x : List UInt8) (h : ∀ c ∈ x, digU c = true) (hl : x.length <= 3) : numL x 0 <= 999 := by
 have := numL_lt x 0 h
 have h2 : 10 ^ x.length <= 10 ^ 3 := Nat.pow_le_pow_right (by omega) hl
 omega
theorem num_take (x : List UInt8) (k : Nat) (hk : k < x.length) : numL (x.take (k + 1)) 0 = numL (x.take k) 0 * 10 + (x[k].toNat - 48) := by
 rw [List.take_succ_eq_append_getElem hk, numL_snoc]
theorem number_yes {w : World} {b : Nat} {l : List UInt8} {t : Tok} {bl lo : Nat} {X Y : Value} (h : Rw w b l t bl lo X Y) (hs : t.kind = 3) :
  Calls Tryz.prog 118 #[ptr b] w fun e w' => e = .returned (numV t) /\ RB w w' b l (nx l t) bl lo X Y := by
 have hgt := h.gt
 have htk : t.txt.length <= 3 /\ ∀ c ∈ t.txt, digU c = true := by obtain ⟨i, hi, rfl⟩ := h.tk; exact tk3 l i hi hs
 obtain ⟨hl3, hdig⟩ := htk
 have HD : Hid (∀ c ∈ t.txt, digU c = true) := hdig
 clear hdig
 go_enter Tryz.func118, Tryz.ntmps118
 go_wp2_with (go_at_call 91; refine (needKind_yes 3 (h.alloc _) hs).mono ?_; rintro e w1 ⟨rfl, hr⟩; obtain ⟨g1, g2⟩ := hr.k.loc w.heap.size (by simp) (by omega); have hz : w.heap.size < w1.heap.size := by have := hr.k.size; simp at this; omega)
 have H0 := ((RB.refl h).alloc _).trans hr
 have hnb := num_bd t.txt HD.out hl3
 go_loopw [14] (fun i wr => ∃ k : Nat, k <= t.txt.length /\ i = .int .i64 k /\ RB w wr b l (nx l t) bl lo X Y /\ wr.heap[w1.heap.size]? = some (.cells #[.int .i64 3, .string ⟨t.txt.toArray⟩, .int .i64 t.pos] 148) /\ wr.heap[w1.heap.size + 1]? = some (.cells #[.int .i64 (numL (t.txt.take k) 0 : Nat), .int .i64 t.pos] 118) /\ wr.heap[w.heap.size]? = some (.cells #[.int .i64 0, .int .i64 0] 118)) (fun i _ => 10 - (intOf i).toNat)
 case atStart =>
  refine ⟨0, Nat.zero_le _, rfl, ?_, ?_, ?_, ?_⟩
  ·repeat (first | exact H0 | refine RB.alloc ?_ _)
  ·rw [Below.heap_alloc _ _ _ (by simp)]; exact heap_new rfl
  ·exact heap_new (by simp)
  ·rw [Below.heap_alloc _ _ _ (by simp; omega), Below.heap_alloc _ _ _ (by omega), hr.k.block _ (by simp) (by omega)]; exact heap_new rfl
 case round =>
  obtain ⟨k, hk, rfl, hR, hT, hN, hO⟩ := hrel
  have t0 : wr.cell? ⟨w1.heap.size, 1, none⟩ = some (.string ⟨t.txt.toArray⟩) := by simp [World.cell?, hT]
  have n0 : wr.cell? ⟨w1.heap.size + 1, 0, none⟩ = some (.int .i64 (numL (t.txt.take k) 0 : Nat)) := by simp [World.cell?, hN]
  have n1 : wr.cell? ⟨w1.heap.size + 1, 1, none⟩ = some (.int .i64 t.pos) := by simp [World.cell?, hN]
  have nf : ∀ o, wr.frozen? ⟨w1.heap.size + 1, o, none⟩ = false := by intro o; simp [World.frozen?, hN]
  have o0 : wr.cell? ⟨w.heap.size, 0, none⟩ = some (.int .i64 0) := by simp [World.cell?, hO]
  have o1 : wr.cell? ⟨w.heap.size, 1, none⟩ = some (.int .i64 0) := by simp [World.cell?, hO]
  have of : ∀ o, wr.frozen? ⟨w.heap.size, o, none⟩ = false := by intro o; simp [World.frozen?, hO]
  by_cases hlt : k < t.txt.length
  ·have hg := bget t.txt k hlt
   have hdb := digU_bd t.txt[k] (HD.out _ (List.getElem_mem _))
   have HS : Hid (numL (t.txt.take (k + 1)) 0 = numL (t.txt.take k) 0 * 10 + (t.txt[k].toNat - 48)) := num_take _ _ hlt
   have hkb := num_bd (t.txt.take k) (fun c hc => HD.out c (List.mem_of_mem_take hc)) (by simp; omega)
   have a1 : IntKind.i64.wrap ((numL (t.txt.take k) 0 : Int) * 10) = (numL (t.txt.take k) 0 : Int) * 10 := by rw [IntKind.wrap_i64]; omega
   have a2 : IntKind.u8.wrap ((t.txt[k].toNat : Int) - 48) = (t.txt[k].toNat : Int) - 48 := by rw [IntKind.wrap_u8]; omega
   have a3 : IntKind.i64.wrap ((t.txt[k].toNat : Int) - 48) = (t.txt[k].toNat : Int) - 48 := by rw [IntKind.wrap_i64]; omega
   have a4 : IntKind.i64.wrap ((numL (t.txt.take k) 0 : Int) * 10 + ((t.txt[k].toNat : Int) - 48)) = (numL (t.txt.take k) 0 : Int) * 10 + ((t.txt[k].toNat : Int) - 48) := by rw [IntKind.wrap_i64]; omega
   go_wp2_with fail
   go_region
   all_goals go_wp2_with fail
   go_roundw
   case rel =>
    have hv : ((numL (t.txt.take k) 0 : Int) * 10 + ((t.txt[k].toNat : Int) - 48)) = ((numL (t.txt.take (k + 1)) 0 : Nat) : Int) := by rw [HS.out]; omega
    rw [hv]
    refine ⟨k + 1, by omega, by go_num, (hR.set (by omega) _ _).drew, ?_, ?_, ?_⟩
    ·exact (Below.heap_setCell _ _ _ _ (by simp)).trans hT
    ·exact (heap_setCell_same _ _ _ _ _ _ hN).trans rfl
    ·exact (Below.heap_setCell _ _ _ _ (by simp; omega)).trans hO
   case measure => simp [intOf]; omega
  ·go_wp2_with fail
   have e : k = t.txt.length := by omega
   refine bodyPost_ret (v := .agg #[.int .i64 (numL (t.txt.take k) 0 : Nat), .int .i64 t.pos]) (by simp [results, Tryz.results118, go_sem, o0, o1]) rfl ⟨?_, (hR.set (Nat.le_refl _) _ _).set (Nat.le_refl _) _ _⟩
   rw [e, List.take_length]
theorem event_miss {w : World} {b : Nat} {l : List UInt8} {t : Tok} {bl lo : Nat} {X Y : Value} (h : Rw w b l t bl lo X Y) (hs : t.txt = [109, 105, 115, 115]) :
  Calls Tryz.prog 120 #[ptr b] w fun e w' => e = .returned (nameV t) /\ RB w w' b l (nx l t) bl lo X Y := by
 obtain ⟨c0, c1, c2, c3, c4, c5⟩ := h.rd.cells
 have hgt := h.gt
 go_enter Tryz.func120, Tryz.ntmps120
 go_wp2_with (go_at_call 139; refine (take_yes [109, 105, 115, 115] (h.alloc _) hs).mono ?_; rintro e w1 ⟨rfl, hr⟩; obtain ⟨g1, g2⟩ := hr.k.loc w.heap.size (by simp) (by omega); have hz : w.heap.size < w1.heap.size := by have := hr.k.size; simp at this; omega)
 have H0 := ((RB.refl h).alloc _).trans hr
 refine bodyPost_ret (v := nameV t) (by simp [results, Tryz.results120, go_sem, g1, hs]) rfl ⟨rfl, ?_⟩
 repeat (first | exact H0 | refine RB.alloc ?_ _ | refine RB.set ?_ (Nat.le_refl _) _ _ | refine RB.drew ?_)
theorem event_name {w : World} {b : Nat} {l : List UInt8} {t : Tok} {bl lo : Nat} {X Y : Value} (h : Rw w b l t bl lo X Y) (hs : ¬ t.txt = [109, 105, 115, 115]) (hk : t.kind = 2) :
  Calls Tryz.prog 120 #[ptr b] w fun e w' => e = .returned (nameV t) /\ RB w w' b l (nx l t) bl lo X Y := by
 obtain ⟨c0, c1, c2, c3, c4, c5⟩ := h.rd.cells
 have hgt := h.gt
 go_enter Tryz.func120, Tryz.ntmps120
 go_wp2_with (first | (go_at_call 139; refine (take_no [109, 105, 115, 115] (h.alloc _) hs).mono ?_; rintro e w1 ⟨rfl, rfl⟩) | (go_at_call 117; refine (name_yes (h.alloc _) hk).mono ?_; rintro e w1 ⟨rfl, hr⟩; obtain ⟨g1, g2⟩ := hr.k.loc w.heap.size (by simp) (by omega); have hz : w.heap.size < w1.heap.size := by have := hr.k.size; simp at this; omega))
 have H0 := ((RB.refl h).alloc _).trans hr
 refine bodyPost_ret (v := nameV t) (by simp [results, Tryz.results120, go_sem, g1]) rfl ⟨rfl, ?_⟩
 repeat (first | exact H0 | refine RB.alloc ?_ _ | refine RB.set ?_ (Nat.le_refl _) _ _ | refine RB.drew ?_)
theorem event_no {w : World} {b : Nat} {l : List UInt8} {t : Tok} {bl lo : Nat} {X Y : Value} (h : Rw w b l t bl lo X Y) (hs : ¬ t.txt = [109, 105, 115, 115]) (hk : ¬ t.kind = 2) :
  Calls Tryz.prog 120 #[ptr b] w fun e w' => Flt w b X t.pos e w' := by
 obtain ⟨c0, c1, c2, c3, c4, c5⟩ := h.rd.cells
 have hgt := h.gt
 go_enter Tryz.func120, Tryz.ntmps120
 go_wp2_with (first | (go_at_call 139; refine (take_no [109, 105, 115, 115] (h.alloc _) hs).mono ?_; rintro e w1 ⟨rfl, rfl⟩) | (go_at_call 117; refine (name_no (h.alloc _) hk).mono ?_; rintro e w1 h3; obtain ⟨f, rfl, h2⟩ := h3.from ((But.refl b w).alloc _); clear h3))
 exact ⟨rfl, f, rfl, h2⟩
def declB (s : List UInt8) : Bool := s == [113, 117, 101, 117, 101] || s == [103, 104, 111, 115, 116] || s == [118, 97, 114] || s == [102, 114, 101, 113]
theorem isDecl_any {w : World} {b : Nat} {l : List UInt8} {t : Tok} {bl lo : Nat} {X Y : Value} (h : Rw w b l t bl lo X Y) :
  Calls Tryz.prog 88 #[ptr b] w fun e w' => e = .returned (.bool (declB t.txt)) /\ w' = w := by
 obtain ⟨c0, c1, c2, c3, c4, c5⟩ := h.rd.cells
 clear h
 go_enter Tryz.func88, Tryz.ntmps88
 go_wp2
 all_goals first | (exfalso; simp_all; done) | skip
 all_goals go_ret
 all_goals refine ⟨?_, rfl⟩
 all_goals (simp_all [declB]; done)
abbrev NP := List UInt8 × Nat
structure Vl where
 kind : Nat
 name : NP
 num : Nat × Nat
def np (t : Tok) : NP := (t.txt, t.pos)
abbrev vlV (v : Vl) : Value := .agg #[.int .i64 v.kind, .string ⟨v.name.1.toArray⟩, .int .i64 v.name.2, .int .i64 v.num.1, .int .i64 v.num.2]
def nameS (l : List UInt8) (t : Tok) : PR NP := if t.kind = 2 then .ok (np t, nx l t) else .error (false, t.pos)
def needS (s : List UInt8) (l : List UInt8) (t : Tok) : PR Unit := if t.txt = s then .ok ((), nx l t) else .error (false, t.pos)
def numS (l : List UInt8) (t : Tok) : PR (Nat × Nat) := if t.kind = 3 then .ok ((numL t.txt 0, t.pos), nx l t) else .error (false, t.pos)
def valueS (l : List UInt8) (t : Tok) : PR Vl :=
 if t.txt = [108, 101, 110] then (if (nx l t).kind = 2 then .ok (⟨2, np (nx l t), (0, 0)⟩, nx l (nx l t)) else .error (false, (nx l t).pos))
 else if t.txt = [102, 114, 101, 113] then .ok (⟨3, ([], 0), (0, 0)⟩, nx l t)
 else if t.kind = 2 then .ok (⟨1, np t, (0, 0)⟩, nx l t)
 else if t.kind = 3 then .ok (⟨0, ([], 0), (numL t.txt 0, t.pos)⟩, nx l t)
 else .error (false, t.pos)
def Out {α : Type} (w : World) (b : Nat) (l : List UInt8) (bl lo : Nat) (X Y : Value) (enc : α -> Value) (r : PR α) (e : Ending) (w' : World) : Prop :=
 match r with
 | .ok (x, t') => e = .returned (enc x) /\ RB w w' b l t' bl lo X Y
 | .error (d, p) => Flt w b (if d then Y else X) p e w'
theorem value_any {w : World} {b : Nat} {l : List UInt8} {t : Tok} {bl lo : Nat} {X Y : Value} (h : Rw w b l t bl lo X Y) :
  Calls Tryz.prog 162 #[ptr b] w fun e w' => Out w b l bl lo X Y vlV (valueS l t) e w' := by
 have hgt := h.gt
 obtain ⟨c0, c1, c2, c3, c4, c5⟩ := h.rd.cells
 unfold valueS
 by_cases h1 : t.txt = [108, 101, 110]
 ·rw [if_pos h1]
  by_cases h2 : (nx l t).kind = 2
  ·rw [if_pos h2]
   go_enter Tryz.func162, Tryz.ntmps162
   go_wp2_with (first | (go_at_call_of 139 (Value.string { data := #[108, 101, 110] }); refine (take_yes [108, 101, 110] (h.alloc _) h1).mono ?_; rintro e w1 ⟨rfl, hr⟩; obtain ⟨pc, pf⟩ := hr.k.loc (w.heap.size) (by first | omega | (simp; done) | (simp; omega)) (by omega); have pb := hr.k.block (w.heap.size) (by first | omega | (simp; done) | (simp; omega)) (by omega); have pz : w.heap.size < w1.heap.size := Nat.lt_of_lt_of_le (by first | omega | (simp; done) | (simp; omega)) hr.k.size) | (go_at_call 117; refine (name_yes hr.r h2).mono ?_; rintro e w2 ⟨rfl, hr2⟩; obtain ⟨qc, qf⟩ := hr2.k.loc (w.heap.size) (by first | omega | (simp; done) | (simp; omega)) (by omega); have qb := hr2.k.block (w.heap.size) (by first | omega | (simp; done) | (simp; omega)) (by omega); have qz : w.heap.size < w2.heap.size := Nat.lt_of_lt_of_le (by first | omega | (simp; done) | (simp; omega)) hr2.k.size))
   have H0 := (((RB.refl h).alloc _).trans hr).trans hr2
   refine bodyPost_ret (v := vlV ⟨2, np (nx l t), (0, 0)⟩) (by simp [results, Tryz.results162, go_sem, qc, pc, np]) rfl ⟨rfl, ?_⟩
   repeat (first | refine RB.set ?_ (by first | exact Nat.le_refl _ | omega | (simp; omega)) _ _ | refine RB.alloc ?_ _ | refine RB.drew ?_ | exact H0)
  ·rw [if_neg h2]
   go_enter Tryz.func162, Tryz.ntmps162
   go_wp2_with (first | (go_at_call_of 139 (Value.string { data := #[108, 101, 110] }); refine (take_yes [108, 101, 110] (h.alloc _) h1).mono ?_; rintro e w1 ⟨rfl, hr⟩; obtain ⟨pc, pf⟩ := hr.k.loc (w.heap.size) (by first | omega | (simp; done) | (simp; omega)) (by omega); have pb := hr.k.block (w.heap.size) (by first | omega | (simp; done) | (simp; omega)) (by omega); have pz : w.heap.size < w1.heap.size := Nat.lt_of_lt_of_le (by first | omega | (simp; done) | (simp; omega)) hr.k.size) | (go_at_call 117; refine (name_no hr.r h2).mono ?_; rintro e we h3; obtain ⟨f, rfl, h2⟩ := h3.from (((RB.refl h).alloc _).trans hr).k; clear h3))
   exact ⟨rfl, f, rfl, h2⟩
 ·rw [if_neg h1]
  by_cases h2 : t.txt = [102, 114, 101, 113]
  ·rw [if_pos h2]
   go_enter Tryz.func162, Tryz.ntmps162
   go_wp2_with (first | (go_at_call_of 139 (Value.string { data := #[108, 101, 110] }); refine (take_no [108, 101, 110] (h.alloc _) h1).mono ?_; rintro e w' ⟨rfl, rfl⟩) | (go_at_call_of 139 (Value.string { data := #[102, 114, 101, 113] }); refine (take_yes [102, 114, 101, 113] (h.alloc _) h2).mono ?_; rintro e w1 ⟨rfl, hr⟩; obtain ⟨pc, pf⟩ := hr.k.loc (w.heap.size) (by first | omega | (simp; done) | (simp; omega)) (by omega); have pb := hr.k.block (w.heap.size) (by first | omega | (simp; done) | (simp; omega)) (by omega); have pz : w.heap.size < w1.heap.size := Nat.lt_of_lt_of_le (by first | omega | (simp; done) | (simp; omega)) hr.k.size))
   have H0 := ((RB.refl h).alloc _).trans hr
   refine bodyPost_ret (v := vlV ⟨3, ([], 0), (0, 0)⟩) (by simp [results, Tryz.results162, go_sem, pc]) rfl ⟨rfl, ?_⟩
   repeat (first | refine RB.set ?_ (by first | exact Nat.le_refl _ | omega | (simp; omega)) _ _ | refine RB.alloc ?_ _ | refine RB.drew ?_ | exact H0)
  ·rw [if_neg h2]
   by_cases h3 : t.kind = 2
   ·rw [if_pos h3]
    go_enter Tryz.func162, Tryz.ntmps162
    go_wp2_with (first | (go_at_call_of 139 (Value.string { data := #[108, 101, 110] }); refine (take_no [108, 101, 110] (h.alloc _) h1).mono ?_; rintro e w' ⟨rfl, rfl⟩) | (go_at_call_of 139 (Value.string { data := #[102, 114, 101, 113] }); refine (take_no [102, 114, 101, 113] (h.alloc _) h2).mono ?_; rintro e w' ⟨rfl, rfl⟩) | (go_at_call 117; refine (name_yes (h.alloc _) h3).mono ?_; rintro e w2 ⟨rfl, hr⟩; obtain ⟨pc, pf⟩ := hr.k.loc (w.heap.size) (by first | omega | (simp; done) | (simp; omega)) (by omega); have pb := hr.k.block (w.heap.size) (by first | omega | (simp; done) | (simp; omega)) (by omega); have pz : w.heap.size < w2.heap.size := Nat.lt_of_lt_of_le (by first | omega | (simp; done) | (simp; omega)) hr.k.size))
    have H0 := ((RB.refl h).alloc _).trans hr
    refine bodyPost_ret (v := vlV ⟨1, np t, (0, 0)⟩) (by simp [results, Tryz.results162, go_sem, pc, np]) rfl ⟨rfl, ?_⟩
    repeat (first | refine RB.set ?_ (by first | exact Nat.le_refl _ | omega | (simp; omega)) _ _ | refine RB.alloc ?_ _ | refine RB.drew ?_ | exact H0)
   ·rw [if_neg h3]
    have hq : ((t.kind : Int) == 2) = false := by rw [beq_eq_false_iff_ne]; omega
    by_cases h4 : t.kind = 3
    ·rw [if_pos h4]
     go_enter Tryz.func162, Tryz.ntmps162
     go_wp2_with (first | (go_at_call_of 139 (Value.string { data := #[108, 101, 110] }); refine (take_no [108, 101, 110] (h.alloc _) h1).mono ?_; rintro e w' ⟨rfl, rfl⟩) | (go_at_call_of 139 (Value.string { data := #[102, 114, 101, 113] }); refine (take_no [102, 114, 101, 113] (h.alloc _) h2).mono ?_; rintro e w' ⟨rfl, rfl⟩) | (go_at_call 118; refine (number_yes (h.alloc _) h4).mono ?_; rintro e w2 ⟨rfl, hr⟩; obtain ⟨pc, pf⟩ := hr.k.loc (w.heap.size) (by first | omega | (simp; done) | (simp; omega)) (by omega); have pb := hr.k.block (w.heap.size) (by first | omega | (simp; done) | (simp; omega)) (by omega); have pz : w.heap.size < w2.heap.size := Nat.lt_of_lt_of_le (by first | omega | (simp; done) | (simp; omega)) hr.k.size))
     have H0 := ((RB.refl h).alloc _).trans hr
     refine bodyPost_ret (v := vlV ⟨0, ([], 0), (numL t.txt 0, t.pos)⟩) (by simp [results, Tryz.results162, go_sem, pc]) rfl ⟨rfl, ?_⟩
     repeat (first | refine RB.set ?_ (by first | exact Nat.le_refl _ | omega | (simp; omega)) _ _ | refine RB.alloc ?_ _ | refine RB.drew ?_ | exact H0)
    ·rw [if_neg h4]
     go_enter Tryz.func162, Tryz.ntmps162
     go_wp2_with (first | (go_at_call_of 139 (Value.string { data := #[108, 101, 110] }); refine (take_no [108, 101, 110] (h.alloc _) h1).mono ?_; rintro e w' ⟨rfl, rfl⟩) | (go_at_call_of 139 (Value.string { data := #[102, 114, 101, 113] }); refine (take_no [102, 114, 101, 113] (h.alloc _) h2).mono ?_; rintro e w' ⟨rfl, rfl⟩) | (go_at_call 118; refine (number_no (h.alloc _) h4).mono ?_; rintro e we h3; obtain ⟨f, rfl, h2⟩ := h3.from ((But.refl b w).alloc _); clear h3))
     exact ⟨rfl, f, rfl, h2⟩
theorem At.setRow {w : World} {b : Nat} {l : List UInt8} {t : Tok} {bl lo : Nat} (h : At w b l t bl lo) (g : Nat) (cs : Array Value) (hp : b ≠ g) : At (w.setRow g cs) b l t bl lo := by
 unfold At at *
 rw [setRow_other _ _ _ _ hp]; exact h
theorem But.setRow {b : Nat} {a w : World} (h : But b a w) {g : Nat} (hp : a.heap.size <= g) (cs : Array Value) : But b a (w.setRow g cs) :=
 ⟨h.os, h.tape, h.output, by have := h.size; simpa [World.setRow] using this, fun k hk hn => by
  rw [setRow_other _ _ _ _ (by omega)]; exact h.block k hk hn⟩
theorem RB.setRow {w0 w : World} {b : Nat} {l : List UInt8} {t : Tok} {bl lo : Nat} {X Y : Value} (h : RB w0 w b l t bl lo X Y) {g : Nat} (hn : w0.heap.size <= g) (cs : Array Value) : RB w0 (w.setRow g cs) b l t bl lo X Y := by
 have hz := h.z
 refine ⟨⟨h.r.rd.setRow _ _ (by omega), ?_, ?_, h.r.nsyn, h.r.ndeep, h.r.len, h.r.tk⟩, h.k.setRow hn cs, h.z⟩
 ·exact (World.cell?_of_block (w := w) (setRow_other w g _ cs (by show 13 ≠ g; omega))).trans h.r.syn
 ·exact (World.cell?_of_block (w := w) (setRow_other w g _ cs (by show 2 ≠ g; omega))).trans h.r.deep
theorem res_cell {P : Program} {fn : Func} {p : Tmp} {ty : TypeId} (h : fn.results = #[.cell p ty]) (tmps : Array Value) (w : World) (g : Nat) (cs : Array Value) (t : TypeId) (d : TypeDesc)
  (hp : tmps.getD p undef = .pointer (some ⟨g, 0, none⟩)) (hg : w.heap[g]? = some (.cells cs t)) (hu : P.underlying ty = some d) (hd : (match d with | .struct _ | .array _ _ => true | _ => false) = true) (hi : (P.info? ty).map (·.size) = some cs.size) :
  (results fn tmps).run P w = .ok (.agg cs) w := by
 have hl := run_loadVar_row (P := P) w g t ty cs (0, 0) d hg hu (by cases d <;> simp_all) hi
 have hp2 : tmps[p]?.getD undef = .pointer (some ⟨g, 0, none⟩) := by simpa using hp
 simp only [results, h]
 simp [hp2, asAddr, hl]
theorem bodyPost_cell {P : Program} {fn : Func} {R : Ending -> World -> Prop} {a : Act} {w : World} {p : Tmp} {ty : TypeId} (h : fn.results = #[.cell p ty]) (g : Nat) (cs : Array Value) (t : TypeId) (d : TypeDesc)
  (hp : a.tmps.getD p undef = .pointer (some ⟨g, 0, none⟩)) (hde : a.defers = []) (hg : w.heap[g]? = some (.cells cs t)) (hu : P.underlying ty = some d) (hd : (match d with | .struct _ | .array _ _ => true | _ => false) = true) (hi : (P.info? ty).map (·.size) = some cs.size)
  (hR : R (.returned (.agg cs)) w) : bodyPost P fn R .ret a w :=
 ⟨hde, _, res_cell h a.tmps w g cs t d hp hg hu (by cases d <;> simp_all) hi, hR⟩
def setAll (n : Nat) : List Value -> Nat -> World -> World
 | [], _, w => w
 | v :: vs, i, w => setAll n vs (i + 1) (w.setCell ⟨n, i, none⟩ v)
theorem setAll_heap (n : Nat) (T : TypeId) : ∀ (vs : List Value) (w : World) (i : Nat) (c : Array Value), w.heap[n]? = some (.cells c T) -> c.size = i + vs.length ->
  (setAll n vs i w).heap[n]? = some (.cells (c.toList.take i ++ vs).toArray T)
 | [], w, i, c, h, hc => by
  simp only [setAll, List.append_nil]
  rw [List.take_of_length_le (by simp at hc; simp; omega)]
  simpa using h
 | v :: vs, w, i, c, h, hc => by
  have h2 := heap_setCell_same w n i v c T h
  have := setAll_heap n T vs (w.setCell ⟨n, i, none⟩ v) (i + 1) (c.setIfInBounds i v) h2 (by simp at hc ⊢; omega)
  simp only [setAll]
  rw [this]
  simp only [Array.toList_setIfInBounds]
  congr 3
  rw [List.take_add_one, List.take_set_of_le (Nat.le_refl _)]
  simp at hc
  simp [show i < c.size by omega]
theorem set5 (w : World) (n : Nat) (c : Array Value) (T : TypeId) (v0 v1 v2 v3 v4 : Value) (h : w.heap[n]? = some (.cells c T)) (hc : c.size = 5) :
  (((((w.setCell ⟨n, 0, none⟩ v0).setCell ⟨n, 1, none⟩ v1).setCell ⟨n, 2, none⟩ v2).setCell ⟨n, 3, none⟩ v3).setCell ⟨n, 4, none⟩ v4).heap[n]? = some (.cells #[v0, v1, v2, v3, v4] T) := by
 have := setAll_heap n T [v0, v1, v2, v3, v4] w 0 c h hc
 simpa only [setAll, List.take_zero, List.nil_append, Nat.zero_add, Nat.reduceAdd] using this
theorem set14 (w : World) (n : Nat) (c : Array Value) (T : TypeId) (v0 v1 v2 v3 v4 v5 v6 v7 v8 v9 v10 v11 v12 v13 : Value) (h : w.heap[n]? = some (.cells c T)) (hc : c.size = 14) :
  ((((((((((((((w.setCell ⟨n, 0, none⟩ v0).setCell ⟨n, 1, none⟩ v1).setCell ⟨n, 2, none⟩ v2).setCell ⟨n, 3, none⟩ v3).setCell ⟨n, 4, none⟩ v4).setCell ⟨n, 5, none⟩ v5).setCell ⟨n, 6, none⟩ v6).setCell ⟨n, 7, none⟩ v7).setCell ⟨n, 8, none⟩ v8).setCell ⟨n, 9, none⟩ v9).setCell ⟨n, 10, none⟩ v10).setCell ⟨n, 11, none⟩ v11).setCell ⟨n, 12, none⟩ v12).setCell ⟨n, 13, none⟩ v13).heap[n]? = some (.cells #[v0, v1, v2, v3, v4, v5, v6, v7, v8, v9, v10, v11, v12, v13] T) := by
 have := setAll_heap n T [v0, v1, v2, v3, v4, v5, v6, v7, v8, v9, v10, v11, v12, v13] w 0 c h hc
 simpa only [setAll, List.take_zero, List.nil_append, Nat.zero_add, Nat.reduceAdd] using this
theorem set25 (w : World) (n : Nat) (c : Array Value) (T : TypeId) (v0 v1 v2 v3 v4 v5 v6 v7 v8 v9 v10 v11 v12 v13 v14 v15 v16 v17 v18 v19 v20 v21 v22 v23 v24 : Value) (h : w.heap[n]? = some (.cells c T)) (hc : c.size = 25) :
  (((((((((((((((((((((((((w.setCell ⟨n, 0, none⟩ v0).setCell ⟨n, 1, none⟩ v1).setCell ⟨n, 2, none⟩ v2).setCell ⟨n, 3, none⟩ v3).setCell ⟨n, 4, none⟩ v4).setCell ⟨n, 5, none⟩ v5).setCell ⟨n, 6, none⟩ v6).setCell ⟨n, 7, none⟩ v7).setCell ⟨n, 8, none⟩ v8).setCell ⟨n, 9, none⟩ v9).setCell ⟨n, 10, none⟩ v10).setCell ⟨n, 11, none⟩ v11).setCell ⟨n, 12, none⟩ v12).setCell ⟨n, 13, none⟩ v13).setCell ⟨n, 14, none⟩ v14).setCell ⟨n, 15, none⟩ v15).setCell ⟨n, 16, none⟩ v16).setCell ⟨n, 17, none⟩ v17).setCell ⟨n, 18, none⟩ v18).setCell ⟨n, 19, none⟩ v19).setCell ⟨n, 20, none⟩ v20).setCell ⟨n, 21, none⟩ v21).setCell ⟨n, 22, none⟩ v22).setCell ⟨n, 23, none⟩ v23).setCell ⟨n, 24, none⟩ v24).heap[n]? = some (.cells #[v0, v1, v2, v3, v4, v5, v6, v7, v8, v9, v10, v11, v12, v13, v14, v15, v16, v17, v18, v19, v20, v21, v22, v23, v24] T) := by
 have := setAll_heap n T [v0, v1, v2, v3, v4, v5, v6, v7, v8, v9, v10, v11, v12, v13, v14, v15, v16, v17, v18, v19, v20, v21, v22, v23, v24] w 0 c h hc
 simpa only [setAll, List.take_zero, List.nil_append, Nat.zero_add, Nat.reduceAdd] using this
structure Cd where
 neg : Bool
 word : List UInt8
 queue : NP
 left : Vl
 right : Vl
abbrev vl0 : Vl := ⟨0, ([], 0), (0, 0)⟩
abbrev cdL (c : Cd) : List Value := [.bool c.neg, .string ⟨c.word.toArray⟩, .string ⟨c.queue.1.toArray⟩, .int .i64 c.queue.2, .int .i64 c.left.kind, .string ⟨c.left.name.1.toArray⟩, .int .i64 c.left.name.2, .int .i64 c.left.num.1, .int .i64 c.left.num.2, .int .i64 c.right.kind, .string ⟨c.right.name.1.toArray⟩, .int .i64 c.right.name.2, .int .i64 c.right.num.1, .int .i64 c.right.num.2]
abbrev cdA (c : Cd) : Array Value := #[.bool c.neg, .string ⟨c.word.toArray⟩, .string ⟨c.queue.1.toArray⟩, .int .i64 c.queue.2, .int .i64 c.left.kind, .string ⟨c.left.name.1.toArray⟩, .int .i64 c.left.name.2, .int .i64 c.left.num.1, .int .i64 c.left.num.2, .int .i64 c.right.kind, .string ⟨c.right.name.1.toArray⟩, .int .i64 c.right.name.2, .int .i64 c.right.num.1, .int .i64 c.right.num.2]
abbrev cdV (c : Cd) : Value := .agg #[.bool c.neg, .string ⟨c.word.toArray⟩, .string ⟨c.queue.1.toArray⟩, .int .i64 c.queue.2, .int .i64 c.left.kind, .string ⟨c.left.name.1.toArray⟩, .int .i64 c.left.name.2, .int .i64 c.left.num.1, .int .i64 c.left.num.2, .int .i64 c.right.kind, .string ⟨c.right.name.1.toArray⟩, .int .i64 c.right.name.2, .int .i64 c.right.num.1, .int .i64 c.right.num.2]
def notsS (l : List UInt8) : Nat -> Bool -> Tok -> Bool × Tok
 | 0, n, t => (n, t)
 | f + 1, n, t => if t.txt = [110, 111, 116] then notsS l f (!n) (nx l t) else (n, t)
def condT (l : List UInt8) (n : Bool) (t : Tok) : PR Cd :=
 if t.txt = [102, 117, 108, 108] \/ t.txt = [101, 109, 112, 116, 121] \/ t.txt = [119, 97, 114, 109] then
  (if (nx l t).kind = 2 then .ok (⟨n, t.txt, np (nx l t), vl0, vl0⟩, nx l (nx l t)) else .error (false, (nx l t).pos))
 else match valueS l t with
  | .error e => .error e
  | .ok (a, t1) => if t1.txt = [60] then
    (match valueS l (nx l t1) with
     | .error e => .error e
     | .ok (c, t2) => .ok (⟨n, t1.txt, ([], 0), a, c⟩, t2))
    else .error (false, t1.pos)
def condS (l : List UInt8) (t : Tok) : PR Cd := condT l (notsS l (l.length + 1) false t).1 (notsS l (l.length + 1) false t).2
theorem fld1 (k : Int) (s : ByteArray) (p : Int) (w : World) : (Instr.field 148 (.agg #[.int .i64 k, .string s, .int .i64 p]) 1).run Tryz.prog w = .ok (.string s) w := by kernel_rfl
theorem fld2 (k : Int) (s : ByteArray) (p : Int) (w : World) : (Instr.field 148 (.agg #[.int .i64 k, .string s, .int .i64 p]) 2).run Tryz.prog w = .ok (.int .i64 p) w := by kernel_rfl
theorem blk_cells {w : World} {n : Nat} {c : Array Value} {e : TypeId} (h : w.heap[n]? = some (.cells c e)) : (∀ o, w.cell? ⟨n, o, none⟩ = c[o]?) /\ ∀ o, w.frozen? ⟨n, o, none⟩ = false := by
 constructor <;> intro o <;> simp [World.cell?, World.frozen?, h]
theorem tok_pos_ge (l : List UInt8) (i : Nat) : i <= (tokAt l i).pos := by
 have hg := skip_ge l i
 by_cases hs : skip l i < l.length
 ·have hL := tokAt_word l i hs
  have hD := tokAt_dig l i hs
  have hS := tokAt_sgn l i hs
  have hN := tokAt_none l i hs
  generalize tokAt l i = t at *
  generalize skip l i = j at *
  cases e1 : letU l[j] with
  | true => rw [hL e1]; unfold wordT; split <;> (try split) <;> exact hg
  | false =>
  cases e2 : digU l[j] with
  | true => rw [hD e1 e2]; unfold digT; split <;> exact hg
  | false =>
  cases e3 : sgnU l[j] with
  | true => rw [hS e1 e2 e3]; exact hg
  | false => rw [hN e1 e2 e3]; exact hg
 ·rw [tokAt_end l i hs]; exact hg
theorem nx_pos (l : List UInt8) (t : Tok) : t.pos + t.txt.length <= (nx l t).pos := tok_pos_ge l _
theorem value_ok {w : World} {b : Nat} {l : List UInt8} {t : Tok} {bl lo : Nat} {X Y : Value} {x : Vl} {t' : Tok} (h : Rw w b l t bl lo X Y) (hv : valueS l t = .ok (x, t')) :
  Calls Tryz.prog 162 #[ptr b] w fun e w' => e = .returned (vlV x) /\ RB w w' b l t' bl lo X Y := by
 refine (value_any h).mono fun e w' H => ?_
 rw [hv] at H; exact H
theorem value_er {w : World} {b : Nat} {l : List UInt8} {t : Tok} {bl lo : Nat} {X Y : Value} {d : Bool} {p : Nat} (h : Rw w b l t bl lo X Y) (hv : valueS l t = .error (d, p)) :
  Calls Tryz.prog 162 #[ptr b] w fun e w' => Flt w b (if d then Y else X) p e w' := by
 refine (value_any h).mono fun e w' H => ?_
 rw [hv] at H; exact H
theorem cond_any {w : World} {b : Nat} {l : List UInt8} {t : Tok} {bl lo : Nat} {X Y : Value} (h : Rw w b l t bl lo X Y) :
  Calls Tryz.prog 157 #[ptr b] w fun e w' => Out w b l bl lo X Y cdV (condS l t) e w' := by
 have hgt := h.gt
 unfold condS
 generalize hp : notsS l (l.length + 1) false t = p
 have HP : Hid (notsS l (l.length + 1) false t = p) := hp
 clear hp
 generalize hq : condT l p.1 p.2 = r
 have HQ : Hid (condT l p.1 p.2 = r) := hq
 clear hq
 go_enter Tryz.func157, Tryz.ntmps157
 go_wp2_with fail
 go_loopg [] (l.length + 1) (fun f wr => ∃ n t1, Hid (notsS l f n t1 = p) /\ l.length + 1 <= f + t1.pos /\ RB w wr b l t1 bl lo X Y /\ wr.heap[w.heap.size]? = some (.cells #[.bool false, .string ⟨#[]⟩, .string ⟨#[]⟩, .int .i64 0, .int .i64 0, .string ⟨#[]⟩, .int .i64 0, .int .i64 0, .int .i64 0, .int .i64 0, .string ⟨#[]⟩, .int .i64 0, .int .i64 0, .int .i64 0] 224) /\ wr.heap[w.heap.size + 1]? = some (.cells #[.bool n, .string ⟨#[]⟩, .string ⟨#[]⟩, .int .i64 0, .int .i64 0, .string ⟨#[]⟩, .int .i64 0, .int .i64 0, .int .i64 0, .int .i64 0, .string ⟨#[]⟩, .int .i64 0, .int .i64 0, .int .i64 0] 224))
 case atStart =>
  refine ⟨false, t, HP, by omega, ((RB.refl h).alloc _).alloc _, ?_, heap_new (by simp)⟩
  rw [Below.heap_alloc _ _ _ (by simp)]; exact heap_new rfl
 case round =>
  obtain ⟨n, t1, HN, hf, hR, hO, hC⟩ := hrel
  obtain ⟨oc, of⟩ := blk_cells hO
  obtain ⟨cc, cf⟩ := blk_cells hC
  have hlo : w.heap.size + 1 < wr.heap.size := (Array.getElem?_eq_some_iff.1 hC).1
  have hpos := hR.r.bnd
  cases gk with
  | zero => exfalso; omega
  | succ k =>
  by_cases hnot : t1.txt = [110, 111, 116]
  ·have HS : Hid (notsS l k (!n) (nx l t1) = p) := by
    have := HN.out; unfold notsS at this; rwa [if_pos hnot] at this
   have hnp := nx_pos l t1
   have h3 : t1.txt.length = 3 := by rw [hnot]; rfl
   clear HN
   go_wp2_with (go_at_call_of 139 (Value.string { data := #[110, 111, 116] }); refine (take_yes [110, 111, 116] hR.r hnot).mono ?_; rintro e w1 ⟨rfl, hr⟩; obtain ⟨pc, pf⟩ := hr.k.loc (w.heap.size) (by first | omega | (simp; done) | (simp; omega)) (by omega); have pb := hr.k.block (w.heap.size) (by first | omega | (simp; done) | (simp; omega)) (by omega); have pz : w.heap.size < w1.heap.size := Nat.lt_of_lt_of_le (by first | omega | (simp; done) | (simp; omega)) hr.k.size; obtain ⟨pC, pF⟩ := hr.k.loc (w.heap.size + 1) (by first | omega | (simp; done) | (simp; omega)) (by omega); have pB := hr.k.block (w.heap.size + 1) (by first | omega | (simp; done) | (simp; omega)) (by omega); have pZ : w.heap.size + 1 < w1.heap.size := Nat.lt_of_lt_of_le (by first | omega | (simp; done) | (simp; omega)) hr.k.size)
   go_roundg k
   case measure => omega
   case rel =>
    have H0 := hR.trans hr
    refine ⟨!n, nx l t1, HS, by omega, H0.set (by omega) _ _, ?_, ?_⟩
    ·exact ((Below.heap_setCell _ _ _ _ (by simp)).trans (hr.k.block _ (by omega) (by omega))).trans hO
    ·exact (heap_setCell_same _ _ _ _ _ _ ((hr.k.block _ (by omega) (by omega)).trans hC)).trans rfl
  ·have e : (n, t1) = p := by
    have := HN.out; unfold notsS at this; rwa [if_neg hnot] at this
   clear HN HP
   subst e
   replace HQ : Hid (condT l n t1 = r) := HQ
   obtain ⟨d0, d1, d2, d3, d4, d5⟩ := hR.r.rd.cells
   have HW : Hid (condT l n t1 = r) := HQ
   by_cases hw : t1.txt = [102, 117, 108, 108] \/ t1.txt = [101, 109, 112, 116, 121] \/ t1.txt = [119, 97, 114, 109]
   ·have hfl := fld1
    by_cases hk2 : (nx l t1).kind = 2
    ·have HE : Hid (r = .ok (⟨n, t1.txt, np (nx l t1), vl0, vl0⟩, nx l (nx l t1))) := by
      show _ = _
      rw [<- HQ.out]; unfold condT; rw [if_pos hw, if_pos hk2]
     have hb : ((t1.txt == [102, 117, 108, 108]) = true) \/ ((t1.txt == [102, 117, 108, 108]) = false /\ (t1.txt == [101, 109, 112, 116, 121]) = true) \/ ((t1.txt == [102, 117, 108, 108]) = false /\ (t1.txt == [101, 109, 112, 116, 121]) = false /\ (t1.txt == [119, 97, 114, 109]) = true) := by
      rcases hw with e | e | e <;> rw [e] <;> decide
     clear HQ HW hw
     rcases hb with b1 | ⟨b1, b2⟩ | ⟨b1, b2, b3⟩
     all_goals
      go_wp2_with (first | (go_at_call_of 139 (Value.string { data := #[110, 111, 116] }); refine (take_no [110, 111, 116] hR.r hnot).mono ?_; rintro e w' ⟨rfl, rfl⟩))
      refine (step_r hR.r).mono ?_
      rintro e w1 ⟨rfl, R1⟩
      have H1 := hR.trans R1
      have hO1 := (R1.k.block w.heap.size (by omega) (by omega)).trans hO
      have hC1 := (R1.k.block (w.heap.size + 1) (by omega) (by omega)).trans hC
      have z1 := R1.k.size
      clear oc of cc cf d0 d1 d2 d3 d4 d5 hO hC
      obtain ⟨cc, cf⟩ := blk_cells hC1
      go_wp2_with fail
      refine (name_yes (l := l) (t := nx l t1) (bl := bl) (lo := lo) (X := X) (Y := Y) (RB.r (w0 := w) (by repeat (first | refine RB.set ?_ (by first | exact Nat.le_refl _ | omega | (simp; omega)) _ _ | refine RB.alloc ?_ _ | refine RB.drew ?_ | exact H1))) hk2).mono ?_
      rintro e w2 ⟨rfl, R2⟩
      have H2 := RB.trans (w0 := w) (t := nx l t1) (bl := bl) (lo := lo) (by repeat (first | refine RB.set ?_ (by first | exact Nat.le_refl _ | omega | (simp; omega)) _ _ | refine RB.alloc ?_ _ | refine RB.drew ?_ | exact H1)) R2
      have hO2 := (R2.k.block w.heap.size (by simp [World.setCell]; omega) (by omega)).trans ((Below.heap_setCell _ _ _ _ (by first | (simp; done) | (simp; omega))).trans hO1)
      have hC2 : w2.heap[w.heap.size + 1]? = some (.cells (cdA ⟨n, t1.txt, ([], 0), vl0, vl0⟩) 224) := (R2.k.block (w.heap.size + 1) (by simp [World.setCell]; omega) (by omega)).trans ((heap_setCell_same _ _ _ _ _ _ hC1).trans rfl)
      clear cc cf
      obtain ⟨cc, cf⟩ := blk_cells hC2
      go_upto_region 14 with fail
      refine wp_region_lit ?_
      refine wpList_load_row rfl 224 (.tmp 3) rfl (w.heap.size + 1) rfl 224 (cdA ⟨n, t1.txt, np (nx l t1), vl0, vl0⟩) (0, 0) _ ((heap_setCell_same _ _ _ _ _ _ (heap_setCell_same _ _ _ _ _ _ hC2)).trans rfl) Tryz.underlying224 rfl (by kernel_rfl) ?_
      refine wpList_store_row rfl 224 (.tmp 2) (.tmp 41) rfl (w.heap.size) (cdA ⟨n, t1.txt, np (nx l t1), vl0, vl0⟩) rfl rfl 224 (cdA ⟨false, [], ([], 0), vl0, vl0⟩) (((Below.heap_setCell _ _ _ _ (by first | (simp; done) | (simp; omega))).trans ((Below.heap_setCell _ _ _ _ (by first | (simp; done) | (simp; omega))).trans hO2))) (by kernel_rfl) rfl (by simp [Value.oneCell']) ?_
      go_wp2_with fail
      rw [HE.out]
      refine ⟨rfl, _, res_cell Tryz.results157 _ _ w.heap.size _ 224 _ rfl (setRow_heap _ _ _ _ _ _ ((Below.heap_setCell _ _ _ _ (by first | (simp; done) | (simp; omega))).trans ((Below.heap_setCell _ _ _ _ (by first | (simp; done) | (simp; omega))).trans hO2))) Tryz.underlying224 rfl (by kernel_rfl), ?_, ?_⟩
      ·rfl
      ·refine RB.setRow ?_ (Nat.le_refl _) _; repeat (first | refine RB.set ?_ (by first | exact Nat.le_refl _ | omega | (simp; omega)) _ _ | refine RB.alloc ?_ _ | refine RB.drew ?_ | exact H2)
    ·have HE : Hid (r = .error (false, (nx l t1).pos)) := by
      show _ = _
      rw [<- HQ.out]; unfold condT; rw [if_pos hw, if_neg hk2]
     have hb : ((t1.txt == [102, 117, 108, 108]) = true) \/ ((t1.txt == [102, 117, 108, 108]) = false /\ (t1.txt == [101, 109, 112, 116, 121]) = true) \/ ((t1.txt == [102, 117, 108, 108]) = false /\ (t1.txt == [101, 109, 112, 116, 121]) = false /\ (t1.txt == [119, 97, 114, 109]) = true) := by
      rcases hw with e | e | e <;> rw [e] <;> decide
     clear HQ HW hw
     rcases hb with b1 | ⟨b1, b2⟩ | ⟨b1, b2, b3⟩
     all_goals
      go_wp2_with (first | (go_at_call_of 139 (Value.string { data := #[110, 111, 116] }); refine (take_no [110, 111, 116] hR.r hnot).mono ?_; rintro e w' ⟨rfl, rfl⟩))
      refine (step_r hR.r).mono ?_
      rintro e w1 ⟨rfl, R1⟩
      have H1 := hR.trans R1
      have hO1 := (R1.k.block w.heap.size (by omega) (by omega)).trans hO
      have hC1 := (R1.k.block (w.heap.size + 1) (by omega) (by omega)).trans hC
      have z1 := R1.k.size
      clear oc of cc cf d0 d1 d2 d3 d4 d5 hO hC
      obtain ⟨cc, cf⟩ := blk_cells hC1
      go_wp2_with fail
      refine (name_no (l := l) (t := nx l t1) (bl := bl) (lo := lo) (X := X) (Y := Y) (RB.r (w0 := w) (by repeat (first | refine RB.set ?_ (by first | exact Nat.le_refl _ | omega | (simp; omega)) _ _ | refine RB.alloc ?_ _ | refine RB.drew ?_ | exact H1))) hk2).mono ?_
      rintro e we h3
      obtain ⟨f, rfl, h2⟩ := h3.from (RB.k (w0 := w) (l := l) (t := nx l t1) (bl := bl) (lo := lo) (X := X) (Y := Y) (by repeat (first | refine RB.set ?_ (by first | exact Nat.le_refl _ | omega | (simp; omega)) _ _ | refine RB.alloc ?_ _ | refine RB.drew ?_ | exact H1)))
      clear h3 cc cf
      go_wp2_with fail
      rw [HE.out]
      exact ⟨rfl, f, rfl, h2⟩
   ·have b1 : (t1.txt == [102, 117, 108, 108]) = false := by simp only [not_or] at hw; simpa using hw.1
    have b2 : (t1.txt == [101, 109, 112, 116, 121]) = false := by simp only [not_or] at hw; simpa using hw.2.1
    have b3 : (t1.txt == [119, 97, 114, 109]) = false := by simp only [not_or] at hw; simpa using hw.2.2
    clear HW
    cases hv : valueS l t1 with
    | error q =>
     obtain ⟨d, pp⟩ := q
     have HE : Hid (r = .error (d, pp)) := by
      show _ = _
      rw [<- HQ.out]; unfold condT; rw [if_neg hw, hv]
     have HV : Hid (valueS l t1 = .error (d, pp)) := hv
     clear HQ hv hw
     go_wp2_with (first | (go_at_call_of 139 (Value.string { data := #[110, 111, 116] }); refine (take_no [110, 111, 116] hR.r hnot).mono ?_; rintro e w' ⟨rfl, rfl⟩))
     refine (value_er hR.r HV.out).mono ?_
     rintro e we h3
     obtain ⟨f, rfl, h2⟩ := h3.from hR.k
     clear h3 cc cf oc of
     go_wp2_with fail
     rw [HE.out]
     exact ⟨rfl, f, rfl, h2⟩
    | ok q =>
     obtain ⟨va, t2⟩ := q
     have HV : Hid (valueS l t1 = .ok (va, t2)) := hv
     by_cases hlt : t2.txt = [60]
     ·cases hv2 : valueS l (nx l t2) with
      | error q =>
       obtain ⟨d, pp⟩ := q
       have HE : Hid (r = .error (d, pp)) := by
        show _ = _
        rw [<- HQ.out]; unfold condT; rw [if_neg hw, hv]; simp only [hlt, if_true, hv2]
       have HV2 : Hid (valueS l (nx l t2) = .error (d, pp)) := hv2
       clear HQ hv hv2 hw
       go_wp2_with (first | (go_at_call_of 139 (Value.string { data := #[110, 111, 116] }); refine (take_no [110, 111, 116] hR.r hnot).mono ?_; rintro e w' ⟨rfl, rfl⟩))
       refine (value_ok hR.r HV.out).mono ?_
       rintro e w1 ⟨rfl, R1⟩
       have H1 := hR.trans R1
       have hO1 := (R1.k.block w.heap.size (by omega) (by omega)).trans hO
       have hC1 := (R1.k.block (w.heap.size + 1) (by omega) (by omega)).trans hC
       have z1 := R1.k.size
       obtain ⟨f0, f1, f2, f3, f4, f5⟩ := H1.r.rd.cells
       clear oc of cc cf d0 d1 d2 d3 d4 d5 b1 b2 b3 hO hC
       obtain ⟨cc, cf⟩ := blk_cells hC1
       go_wp2_with fail
       refine (need_yes (l := l) (t := t2) (bl := bl) (lo := lo) (X := X) (Y := Y) [60] (RB.r (w0 := w) (by repeat (first | refine RB.set ?_ (by first | exact Nat.le_refl _ | omega | (simp; omega)) _ _ | refine RB.alloc ?_ _ | refine RB.drew ?_ | exact H1))) hlt).mono ?_
       rintro e w2 ⟨rfl, R2⟩
       have H2 := RB.trans (w0 := w) (t := t2) (bl := bl) (lo := lo) (by repeat (first | refine RB.set ?_ (by first | exact Nat.le_refl _ | omega | (simp; omega)) _ _ | refine RB.alloc ?_ _ | refine RB.drew ?_ | exact H1)) R2
       have hO2 := (R2.k.block w.heap.size (by simp [World.setCell]; omega) (by omega)).trans ((Below.heap_setCell _ _ _ _ (by first | (simp; done) | (simp; omega))).trans ((Below.heap_setCell _ _ _ _ (by first | (simp; done) | (simp; omega))).trans ((Below.heap_setCell _ _ _ _ (by first | (simp; done) | (simp; omega))).trans ((Below.heap_setCell _ _ _ _ (by first | (simp; done) | (simp; omega))).trans ((Below.heap_setCell _ _ _ _ (by first | (simp; done) | (simp; omega))).trans ((Below.heap_setCell _ _ _ _ (by first | (simp; done) | (simp; omega))).trans hO1))))))
       have hC2 : w2.heap[w.heap.size + 1]? = some (.cells (cdA ⟨n, t2.txt, ([], 0), va, vl0⟩) 224) := (R2.k.block (w.heap.size + 1) (by simp [World.setCell]; omega) (by omega)).trans ((heap_setCell_same _ _ _ _ _ _ (heap_setCell_same _ _ _ _ _ _ (heap_setCell_same _ _ _ _ _ _ (heap_setCell_same _ _ _ _ _ _ (heap_setCell_same _ _ _ _ _ _ (heap_setCell_same _ _ _ _ _ _ hC1)))))).trans (by simp [hlt, vl0]))
       have z2 := R2.k.size
       clear cc cf f0 f1 f2 f3 f4 f5
       go_wp2_with fail
       refine (value_er H2.r HV2.out).mono ?_
       rintro e we h3
       obtain ⟨f, rfl, h2⟩ := h3.from H2.k
       clear h3
       go_wp2_with fail
       rw [HE.out]
       exact ⟨rfl, f, rfl, h2⟩
      | ok q =>
       obtain ⟨vb, t3⟩ := q
       have HE : Hid (r = .ok (⟨n, t2.txt, ([], 0), va, vb⟩, t3)) := by
        show _ = _
        rw [<- HQ.out]; unfold condT; rw [if_neg hw, hv]; simp only [hlt, if_true, hv2]
       have HV2 : Hid (valueS l (nx l t2) = .ok (vb, t3)) := hv2
       clear HQ hv hv2 hw
       go_wp2_with (first | (go_at_call_of 139 (Value.string { data := #[110, 111, 116] }); refine (take_no [110, 111, 116] hR.r hnot).mono ?_; rintro e w' ⟨rfl, rfl⟩))
       refine (value_ok hR.r HV.out).mono ?_
       rintro e w1 ⟨rfl, R1⟩
       have H1 := hR.trans R1
       have hO1 := (R1.k.block w.heap.size (by omega) (by omega)).trans hO
       have hC1 := (R1.k.block (w.heap.size + 1) (by omega) (by omega)).trans hC
       have z1 := R1.k.size
       obtain ⟨f0, f1, f2, f3, f4, f5⟩ := H1.r.rd.cells
       clear oc of cc cf d0 d1 d2 d3 d4 d5 b1 b2 b3 hO hC
       obtain ⟨cc, cf⟩ := blk_cells hC1
       go_wp2_with fail
       refine (need_yes (l := l) (t := t2) (bl := bl) (lo := lo) (X := X) (Y := Y) [60] (RB.r (w0 := w) (by repeat (first | refine RB.set ?_ (by first | exact Nat.le_refl _ | omega | (simp; omega)) _ _ | refine RB.alloc ?_ _ | refine RB.drew ?_ | exact H1))) hlt).mono ?_
       rintro e w2 ⟨rfl, R2⟩
       have H2 := RB.trans (w0 := w) (t := t2) (bl := bl) (lo := lo) (by repeat (first | refine RB.set ?_ (by first | exact Nat.le_refl _ | omega | (simp; omega)) _ _ | refine RB.alloc ?_ _ | refine RB.drew ?_ | exact H1)) R2
       have hO2 := (R2.k.block w.heap.size (by simp [World.setCell]; omega) (by omega)).trans ((Below.heap_setCell _ _ _ _ (by first | (simp; done) | (simp; omega))).trans ((Below.heap_setCell _ _ _ _ (by first | (simp; done) | (simp; omega))).trans ((Below.heap_setCell _ _ _ _ (by first | (simp; done) | (simp; omega))).trans ((Below.heap_setCell _ _ _ _ (by first | (simp; done) | (simp; omega))).trans ((Below.heap_setCell _ _ _ _ (by first | (simp; done) | (simp; omega))).trans ((Below.heap_setCell _ _ _ _ (by first | (simp; done) | (simp; omega))).trans hO1))))))
       have hC2 : w2.heap[w.heap.size + 1]? = some (.cells (cdA ⟨n, t2.txt, ([], 0), va, vl0⟩) 224) := (R2.k.block (w.heap.size + 1) (by simp [World.setCell]; omega) (by omega)).trans ((heap_setCell_same _ _ _ _ _ _ (heap_setCell_same _ _ _ _ _ _ (heap_setCell_same _ _ _ _ _ _ (heap_setCell_same _ _ _ _ _ _ (heap_setCell_same _ _ _ _ _ _ (heap_setCell_same _ _ _ _ _ _ hC1)))))).trans (by simp [hlt, vl0]))
       have z2 := R2.k.size
       clear cc cf f0 f1 f2 f3 f4 f5
       go_wp2_with fail
       refine (value_ok H2.r HV2.out).mono ?_
       rintro e w3 ⟨rfl, R3⟩
       have H3 := H2.trans R3
       simp [World.setCell] at z2
       have hO3 := (R3.k.block w.heap.size (by omega) (by omega)).trans hO2
       have hC3 := (R3.k.block (w.heap.size + 1) (by omega) (by omega)).trans hC2
       obtain ⟨cc, cf⟩ := blk_cells hC3
       go_upto_region 14 with fail
       refine wp_region_lit ?_
       refine wpList_load_row rfl 224 (.tmp 3) rfl (w.heap.size + 1) rfl 224 (cdA ⟨n, t2.txt, ([], 0), va, vb⟩) (0, 0) _ ((heap_setCell_same _ _ _ _ _ _ (heap_setCell_same _ _ _ _ _ _ (heap_setCell_same _ _ _ _ _ _ (heap_setCell_same _ _ _ _ _ _ (heap_setCell_same _ _ _ _ _ _ hC3))))).trans rfl) Tryz.underlying224 rfl (by kernel_rfl) ?_
       refine wpList_store_row rfl 224 (.tmp 2) (.tmp 41) rfl (w.heap.size) (cdA ⟨n, t2.txt, ([], 0), va, vb⟩) rfl rfl 224 (cdA ⟨false, [], ([], 0), vl0, vl0⟩) (((Below.heap_setCell _ _ _ _ (by first | (simp; done) | (simp; omega))).trans ((Below.heap_setCell _ _ _ _ (by first | (simp; done) | (simp; omega))).trans ((Below.heap_setCell _ _ _ _ (by first | (simp; done) | (simp; omega))).trans ((Below.heap_setCell _ _ _ _ (by first | (simp; done) | (simp; omega))).trans ((Below.heap_setCell _ _ _ _ (by first | (simp; done) | (simp; omega))).trans hO3)))))) (by kernel_rfl) rfl (by simp [Value.oneCell']) ?_
       go_wp2_with fail
       rw [HE.out]
       refine ⟨rfl, _, res_cell Tryz.results157 _ _ w.heap.size _ 224 _ rfl (setRow_heap _ _ _ _ _ _ ((Below.heap_setCell _ _ _ _ (by first | (simp; done) | (simp; omega))).trans ((Below.heap_setCell _ _ _ _ (by first | (simp; done) | (simp; omega))).trans ((Below.heap_setCell _ _ _ _ (by first | (simp; done) | (simp; omega))).trans ((Below.heap_setCell _ _ _ _ (by first | (simp; done) | (simp; omega))).trans ((Below.heap_setCell _ _ _ _ (by first | (simp; done) | (simp; omega))).trans hO3)))))) Tryz.underlying224 rfl (by kernel_rfl), ?_, ?_⟩
       ·simp [hlt]
       ·refine RB.setRow ?_ (Nat.le_refl _) _; repeat (first | refine RB.set ?_ (by first | exact Nat.le_refl _ | omega | (simp; omega)) _ _ | refine RB.alloc ?_ _ | refine RB.drew ?_ | exact H3)
     ·have HE : Hid (r = .error (false, t2.pos)) := by
       show _ = _
       rw [<- HQ.out]; unfold condT; rw [if_neg hw, hv]; simp only [hlt, if_false]
      clear HQ hv hw
      go_wp2_with (first | (go_at_call_of 139 (Value.string { data := #[110, 111, 116] }); refine (take_no [110, 111, 116] hR.r hnot).mono ?_; rintro e w' ⟨rfl, rfl⟩))
      refine (value_ok hR.r HV.out).mono ?_
      rintro e w1 ⟨rfl, R1⟩
      have H1 := hR.trans R1
      have hO1 := (R1.k.block w.heap.size (by omega) (by omega)).trans hO
      have hC1 := (R1.k.block (w.heap.size + 1) (by omega) (by omega)).trans hC
      have z1 := R1.k.size
      obtain ⟨f0, f1, f2, f3, f4, f5⟩ := H1.r.rd.cells
      clear oc of cc cf d0 d1 d2 d3 d4 d5 b1 b2 b3 hO hC
      obtain ⟨cc, cf⟩ := blk_cells hC1
      go_wp2_with fail
      refine (need_no (l := l) (t := t2) (bl := bl) (lo := lo) (X := X) (Y := Y) [60] (RB.r (w0 := w) (by repeat (first | refine RB.set ?_ (by first | exact Nat.le_refl _ | omega | (simp; omega)) _ _ | refine RB.alloc ?_ _ | refine RB.drew ?_ | exact H1))) hlt).mono ?_
      rintro e we h3
      obtain ⟨f, rfl, h2⟩ := h3.from (RB.k (w0 := w) (l := l) (t := t2) (bl := bl) (lo := lo) (X := X) (Y := Y) (by repeat (first | refine RB.set ?_ (by first | exact Nat.le_refl _ | omega | (simp; omega)) _ _ | refine RB.alloc ?_ _ | refine RB.drew ?_ | exact H1)))
      clear h3 cc cf
      go_wp2_with fail
      rw [HE.out]
      exact ⟨rfl, f, rfl, h2⟩
theorem cond_ok {w : World} {b : Nat} {l : List UInt8} {t : Tok} {bl lo : Nat} {X Y : Value} {x : Cd} {t' : Tok} (h : Rw w b l t bl lo X Y) (hv : condS l t = .ok (x, t')) :
  Calls Tryz.prog 157 #[ptr b] w fun e w' => e = .returned (cdV x) /\ RB w w' b l t' bl lo X Y := by
 refine (cond_any h).mono fun e w' H => ?_
 rw [hv] at H; exact H
theorem cond_er {w : World} {b : Nat} {l : List UInt8} {t : Tok} {bl lo : Nat} {X Y : Value} {d : Bool} {p : Nat} (h : Rw w b l t bl lo X Y) (hv : condS l t = .error (d, p)) :
  Calls Tryz.prog 157 #[ptr b] w fun e w' => Flt w b (if d then Y else X) p e w' := by
 refine (cond_any h).mono fun e w' H => ?_
 rw [hv] at H; exact H
structure St where
 word : List UInt8
 name : NP
 to : NP
 tail : Bool
 times : Nat × Nat
 cond : Cd
 other : Bool
abbrev cd0 : Cd := ⟨false, [], ([], 0), vl0, vl0⟩
abbrev stW (s : List UInt8) : St := ⟨s, ([], 0), ([], 0), false, (0, 0), cd0, false⟩
abbrev nilV : Value := .slice none 0 0
abbrev stA (s : St) (x y : Value) : Array Value := #[.string ⟨s.word.toArray⟩, .string ⟨s.name.1.toArray⟩, .int .i64 s.name.2, .string ⟨s.to.1.toArray⟩, .int .i64 s.to.2, .bool s.tail, .int .i64 s.times.1, .int .i64 s.times.2, .bool s.cond.neg, .string ⟨s.cond.word.toArray⟩, .string ⟨s.cond.queue.1.toArray⟩, .int .i64 s.cond.queue.2, .int .i64 s.cond.left.kind, .string ⟨s.cond.left.name.1.toArray⟩, .int .i64 s.cond.left.name.2, .int .i64 s.cond.left.num.1, .int .i64 s.cond.left.num.2, .int .i64 s.cond.right.kind, .string ⟨s.cond.right.name.1.toArray⟩, .int .i64 s.cond.right.name.2, .int .i64 s.cond.right.num.1, .int .i64 s.cond.right.num.2, x, .bool s.other, y]
def tailS (l : List UInt8) (t : Tok) : Bool × Tok := if t.txt = [116, 97, 105, 108] then (true, nx l t) else (false, t)
def semi (l : List UInt8) (s : St) (t : Tok) : PR St := if t.txt = [59] then .ok (s, nx l t) else .error (false, t.pos)
def bindR {α β : Type} (r : PR α) (f : α -> Tok -> PR β) : PR β :=
 match r with
 | .error e => .error e
 | .ok (x, t) => f x t
def oneB (s : List UInt8) : Bool := s == [101, 118, 105, 99, 116] || s == [105, 110, 99] || s == [100, 101, 99] || s == [99, 111, 111, 108]
def zeroB (s : List UInt8) : Bool := s == [100, 114, 111, 112] || s == [98, 117, 109, 112]
def plainS (l : List UInt8) (t : Tok) : PR St :=
 if t.txt = [112, 117, 116] then bindR (nameS l (nx l t)) fun n t2 => semi l { stW t.txt with name := n, tail := (tailS l t2).1 } (tailS l t2).2
 else if t.txt = [115, 104, 105, 102, 116] then bindR (nameS l (nx l t)) fun n t2 => bindR (nameS l t2) fun m t3 => semi l { stW t.txt with name := n, to := m, tail := (tailS l t3).1 } (tailS l t3).2
 else if oneB t.txt = true then bindR (nameS l (nx l t)) fun n t2 => semi l { stW t.txt with name := n } t2
 else if zeroB t.txt = true then semi l (stW t.txt) (nx l t)
 else .error (false, t.pos)
theorem take_any {w : World} {b : Nat} {l : List UInt8} {t : Tok} {bl lo : Nat} {X Y : Value} (s : List UInt8) (h : Rw w b l t bl lo X Y) :
  Calls Tryz.prog 139 #[ptr b, S s] w fun e w' => e = .returned (.bool (decide (t.txt = s))) /\ RB w w' b l (if t.txt = s then nx l t else t) bl lo X Y := by
 by_cases hs : t.txt = s
 ·refine (take_yes s h hs).mono ?_
  rintro e w' ⟨rfl, hr⟩
  rw [if_pos hs]; exact ⟨by simp [hs], hr⟩
 ·refine (take_no s h hs).mono ?_
  rintro e w' ⟨rfl, rfl⟩
  rw [if_neg hs]; exact ⟨by simp [hs], RB.refl h⟩
theorem tail_any {w : World} {b : Nat} {l : List UInt8} {t : Tok} {bl lo : Nat} {X Y : Value} (h : Rw w b l t bl lo X Y) :
  Calls Tryz.prog 139 #[ptr b, .string { data := #[116, 97, 105, 108] }] w fun e w' => e = .returned (.bool (tailS l t).1) /\ RB w w' b l (tailS l t).2 bl lo X Y := by
 refine (take_any [116, 97, 105, 108] h).mono ?_
 rintro e w' ⟨rfl, hr⟩
 unfold tailS
 by_cases hs : t.txt = [116, 97, 105, 108]
 ·rw [if_pos hs] at hr ⊢; exact ⟨by simp [hs], hr⟩
 ·rw [if_neg hs] at hr ⊢; exact ⟨by simp [hs], hr⟩
theorem store_new {w : World} {b : Nat} {l : List UInt8} {t : Tok} {bl lo : Nat} {X Y : Value} (hr : Rw w b l t bl lo X Y) {ops : Array Oper} {rest : List Oper} {o : Oper} {a : Act} {Q : Exit -> Act -> World -> Prop} (hgd : o.guard = none) (T : TypeId) (x y : Operand) (ho : o.op = .store T x y)
  (A : Array Value) {Z Z' : Array Value} (hx : a.eval x = .pointer (some ⟨w.heap.size + 1, 0, none⟩)) (hy : a.eval y = .agg A) (hi : (Tryz.prog.info? T).map (·.size) = some A.size) (hs : Z'.size = A.size) (h1 : A.all (·.oneCell') = true)
  (h : ∀ W', RB w W' b l t bl lo X Y -> W'.heap[w.heap.size]? = some (.cells Z T) -> W'.heap[w.heap.size + 1]? = some (.cells A T) -> wpList Tryz.prog ops Q rest (a.put o.dst undef) W') :
  wpList Tryz.prog ops Q (o :: rest) a ((w.alloc (.cells Z T)).alloc (.cells Z' T)) := by
 refine wpList_store_row hgd T x y ho (w.heap.size + 1) A hx hy T Z' (heap_new (by simp)) hi hs h1 (h _ ?_ ?_ ?_)
 ·exact RB.setRow (((RB.refl hr).alloc _).alloc _) (by omega) _
 ·exact (setRow_other _ _ _ _ (by omega)).trans ((Below.heap_alloc _ _ _ (by simp)).trans (heap_new rfl))
 ·exact setRow_heap _ _ _ _ _ _ (heap_new (by simp))
theorem two_allocs {w : World} {b : Nat} {l : List UInt8} {t : Tok} {bl lo : Nat} {X Y : Value} (h : Rw w b l t bl lo X Y) (A B : Array Value) (T U : TypeId) :
  RB w ((w.alloc (.cells A T)).alloc (.cells B U)) b l t bl lo X Y /\ ((w.alloc (.cells A T)).alloc (.cells B U)).heap[w.heap.size]? = some (.cells A T) /\ ((w.alloc (.cells A T)).alloc (.cells B U)).heap[w.heap.size + 1]? = some (.cells B U) :=
 ⟨((RB.refl h).alloc _).alloc _, by rw [Below.heap_alloc _ _ _ (by simp)]; exact heap_new rfl, heap_new (by simp)⟩
theorem name_any {w : World} {b : Nat} {l : List UInt8} {t : Tok} {bl lo : Nat} {X Y : Value} (h : Rw w b l t bl lo X Y) :
  Calls Tryz.prog 117 #[ptr b] w fun e w' => Out w b l bl lo X Y (fun n : NP => .agg #[.string ⟨n.1.toArray⟩, .int .i64 n.2]) (nameS l t) e w' := by
 unfold nameS
 by_cases hs : t.kind = 2
 ·rw [if_pos hs]; exact name_yes h hs
 ·rw [if_neg hs]; exact name_no h hs
theorem name_ok {w : World} {b : Nat} {l : List UInt8} {t : Tok} {bl lo : Nat} {X Y : Value} {x : NP} {t' : Tok} (h : Rw w b l t bl lo X Y) (hv : nameS l t = .ok (x, t')) :
  Calls Tryz.prog 117 #[ptr b] w fun e w' => e = .returned (.agg #[.string ⟨x.1.toArray⟩, .int .i64 x.2]) /\ RB w w' b l t' bl lo X Y := by
 refine (name_any h).mono fun e w' H => ?_
 rw [hv] at H; exact H
theorem name_er {w : World} {b : Nat} {l : List UInt8} {t : Tok} {bl lo : Nat} {X Y : Value} {d : Bool} {p : Nat} (h : Rw w b l t bl lo X Y) (hv : nameS l t = .error (d, p)) :
  Calls Tryz.prog 117 #[ptr b] w fun e w' => Flt w b (if d then Y else X) p e w' := by
 refine (name_any h).mono fun e w' H => ?_
 rw [hv] at H; exact H
theorem plain_put {w : World} {b : Nat} {l : List UInt8} {t : Tok} {bl lo : Nat} {X Y : Value} (h : Rw w b l t bl lo X Y) (hw : t.txt = [112, 117, 116]) :
  Calls Tryz.prog 152 #[ptr b] w fun e w' => Out w b l bl lo X Y (fun s => .agg (stA s nilV nilV)) (plainS l t) e w' := by
 have hgt := h.gt
 have HQ : Hid (plainS l t = bindR (nameS l (nx l t)) fun n t2 => semi l { stW t.txt with name := n, tail := (tailS l t2).1 } (tailS l t2).2) := by
  show _ = _
  unfold plainS; rw [if_pos hw]
 generalize plainS l t = r at *
 obtain ⟨c0, c1, c2, c3, c4, c5⟩ := h.rd.cells
 have b1 : (t.txt == [112, 117, 116]) = true := by simp [hw]
 clear hw
 go_enter Tryz.func152, Tryz.ntmps152
 go_upto_region 1 with fail
 refine wp_region_lit ?_
 iterate 21 go_step
 refine store_new h rfl 226 (.tmp 3) (.tmp 9) rfl (stA (stW t.txt) nilV nilV) rfl rfl (by kernel_rfl) rfl (by simp [Value.oneCell']) ?_
 intro W0 h0 hO0 hC0
 obtain ⟨cc, cf⟩ := blk_cells hC0
 go_wp2_with fail
 refine (step_r h0.r).mono ?_
 rintro e w1 ⟨rfl, R1⟩
 have H1 := h0.trans R1
 have z0 : w.heap.size + 1 < W0.heap.size := (Array.getElem?_eq_some_iff.1 hC0).1
 have z1 := R1.k.size
 have hO1 := (R1.k.block w.heap.size (by omega) (by omega)).trans hO0
 have hC1 := (R1.k.block (w.heap.size + 1) (by omega) (by omega)).trans hC0
 clear h0 R1 c0 c1 c2 c3 c4 c5 cc cf hO0 hC0
 obtain ⟨cc, cf⟩ := blk_cells hC1
 go_wp2_with fail
 cases hn : nameS l (nx l t) with
 | error q =>
  obtain ⟨d, pp⟩ := q
  refine (name_er H1.r hn).mono ?_
  rintro e we h3
  obtain ⟨f, rfl, h2⟩ := h3.from H1.k
  clear h3
  have HE : Hid (r = .error (d, pp)) := by show _ = _; rw [HQ.out, hn]; rfl
  clear HQ hn cc cf
  go_wp2_with fail
  rw [HE.out]
  exact ⟨rfl, f, rfl, h2⟩
 | ok q =>
  obtain ⟨n, t2⟩ := q
  refine (name_ok H1.r hn).mono ?_
  rintro e w2 ⟨rfl, R2⟩
  have H2 := H1.trans R2
  have z2 := R2.k.size
  have hO2 := (R2.k.block w.heap.size (by omega) (by omega)).trans hO1
  have hC2 := (R2.k.block (w.heap.size + 1) (by omega) (by omega)).trans hC1
  replace HQ : Hid (r = semi l { stW t.txt with name := n, tail := (tailS l t2).1 } (tailS l t2).2) := by show _ = _; rw [HQ.out, hn]; rfl
  clear hn cc cf R2 hO1 hC1
  obtain ⟨cc, cf⟩ := blk_cells hC2
  go_wp2_with fail
  refine (tail_any (l := l) (t := t2) (bl := bl) (lo := lo) (X := X) (Y := Y) (RB.r (w0 := w) (by repeat (first | refine RB.set ?_ (by first | exact Nat.le_refl _ | omega | (simp; omega)) _ _ | refine RB.alloc ?_ _ | refine RB.drew ?_ | exact H2)))).mono ?_
  generalize htl : tailS l t2 = tl at *
  obtain ⟨tb, t3⟩ := tl
  clear htl
  rintro e w3 ⟨rfl, R3⟩
  have H3 := RB.trans (w0 := w) (t := t2) (bl := bl) (lo := lo) (by repeat (first | refine RB.set ?_ (by first | exact Nat.le_refl _ | omega | (simp; omega)) _ _ | refine RB.alloc ?_ _ | refine RB.drew ?_ | exact H2)) R3
  have z3 := R3.k.size
  simp [World.setCell] at z3
  have hO3 := (R3.k.block w.heap.size (by simp [World.setCell]; omega) (by omega)).trans ((Below.heap_setCell _ _ _ _ (by first | (simp; done) | (simp; omega))).trans ((Below.heap_setCell _ _ _ _ (by first | (simp; done) | (simp; omega))).trans hO2))
  have hC3 : w3.heap[w.heap.size + 1]? = some (.cells (stA { stW t.txt with name := n } nilV nilV) 226) := (R3.k.block (w.heap.size + 1) (by simp [World.setCell]; omega) (by omega)).trans ((heap_setCell_same _ _ _ _ _ _ (heap_setCell_same _ _ _ _ _ _ hC2)).trans rfl)
  replace HQ : Hid (r = semi l { stW t.txt with name := n, tail := tb } t3) := HQ
  clear cc cf R3 hO2 hC2
  obtain ⟨cc, cf⟩ := blk_cells hC3
  go_wp2_with fail
  by_cases hsm : t3.txt = [59]
  ·refine (need_yes (l := l) (t := t3) (bl := bl) (lo := lo) (X := X) (Y := Y) [59] (RB.r (w0 := w) (by repeat (first | refine RB.set ?_ (by first | exact Nat.le_refl _ | omega | (simp; omega)) _ _ | refine RB.alloc ?_ _ | refine RB.drew ?_ | exact H3))) hsm).mono ?_
   rintro e w4 ⟨rfl, R4⟩
   have H4 := RB.trans (w0 := w) (t := t3) (bl := bl) (lo := lo) (by repeat (first | refine RB.set ?_ (by first | exact Nat.le_refl _ | omega | (simp; omega)) _ _ | refine RB.alloc ?_ _ | refine RB.drew ?_ | exact H3)) R4
   have z4 := R4.k.size
   simp [World.setCell] at z4
   have hO4 := (R4.k.block w.heap.size (by simp [World.setCell]; omega) (by omega)).trans ((Below.heap_setCell _ _ _ _ (by first | (simp; done) | (simp; omega))).trans hO3)
   have hC4 : w4.heap[w.heap.size + 1]? = some (.cells (stA { stW t.txt with name := n, tail := tb } nilV nilV) 226) := (R4.k.block (w.heap.size + 1) (by simp [World.setCell]; omega) (by omega)).trans ((heap_setCell_same _ _ _ _ _ _ hC3).trans rfl)
   have HE : Hid (r = .ok ({ stW t.txt with name := n, tail := tb }, nx l t3)) := by show _ = _; rw [HQ.out]; unfold semi; rw [if_pos hsm]
   clear cc cf R4 hO3 hC3 HQ
   go_upto_region 23 with fail
   refine wp_region_lit ?_
   refine wpList_load_row rfl 226 (.tmp 3) rfl (w.heap.size + 1) rfl 226 (stA { stW t.txt with name := n, tail := tb } nilV nilV) (0, 0) _ (hC4) Tryz.underlying226 rfl (by kernel_rfl) ?_
   refine wpList_store_row rfl 226 (.tmp 2) (.tmp 55) rfl (w.heap.size) (stA { stW t.txt with name := n, tail := tb } nilV nilV) rfl rfl 226 (stA (stW []) nilV nilV) (hO4) (by kernel_rfl) rfl (by simp [Value.oneCell']) ?_
   go_wp2_with fail
   rw [HE.out]
   refine ⟨rfl, _, res_cell Tryz.results152 _ _ w.heap.size _ 226 _ rfl (setRow_heap _ _ _ _ _ _ hO4) Tryz.underlying226 rfl (by kernel_rfl), ?_, ?_⟩
   ·rfl
   ·refine RB.setRow ?_ (Nat.le_refl _) _; repeat (first | refine RB.set ?_ (by first | exact Nat.le_refl _ | omega | (simp; omega)) _ _ | refine RB.alloc ?_ _ | refine RB.drew ?_ | exact H4)
  ·refine (need_no (l := l) (t := t3) (bl := bl) (lo := lo) (X := X) (Y := Y) [59] (RB.r (w0 := w) (by repeat (first | refine RB.set ?_ (by first | exact Nat.le_refl _ | omega | (simp; omega)) _ _ | refine RB.alloc ?_ _ | refine RB.drew ?_ | exact H3))) hsm).mono ?_
   rintro e we h3
   obtain ⟨f, rfl, h2⟩ := h3.from (RB.k (w0 := w) (l := l) (t := t3) (bl := bl) (lo := lo) (X := X) (Y := Y) (by repeat (first | refine RB.set ?_ (by first | exact Nat.le_refl _ | omega | (simp; omega)) _ _ | refine RB.alloc ?_ _ | refine RB.drew ?_ | exact H3)))
   have HE : Hid (r = .error (false, t3.pos)) := by show _ = _; rw [HQ.out]; unfold semi; rw [if_neg hsm]
   clear h3 cc cf HQ
   go_wp2_with fail
   rw [HE.out]
   exact ⟨rfl, f, rfl, h2⟩
theorem plain_shift {w : World} {b : Nat} {l : List UInt8} {t : Tok} {bl lo : Nat} {X Y : Value} (h : Rw w b l t bl lo X Y) (hw : t.txt = [115, 104, 105, 102, 116]) :
  Calls Tryz.prog 152 #[ptr b] w fun e w' => Out w b l bl lo X Y (fun s => .agg (stA s nilV nilV)) (plainS l t) e w' := by
 have hgt := h.gt
 have HQ : Hid (plainS l t = bindR (nameS l (nx l t)) fun n t2 => bindR (nameS l t2) fun m t3 => semi l { stW t.txt with name := n, to := m, tail := (tailS l t3).1 } (tailS l t3).2) := by
  show _ = _
  unfold plainS; rw [if_neg (by rw [hw]; decide), if_pos hw]
 generalize plainS l t = r at *
 obtain ⟨c0, c1, c2, c3, c4, c5⟩ := h.rd.cells
 have b1 : (t.txt == [112, 117, 116]) = false := by rw [hw]; decide
 have b2 : (t.txt == [115, 104, 105, 102, 116]) = true := by rw [hw]; decide
 clear hw
 go_enter Tryz.func152, Tryz.ntmps152
 go_upto_region 1 with fail
 refine wp_region_lit ?_
 iterate 21 go_step
 refine store_new h rfl 226 (.tmp 3) (.tmp 9) rfl (stA (stW t.txt) nilV nilV) rfl rfl (by kernel_rfl) rfl (by simp [Value.oneCell']) ?_
 intro W0 h0 hO0 hC0
 have z0 : w.heap.size + 1 < W0.heap.size := (Array.getElem?_eq_some_iff.1 hC0).1
 clear c0 c1 c2 c3 c4 c5
 obtain ⟨cc, cf⟩ := blk_cells hC0
 go_wp2_with fail
 refine (step_r h0.r).mono ?_
 rintro e w1 ⟨rfl, R1⟩
 have H1 := RB.trans (w0 := w) (t := t) (bl := bl) (lo := lo) (by repeat (first | refine RB.set ?_ (by first | exact Nat.le_refl _ | omega | (simp; omega)) _ _ | refine RB.alloc ?_ _ | refine RB.drew ?_ | exact h0)) R1
 have hO1 := (R1.k.block w.heap.size (by first | omega | (simp [World.setCell]; omega)) (by omega)).trans hO0
 have hC1 : w1.heap[w.heap.size + 1]? = some (.cells (stA (stW t.txt) nilV nilV) 226) := (R1.k.block (w.heap.size + 1) (by first | omega | (simp [World.setCell]; omega)) (by omega)).trans (hC0.trans rfl)
 have z1 : w.heap.size + 1 < w1.heap.size := (Array.getElem?_eq_some_iff.1 hC1).1
 clear R1 cc cf hO0 hC0
 obtain ⟨cc, cf⟩ := blk_cells hC1
 go_wp2_with fail
 cases hn : nameS l (nx l t) with
 | error q =>
  obtain ⟨d, pp⟩ := q
  refine (name_er H1.r hn).mono ?_
  rintro e we h3
  obtain ⟨f, rfl, h2⟩ := h3.from H1.k
  have HE : Hid (r = .error (d, pp)) := by show _ = _; rw [HQ.out, hn]; rfl
  clear h3 HQ hn cc cf
  go_wp2_with fail
  rw [HE.out]
  exact ⟨rfl, f, rfl, h2⟩
 | ok q =>
  obtain ⟨n, t2⟩ := q
  refine (name_ok H1.r hn).mono ?_
  rintro e w2 ⟨rfl, R2⟩
  replace HQ : Hid (r = bindR (nameS l t2) fun m t3 => semi l { stW t.txt with name := n, to := m, tail := (tailS l t3).1 } (tailS l t3).2) := by show _ = _; rw [HQ.out, hn]; rfl
  clear hn
  have H2 := RB.trans (w0 := w) (t := nx l t) (bl := bl) (lo := lo) (by repeat (first | refine RB.set ?_ (by first | exact Nat.le_refl _ | omega | (simp; omega)) _ _ | refine RB.alloc ?_ _ | refine RB.drew ?_ | exact H1)) R2
  have hO2 := (R2.k.block w.heap.size (by first | omega | (simp [World.setCell]; omega)) (by omega)).trans hO1
  have hC2 : w2.heap[w.heap.size + 1]? = some (.cells (stA (stW t.txt) nilV nilV) 226) := (R2.k.block (w.heap.size + 1) (by first | omega | (simp [World.setCell]; omega)) (by omega)).trans (hC1.trans rfl)
  have z2 : w.heap.size + 1 < w2.heap.size := (Array.getElem?_eq_some_iff.1 hC2).1
  clear R2 cc cf hO1 hC1
  obtain ⟨cc, cf⟩ := blk_cells hC2
  go_wp2_with fail
  cases hn : nameS l t2 with
  | error q =>
   obtain ⟨d, pp⟩ := q
   refine (name_er (l := l) (t := t2) (bl := bl) (lo := lo) (X := X) (Y := Y) (RB.r (w0 := w) (l := l) (t := t2) (bl := bl) (lo := lo) (X := X) (Y := Y) (by repeat (first | refine RB.set ?_ (by first | exact Nat.le_refl _ | omega | (simp; omega)) _ _ | refine RB.alloc ?_ _ | refine RB.drew ?_ | exact H2))) hn).mono ?_
   rintro e we h3
   obtain ⟨f, rfl, h2⟩ := h3.from (RB.k (w0 := w) (l := l) (t := t2) (bl := bl) (lo := lo) (X := X) (Y := Y) (by repeat (first | refine RB.set ?_ (by first | exact Nat.le_refl _ | omega | (simp; omega)) _ _ | refine RB.alloc ?_ _ | refine RB.drew ?_ | exact H2)))
   have HE : Hid (r = .error (d, pp)) := by show _ = _; rw [HQ.out, hn]; rfl
   clear h3 HQ hn cc cf
   go_wp2_with fail
   rw [HE.out]
   exact ⟨rfl, f, rfl, h2⟩
  | ok q =>
   obtain ⟨m, t3⟩ := q
   refine (name_ok (l := l) (t := t2) (bl := bl) (lo := lo) (X := X) (Y := Y) (RB.r (w0 := w) (l := l) (t := t2) (bl := bl) (lo := lo) (X := X) (Y := Y) (by repeat (first | refine RB.set ?_ (by first | exact Nat.le_refl _ | omega | (simp; omega)) _ _ | refine RB.alloc ?_ _ | refine RB.drew ?_ | exact H2))) hn).mono ?_
   rintro e w3 ⟨rfl, R3⟩
   replace HQ : Hid (r = semi l { stW t.txt with name := n, to := m, tail := (tailS l t3).1 } (tailS l t3).2) := by show _ = _; rw [HQ.out, hn]; rfl
   clear hn
   have H3 := RB.trans (w0 := w) (t := t2) (bl := bl) (lo := lo) (by repeat (first | refine RB.set ?_ (by first | exact Nat.le_refl _ | omega | (simp; omega)) _ _ | refine RB.alloc ?_ _ | refine RB.drew ?_ | exact H2)) R3
   have hO3 := (R3.k.block w.heap.size (by first | omega | (simp [World.setCell]; omega)) (by omega)).trans ((Below.heap_setCell _ _ _ _ (by first | (simp; done) | (simp; omega))).trans ((Below.heap_setCell _ _ _ _ (by first | (simp; done) | (simp; omega))).trans hO2))
   have hC3 : w3.heap[w.heap.size + 1]? = some (.cells (stA { stW t.txt with name := n } nilV nilV) 226) := (R3.k.block (w.heap.size + 1) (by first | omega | (simp [World.setCell]; omega)) (by omega)).trans ((heap_setCell_same _ _ _ _ _ _ (heap_setCell_same _ _ _ _ _ _ hC2)).trans rfl)
   have z3 : w.heap.size + 1 < w3.heap.size := (Array.getElem?_eq_some_iff.1 hC3).1
   clear R3 cc cf hO2 hC2
   obtain ⟨cc, cf⟩ := blk_cells hC3
   go_wp2_with fail
   refine (tail_any (l := l) (t := t3) (bl := bl) (lo := lo) (X := X) (Y := Y) (RB.r (w0 := w) (l := l) (t := t3) (bl := bl) (lo := lo) (X := X) (Y := Y) (by repeat (first | refine RB.set ?_ (by first | exact Nat.le_refl _ | omega | (simp; omega)) _ _ | refine RB.alloc ?_ _ | refine RB.drew ?_ | exact H3)))).mono ?_
   generalize htl : tailS l t3 = tl at *
   obtain ⟨tb, t4⟩ := tl
   clear htl
   rintro e w4 ⟨rfl, R4⟩
   replace HQ : Hid (r = semi l { stW t.txt with name := n, to := m, tail := tb } t4) := HQ
   have H4 := RB.trans (w0 := w) (t := t3) (bl := bl) (lo := lo) (by repeat (first | refine RB.set ?_ (by first | exact Nat.le_refl _ | omega | (simp; omega)) _ _ | refine RB.alloc ?_ _ | refine RB.drew ?_ | exact H3)) R4
   have hO4 := (R4.k.block w.heap.size (by first | omega | (simp [World.setCell]; omega)) (by omega)).trans ((Below.heap_setCell _ _ _ _ (by first | (simp; done) | (simp; omega))).trans ((Below.heap_setCell _ _ _ _ (by first | (simp; done) | (simp; omega))).trans hO3))
   have hC4 : w4.heap[w.heap.size + 1]? = some (.cells (stA { stW t.txt with name := n, to := m } nilV nilV) 226) := (R4.k.block (w.heap.size + 1) (by first | omega | (simp [World.setCell]; omega)) (by omega)).trans ((heap_setCell_same _ _ _ _ _ _ (heap_setCell_same _ _ _ _ _ _ hC3)).trans rfl)
   have z4 : w.heap.size + 1 < w4.heap.size := (Array.getElem?_eq_some_iff.1 hC4).1
   clear R4 cc cf hO3 hC3
   obtain ⟨cc, cf⟩ := blk_cells hC4
   go_wp2_with fail
   by_cases hsm : (t4).txt = [59]
   ·refine (need_yes (l := l) (t := t4) (bl := bl) (lo := lo) (X := X) (Y := Y) [59] (RB.r (w0 := w) (l := l) (t := t4) (bl := bl) (lo := lo) (X := X) (Y := Y) (by repeat (first | refine RB.set ?_ (by first | exact Nat.le_refl _ | omega | (simp; omega)) _ _ | refine RB.alloc ?_ _ | refine RB.drew ?_ | exact H4))) hsm).mono ?_
    rintro e we ⟨rfl, Re⟩
    have He := RB.trans (w0 := w) (t := t4) (bl := bl) (lo := lo) (by repeat (first | refine RB.set ?_ (by first | exact Nat.le_refl _ | omega | (simp; omega)) _ _ | refine RB.alloc ?_ _ | refine RB.drew ?_ | exact H4)) Re
    have hOe := (Re.k.block w.heap.size (by first | omega | (simp [World.setCell]; omega)) (by omega)).trans ((Below.heap_setCell _ _ _ _ (by first | (simp; done) | (simp; omega))).trans hO4)
    have hCe : we.heap[w.heap.size + 1]? = some (.cells (stA ({ stW t.txt with name := n, to := m, tail := tb }) nilV nilV) 226) := (Re.k.block (w.heap.size + 1) (by first | omega | (simp [World.setCell]; omega)) (by omega)).trans ((heap_setCell_same _ _ _ _ _ _ hC4).trans rfl)
    have HE : Hid (r = .ok ({ stW t.txt with name := n, to := m, tail := tb }, nx l (t4))) := by show _ = _; rw [HQ.out]; unfold semi; rw [if_pos hsm]
    clear cc cf Re hO4 hC4 HQ
    go_upto_region 23 with fail
    refine wp_region_lit ?_
    refine wpList_load_row rfl 226 (.tmp 3) rfl (w.heap.size + 1) rfl 226 (stA ({ stW t.txt with name := n, to := m, tail := tb }) nilV nilV) (0, 0) _ (hCe) Tryz.underlying226 rfl (by kernel_rfl) ?_
    refine wpList_store_row rfl 226 (.tmp 2) (.tmp 55) rfl (w.heap.size) (stA ({ stW t.txt with name := n, to := m, tail := tb }) nilV nilV) rfl rfl 226 (stA (stW []) nilV nilV) (hOe) (by kernel_rfl) rfl (by simp [Value.oneCell']) ?_
    go_wp2_with fail
    rw [HE.out]
    refine ⟨rfl, _, res_cell Tryz.results152 _ _ w.heap.size _ 226 _ rfl (setRow_heap _ _ _ _ _ _ hOe) Tryz.underlying226 rfl (by kernel_rfl), ?_, ?_⟩
    ·rfl
    ·refine RB.setRow ?_ (Nat.le_refl _) _; repeat (first | refine RB.set ?_ (by first | exact Nat.le_refl _ | omega | (simp; omega)) _ _ | refine RB.alloc ?_ _ | refine RB.drew ?_ | exact He)
   ·refine (need_no (l := l) (t := t4) (bl := bl) (lo := lo) (X := X) (Y := Y) [59] (RB.r (w0 := w) (l := l) (t := t4) (bl := bl) (lo := lo) (X := X) (Y := Y) (by repeat (first | refine RB.set ?_ (by first | exact Nat.le_refl _ | omega | (simp; omega)) _ _ | refine RB.alloc ?_ _ | refine RB.drew ?_ | exact H4))) hsm).mono ?_
    rintro e we h3
    obtain ⟨f, rfl, h2⟩ := h3.from (RB.k (w0 := w) (l := l) (t := t4) (bl := bl) (lo := lo) (X := X) (Y := Y) (by repeat (first | refine RB.set ?_ (by first | exact Nat.le_refl _ | omega | (simp; omega)) _ _ | refine RB.alloc ?_ _ | refine RB.drew ?_ | exact H4)))
    have HE : Hid (r = .error (false, (t4).pos)) := by show _ = _; rw [HQ.out]; unfold semi; rw [if_neg hsm]
    clear h3 cc cf HQ
    go_wp2_with fail
    rw [HE.out]
    exact ⟨rfl, f, rfl, h2⟩
theorem one_cases (s : List UInt8) (h1 : ¬ s = [112, 117, 116]) (h2 : ¬ s = [115, 104, 105, 102, 116]) (h : oneB s = true) :
  (s == [112, 117, 116]) = false /\ (s == [115, 104, 105, 102, 116]) = false /\ ((s == [101, 118, 105, 99, 116]) = true \/ ((s == [101, 118, 105, 99, 116]) = false /\ (s == [105, 110, 99]) = true) \/ ((s == [101, 118, 105, 99, 116]) = false /\ (s == [105, 110, 99]) = false /\ (s == [100, 101, 99]) = true) \/ ((s == [101, 118, 105, 99, 116]) = false /\ (s == [105, 110, 99]) = false /\ (s == [100, 101, 99]) = false /\ (s == [99, 111, 111, 108]) = true)) := by
 refine ⟨by simpa using h1, by simpa using h2, ?_⟩
 simp only [oneB, Bool.or_eq_true, beq_iff_eq] at h
 rcases h with ((e | e) | e) | e <;> rw [e] <;> decide
theorem plain_one {w : World} {b : Nat} {l : List UInt8} {t : Tok} {bl lo : Nat} {X Y : Value} (h : Rw w b l t bl lo X Y) (hw1 : ¬ t.txt = [112, 117, 116]) (hw2 : ¬ t.txt = [115, 104, 105, 102, 116]) (hw : oneB t.txt = true) :
  Calls Tryz.prog 152 #[ptr b] w fun e w' => Out w b l bl lo X Y (fun s => .agg (stA s nilV nilV)) (plainS l t) e w' := by
 have hgt := h.gt
 have HQ : Hid (plainS l t = bindR (nameS l (nx l t)) fun n t2 => semi l { stW t.txt with name := n } t2) := by
  show _ = _
  unfold plainS; rw [if_neg hw1, if_neg hw2, if_pos hw]
 generalize plainS l t = r at *
 obtain ⟨c0, c1, c2, c3, c4, c5⟩ := h.rd.cells
 obtain ⟨b1, b2, hb⟩ := one_cases t.txt hw1 hw2 hw
 clear hw hw1 hw2
 rcases hb with b3 | ⟨b3, b4⟩ | ⟨b3, b4, b5⟩ | ⟨b3, b4, b5, b6⟩
 all_goals
  go_enter Tryz.func152, Tryz.ntmps152
  go_upto_region 1 with fail
  refine wp_region_lit ?_
  iterate 21 go_step
  refine store_new h rfl 226 (.tmp 3) (.tmp 9) rfl (stA (stW t.txt) nilV nilV) rfl rfl (by kernel_rfl) rfl (by simp [Value.oneCell']) ?_
  intro W0 h0 hO0 hC0
  have z0 : w.heap.size + 1 < W0.heap.size := (Array.getElem?_eq_some_iff.1 hC0).1
  clear c0 c1 c2 c3 c4 c5
  obtain ⟨cc, cf⟩ := blk_cells hC0
  go_wp2_with fail
  refine (step_r h0.r).mono ?_
  rintro e w1 ⟨rfl, R1⟩
  have H1 := RB.trans (w0 := w) (t := t) (bl := bl) (lo := lo) (by repeat (first | refine RB.set ?_ (by first | exact Nat.le_refl _ | omega | (simp; omega)) _ _ | refine RB.alloc ?_ _ | refine RB.drew ?_ | exact h0)) R1
  have hO1 := (R1.k.block w.heap.size (by first | omega | (simp [World.setCell]; omega)) (by omega)).trans hO0
  have hC1 : w1.heap[w.heap.size + 1]? = some (.cells (stA (stW t.txt) nilV nilV) 226) := (R1.k.block (w.heap.size + 1) (by first | omega | (simp [World.setCell]; omega)) (by omega)).trans (hC0.trans rfl)
  have z1 : w.heap.size + 1 < w1.heap.size := (Array.getElem?_eq_some_iff.1 hC1).1
  clear R1 cc cf hO0 hC0
  obtain ⟨cc, cf⟩ := blk_cells hC1
  go_wp2_with fail
  cases hn : nameS l (nx l t) with
  | error q =>
   obtain ⟨d, pp⟩ := q
   refine (name_er H1.r hn).mono ?_
   rintro e we h3
   obtain ⟨f, rfl, h2⟩ := h3.from H1.k
   have HE : Hid (r = .error (d, pp)) := by show _ = _; rw [HQ.out, hn]; rfl
   clear h3 HQ hn cc cf
   go_wp2_with fail
   rw [HE.out]
   exact ⟨rfl, f, rfl, h2⟩
  | ok q =>
   obtain ⟨n, t2⟩ := q
   refine (name_ok H1.r hn).mono ?_
   rintro e w2 ⟨rfl, R2⟩
   replace HQ : Hid (r = semi l { stW t.txt with name := n } t2) := by show _ = _; rw [HQ.out, hn]; rfl
   clear hn
   have H2 := RB.trans (w0 := w) (t := nx l t) (bl := bl) (lo := lo) (by repeat (first | refine RB.set ?_ (by first | exact Nat.le_refl _ | omega | (simp; omega)) _ _ | refine RB.alloc ?_ _ | refine RB.drew ?_ | exact H1)) R2
   have hO2 := (R2.k.block w.heap.size (by first | omega | (simp [World.setCell]; omega)) (by omega)).trans hO1
   have hC2 : w2.heap[w.heap.size + 1]? = some (.cells (stA (stW t.txt) nilV nilV) 226) := (R2.k.block (w.heap.size + 1) (by first | omega | (simp [World.setCell]; omega)) (by omega)).trans (hC1.trans rfl)
   have z2 : w.heap.size + 1 < w2.heap.size := (Array.getElem?_eq_some_iff.1 hC2).1
   clear R2 cc cf hO1 hC1
   obtain ⟨cc, cf⟩ := blk_cells hC2
   go_wp2_with fail
   by_cases hsm : (t2).txt = [59]
   ·refine (need_yes (l := l) (t := t2) (bl := bl) (lo := lo) (X := X) (Y := Y) [59] (RB.r (w0 := w) (l := l) (t := t2) (bl := bl) (lo := lo) (X := X) (Y := Y) (by repeat (first | refine RB.set ?_ (by first | exact Nat.le_refl _ | omega | (simp; omega)) _ _ | refine RB.alloc ?_ _ | refine RB.drew ?_ | exact H2))) hsm).mono ?_
    rintro e we ⟨rfl, Re⟩
    have He := RB.trans (w0 := w) (t := t2) (bl := bl) (lo := lo) (by repeat (first | refine RB.set ?_ (by first | exact Nat.le_refl _ | omega | (simp; omega)) _ _ | refine RB.alloc ?_ _ | refine RB.drew ?_ | exact H2)) Re
    have hOe := (Re.k.block w.heap.size (by first | omega | (simp [World.setCell]; omega)) (by omega)).trans ((Below.heap_setCell _ _ _ _ (by first | (simp; done) | (simp; omega))).trans ((Below.heap_setCell _ _ _ _ (by first | (simp; done) | (simp; omega))).trans hO2))
    have hCe : we.heap[w.heap.size + 1]? = some (.cells (stA ({ stW t.txt with name := n }) nilV nilV) 226) := (Re.k.block (w.heap.size + 1) (by first | omega | (simp [World.setCell]; omega)) (by omega)).trans ((heap_setCell_same _ _ _ _ _ _ (heap_setCell_same _ _ _ _ _ _ hC2)).trans rfl)
    have HE : Hid (r = .ok ({ stW t.txt with name := n }, nx l (t2))) := by show _ = _; rw [HQ.out]; unfold semi; rw [if_pos hsm]
    clear cc cf Re hO2 hC2 HQ
    go_upto_region 23 with fail
    refine wp_region_lit ?_
    refine wpList_load_row rfl 226 (.tmp 3) rfl (w.heap.size + 1) rfl 226 (stA ({ stW t.txt with name := n }) nilV nilV) (0, 0) _ (hCe) Tryz.underlying226 rfl (by kernel_rfl) ?_
    refine wpList_store_row rfl 226 (.tmp 2) (.tmp 55) rfl (w.heap.size) (stA ({ stW t.txt with name := n }) nilV nilV) rfl rfl 226 (stA (stW []) nilV nilV) (hOe) (by kernel_rfl) rfl (by simp [Value.oneCell']) ?_
    go_wp2_with fail
    rw [HE.out]
    refine ⟨rfl, _, res_cell Tryz.results152 _ _ w.heap.size _ 226 _ rfl (setRow_heap _ _ _ _ _ _ hOe) Tryz.underlying226 rfl (by kernel_rfl), ?_, ?_⟩
    ·rfl
    ·refine RB.setRow ?_ (Nat.le_refl _) _; repeat (first | refine RB.set ?_ (by first | exact Nat.le_refl _ | omega | (simp; omega)) _ _ | refine RB.alloc ?_ _ | refine RB.drew ?_ | exact He)
   ·refine (need_no (l := l) (t := t2) (bl := bl) (lo := lo) (X := X) (Y := Y) [59] (RB.r (w0 := w) (l := l) (t := t2) (bl := bl) (lo := lo) (X := X) (Y := Y) (by repeat (first | refine RB.set ?_ (by first | exact Nat.le_refl _ | omega | (simp; omega)) _ _ | refine RB.alloc ?_ _ | refine RB.drew ?_ | exact H2))) hsm).mono ?_
    rintro e we h3
    obtain ⟨f, rfl, h2⟩ := h3.from (RB.k (w0 := w) (l := l) (t := t2) (bl := bl) (lo := lo) (X := X) (Y := Y) (by repeat (first | refine RB.set ?_ (by first | exact Nat.le_refl _ | omega | (simp; omega)) _ _ | refine RB.alloc ?_ _ | refine RB.drew ?_ | exact H2)))
    have HE : Hid (r = .error (false, (t2).pos)) := by show _ = _; rw [HQ.out]; unfold semi; rw [if_neg hsm]
    clear h3 cc cf HQ
    go_wp2_with fail
    rw [HE.out]
    exact ⟨rfl, f, rfl, h2⟩
theorem zero_cases (s : List UInt8) (h1 : ¬ s = [112, 117, 116]) (h2 : ¬ s = [115, 104, 105, 102, 116]) (h3 : ¬ oneB s = true) (h : zeroB s = true) :
  (s == [112, 117, 116]) = false /\ (s == [115, 104, 105, 102, 116]) = false /\ (s == [101, 118, 105, 99, 116]) = false /\ (s == [105, 110, 99]) = false /\ (s == [100, 101, 99]) = false /\ (s == [99, 111, 111, 108]) = false /\ ((s == [100, 114, 111, 112]) = true \/ ((s == [100, 114, 111, 112]) = false /\ (s == [98, 117, 109, 112]) = true)) := by
 simp only [oneB, Bool.or_eq_true, beq_iff_eq, not_or] at h3
 refine ⟨by simpa using h1, by simpa using h2, by simpa using h3.1.1.1, by simpa using h3.1.1.2, by simpa using h3.1.2, by simpa using h3.2, ?_⟩
 simp only [zeroB, Bool.or_eq_true, beq_iff_eq] at h
 rcases h with e | e <;> rw [e] <;> decide
theorem plain_zero {w : World} {b : Nat} {l : List UInt8} {t : Tok} {bl lo : Nat} {X Y : Value} (h : Rw w b l t bl lo X Y) (hw1 : ¬ t.txt = [112, 117, 116]) (hw2 : ¬ t.txt = [115, 104, 105, 102, 116]) (hw3 : ¬ oneB t.txt = true) (hw : zeroB t.txt = true) :
  Calls Tryz.prog 152 #[ptr b] w fun e w' => Out w b l bl lo X Y (fun s => .agg (stA s nilV nilV)) (plainS l t) e w' := by
 have hgt := h.gt
 have HQ : Hid (plainS l t = semi l (stW t.txt) (nx l t)) := by
  show _ = _
  unfold plainS; rw [if_neg hw1, if_neg hw2, if_neg hw3, if_pos hw]
 generalize plainS l t = r at *
 obtain ⟨c0, c1, c2, c3, c4, c5⟩ := h.rd.cells
 obtain ⟨b1, b2, b3, b4, b5, b6, hb⟩ := zero_cases t.txt hw1 hw2 hw3 hw
 clear hw hw1 hw2 hw3
 rcases hb with b7 | ⟨b7, b8⟩
 all_goals
  go_enter Tryz.func152, Tryz.ntmps152
  go_upto_region 1 with fail
  refine wp_region_lit ?_
  iterate 21 go_step
  refine store_new h rfl 226 (.tmp 3) (.tmp 9) rfl (stA (stW t.txt) nilV nilV) rfl rfl (by kernel_rfl) rfl (by simp [Value.oneCell']) ?_
  intro W0 h0 hO0 hC0
  have z0 : w.heap.size + 1 < W0.heap.size := (Array.getElem?_eq_some_iff.1 hC0).1
  clear c0 c1 c2 c3 c4 c5
  obtain ⟨cc, cf⟩ := blk_cells hC0
  go_wp2_with fail
  refine (step_r h0.r).mono ?_
  rintro e w1 ⟨rfl, R1⟩
  have H1 := RB.trans (w0 := w) (t := t) (bl := bl) (lo := lo) (by repeat (first | refine RB.set ?_ (by first | exact Nat.le_refl _ | omega | (simp; omega)) _ _ | refine RB.alloc ?_ _ | refine RB.drew ?_ | exact h0)) R1
  have hO1 := (R1.k.block w.heap.size (by first | omega | (simp [World.setCell]; omega)) (by omega)).trans hO0
  have hC1 : w1.heap[w.heap.size + 1]? = some (.cells (stA (stW t.txt) nilV nilV) 226) := (R1.k.block (w.heap.size + 1) (by first | omega | (simp [World.setCell]; omega)) (by omega)).trans (hC0.trans rfl)
  have z1 : w.heap.size + 1 < w1.heap.size := (Array.getElem?_eq_some_iff.1 hC1).1
  clear R1 cc cf hO0 hC0
  obtain ⟨cc, cf⟩ := blk_cells hC1
  go_wp2_with fail
  by_cases hsm : (nx l t).txt = [59]
  ·refine (need_yes (l := l) (t := nx l t) (bl := bl) (lo := lo) (X := X) (Y := Y) [59] (RB.r (w0 := w) (l := l) (t := nx l t) (bl := bl) (lo := lo) (X := X) (Y := Y) (by repeat (first | refine RB.set ?_ (by first | exact Nat.le_refl _ | omega | (simp; omega)) _ _ | refine RB.alloc ?_ _ | refine RB.drew ?_ | exact H1))) hsm).mono ?_
   rintro e we ⟨rfl, Re⟩
   have He := RB.trans (w0 := w) (t := nx l t) (bl := bl) (lo := lo) (by repeat (first | refine RB.set ?_ (by first | exact Nat.le_refl _ | omega | (simp; omega)) _ _ | refine RB.alloc ?_ _ | refine RB.drew ?_ | exact H1)) Re
   have hOe := (Re.k.block w.heap.size (by first | omega | (simp [World.setCell]; omega)) (by omega)).trans hO1
   have hCe : we.heap[w.heap.size + 1]? = some (.cells (stA (stW t.txt) nilV nilV) 226) := (Re.k.block (w.heap.size + 1) (by first | omega | (simp [World.setCell]; omega)) (by omega)).trans (hC1.trans rfl)
   have HE : Hid (r = .ok (stW t.txt, nx l (nx l t))) := by show _ = _; rw [HQ.out]; unfold semi; rw [if_pos hsm]
   clear cc cf Re hO1 hC1 HQ
   go_upto_region 23 with fail
   refine wp_region_lit ?_
   refine wpList_load_row rfl 226 (.tmp 3) rfl (w.heap.size + 1) rfl 226 (stA (stW t.txt) nilV nilV) (0, 0) _ (hCe) Tryz.underlying226 rfl (by kernel_rfl) ?_
   refine wpList_store_row rfl 226 (.tmp 2) (.tmp 55) rfl (w.heap.size) (stA (stW t.txt) nilV nilV) rfl rfl 226 (stA (stW []) nilV nilV) (hOe) (by kernel_rfl) rfl (by simp [Value.oneCell']) ?_
   go_wp2_with fail
   rw [HE.out]
   refine ⟨rfl, _, res_cell Tryz.results152 _ _ w.heap.size _ 226 _ rfl (setRow_heap _ _ _ _ _ _ hOe) Tryz.underlying226 rfl (by kernel_rfl), ?_, ?_⟩
   ·rfl
   ·refine RB.setRow ?_ (Nat.le_refl _) _; repeat (first | refine RB.set ?_ (by first | exact Nat.le_refl _ | omega | (simp; omega)) _ _ | refine RB.alloc ?_ _ | refine RB.drew ?_ | exact He)
  ·refine (need_no (l := l) (t := nx l t) (bl := bl) (lo := lo) (X := X) (Y := Y) [59] (RB.r (w0 := w) (l := l) (t := nx l t) (bl := bl) (lo := lo) (X := X) (Y := Y) (by repeat (first | refine RB.set ?_ (by first | exact Nat.le_refl _ | omega | (simp; omega)) _ _ | refine RB.alloc ?_ _ | refine RB.drew ?_ | exact H1))) hsm).mono ?_
   rintro e we h3
   obtain ⟨f, rfl, h2⟩ := h3.from (RB.k (w0 := w) (l := l) (t := nx l t) (bl := bl) (lo := lo) (X := X) (Y := Y) (by repeat (first | refine RB.set ?_ (by first | exact Nat.le_refl _ | omega | (simp; omega)) _ _ | refine RB.alloc ?_ _ | refine RB.drew ?_ | exact H1)))
   have HE : Hid (r = .error (false, (nx l t).pos)) := by show _ = _; rw [HQ.out]; unfold semi; rw [if_neg hsm]
   clear h3 cc cf HQ
   go_wp2_with fail
   rw [HE.out]
   exact ⟨rfl, f, rfl, h2⟩
theorem none_cases (s : List UInt8) (h1 : ¬ s = [112, 117, 116]) (h2 : ¬ s = [115, 104, 105, 102, 116]) (h3 : ¬ oneB s = true) (h : ¬ zeroB s = true) :
  (s == [112, 117, 116]) = false /\ (s == [115, 104, 105, 102, 116]) = false /\ (s == [101, 118, 105, 99, 116]) = false /\ (s == [105, 110, 99]) = false /\ (s == [100, 101, 99]) = false /\ (s == [99, 111, 111, 108]) = false /\ (s == [100, 114, 111, 112]) = false /\ (s == [98, 117, 109, 112]) = false := by
 simp only [oneB, Bool.or_eq_true, beq_iff_eq, not_or] at h3
 simp only [zeroB, Bool.or_eq_true, beq_iff_eq, not_or] at h
 exact ⟨by simpa using h1, by simpa using h2, by simpa using h3.1.1.1, by simpa using h3.1.1.2, by simpa using h3.1.2, by simpa using h3.2, by simpa using h.1, by simpa using h.2⟩
theorem plain_none {w : World} {b : Nat} {l : List UInt8} {t : Tok} {bl lo : Nat} {X Y : Value} (h : Rw w b l t bl lo X Y) (hw1 : ¬ t.txt = [112, 117, 116]) (hw2 : ¬ t.txt = [115, 104, 105, 102, 116]) (hw3 : ¬ oneB t.txt = true) (hw : ¬ zeroB t.txt = true) :
  Calls Tryz.prog 152 #[ptr b] w fun e w' => Out w b l bl lo X Y (fun s => .agg (stA s nilV nilV)) (plainS l t) e w' := by
 have hgt := h.gt
 have HQ : Hid (plainS l t = .error (false, t.pos)) := by
  show _ = _
  unfold plainS; rw [if_neg hw1, if_neg hw2, if_neg hw3, if_neg hw]
 generalize plainS l t = r at *
 obtain ⟨c0, c1, c2, c3, c4, c5⟩ := h.rd.cells
 obtain ⟨b1, b2, b3, b4, b5, b6, b7, b8⟩ := none_cases t.txt hw1 hw2 hw3 hw
 clear hw hw1 hw2 hw3
 go_enter Tryz.func152, Tryz.ntmps152
 go_upto_region 1 with fail
 refine wp_region_lit ?_
 iterate 21 go_step
 refine store_new h rfl 226 (.tmp 3) (.tmp 9) rfl (stA (stW t.txt) nilV nilV) rfl rfl (by kernel_rfl) rfl (by simp [Value.oneCell']) ?_
 intro W0 h0 hO0 hC0
 obtain ⟨cc, cf⟩ := blk_cells hC0
 have hg := h0.r.syn
 clear c0 c1 c2 c3 c4 c5
 go_wp2_with fail
 refine (leave_r X h0.r).mono ?_
 rintro e we h3
 obtain ⟨f, rfl, h2⟩ := h3.from h0.k
 clear h3 cc cf hg
 go_wp2_with fail
 rw [HQ.out]
 exact ⟨rfl, f, rfl, h2⟩
theorem plain_any {w : World} {b : Nat} {l : List UInt8} {t : Tok} {bl lo : Nat} {X Y : Value} (h : Rw w b l t bl lo X Y) :
  Calls Tryz.prog 152 #[ptr b] w fun e w' => Out w b l bl lo X Y (fun s => .agg (stA s nilV nilV)) (plainS l t) e w' := by
 by_cases h1 : t.txt = [112, 117, 116]
 ·exact plain_put h h1
 ·by_cases h2 : t.txt = [115, 104, 105, 102, 116]
  ·exact plain_shift h h2
  ·by_cases h3 : oneB t.txt = true
   ·exact plain_one h h1 h2 h3
   ·by_cases h4 : zeroB t.txt = true
    ·exact plain_zero h h1 h2 h3 h4
    ·exact plain_none h h1 h2 h3 h4
end Go.Proofs.YtfddoieakfpagabGreatDoor
