import Derived.WalkKit
import Derived.WalkSpells
import Derived.WalkLawsBesides
import Derived.Lib.Bytealg
import Derived.Laws.ResultCell
import Derived.Lib.IndexAny
import Derived.Deep.RegionWith
import Derived.BigRegion
import Derived.Deep.LoopGhost
import Derived.Deep.DeepMust
import Derived.Deep.Cut
import Derived.Test.YtfddoieakfpagaaGreatDoorProg
namespace Go.Proofs.YtfddoieakfpagaaGreatDoor
set_option maxHeartbeats 4000000
set_option maxRecDepth 20000
open Go.RowKit
theorem zS (w : World) (a : Addr) (u : Value) (k : Nat) (h : k ≠ a.block) : (w.setCell a u).heap[k]? = w.heap[k]? := Below.heap_setCell w a u k h
theorem zM (w : World) (o : Obj) (k : Nat) (h : k < w.heap.size) : (w.alloc o).heap[k]? = w.heap[k]? := Below.heap_alloc w o k h
theorem zL {α : Type} {i : Nat} {b : α} {xs : Array α} (h : xs[i]? = some b) : i < xs.size := (Array.getElem?_eq_some_iff.1 h).1
theorem zR {n : Nat} : n <= n := Nat.le_refl n
def aFf (c : Int) : Bool := c == 32 || c == 10
def sH (c : Int) : Bool := decide (97 <= c) && decide (c <= 122)
def uH (c : Int) : Bool := decide (48 <= c) && decide (c <= 57)
theorem aCf (c : Int) (w : World) :
  Calls Tryz.prog 125 #[.int .u8 c] w fun e w' => e = .returned (.bool (aFf c)) /\ w' = w := by
 go_enter Tryz.func125, Tryz.ntmps125
 go_wp2
 all_goals go_ret
 all_goals exact ⟨by simp [aFf, *], rfl⟩
theorem aAh (c : Int) (w : World) (h0 : 0 <= c) (h1 : c <= 255) :
  Calls Tryz.prog 126 #[.int .u8 c] w fun e w' => e = .returned (.bool (sH c)) /\ w' = w := by
 go_enter Tryz.func126, Tryz.ntmps126
 go_wp2
 all_goals go_ret
 ·exact ⟨by simp [sH, *], rfl⟩
 ·exact ⟨by simp [sH]; omega, rfl⟩
theorem aCe (c : Int) (w : World) (h0 : 0 <= c) (h1 : c <= 255) :
  Calls Tryz.prog 129 #[.int .u8 c] w fun e w' => e = .returned (.bool (uH c)) /\ w' = w := by
 go_enter Tryz.func129, Tryz.ntmps129
 go_wp2
 all_goals go_ret
 ·exact ⟨by simp [uH, *], rfl⟩
 ·exact ⟨by simp [uH]; omega, rfl⟩
def aFe (c : UInt8) : Bool := aFf (c.toNat : Int)
def dU (c : UInt8) : Bool := sH (c.toNat : Int)
def dN (c : UInt8) : Bool := uH (c.toNat : Int)
def pO (c : UInt8) : Bool := c == 59 || c == 123 || c == 125 || c == 60
abbrev S (l : List UInt8) : Value := .string ⟨l.toArray⟩
def aAg : List (List UInt8) := [[113, 117, 101, 117, 101], [103, 104, 111, 115, 116], [118, 97, 114], [102, 114, 101, 113], [111, 110], [109, 105, 115, 115], [112, 117, 116], [116, 97, 105, 108], [101, 118, 105, 99, 116], [115, 104, 105, 102, 116], [100, 114, 111, 112], [105, 110, 99], [100, 101, 99], [98, 117, 109, 112], [99, 111, 111, 108], [105, 102], [101, 108, 115, 101], [114, 101, 112, 101, 97, 116], [119, 104, 105, 108, 101], [110, 111, 116], [102, 117, 108, 108], [101, 109, 112, 116, 121], [119, 97, 114, 109], [108, 101, 110]]
def O8 (l : List UInt8) : Bool := aAg.contains l
theorem aBd {α : Type} (p : α -> Bool) : ∀ (l : List α) (k : Nat) (_ : k < (l.takeWhile p).length) (h2 : k < l.length), p l[k] = true
 | [], _, h, _ => by simp at h
 | a :: l, k, h, h2 => by
  by_cases hp : p a = true
  ·cases k with
   | zero => simpa using hp
   | succ k => simp [hp] at h; simpa using aBd p l k h (by simpa using h2)
  ·simp [hp] at h
theorem aBe {α : Type} (p : α -> Bool) : ∀ (l : List α) (k : Nat) (_ : k = (l.takeWhile p).length) (h2 : k < l.length), p l[k] = false
 | [], _, _, h2 => by simp at h2
 | a :: l, k, h, h2 => by
  by_cases hp : p a = true
  ·cases k with
   | zero => simp [hp] at h
   | succ k => simp [hp] at h; simpa using aBe p l k h (by simpa using h2)
  ·simp [hp] at h; subst h; simpa using hp
theorem wX {α : Type} (p : α -> Bool) (l : List α) : (l.takeWhile p).length <= l.length := (List.takeWhile_prefix p).length_le
theorem sG {α : Type} (p : α -> Bool) : ∀ (l : List α), l.take (l.takeWhile p).length = l.takeWhile p
 | [] => rfl
 | a :: l => by
  by_cases hp : p a = true
  ·simp [hp, sG p l]
  ·simp [hp]
theorem sN (c : UInt8) (w : World) :
  Calls Tryz.prog 125 #[.int .u8 (c.toNat : Int)] w fun e w' => e = .returned (.bool (aFe c)) /\ w' = w := aCf _ _
theorem aFr (c : UInt8) : (0 : Int) <= (c.toNat : Int) := by omega
theorem aFq (c : UInt8) : (c.toNat : Int) <= 255 := by have := c.toNat_lt; omega
theorem nI (c : UInt8) (w : World) :
  Calls Tryz.prog 126 #[.int .u8 (c.toNat : Int)] w fun e w' => e = .returned (.bool (dU c)) /\ w' = w := aAh _ _ (aFr c) (aFq c)
theorem sK (c : UInt8) (w : World) :
  Calls Tryz.prog 129 #[.int .u8 (c.toNat : Int)] w fun e w' => e = .returned (.bool (dN c)) /\ w' = w := aCe _ _ (aFr c) (aFq c)
theorem aOn (l : List UInt8) (a b : Nat) : (ByteArray.mk l.toArray).extract a b = ⟨((l.take b).drop a).toArray⟩ := by
 apply ByteArray.ext
 rw [ByteArray.data_extract]
 simp [List.drop_take]
theorem wS (l : List UInt8) (k : Nat) (h : k < l.length) : (ByteArray.mk l.toArray)[k]'(by simpa [ByteArray.size] using h) = l[k] := rfl
theorem D8 (l : List UInt8) (w : World) (hs : l.length <= 700) :
  Calls Tryz.prog 128 #[S l, .func (.func 126) #[] #[]] w fun e w' => e = .returned (S (l.takeWhile dU)) /\ w' = w := by
 unfold S
 have aQk := aOn l
 have hle := wX dU l
 go_enter Tryz.func128, Tryz.ntmps128
 go_wp2_with fail
 go_loop [5] (fun n => ∃ k : Nat, k <= (l.takeWhile dU).length /\ n = .int .i64 k) (fun i => 1000 - (intOf i).toNat)
 case atStart => exact ⟨0, Nat.zero_le _, rfl⟩
 case round =>
  obtain ⟨k, hk, rfl⟩ := hrel
  by_cases hlt : k < l.length
  ·have hg := wS l k hlt
   by_cases hq : k < (l.takeWhile dU).length
   ·have hb := aBd dU l k hq hlt
    go_wp2_with (go_at_call 126; refine (nI _ _).mono ?_; rintro e w' ⟨rfl, rfl⟩)
    go_round
    case rel => exact ⟨k + 1, by omega, by go_num⟩
    case measure => simp [intOf]; omega
   ·have hb := aBe dU l k (by omega) hlt
    go_wp2_with (go_at_call 126; refine (nI _ _).mono ?_; rintro e w' ⟨rfl, rfl⟩)
    go_ret
    refine ⟨?_, rfl⟩
    have e : k = (l.takeWhile dU).length := by omega
    rw [<- sG dU l, <- e]; rfl
  ·go_wp2_with fail
   go_ret
   refine ⟨?_, rfl⟩
   have e : k = (l.takeWhile dU).length := by omega
   rw [<- sG dU l, <- e]; rfl
theorem O7 (l : List UInt8) (w : World) (hs : l.length <= 700) :
  Calls Tryz.prog 128 #[S l, .func (.func 129) #[] #[]] w fun e w' => e = .returned (S (l.takeWhile dN)) /\ w' = w := by
 unfold S
 have aQk := aOn l
 have hle := wX dN l
 go_enter Tryz.func128, Tryz.ntmps128
 go_wp2_with fail
 go_loop [5] (fun n => ∃ k : Nat, k <= (l.takeWhile dN).length /\ n = .int .i64 k) (fun i => 1000 - (intOf i).toNat)
 case atStart => exact ⟨0, Nat.zero_le _, rfl⟩
 case round =>
  obtain ⟨k, hk, rfl⟩ := hrel
  by_cases hlt : k < l.length
  ·have hg := wS l k hlt
   by_cases hq : k < (l.takeWhile dN).length
   ·have hb := aBd dN l k hq hlt
    go_wp2_with (go_at_call 129; refine (sK _ _).mono ?_; rintro e w' ⟨rfl, rfl⟩)
    go_round
    case rel => exact ⟨k + 1, by omega, by go_num⟩
    case measure => simp [intOf]; omega
   ·have hb := aBe dN l k (by omega) hlt
    go_wp2_with (go_at_call 129; refine (sK _ _).mono ?_; rintro e w' ⟨rfl, rfl⟩)
    go_ret
    refine ⟨?_, rfl⟩
    have e : k = (l.takeWhile dN).length := by omega
    rw [<- sG dN l, <- e]; rfl
  ·go_wp2_with fail
   go_ret
   refine ⟨?_, rfl⟩
   have e : k = (l.takeWhile dN).length := by omega
   rw [<- sG dN l, <- e]; rfl
theorem tN (l : List UInt8) (w : World) :
  Calls Tryz.prog 165 #[S l] w fun e w' => e = .returned (.bool (O8 l)) /\ w' = w := by
 unfold S
 go_enter Tryz.func165, Tryz.ntmps165
 go_wp2
 all_goals first | (exfalso; simp_all; done) | skip
 all_goals go_ret
 all_goals refine ⟨?_, rfl⟩
 all_goals (simp_all [O8, aAg]; done)
theorem aNx (s : ByteArray) (c : Int) (w : World) :
  (callFunc 203 #[.string s, .int .u8 c]).run Tryz.prog w = .ok (.value (.int .i64 (Lib.indexByte s.data.toList c.toNat.toUInt8))) w := by
 rw [run_callFunc_extern Tryz.func203 (by kernel_rfl) (by kernel_rfl) (by kernel_rfl) (e := Extern.BytealgIndexByte.indexByte) (by kernel_rfl), Lib.run_indexByteString]
 rfl
theorem aM1 (c : UInt8) : decide (0 <= Lib.indexByte [59, 123, 125, 60] c) = pO c := by
 rw [<- Lib.contains_iff_indexByte, Bool.eq_iff_iff]
 simp [pO, or_assoc]
theorem aKl (c : UInt8) (w : World) :
  Calls Tryz.prog 131 #[.int .u8 (c.toNat : Int)] w fun e w' => e = .returned (.bool (pO c)) /\ w' = w := by
 have hi := aNx
 have hc := aM1 c
 have hu : ((c.toNat : Int).toNat.toUInt8) = c := by simp
 go_enter Tryz.func131, Tryz.ntmps131
 go_wp2
 all_goals go_ret
 all_goals exact ⟨by simp [*], rfl⟩
structure Tok where
 kind : Nat
 txt : List UInt8
 pos : Nat
abbrev qQ (t : Tok) : Value := .agg #[.int .i64 t.kind, .string ⟨t.txt.toArray⟩, .int .i64 t.pos]
def jW (l : List UInt8) (i : Nat) : Tok := if 8 < l.length then ⟨0, [], i⟩ else if O8 l then ⟨4, l, i⟩ else ⟨2, l, i⟩
def qG (l : List UInt8) (i : Nat) : Tok := if 3 < l.length then ⟨0, [], i⟩ else ⟨3, l, i⟩
theorem O5 (l : List UInt8) (i : Nat) (w : World) (hl : l.length <= 700) (_hi : i <= 700) :
  Calls Tryz.prog 127 #[S l, .int .i64 i] w fun e w' => e = .returned (qQ (jW l i)) /\ Below w.heap.size w w' := by
 unfold S
 by_cases h8 : 8 < l.length
 ·go_enter Tryz.func127, Tryz.ntmps127
  go_wp2
  exact bodyPost_ret (v := .agg #[.int .i64 0, .string ⟨#[]⟩, .int .i64 i]) (by simp [results, Tryz.results127, go_sem]) rfl ⟨by simp [qQ, jW, h8], (Below.refl _ _).alloc zR _⟩
 ·cases hk : O8 l with
  | true =>
   go_enter Tryz.func127, Tryz.ntmps127
   go_wp2_with (go_at_call 165; refine (tN _ _).mono ?_; rintro e w' ⟨rfl, rfl⟩)
   exact bodyPost_ret (v := .agg #[.int .i64 4, .string ⟨l.toArray⟩, .int .i64 i]) (by simp [results, Tryz.results127, go_sem]) rfl ⟨by simp [qQ, jW, h8, hk], (Below.refl _ _).alloc zR _⟩
  | false =>
   go_enter Tryz.func127, Tryz.ntmps127
   go_wp2_with (go_at_call 165; refine (tN _ _).mono ?_; rintro e w' ⟨rfl, rfl⟩)
   exact bodyPost_ret (v := .agg #[.int .i64 2, .string ⟨l.toArray⟩, .int .i64 i]) (by simp [results, Tryz.results127, go_sem]) rfl ⟨by simp [qQ, jW, h8, hk], (Below.refl _ _).alloc zR _⟩
theorem xN (l : List UInt8) (i : Nat) (w : World) (hl : l.length <= 700) :
  Calls Tryz.prog 130 #[S l, .int .i64 i] w fun e w' => e = .returned (qQ (qG l i)) /\ Below w.heap.size w w' := by
 unfold S
 by_cases h8 : 3 < l.length
 ·go_enter Tryz.func130, Tryz.ntmps130
  go_wp2
  exact bodyPost_ret (v := .agg #[.int .i64 0, .string ⟨#[]⟩, .int .i64 i]) (by simp [results, Tryz.results130, go_sem]) rfl ⟨by simp [qQ, qG, h8], (Below.refl _ _).alloc zR _⟩
 ·go_enter Tryz.func130, Tryz.ntmps130
  go_wp2
  exact bodyPost_ret (v := .agg #[.int .i64 3, .string ⟨l.toArray⟩, .int .i64 i]) (by simp [results, Tryz.results130, go_sem]) rfl ⟨by simp [qQ, qG, h8], (Below.refl _ _).alloc zR _⟩
def skip (l : List UInt8) (i : Nat) : Nat := i + ((l.drop i).takeWhile aFe).length
def aN (l : List UInt8) (i : Nat) : Tok :=
 match l.drop (skip l i) with
 | [] => ⟨1, [], skip l i⟩
 | c :: r => if dU c then jW ((c :: r).takeWhile dU) (skip l i) else if dN c then qG ((c :: r).takeWhile dN) (skip l i) else if pO c then ⟨4, [c], skip l i⟩ else ⟨0, [], skip l i⟩
theorem xZ (l : List UInt8) (i : Nat) : i <= skip l i := Nat.le_add_right _ _
theorem Z7 (l : List UInt8) (i : Nat) (h : i <= l.length) : skip l i <= l.length := by
 have := wX aFe (l.drop i); simp at this; unfold skip; omega
theorem aFy (l : List UInt8) (i k : Nat) (h1 : i <= k) (h2 : k < skip l i) (h3 : k < l.length) : aFe l[k] = true := by
 have := aBd aFe (l.drop i) (k - i) (by unfold skip at h2; omega) (by simp; omega)
 simpa [Nat.add_sub_cancel' h1] using this
theorem aFz (l : List UInt8) (i : Nat) (h3 : skip l i < l.length) : aFe l[skip l i] = false := by
 have := aBe aFe (l.drop i) (skip l i - i) (by unfold skip; omega) (by simp [skip] at *; omega)
 have e : i + (skip l i - i) = skip l i := by have := xZ l i; omega
 simpa [e] using this
theorem aPb {W w1 : World} (hb : Below W.heap.size W w1) : (∀ b o, b < W.heap.size -> w1.cell? ⟨b, o, none⟩ = W.cell? ⟨b, o, none⟩) /\ (∀ b o, b < W.heap.size -> w1.frozen? ⟨b, o, none⟩ = W.frozen? ⟨b, o, none⟩) :=
 ⟨fun b o h => hb.cell (p := ⟨b, o, none⟩) h, fun b o h => hb.frozen (p := ⟨b, o, none⟩) h⟩
theorem drop_cons (l : List UInt8) (j : Nat) (h : j < l.length) : l.drop j = l[j] :: l.drop (j + 1) := List.drop_eq_getElem_cons h
theorem kW (l : List UInt8) (i : Nat) (h : ¬ skip l i < l.length) : aN l i = ⟨1, [], skip l i⟩ := by
 unfold aN; rw [List.drop_of_length_le (by omega)]
theorem jS (l : List UInt8) (i : Nat) (h : skip l i < l.length) (h1 : dU l[skip l i] = true) : aN l i = jW ((l.drop (skip l i)).takeWhile dU) (skip l i) := by
 unfold aN; rw [drop_cons l _ h]; simp only [h1, if_true]
theorem kX (l : List UInt8) (i : Nat) (h : skip l i < l.length) (h1 : dU l[skip l i] = false) (h2 : dN l[skip l i] = true) : aN l i = qG ((l.drop (skip l i)).takeWhile dN) (skip l i) := by
 unfold aN; rw [drop_cons l _ h]; simp only [h1, h2, if_true, Bool.false_eq_true, if_false]
theorem kV (l : List UInt8) (i : Nat) (h : skip l i < l.length) (h1 : dU l[skip l i] = false) (h2 : dN l[skip l i] = false) (h3 : pO l[skip l i] = true) : aN l i = ⟨4, [l[skip l i]], skip l i⟩ := by
 unfold aN; rw [drop_cons l _ h]; simp only [h1, h2, h3, if_true, Bool.false_eq_true, if_false]
theorem jT (l : List UInt8) (i : Nat) (h : skip l i < l.length) (h1 : dU l[skip l i] = false) (h2 : dN l[skip l i] = false) (h3 : pO l[skip l i] = false) : aN l i = ⟨0, [], skip l i⟩ := by
 unfold aN; rw [drop_cons l _ h]; simp only [h1, h2, h3, Bool.false_eq_true, if_false]
theorem tk1 (l : List UInt8) (j : Nat) (h : j < l.length) : (l.take (j + 1)).drop j = [l[j]] := by
 rw [List.drop_take, drop_cons l j h, Nat.add_sub_cancel_left]; rfl
theorem wY (l : List UInt8) (i : Nat) (w : World) (hl : l.length <= 700) (hi : i <= l.length) :
  Calls Tryz.prog 97 #[S l, .int .i64 i] w fun e w' => e = .returned (qQ (aN l i)) /\ Below w.heap.size w w' := by
 unfold S
 have hge := xZ l i
 have hle := Z7 l i hi
 have hlt := aFy l i
 have hat := aFz l i
 have HE : Hid (¬ skip l i < l.length -> aN l i = ⟨1, [], skip l i⟩) := kW l i
 have HW : Hid (∀ (h : skip l i < l.length), dU l[skip l i] = true -> aN l i = jW ((l.drop (skip l i)).takeWhile dU) (skip l i)) := jS l i
 have HD : Hid (∀ (h : skip l i < l.length), dU l[skip l i] = false -> dN l[skip l i] = true -> aN l i = qG ((l.drop (skip l i)).takeWhile dN) (skip l i)) := kX l i
 have HS : Hid (∀ (h : skip l i < l.length), dU l[skip l i] = false -> dN l[skip l i] = false -> pO l[skip l i] = true -> aN l i = ⟨4, [l[skip l i]], skip l i⟩) := kV l i
 have HN : Hid (∀ (h : skip l i < l.length), dU l[skip l i] = false -> dN l[skip l i] = false -> pO l[skip l i] = false -> aN l i = ⟨0, [], skip l i⟩) := jT l i
 generalize aN l i = t at *
 generalize skip l i = j at *
 have aQk := aOn l
 go_enter Tryz.func97, Tryz.ntmps97
 go_wp2_with fail
 go_loop [1] (fun n => ∃ k : Nat, i <= k /\ k <= j /\ n = .int .i64 k) (fun i => 1000 - (intOf i).toNat)
 case atStart => exact ⟨i, zR, hge, rfl⟩
 case round =>
  obtain ⟨k, hk1, hk2, rfl⟩ := hrel
  by_cases hkj : k < j
  ·have hkl : k < l.length := by omega
   have hg := wS l k hkl
   have hb := hlt k hk1 hkj hkl
   clear hlt hat
   go_wp2_with (go_at_call 125; refine (sN _ _).mono ?_; rintro e w' ⟨rfl, rfl⟩)
   go_round
   case rel => exact ⟨k + 1, by omega, by omega, by go_num⟩
   case measure => simp [intOf]; omega
  ·have e : k = j := by omega
   subst e
   by_cases hkl : k < l.length
   ·have hg := wS l k hkl
    have hb := hat hkl
    have htk := tk1 l k hkl
    clear hlt hat
    cases hL : dU l[k] with
    | true =>
     have hdl : (l.drop k).length <= 700 := by simp; omega
     have htl : ((l.drop k).takeWhile dU).length <= 700 := Nat.le_trans (wX _ _) hdl
     go_wp2_with (first | (go_at_call 125; refine (sN _ _).mono ?_; rintro e w' ⟨rfl, rfl⟩) | (go_at_call 126; refine (nI _ _).mono ?_; rintro e w' ⟨rfl, rfl⟩) | (go_at_call 128; refine (D8 _ _ hdl).mono ?_; rintro e w' ⟨rfl, rfl⟩) | (go_at_call 127; refine (O5 _ _ _ htl (by omega)).mono ?_; rintro e w1 ⟨rfl, hb1⟩; obtain ⟨hc, hf⟩ := aPb hb1))
     refine bodyPost_ret (v := qQ (jW ((l.drop k).takeWhile dU) k)) (by simp [results, Tryz.results97, go_sem, hc]) rfl ⟨by rw [HW.out hkl hL], ?_⟩
     exact (((((Below.refl _ _).alloc zR _).trans (hb1.mono (by simp))).setCell (by simp) _).setCell (by simp) _).setCell (by simp) _
    | false =>
    cases hD : dN l[k] with
    | true =>
     have hdl : (l.drop k).length <= 700 := by simp; omega
     have htl : ((l.drop k).takeWhile dN).length <= 700 := Nat.le_trans (wX _ _) hdl
     go_wp2_with (first | (go_at_call 125; refine (sN _ _).mono ?_; rintro e w' ⟨rfl, rfl⟩) | (go_at_call 126; refine (nI _ _).mono ?_; rintro e w' ⟨rfl, rfl⟩) | (go_at_call 129; refine (sK _ _).mono ?_; rintro e w' ⟨rfl, rfl⟩) | (go_at_call 128; refine (O7 _ _ hdl).mono ?_; rintro e w' ⟨rfl, rfl⟩) | (go_at_call 130; refine (xN _ _ _ htl).mono ?_; rintro e w1 ⟨rfl, hb1⟩; obtain ⟨hc, hf⟩ := aPb hb1))
     refine bodyPost_ret (v := qQ (qG ((l.drop k).takeWhile dN) k)) (by simp [results, Tryz.results97, go_sem, hc]) rfl ⟨by rw [HD.out hkl hL hD], ?_⟩
     exact (((((Below.refl _ _).alloc zR _).trans (hb1.mono (by simp))).setCell (by simp) _).setCell (by simp) _).setCell (by simp) _
    | false =>
     go_wp2_with (first | (go_at_call 125; refine (sN _ _).mono ?_; rintro e w' ⟨rfl, rfl⟩) | (go_at_call 126; refine (nI _ _).mono ?_; rintro e w' ⟨rfl, rfl⟩) | (go_at_call 129; refine (sK _ _).mono ?_; rintro e w' ⟨rfl, rfl⟩) | (go_at_call 131; refine (aKl _ _).mono ?_; rintro e w' ⟨rfl, rfl⟩))
     ·exact bodyPost_ret (v := .agg #[.int .i64 4, .string ⟨#[l[k]]⟩, .int .i64 k]) (by simp [results, Tryz.results97, go_sem]) rfl ⟨by rw [HS.out hkl hL hD ‹_›]; simp [qQ], (Below.refl _ _).alloc zR _⟩
     ·exact bodyPost_ret (v := .agg #[.int .i64 0, .string ⟨#[]⟩, .int .i64 k]) (by simp [results, Tryz.results97, go_sem]) rfl ⟨by rw [HN.out hkl hL hD ‹_›]; simp [qQ], (Below.refl _ _).alloc zR _⟩
   ·clear hlt hat
    go_wp2_with fail
    exact bodyPost_ret (v := .agg #[.int .i64 1, .string ⟨#[]⟩, .int .i64 k]) (by simp [results, Tryz.results97, go_sem]) rfl ⟨by rw [HE.out hkl]; simp [qQ], (Below.refl _ _).alloc zR _⟩
structure But (b : Nat) (w w' : World) : Prop where
 os : w'.os = w.os
 tape : w'.tape = w.tape
 output : w'.output = w.output
 size : w.heap.size <= w'.heap.size
 block : ∀ k, k < w.heap.size -> k ≠ b -> w'.heap[k]? = w.heap[k]?
theorem But.refl (b : Nat) (w : World) : But b w w := ⟨rfl, rfl, rfl, zR, fun _ _ _ => rfl⟩
theorem But.trans {b : Nat} {x y z : World} (h : But b x y) (k : But b y z) : But b x z :=
 ⟨k.os.trans h.os, k.tape.trans h.tape, k.output.trans h.output, Nat.le_trans h.size k.size, fun i hi hn => (k.block i (Nat.lt_of_lt_of_le hi h.size) hn).trans (h.block i hi hn)⟩
theorem But.of_below {b : Nat} {w w' : World} (h : Below w.heap.size w w') : But b w w' :=
 ⟨h.os, h.tape, h.output, h.size, fun i hi _ => h.block i hi⟩
theorem But.drew {b : Nat} {a w : World} (h : But b a w) : But b a w.drew := ⟨h.os, h.tape, h.output, h.size, h.block⟩
theorem But.alloc {b : Nat} {a w : World} (h : But b a w) (o : Obj) : But b a (w.alloc o) :=
 h.trans ⟨rfl, rfl, rfl, by simp, fun k hk _ => zM _ _ _ hk⟩
theorem But.setCell {b : Nat} {a w : World} (h : But b a w) {p : Addr} (hp : a.heap.size <= p.block \/ p.block = b) (u : Value) : But b a (w.setCell p u) :=
 ⟨h.os, h.tape, h.output, by have := h.size; simpa [World.setCell] using this, fun k hk hn => by
  rw [zS _ _ _ _ (by rcases hp with hp | hp <;> omega)]; exact h.block k hk hn⟩
def U6 (l : List UInt8) (t : Tok) (bl lo : Nat) : Obj :=
 .cells #[.string ⟨l.toArray⟩, .int .i64 t.kind, .string ⟨t.txt.toArray⟩, .int .i64 t.pos, .int .i64 bl, .int .i64 lo] 195
def At (w : World) (b : Nat) (l : List UInt8) (t : Tok) (bl lo : Nat) : Prop := w.heap[b]? = some (U6 l t bl lo)
theorem At.lt {w : World} {b : Nat} {l : List UInt8} {t : Tok} {bl lo : Nat} (h : At w b l t bl lo) : b < w.heap.size := by
 unfold At at h
 exact (zL h)
theorem At.cells {w : World} {b : Nat} {l : List UInt8} {t : Tok} {bl lo : Nat} (h : At w b l t bl lo) :
  w.cell? ⟨b, 0, none⟩ = some (.string ⟨l.toArray⟩) /\ w.cell? ⟨b, 1, none⟩ = some (.int .i64 t.kind) /\ w.cell? ⟨b, 2, none⟩ = some (.string ⟨t.txt.toArray⟩) /\
  w.cell? ⟨b, 3, none⟩ = some (.int .i64 t.pos) /\ w.cell? ⟨b, 4, none⟩ = some (.int .i64 bl) /\ w.cell? ⟨b, 5, none⟩ = some (.int .i64 lo) := by
 unfold At U6 at h
 simp [World.cell?, h]
theorem At.frozen {w : World} {b : Nat} {l : List UInt8} {t : Tok} {bl lo : Nat} (h : At w b l t bl lo) (i : Nat) : w.frozen? ⟨b, i, none⟩ = false := by
 unfold At U6 at h
 simp [World.frozen?, h]
theorem At.keep {w w' : World} {b : Nat} {l : List UInt8} {t : Tok} {bl lo : Nat} (h : At w b l t bl lo) (hb : Below w.heap.size w w') : At w' b l t bl lo := by
 unfold At at *
 rw [hb.block b (At.lt h)]; exact h
theorem At.drew {w : World} {b : Nat} {l : List UInt8} {t : Tok} {bl lo : Nat} (h : At w b l t bl lo) : At w.drew b l t bl lo := h
theorem At.alloc {w : World} {b : Nat} {l : List UInt8} {t : Tok} {bl lo : Nat} (h : At w b l t bl lo) (o : Obj) : At (w.alloc o) b l t bl lo := by
 unfold At at *
 rw [zM _ _ _ (At.lt h)]; exact h
theorem At.setOther {w : World} {b : Nat} {l : List UInt8} {t : Tok} {bl lo : Nat} (h : At w b l t bl lo) (p : Addr) (u : Value) (hp : b ≠ p.block) : At (w.setCell p u) b l t bl lo := by
 unfold At at *
 rw [zS _ _ _ _ hp]; exact h
theorem aC {w : World} {o : Obj} {n : Nat} (h : n = w.heap.size) : (w.alloc o).heap[n]? = some o := by
 subst h; show (w.heap.push _)[w.heap.size]? = _; simp
theorem zC (w : World) (b o : Nat) (u : Value) (c : Array Value) (e : TypeId) (h : w.heap[b]? = some (.cells c e)) :
  (w.setCell ⟨b, o, none⟩ u).heap[b]? = some (.cells (c.setIfInBounds o u) e) := by
 simp only [World.setCell, Array.getElem?_modify, h]
 simp
theorem At.put {w : World} {b : Nat} {l : List UInt8} {t : Tok} {bl lo : Nat} (h : At w b l t bl lo) (t' : Tok) :
  At (((w.setCell ⟨b, 1, none⟩ (.int .i64 t'.kind)).setCell ⟨b, 2, none⟩ (.string ⟨t'.txt.toArray⟩)).setCell ⟨b, 3, none⟩ (.int .i64 t'.pos)) b l t' bl lo := by
 unfold At U6 at *
 rw [zC _ b 3 _ _ _ (zC _ b 2 _ _ _ (zC _ b 1 _ _ _ h))]
 rfl
theorem At.aNc {w : World} {b : Nat} {l : List UInt8} {t : Tok} {bl lo : Nat} (h : At w b l t bl lo) (bl' : Nat) : At (w.setCell ⟨b, 4, none⟩ (.int .i64 bl')) b l t bl' lo := by
 unfold At U6 at *
 rw [zC _ b 4 _ _ _ h]
 rfl
theorem At.aNb {w : World} {b : Nat} {l : List UInt8} {t : Tok} {bl lo : Nat} (h : At w b l t bl lo) (lo' : Nat) : At (w.setCell ⟨b, 5, none⟩ (.int .i64 lo')) b l t bl lo' := by
 unfold At U6 at *
 rw [zC _ b 5 _ _ _ h]
 rfl
theorem aIc (w : World) (b : Nat) (l : List UInt8) (t : Tok) (bl lo : Nat) (u : TypeId) (a : Value) (h : At w b l t bl lo) :
  Calls Tryz.prog 173 #[.pointer (some ⟨b, 0, none⟩), .iface u a] w fun e w' =>
   e = .panicked [{ v := .iface 113 (.pointer (some ⟨w.heap.size, 0, none⟩)), recovered := false }] /\ w' = w.alloc (.cells #[.iface u a, .int .i64 t.pos] 115) := by
 obtain ⟨c0, c1, c2, c3, c4, c5⟩ := h.cells
 go_enter Tryz.func173, Tryz.ntmps173
 go_wp2
 exact ⟨rfl, rfl, rfl⟩
theorem oO (l : List UInt8) (i : Nat) (h : i <= l.length) : (aN l i).pos + (aN l i).txt.length <= l.length := by
 have h1 := Z7 l i h
 by_cases hs : skip l i < l.length
 ·have hL := jS l i hs
  have hD := kX l i hs
  have hS := kV l i hs
  have hN := jT l i hs
  have ha := wX dU (l.drop (skip l i))
  have hb := wX dN (l.drop (skip l i))
  simp only [List.length_drop] at ha hb
  generalize aN l i = t at *
  generalize skip l i = j at *
  cases e1 : dU l[j] with
  | true => rw [hL e1]; unfold jW; split <;> (try split) <;> simp <;> omega
  | false =>
  cases e2 : dN l[j] with
  | true => rw [hD e1 e2]; unfold qG; split <;> simp <;> omega
  | false =>
  cases e3 : pO l[j] with
  | true => rw [hS e1 e2 e3]; simp; omega
  | false => rw [hN e1 e2 e3]; simp; omega
 ·rw [kW l i hs]; simpa using h1
def nx (l : List UInt8) (t : Tok) : Tok := aN l (t.pos + t.txt.length)
theorem aJl (w : World) (b : Nat) (l : List UInt8) (t : Tok) (bl lo : Nat) (h : At w b l t bl lo) (hl : l.length <= 700) (ht : t.pos + t.txt.length <= l.length) :
  Calls Tryz.prog 167 #[.pointer (some ⟨b, 0, none⟩)] w fun e w' => e = .returned (qQ t) /\ At w' b l (nx l t) bl lo /\ But b w w' := by
 obtain ⟨c0, c1, c2, c3, c4, c5⟩ := h.cells
 have hf := h.frozen
 have hlt := h.lt
 go_enter Tryz.func167, Tryz.ntmps167
 go_wp2
 have e1 : IntKind.i64.wrap ((t.pos : Int) + (t.txt.length : Int)) = ((t.pos + t.txt.length : Nat) : Int) := by rw [IntKind.wrap_i64]; omega
 go_region_with (go_at_call 97; refine (wY _ _ _ hl ht).mono ?_; rintro e w1 ⟨rfl, hb1⟩; have hA1 := ((h.alloc _).alloc _).drew.keep hb1; obtain ⟨d0, d1, d2, d3, d4, d5⟩ := hA1.cells; have hf1 := hA1.frozen; have g1 := fun o => hb1.cell (p := ⟨w.heap.size, o, none⟩) (by simp; omega); have g2 := fun o => hb1.cell (p := ⟨w.heap.size + 1, o, none⟩) (by simp); have g3 := fun o => hb1.frozen (p := ⟨w.heap.size, o, none⟩) (by simp; omega))
 all_goals go_wp2
 all_goals
  refine bodyPost_ret (v := qQ t) (by simp [results, Tryz.results167, go_sem, g1]) rfl ⟨rfl, ?_, ?_⟩
  ·exact (((hA1.put (aN l (t.pos + t.txt.length))).setOther _ _ (by simp; omega)).setOther _ _ (by simp; omega)).setOther _ _ (by simp; omega)
  ·exact (((((((((But.refl b w).alloc _).alloc _).drew.trans (But.of_below hb1)).setCell (Or.inr rfl) _).setCell (Or.inr rfl) _).setCell (Or.inr rfl) _).setCell (Or.inl zR) _).setCell (Or.inl zR) _).setCell (Or.inl zR) _
abbrev ptr (b : Nat) : Value := .pointer (some ⟨b, 0, none⟩)
abbrev PR (α : Type) := Except (Bool × Nat) (α × Tok)
structure Rw (w : World) (b : Nat) (l : List UInt8) (t : Tok) (bl lo : Nat) (X Y : Value) : Prop where
 rd : At w b l t bl lo
 syn : w.cell? ⟨14, 0, none⟩ = some (.iface 341 X)
 deep : w.cell? ⟨1, 0, none⟩ = some (.iface 341 Y)
 aJ5 : b ≠ 14
 aB5 : b ≠ 1
 len : l.length <= 700
 tk : ∃ i, i <= l.length /\ t = aN l i
theorem But.cell {b : Nat} {w w' : World} (h : But b w w') {k o : Nat} {v : Value} (hc : w.cell? ⟨k, o, none⟩ = some v) (hk : k ≠ b) : w'.cell? ⟨k, o, none⟩ = some v := by
 have hlt : k < w.heap.size := by
  by_cases e : k < w.heap.size
  ·exact e
  ·exfalso; unfold World.cell? at hc; simp [Array.getElem?_eq_none (Nat.le_of_not_lt e)] at hc
 rw [<- hc]
 exact World.cell?_of_block (w := w) (h.block k hlt hk)
theorem Rw.keep {w w' : World} {b : Nat} {l : List UInt8} {t t' : Tok} {bl lo bl' lo' : Nat} {X Y : Value} (h : Rw w b l t bl lo X Y) (hb : But b w w') (ha : At w' b l t' bl' lo') (ht : ∃ i, i <= l.length /\ t' = aN l i) : Rw w' b l t' bl' lo' X Y :=
 ⟨ha, hb.cell h.syn (Ne.symm h.aJ5), hb.cell h.deep (Ne.symm h.aB5), h.aJ5, h.aB5, h.len, ht⟩
theorem Rw.bnd {w : World} {b : Nat} {l : List UInt8} {t : Tok} {bl lo : Nat} {X Y : Value} (h : Rw w b l t bl lo X Y) : t.pos + t.txt.length <= l.length := by
 obtain ⟨i, hi, rfl⟩ := h.tk; exact oO l i hi
theorem Rw.nxt {w : World} {b : Nat} {l : List UInt8} {t : Tok} {bl lo : Nat} {X Y : Value} (h : Rw w b l t bl lo X Y) : ∃ i, i <= l.length /\ nx l t = aN l i := ⟨_, h.bnd, rfl⟩
theorem Rw.alloc {w : World} {b : Nat} {l : List UInt8} {t : Tok} {bl lo : Nat} {X Y : Value} (h : Rw w b l t bl lo X Y) (o : Obj) : Rw (w.alloc o) b l t bl lo X Y := h.keep ((But.refl b w).alloc o) (h.rd.alloc o) h.tk
theorem Rw.drew {w : World} {b : Nat} {l : List UInt8} {t : Tok} {bl lo : Nat} {X Y : Value} (h : Rw w b l t bl lo X Y) : Rw w.drew b l t bl lo X Y := h.keep (But.refl b w).drew h.rd.drew h.tk
theorem Rw.set {w : World} {b : Nat} {l : List UInt8} {t : Tok} {bl lo : Nat} {X Y : Value} (h : Rw w b l t bl lo X Y) {n o : Nat} (hn : n ≠ b) (hs : n ≠ 14) (hd : n ≠ 1) (u : Value) : Rw (w.setCell ⟨n, o, none⟩ u) b l t bl lo X Y :=
 ⟨h.rd.setOther _ _ (Ne.symm hn), (World.cell?_of_block (w := w) (zS w _ u 14 (Ne.symm hs))).trans h.syn, (World.cell?_of_block (w := w) (zS w _ u 1 (Ne.symm hd))).trans h.deep, h.aJ5, h.aB5, h.len, h.tk⟩
theorem Rw.gt {w : World} {b : Nat} {l : List UInt8} {t : Tok} {bl lo : Nat} {X Y : Value} (h : Rw w b l t bl lo X Y) : 14 < w.heap.size /\ 1 < w.heap.size /\ b < w.heap.size := by
 refine ⟨?_, ?_, h.rd.lt⟩
 ·by_cases e : 14 < w.heap.size
  ·exact e
  ·exfalso; have hc := h.syn; unfold World.cell? at hc; simp [Array.getElem?_eq_none (Nat.le_of_not_lt e)] at hc
 ·by_cases e : 1 < w.heap.size
  ·exact e
  ·exfalso; have hc := h.deep; unfold World.cell? at hc; simp [Array.getElem?_eq_none (Nat.le_of_not_lt e)] at hc
theorem But.loc {b : Nat} {W w1 : World} (hb : But b W w1) (n : Nat) (hn : n < W.heap.size) (hne : n ≠ b) :
  (∀ o, w1.cell? ⟨n, o, none⟩ = W.cell? ⟨n, o, none⟩) /\ (∀ o, w1.frozen? ⟨n, o, none⟩ = W.frozen? ⟨n, o, none⟩) :=
 ⟨fun o => World.cell?_of_block (w := W) (a := ⟨n, o, none⟩) (hb.block n hn hne), fun o => World.frozen?_of_block (w := W) (a := ⟨n, o, none⟩) (hb.block n hn hne)⟩
structure RB (w0 w : World) (b : Nat) (l : List UInt8) (t : Tok) (bl lo : Nat) (X Y : Value) : Prop where
 r : Rw w b l t bl lo X Y
 k : But b w0 w
 z : 14 < w0.heap.size /\ 1 < w0.heap.size /\ b < w0.heap.size
theorem RB.refl {w : World} {b : Nat} {l : List UInt8} {t : Tok} {bl lo : Nat} {X Y : Value} (h : Rw w b l t bl lo X Y) : RB w w b l t bl lo X Y := ⟨h, But.refl b w, h.gt⟩
theorem RB.alloc {w0 w : World} {b : Nat} {l : List UInt8} {t : Tok} {bl lo : Nat} {X Y : Value} (h : RB w0 w b l t bl lo X Y) (o : Obj) : RB w0 (w.alloc o) b l t bl lo X Y := ⟨h.r.alloc o, h.k.alloc o, h.z⟩
theorem RB.drew {w0 w : World} {b : Nat} {l : List UInt8} {t : Tok} {bl lo : Nat} {X Y : Value} (h : RB w0 w b l t bl lo X Y) : RB w0 w.drew b l t bl lo X Y := ⟨h.r.drew, h.k.drew, h.z⟩
theorem RB.set {w0 w : World} {b : Nat} {l : List UInt8} {t : Tok} {bl lo : Nat} {X Y : Value} (h : RB w0 w b l t bl lo X Y) {n : Nat} (hn : w0.heap.size <= n) (o : Nat) (u : Value) : RB w0 (w.setCell ⟨n, o, none⟩ u) b l t bl lo X Y :=
 ⟨h.r.set (by have := h.z; omega) (by have := h.z; omega) (by have := h.z; omega) u, h.k.setCell (Or.inl hn) u, h.z⟩
theorem RB.trans {w0 w w' : World} {b : Nat} {l : List UInt8} {t t' : Tok} {bl lo bl' lo' : Nat} {X Y : Value} (h : RB w0 w b l t bl lo X Y) (h' : RB w w' b l t' bl' lo' X Y) : RB w0 w' b l t' bl' lo' X Y :=
 ⟨h'.r, h.k.trans h'.k, h.z⟩
theorem RB.aNc {w0 w : World} {b : Nat} {l : List UInt8} {t : Tok} {bl lo : Nat} {X Y : Value} (h : RB w0 w b l t bl lo X Y) (bl' : Nat) : RB w0 (w.setCell ⟨b, 4, none⟩ (.int .i64 bl')) b l t bl' lo X Y :=
 ⟨h.r.keep ((But.refl b w).setCell (Or.inr rfl) _) (h.r.rd.aNc bl') h.r.tk, h.k.setCell (Or.inr rfl) _, h.z⟩
theorem RB.aNb {w0 w : World} {b : Nat} {l : List UInt8} {t : Tok} {bl lo : Nat} {X Y : Value} (h : RB w0 w b l t bl lo X Y) (lo' : Nat) : RB w0 (w.setCell ⟨b, 5, none⟩ (.int .i64 lo')) b l t bl lo' X Y :=
 ⟨h.r.keep ((But.refl b w).setCell (Or.inr rfl) _) (h.r.rd.aNb lo') h.r.tk, h.k.setCell (Or.inr rfl) _, h.z⟩
theorem kY {w : World} {b : Nat} {l : List UInt8} {t : Tok} {bl lo : Nat} {X Y : Value} (h : Rw w b l t bl lo X Y) :
  Calls Tryz.prog 167 #[ptr b] w fun e w' => e = .returned (qQ t) /\ RB w w' b l (nx l t) bl lo X Y :=
 (aJl w b l t bl lo h.rd h.len h.bnd).mono fun _ _ ⟨e, ha, hb⟩ => ⟨e, h.keep hb ha h.nxt, hb, h.gt⟩
def xJ (w : World) (b : Nat) (Z : Value) (p : Nat) (e : Ending) (w' : World) : Prop :=
 ∃ f, e = .panicked [{ v := .iface 113 (.pointer (some ⟨f, 0, none⟩)), recovered := false }] /\ w'.heap[f]? = some (.cells #[.iface 341 Z, .int .i64 p] 115) /\ w.heap.size <= f /\ But b w w'
theorem xJ.from {w0 w : World} {b : Nat} {Z : Value} {p : Nat} {e : Ending} {w' : World} (h : xJ w b Z p e w') (hb : But b w0 w) : xJ w0 b Z p e w' := by
 obtain ⟨f, h1, h2, h3, h4⟩ := h
 exact ⟨f, h1, h2, Nat.le_trans hb.size h3, hb.trans h4⟩
theorem vG {w : World} {b : Nat} {l : List UInt8} {t : Tok} {bl lo : Nat} {X Y : Value} (Z : Value) (h : Rw w b l t bl lo X Y) :
  Calls Tryz.prog 173 #[ptr b, .iface 341 Z] w fun e w' => xJ w b Z t.pos e w' := by
 refine (aIc w b l t bl lo _ _ h.rd).mono ?_
 rintro e w' ⟨rfl, rfl⟩
 exact ⟨w.heap.size, rfl, aC rfl, zR, (But.refl b w).alloc _⟩
theorem lM {w : World} {b : Nat} {l : List UInt8} {t : Tok} {bl lo : Nat} {X Y : Value} (s : List UInt8) (h : Rw w b l t bl lo X Y) (hs : t.txt = s) :
  Calls Tryz.prog 193 #[ptr b, S s] w fun e w' => e = .returned (.bool true) /\ RB w w' b l (nx l t) bl lo X Y := by
 subst hs
 obtain ⟨c0, c1, c2, c3, c4, c5⟩ := h.rd.cells
 go_enter Tryz.func193, Tryz.ntmps193
 go_wp2_with (go_at_call 167; refine (kY h).mono ?_; rintro e w1 ⟨rfl, hr⟩)
 go_ret
 exact ⟨rfl, hr⟩
theorem gG {w : World} {b : Nat} {l : List UInt8} {t : Tok} {bl lo : Nat} {X Y : Value} (s : List UInt8) (h : Rw w b l t bl lo X Y) (hs : ¬ t.txt = s) :
  Calls Tryz.prog 193 #[ptr b, S s] w fun e w' => e = .returned (.bool false) /\ w' = w := by
 obtain ⟨c0, c1, c2, c3, c4, c5⟩ := h.rd.cells
 have hq : (t.txt == s) = false := by simpa using hs
 have hq2 : (t.txt != s) = true := by simpa using hs
 go_enter Tryz.func193, Tryz.ntmps193
 go_wp2_with fail
 go_ret
 exact ⟨rfl, rfl⟩
theorem jK {w : World} {b : Nat} {l : List UInt8} {t : Tok} {bl lo : Nat} {X Y : Value} (s : List UInt8) (h : Rw w b l t bl lo X Y) (hs : t.txt = s) :
  Calls Tryz.prog 170 #[ptr b, S s] w fun e w' => e = .returned (.tuple #[]) /\ RB w w' b l (nx l t) bl lo X Y := by
 go_enter Tryz.func170, Tryz.ntmps170
 go_wp2_with (go_at_call 193; refine (lM s h hs).mono ?_; rintro e w1 ⟨rfl, hr⟩)
 go_end0
 exact ⟨rfl, hr⟩
theorem lI {w : World} {b : Nat} {l : List UInt8} {t : Tok} {bl lo : Nat} {X Y : Value} (s : List UInt8) (h : Rw w b l t bl lo X Y) (hs : ¬ t.txt = s) :
  Calls Tryz.prog 170 #[ptr b, S s] w fun e w' => xJ w b X t.pos e w' := by
 have hg := h.syn
 go_enter Tryz.func170, Tryz.ntmps170
 go_wp2_with (first | (go_at_call 193; refine (gG s h hs).mono ?_; rintro e w1 ⟨rfl, rfl⟩) | (go_at_call 173; refine (vG X h).mono ?_; rintro e w1 ⟨f, rfl, h2⟩))
 exact ⟨rfl, f, rfl, h2⟩
theorem pY {w : World} {b : Nat} {l : List UInt8} {t : Tok} {bl lo : Nat} {X Y : Value} (k : Nat) (h : Rw w b l t bl lo X Y) (hs : t.kind = k) :
  Calls Tryz.prog 135 #[ptr b, .int .i64 k] w fun e w' => e = .returned (qQ t) /\ RB w w' b l (nx l t) bl lo X Y := by
 subst hs
 obtain ⟨c0, c1, c2, c3, c4, c5⟩ := h.rd.cells
 have hgt := h.gt
 go_enter Tryz.func135, Tryz.ntmps135
 go_wp2_with (go_at_call 167; refine (kY (h.alloc _)).mono ?_; rintro e w1 ⟨rfl, hr⟩; obtain ⟨g1, g2⟩ := hr.k.loc w.heap.size (by simp) (by omega))
 exact bodyPost_ret (v := qQ t) (by simp [results, Tryz.results135, go_sem, g1]) rfl ⟨rfl, ((((RB.refl h).alloc _).trans hr).set zR _ _ |>.set zR _ _).set zR _ _⟩
theorem rD {w : World} {b : Nat} {l : List UInt8} {t : Tok} {bl lo : Nat} {X Y : Value} (k : Nat) (h : Rw w b l t bl lo X Y) (hs : ¬ t.kind = k) :
  Calls Tryz.prog 135 #[ptr b, .int .i64 k] w fun e w' => xJ w b X t.pos e w' := by
 obtain ⟨c0, c1, c2, c3, c4, c5⟩ := h.rd.cells
 have hgt := h.gt
 have hg := (h.alloc (.cells #[Value.int IntKind.i64 0, Value.string { data := #[] }, Value.int IntKind.i64 0] 193)).syn
 have hq : ((t.kind : Int) == (k : Int)) = false := by rw [beq_eq_false_iff_ne]; omega
 have hq2 : ((t.kind : Int) != (k : Int)) = true := by rw [bne_iff_ne]; omega
 go_enter Tryz.func135, Tryz.ntmps135
 go_wp2_with (go_at_call 173; refine (vG X (h.alloc _)).mono ?_; rintro e w1 h3; obtain ⟨f, rfl, h2⟩ := h3.from ((But.refl b w).alloc _); clear h3)
 exact ⟨rfl, f, rfl, h2⟩
abbrev V6 (t : Tok) : Value := .agg #[.string ⟨t.txt.toArray⟩, .int .i64 t.pos]
theorem rE {w : World} {b : Nat} {l : List UInt8} {t : Tok} {bl lo : Nat} {X Y : Value} (h : Rw w b l t bl lo X Y) (hs : t.kind = 2) :
  Calls Tryz.prog 168 #[ptr b] w fun e w' => e = .returned (V6 t) /\ RB w w' b l (nx l t) bl lo X Y := by
 have hgt := h.gt
 go_enter Tryz.func168, Tryz.ntmps168
 go_wp2_with (go_at_call 135; refine (pY 2 (h.alloc _) hs).mono ?_; rintro e w1 ⟨rfl, hr⟩; obtain ⟨g1, g2⟩ := hr.k.loc w.heap.size (by simp) (by omega); have hz : w.heap.size < w1.heap.size := by have := hr.k.size; simp at this; omega)
 exact bodyPost_ret (v := V6 t) (by simp [results, Tryz.results168, go_sem, g1, hz]) rfl ⟨rfl, by
  have H0 := ((RB.refl h).alloc _).trans hr
  repeat (first | exact H0 | refine RB.alloc ?_ _ | refine RB.set ?_ zR _ _ | refine RB.drew ?_)⟩
theorem yF {w : World} {b : Nat} {l : List UInt8} {t : Tok} {bl lo : Nat} {X Y : Value} (h : Rw w b l t bl lo X Y) (hs : ¬ t.kind = 2) :
  Calls Tryz.prog 168 #[ptr b] w fun e w' => xJ w b X t.pos e w' := by
 go_enter Tryz.func168, Tryz.ntmps168
 go_wp2_with (go_at_call 135; refine (rD 2 (h.alloc _) hs).mono ?_; rintro e w1 h3; obtain ⟨f, rfl, h2⟩ := h3.from ((But.refl b w).alloc _); clear h3)
 exact ⟨rfl, f, rfl, h2⟩
def fV : List UInt8 -> Nat -> Nat
 | [], n => n
 | c :: r, n => fV r (n * 10 + (c.toNat - 48))
abbrev aS9 (t : Tok) : Value := .agg #[.int .i64 (fV t.txt 0 : Nat), .int .i64 t.pos]
theorem V3 {w : World} {b : Nat} {l : List UInt8} {t : Tok} {bl lo : Nat} {X Y : Value} (h : Rw w b l t bl lo X Y) (hs : ¬ t.kind = 3) :
  Calls Tryz.prog 169 #[ptr b] w fun e w' => xJ w b X t.pos e w' := by
 go_enter Tryz.func169, Tryz.ntmps169
 go_wp2_with (go_at_call 135; refine (rD 3 (h.alloc _) hs).mono ?_; rintro e w1 h3; obtain ⟨f, rfl, h2⟩ := h3.from ((But.refl b w).alloc _); clear h3)
 exact ⟨rfl, f, rfl, h2⟩
theorem tk3 (l : List UInt8) (i : Nat) (_h : i <= l.length) (hk : (aN l i).kind = 3) : (aN l i).txt.length <= 3 /\ ∀ c ∈ (aN l i).txt, dN c = true := by
 by_cases hs : skip l i < l.length
 ·have hL := jS l i hs
  have hD := kX l i hs
  have hS := kV l i hs
  have hN := jT l i hs
  generalize aN l i = t at *
  generalize skip l i = j at *
  cases e1 : dU l[j] with
  | true => rw [hL e1] at hk ⊢; exfalso; revert hk; unfold jW; split <;> (try split) <;> simp
  | false =>
  cases e2 : dN l[j] with
  | true =>
   rw [hD e1 e2] at hk ⊢
   unfold qG at *
   split at hk
   ·simp at hk
   ·rename_i hn
    rw [if_neg hn]
    exact ⟨by simpa using hn, fun c hc => List.all_eq_true.1 List.all_takeWhile c hc⟩
  | false =>
  cases e3 : pO l[j] with
  | true => rw [hS e1 e2 e3] at hk; simp at hk
  | false => rw [hN e1 e2 e3] at hk; simp at hk
 ·rw [kW l i hs] at hk; simp at hk
theorem wJ : ∀ (x : List UInt8) (c : UInt8) (n : Nat), fV (x ++ [c]) n = fV x n * 10 + (c.toNat - 48)
 | [], _, _ => rfl
 | _ :: x, c, _ => wJ x c _
theorem aAt (c : UInt8) (h : dN c = true) : 48 <= c.toNat /\ c.toNat <= 57 := by
 simp [dN, uH] at h; omega
theorem aGd : ∀ (x : List UInt8) (n : Nat), (∀ c ∈ x, dN c = true) -> fV x n < (n + 1) * 10 ^ x.length
 | [], n, _ => by simp [fV]
 | c :: x, n, h => by
  have hc := aAt c (h c (by simp))
  have := aGd x (n * 10 + (c.toNat - 48)) (fun d hd => h d (by simp [hd]))
  simp only [fV, List.length_cons]
  refine Nat.lt_of_lt_of_le this ?_
  rw [Nat.pow_succ, <- Nat.mul_assoc, Nat.mul_right_comm]
  apply Nat.mul_le_mul_right
  omega
theorem aAc (x : List UInt8) (h : ∀ c ∈ x, dN c = true) (hl : x.length <= 3) : fV x 0 <= 999 := by
 have := aGd x 0 h
 have h2 : 10 ^ x.length <= 10 ^ 3 := Nat.pow_le_pow_right (by omega) hl
 omega
theorem aJ2 (x : List UInt8) (k : Nat) (hk : k < x.length) : fV (x.take (k + 1)) 0 = fV (x.take k) 0 * 10 + (x[k].toNat - 48) := by
 rw [List.take_succ_eq_append_getElem hk, wJ]
theorem A7 {w : World} {b : Nat} {l : List UInt8} {t : Tok} {bl lo : Nat} {X Y : Value} (h : Rw w b l t bl lo X Y) (hs : t.kind = 3) :
  Calls Tryz.prog 169 #[ptr b] w fun e w' => e = .returned (aS9 t) /\ RB w w' b l (nx l t) bl lo X Y := by
 have hgt := h.gt
 have htk : t.txt.length <= 3 /\ ∀ c ∈ t.txt, dN c = true := by obtain ⟨i, hi, rfl⟩ := h.tk; exact tk3 l i hi hs
 obtain ⟨hl3, hdig⟩ := htk
 have HD : Hid (∀ c ∈ t.txt, dN c = true) := hdig
 clear hdig
 go_enter Tryz.func169, Tryz.ntmps169
 go_wp2_with (go_at_call 135; refine (pY 3 (h.alloc _) hs).mono ?_; rintro e w1 ⟨rfl, hr⟩; obtain ⟨g1, g2⟩ := hr.k.loc w.heap.size (by simp) (by omega); have hz : w.heap.size < w1.heap.size := by have := hr.k.size; simp at this; omega)
 have H0 := ((RB.refl h).alloc _).trans hr
 have hnb := aAc t.txt HD.out hl3
 go_loopw [14] (fun i wr => ∃ k : Nat, k <= t.txt.length /\ i = .int .i64 k /\ RB w wr b l (nx l t) bl lo X Y /\ wr.heap[w1.heap.size]? = some (.cells #[.int .i64 3, .string ⟨t.txt.toArray⟩, .int .i64 t.pos] 193) /\ wr.heap[w1.heap.size + 1]? = some (.cells #[.int .i64 (fV (t.txt.take k) 0 : Nat), .int .i64 t.pos] 151) /\ wr.heap[w.heap.size]? = some (.cells #[.int .i64 0, .int .i64 0] 151)) (fun i _ => 10 - (intOf i).toNat)
 case atStart =>
  refine ⟨0, Nat.zero_le _, rfl, ?_, ?_, ?_, ?_⟩
  ·repeat (first | exact H0 | refine RB.alloc ?_ _)
  ·rw [zM _ _ _ (by simp)]; exact aC rfl
  ·exact aC (by simp)
  ·rw [zM _ _ _ (by simp; omega), zM _ _ _ (by omega), hr.k.block _ (by simp) (by omega)]; exact aC rfl
 case round =>
  obtain ⟨k, hk, rfl, hR, hT, hN, hO⟩ := hrel
  have t0 : wr.cell? ⟨w1.heap.size, 1, none⟩ = some (.string ⟨t.txt.toArray⟩) := by simp [World.cell?, hT]
  have n0 : wr.cell? ⟨w1.heap.size + 1, 0, none⟩ = some (.int .i64 (fV (t.txt.take k) 0 : Nat)) := by simp [World.cell?, hN]
  have n1 : wr.cell? ⟨w1.heap.size + 1, 1, none⟩ = some (.int .i64 t.pos) := by simp [World.cell?, hN]
  have nf : ∀ o, wr.frozen? ⟨w1.heap.size + 1, o, none⟩ = false := by intro o; simp [World.frozen?, hN]
  have o0 : wr.cell? ⟨w.heap.size, 0, none⟩ = some (.int .i64 0) := by simp [World.cell?, hO]
  have o1 : wr.cell? ⟨w.heap.size, 1, none⟩ = some (.int .i64 0) := by simp [World.cell?, hO]
  have of : ∀ o, wr.frozen? ⟨w.heap.size, o, none⟩ = false := by intro o; simp [World.frozen?, hO]
  by_cases hlt : k < t.txt.length
  ·have hg := wS t.txt k hlt
   have hdb := aAt t.txt[k] (HD.out _ (List.getElem_mem _))
   have HS : Hid (fV (t.txt.take (k + 1)) 0 = fV (t.txt.take k) 0 * 10 + (t.txt[k].toNat - 48)) := aJ2 _ _ hlt
   have hkb := aAc (t.txt.take k) (fun c hc => HD.out c (List.mem_of_mem_take hc)) (by simp; omega)
   have a1 : IntKind.i64.wrap ((fV (t.txt.take k) 0 : Int) * 10) = (fV (t.txt.take k) 0 : Int) * 10 := by rw [IntKind.wrap_i64]; omega
   have a2 : IntKind.u8.wrap ((t.txt[k].toNat : Int) - 48) = (t.txt[k].toNat : Int) - 48 := by rw [IntKind.wrap_u8]; omega
   have a3 : IntKind.i64.wrap ((t.txt[k].toNat : Int) - 48) = (t.txt[k].toNat : Int) - 48 := by rw [IntKind.wrap_i64]; omega
   have a4 : IntKind.i64.wrap ((fV (t.txt.take k) 0 : Int) * 10 + ((t.txt[k].toNat : Int) - 48)) = (fV (t.txt.take k) 0 : Int) * 10 + ((t.txt[k].toNat : Int) - 48) := by rw [IntKind.wrap_i64]; omega
   go_wp2_with fail
   go_region
   all_goals go_wp2_with fail
   go_roundw
   case rel =>
    have hv : ((fV (t.txt.take k) 0 : Int) * 10 + ((t.txt[k].toNat : Int) - 48)) = ((fV (t.txt.take (k + 1)) 0 : Nat) : Int) := by rw [HS.out]; omega
    rw [hv]
    refine ⟨k + 1, by omega, by go_num, (hR.set (by omega) _ _).drew, ?_, ?_, ?_⟩
    ·exact (zS _ _ _ _ (by simp)).trans hT
    ·exact (zC _ _ _ _ _ _ hN).trans rfl
    ·exact (zS _ _ _ _ (by simp; omega)).trans hO
   case measure => simp [intOf]; omega
  ·go_wp2_with fail
   have e : k = t.txt.length := by omega
   refine bodyPost_ret (v := .agg #[.int .i64 (fV (t.txt.take k) 0 : Nat), .int .i64 t.pos]) (by simp [results, Tryz.results169, go_sem, o0, o1]) rfl ⟨?_, (hR.set zR _ _).set zR _ _⟩
   rw [e, List.take_length]
theorem aE0 {w : World} {b : Nat} {l : List UInt8} {t : Tok} {bl lo : Nat} {X Y : Value} (h : Rw w b l t bl lo X Y) (hs : t.txt = [109, 105, 115, 115]) :
  Calls Tryz.prog 171 #[ptr b] w fun e w' => e = .returned (V6 t) /\ RB w w' b l (nx l t) bl lo X Y := by
 obtain ⟨c0, c1, c2, c3, c4, c5⟩ := h.rd.cells
 have hgt := h.gt
 go_enter Tryz.func171, Tryz.ntmps171
 go_wp2_with (go_at_call 193; refine (lM [109, 105, 115, 115] (h.alloc _) hs).mono ?_; rintro e w1 ⟨rfl, hr⟩; obtain ⟨g1, g2⟩ := hr.k.loc w.heap.size (by simp) (by omega); have hz : w.heap.size < w1.heap.size := by have := hr.k.size; simp at this; omega)
 have H0 := ((RB.refl h).alloc _).trans hr
 refine bodyPost_ret (v := V6 t) (by simp [results, Tryz.results171, go_sem, g1, hs]) rfl ⟨rfl, ?_⟩
 repeat (first | exact H0 | refine RB.alloc ?_ _ | refine RB.set ?_ zR _ _ | refine RB.drew ?_)
theorem aEz {w : World} {b : Nat} {l : List UInt8} {t : Tok} {bl lo : Nat} {X Y : Value} (h : Rw w b l t bl lo X Y) (hs : ¬ t.txt = [109, 105, 115, 115]) (hk : t.kind = 2) :
  Calls Tryz.prog 171 #[ptr b] w fun e w' => e = .returned (V6 t) /\ RB w w' b l (nx l t) bl lo X Y := by
 obtain ⟨c0, c1, c2, c3, c4, c5⟩ := h.rd.cells
 have hgt := h.gt
 go_enter Tryz.func171, Tryz.ntmps171
 go_wp2_with (first | (go_at_call 193; refine (gG [109, 105, 115, 115] (h.alloc _) hs).mono ?_; rintro e w1 ⟨rfl, rfl⟩) | (go_at_call 168; refine (rE (h.alloc _) hk).mono ?_; rintro e w1 ⟨rfl, hr⟩; obtain ⟨g1, g2⟩ := hr.k.loc w.heap.size (by simp) (by omega); have hz : w.heap.size < w1.heap.size := by have := hr.k.size; simp at this; omega))
 have H0 := ((RB.refl h).alloc _).trans hr
 refine bodyPost_ret (v := V6 t) (by simp [results, Tryz.results171, go_sem, g1]) rfl ⟨rfl, ?_⟩
 repeat (first | exact H0 | refine RB.alloc ?_ _ | refine RB.set ?_ zR _ _ | refine RB.drew ?_)
theorem aK6 {w : World} {b : Nat} {l : List UInt8} {t : Tok} {bl lo : Nat} {X Y : Value} (h : Rw w b l t bl lo X Y) (hs : ¬ t.txt = [109, 105, 115, 115]) (hk : ¬ t.kind = 2) :
  Calls Tryz.prog 171 #[ptr b] w fun e w' => xJ w b X t.pos e w' := by
 obtain ⟨c0, c1, c2, c3, c4, c5⟩ := h.rd.cells
 have hgt := h.gt
 go_enter Tryz.func171, Tryz.ntmps171
 go_wp2_with (first | (go_at_call 193; refine (gG [109, 105, 115, 115] (h.alloc _) hs).mono ?_; rintro e w1 ⟨rfl, rfl⟩) | (go_at_call 168; refine (yF (h.alloc _) hk).mono ?_; rintro e w1 h3; obtain ⟨f, rfl, h2⟩ := h3.from ((But.refl b w).alloc _); clear h3))
 exact ⟨rfl, f, rfl, h2⟩
def iD (s : List UInt8) : Bool := s == [113, 117, 101, 117, 101] || s == [103, 104, 111, 115, 116] || s == [118, 97, 114] || s == [102, 114, 101, 113]
theorem uF {w : World} {b : Nat} {l : List UInt8} {t : Tok} {bl lo : Nat} {X Y : Value} (h : Rw w b l t bl lo X Y) :
  Calls Tryz.prog 132 #[ptr b] w fun e w' => e = .returned (.bool (iD t.txt)) /\ w' = w := by
 obtain ⟨c0, c1, c2, c3, c4, c5⟩ := h.rd.cells
 clear h
 go_enter Tryz.func132, Tryz.ntmps132
 go_wp2
 all_goals first | (exfalso; simp_all; done) | skip
 all_goals go_ret
 all_goals refine ⟨?_, rfl⟩
 all_goals (simp_all [iD]; done)
abbrev NP := List UInt8 × Nat
structure Vl where
 kind : Nat
 name : NP
 num : Nat × Nat
def np (t : Tok) : NP := (t.txt, t.pos)
abbrev vlV (v : Vl) : Value := .agg #[.int .i64 v.kind, .string ⟨v.name.1.toArray⟩, .int .i64 v.name.2, .int .i64 v.num.1, .int .i64 v.num.2]
def dK (l : List UInt8) (t : Tok) : PR NP := if t.kind = 2 then .ok (np t, nx l t) else .error (false, t.pos)
def dJ (s : List UInt8) (l : List UInt8) (t : Tok) : PR Unit := if t.txt = s then .ok ((), nx l t) else .error (false, t.pos)
def iV (l : List UInt8) (t : Tok) : PR (Nat × Nat) := if t.kind = 3 then .ok ((fV t.txt 0, t.pos), nx l t) else .error (false, t.pos)
def bW (l : List UInt8) (t : Tok) : PR Vl :=
 if t.txt = [108, 101, 110] then (if (nx l t).kind = 2 then .ok (⟨2, np (nx l t), (0, 0)⟩, nx l (nx l t)) else .error (false, (nx l t).pos))
 else if t.txt = [102, 114, 101, 113] then .ok (⟨3, ([], 0), (0, 0)⟩, nx l t)
 else if t.kind = 2 then .ok (⟨1, np t, (0, 0)⟩, nx l t)
 else if t.kind = 3 then .ok (⟨0, ([], 0), (fV t.txt 0, t.pos)⟩, nx l t)
 else .error (false, t.pos)
def Out {α : Type} (w : World) (b : Nat) (l : List UInt8) (bl lo : Nat) (X Y : Value) (enc : α -> Value) (r : PR α) (e : Ending) (w' : World) : Prop :=
 match r with
 | .ok (x, t') => e = .returned (enc x) /\ RB w w' b l t' bl lo X Y
 | .error (d, p) => xJ w b (if d then Y else X) p e w'
theorem Q8 {w : World} {b : Nat} {l : List UInt8} {t : Tok} {bl lo : Nat} {X Y : Value} (h : Rw w b l t bl lo X Y) :
  Calls Tryz.prog 216 #[ptr b] w fun e w' => Out w b l bl lo X Y vlV (bW l t) e w' := by
 have hgt := h.gt
 obtain ⟨c0, c1, c2, c3, c4, c5⟩ := h.rd.cells
 unfold bW
 by_cases h1 : t.txt = [108, 101, 110]
 ·rw [if_pos h1]
  by_cases h2 : (nx l t).kind = 2
  ·rw [if_pos h2]
   go_enter Tryz.func216, Tryz.ntmps216
   go_wp2_with (first | (go_at_call_of 193 (Value.string { data := #[108, 101, 110] }); refine (lM [108, 101, 110] (h.alloc _) h1).mono ?_; rintro e w1 ⟨rfl, hr⟩; obtain ⟨pc, pf⟩ := hr.k.loc (w.heap.size) (by first | omega | (simp; done) | (simp; omega)) (by omega); have pb := hr.k.block (w.heap.size) (by first | omega | (simp; done) | (simp; omega)) (by omega); have pz : w.heap.size < w1.heap.size := Nat.lt_of_lt_of_le (by first | omega | (simp; done) | (simp; omega)) hr.k.size) | (go_at_call 168; refine (rE hr.r h2).mono ?_; rintro e w2 ⟨rfl, hr2⟩; obtain ⟨qc, qf⟩ := hr2.k.loc (w.heap.size) (by first | omega | (simp; done) | (simp; omega)) (by omega); have qb := hr2.k.block (w.heap.size) (by first | omega | (simp; done) | (simp; omega)) (by omega); have qz : w.heap.size < w2.heap.size := Nat.lt_of_lt_of_le (by first | omega | (simp; done) | (simp; omega)) hr2.k.size))
   have H0 := (((RB.refl h).alloc _).trans hr).trans hr2
   refine bodyPost_ret (v := vlV ⟨2, np (nx l t), (0, 0)⟩) (by simp [results, Tryz.results216, go_sem, qc, pc, np]) rfl ⟨rfl, ?_⟩
   repeat (first | refine RB.set ?_ (by first | exact zR | omega | (simp; omega)) _ _ | refine RB.alloc ?_ _ | refine RB.drew ?_ | exact H0)
  ·rw [if_neg h2]
   go_enter Tryz.func216, Tryz.ntmps216
   go_wp2_with (first | (go_at_call_of 193 (Value.string { data := #[108, 101, 110] }); refine (lM [108, 101, 110] (h.alloc _) h1).mono ?_; rintro e w1 ⟨rfl, hr⟩; obtain ⟨pc, pf⟩ := hr.k.loc (w.heap.size) (by first | omega | (simp; done) | (simp; omega)) (by omega); have pb := hr.k.block (w.heap.size) (by first | omega | (simp; done) | (simp; omega)) (by omega); have pz : w.heap.size < w1.heap.size := Nat.lt_of_lt_of_le (by first | omega | (simp; done) | (simp; omega)) hr.k.size) | (go_at_call 168; refine (yF hr.r h2).mono ?_; rintro e we h3; obtain ⟨f, rfl, h2⟩ := h3.from (((RB.refl h).alloc _).trans hr).k; clear h3))
   exact ⟨rfl, f, rfl, h2⟩
 ·rw [if_neg h1]
  by_cases h2 : t.txt = [102, 114, 101, 113]
  ·rw [if_pos h2]
   go_enter Tryz.func216, Tryz.ntmps216
   go_wp2_with (first | (go_at_call_of 193 (Value.string { data := #[108, 101, 110] }); refine (gG [108, 101, 110] (h.alloc _) h1).mono ?_; rintro e w' ⟨rfl, rfl⟩) | (go_at_call_of 193 (Value.string { data := #[102, 114, 101, 113] }); refine (lM [102, 114, 101, 113] (h.alloc _) h2).mono ?_; rintro e w1 ⟨rfl, hr⟩; obtain ⟨pc, pf⟩ := hr.k.loc (w.heap.size) (by first | omega | (simp; done) | (simp; omega)) (by omega); have pb := hr.k.block (w.heap.size) (by first | omega | (simp; done) | (simp; omega)) (by omega); have pz : w.heap.size < w1.heap.size := Nat.lt_of_lt_of_le (by first | omega | (simp; done) | (simp; omega)) hr.k.size))
   have H0 := ((RB.refl h).alloc _).trans hr
   refine bodyPost_ret (v := vlV ⟨3, ([], 0), (0, 0)⟩) (by simp [results, Tryz.results216, go_sem, pc]) rfl ⟨rfl, ?_⟩
   repeat (first | refine RB.set ?_ (by first | exact zR | omega | (simp; omega)) _ _ | refine RB.alloc ?_ _ | refine RB.drew ?_ | exact H0)
  ·rw [if_neg h2]
   by_cases h3 : t.kind = 2
   ·rw [if_pos h3]
    go_enter Tryz.func216, Tryz.ntmps216
    go_wp2_with (first | (go_at_call_of 193 (Value.string { data := #[108, 101, 110] }); refine (gG [108, 101, 110] (h.alloc _) h1).mono ?_; rintro e w' ⟨rfl, rfl⟩) | (go_at_call_of 193 (Value.string { data := #[102, 114, 101, 113] }); refine (gG [102, 114, 101, 113] (h.alloc _) h2).mono ?_; rintro e w' ⟨rfl, rfl⟩) | (go_at_call 168; refine (rE (h.alloc _) h3).mono ?_; rintro e w2 ⟨rfl, hr⟩; obtain ⟨pc, pf⟩ := hr.k.loc (w.heap.size) (by first | omega | (simp; done) | (simp; omega)) (by omega); have pb := hr.k.block (w.heap.size) (by first | omega | (simp; done) | (simp; omega)) (by omega); have pz : w.heap.size < w2.heap.size := Nat.lt_of_lt_of_le (by first | omega | (simp; done) | (simp; omega)) hr.k.size))
    have H0 := ((RB.refl h).alloc _).trans hr
    refine bodyPost_ret (v := vlV ⟨1, np t, (0, 0)⟩) (by simp [results, Tryz.results216, go_sem, pc, np]) rfl ⟨rfl, ?_⟩
    repeat (first | refine RB.set ?_ (by first | exact zR | omega | (simp; omega)) _ _ | refine RB.alloc ?_ _ | refine RB.drew ?_ | exact H0)
   ·rw [if_neg h3]
    have hq : ((t.kind : Int) == 2) = false := by rw [beq_eq_false_iff_ne]; omega
    by_cases h4 : t.kind = 3
    ·rw [if_pos h4]
     go_enter Tryz.func216, Tryz.ntmps216
     go_wp2_with (first | (go_at_call_of 193 (Value.string { data := #[108, 101, 110] }); refine (gG [108, 101, 110] (h.alloc _) h1).mono ?_; rintro e w' ⟨rfl, rfl⟩) | (go_at_call_of 193 (Value.string { data := #[102, 114, 101, 113] }); refine (gG [102, 114, 101, 113] (h.alloc _) h2).mono ?_; rintro e w' ⟨rfl, rfl⟩) | (go_at_call 169; refine (A7 (h.alloc _) h4).mono ?_; rintro e w2 ⟨rfl, hr⟩; obtain ⟨pc, pf⟩ := hr.k.loc (w.heap.size) (by first | omega | (simp; done) | (simp; omega)) (by omega); have pb := hr.k.block (w.heap.size) (by first | omega | (simp; done) | (simp; omega)) (by omega); have pz : w.heap.size < w2.heap.size := Nat.lt_of_lt_of_le (by first | omega | (simp; done) | (simp; omega)) hr.k.size))
     have H0 := ((RB.refl h).alloc _).trans hr
     refine bodyPost_ret (v := vlV ⟨0, ([], 0), (fV t.txt 0, t.pos)⟩) (by simp [results, Tryz.results216, go_sem, pc]) rfl ⟨rfl, ?_⟩
     repeat (first | refine RB.set ?_ (by first | exact zR | omega | (simp; omega)) _ _ | refine RB.alloc ?_ _ | refine RB.drew ?_ | exact H0)
    ·rw [if_neg h4]
     go_enter Tryz.func216, Tryz.ntmps216
     go_wp2_with (first | (go_at_call_of 193 (Value.string { data := #[108, 101, 110] }); refine (gG [108, 101, 110] (h.alloc _) h1).mono ?_; rintro e w' ⟨rfl, rfl⟩) | (go_at_call_of 193 (Value.string { data := #[102, 114, 101, 113] }); refine (gG [102, 114, 101, 113] (h.alloc _) h2).mono ?_; rintro e w' ⟨rfl, rfl⟩) | (go_at_call 169; refine (V3 (h.alloc _) h4).mono ?_; rintro e we h3; obtain ⟨f, rfl, h2⟩ := h3.from ((But.refl b w).alloc _); clear h3))
     exact ⟨rfl, f, rfl, h2⟩
theorem At.setRow {w : World} {b : Nat} {l : List UInt8} {t : Tok} {bl lo : Nat} (h : At w b l t bl lo) (g : Nat) (cs : Array Value) (hp : b ≠ g) : At (w.setRow g cs) b l t bl lo := by
 unfold At at *
 rw [setRow_other _ _ _ _ hp]; exact h
theorem But.setRow {b : Nat} {a w : World} (h : But b a w) {g : Nat} (hp : a.heap.size <= g) (cs : Array Value) : But b a (w.setRow g cs) :=
 ⟨h.os, h.tape, h.output, by have := h.size; simpa [World.setRow] using this, fun k hk hn => by
  rw [setRow_other _ _ _ _ (by omega)]; exact h.block k hk hn⟩
theorem RB.setRow {w0 w : World} {b : Nat} {l : List UInt8} {t : Tok} {bl lo : Nat} {X Y : Value} (h : RB w0 w b l t bl lo X Y) {g : Nat} (hn : w0.heap.size <= g) (cs : Array Value) : RB w0 (w.setRow g cs) b l t bl lo X Y := by
 have hz := h.z
 refine ⟨⟨h.r.rd.setRow _ _ (by omega), ?_, ?_, h.r.aJ5, h.r.aB5, h.r.len, h.r.tk⟩, h.k.setRow hn cs, h.z⟩
 ·exact (World.cell?_of_block (w := w) (setRow_other w g _ cs (by show 14 ≠ g; omega))).trans h.r.syn
 ·exact (World.cell?_of_block (w := w) (setRow_other w g _ cs (by show 1 ≠ g; omega))).trans h.r.deep
theorem fG {P : Program} {fn : Func} {p : Tmp} {ty : TypeId} (h : fn.results = #[.cell p ty]) (tmps : Array Value) (w : World) (g : Nat) (cs : Array Value) (t : TypeId) (d : TypeDesc)
  (hp : tmps.getD p undef = .pointer (some ⟨g, 0, none⟩)) (hg : w.heap[g]? = some (.cells cs t)) (hu : P.underlying ty = some d) (hd : (match d with | .struct _ | .array _ _ => true | _ => false) = true) (hi : (P.info? ty).map (·.size) = some cs.size) :
  (results fn tmps).run P w = .ok (.agg cs) w := by
 have hl := run_loadVar_row (P := P) w g t ty cs (0, 0) d hg hu (by cases d <;> simp_all) hi
 have hp2 : tmps[p]?.getD undef = .pointer (some ⟨g, 0, none⟩) := by simpa using hp
 simp only [results, h]
 simp [hp2, asAddr, hl]
theorem aS {P : Program} {fn : Func} {R : Ending -> World -> Prop} {a : Act} {w : World} {p : Tmp} {ty : TypeId} (h : fn.results = #[.cell p ty]) (g : Nat) (cs : Array Value) (t : TypeId) (d : TypeDesc)
  (hp : a.tmps.getD p undef = .pointer (some ⟨g, 0, none⟩)) (hde : a.defers = []) (hg : w.heap[g]? = some (.cells cs t)) (hu : P.underlying ty = some d) (hd : (match d with | .struct _ | .array _ _ => true | _ => false) = true) (hi : (P.info? ty).map (·.size) = some cs.size)
  (hR : R (.returned (.agg cs)) w) : bodyPost P fn R .ret a w :=
 ⟨hde, _, fG h a.tmps w g cs t d hp hg hu (by cases d <;> simp_all) hi, hR⟩
def pR (n : Nat) : List Value -> Nat -> World -> World
 | [], _, w => w
 | v :: vs, i, w => pR n vs (i + 1) (w.setCell ⟨n, i, none⟩ v)
theorem jX (n : Nat) (T : TypeId) : ∀ (vs : List Value) (w : World) (i : Nat) (c : Array Value), w.heap[n]? = some (.cells c T) -> c.size = i + vs.length ->
  (pR n vs i w).heap[n]? = some (.cells (c.toList.take i ++ vs).toArray T)
 | [], w, i, c, h, hc => by
  simp only [pR, List.append_nil]
  rw [List.take_of_length_le (by simp at hc; simp; omega)]
  simpa using h
 | v :: vs, w, i, c, h, hc => by
  have h2 := zC w n i v c T h
  have := jX n T vs (w.setCell ⟨n, i, none⟩ v) (i + 1) (c.setIfInBounds i v) h2 (by simp at hc ⊢; omega)
  simp only [pR]
  rw [this]
  simp only [Array.toList_setIfInBounds]
  congr 3
  rw [List.take_add_one, List.take_set_of_le zR]
  simp at hc
  simp [show i < c.size by omega]
theorem cO (w : World) (n : Nat) (c : Array Value) (T : TypeId) (v0 v1 v2 v3 v4 v5 v6 v7 v8 v9 v10 v11 v12 v13 : Value) (h : w.heap[n]? = some (.cells c T)) (hc : c.size = 14) :
  ((((((((((((((w.setCell ⟨n, 0, none⟩ v0).setCell ⟨n, 1, none⟩ v1).setCell ⟨n, 2, none⟩ v2).setCell ⟨n, 3, none⟩ v3).setCell ⟨n, 4, none⟩ v4).setCell ⟨n, 5, none⟩ v5).setCell ⟨n, 6, none⟩ v6).setCell ⟨n, 7, none⟩ v7).setCell ⟨n, 8, none⟩ v8).setCell ⟨n, 9, none⟩ v9).setCell ⟨n, 10, none⟩ v10).setCell ⟨n, 11, none⟩ v11).setCell ⟨n, 12, none⟩ v12).setCell ⟨n, 13, none⟩ v13).heap[n]? = some (.cells #[v0, v1, v2, v3, v4, v5, v6, v7, v8, v9, v10, v11, v12, v13] T) := by
 have := jX n T [v0, v1, v2, v3, v4, v5, v6, v7, v8, v9, v10, v11, v12, v13] w 0 c h hc
 simpa only [pR, List.take_zero, List.nil_append, Nat.zero_add, Nat.reduceAdd] using this
structure Cd where
 neg : Bool
 word : List UInt8
 queue : NP
 left : Vl
 right : Vl
abbrev xU : Vl := ⟨0, ([], 0), (0, 0)⟩
abbrev O1 (c : Cd) : Array Value := #[.bool c.neg, .string ⟨c.word.toArray⟩, .string ⟨c.queue.1.toArray⟩, .int .i64 c.queue.2, .int .i64 c.left.kind, .string ⟨c.left.name.1.toArray⟩, .int .i64 c.left.name.2, .int .i64 c.left.num.1, .int .i64 c.left.num.2, .int .i64 c.right.kind, .string ⟨c.right.name.1.toArray⟩, .int .i64 c.right.name.2, .int .i64 c.right.num.1, .int .i64 c.right.num.2]
abbrev cdV (c : Cd) : Value := .agg #[.bool c.neg, .string ⟨c.word.toArray⟩, .string ⟨c.queue.1.toArray⟩, .int .i64 c.queue.2, .int .i64 c.left.kind, .string ⟨c.left.name.1.toArray⟩, .int .i64 c.left.name.2, .int .i64 c.left.num.1, .int .i64 c.left.num.2, .int .i64 c.right.kind, .string ⟨c.right.name.1.toArray⟩, .int .i64 c.right.name.2, .int .i64 c.right.num.1, .int .i64 c.right.num.2]
def iW (l : List UInt8) : Nat -> Bool -> Tok -> Bool × Tok
 | 0, n, t => (n, t)
 | f + 1, n, t => if t.txt = [110, 111, 116] then iW l f (!n) (nx l t) else (n, t)
def iL (l : List UInt8) (n : Bool) (t : Tok) : PR Cd :=
 if t.txt = [102, 117, 108, 108] \/ t.txt = [101, 109, 112, 116, 121] \/ t.txt = [119, 97, 114, 109] then
  (if (nx l t).kind = 2 then .ok (⟨n, t.txt, np (nx l t), xU, xU⟩, nx l (nx l t)) else .error (false, (nx l t).pos))
 else match bW l t with
  | .error e => .error e
  | .ok (a, t1) => if t1.txt = [60] then
    (match bW l (nx l t1) with
     | .error e => .error e
     | .ok (c, t2) => .ok (⟨n, t1.txt, ([], 0), a, c⟩, t2))
    else .error (false, t1.pos)
def gZ (l : List UInt8) (t : Tok) : PR Cd := iL l (iW l (l.length + 1) false t).1 (iW l (l.length + 1) false t).2
theorem aQq (k : Int) (s : ByteArray) (p : Int) (w : World) : (Instr.field 193 (.agg #[.int .i64 k, .string s, .int .i64 p]) 1).run Tryz.prog w = .ok (.string s) w := by kernel_rfl
theorem aT6 (k : Int) (s : ByteArray) (p : Int) (w : World) : (Instr.field 193 (.agg #[.int .i64 k, .string s, .int .i64 p]) 2).run Tryz.prog w = .ok (.int .i64 p) w := by kernel_rfl
theorem aQ {w : World} {n : Nat} {c : Array Value} {e : TypeId} (h : w.heap[n]? = some (.cells c e)) : (∀ o, w.cell? ⟨n, o, none⟩ = c[o]?) /\ ∀ o, w.frozen? ⟨n, o, none⟩ = false := by
 constructor <;> intro o <;> simp [World.cell?, World.frozen?, h]
theorem zD (l : List UInt8) (i : Nat) : i <= (aN l i).pos := by
 have hg := xZ l i
 by_cases hs : skip l i < l.length
 ·have hL := jS l i hs
  have hD := kX l i hs
  have hS := kV l i hs
  have hN := jT l i hs
  generalize aN l i = t at *
  generalize skip l i = j at *
  cases e1 : dU l[j] with
  | true => rw [hL e1]; unfold jW; split <;> (try split) <;> exact hg
  | false =>
  cases e2 : dN l[j] with
  | true => rw [hD e1 e2]; unfold qG; split <;> exact hg
  | false =>
  cases e3 : pO l[j] with
  | true => rw [hS e1 e2 e3]; exact hg
  | false => rw [hN e1 e2 e3]; exact hg
 ·rw [kW l i hs]; exact hg
theorem aAb (l : List UInt8) (t : Tok) : t.pos + t.txt.length <= (nx l t).pos := zD l _
theorem uP {w : World} {b : Nat} {l : List UInt8} {t : Tok} {bl lo : Nat} {X Y : Value} {x : Vl} {t' : Tok} (h : Rw w b l t bl lo X Y) (hv : bW l t = .ok (x, t')) :
  Calls Tryz.prog 216 #[ptr b] w fun e w' => e = .returned (vlV x) /\ RB w w' b l t' bl lo X Y := by
 refine (Q8 h).mono fun e w' H => ?_
 rw [hv] at H; exact H
theorem aBb {w : World} {b : Nat} {l : List UInt8} {t : Tok} {bl lo : Nat} {X Y : Value} {d : Bool} {p : Nat} (h : Rw w b l t bl lo X Y) (hv : bW l t = .error (d, p)) :
  Calls Tryz.prog 216 #[ptr b] w fun e w' => xJ w b (if d then Y else X) p e w' := by
 refine (Q8 h).mono fun e w' H => ?_
 rw [hv] at H; exact H
theorem aC3 {w : World} {b : Nat} {l : List UInt8} {t : Tok} {bl lo : Nat} {X Y : Value} (h : Rw w b l t bl lo X Y) :
  Calls Tryz.prog 211 #[ptr b] w fun e w' => Out w b l bl lo X Y cdV (gZ l t) e w' := by
 have hgt := h.gt
 unfold gZ
 generalize hp : iW l (l.length + 1) false t = p
 have HP : Hid (iW l (l.length + 1) false t = p) := hp
 clear hp
 generalize hq : iL l p.1 p.2 = r
 have HQ : Hid (iL l p.1 p.2 = r) := hq
 clear hq
 go_enter Tryz.func211, Tryz.ntmps211
 go_wp2_with fail
 go_loopg [] (l.length + 1) (fun f wr => ∃ n t1, Hid (iW l f n t1 = p) /\ l.length + 1 <= f + t1.pos /\ RB w wr b l t1 bl lo X Y /\ wr.heap[w.heap.size]? = some (.cells #[.bool false, .string ⟨#[]⟩, .string ⟨#[]⟩, .int .i64 0, .int .i64 0, .string ⟨#[]⟩, .int .i64 0, .int .i64 0, .int .i64 0, .int .i64 0, .string ⟨#[]⟩, .int .i64 0, .int .i64 0, .int .i64 0] 280) /\ wr.heap[w.heap.size + 1]? = some (.cells #[.bool n, .string ⟨#[]⟩, .string ⟨#[]⟩, .int .i64 0, .int .i64 0, .string ⟨#[]⟩, .int .i64 0, .int .i64 0, .int .i64 0, .int .i64 0, .string ⟨#[]⟩, .int .i64 0, .int .i64 0, .int .i64 0] 280))
 case atStart =>
  refine ⟨false, t, HP, by omega, ((RB.refl h).alloc _).alloc _, ?_, aC (by simp)⟩
  rw [zM _ _ _ (by simp)]; exact aC rfl
 case round =>
  obtain ⟨n, t1, HN, hf, hR, hO, hC⟩ := hrel
  obtain ⟨oc, of⟩ := aQ hO
  obtain ⟨cc, cf⟩ := aQ hC
  have hlo : w.heap.size + 1 < wr.heap.size := (zL hC)
  have hpos := hR.r.bnd
  cases gk with
  | zero => exfalso; omega
  | succ k =>
  by_cases hnot : t1.txt = [110, 111, 116]
  ·have HS : Hid (iW l k (!n) (nx l t1) = p) := by
    have := HN.out; unfold iW at this; rwa [if_pos hnot] at this
   have hnp := aAb l t1
   have h3 : t1.txt.length = 3 := by rw [hnot]; rfl
   clear HN
   go_wp2_with (go_at_call_of 193 (Value.string { data := #[110, 111, 116] }); refine (lM [110, 111, 116] hR.r hnot).mono ?_; rintro e w1 ⟨rfl, hr⟩; obtain ⟨pc, pf⟩ := hr.k.loc (w.heap.size) (by first | omega | (simp; done) | (simp; omega)) (by omega); have pb := hr.k.block (w.heap.size) (by first | omega | (simp; done) | (simp; omega)) (by omega); have pz : w.heap.size < w1.heap.size := Nat.lt_of_lt_of_le (by first | omega | (simp; done) | (simp; omega)) hr.k.size; obtain ⟨pC, pF⟩ := hr.k.loc (w.heap.size + 1) (by first | omega | (simp; done) | (simp; omega)) (by omega); have pB := hr.k.block (w.heap.size + 1) (by first | omega | (simp; done) | (simp; omega)) (by omega); have pZ : w.heap.size + 1 < w1.heap.size := Nat.lt_of_lt_of_le (by first | omega | (simp; done) | (simp; omega)) hr.k.size)
   go_roundg k
   case measure => omega
   case rel =>
    have H0 := hR.trans hr
    refine ⟨!n, nx l t1, HS, by omega, H0.set (by omega) _ _, ?_, ?_⟩
    ·exact ((zS _ _ _ _ (by simp)).trans (hr.k.block _ (by omega) (by omega))).trans hO
    ·exact (zC _ _ _ _ _ _ ((hr.k.block _ (by omega) (by omega)).trans hC)).trans rfl
  ·have e : (n, t1) = p := by
    have := HN.out; unfold iW at this; rwa [if_neg hnot] at this
   clear HN HP
   subst e
   replace HQ : Hid (iL l n t1 = r) := HQ
   obtain ⟨d0, d1, d2, d3, d4, d5⟩ := hR.r.rd.cells
   have HW : Hid (iL l n t1 = r) := HQ
   by_cases hw : t1.txt = [102, 117, 108, 108] \/ t1.txt = [101, 109, 112, 116, 121] \/ t1.txt = [119, 97, 114, 109]
   ·have hfl := aQq
    by_cases hk2 : (nx l t1).kind = 2
    ·have HE : Hid (r = .ok (⟨n, t1.txt, np (nx l t1), xU, xU⟩, nx l (nx l t1))) := by
      show _ = _
      rw [<- HQ.out]; unfold iL; rw [if_pos hw, if_pos hk2]
     have hb : ((t1.txt == [102, 117, 108, 108]) = true) \/ ((t1.txt == [102, 117, 108, 108]) = false /\ (t1.txt == [101, 109, 112, 116, 121]) = true) \/ ((t1.txt == [102, 117, 108, 108]) = false /\ (t1.txt == [101, 109, 112, 116, 121]) = false /\ (t1.txt == [119, 97, 114, 109]) = true) := by
      rcases hw with e | e | e <;> rw [e] <;> decide
     clear HQ HW hw
     rcases hb with b1 | ⟨b1, b2⟩ | ⟨b1, b2, b3⟩
     all_goals
      go_wp2_with (first | (go_at_call_of 193 (Value.string { data := #[110, 111, 116] }); refine (gG [110, 111, 116] hR.r hnot).mono ?_; rintro e w' ⟨rfl, rfl⟩))
      refine (kY hR.r).mono ?_
      rintro e w1 ⟨rfl, R1⟩
      have H1 := hR.trans R1
      have mV := (R1.k.block w.heap.size (by omega) (by omega)).trans hO
      have uG := (R1.k.block (w.heap.size + 1) (by omega) (by omega)).trans hC
      have z1 := R1.k.size
      clear oc of cc cf d0 d1 d2 d3 d4 d5 hO hC
      obtain ⟨cc, cf⟩ := aQ uG
      go_wp2_with fail
      refine (rE (l := l) (t := nx l t1) (bl := bl) (lo := lo) (X := X) (Y := Y) (RB.r (w0 := w) (by repeat (first | refine RB.set ?_ (by first | exact zR | omega | (simp; omega)) _ _ | refine RB.alloc ?_ _ | refine RB.drew ?_ | exact H1))) hk2).mono ?_
      rintro e w2 ⟨rfl, R2⟩
      have H2 := RB.trans (w0 := w) (t := nx l t1) (bl := bl) (lo := lo) (by repeat (first | refine RB.set ?_ (by first | exact zR | omega | (simp; omega)) _ _ | refine RB.alloc ?_ _ | refine RB.drew ?_ | exact H1)) R2
      have hO2 := (R2.k.block w.heap.size (by simp [World.setCell]; omega) (by omega)).trans ((zS _ _ _ _ (by first | (simp; done) | (simp; omega))).trans mV)
      have hC2 : w2.heap[w.heap.size + 1]? = some (.cells (O1 ⟨n, t1.txt, ([], 0), xU, xU⟩) 280) := (R2.k.block (w.heap.size + 1) (by simp [World.setCell]; omega) (by omega)).trans ((zC _ _ _ _ _ _ uG).trans rfl)
      clear cc cf
      obtain ⟨cc, cf⟩ := aQ hC2
      go_upto_region 14 with fail
      refine wp_region_lit ?_
      refine wpList_load_row rfl 280 (.tmp 3) rfl (w.heap.size + 1) rfl 280 (O1 ⟨n, t1.txt, np (nx l t1), xU, xU⟩) (0, 0) _ ((zC _ _ _ _ _ _ (zC _ _ _ _ _ _ hC2)).trans rfl) Tryz.underlying280 rfl (by kernel_rfl) ?_
      refine wpList_store_row rfl 280 (.tmp 2) (.tmp 41) rfl (w.heap.size) (O1 ⟨n, t1.txt, np (nx l t1), xU, xU⟩) rfl rfl 280 (O1 ⟨false, [], ([], 0), xU, xU⟩) (((zS _ _ _ _ (by first | (simp; done) | (simp; omega))).trans ((zS _ _ _ _ (by first | (simp; done) | (simp; omega))).trans hO2))) (by kernel_rfl) rfl (by simp [Value.oneCell']) ?_
      go_wp2_with fail
      rw [HE.out]
      refine ⟨rfl, _, fG Tryz.results211 _ _ w.heap.size _ 280 _ rfl (setRow_heap _ _ _ _ _ _ ((zS _ _ _ _ (by first | (simp; done) | (simp; omega))).trans ((zS _ _ _ _ (by first | (simp; done) | (simp; omega))).trans hO2))) Tryz.underlying280 rfl (by kernel_rfl), ?_, ?_⟩
      ·rfl
      ·refine RB.setRow ?_ zR _; repeat (first | refine RB.set ?_ (by first | exact zR | omega | (simp; omega)) _ _ | refine RB.alloc ?_ _ | refine RB.drew ?_ | exact H2)
    ·have HE : Hid (r = .error (false, (nx l t1).pos)) := by
      show _ = _
      rw [<- HQ.out]; unfold iL; rw [if_pos hw, if_neg hk2]
     have hb : ((t1.txt == [102, 117, 108, 108]) = true) \/ ((t1.txt == [102, 117, 108, 108]) = false /\ (t1.txt == [101, 109, 112, 116, 121]) = true) \/ ((t1.txt == [102, 117, 108, 108]) = false /\ (t1.txt == [101, 109, 112, 116, 121]) = false /\ (t1.txt == [119, 97, 114, 109]) = true) := by
      rcases hw with e | e | e <;> rw [e] <;> decide
     clear HQ HW hw
     rcases hb with b1 | ⟨b1, b2⟩ | ⟨b1, b2, b3⟩
     all_goals
      go_wp2_with (first | (go_at_call_of 193 (Value.string { data := #[110, 111, 116] }); refine (gG [110, 111, 116] hR.r hnot).mono ?_; rintro e w' ⟨rfl, rfl⟩))
      refine (kY hR.r).mono ?_
      rintro e w1 ⟨rfl, R1⟩
      have H1 := hR.trans R1
      have mV := (R1.k.block w.heap.size (by omega) (by omega)).trans hO
      have uG := (R1.k.block (w.heap.size + 1) (by omega) (by omega)).trans hC
      have z1 := R1.k.size
      clear oc of cc cf d0 d1 d2 d3 d4 d5 hO hC
      obtain ⟨cc, cf⟩ := aQ uG
      go_wp2_with fail
      refine (yF (l := l) (t := nx l t1) (bl := bl) (lo := lo) (X := X) (Y := Y) (RB.r (w0 := w) (by repeat (first | refine RB.set ?_ (by first | exact zR | omega | (simp; omega)) _ _ | refine RB.alloc ?_ _ | refine RB.drew ?_ | exact H1))) hk2).mono ?_
      rintro e we h3
      obtain ⟨f, rfl, h2⟩ := h3.from (RB.k (w0 := w) (l := l) (t := nx l t1) (bl := bl) (lo := lo) (X := X) (Y := Y) (by repeat (first | refine RB.set ?_ (by first | exact zR | omega | (simp; omega)) _ _ | refine RB.alloc ?_ _ | refine RB.drew ?_ | exact H1)))
      clear h3 cc cf
      go_wp2_with fail
      rw [HE.out]
      exact ⟨rfl, f, rfl, h2⟩
   ·have b1 : (t1.txt == [102, 117, 108, 108]) = false := by simp only [not_or] at hw; simpa using hw.1
    have b2 : (t1.txt == [101, 109, 112, 116, 121]) = false := by simp only [not_or] at hw; simpa using hw.2.1
    have b3 : (t1.txt == [119, 97, 114, 109]) = false := by simp only [not_or] at hw; simpa using hw.2.2
    clear HW
    cases hv : bW l t1 with
    | error q =>
     obtain ⟨d, pp⟩ := q
     have HE : Hid (r = .error (d, pp)) := by
      show _ = _
      rw [<- HQ.out]; unfold iL; rw [if_neg hw, hv]
     have HV : Hid (bW l t1 = .error (d, pp)) := hv
     clear HQ hv hw
     go_wp2_with (first | (go_at_call_of 193 (Value.string { data := #[110, 111, 116] }); refine (gG [110, 111, 116] hR.r hnot).mono ?_; rintro e w' ⟨rfl, rfl⟩))
     refine (aBb hR.r HV.out).mono ?_
     rintro e we h3
     obtain ⟨f, rfl, h2⟩ := h3.from hR.k
     clear h3 cc cf oc of
     go_wp2_with fail
     rw [HE.out]
     exact ⟨rfl, f, rfl, h2⟩
    | ok q =>
     obtain ⟨va, t2⟩ := q
     have HV : Hid (bW l t1 = .ok (va, t2)) := hv
     by_cases hlt : t2.txt = [60]
     ·cases hv2 : bW l (nx l t2) with
      | error q =>
       obtain ⟨d, pp⟩ := q
       have HE : Hid (r = .error (d, pp)) := by
        show _ = _
        rw [<- HQ.out]; unfold iL; rw [if_neg hw, hv]; simp only [hlt, if_true, hv2]
       have HV2 : Hid (bW l (nx l t2) = .error (d, pp)) := hv2
       clear HQ hv hv2 hw
       go_wp2_with (first | (go_at_call_of 193 (Value.string { data := #[110, 111, 116] }); refine (gG [110, 111, 116] hR.r hnot).mono ?_; rintro e w' ⟨rfl, rfl⟩))
       refine (uP hR.r HV.out).mono ?_
       rintro e w1 ⟨rfl, R1⟩
       have H1 := hR.trans R1
       have mV := (R1.k.block w.heap.size (by omega) (by omega)).trans hO
       have uG := (R1.k.block (w.heap.size + 1) (by omega) (by omega)).trans hC
       have z1 := R1.k.size
       obtain ⟨f0, f1, f2, f3, f4, f5⟩ := H1.r.rd.cells
       clear oc of cc cf d0 d1 d2 d3 d4 d5 b1 b2 b3 hO hC
       obtain ⟨cc, cf⟩ := aQ uG
       go_wp2_with fail
       refine (jK (l := l) (t := t2) (bl := bl) (lo := lo) (X := X) (Y := Y) [60] (RB.r (w0 := w) (by repeat (first | refine RB.set ?_ (by first | exact zR | omega | (simp; omega)) _ _ | refine RB.alloc ?_ _ | refine RB.drew ?_ | exact H1))) hlt).mono ?_
       rintro e w2 ⟨rfl, R2⟩
       have H2 := RB.trans (w0 := w) (t := t2) (bl := bl) (lo := lo) (by repeat (first | refine RB.set ?_ (by first | exact zR | omega | (simp; omega)) _ _ | refine RB.alloc ?_ _ | refine RB.drew ?_ | exact H1)) R2
       have hO2 := (R2.k.block w.heap.size (by simp [World.setCell]; omega) (by omega)).trans ((zS _ _ _ _ (by first | (simp; done) | (simp; omega))).trans ((zS _ _ _ _ (by first | (simp; done) | (simp; omega))).trans ((zS _ _ _ _ (by first | (simp; done) | (simp; omega))).trans ((zS _ _ _ _ (by first | (simp; done) | (simp; omega))).trans ((zS _ _ _ _ (by first | (simp; done) | (simp; omega))).trans ((zS _ _ _ _ (by first | (simp; done) | (simp; omega))).trans mV))))))
       have hC2 : w2.heap[w.heap.size + 1]? = some (.cells (O1 ⟨n, t2.txt, ([], 0), va, xU⟩) 280) := (R2.k.block (w.heap.size + 1) (by simp [World.setCell]; omega) (by omega)).trans ((zC _ _ _ _ _ _ (zC _ _ _ _ _ _ (zC _ _ _ _ _ _ (zC _ _ _ _ _ _ (zC _ _ _ _ _ _ (zC _ _ _ _ _ _ uG)))))).trans (by simp [hlt, xU]))
       have z2 := R2.k.size
       clear cc cf f0 f1 f2 f3 f4 f5
       go_wp2_with fail
       refine (aBb H2.r HV2.out).mono ?_
       rintro e we h3
       obtain ⟨f, rfl, h2⟩ := h3.from H2.k
       clear h3
       go_wp2_with fail
       rw [HE.out]
       exact ⟨rfl, f, rfl, h2⟩
      | ok q =>
       obtain ⟨vb, t3⟩ := q
       have HE : Hid (r = .ok (⟨n, t2.txt, ([], 0), va, vb⟩, t3)) := by
        show _ = _
        rw [<- HQ.out]; unfold iL; rw [if_neg hw, hv]; simp only [hlt, if_true, hv2]
       have HV2 : Hid (bW l (nx l t2) = .ok (vb, t3)) := hv2
       clear HQ hv hv2 hw
       go_wp2_with (first | (go_at_call_of 193 (Value.string { data := #[110, 111, 116] }); refine (gG [110, 111, 116] hR.r hnot).mono ?_; rintro e w' ⟨rfl, rfl⟩))
       refine (uP hR.r HV.out).mono ?_
       rintro e w1 ⟨rfl, R1⟩
       have H1 := hR.trans R1
       have mV := (R1.k.block w.heap.size (by omega) (by omega)).trans hO
       have uG := (R1.k.block (w.heap.size + 1) (by omega) (by omega)).trans hC
       have z1 := R1.k.size
       obtain ⟨f0, f1, f2, f3, f4, f5⟩ := H1.r.rd.cells
       clear oc of cc cf d0 d1 d2 d3 d4 d5 b1 b2 b3 hO hC
       obtain ⟨cc, cf⟩ := aQ uG
       go_wp2_with fail
       refine (jK (l := l) (t := t2) (bl := bl) (lo := lo) (X := X) (Y := Y) [60] (RB.r (w0 := w) (by repeat (first | refine RB.set ?_ (by first | exact zR | omega | (simp; omega)) _ _ | refine RB.alloc ?_ _ | refine RB.drew ?_ | exact H1))) hlt).mono ?_
       rintro e w2 ⟨rfl, R2⟩
       have H2 := RB.trans (w0 := w) (t := t2) (bl := bl) (lo := lo) (by repeat (first | refine RB.set ?_ (by first | exact zR | omega | (simp; omega)) _ _ | refine RB.alloc ?_ _ | refine RB.drew ?_ | exact H1)) R2
       have hO2 := (R2.k.block w.heap.size (by simp [World.setCell]; omega) (by omega)).trans ((zS _ _ _ _ (by first | (simp; done) | (simp; omega))).trans ((zS _ _ _ _ (by first | (simp; done) | (simp; omega))).trans ((zS _ _ _ _ (by first | (simp; done) | (simp; omega))).trans ((zS _ _ _ _ (by first | (simp; done) | (simp; omega))).trans ((zS _ _ _ _ (by first | (simp; done) | (simp; omega))).trans ((zS _ _ _ _ (by first | (simp; done) | (simp; omega))).trans mV))))))
       have hC2 : w2.heap[w.heap.size + 1]? = some (.cells (O1 ⟨n, t2.txt, ([], 0), va, xU⟩) 280) := (R2.k.block (w.heap.size + 1) (by simp [World.setCell]; omega) (by omega)).trans ((zC _ _ _ _ _ _ (zC _ _ _ _ _ _ (zC _ _ _ _ _ _ (zC _ _ _ _ _ _ (zC _ _ _ _ _ _ (zC _ _ _ _ _ _ uG)))))).trans (by simp [hlt, xU]))
       have z2 := R2.k.size
       clear cc cf f0 f1 f2 f3 f4 f5
       go_wp2_with fail
       refine (uP H2.r HV2.out).mono ?_
       rintro e w3 ⟨rfl, R3⟩
       have H3 := H2.trans R3
       simp [World.setCell] at z2
       have hO3 := (R3.k.block w.heap.size (by omega) (by omega)).trans hO2
       have xM := (R3.k.block (w.heap.size + 1) (by omega) (by omega)).trans hC2
       obtain ⟨cc, cf⟩ := aQ xM
       go_upto_region 14 with fail
       refine wp_region_lit ?_
       refine wpList_load_row rfl 280 (.tmp 3) rfl (w.heap.size + 1) rfl 280 (O1 ⟨n, t2.txt, ([], 0), va, vb⟩) (0, 0) _ ((zC _ _ _ _ _ _ (zC _ _ _ _ _ _ (zC _ _ _ _ _ _ (zC _ _ _ _ _ _ (zC _ _ _ _ _ _ xM))))).trans rfl) Tryz.underlying280 rfl (by kernel_rfl) ?_
       refine wpList_store_row rfl 280 (.tmp 2) (.tmp 41) rfl (w.heap.size) (O1 ⟨n, t2.txt, ([], 0), va, vb⟩) rfl rfl 280 (O1 ⟨false, [], ([], 0), xU, xU⟩) (((zS _ _ _ _ (by first | (simp; done) | (simp; omega))).trans ((zS _ _ _ _ (by first | (simp; done) | (simp; omega))).trans ((zS _ _ _ _ (by first | (simp; done) | (simp; omega))).trans ((zS _ _ _ _ (by first | (simp; done) | (simp; omega))).trans ((zS _ _ _ _ (by first | (simp; done) | (simp; omega))).trans hO3)))))) (by kernel_rfl) rfl (by simp [Value.oneCell']) ?_
       go_wp2_with fail
       rw [HE.out]
       refine ⟨rfl, _, fG Tryz.results211 _ _ w.heap.size _ 280 _ rfl (setRow_heap _ _ _ _ _ _ ((zS _ _ _ _ (by first | (simp; done) | (simp; omega))).trans ((zS _ _ _ _ (by first | (simp; done) | (simp; omega))).trans ((zS _ _ _ _ (by first | (simp; done) | (simp; omega))).trans ((zS _ _ _ _ (by first | (simp; done) | (simp; omega))).trans ((zS _ _ _ _ (by first | (simp; done) | (simp; omega))).trans hO3)))))) Tryz.underlying280 rfl (by kernel_rfl), ?_, ?_⟩
       ·simp [hlt]
       ·refine RB.setRow ?_ zR _; repeat (first | refine RB.set ?_ (by first | exact zR | omega | (simp; omega)) _ _ | refine RB.alloc ?_ _ | refine RB.drew ?_ | exact H3)
     ·have HE : Hid (r = .error (false, t2.pos)) := by
       show _ = _
       rw [<- HQ.out]; unfold iL; rw [if_neg hw, hv]; simp only [hlt, if_false]
      clear HQ hv hw
      go_wp2_with (first | (go_at_call_of 193 (Value.string { data := #[110, 111, 116] }); refine (gG [110, 111, 116] hR.r hnot).mono ?_; rintro e w' ⟨rfl, rfl⟩))
      refine (uP hR.r HV.out).mono ?_
      rintro e w1 ⟨rfl, R1⟩
      have H1 := hR.trans R1
      have mV := (R1.k.block w.heap.size (by omega) (by omega)).trans hO
      have uG := (R1.k.block (w.heap.size + 1) (by omega) (by omega)).trans hC
      have z1 := R1.k.size
      obtain ⟨f0, f1, f2, f3, f4, f5⟩ := H1.r.rd.cells
      clear oc of cc cf d0 d1 d2 d3 d4 d5 b1 b2 b3 hO hC
      obtain ⟨cc, cf⟩ := aQ uG
      go_wp2_with fail
      refine (lI (l := l) (t := t2) (bl := bl) (lo := lo) (X := X) (Y := Y) [60] (RB.r (w0 := w) (by repeat (first | refine RB.set ?_ (by first | exact zR | omega | (simp; omega)) _ _ | refine RB.alloc ?_ _ | refine RB.drew ?_ | exact H1))) hlt).mono ?_
      rintro e we h3
      obtain ⟨f, rfl, h2⟩ := h3.from (RB.k (w0 := w) (l := l) (t := t2) (bl := bl) (lo := lo) (X := X) (Y := Y) (by repeat (first | refine RB.set ?_ (by first | exact zR | omega | (simp; omega)) _ _ | refine RB.alloc ?_ _ | refine RB.drew ?_ | exact H1)))
      clear h3 cc cf
      go_wp2_with fail
      rw [HE.out]
      exact ⟨rfl, f, rfl, h2⟩
theorem aG7 {w : World} {b : Nat} {l : List UInt8} {t : Tok} {bl lo : Nat} {X Y : Value} {x : Cd} {t' : Tok} (h : Rw w b l t bl lo X Y) (hv : gZ l t = .ok (x, t')) :
  Calls Tryz.prog 211 #[ptr b] w fun e w' => e = .returned (cdV x) /\ RB w w' b l t' bl lo X Y := by
 refine (aC3 h).mono fun e w' H => ?_
 rw [hv] at H; exact H
theorem aG8 {w : World} {b : Nat} {l : List UInt8} {t : Tok} {bl lo : Nat} {X Y : Value} {d : Bool} {p : Nat} (h : Rw w b l t bl lo X Y) (hv : gZ l t = .error (d, p)) :
  Calls Tryz.prog 211 #[ptr b] w fun e w' => xJ w b (if d then Y else X) p e w' := by
 refine (aC3 h).mono fun e w' H => ?_
 rw [hv] at H; exact H
structure St where
 word : List UInt8
 name : NP
 to : NP
 tail : Bool
 times : Nat × Nat
 cond : Cd
 other : Bool
abbrev cd0 : Cd := ⟨false, [], ([], 0), xU, xU⟩
abbrev fC (s : List UInt8) : St := ⟨s, ([], 0), ([], 0), false, (0, 0), cd0, false⟩
abbrev aF : Value := .slice none 0 0
abbrev stA (s : St) (x y : Value) : Array Value := #[.string ⟨s.word.toArray⟩, .string ⟨s.name.1.toArray⟩, .int .i64 s.name.2, .string ⟨s.to.1.toArray⟩, .int .i64 s.to.2, .bool s.tail, .int .i64 s.times.1, .int .i64 s.times.2, .bool s.cond.neg, .string ⟨s.cond.word.toArray⟩, .string ⟨s.cond.queue.1.toArray⟩, .int .i64 s.cond.queue.2, .int .i64 s.cond.left.kind, .string ⟨s.cond.left.name.1.toArray⟩, .int .i64 s.cond.left.name.2, .int .i64 s.cond.left.num.1, .int .i64 s.cond.left.num.2, .int .i64 s.cond.right.kind, .string ⟨s.cond.right.name.1.toArray⟩, .int .i64 s.cond.right.name.2, .int .i64 s.cond.right.num.1, .int .i64 s.cond.right.num.2, x, .bool s.other, y]
def fF (l : List UInt8) (t : Tok) : Bool × Tok := if t.txt = [116, 97, 105, 108] then (true, nx l t) else (false, t)
def iJ (l : List UInt8) (s : St) (t : Tok) : PR St := if t.txt = [59] then .ok (s, nx l t) else .error (false, t.pos)
def aK {α β : Type} (r : PR α) (f : α -> Tok -> PR β) : PR β :=
 match r with
 | .error e => .error e
 | .ok (x, t) => f x t
def oN (s : List UInt8) : Bool := s == [101, 118, 105, 99, 116] || s == [105, 110, 99] || s == [100, 101, 99] || s == [99, 111, 111, 108]
def lK (s : List UInt8) : Bool := s == [100, 114, 111, 112] || s == [98, 117, 109, 112]
def bI (l : List UInt8) (t : Tok) : PR St :=
 if t.txt = [112, 117, 116] then aK (dK l (nx l t)) fun n t2 => iJ l { fC t.txt with name := n, tail := (fF l t2).1 } (fF l t2).2
 else if t.txt = [115, 104, 105, 102, 116] then aK (dK l (nx l t)) fun n t2 => aK (dK l t2) fun m t3 => iJ l { fC t.txt with name := n, to := m, tail := (fF l t3).1 } (fF l t3).2
 else if oN t.txt = true then aK (dK l (nx l t)) fun n t2 => iJ l { fC t.txt with name := n } t2
 else if lK t.txt = true then iJ l (fC t.txt) (nx l t)
 else .error (false, t.pos)
theorem take_any {w : World} {b : Nat} {l : List UInt8} {t : Tok} {bl lo : Nat} {X Y : Value} (s : List UInt8) (h : Rw w b l t bl lo X Y) :
  Calls Tryz.prog 193 #[ptr b, S s] w fun e w' => e = .returned (.bool (decide (t.txt = s))) /\ RB w w' b l (if t.txt = s then nx l t else t) bl lo X Y := by
 by_cases hs : t.txt = s
 ·refine (lM s h hs).mono ?_
  rintro e w' ⟨rfl, hr⟩
  rw [if_pos hs]; exact ⟨by simp [hs], hr⟩
 ·refine (gG s h hs).mono ?_
  rintro e w' ⟨rfl, rfl⟩
  rw [if_neg hs]; exact ⟨by simp [hs], RB.refl h⟩
theorem aBj {w : World} {b : Nat} {l : List UInt8} {t : Tok} {bl lo : Nat} {X Y : Value} (h : Rw w b l t bl lo X Y) :
  Calls Tryz.prog 193 #[ptr b, .string { data := #[116, 97, 105, 108] }] w fun e w' => e = .returned (.bool (fF l t).1) /\ RB w w' b l (fF l t).2 bl lo X Y := by
 refine (take_any [116, 97, 105, 108] h).mono ?_
 rintro e w' ⟨rfl, hr⟩
 unfold fF
 by_cases hs : t.txt = [116, 97, 105, 108]
 ·rw [if_pos hs] at hr ⊢; exact ⟨by simp [hs], hr⟩
 ·rw [if_neg hs] at hr ⊢; exact ⟨by simp [hs], hr⟩
theorem oL {w : World} {b : Nat} {l : List UInt8} {t : Tok} {bl lo : Nat} {X Y : Value} (hr : Rw w b l t bl lo X Y) {ops : Array Oper} {rest : List Oper} {o : Oper} {a : Act} {Q : Exit -> Act -> World -> Prop} (hgd : o.guard = none) (T : TypeId) (x y : Operand) (ho : o.op = .store T x y)
  (A : Array Value) {Z Z' : Array Value} (hx : a.eval x = .pointer (some ⟨w.heap.size + 1, 0, none⟩)) (hy : a.eval y = .agg A) (hi : (Tryz.prog.info? T).map (·.size) = some A.size) (hs : Z'.size = A.size) (h1 : A.all (·.oneCell') = true)
  (h : ∀ W', RB w W' b l t bl lo X Y -> W'.heap[w.heap.size]? = some (.cells Z T) -> W'.heap[w.heap.size + 1]? = some (.cells A T) -> wpList Tryz.prog ops Q rest (a.put o.dst undef) W') :
  wpList Tryz.prog ops Q (o :: rest) a ((w.alloc (.cells Z T)).alloc (.cells Z' T)) := by
 refine wpList_store_row hgd T x y ho (w.heap.size + 1) A hx hy T Z' (aC (by simp)) hi hs h1 (h _ ?_ ?_ ?_)
 ·exact RB.setRow (((RB.refl hr).alloc _).alloc _) (by omega) _
 ·exact (setRow_other _ _ _ _ (by omega)).trans ((zM _ _ _ (by simp)).trans (aC rfl))
 ·exact setRow_heap _ _ _ _ _ _ (aC (by simp))
theorem name_any {w : World} {b : Nat} {l : List UInt8} {t : Tok} {bl lo : Nat} {X Y : Value} (h : Rw w b l t bl lo X Y) :
  Calls Tryz.prog 168 #[ptr b] w fun e w' => Out w b l bl lo X Y (fun n : NP => .agg #[.string ⟨n.1.toArray⟩, .int .i64 n.2]) (dK l t) e w' := by
 unfold dK
 by_cases hs : t.kind = 2
 ·rw [if_pos hs]; exact rE h hs
 ·rw [if_neg hs]; exact yF h hs
theorem uY {w : World} {b : Nat} {l : List UInt8} {t : Tok} {bl lo : Nat} {X Y : Value} {x : NP} {t' : Tok} (h : Rw w b l t bl lo X Y) (hv : dK l t = .ok (x, t')) :
  Calls Tryz.prog 168 #[ptr b] w fun e w' => e = .returned (.agg #[.string ⟨x.1.toArray⟩, .int .i64 x.2]) /\ RB w w' b l t' bl lo X Y := by
 refine (name_any h).mono fun e w' H => ?_
 rw [hv] at H; exact H
theorem uZ {w : World} {b : Nat} {l : List UInt8} {t : Tok} {bl lo : Nat} {X Y : Value} {d : Bool} {p : Nat} (h : Rw w b l t bl lo X Y) (hv : dK l t = .error (d, p)) :
  Calls Tryz.prog 168 #[ptr b] w fun e w' => xJ w b (if d then Y else X) p e w' := by
 refine (name_any h).mono fun e w' H => ?_
 rw [hv] at H; exact H
theorem aH2 {w : World} {b : Nat} {l : List UInt8} {t : Tok} {bl lo : Nat} {X Y : Value} (h : Rw w b l t bl lo X Y) (hw : t.txt = [112, 117, 116]) :
  Calls Tryz.prog 206 #[ptr b] w fun e w' => Out w b l bl lo X Y (fun s => .agg (stA s aF aF)) (bI l t) e w' := by
 have hgt := h.gt
 have HQ : Hid (bI l t = aK (dK l (nx l t)) fun n t2 => iJ l { fC t.txt with name := n, tail := (fF l t2).1 } (fF l t2).2) := by
  show _ = _
  unfold bI; rw [if_pos hw]
 generalize bI l t = r at *
 obtain ⟨c0, c1, c2, c3, c4, c5⟩ := h.rd.cells
 have b1 : (t.txt == [112, 117, 116]) = true := by simp [hw]
 clear hw
 go_enter Tryz.func206, Tryz.ntmps206
 go_upto_region 1 with fail
 refine wp_region_lit ?_
 iterate 21 go_step
 refine oL h rfl 282 (.tmp 3) (.tmp 9) rfl (stA (fC t.txt) aF aF) rfl rfl (by kernel_rfl) rfl (by simp [Value.oneCell']) ?_
 intro W0 h0 xK hC0
 obtain ⟨cc, cf⟩ := aQ hC0
 go_wp2_with fail
 refine (kY h0.r).mono ?_
 rintro e w1 ⟨rfl, R1⟩
 have H1 := h0.trans R1
 have z0 : w.heap.size + 1 < W0.heap.size := (zL hC0)
 have z1 := R1.k.size
 have mV := (R1.k.block w.heap.size (by omega) (by omega)).trans xK
 have uG := (R1.k.block (w.heap.size + 1) (by omega) (by omega)).trans hC0
 clear h0 R1 c0 c1 c2 c3 c4 c5 cc cf xK hC0
 obtain ⟨cc, cf⟩ := aQ uG
 go_wp2_with fail
 cases hn : dK l (nx l t) with
 | error q =>
  obtain ⟨d, pp⟩ := q
  refine (uZ H1.r hn).mono ?_
  rintro e we h3
  obtain ⟨f, rfl, h2⟩ := h3.from H1.k
  clear h3
  have HE : Hid (r = .error (d, pp)) := by show _ = _; rw [HQ.out, hn]; rfl
  clear HQ hn cc cf
  go_wp2_with fail
  rw [HE.out]
  exact ⟨rfl, f, rfl, h2⟩
 | ok q =>
  obtain ⟨n, t2⟩ := q
  refine (uY H1.r hn).mono ?_
  rintro e w2 ⟨rfl, R2⟩
  have H2 := H1.trans R2
  have z2 := R2.k.size
  have hO2 := (R2.k.block w.heap.size (by omega) (by omega)).trans mV
  have hC2 := (R2.k.block (w.heap.size + 1) (by omega) (by omega)).trans uG
  replace HQ : Hid (r = iJ l { fC t.txt with name := n, tail := (fF l t2).1 } (fF l t2).2) := by show _ = _; rw [HQ.out, hn]; rfl
  clear hn cc cf R2 mV uG
  obtain ⟨cc, cf⟩ := aQ hC2
  go_wp2_with fail
  refine (aBj (l := l) (t := t2) (bl := bl) (lo := lo) (X := X) (Y := Y) (RB.r (w0 := w) (by repeat (first | refine RB.set ?_ (by first | exact zR | omega | (simp; omega)) _ _ | refine RB.alloc ?_ _ | refine RB.drew ?_ | exact H2)))).mono ?_
  generalize htl : fF l t2 = tl at *
  obtain ⟨tb, t3⟩ := tl
  clear htl
  rintro e w3 ⟨rfl, R3⟩
  have H3 := RB.trans (w0 := w) (t := t2) (bl := bl) (lo := lo) (by repeat (first | refine RB.set ?_ (by first | exact zR | omega | (simp; omega)) _ _ | refine RB.alloc ?_ _ | refine RB.drew ?_ | exact H2)) R3
  have z3 := R3.k.size
  simp [World.setCell] at z3
  have hO3 := (R3.k.block w.heap.size (by simp [World.setCell]; omega) (by omega)).trans ((zS _ _ _ _ (by first | (simp; done) | (simp; omega))).trans ((zS _ _ _ _ (by first | (simp; done) | (simp; omega))).trans hO2))
  have xM : w3.heap[w.heap.size + 1]? = some (.cells (stA { fC t.txt with name := n } aF aF) 282) := (R3.k.block (w.heap.size + 1) (by simp [World.setCell]; omega) (by omega)).trans ((zC _ _ _ _ _ _ (zC _ _ _ _ _ _ hC2)).trans rfl)
  replace HQ : Hid (r = iJ l { fC t.txt with name := n, tail := tb } t3) := HQ
  clear cc cf R3 hO2 hC2
  obtain ⟨cc, cf⟩ := aQ xM
  go_wp2_with fail
  by_cases hsm : t3.txt = [59]
  ·refine (jK (l := l) (t := t3) (bl := bl) (lo := lo) (X := X) (Y := Y) [59] (RB.r (w0 := w) (by repeat (first | refine RB.set ?_ (by first | exact zR | omega | (simp; omega)) _ _ | refine RB.alloc ?_ _ | refine RB.drew ?_ | exact H3))) hsm).mono ?_
   rintro e w4 ⟨rfl, R4⟩
   have H4 := RB.trans (w0 := w) (t := t3) (bl := bl) (lo := lo) (by repeat (first | refine RB.set ?_ (by first | exact zR | omega | (simp; omega)) _ _ | refine RB.alloc ?_ _ | refine RB.drew ?_ | exact H3)) R4
   have z4 := R4.k.size
   simp [World.setCell] at z4
   have hO4 := (R4.k.block w.heap.size (by simp [World.setCell]; omega) (by omega)).trans ((zS _ _ _ _ (by first | (simp; done) | (simp; omega))).trans hO3)
   have hC4 : w4.heap[w.heap.size + 1]? = some (.cells (stA { fC t.txt with name := n, tail := tb } aF aF) 282) := (R4.k.block (w.heap.size + 1) (by simp [World.setCell]; omega) (by omega)).trans ((zC _ _ _ _ _ _ xM).trans rfl)
   have HE : Hid (r = .ok ({ fC t.txt with name := n, tail := tb }, nx l t3)) := by show _ = _; rw [HQ.out]; unfold iJ; rw [if_pos hsm]
   clear cc cf R4 hO3 xM HQ
   go_upto_region 23 with fail
   refine wp_region_lit ?_
   refine wpList_load_row rfl 282 (.tmp 3) rfl (w.heap.size + 1) rfl 282 (stA { fC t.txt with name := n, tail := tb } aF aF) (0, 0) _ (hC4) Tryz.underlying282 rfl (by kernel_rfl) ?_
   refine wpList_store_row rfl 282 (.tmp 2) (.tmp 55) rfl (w.heap.size) (stA { fC t.txt with name := n, tail := tb } aF aF) rfl rfl 282 (stA (fC []) aF aF) (hO4) (by kernel_rfl) rfl (by simp [Value.oneCell']) ?_
   go_wp2_with fail
   rw [HE.out]
   refine ⟨rfl, _, fG Tryz.results206 _ _ w.heap.size _ 282 _ rfl (setRow_heap _ _ _ _ _ _ hO4) Tryz.underlying282 rfl (by kernel_rfl), ?_, ?_⟩
   ·rfl
   ·refine RB.setRow ?_ zR _; repeat (first | refine RB.set ?_ (by first | exact zR | omega | (simp; omega)) _ _ | refine RB.alloc ?_ _ | refine RB.drew ?_ | exact H4)
  ·refine (lI (l := l) (t := t3) (bl := bl) (lo := lo) (X := X) (Y := Y) [59] (RB.r (w0 := w) (by repeat (first | refine RB.set ?_ (by first | exact zR | omega | (simp; omega)) _ _ | refine RB.alloc ?_ _ | refine RB.drew ?_ | exact H3))) hsm).mono ?_
   rintro e we h3
   obtain ⟨f, rfl, h2⟩ := h3.from (RB.k (w0 := w) (l := l) (t := t3) (bl := bl) (lo := lo) (X := X) (Y := Y) (by repeat (first | refine RB.set ?_ (by first | exact zR | omega | (simp; omega)) _ _ | refine RB.alloc ?_ _ | refine RB.drew ?_ | exact H3)))
   have HE : Hid (r = .error (false, t3.pos)) := by show _ = _; rw [HQ.out]; unfold iJ; rw [if_neg hsm]
   clear h3 cc cf HQ
   go_wp2_with fail
   rw [HE.out]
   exact ⟨rfl, f, rfl, h2⟩
theorem aB3 {w : World} {b : Nat} {l : List UInt8} {t : Tok} {bl lo : Nat} {X Y : Value} (h : Rw w b l t bl lo X Y) (hw : t.txt = [115, 104, 105, 102, 116]) :
  Calls Tryz.prog 206 #[ptr b] w fun e w' => Out w b l bl lo X Y (fun s => .agg (stA s aF aF)) (bI l t) e w' := by
 have hgt := h.gt
 have HQ : Hid (bI l t = aK (dK l (nx l t)) fun n t2 => aK (dK l t2) fun m t3 => iJ l { fC t.txt with name := n, to := m, tail := (fF l t3).1 } (fF l t3).2) := by
  show _ = _
  unfold bI; rw [if_neg (by rw [hw]; decide), if_pos hw]
 generalize bI l t = r at *
 obtain ⟨c0, c1, c2, c3, c4, c5⟩ := h.rd.cells
 have b1 : (t.txt == [112, 117, 116]) = false := by rw [hw]; decide
 have b2 : (t.txt == [115, 104, 105, 102, 116]) = true := by rw [hw]; decide
 clear hw
 go_enter Tryz.func206, Tryz.ntmps206
 go_upto_region 1 with fail
 refine wp_region_lit ?_
 iterate 21 go_step
 refine oL h rfl 282 (.tmp 3) (.tmp 9) rfl (stA (fC t.txt) aF aF) rfl rfl (by kernel_rfl) rfl (by simp [Value.oneCell']) ?_
 intro W0 h0 xK hC0
 have z0 : w.heap.size + 1 < W0.heap.size := (zL hC0)
 clear c0 c1 c2 c3 c4 c5
 obtain ⟨cc, cf⟩ := aQ hC0
 go_wp2_with fail
 refine (kY h0.r).mono ?_
 rintro e w1 ⟨rfl, R1⟩
 have H1 := RB.trans (w0 := w) (t := t) (bl := bl) (lo := lo) (by repeat (first | refine RB.set ?_ (by first | exact zR | omega | (simp; omega)) _ _ | refine RB.alloc ?_ _ | refine RB.drew ?_ | exact h0)) R1
 have mV := (R1.k.block w.heap.size (by first | omega | (simp [World.setCell]; omega)) (by omega)).trans xK
 have uG : w1.heap[w.heap.size + 1]? = some (.cells (stA (fC t.txt) aF aF) 282) := (R1.k.block (w.heap.size + 1) (by first | omega | (simp [World.setCell]; omega)) (by omega)).trans (hC0.trans rfl)
 have z1 : w.heap.size + 1 < w1.heap.size := (zL uG)
 clear R1 cc cf xK hC0
 obtain ⟨cc, cf⟩ := aQ uG
 go_wp2_with fail
 cases hn : dK l (nx l t) with
 | error q =>
  obtain ⟨d, pp⟩ := q
  refine (uZ H1.r hn).mono ?_
  rintro e we h3
  obtain ⟨f, rfl, h2⟩ := h3.from H1.k
  have HE : Hid (r = .error (d, pp)) := by show _ = _; rw [HQ.out, hn]; rfl
  clear h3 HQ hn cc cf
  go_wp2_with fail
  rw [HE.out]
  exact ⟨rfl, f, rfl, h2⟩
 | ok q =>
  obtain ⟨n, t2⟩ := q
  refine (uY H1.r hn).mono ?_
  rintro e w2 ⟨rfl, R2⟩
  replace HQ : Hid (r = aK (dK l t2) fun m t3 => iJ l { fC t.txt with name := n, to := m, tail := (fF l t3).1 } (fF l t3).2) := by show _ = _; rw [HQ.out, hn]; rfl
  clear hn
  have H2 := RB.trans (w0 := w) (t := nx l t) (bl := bl) (lo := lo) (by repeat (first | refine RB.set ?_ (by first | exact zR | omega | (simp; omega)) _ _ | refine RB.alloc ?_ _ | refine RB.drew ?_ | exact H1)) R2
  have hO2 := (R2.k.block w.heap.size (by first | omega | (simp [World.setCell]; omega)) (by omega)).trans mV
  have hC2 : w2.heap[w.heap.size + 1]? = some (.cells (stA (fC t.txt) aF aF) 282) := (R2.k.block (w.heap.size + 1) (by first | omega | (simp [World.setCell]; omega)) (by omega)).trans (uG.trans rfl)
  have z2 : w.heap.size + 1 < w2.heap.size := (zL hC2)
  clear R2 cc cf mV uG
  obtain ⟨cc, cf⟩ := aQ hC2
  go_wp2_with fail
  cases hn : dK l t2 with
  | error q =>
   obtain ⟨d, pp⟩ := q
   refine (uZ (l := l) (t := t2) (bl := bl) (lo := lo) (X := X) (Y := Y) (RB.r (w0 := w) (l := l) (t := t2) (bl := bl) (lo := lo) (X := X) (Y := Y) (by repeat (first | refine RB.set ?_ (by first | exact zR | omega | (simp; omega)) _ _ | refine RB.alloc ?_ _ | refine RB.drew ?_ | exact H2))) hn).mono ?_
   rintro e we h3
   obtain ⟨f, rfl, h2⟩ := h3.from (RB.k (w0 := w) (l := l) (t := t2) (bl := bl) (lo := lo) (X := X) (Y := Y) (by repeat (first | refine RB.set ?_ (by first | exact zR | omega | (simp; omega)) _ _ | refine RB.alloc ?_ _ | refine RB.drew ?_ | exact H2)))
   have HE : Hid (r = .error (d, pp)) := by show _ = _; rw [HQ.out, hn]; rfl
   clear h3 HQ hn cc cf
   go_wp2_with fail
   rw [HE.out]
   exact ⟨rfl, f, rfl, h2⟩
  | ok q =>
   obtain ⟨m, t3⟩ := q
   refine (uY (l := l) (t := t2) (bl := bl) (lo := lo) (X := X) (Y := Y) (RB.r (w0 := w) (l := l) (t := t2) (bl := bl) (lo := lo) (X := X) (Y := Y) (by repeat (first | refine RB.set ?_ (by first | exact zR | omega | (simp; omega)) _ _ | refine RB.alloc ?_ _ | refine RB.drew ?_ | exact H2))) hn).mono ?_
   rintro e w3 ⟨rfl, R3⟩
   replace HQ : Hid (r = iJ l { fC t.txt with name := n, to := m, tail := (fF l t3).1 } (fF l t3).2) := by show _ = _; rw [HQ.out, hn]; rfl
   clear hn
   have H3 := RB.trans (w0 := w) (t := t2) (bl := bl) (lo := lo) (by repeat (first | refine RB.set ?_ (by first | exact zR | omega | (simp; omega)) _ _ | refine RB.alloc ?_ _ | refine RB.drew ?_ | exact H2)) R3
   have hO3 := (R3.k.block w.heap.size (by first | omega | (simp [World.setCell]; omega)) (by omega)).trans ((zS _ _ _ _ (by first | (simp; done) | (simp; omega))).trans ((zS _ _ _ _ (by first | (simp; done) | (simp; omega))).trans hO2))
   have xM : w3.heap[w.heap.size + 1]? = some (.cells (stA { fC t.txt with name := n } aF aF) 282) := (R3.k.block (w.heap.size + 1) (by first | omega | (simp [World.setCell]; omega)) (by omega)).trans ((zC _ _ _ _ _ _ (zC _ _ _ _ _ _ hC2)).trans rfl)
   have z3 : w.heap.size + 1 < w3.heap.size := (zL xM)
   clear R3 cc cf hO2 hC2
   obtain ⟨cc, cf⟩ := aQ xM
   go_wp2_with fail
   refine (aBj (l := l) (t := t3) (bl := bl) (lo := lo) (X := X) (Y := Y) (RB.r (w0 := w) (l := l) (t := t3) (bl := bl) (lo := lo) (X := X) (Y := Y) (by repeat (first | refine RB.set ?_ (by first | exact zR | omega | (simp; omega)) _ _ | refine RB.alloc ?_ _ | refine RB.drew ?_ | exact H3)))).mono ?_
   generalize htl : fF l t3 = tl at *
   obtain ⟨tb, t4⟩ := tl
   clear htl
   rintro e w4 ⟨rfl, R4⟩
   replace HQ : Hid (r = iJ l { fC t.txt with name := n, to := m, tail := tb } t4) := HQ
   have H4 := RB.trans (w0 := w) (t := t3) (bl := bl) (lo := lo) (by repeat (first | refine RB.set ?_ (by first | exact zR | omega | (simp; omega)) _ _ | refine RB.alloc ?_ _ | refine RB.drew ?_ | exact H3)) R4
   have hO4 := (R4.k.block w.heap.size (by first | omega | (simp [World.setCell]; omega)) (by omega)).trans ((zS _ _ _ _ (by first | (simp; done) | (simp; omega))).trans ((zS _ _ _ _ (by first | (simp; done) | (simp; omega))).trans hO3))
   have hC4 : w4.heap[w.heap.size + 1]? = some (.cells (stA { fC t.txt with name := n, to := m } aF aF) 282) := (R4.k.block (w.heap.size + 1) (by first | omega | (simp [World.setCell]; omega)) (by omega)).trans ((zC _ _ _ _ _ _ (zC _ _ _ _ _ _ xM)).trans rfl)
   have z4 : w.heap.size + 1 < w4.heap.size := (zL hC4)
   clear R4 cc cf hO3 xM
   obtain ⟨cc, cf⟩ := aQ hC4
   go_wp2_with fail
   by_cases hsm : (t4).txt = [59]
   ·refine (jK (l := l) (t := t4) (bl := bl) (lo := lo) (X := X) (Y := Y) [59] (RB.r (w0 := w) (l := l) (t := t4) (bl := bl) (lo := lo) (X := X) (Y := Y) (by repeat (first | refine RB.set ?_ (by first | exact zR | omega | (simp; omega)) _ _ | refine RB.alloc ?_ _ | refine RB.drew ?_ | exact H4))) hsm).mono ?_
    rintro e we ⟨rfl, Re⟩
    have He := RB.trans (w0 := w) (t := t4) (bl := bl) (lo := lo) (by repeat (first | refine RB.set ?_ (by first | exact zR | omega | (simp; omega)) _ _ | refine RB.alloc ?_ _ | refine RB.drew ?_ | exact H4)) Re
    have hOe := (Re.k.block w.heap.size (by first | omega | (simp [World.setCell]; omega)) (by omega)).trans ((zS _ _ _ _ (by first | (simp; done) | (simp; omega))).trans hO4)
    have hCe : we.heap[w.heap.size + 1]? = some (.cells (stA ({ fC t.txt with name := n, to := m, tail := tb }) aF aF) 282) := (Re.k.block (w.heap.size + 1) (by first | omega | (simp [World.setCell]; omega)) (by omega)).trans ((zC _ _ _ _ _ _ hC4).trans rfl)
    have HE : Hid (r = .ok ({ fC t.txt with name := n, to := m, tail := tb }, nx l (t4))) := by show _ = _; rw [HQ.out]; unfold iJ; rw [if_pos hsm]
    clear cc cf Re hO4 hC4 HQ
    go_upto_region 23 with fail
    refine wp_region_lit ?_
    refine wpList_load_row rfl 282 (.tmp 3) rfl (w.heap.size + 1) rfl 282 (stA ({ fC t.txt with name := n, to := m, tail := tb }) aF aF) (0, 0) _ (hCe) Tryz.underlying282 rfl (by kernel_rfl) ?_
    refine wpList_store_row rfl 282 (.tmp 2) (.tmp 55) rfl (w.heap.size) (stA ({ fC t.txt with name := n, to := m, tail := tb }) aF aF) rfl rfl 282 (stA (fC []) aF aF) (hOe) (by kernel_rfl) rfl (by simp [Value.oneCell']) ?_
    go_wp2_with fail
    rw [HE.out]
    refine ⟨rfl, _, fG Tryz.results206 _ _ w.heap.size _ 282 _ rfl (setRow_heap _ _ _ _ _ _ hOe) Tryz.underlying282 rfl (by kernel_rfl), ?_, ?_⟩
    ·rfl
    ·refine RB.setRow ?_ zR _; repeat (first | refine RB.set ?_ (by first | exact zR | omega | (simp; omega)) _ _ | refine RB.alloc ?_ _ | refine RB.drew ?_ | exact He)
   ·refine (lI (l := l) (t := t4) (bl := bl) (lo := lo) (X := X) (Y := Y) [59] (RB.r (w0 := w) (l := l) (t := t4) (bl := bl) (lo := lo) (X := X) (Y := Y) (by repeat (first | refine RB.set ?_ (by first | exact zR | omega | (simp; omega)) _ _ | refine RB.alloc ?_ _ | refine RB.drew ?_ | exact H4))) hsm).mono ?_
    rintro e we h3
    obtain ⟨f, rfl, h2⟩ := h3.from (RB.k (w0 := w) (l := l) (t := t4) (bl := bl) (lo := lo) (X := X) (Y := Y) (by repeat (first | refine RB.set ?_ (by first | exact zR | omega | (simp; omega)) _ _ | refine RB.alloc ?_ _ | refine RB.drew ?_ | exact H4)))
    have HE : Hid (r = .error (false, (t4).pos)) := by show _ = _; rw [HQ.out]; unfold iJ; rw [if_neg hsm]
    clear h3 cc cf HQ
    go_wp2_with fail
    rw [HE.out]
    exact ⟨rfl, f, rfl, h2⟩
theorem aH5 (s : List UInt8) (h1 : ¬ s = [112, 117, 116]) (h2 : ¬ s = [115, 104, 105, 102, 116]) (h : oN s = true) :
  (s == [112, 117, 116]) = false /\ (s == [115, 104, 105, 102, 116]) = false /\ ((s == [101, 118, 105, 99, 116]) = true \/ ((s == [101, 118, 105, 99, 116]) = false /\ (s == [105, 110, 99]) = true) \/ ((s == [101, 118, 105, 99, 116]) = false /\ (s == [105, 110, 99]) = false /\ (s == [100, 101, 99]) = true) \/ ((s == [101, 118, 105, 99, 116]) = false /\ (s == [105, 110, 99]) = false /\ (s == [100, 101, 99]) = false /\ (s == [99, 111, 111, 108]) = true)) := by
 refine ⟨by simpa using h1, by simpa using h2, ?_⟩
 simp only [oN, Bool.or_eq_true, beq_iff_eq] at h
 rcases h with ((e | e) | e) | e <;> rw [e] <;> decide
theorem aH3 {w : World} {b : Nat} {l : List UInt8} {t : Tok} {bl lo : Nat} {X Y : Value} (h : Rw w b l t bl lo X Y) (hw1 : ¬ t.txt = [112, 117, 116]) (hw2 : ¬ t.txt = [115, 104, 105, 102, 116]) (hw : oN t.txt = true) :
  Calls Tryz.prog 206 #[ptr b] w fun e w' => Out w b l bl lo X Y (fun s => .agg (stA s aF aF)) (bI l t) e w' := by
 have hgt := h.gt
 have HQ : Hid (bI l t = aK (dK l (nx l t)) fun n t2 => iJ l { fC t.txt with name := n } t2) := by
  show _ = _
  unfold bI; rw [if_neg hw1, if_neg hw2, if_pos hw]
 generalize bI l t = r at *
 obtain ⟨c0, c1, c2, c3, c4, c5⟩ := h.rd.cells
 obtain ⟨b1, b2, hb⟩ := aH5 t.txt hw1 hw2 hw
 clear hw hw1 hw2
 rcases hb with b3 | ⟨b3, b4⟩ | ⟨b3, b4, b5⟩ | ⟨b3, b4, b5, b6⟩
 all_goals
  go_enter Tryz.func206, Tryz.ntmps206
  go_upto_region 1 with fail
  refine wp_region_lit ?_
  iterate 21 go_step
  refine oL h rfl 282 (.tmp 3) (.tmp 9) rfl (stA (fC t.txt) aF aF) rfl rfl (by kernel_rfl) rfl (by simp [Value.oneCell']) ?_
  intro W0 h0 xK hC0
  have z0 : w.heap.size + 1 < W0.heap.size := (zL hC0)
  clear c0 c1 c2 c3 c4 c5
  obtain ⟨cc, cf⟩ := aQ hC0
  go_wp2_with fail
  refine (kY h0.r).mono ?_
  rintro e w1 ⟨rfl, R1⟩
  have H1 := RB.trans (w0 := w) (t := t) (bl := bl) (lo := lo) (by repeat (first | refine RB.set ?_ (by first | exact zR | omega | (simp; omega)) _ _ | refine RB.alloc ?_ _ | refine RB.drew ?_ | exact h0)) R1
  have mV := (R1.k.block w.heap.size (by first | omega | (simp [World.setCell]; omega)) (by omega)).trans xK
  have uG : w1.heap[w.heap.size + 1]? = some (.cells (stA (fC t.txt) aF aF) 282) := (R1.k.block (w.heap.size + 1) (by first | omega | (simp [World.setCell]; omega)) (by omega)).trans (hC0.trans rfl)
  have z1 : w.heap.size + 1 < w1.heap.size := (zL uG)
  clear R1 cc cf xK hC0
  obtain ⟨cc, cf⟩ := aQ uG
  go_wp2_with fail
  cases hn : dK l (nx l t) with
  | error q =>
   obtain ⟨d, pp⟩ := q
   refine (uZ H1.r hn).mono ?_
   rintro e we h3
   obtain ⟨f, rfl, h2⟩ := h3.from H1.k
   have HE : Hid (r = .error (d, pp)) := by show _ = _; rw [HQ.out, hn]; rfl
   clear h3 HQ hn cc cf
   go_wp2_with fail
   rw [HE.out]
   exact ⟨rfl, f, rfl, h2⟩
  | ok q =>
   obtain ⟨n, t2⟩ := q
   refine (uY H1.r hn).mono ?_
   rintro e w2 ⟨rfl, R2⟩
   replace HQ : Hid (r = iJ l { fC t.txt with name := n } t2) := by show _ = _; rw [HQ.out, hn]; rfl
   clear hn
   have H2 := RB.trans (w0 := w) (t := nx l t) (bl := bl) (lo := lo) (by repeat (first | refine RB.set ?_ (by first | exact zR | omega | (simp; omega)) _ _ | refine RB.alloc ?_ _ | refine RB.drew ?_ | exact H1)) R2
   have hO2 := (R2.k.block w.heap.size (by first | omega | (simp [World.setCell]; omega)) (by omega)).trans mV
   have hC2 : w2.heap[w.heap.size + 1]? = some (.cells (stA (fC t.txt) aF aF) 282) := (R2.k.block (w.heap.size + 1) (by first | omega | (simp [World.setCell]; omega)) (by omega)).trans (uG.trans rfl)
   have z2 : w.heap.size + 1 < w2.heap.size := (zL hC2)
   clear R2 cc cf mV uG
   obtain ⟨cc, cf⟩ := aQ hC2
   go_wp2_with fail
   by_cases hsm : (t2).txt = [59]
   ·refine (jK (l := l) (t := t2) (bl := bl) (lo := lo) (X := X) (Y := Y) [59] (RB.r (w0 := w) (l := l) (t := t2) (bl := bl) (lo := lo) (X := X) (Y := Y) (by repeat (first | refine RB.set ?_ (by first | exact zR | omega | (simp; omega)) _ _ | refine RB.alloc ?_ _ | refine RB.drew ?_ | exact H2))) hsm).mono ?_
    rintro e we ⟨rfl, Re⟩
    have He := RB.trans (w0 := w) (t := t2) (bl := bl) (lo := lo) (by repeat (first | refine RB.set ?_ (by first | exact zR | omega | (simp; omega)) _ _ | refine RB.alloc ?_ _ | refine RB.drew ?_ | exact H2)) Re
    have hOe := (Re.k.block w.heap.size (by first | omega | (simp [World.setCell]; omega)) (by omega)).trans ((zS _ _ _ _ (by first | (simp; done) | (simp; omega))).trans ((zS _ _ _ _ (by first | (simp; done) | (simp; omega))).trans hO2))
    have hCe : we.heap[w.heap.size + 1]? = some (.cells (stA ({ fC t.txt with name := n }) aF aF) 282) := (Re.k.block (w.heap.size + 1) (by first | omega | (simp [World.setCell]; omega)) (by omega)).trans ((zC _ _ _ _ _ _ (zC _ _ _ _ _ _ hC2)).trans rfl)
    have HE : Hid (r = .ok ({ fC t.txt with name := n }, nx l (t2))) := by show _ = _; rw [HQ.out]; unfold iJ; rw [if_pos hsm]
    clear cc cf Re hO2 hC2 HQ
    go_upto_region 23 with fail
    refine wp_region_lit ?_
    refine wpList_load_row rfl 282 (.tmp 3) rfl (w.heap.size + 1) rfl 282 (stA ({ fC t.txt with name := n }) aF aF) (0, 0) _ (hCe) Tryz.underlying282 rfl (by kernel_rfl) ?_
    refine wpList_store_row rfl 282 (.tmp 2) (.tmp 55) rfl (w.heap.size) (stA ({ fC t.txt with name := n }) aF aF) rfl rfl 282 (stA (fC []) aF aF) (hOe) (by kernel_rfl) rfl (by simp [Value.oneCell']) ?_
    go_wp2_with fail
    rw [HE.out]
    refine ⟨rfl, _, fG Tryz.results206 _ _ w.heap.size _ 282 _ rfl (setRow_heap _ _ _ _ _ _ hOe) Tryz.underlying282 rfl (by kernel_rfl), ?_, ?_⟩
    ·rfl
    ·refine RB.setRow ?_ zR _; repeat (first | refine RB.set ?_ (by first | exact zR | omega | (simp; omega)) _ _ | refine RB.alloc ?_ _ | refine RB.drew ?_ | exact He)
   ·refine (lI (l := l) (t := t2) (bl := bl) (lo := lo) (X := X) (Y := Y) [59] (RB.r (w0 := w) (l := l) (t := t2) (bl := bl) (lo := lo) (X := X) (Y := Y) (by repeat (first | refine RB.set ?_ (by first | exact zR | omega | (simp; omega)) _ _ | refine RB.alloc ?_ _ | refine RB.drew ?_ | exact H2))) hsm).mono ?_
    rintro e we h3
    obtain ⟨f, rfl, h2⟩ := h3.from (RB.k (w0 := w) (l := l) (t := t2) (bl := bl) (lo := lo) (X := X) (Y := Y) (by repeat (first | refine RB.set ?_ (by first | exact zR | omega | (simp; omega)) _ _ | refine RB.alloc ?_ _ | refine RB.drew ?_ | exact H2)))
    have HE : Hid (r = .error (false, (t2).pos)) := by show _ = _; rw [HQ.out]; unfold iJ; rw [if_neg hsm]
    clear h3 cc cf HQ
    go_wp2_with fail
    rw [HE.out]
    exact ⟨rfl, f, rfl, h2⟩
theorem aDl (s : List UInt8) (h1 : ¬ s = [112, 117, 116]) (h2 : ¬ s = [115, 104, 105, 102, 116]) (h3 : ¬ oN s = true) (h : lK s = true) :
  (s == [112, 117, 116]) = false /\ (s == [115, 104, 105, 102, 116]) = false /\ (s == [101, 118, 105, 99, 116]) = false /\ (s == [105, 110, 99]) = false /\ (s == [100, 101, 99]) = false /\ (s == [99, 111, 111, 108]) = false /\ ((s == [100, 114, 111, 112]) = true \/ ((s == [100, 114, 111, 112]) = false /\ (s == [98, 117, 109, 112]) = true)) := by
 simp only [oN, Bool.or_eq_true, beq_iff_eq, not_or] at h3
 refine ⟨by simpa using h1, by simpa using h2, by simpa using h3.1.1.1, by simpa using h3.1.1.2, by simpa using h3.1.2, by simpa using h3.2, ?_⟩
 simp only [lK, Bool.or_eq_true, beq_iff_eq] at h
 rcases h with e | e <;> rw [e] <;> decide
theorem aD5 {w : World} {b : Nat} {l : List UInt8} {t : Tok} {bl lo : Nat} {X Y : Value} (h : Rw w b l t bl lo X Y) (hw1 : ¬ t.txt = [112, 117, 116]) (hw2 : ¬ t.txt = [115, 104, 105, 102, 116]) (hw3 : ¬ oN t.txt = true) (hw : lK t.txt = true) :
  Calls Tryz.prog 206 #[ptr b] w fun e w' => Out w b l bl lo X Y (fun s => .agg (stA s aF aF)) (bI l t) e w' := by
 have hgt := h.gt
 have HQ : Hid (bI l t = iJ l (fC t.txt) (nx l t)) := by
  show _ = _
  unfold bI; rw [if_neg hw1, if_neg hw2, if_neg hw3, if_pos hw]
 generalize bI l t = r at *
 obtain ⟨c0, c1, c2, c3, c4, c5⟩ := h.rd.cells
 obtain ⟨b1, b2, b3, b4, b5, b6, hb⟩ := aDl t.txt hw1 hw2 hw3 hw
 clear hw hw1 hw2 hw3
 rcases hb with b7 | ⟨b7, b8⟩
 all_goals
  go_enter Tryz.func206, Tryz.ntmps206
  go_upto_region 1 with fail
  refine wp_region_lit ?_
  iterate 21 go_step
  refine oL h rfl 282 (.tmp 3) (.tmp 9) rfl (stA (fC t.txt) aF aF) rfl rfl (by kernel_rfl) rfl (by simp [Value.oneCell']) ?_
  intro W0 h0 xK hC0
  have z0 : w.heap.size + 1 < W0.heap.size := (zL hC0)
  clear c0 c1 c2 c3 c4 c5
  obtain ⟨cc, cf⟩ := aQ hC0
  go_wp2_with fail
  refine (kY h0.r).mono ?_
  rintro e w1 ⟨rfl, R1⟩
  have H1 := RB.trans (w0 := w) (t := t) (bl := bl) (lo := lo) (by repeat (first | refine RB.set ?_ (by first | exact zR | omega | (simp; omega)) _ _ | refine RB.alloc ?_ _ | refine RB.drew ?_ | exact h0)) R1
  have mV := (R1.k.block w.heap.size (by first | omega | (simp [World.setCell]; omega)) (by omega)).trans xK
  have uG : w1.heap[w.heap.size + 1]? = some (.cells (stA (fC t.txt) aF aF) 282) := (R1.k.block (w.heap.size + 1) (by first | omega | (simp [World.setCell]; omega)) (by omega)).trans (hC0.trans rfl)
  have z1 : w.heap.size + 1 < w1.heap.size := (zL uG)
  clear R1 cc cf xK hC0
  obtain ⟨cc, cf⟩ := aQ uG
  go_wp2_with fail
  by_cases hsm : (nx l t).txt = [59]
  ·refine (jK (l := l) (t := nx l t) (bl := bl) (lo := lo) (X := X) (Y := Y) [59] (RB.r (w0 := w) (l := l) (t := nx l t) (bl := bl) (lo := lo) (X := X) (Y := Y) (by repeat (first | refine RB.set ?_ (by first | exact zR | omega | (simp; omega)) _ _ | refine RB.alloc ?_ _ | refine RB.drew ?_ | exact H1))) hsm).mono ?_
   rintro e we ⟨rfl, Re⟩
   have He := RB.trans (w0 := w) (t := nx l t) (bl := bl) (lo := lo) (by repeat (first | refine RB.set ?_ (by first | exact zR | omega | (simp; omega)) _ _ | refine RB.alloc ?_ _ | refine RB.drew ?_ | exact H1)) Re
   have hOe := (Re.k.block w.heap.size (by first | omega | (simp [World.setCell]; omega)) (by omega)).trans mV
   have hCe : we.heap[w.heap.size + 1]? = some (.cells (stA (fC t.txt) aF aF) 282) := (Re.k.block (w.heap.size + 1) (by first | omega | (simp [World.setCell]; omega)) (by omega)).trans (uG.trans rfl)
   have HE : Hid (r = .ok (fC t.txt, nx l (nx l t))) := by show _ = _; rw [HQ.out]; unfold iJ; rw [if_pos hsm]
   clear cc cf Re mV uG HQ
   go_upto_region 23 with fail
   refine wp_region_lit ?_
   refine wpList_load_row rfl 282 (.tmp 3) rfl (w.heap.size + 1) rfl 282 (stA (fC t.txt) aF aF) (0, 0) _ (hCe) Tryz.underlying282 rfl (by kernel_rfl) ?_
   refine wpList_store_row rfl 282 (.tmp 2) (.tmp 55) rfl (w.heap.size) (stA (fC t.txt) aF aF) rfl rfl 282 (stA (fC []) aF aF) (hOe) (by kernel_rfl) rfl (by simp [Value.oneCell']) ?_
   go_wp2_with fail
   rw [HE.out]
   refine ⟨rfl, _, fG Tryz.results206 _ _ w.heap.size _ 282 _ rfl (setRow_heap _ _ _ _ _ _ hOe) Tryz.underlying282 rfl (by kernel_rfl), ?_, ?_⟩
   ·rfl
   ·refine RB.setRow ?_ zR _; repeat (first | refine RB.set ?_ (by first | exact zR | omega | (simp; omega)) _ _ | refine RB.alloc ?_ _ | refine RB.drew ?_ | exact He)
  ·refine (lI (l := l) (t := nx l t) (bl := bl) (lo := lo) (X := X) (Y := Y) [59] (RB.r (w0 := w) (l := l) (t := nx l t) (bl := bl) (lo := lo) (X := X) (Y := Y) (by repeat (first | refine RB.set ?_ (by first | exact zR | omega | (simp; omega)) _ _ | refine RB.alloc ?_ _ | refine RB.drew ?_ | exact H1))) hsm).mono ?_
   rintro e we h3
   obtain ⟨f, rfl, h2⟩ := h3.from (RB.k (w0 := w) (l := l) (t := nx l t) (bl := bl) (lo := lo) (X := X) (Y := Y) (by repeat (first | refine RB.set ?_ (by first | exact zR | omega | (simp; omega)) _ _ | refine RB.alloc ?_ _ | refine RB.drew ?_ | exact H1)))
   have HE : Hid (r = .error (false, (nx l t).pos)) := by show _ = _; rw [HQ.out]; unfold iJ; rw [if_neg hsm]
   clear h3 cc cf HQ
   go_wp2_with fail
   rw [HE.out]
   exact ⟨rfl, f, rfl, h2⟩
theorem aD8 (s : List UInt8) (h1 : ¬ s = [112, 117, 116]) (h2 : ¬ s = [115, 104, 105, 102, 116]) (h3 : ¬ oN s = true) (h : ¬ lK s = true) :
  (s == [112, 117, 116]) = false /\ (s == [115, 104, 105, 102, 116]) = false /\ (s == [101, 118, 105, 99, 116]) = false /\ (s == [105, 110, 99]) = false /\ (s == [100, 101, 99]) = false /\ (s == [99, 111, 111, 108]) = false /\ (s == [100, 114, 111, 112]) = false /\ (s == [98, 117, 109, 112]) = false := by
 simp only [oN, Bool.or_eq_true, beq_iff_eq, not_or] at h3
 simp only [lK, Bool.or_eq_true, beq_iff_eq, not_or] at h
 exact ⟨by simpa using h1, by simpa using h2, by simpa using h3.1.1.1, by simpa using h3.1.1.2, by simpa using h3.1.2, by simpa using h3.2, by simpa using h.1, by simpa using h.2⟩
theorem aD6 {w : World} {b : Nat} {l : List UInt8} {t : Tok} {bl lo : Nat} {X Y : Value} (h : Rw w b l t bl lo X Y) (hw1 : ¬ t.txt = [112, 117, 116]) (hw2 : ¬ t.txt = [115, 104, 105, 102, 116]) (hw3 : ¬ oN t.txt = true) (hw : ¬ lK t.txt = true) :
  Calls Tryz.prog 206 #[ptr b] w fun e w' => Out w b l bl lo X Y (fun s => .agg (stA s aF aF)) (bI l t) e w' := by
 have hgt := h.gt
 have HQ : Hid (bI l t = .error (false, t.pos)) := by
  show _ = _
  unfold bI; rw [if_neg hw1, if_neg hw2, if_neg hw3, if_neg hw]
 generalize bI l t = r at *
 obtain ⟨c0, c1, c2, c3, c4, c5⟩ := h.rd.cells
 obtain ⟨b1, b2, b3, b4, b5, b6, b7, b8⟩ := aD8 t.txt hw1 hw2 hw3 hw
 clear hw hw1 hw2 hw3
 go_enter Tryz.func206, Tryz.ntmps206
 go_upto_region 1 with fail
 refine wp_region_lit ?_
 iterate 21 go_step
 refine oL h rfl 282 (.tmp 3) (.tmp 9) rfl (stA (fC t.txt) aF aF) rfl rfl (by kernel_rfl) rfl (by simp [Value.oneCell']) ?_
 intro W0 h0 xK hC0
 obtain ⟨cc, cf⟩ := aQ hC0
 have hg := h0.r.syn
 clear c0 c1 c2 c3 c4 c5
 go_wp2_with fail
 refine (vG X h0.r).mono ?_
 rintro e we h3
 obtain ⟨f, rfl, h2⟩ := h3.from h0.k
 clear h3 cc cf hg
 go_wp2_with fail
 rw [HQ.out]
 exact ⟨rfl, f, rfl, h2⟩
theorem U8 {w : World} {b : Nat} {l : List UInt8} {t : Tok} {bl lo : Nat} {X Y : Value} (h : Rw w b l t bl lo X Y) :
  Calls Tryz.prog 206 #[ptr b] w fun e w' => Out w b l bl lo X Y (fun s => .agg (stA s aF aF)) (bI l t) e w' := by
 by_cases h1 : t.txt = [112, 117, 116]
 ·exact aH2 h h1
 ·by_cases h2 : t.txt = [115, 104, 105, 102, 116]
  ·exact aB3 h h2
  ·by_cases h3 : oN t.txt = true
   ·exact aH3 h h1 h2 h3
   ·by_cases h4 : lK t.txt = true
    ·exact aD5 h h1 h2 h3 h4
    ·exact aD6 h h1 h2 h3 h4
end Go.Proofs.YtfddoieakfpagaaGreatDoor
