import Derived.Test.YtippenbbibfmdabDoorW1
import Derived.Lib.Bytealg
namespace Go.Proofs.YtippenbbibfmdabDoor
open Go.RowKit

def blkU (c : UInt8) : Bool := blankB (c.toNat : Int)
def letU (c : UInt8) : Bool := letterB (c.toNat : Int)
def digU (c : UInt8) : Bool := digitB (c.toNat : Int)
def sgnU (c : UInt8) : Bool := c == 59 || c == 123 || c == 125 || c == 60
abbrev S (l : List UInt8) : Value := .string ⟨l.toArray⟩
def kwList : List (List UInt8) := [[113, 117, 101, 117, 101], [103, 104, 111, 115, 116], [118, 97, 114], [102, 114, 101, 113], [111, 110], [109, 105, 115, 115], [112, 117, 116], [116, 97, 105, 108], [101, 118, 105, 99, 116], [115, 104, 105, 102, 116], [100, 114, 111, 112], [105, 110, 99], [100, 101, 99], [98, 117, 109, 112], [99, 111, 111, 108], [105, 102], [101, 108, 115, 101], [114, 101, 112, 101, 97, 116], [119, 104, 105, 108, 101], [110, 111, 116], [102, 117, 108, 108], [101, 109, 112, 116, 121], [119, 97, 114, 109], [108, 101, 110]]
def kwB (l : List UInt8) : Bool := kwList.contains l

theorem tw_lt {α : Type} (p : α → Bool) : ∀ (l : List α) (k : Nat) (_ : k < (l.takeWhile p).length) (h2 : k < l.length), p l[k] = true
  | [], _, h, _ => by simp at h
  | a :: l, k, h, h2 => by
    by_cases hp : p a = true
    · cases k with
      | zero => simpa using hp
      | succ k => simp [hp] at h; simpa using tw_lt p l k h (by simpa using h2)
    · simp [hp] at h

theorem tw_eq {α : Type} (p : α → Bool) : ∀ (l : List α) (k : Nat) (_ : k = (l.takeWhile p).length) (h2 : k < l.length), p l[k] = false
  | [], _, _, h2 => by simp at h2
  | a :: l, k, h, h2 => by
    by_cases hp : p a = true
    · cases k with
      | zero => simp [hp] at h
      | succ k => simp [hp] at h; simpa using tw_eq p l k h (by simpa using h2)
    · simp [hp] at h; subst h; simpa using hp

theorem tw_le {α : Type} (p : α → Bool) (l : List α) : (l.takeWhile p).length ≤ l.length := (List.takeWhile_prefix p).length_le

theorem tw_take {α : Type} (p : α → Bool) : ∀ (l : List α), l.take (l.takeWhile p).length = l.takeWhile p
  | [] => rfl
  | a :: l => by
    by_cases hp : p a = true
    · simp [hp, tw_take p l]
    · simp [hp]

theorem isBlank_u (c : UInt8) (w : World) :
    Calls Tryd.prog 28 #[.int .u8 (c.toNat : Int)] w fun e w' => e = .returned (.bool (blkU c)) ∧ w' = w := isBlank_any _ _
theorem u8_ge (c : UInt8) : (0 : Int) ≤ (c.toNat : Int) := by omega
theorem u8_le (c : UInt8) : (c.toNat : Int) ≤ 255 := by have := c.toNat_lt; omega
theorem isLetter_u (c : UInt8) (w : World) :
    Calls Tryd.prog 29 #[.int .u8 (c.toNat : Int)] w fun e w' => e = .returned (.bool (letU c)) ∧ w' = w := isLetter_any _ _ (u8_ge c) (u8_le c)
theorem isDigit_u (c : UInt8) (w : World) :
    Calls Tryd.prog 32 #[.int .u8 (c.toNat : Int)] w fun e w' => e = .returned (.bool (digU c)) ∧ w' = w := isDigit_any _ _ (u8_ge c) (u8_le c)

theorem bext (l : List UInt8) (a b : Nat) : (ByteArray.mk l.toArray).extract a b = ⟨((l.take b).drop a).toArray⟩ := by
  apply ByteArray.ext
  rw [ByteArray.data_extract]
  simp [List.drop_take]
theorem bget (l : List UInt8) (k : Nat) (h : k < l.length) : (ByteArray.mk l.toArray)[k]'(by simpa [ByteArray.size] using h) = l[k] := rfl

set_option maxHeartbeats 400000 in
theorem leading_letter (l : List UInt8) (w : World) (hs : l.length ≤ 700) :
    Calls Tryd.prog 31 #[S l, .func (.func 29) #[] #[]] w fun e w' => e = .returned (S (l.takeWhile letU)) ∧ w' = w := by
  unfold S
  have hext := bext l
  have hle := tw_le letU l
  go_enter Tryd.func31, Tryd.ntmps31
  go_wp2_with fail
  go_loop [5] (fun n => ∃ k : Nat, k ≤ (l.takeWhile letU).length ∧ n = .int .i64 k) (fun i => 1000 - (intOf i).toNat)
  case atStart => exact ⟨0, Nat.zero_le _, rfl⟩
  case round =>
    obtain ⟨k, hk, rfl⟩ := hrel
    by_cases hlt : k < l.length
    · have hg := bget l k hlt
      by_cases hq : k < (l.takeWhile letU).length
      · have hb := tw_lt letU l k hq hlt
        go_wp2_with (go_at_call 29; refine (isLetter_u _ _).mono ?_; rintro e w' ⟨rfl, rfl⟩)
        go_round
        case rel => exact ⟨k + 1, by omega, by go_num⟩
        case measure => simp [intOf]; omega
      · have hb := tw_eq letU l k (by omega) hlt
        go_wp2_with (go_at_call 29; refine (isLetter_u _ _).mono ?_; rintro e w' ⟨rfl, rfl⟩)
        go_ret
        refine ⟨?_, rfl⟩
        have e : k = (l.takeWhile letU).length := by omega
        rw [← tw_take letU l, ← e]; rfl
    · go_wp2_with fail
      go_ret
      refine ⟨?_, rfl⟩
      have e : k = (l.takeWhile letU).length := by omega
      rw [← tw_take letU l, ← e]; rfl

set_option maxHeartbeats 400000 in
theorem leading_digit (l : List UInt8) (w : World) (hs : l.length ≤ 700) :
    Calls Tryd.prog 31 #[S l, .func (.func 32) #[] #[]] w fun e w' => e = .returned (S (l.takeWhile digU)) ∧ w' = w := by
  unfold S
  have hext := bext l
  have hle := tw_le digU l
  go_enter Tryd.func31, Tryd.ntmps31
  go_wp2_with fail
  go_loop [5] (fun n => ∃ k : Nat, k ≤ (l.takeWhile digU).length ∧ n = .int .i64 k) (fun i => 1000 - (intOf i).toNat)
  case atStart => exact ⟨0, Nat.zero_le _, rfl⟩
  case round =>
    obtain ⟨k, hk, rfl⟩ := hrel
    by_cases hlt : k < l.length
    · have hg := bget l k hlt
      by_cases hq : k < (l.takeWhile digU).length
      · have hb := tw_lt digU l k hq hlt
        go_wp2_with (go_at_call 32; refine (isDigit_u _ _).mono ?_; rintro e w' ⟨rfl, rfl⟩)
        go_round
        case rel => exact ⟨k + 1, by omega, by go_num⟩
        case measure => simp [intOf]; omega
      · have hb := tw_eq digU l k (by omega) hlt
        go_wp2_with (go_at_call 32; refine (isDigit_u _ _).mono ?_; rintro e w' ⟨rfl, rfl⟩)
        go_ret
        refine ⟨?_, rfl⟩
        have e : k = (l.takeWhile digU).length := by omega
        rw [← tw_take digU l, ← e]; rfl
    · go_wp2_with fail
      go_ret
      refine ⟨?_, rfl⟩
      have e : k = (l.takeWhile digU).length := by omega
      rw [← tw_take digU l, ← e]; rfl

set_option maxHeartbeats 800000 in
theorem isKeyword_any (l : List UInt8) (w : World) :
    Calls Tryd.prog 45 #[S l] w fun e w' => e = .returned (.bool (kwB l)) ∧ w' = w := by
  unfold S
  go_enter Tryd.func45, Tryd.ntmps45
  go_wp2
  all_goals first | (exfalso; simp_all; done) | skip
  all_goals go_ret
  all_goals refine ⟨?_, rfl⟩
  all_goals (simp_all [kwB, kwList]; done)

end Go.Proofs.YtippenbbibfmdabDoor
