import Derived.Test.YtippenbbibfmdabDoorW2
import Derived.Laws.ResultCell
import Derived.Lib.IndexAny
namespace Go.Proofs.YtippenbbibfmdabDoor
open Go.RowKit

theorem idx_run (s : ByteArray) (c : Int) (w : World) :
    (callFunc 59 #[.string s, .int .u8 c]).run Tryd.prog w = .ok (.value (.int .i64 (Lib.indexByte s.data.toList c.toNat.toUInt8))) w := by
  rw [run_callFunc_extern Tryd.func59 (by kernel_rfl) (by kernel_rfl) (by kernel_rfl) (e := Extern.BytealgIndexByte.indexByte) (by kernel_rfl), Lib.run_indexByteString]
  rfl

theorem sgn_idx (c : UInt8) : decide (0 ≤ Lib.indexByte [59, 123, 125, 60] c) = sgnU c := by
  rw [← Lib.contains_iff_indexByte, Bool.eq_iff_iff]
  simp [sgnU, or_assoc]

set_option maxRecDepth 10000 in
set_option maxHeartbeats 400000 in
theorem isSign_u (c : UInt8) (w : World) :
    Calls Tryd.prog 34 #[.int .u8 (c.toNat : Int)] w fun e w' => e = .returned (.bool (sgnU c)) ∧ w' = w := by
  have hi := idx_run
  have hc := sgn_idx c
  have hu : ((c.toNat : Int).toNat.toUInt8) = c := by simp
  go_enter Tryd.func34, Tryd.ntmps34
  go_wp2
  all_goals go_ret
  all_goals exact ⟨by simp [*], rfl⟩

structure Tok where
  kind : Nat
  txt : List UInt8
  pos : Nat

abbrev tokV (t : Tok) : Value := .agg #[.int .i64 t.kind, .string ⟨t.txt.toArray⟩, .int .i64 t.pos]

def wordT (l : List UInt8) (i : Nat) : Tok := if 8 < l.length then ⟨0, [], i⟩ else if kwB l then ⟨4, l, i⟩ else ⟨2, l, i⟩
def digT (l : List UInt8) (i : Nat) : Tok := if 3 < l.length then ⟨0, [], i⟩ else ⟨3, l, i⟩

set_option maxHeartbeats 400000 in
theorem wordToken_any (l : List UInt8) (i : Nat) (w : World) (hl : l.length ≤ 700) (_hi : i ≤ 700) :
    Calls Tryd.prog 30 #[S l, .int .i64 i] w fun e w' => e = .returned (tokV (wordT l i)) ∧ Below w.heap.size w w' := by
  unfold S
  by_cases h8 : 8 < l.length
  · go_enter Tryd.func30, Tryd.ntmps30
    go_wp2
    exact bodyPost_ret (v := .agg #[.int .i64 0, .string ⟨#[]⟩, .int .i64 i]) (by simp [results, Tryd.results30, go_sem]) rfl ⟨by simp [tokV, wordT, h8], (Below.refl _ _).alloc (Nat.le_refl _) _⟩
  · cases hk : kwB l with
    | true =>
      go_enter Tryd.func30, Tryd.ntmps30
      go_wp2_with (go_at_call 45; refine (isKeyword_any _ _).mono ?_; rintro e w' ⟨rfl, rfl⟩)
      exact bodyPost_ret (v := .agg #[.int .i64 4, .string ⟨l.toArray⟩, .int .i64 i]) (by simp [results, Tryd.results30, go_sem]) rfl ⟨by simp [tokV, wordT, h8, hk], (Below.refl _ _).alloc (Nat.le_refl _) _⟩
    | false =>
      go_enter Tryd.func30, Tryd.ntmps30
      go_wp2_with (go_at_call 45; refine (isKeyword_any _ _).mono ?_; rintro e w' ⟨rfl, rfl⟩)
      exact bodyPost_ret (v := .agg #[.int .i64 2, .string ⟨l.toArray⟩, .int .i64 i]) (by simp [results, Tryd.results30, go_sem]) rfl ⟨by simp [tokV, wordT, h8, hk], (Below.refl _ _).alloc (Nat.le_refl _) _⟩

set_option maxHeartbeats 400000 in
theorem digitsToken_any (l : List UInt8) (i : Nat) (w : World) (hl : l.length ≤ 700) :
    Calls Tryd.prog 33 #[S l, .int .i64 i] w fun e w' => e = .returned (tokV (digT l i)) ∧ Below w.heap.size w w' := by
  unfold S
  by_cases h8 : 3 < l.length
  · go_enter Tryd.func33, Tryd.ntmps33
    go_wp2
    exact bodyPost_ret (v := .agg #[.int .i64 0, .string ⟨#[]⟩, .int .i64 i]) (by simp [results, Tryd.results33, go_sem]) rfl ⟨by simp [tokV, digT, h8], (Below.refl _ _).alloc (Nat.le_refl _) _⟩
  · go_enter Tryd.func33, Tryd.ntmps33
    go_wp2
    exact bodyPost_ret (v := .agg #[.int .i64 3, .string ⟨l.toArray⟩, .int .i64 i]) (by simp [results, Tryd.results33, go_sem]) rfl ⟨by simp [tokV, digT, h8], (Below.refl _ _).alloc (Nat.le_refl _) _⟩

def skip (l : List UInt8) (i : Nat) : Nat := i + ((l.drop i).takeWhile blkU).length
def tokAt (l : List UInt8) (i : Nat) : Tok :=
  match l.drop (skip l i) with
  | [] => ⟨1, [], skip l i⟩
  | c :: r => if letU c then wordT ((c :: r).takeWhile letU) (skip l i) else if digU c then digT ((c :: r).takeWhile digU) (skip l i) else if sgnU c then ⟨4, [c], skip l i⟩ else ⟨0, [], skip l i⟩

theorem skip_ge (l : List UInt8) (i : Nat) : i ≤ skip l i := Nat.le_add_right _ _
theorem skip_le (l : List UInt8) (i : Nat) (h : i ≤ l.length) : skip l i ≤ l.length := by
  have := tw_le blkU (l.drop i); simp at this; unfold skip; omega
theorem skip_lt (l : List UInt8) (i k : Nat) (h1 : i ≤ k) (h2 : k < skip l i) (h3 : k < l.length) : blkU l[k] = true := by
  have := tw_lt blkU (l.drop i) (k - i) (by unfold skip at h2; omega) (by simp; omega)
  simpa [Nat.add_sub_cancel' h1] using this
theorem skip_at (l : List UInt8) (i : Nat) (h3 : skip l i < l.length) : blkU l[skip l i] = false := by
  have := tw_eq blkU (l.drop i) (skip l i - i) (by unfold skip; omega) (by simp [skip] at *; omega)
  have e : i + (skip l i - i) = skip l i := by have := skip_ge l i; omega
  simpa [e] using this

theorem bcell {W w1 : World} (hb : Below W.heap.size W w1) : (∀ b o, b < W.heap.size → w1.cell? ⟨b, o, none⟩ = W.cell? ⟨b, o, none⟩) ∧ (∀ b o, b < W.heap.size → w1.frozen? ⟨b, o, none⟩ = W.frozen? ⟨b, o, none⟩) :=
  ⟨fun b o h => hb.cell (p := ⟨b, o, none⟩) h, fun b o h => hb.frozen (p := ⟨b, o, none⟩) h⟩

theorem drop_cons (l : List UInt8) (j : Nat) (h : j < l.length) : l.drop j = l[j] :: l.drop (j + 1) := List.drop_eq_getElem_cons h
theorem tokAt_end (l : List UInt8) (i : Nat) (h : ¬ skip l i < l.length) : tokAt l i = ⟨1, [], skip l i⟩ := by
  unfold tokAt; rw [List.drop_of_length_le (by omega)]
theorem tokAt_word (l : List UInt8) (i : Nat) (h : skip l i < l.length) (h1 : letU l[skip l i] = true) : tokAt l i = wordT ((l.drop (skip l i)).takeWhile letU) (skip l i) := by
  unfold tokAt; rw [drop_cons l _ h]; simp only [h1, if_true]
theorem tokAt_dig (l : List UInt8) (i : Nat) (h : skip l i < l.length) (h1 : letU l[skip l i] = false) (h2 : digU l[skip l i] = true) : tokAt l i = digT ((l.drop (skip l i)).takeWhile digU) (skip l i) := by
  unfold tokAt; rw [drop_cons l _ h]; simp only [h1, h2, if_true, Bool.false_eq_true, if_false]
theorem tokAt_sgn (l : List UInt8) (i : Nat) (h : skip l i < l.length) (h1 : letU l[skip l i] = false) (h2 : digU l[skip l i] = false) (h3 : sgnU l[skip l i] = true) : tokAt l i = ⟨4, [l[skip l i]], skip l i⟩ := by
  unfold tokAt; rw [drop_cons l _ h]; simp only [h1, h2, h3, if_true, Bool.false_eq_true, if_false]
theorem tokAt_none (l : List UInt8) (i : Nat) (h : skip l i < l.length) (h1 : letU l[skip l i] = false) (h2 : digU l[skip l i] = false) (h3 : sgnU l[skip l i] = false) : tokAt l i = ⟨0, [], skip l i⟩ := by
  unfold tokAt; rw [drop_cons l _ h]; simp only [h1, h2, h3, Bool.false_eq_true, if_false]
theorem tk1 (l : List UInt8) (j : Nat) (h : j < l.length) : (l.take (j + 1)).drop j = [l[j]] := by
  rw [List.drop_take, drop_cons l j h, Nat.add_sub_cancel_left]; rfl

set_option maxHeartbeats 800000 in
theorem tokenAt_any (l : List UInt8) (i : Nat) (w : World) (hl : l.length ≤ 700) (hi : i ≤ l.length) :
    Calls Tryd.prog 16 #[S l, .int .i64 i] w fun e w' => e = .returned (tokV (tokAt l i)) ∧ Below w.heap.size w w' := by
  unfold S
  have hge := skip_ge l i
  have hle := skip_le l i hi
  have hlt := skip_lt l i
  have hat := skip_at l i
  have HE : Hid (¬ skip l i < l.length → tokAt l i = ⟨1, [], skip l i⟩) := tokAt_end l i
  have HW : Hid (∀ (h : skip l i < l.length), letU l[skip l i] = true → tokAt l i = wordT ((l.drop (skip l i)).takeWhile letU) (skip l i)) := tokAt_word l i
  have HD : Hid (∀ (h : skip l i < l.length), letU l[skip l i] = false → digU l[skip l i] = true → tokAt l i = digT ((l.drop (skip l i)).takeWhile digU) (skip l i)) := tokAt_dig l i
  have HS : Hid (∀ (h : skip l i < l.length), letU l[skip l i] = false → digU l[skip l i] = false → sgnU l[skip l i] = true → tokAt l i = ⟨4, [l[skip l i]], skip l i⟩) := tokAt_sgn l i
  have HN : Hid (∀ (h : skip l i < l.length), letU l[skip l i] = false → digU l[skip l i] = false → sgnU l[skip l i] = false → tokAt l i = ⟨0, [], skip l i⟩) := tokAt_none l i
  generalize tokAt l i = t at *
  generalize skip l i = j at *
  have hext := bext l
  go_enter Tryd.func16, Tryd.ntmps16
  go_wp2_with fail
  go_loop [1] (fun n => ∃ k : Nat, i ≤ k ∧ k ≤ j ∧ n = .int .i64 k) (fun i => 1000 - (intOf i).toNat)
  case atStart => exact ⟨i, Nat.le_refl _, hge, rfl⟩
  case round =>
    obtain ⟨k, hk1, hk2, rfl⟩ := hrel
    by_cases hkj : k < j
    · have hkl : k < l.length := by omega
      have hg := bget l k hkl
      have hb := hlt k hk1 hkj hkl
      clear hlt hat
      go_wp2_with (go_at_call 28; refine (isBlank_u _ _).mono ?_; rintro e w' ⟨rfl, rfl⟩)
      go_round
      case rel => exact ⟨k + 1, by omega, by omega, by go_num⟩
      case measure => simp [intOf]; omega
    · have e : k = j := by omega
      subst e
      by_cases hkl : k < l.length
      · have hg := bget l k hkl
        have hb := hat hkl
        have htk := tk1 l k hkl
        clear hlt hat
        cases hL : letU l[k] with
        | true =>
          have hdl : (l.drop k).length ≤ 700 := by simp; omega
          have htl : ((l.drop k).takeWhile letU).length ≤ 700 := Nat.le_trans (tw_le _ _) hdl
          go_wp2_with (first | (go_at_call 28; refine (isBlank_u _ _).mono ?_; rintro e w' ⟨rfl, rfl⟩) | (go_at_call 29; refine (isLetter_u _ _).mono ?_; rintro e w' ⟨rfl, rfl⟩) | (go_at_call 31; refine (leading_letter _ _ hdl).mono ?_; rintro e w' ⟨rfl, rfl⟩) | (go_at_call 30; refine (wordToken_any _ _ _ htl (by omega)).mono ?_; rintro e w1 ⟨rfl, hb1⟩; obtain ⟨hc, hf⟩ := bcell hb1))
          refine bodyPost_ret (v := tokV (wordT ((l.drop k).takeWhile letU) k)) (by simp [results, Tryd.results16, go_sem, hc]) rfl ⟨by rw [HW.out hkl hL], ?_⟩
          exact (((((Below.refl _ _).alloc (Nat.le_refl _) _).trans (hb1.mono (by simp))).setCell (by simp) _).setCell (by simp) _).setCell (by simp) _
        | false =>
        cases hD : digU l[k] with
        | true =>
          have hdl : (l.drop k).length ≤ 700 := by simp; omega
          have htl : ((l.drop k).takeWhile digU).length ≤ 700 := Nat.le_trans (tw_le _ _) hdl
          go_wp2_with (first | (go_at_call 28; refine (isBlank_u _ _).mono ?_; rintro e w' ⟨rfl, rfl⟩) | (go_at_call 29; refine (isLetter_u _ _).mono ?_; rintro e w' ⟨rfl, rfl⟩) | (go_at_call 32; refine (isDigit_u _ _).mono ?_; rintro e w' ⟨rfl, rfl⟩) | (go_at_call 31; refine (leading_digit _ _ hdl).mono ?_; rintro e w' ⟨rfl, rfl⟩) | (go_at_call 33; refine (digitsToken_any _ _ _ htl).mono ?_; rintro e w1 ⟨rfl, hb1⟩; obtain ⟨hc, hf⟩ := bcell hb1))
          refine bodyPost_ret (v := tokV (digT ((l.drop k).takeWhile digU) k)) (by simp [results, Tryd.results16, go_sem, hc]) rfl ⟨by rw [HD.out hkl hL hD], ?_⟩
          exact (((((Below.refl _ _).alloc (Nat.le_refl _) _).trans (hb1.mono (by simp))).setCell (by simp) _).setCell (by simp) _).setCell (by simp) _
        | false =>
          go_wp2_with (first | (go_at_call 28; refine (isBlank_u _ _).mono ?_; rintro e w' ⟨rfl, rfl⟩) | (go_at_call 29; refine (isLetter_u _ _).mono ?_; rintro e w' ⟨rfl, rfl⟩) | (go_at_call 32; refine (isDigit_u _ _).mono ?_; rintro e w' ⟨rfl, rfl⟩) | (go_at_call 34; refine (isSign_u _ _).mono ?_; rintro e w' ⟨rfl, rfl⟩))
          · exact bodyPost_ret (v := .agg #[.int .i64 4, .string ⟨#[l[k]]⟩, .int .i64 k]) (by simp [results, Tryd.results16, go_sem]) rfl ⟨by rw [HS.out hkl hL hD ‹_›]; simp [tokV], (Below.refl _ _).alloc (Nat.le_refl _) _⟩
          · exact bodyPost_ret (v := .agg #[.int .i64 0, .string ⟨#[]⟩, .int .i64 k]) (by simp [results, Tryd.results16, go_sem]) rfl ⟨by rw [HN.out hkl hL hD ‹_›]; simp [tokV], (Below.refl _ _).alloc (Nat.le_refl _) _⟩
      · clear hlt hat
        go_wp2_with fail
        exact bodyPost_ret (v := .agg #[.int .i64 1, .string ⟨#[]⟩, .int .i64 k]) (by simp [results, Tryd.results16, go_sem]) rfl ⟨by rw [HE.out hkl]; simp [tokV], (Below.refl _ _).alloc (Nat.le_refl _) _⟩
end Go.Proofs.YtippenbbibfmdabDoor
