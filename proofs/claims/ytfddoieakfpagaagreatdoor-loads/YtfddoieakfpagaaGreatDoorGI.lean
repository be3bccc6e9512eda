import Derived.Deep.CutBlock
import Derived.Deep.DeepCutAuto
import Derived.Test.YtfddoieakfpagaaGreatDoorGE
namespace Go.Proofs.YtfddoieakfpagaaGreatDoor
open Go.RowKit

def wordsL : List (List UInt8) := [[113, 117, 101, 117, 101], [103, 104, 111, 115, 116], [118, 97, 114], [102, 114, 101, 113], [111, 110], [109, 105, 115, 115], [112, 117, 116], [116, 97, 105, 108], [101, 118, 105, 99, 116], [115, 104, 105, 102, 116], [100, 114, 111, 112], [105, 110, 99], [100, 101, 99], [98, 117, 109, 112], [99, 111, 111, 108], [105, 102], [101, 108, 115, 101], [114, 101, 112, 101, 97, 116], [119, 104, 105, 108, 101], [110, 111, 116], [102, 117, 108, 108], [101, 109, 112, 116, 121], [119, 97, 114, 109], [108, 101, 110]]
/-- The reference's table of words lies in block g. -/
structure Wd0 (w : World) (g wo : Nat) : Prop where
  v : w.cell? ⟨12, 0, none⟩ = some (.slice (some ⟨g, wo, none⟩) 24 24)
  c : ∀ k (h : k < 24), w.cell? ⟨g, wo + k, none⟩ = some (S (wordsL[k]'(by exact h)))
def Wd (w : World) (g : Nat) : Prop := ∃ wo, Wd0 w g wo

theorem own_form {w : World} {base : Nat} {e : TypeId} {size n : Nat} {v : Value} {xs : List Value} (h : w.ownsRow base e size v n xs) : ∃ a k c, v = .slice a k c := by
  rcases h.2 with ⟨h, _⟩ | ⟨g, cap, cur, h, _⟩
  · exact ⟨_, _, _, h⟩
  · exact ⟨_, _, _, h⟩
/-- The block ahead of an append is as it was. -/
theorem after_append {w w6 : World} {A B : Array Value} {TA TB : TypeId} {base : Nat} {e : TypeId} {size n : Nat} {v : Value} {xs : List Value} (h : w.ownsRow base e size v n xs) (hg : ((w.alloc (.cells A TA)).alloc (.cells B TB)).grownBy w6 v.ownBlock) :
    w6.heap[w.heap.size]? = some (.cells A TA) ∧ w.heap.size + 2 ≤ w6.heap.size := by
  have hz := hg.size
  simp at hz
  refine ⟨?_, by omega⟩
  rw [hg.block _ (by simp; omega) (fun e => by have := (h.lt _ e.symm).2; omega), Below.heap_alloc _ _ _ (by simp)]
  exact heap_new rfl

theorem beq_comm' (a b : List UInt8) : (a == b) = (b == a) := by
  cases h : (b == a) with
  | true => rw [eq_of_beq h]; simp
  | false => simp at h ⊢; exact fun e => h e.symm
theorem Wd0.move {w w' : World} {g wo lo : Nat} (h : Wd0 w g wo) (hb : Below lo w w') (h1 : 12 < lo) (h2 : g < lo) : Wd0 w' g wo :=
  ⟨(hb.cell (p := ⟨12, 0, none⟩) h1).trans h.v, fun k hk => (hb.cell (p := ⟨g, wo + k, none⟩) h2).trans (h.c k hk)⟩
theorem ix_word (g wo k : Nat) (hk : k < 24) : ∀ W : World, (Instr.indexAt 120 (.slice (some ⟨g, wo, none⟩) 24 24) (.int .i64 k)).run Tryz.prog W = .ok (.pointer (some ⟨g, wo + k, none⟩)) W := by
  intro W
  rw [run_indexAt_slice (h := by kernel_rfl), if_pos (by omega)]
  have : (sizeOf (Tryz.prog.elem 120)).run Tryz.prog W = .ok 1 W := by kernel_rfl
  rw [this]
  simp [Result.andThen, Addr.add]
/-- What the reference calls a word, when m words have been looked at. -/
def isA (X : List UInt8) (m : Nat) : List UInt8 := if (wordsL.take m).contains X = true then X else [110, 97, 109, 101]
theorem isA_all (X : List UInt8) : (wordsL.take 24).contains X = kwB X := rfl
theorem isA_succ (X : List UInt8) (m : Nat) (h : m < 24) : isA X (m + 1) = if (wordsL[m]'h == X) = true then X else isA X m := by
  unfold isA
  have e : wordsL.take (m + 1) = wordsL.take m ++ [wordsL[m]'h] := by rw [List.take_add_one, List.getElem?_eq_getElem (by exact h)]; rfl
  rw [e]
  have e2 : (wordsL.take m ++ [wordsL[m]'h]).contains X = ((wordsL.take m).contains X || (wordsL[m]'h == X)) := by
    rw [List.contains_eq_any_beq, List.contains_eq_any_beq, List.any_append]
    simp only [List.any_cons, List.any_nil, Bool.or_false]
    congr 1
    exact beq_comm' _ _
  rw [e2]
  cases h1 : (wordsL.take m).contains X <;> cases h2 : (wordsL[m]'h == X) <;> simp
theorem kw_not (X : List UInt8) (h : kwB X = true) : (X == [110, 111, 110, 101]) = false ∧ (X == [101, 110, 100]) = false := by
  have hm : X ∈ kwList := by simpa [kwB] using h
  have : ∀ Y ∈ kwList, (Y == [110, 111, 110, 101]) = false ∧ (Y == [101, 110, 100]) = false := by decide
  exact this X hm

set_option maxRecDepth 20000 in
set_option maxHeartbeats 2000000 in
theorem tokens_any (l : List UInt8) (w : World) (g : Nat) (HG0 : Wd w g) (hl : l.length ≤ 700) (TL : List Tok) (hTL : TL = tokL l (l.length + 1) 0) :
    Calls Tryz.prog 41 #[S l] w fun e w' => ∃ v, e = .returned v ∧ Below w.heap.size w w' ∧ w'.ownsRow w.heap.size 87 3 v TL.length (flatT l TL) := by
  have HT : Hid (TL = tokL l (l.length + 1) 0) := hTL
  clear hTL
  obtain ⟨wo, HG0⟩ := HG0
  have HG : Hid (Wd0 w g wo) := HG0
  clear HG0
  unfold S
  have hext := bext l
  go_enter Tryz.func41, Tryz.ntmps41
  go_wp2_with fail
  go_loopg [3, 4] (l.length + 1) (fun f v3 v4 wr => ∃ (i : Nat) (done : List Tok), v4 = .int .i64 i ∧ i ≤ l.length ∧ l.length + 1 ≤ f + i ∧ done.length + f ≤ l.length + 1 ∧ Below w.heap.size w wr ∧ wr.ownsRow w.heap.size 87 3 v3 done.length (flatT l done) ∧ Hid (TL = done ++ tokL l f i))
  case atStart => exact ⟨0, [], rfl, by omega, by omega, by simp, Below.refl _ _, World.ownsRow_nil _ _ _ _, HT⟩
  case round =>
    obtain ⟨i, done, rfl, hi, hf, hdn, HB, hown, HTL⟩ := hrel
    obtain ⟨va, vk, vc, rfl⟩ := own_form hown
    obtain ⟨fk, rfl⟩ : ∃ fk, gk = fk + 1 := ⟨gk - 1, by omega⟩
    have hge := skip_ge l i
    have hle := skip_le l i hi
    have hlt := skip_lt l i
    have hat := skip_at l i
    have HE : Hid (¬ skip l i < l.length → tokAt l i = ⟨1, [], skip l i⟩) := tokAt_end l i
    have HW : Hid (∀ (h : skip l i < l.length), letU l[skip l i] = true → tokAt l i = wordT ((l.drop (skip l i)).takeWhile letU) (skip l i)) := tokAt_word l i
    have HD : Hid (∀ (h : skip l i < l.length), letU l[skip l i] = false → digU l[skip l i] = true → tokAt l i = digT ((l.drop (skip l i)).takeWhile digU) (skip l i)) := tokAt_dig l i
    have HS : Hid (∀ (h : skip l i < l.length), letU l[skip l i] = false → digU l[skip l i] = false → sgnU l[skip l i] = true → tokAt l i = ⟨4, [l[skip l i]], skip l i⟩) := tokAt_sgn l i
    have HN : Hid (∀ (h : skip l i < l.length), letU l[skip l i] = false → digU l[skip l i] = false → sgnU l[skip l i] = false → tokAt l i = ⟨0, [], skip l i⟩) := tokAt_none l i
    generalize skip l i = j at *
    have hz := HB.size
    go_wp2_with fail
    go_loopg [4] (j - i) (fun f v4 w2 => ∃ k : Nat, v4 = .int .i64 k ∧ i ≤ k ∧ k + f = j ∧ w2 = wr)
    case atStart => exact ⟨i, rfl, Nat.le_refl _, by omega, rfl⟩
    case round =>
      obtain ⟨k, rfl, hk1, hk2, rfl⟩ := hrel
      by_cases hkj : k < j
      · have hkl : k < l.length := by omega
        have hg := bget l k hkl
        have hb := hlt k hk1 hkj hkl
        clear hlt hat
        have hb2 : ((l[k].toNat : Int) == 32 || (l[k].toNat : Int) == 10) = true := hb
        by_cases h32 : ((l[k].toNat : Int) == 32) = true
        · go_wp2_with fail
          go_roundg (gk - 1)
          case measure => omega
          case rel => exact ⟨k + 1, by simp, by omega, by omega, rfl⟩
        · have h32 : ((l[k].toNat : Int) == 32) = false := by simpa using h32
          have h10 : ((l[k].toNat : Int) == 10) = true := by rw [h32] at hb2; simpa using hb2
          go_wp2_with fail
          go_roundg (gk - 1)
          case measure => omega
          case rel => exact ⟨k + 1, by simp, by omega, by omega, rfl⟩
      · obtain rfl : k = j := by omega
        clear hlt hkj hk1
        by_cases hkl : k < l.length
        · have hg := bget l k hkl
          have hb := hat hkl
          have hb2 : ((l[k].toNat : Int) == 32 || (l[k].toNat : Int) == 10) = false := hb
          have h32 : ((l[k].toNat : Int) == 32) = false := by cases h : ((l[k].toNat : Int) == 32) <;> simp [h] at hb2 ⊢
          have h10 : ((l[k].toNat : Int) == 10) = false := by cases h : ((l[k].toNat : Int) == 10) <;> simp [h] at hb2 ⊢
          clear hb2 hb hat HE
          cases hL : letU l[k] with
          | true =>
            have HT3 : Hid (tokAt l i = wordT ((l.drop k).takeWhile letU) k) := HW.out hkl hL
            have HR : Hid (rawAt l k = (l.drop k).takeWhile letU) := by show _ = _; unfold rawAt; rw [drop_cons l k hkl]; simp [hL]
            clear HW HD HS HN
            have hW := HG.out.move HB (cell_l HG.out.v) (cell_l (HG.out.c 0 (by decide)))
            have hwv := fun o => (World.cell?_alloc_lt wr o ⟨12, 0, none⟩ (cell_l hW.v)).trans hW.v
            have hle2 := tw_le letU (l.drop k)
            have htl : ((l.drop k).takeWhile letU).length ≤ l.length - k := by simpa using hle2
            have f1 : ∀ m, m < ((l.drop k).takeWhile letU).length → ∀ h : k + m < l.length, letU l[k + m] = true := fun m hm h => by have := tw_lt letU (l.drop k) m hm (by simp; omega); simpa using this
            have f3 : ∀ h : k + ((l.drop k).takeWhile letU).length < l.length, letU l[k + ((l.drop k).takeWhile letU).length] = false := fun h => by have := tw_eq letU (l.drop k) _ rfl (by simp; omega); simpa using this
            have f4 : (l.take (k + ((l.drop k).takeWhile letU).length)).drop k = (l.drop k).takeWhile letU := by rw [List.drop_take, Nat.add_sub_cancel_left]; exact tw_take letU (l.drop k)
            have f5 : 0 < ((l.drop k).takeWhile letU).length := by rw [drop_cons l k hkl, List.takeWhile_cons, if_pos hL]; exact Nat.succ_pos _
            generalize hX : (l.drop k).takeWhile letU = X at *
            clear hX hle2
            go_wp2_with (first | (go_at_call 68; refine (low_any _ _).mono ?_; rintro e w' ⟨rfl, rfl⟩) | (go_at_call 69; refine (fig_any _ _).mono ?_; rintro e w' ⟨rfl, rfl⟩))
            go_loopg [6] X.length (fun f v6 w2 => ∃ m : Nat, v6 = .int .i64 (k + m : Nat) ∧ m + f = X.length ∧ w2 = wr.alloc (.cells #[S [110, 111, 110, 101], S [], .int .i64 k] 87))
            case atStart => exact ⟨0, rfl, by omega, rfl⟩
            case round =>
              obtain ⟨m, rfl, hm, rfl⟩ := hrel
              by_cases hmn : m < X.length
              · have hml : k + m < l.length := by omega
                have hg2 := bget l (k + m) hml
                have hp := f1 m hmn hml
                clear f1 f3 hg
                go_wp2_with (first | (go_at_call 68; refine (low_any _ _).mono ?_; rintro e w' ⟨rfl, rfl⟩) | (go_at_call 69; refine (fig_any _ _).mono ?_; rintro e w' ⟨rfl, rfl⟩))
                go_roundg (gk - 1)
                case measure => omega
                case rel => exact ⟨m + 1, by simp; omega, by omega, rfl⟩
              · obtain rfl : m = X.length := by omega
                clear f1 hmn hm
                have hcut : (k + X.length < l.length ∧ ∃ h : k + X.length < l.length, letU l[k + X.length] = false) ∨ ¬ k + X.length < l.length := by
                  by_cases h : k + X.length < l.length
                  · exact Or.inl ⟨h, h, f3 h⟩
                  · exact Or.inr h
                clear f3
                rcases hcut with ⟨hq, _, hp⟩ | hq
                · have hg2 := bget l (k + X.length) hq
                  by_cases hn8 : X.length ≤ 8
                  · go_wp2_with (first | (go_at_call 68; refine (low_any _ _).mono ?_; rintro e w' ⟨rfl, rfl⟩) | (go_at_call 69; refine (fig_any _ _).mono ?_; rintro e w' ⟨rfl, rfl⟩))
                    go_loopg [60] 24 (fun f v60 w2 => ∃ m : Nat, v60 = .int .i64 m ∧ m + f = 24 ∧ w2 = wr.alloc (.cells #[S (isA X m), S [], .int .i64 k] 87))
                    case atStart => exact ⟨0, rfl, rfl, rfl⟩
                    case round =>
                      obtain ⟨m, rfl, hm, rfl⟩ := hrel
                      by_cases hm24 : m < 24
                      · have hwc : ∀ o, (wr.alloc o).cell? ⟨g, wo + m, none⟩ = some (S (wordsL[m]'hm24)) := fun o => (World.cell?_alloc_lt _ _ ⟨g, wo + m, none⟩ (cell_l (hW.c m hm24))).trans (hW.c m hm24)
                        have hixw := ix_word g wo m hm24
                        have hsu := isA_succ X m hm24
                        generalize wordsL[m]'hm24 = Y at *
                        cases hq2 : (Y == X) with
                        | true =>
                          have HI : Hid (isA X (m + 1) = Y) := by show _ = _; rw [hsu, if_pos hq2]; exact (eq_of_beq hq2).symm
                          clear hsu
                          generalize isA X m = I at *
                          go_wp2_with fail
                          go_roundg (gk - 1)
                          case measure => omega
                          case rel => exact ⟨m + 1, by simp, by omega, by rw [HI.out]⟩
                        | false =>
                          have HI : Hid (isA X (m + 1) = isA X m) := by show _ = _; rw [hsu, if_neg (by simp [hq2])]
                          clear hsu
                          generalize isA X m = I at *
                          go_wp2_with fail
                          go_roundg (gk - 1)
                          case measure => omega
                          case rel => exact ⟨m + 1, by simp, by omega, by rw [HI.out]⟩
                      · obtain rfl : m = 24 := by omega
                        clear hm24 hm
                        cases hkw : kwB X with
                        | true =>
                          have HTk : Hid (tokAt l i = ⟨4, X, k⟩ ∧ rawAt l k = X) := ⟨by rw [HT3.out]; unfold wordT; rw [if_neg (by omega), if_pos hkw], HR.out⟩
                          have e24 : isA X 24 = X := by unfold isA; rw [isA_all, if_pos hkw]
                          obtain ⟨hn, he⟩ := kw_not X hkw
                          rw [e24]
                          clear e24
                          obtain ⟨i0, hi0, hz0, hz1, hz2⟩ := info_pt info_tk
                          go_upto_region 29 with (first | (go_at_call 68; refine (low_any _ _).mono ?_; rintro e w' ⟨rfl, rfl⟩) | (go_at_call 69; refine (fig_any _ _).mono ?_; rintro e w' ⟨rfl, rfl⟩))
                          refine wp_region_lit ?_
                          iterate 9 go_step
                          refine wpList_append_own_at _ rfl (.tmp 130) (.tmp 132) 75 rfl w.heap.size 87 i0 (.agg #[S [], S [], .int .i64 0]) 3 40 Tryz.underlying75 hi0 hz0 hz1 hz2 rfl (by decide) (.slice va vk vc) done.length (flatT l done) (by simp [Act.eval]) (own_mv hown (fun g _ hl => (Below.heap_alloc _ _ _ (by simp; omega)).trans (Below.heap_alloc _ _ _ hl))) ⟨wr.heap.size + 1, 0, none⟩ 1 1 [S X, .string ⟨X.toArray⟩, .int .i64 k] (by simp [Act.eval]) rfl (fun j u hu => by have := row_cl (wr.alloc (.cells #[S X, .string ⟨X.toArray⟩, .int .i64 k] 87)) #[S X, .string ⟨X.toArray⟩, .int .i64 k] 87 j u hu; simpa using this) (by simp [Value.oneCell']) (by simp only [maxLen]; omega) (by omega) (by simp; omega) ?_
                          intro v' w6 hown6 hgrow hnil hat
                          obtain ⟨c5, z6⟩ := after_append hown hgrow
                          have HB6 : Below w.heap.size w w6 := (HB.alloc hz _).alloc (by simp; omega) _ |>.grown hgrow (by simp; omega) (fun g hg => (hown.lt g hg).1)
                          obtain ⟨c5a, c5b⟩ := blk_cl c5
                          go_wp2_with fail
                          go_roundg fk
                          case measure => omega
                          case rel =>
                            refine ⟨k + X.length, done ++ [tokAt l i], by simp, by omega, by omega, by simp; omega, HB6, ?_, ?_⟩
                            · rw [flatT_snoc, List.length_append, HTk.out.1]
                              simp only [HTk.out.2]
                              exact hown6
                            · show _ = _
                              rw [HTL.out]
                              conv => lhs; unfold tokL
                              rw [HTk.out.1]
                              simp [endB]
                        | false =>
                          have HTk : Hid (tokAt l i = ⟨2, X, k⟩ ∧ rawAt l k = X) := ⟨by rw [HT3.out]; unfold wordT; rw [if_neg (by omega), if_neg (by simp [hkw])], HR.out⟩
                          have e24 : isA X 24 = [110, 97, 109, 101] := by unfold isA; rw [isA_all, if_neg (by simp [hkw])]
                          rw [e24]
                          clear e24
                          obtain ⟨i0, hi0, hz0, hz1, hz2⟩ := info_pt info_tk
                          go_upto_region 29 with (first | (go_at_call 68; refine (low_any _ _).mono ?_; rintro e w' ⟨rfl, rfl⟩) | (go_at_call 69; refine (fig_any _ _).mono ?_; rintro e w' ⟨rfl, rfl⟩))
                          refine wp_region_lit ?_
                          iterate 9 go_step
                          refine wpList_append_own_at _ rfl (.tmp 130) (.tmp 132) 75 rfl w.heap.size 87 i0 (.agg #[S [], S [], .int .i64 0]) 3 40 Tryz.underlying75 hi0 hz0 hz1 hz2 rfl (by decide) (.slice va vk vc) done.length (flatT l done) (by simp [Act.eval]) (own_mv hown (fun g _ hl => (Below.heap_alloc _ _ _ (by simp; omega)).trans (Below.heap_alloc _ _ _ hl))) ⟨wr.heap.size + 1, 0, none⟩ 1 1 [S [110, 97, 109, 101], .string ⟨X.toArray⟩, .int .i64 k] (by simp [Act.eval]) rfl (fun j u hu => by have := row_cl (wr.alloc (.cells #[S [110, 97, 109, 101], .string ⟨X.toArray⟩, .int .i64 k] 87)) #[S [110, 97, 109, 101], .string ⟨X.toArray⟩, .int .i64 k] 87 j u hu; simpa using this) (by simp [Value.oneCell']) (by simp only [maxLen]; omega) (by omega) (by simp; omega) ?_
                          intro v' w6 hown6 hgrow hnil hat
                          obtain ⟨c5, z6⟩ := after_append hown hgrow
                          have HB6 : Below w.heap.size w w6 := (HB.alloc hz _).alloc (by simp; omega) _ |>.grown hgrow (by simp; omega) (fun g hg => (hown.lt g hg).1)
                          obtain ⟨c5a, c5b⟩ := blk_cl c5
                          go_wp2_with fail
                          go_roundg fk
                          case measure => omega
                          case rel =>
                            refine ⟨k + X.length, done ++ [tokAt l i], by simp, by omega, by omega, by simp; omega, HB6, ?_, ?_⟩
                            · rw [flatT_snoc, List.length_append, HTk.out.1]
                              simp only [HTk.out.2]
                              exact hown6
                            · show _ = _
                              rw [HTL.out]
                              conv => lhs; unfold tokL
                              rw [HTk.out.1]
                              simp [endB]
                  · have HTk : Hid (tokAt l i = ⟨0, [], k⟩ ∧ rawAt l k = X) := ⟨by rw [HT3.out]; unfold wordT; rw [if_pos (by omega)], HR.out⟩
                    obtain ⟨i0, hi0, hz0, hz1, hz2⟩ := info_pt info_tk
                    go_upto_region 29 with (first | (go_at_call 68; refine (low_any _ _).mono ?_; rintro e w' ⟨rfl, rfl⟩) | (go_at_call 69; refine (fig_any _ _).mono ?_; rintro e w' ⟨rfl, rfl⟩))
                    refine wp_region_lit ?_
                    iterate 9 go_step
                    refine wpList_append_own_at _ rfl (.tmp 130) (.tmp 132) 75 rfl w.heap.size 87 i0 (.agg #[S [], S [], .int .i64 0]) 3 40 Tryz.underlying75 hi0 hz0 hz1 hz2 rfl (by decide) (.slice va vk vc) done.length (flatT l done) (by simp [Act.eval]) (own_mv hown (fun g _ hl => (Below.heap_alloc _ _ _ (by simp; omega)).trans (Below.heap_alloc _ _ _ hl))) ⟨wr.heap.size + 1, 0, none⟩ 1 1 [S [110, 111, 110, 101], .string ⟨X.toArray⟩, .int .i64 k] (by simp [Act.eval]) rfl (fun j u hu => by have := row_cl (wr.alloc (.cells #[S [110, 111, 110, 101], .string ⟨X.toArray⟩, .int .i64 k] 87)) #[S [110, 111, 110, 101], .string ⟨X.toArray⟩, .int .i64 k] 87 j u hu; simpa using this) (by simp [Value.oneCell']) (by simp only [maxLen]; omega) (by omega) (by simp; omega) ?_
                    intro v' w6 hown6 hgrow hnil hat
                    obtain ⟨c5, z6⟩ := after_append hown hgrow
                    have HB6 : Below w.heap.size w w6 := (HB.alloc hz _).alloc (by simp; omega) _ |>.grown hgrow (by simp; omega) (fun g hg => (hown.lt g hg).1)
                    obtain ⟨c5a, c5b⟩ := blk_cl c5
                    go_wp2_with fail
                    refine bodyPost_ret (v := v') (by simp [results, Tryz.results41, go_sem]) rfl ⟨v', rfl, HB6, ?_⟩
                    have e0 : TL = done ++ [tokAt l i] := by
                      rw [HTL.out]
                      unfold tokL
                      rw [HTk.out.1]
                      rfl
                    rw [e0, flatT_snoc, List.length_append, HTk.out.1]
                    simp only [HTk.out.2]
                    exact hown6
                · by_cases hn8 : X.length ≤ 8
                  · go_wp2_with (first | (go_at_call 68; refine (low_any _ _).mono ?_; rintro e w' ⟨rfl, rfl⟩) | (go_at_call 69; refine (fig_any _ _).mono ?_; rintro e w' ⟨rfl, rfl⟩))
                    go_loopg [60] 24 (fun f v60 w2 => ∃ m : Nat, v60 = .int .i64 m ∧ m + f = 24 ∧ w2 = wr.alloc (.cells #[S (isA X m), S [], .int .i64 k] 87))
                    case atStart => exact ⟨0, rfl, rfl, rfl⟩
                    case round =>
                      obtain ⟨m, rfl, hm, rfl⟩ := hrel
                      by_cases hm24 : m < 24
                      · have hwc : ∀ o, (wr.alloc o).cell? ⟨g, wo + m, none⟩ = some (S (wordsL[m]'hm24)) := fun o => (World.cell?_alloc_lt _ _ ⟨g, wo + m, none⟩ (cell_l (hW.c m hm24))).trans (hW.c m hm24)
                        have hixw := ix_word g wo m hm24
                        have hsu := isA_succ X m hm24
                        generalize wordsL[m]'hm24 = Y at *
                        cases hq2 : (Y == X) with
                        | true =>
                          have HI : Hid (isA X (m + 1) = Y) := by show _ = _; rw [hsu, if_pos hq2]; exact (eq_of_beq hq2).symm
                          clear hsu
                          generalize isA X m = I at *
                          go_wp2_with fail
                          go_roundg (gk - 1)
                          case measure => omega
                          case rel => exact ⟨m + 1, by simp, by omega, by rw [HI.out]⟩
                        | false =>
                          have HI : Hid (isA X (m + 1) = isA X m) := by show _ = _; rw [hsu, if_neg (by simp [hq2])]
                          clear hsu
                          generalize isA X m = I at *
                          go_wp2_with fail
                          go_roundg (gk - 1)
                          case measure => omega
                          case rel => exact ⟨m + 1, by simp, by omega, by rw [HI.out]⟩
                      · obtain rfl : m = 24 := by omega
                        clear hm24 hm
                        cases hkw : kwB X with
                        | true =>
                          have HTk : Hid (tokAt l i = ⟨4, X, k⟩ ∧ rawAt l k = X) := ⟨by rw [HT3.out]; unfold wordT; rw [if_neg (by omega), if_pos hkw], HR.out⟩
                          have e24 : isA X 24 = X := by unfold isA; rw [isA_all, if_pos hkw]
                          obtain ⟨hn, he⟩ := kw_not X hkw
                          rw [e24]
                          clear e24
                          obtain ⟨i0, hi0, hz0, hz1, hz2⟩ := info_pt info_tk
                          go_upto_region 29 with (first | (go_at_call 68; refine (low_any _ _).mono ?_; rintro e w' ⟨rfl, rfl⟩) | (go_at_call 69; refine (fig_any _ _).mono ?_; rintro e w' ⟨rfl, rfl⟩))
                          refine wp_region_lit ?_
                          iterate 9 go_step
                          refine wpList_append_own_at _ rfl (.tmp 130) (.tmp 132) 75 rfl w.heap.size 87 i0 (.agg #[S [], S [], .int .i64 0]) 3 40 Tryz.underlying75 hi0 hz0 hz1 hz2 rfl (by decide) (.slice va vk vc) done.length (flatT l done) (by simp [Act.eval]) (own_mv hown (fun g _ hl => (Below.heap_alloc _ _ _ (by simp; omega)).trans (Below.heap_alloc _ _ _ hl))) ⟨wr.heap.size + 1, 0, none⟩ 1 1 [S X, .string ⟨X.toArray⟩, .int .i64 k] (by simp [Act.eval]) rfl (fun j u hu => by have := row_cl (wr.alloc (.cells #[S X, .string ⟨X.toArray⟩, .int .i64 k] 87)) #[S X, .string ⟨X.toArray⟩, .int .i64 k] 87 j u hu; simpa using this) (by simp [Value.oneCell']) (by simp only [maxLen]; omega) (by omega) (by simp; omega) ?_
                          intro v' w6 hown6 hgrow hnil hat
                          obtain ⟨c5, z6⟩ := after_append hown hgrow
                          have HB6 : Below w.heap.size w w6 := (HB.alloc hz _).alloc (by simp; omega) _ |>.grown hgrow (by simp; omega) (fun g hg => (hown.lt g hg).1)
                          obtain ⟨c5a, c5b⟩ := blk_cl c5
                          go_wp2_with fail
                          go_roundg fk
                          case measure => omega
                          case rel =>
                            refine ⟨k + X.length, done ++ [tokAt l i], by simp, by omega, by omega, by simp; omega, HB6, ?_, ?_⟩
                            · rw [flatT_snoc, List.length_append, HTk.out.1]
                              simp only [HTk.out.2]
                              exact hown6
                            · show _ = _
                              rw [HTL.out]
                              conv => lhs; unfold tokL
                              rw [HTk.out.1]
                              simp [endB]
                        | false =>
                          have HTk : Hid (tokAt l i = ⟨2, X, k⟩ ∧ rawAt l k = X) := ⟨by rw [HT3.out]; unfold wordT; rw [if_neg (by omega), if_neg (by simp [hkw])], HR.out⟩
                          have e24 : isA X 24 = [110, 97, 109, 101] := by unfold isA; rw [isA_all, if_neg (by simp [hkw])]
                          rw [e24]
                          clear e24
                          obtain ⟨i0, hi0, hz0, hz1, hz2⟩ := info_pt info_tk
                          go_upto_region 29 with (first | (go_at_call 68; refine (low_any _ _).mono ?_; rintro e w' ⟨rfl, rfl⟩) | (go_at_call 69; refine (fig_any _ _).mono ?_; rintro e w' ⟨rfl, rfl⟩))
                          refine wp_region_lit ?_
                          iterate 9 go_step
                          refine wpList_append_own_at _ rfl (.tmp 130) (.tmp 132) 75 rfl w.heap.size 87 i0 (.agg #[S [], S [], .int .i64 0]) 3 40 Tryz.underlying75 hi0 hz0 hz1 hz2 rfl (by decide) (.slice va vk vc) done.length (flatT l done) (by simp [Act.eval]) (own_mv hown (fun g _ hl => (Below.heap_alloc _ _ _ (by simp; omega)).trans (Below.heap_alloc _ _ _ hl))) ⟨wr.heap.size + 1, 0, none⟩ 1 1 [S [110, 97, 109, 101], .string ⟨X.toArray⟩, .int .i64 k] (by simp [Act.eval]) rfl (fun j u hu => by have := row_cl (wr.alloc (.cells #[S [110, 97, 109, 101], .string ⟨X.toArray⟩, .int .i64 k] 87)) #[S [110, 97, 109, 101], .string ⟨X.toArray⟩, .int .i64 k] 87 j u hu; simpa using this) (by simp [Value.oneCell']) (by simp only [maxLen]; omega) (by omega) (by simp; omega) ?_
                          intro v' w6 hown6 hgrow hnil hat
                          obtain ⟨c5, z6⟩ := after_append hown hgrow
                          have HB6 : Below w.heap.size w w6 := (HB.alloc hz _).alloc (by simp; omega) _ |>.grown hgrow (by simp; omega) (fun g hg => (hown.lt g hg).1)
                          obtain ⟨c5a, c5b⟩ := blk_cl c5
                          go_wp2_with fail
                          go_roundg fk
                          case measure => omega
                          case rel =>
                            refine ⟨k + X.length, done ++ [tokAt l i], by simp, by omega, by omega, by simp; omega, HB6, ?_, ?_⟩
                            · rw [flatT_snoc, List.length_append, HTk.out.1]
                              simp only [HTk.out.2]
                              exact hown6
                            · show _ = _
                              rw [HTL.out]
                              conv => lhs; unfold tokL
                              rw [HTk.out.1]
                              simp [endB]
                  · have HTk : Hid (tokAt l i = ⟨0, [], k⟩ ∧ rawAt l k = X) := ⟨by rw [HT3.out]; unfold wordT; rw [if_pos (by omega)], HR.out⟩
                    obtain ⟨i0, hi0, hz0, hz1, hz2⟩ := info_pt info_tk
                    go_upto_region 29 with (first | (go_at_call 68; refine (low_any _ _).mono ?_; rintro e w' ⟨rfl, rfl⟩) | (go_at_call 69; refine (fig_any _ _).mono ?_; rintro e w' ⟨rfl, rfl⟩))
                    refine wp_region_lit ?_
                    iterate 9 go_step
                    refine wpList_append_own_at _ rfl (.tmp 130) (.tmp 132) 75 rfl w.heap.size 87 i0 (.agg #[S [], S [], .int .i64 0]) 3 40 Tryz.underlying75 hi0 hz0 hz1 hz2 rfl (by decide) (.slice va vk vc) done.length (flatT l done) (by simp [Act.eval]) (own_mv hown (fun g _ hl => (Below.heap_alloc _ _ _ (by simp; omega)).trans (Below.heap_alloc _ _ _ hl))) ⟨wr.heap.size + 1, 0, none⟩ 1 1 [S [110, 111, 110, 101], .string ⟨X.toArray⟩, .int .i64 k] (by simp [Act.eval]) rfl (fun j u hu => by have := row_cl (wr.alloc (.cells #[S [110, 111, 110, 101], .string ⟨X.toArray⟩, .int .i64 k] 87)) #[S [110, 111, 110, 101], .string ⟨X.toArray⟩, .int .i64 k] 87 j u hu; simpa using this) (by simp [Value.oneCell']) (by simp only [maxLen]; omega) (by omega) (by simp; omega) ?_
                    intro v' w6 hown6 hgrow hnil hat
                    obtain ⟨c5, z6⟩ := after_append hown hgrow
                    have HB6 : Below w.heap.size w w6 := (HB.alloc hz _).alloc (by simp; omega) _ |>.grown hgrow (by simp; omega) (fun g hg => (hown.lt g hg).1)
                    obtain ⟨c5a, c5b⟩ := blk_cl c5
                    go_wp2_with fail
                    refine bodyPost_ret (v := v') (by simp [results, Tryz.results41, go_sem]) rfl ⟨v', rfl, HB6, ?_⟩
                    have e0 : TL = done ++ [tokAt l i] := by
                      rw [HTL.out]
                      unfold tokL
                      rw [HTk.out.1]
                      rfl
                    rw [e0, flatT_snoc, List.length_append, HTk.out.1]
                    simp only [HTk.out.2]
                    exact hown6
          | false =>
          cases hD : digU l[k] with
          | true =>
            have HT3 : Hid (tokAt l i = digT ((l.drop k).takeWhile digU) k) := HD.out hkl hL hD
            have HR : Hid (rawAt l k = (l.drop k).takeWhile digU) := by show _ = _; unfold rawAt; rw [drop_cons l k hkl]; simp [hL, hD]
            clear HW HD HS HN
            have hle2 := tw_le digU (l.drop k)
            have htl : ((l.drop k).takeWhile digU).length ≤ l.length - k := by simpa using hle2
            have f1 : ∀ m, m < ((l.drop k).takeWhile digU).length → ∀ h : k + m < l.length, digU l[k + m] = true := fun m hm h => by have := tw_lt digU (l.drop k) m hm (by simp; omega); simpa using this
            have f3 : ∀ h : k + ((l.drop k).takeWhile digU).length < l.length, digU l[k + ((l.drop k).takeWhile digU).length] = false := fun h => by have := tw_eq digU (l.drop k) _ rfl (by simp; omega); simpa using this
            have f4 : (l.take (k + ((l.drop k).takeWhile digU).length)).drop k = (l.drop k).takeWhile digU := by rw [List.drop_take, Nat.add_sub_cancel_left]; exact tw_take digU (l.drop k)
            have f5 : 0 < ((l.drop k).takeWhile digU).length := by rw [drop_cons l k hkl, List.takeWhile_cons, if_pos hD]; exact Nat.succ_pos _
            generalize hX : (l.drop k).takeWhile digU = X at *
            clear hX hle2
            go_wp2_with (first | (go_at_call 68; refine (low_any _ _).mono ?_; rintro e w' ⟨rfl, rfl⟩) | (go_at_call 69; refine (fig_any _ _).mono ?_; rintro e w' ⟨rfl, rfl⟩))
            go_loopg [6] X.length (fun f v6 w2 => ∃ m : Nat, v6 = .int .i64 (k + m : Nat) ∧ m + f = X.length ∧ w2 = wr.alloc (.cells #[S [110, 111, 110, 101], S [], .int .i64 k] 87))
            case atStart => exact ⟨0, rfl, by omega, rfl⟩
            case round =>
              obtain ⟨m, rfl, hm, rfl⟩ := hrel
              by_cases hmn : m < X.length
              · have hml : k + m < l.length := by omega
                have hg2 := bget l (k + m) hml
                have hp := f1 m hmn hml
                clear f1 f3 hg
                go_wp2_with (first | (go_at_call 68; refine (low_any _ _).mono ?_; rintro e w' ⟨rfl, rfl⟩) | (go_at_call 69; refine (fig_any _ _).mono ?_; rintro e w' ⟨rfl, rfl⟩))
                go_roundg (gk - 1)
                case measure => omega
                case rel => exact ⟨m + 1, by simp; omega, by omega, rfl⟩
              · obtain rfl : m = X.length := by omega
                clear f1 hmn hm
                have hcut : (k + X.length < l.length ∧ ∃ h : k + X.length < l.length, digU l[k + X.length] = false) ∨ ¬ k + X.length < l.length := by
                  by_cases h : k + X.length < l.length
                  · exact Or.inl ⟨h, h, f3 h⟩
                  · exact Or.inr h
                clear f3
                rcases hcut with ⟨hq, _, hp⟩ | hq
                · have hg2 := bget l (k + X.length) hq
                  by_cases hn3 : X.length ≤ 3
                  · have HTk : Hid (tokAt l i = ⟨3, X, k⟩ ∧ rawAt l k = X) := ⟨by rw [HT3.out]; unfold digT; rw [if_neg (by omega)], HR.out⟩
                    obtain ⟨i0, hi0, hz0, hz1, hz2⟩ := info_pt info_tk
                    go_upto_region 29 with (first | (go_at_call 68; refine (low_any _ _).mono ?_; rintro e w' ⟨rfl, rfl⟩) | (go_at_call 69; refine (fig_any _ _).mono ?_; rintro e w' ⟨rfl, rfl⟩))
                    refine wp_region_lit ?_
                    iterate 9 go_step
                    refine wpList_append_own_at _ rfl (.tmp 130) (.tmp 132) 75 rfl w.heap.size 87 i0 (.agg #[S [], S [], .int .i64 0]) 3 40 Tryz.underlying75 hi0 hz0 hz1 hz2 rfl (by decide) (.slice va vk vc) done.length (flatT l done) (by simp [Act.eval]) (own_mv hown (fun g _ hl => (Below.heap_alloc _ _ _ (by simp; omega)).trans (Below.heap_alloc _ _ _ hl))) ⟨wr.heap.size + 1, 0, none⟩ 1 1 [S [110, 117, 109], .string ⟨X.toArray⟩, .int .i64 k] (by simp [Act.eval]) rfl (fun j u hu => by have := row_cl (wr.alloc (.cells #[S [110, 117, 109], .string ⟨X.toArray⟩, .int .i64 k] 87)) #[S [110, 117, 109], .string ⟨X.toArray⟩, .int .i64 k] 87 j u hu; simpa using this) (by simp [Value.oneCell']) (by simp only [maxLen]; omega) (by omega) (by simp; omega) ?_
                    intro v' w6 hown6 hgrow hnil hat
                    obtain ⟨c5, z6⟩ := after_append hown hgrow
                    have HB6 : Below w.heap.size w w6 := (HB.alloc hz _).alloc (by simp; omega) _ |>.grown hgrow (by simp; omega) (fun g hg => (hown.lt g hg).1)
                    obtain ⟨c5a, c5b⟩ := blk_cl c5
                    go_wp2_with fail
                    go_roundg fk
                    case measure => omega
                    case rel =>
                      refine ⟨k + X.length, done ++ [tokAt l i], by simp, by omega, by omega, by simp; omega, HB6, ?_, ?_⟩
                      · rw [flatT_snoc, List.length_append, HTk.out.1]
                        simp only [HTk.out.2]
                        exact hown6
                      · show _ = _
                        rw [HTL.out]
                        conv => lhs; unfold tokL
                        rw [HTk.out.1]
                        simp [endB]
                  · have HTk : Hid (tokAt l i = ⟨0, [], k⟩ ∧ rawAt l k = X) := ⟨by rw [HT3.out]; unfold digT; rw [if_pos (by omega)], HR.out⟩
                    obtain ⟨i0, hi0, hz0, hz1, hz2⟩ := info_pt info_tk
                    go_upto_region 29 with (first | (go_at_call 68; refine (low_any _ _).mono ?_; rintro e w' ⟨rfl, rfl⟩) | (go_at_call 69; refine (fig_any _ _).mono ?_; rintro e w' ⟨rfl, rfl⟩))
                    refine wp_region_lit ?_
                    iterate 9 go_step
                    refine wpList_append_own_at _ rfl (.tmp 130) (.tmp 132) 75 rfl w.heap.size 87 i0 (.agg #[S [], S [], .int .i64 0]) 3 40 Tryz.underlying75 hi0 hz0 hz1 hz2 rfl (by decide) (.slice va vk vc) done.length (flatT l done) (by simp [Act.eval]) (own_mv hown (fun g _ hl => (Below.heap_alloc _ _ _ (by simp; omega)).trans (Below.heap_alloc _ _ _ hl))) ⟨wr.heap.size + 1, 0, none⟩ 1 1 [S [110, 111, 110, 101], .string ⟨X.toArray⟩, .int .i64 k] (by simp [Act.eval]) rfl (fun j u hu => by have := row_cl (wr.alloc (.cells #[S [110, 111, 110, 101], .string ⟨X.toArray⟩, .int .i64 k] 87)) #[S [110, 111, 110, 101], .string ⟨X.toArray⟩, .int .i64 k] 87 j u hu; simpa using this) (by simp [Value.oneCell']) (by simp only [maxLen]; omega) (by omega) (by simp; omega) ?_
                    intro v' w6 hown6 hgrow hnil hat
                    obtain ⟨c5, z6⟩ := after_append hown hgrow
                    have HB6 : Below w.heap.size w w6 := (HB.alloc hz _).alloc (by simp; omega) _ |>.grown hgrow (by simp; omega) (fun g hg => (hown.lt g hg).1)
                    obtain ⟨c5a, c5b⟩ := blk_cl c5
                    go_wp2_with fail
                    refine bodyPost_ret (v := v') (by simp [results, Tryz.results41, go_sem]) rfl ⟨v', rfl, HB6, ?_⟩
                    have e0 : TL = done ++ [tokAt l i] := by
                      rw [HTL.out]
                      unfold tokL
                      rw [HTk.out.1]
                      rfl
                    rw [e0, flatT_snoc, List.length_append, HTk.out.1]
                    simp only [HTk.out.2]
                    exact hown6
                · by_cases hn3 : X.length ≤ 3
                  · have HTk : Hid (tokAt l i = ⟨3, X, k⟩ ∧ rawAt l k = X) := ⟨by rw [HT3.out]; unfold digT; rw [if_neg (by omega)], HR.out⟩
                    obtain ⟨i0, hi0, hz0, hz1, hz2⟩ := info_pt info_tk
                    go_upto_region 29 with (first | (go_at_call 68; refine (low_any _ _).mono ?_; rintro e w' ⟨rfl, rfl⟩) | (go_at_call 69; refine (fig_any _ _).mono ?_; rintro e w' ⟨rfl, rfl⟩))
                    refine wp_region_lit ?_
                    iterate 9 go_step
                    refine wpList_append_own_at _ rfl (.tmp 130) (.tmp 132) 75 rfl w.heap.size 87 i0 (.agg #[S [], S [], .int .i64 0]) 3 40 Tryz.underlying75 hi0 hz0 hz1 hz2 rfl (by decide) (.slice va vk vc) done.length (flatT l done) (by simp [Act.eval]) (own_mv hown (fun g _ hl => (Below.heap_alloc _ _ _ (by simp; omega)).trans (Below.heap_alloc _ _ _ hl))) ⟨wr.heap.size + 1, 0, none⟩ 1 1 [S [110, 117, 109], .string ⟨X.toArray⟩, .int .i64 k] (by simp [Act.eval]) rfl (fun j u hu => by have := row_cl (wr.alloc (.cells #[S [110, 117, 109], .string ⟨X.toArray⟩, .int .i64 k] 87)) #[S [110, 117, 109], .string ⟨X.toArray⟩, .int .i64 k] 87 j u hu; simpa using this) (by simp [Value.oneCell']) (by simp only [maxLen]; omega) (by omega) (by simp; omega) ?_
                    intro v' w6 hown6 hgrow hnil hat
                    obtain ⟨c5, z6⟩ := after_append hown hgrow
                    have HB6 : Below w.heap.size w w6 := (HB.alloc hz _).alloc (by simp; omega) _ |>.grown hgrow (by simp; omega) (fun g hg => (hown.lt g hg).1)
                    obtain ⟨c5a, c5b⟩ := blk_cl c5
                    go_wp2_with fail
                    go_roundg fk
                    case measure => omega
                    case rel =>
                      refine ⟨k + X.length, done ++ [tokAt l i], by simp, by omega, by omega, by simp; omega, HB6, ?_, ?_⟩
                      · rw [flatT_snoc, List.length_append, HTk.out.1]
                        simp only [HTk.out.2]
                        exact hown6
                      · show _ = _
                        rw [HTL.out]
                        conv => lhs; unfold tokL
                        rw [HTk.out.1]
                        simp [endB]
                  · have HTk : Hid (tokAt l i = ⟨0, [], k⟩ ∧ rawAt l k = X) := ⟨by rw [HT3.out]; unfold digT; rw [if_pos (by omega)], HR.out⟩
                    obtain ⟨i0, hi0, hz0, hz1, hz2⟩ := info_pt info_tk
                    go_upto_region 29 with (first | (go_at_call 68; refine (low_any _ _).mono ?_; rintro e w' ⟨rfl, rfl⟩) | (go_at_call 69; refine (fig_any _ _).mono ?_; rintro e w' ⟨rfl, rfl⟩))
                    refine wp_region_lit ?_
                    iterate 9 go_step
                    refine wpList_append_own_at _ rfl (.tmp 130) (.tmp 132) 75 rfl w.heap.size 87 i0 (.agg #[S [], S [], .int .i64 0]) 3 40 Tryz.underlying75 hi0 hz0 hz1 hz2 rfl (by decide) (.slice va vk vc) done.length (flatT l done) (by simp [Act.eval]) (own_mv hown (fun g _ hl => (Below.heap_alloc _ _ _ (by simp; omega)).trans (Below.heap_alloc _ _ _ hl))) ⟨wr.heap.size + 1, 0, none⟩ 1 1 [S [110, 111, 110, 101], .string ⟨X.toArray⟩, .int .i64 k] (by simp [Act.eval]) rfl (fun j u hu => by have := row_cl (wr.alloc (.cells #[S [110, 111, 110, 101], .string ⟨X.toArray⟩, .int .i64 k] 87)) #[S [110, 111, 110, 101], .string ⟨X.toArray⟩, .int .i64 k] 87 j u hu; simpa using this) (by simp [Value.oneCell']) (by simp only [maxLen]; omega) (by omega) (by simp; omega) ?_
                    intro v' w6 hown6 hgrow hnil hat
                    obtain ⟨c5, z6⟩ := after_append hown hgrow
                    have HB6 : Below w.heap.size w w6 := (HB.alloc hz _).alloc (by simp; omega) _ |>.grown hgrow (by simp; omega) (fun g hg => (hown.lt g hg).1)
                    obtain ⟨c5a, c5b⟩ := blk_cl c5
                    go_wp2_with fail
                    refine bodyPost_ret (v := v') (by simp [results, Tryz.results41, go_sem]) rfl ⟨v', rfl, HB6, ?_⟩
                    have e0 : TL = done ++ [tokAt l i] := by
                      rw [HTL.out]
                      unfold tokL
                      rw [HTk.out.1]
                      rfl
                    rw [e0, flatT_snoc, List.length_append, HTk.out.1]
                    simp only [HTk.out.2]
                    exact hown6
          | false =>
          have hrw : (l.take k).drop k = [] := by simp
          cases hS : sgnU l[k] with
          | false =>
            have HTk : Hid (tokAt l i = ⟨0, [], k⟩ ∧ rawAt l k = []) := ⟨HN.out hkl hL hD hS, by unfold rawAt; rw [drop_cons l k hkl]; simp [hL, hD, hS]⟩
            have hs := hS
            unfold sgnU at hs
            simp only [Bool.or_eq_false_iff] at hs
            obtain ⟨⟨⟨s1, s2⟩, s3⟩, s4⟩ := hs
            have s1 : ((l[k].toNat : Int) == 59) = false := u8ne s1
            have s2 : ((l[k].toNat : Int) == 123) = false := u8ne s2
            have s3 : ((l[k].toNat : Int) == 125) = false := u8ne s3
            have s4 : ((l[k].toNat : Int) == 60) = false := u8ne s4
            clear HW HD HS HN hS
            obtain ⟨i0, hi0, hz0, hz1, hz2⟩ := info_pt info_tk
            go_upto_region 29 with (first | (go_at_call 68; refine (low_any _ _).mono ?_; rintro e w' ⟨rfl, rfl⟩) | (go_at_call 69; refine (fig_any _ _).mono ?_; rintro e w' ⟨rfl, rfl⟩))
            refine wp_region_lit ?_
            iterate 9 go_step
            refine wpList_append_own_at _ rfl (.tmp 130) (.tmp 132) 75 rfl w.heap.size 87 i0 (.agg #[S [], S [], .int .i64 0]) 3 40 Tryz.underlying75 hi0 hz0 hz1 hz2 rfl (by decide) (.slice va vk vc) done.length (flatT l done) (by simp [Act.eval]) (own_mv hown (fun g _ hl => (Below.heap_alloc _ _ _ (by simp; omega)).trans (Below.heap_alloc _ _ _ hl))) ⟨wr.heap.size + 1, 0, none⟩ 1 1 [S [110, 111, 110, 101], .string ByteArray.empty, .int .i64 k] (by simp [Act.eval]) rfl (fun j u hu => by have := row_cl (wr.alloc (.cells #[S [110, 111, 110, 101], .string ByteArray.empty, .int .i64 k] 87)) #[S [110, 111, 110, 101], .string ByteArray.empty, .int .i64 k] 87 j u hu; simpa using this) (by simp [Value.oneCell']) (by simp only [maxLen]; omega) (by omega) (by simp; omega) ?_
            intro v' w6 hown6 hgrow hnil hat
            obtain ⟨c5, z6⟩ := after_append hown hgrow
            have HB6 : Below w.heap.size w w6 := (HB.alloc hz _).alloc (by simp; omega) _ |>.grown hgrow (by simp; omega) (fun g hg => (hown.lt g hg).1)
            obtain ⟨c5a, c5b⟩ := blk_cl c5
            go_wp2_with fail
            refine bodyPost_ret (v := v') (by simp [results, Tryz.results41, go_sem]) rfl ⟨v', rfl, HB6, ?_⟩
            have e0 : TL = done ++ [tokAt l i] := by
              rw [HTL.out]
              unfold tokL
              rw [HTk.out.1]
              rfl
            rw [e0, flatT_snoc, List.length_append, HTk.out.1]
            simp only [HTk.out.2]
            exact hown6
          | true =>
            have HTk : Hid (tokAt l i = ⟨4, [l[k]], k⟩ ∧ rawAt l k = [l[k]]) := ⟨HS.out hkl hL hD hS, by unfold rawAt; rw [drop_cons l k hkl]; simp [hL, hD, hS]⟩
            have htk := tk1 l k hkl
            have hs := hS
            unfold sgnU at hs
            have hn : ([l[k]] == [110, 111, 110, 101]) = false := by simp
            have he : ([l[k]] == [101, 110, 100]) = false := by simp
            clear HW HD HS HN
            have hs : (((l[k].toNat : Int) == 59) || ((l[k].toNat : Int) == 123) || ((l[k].toNat : Int) == 125) || ((l[k].toNat : Int) == 60)) = true := sgnI hs
            cases h59 : ((l[k].toNat : Int) == 59) with
            | true =>
              obtain ⟨i0, hi0, hz0, hz1, hz2⟩ := info_pt info_tk
              go_upto_region 29 with (first | (go_at_call 68; refine (low_any _ _).mono ?_; rintro e w' ⟨rfl, rfl⟩) | (go_at_call 69; refine (fig_any _ _).mono ?_; rintro e w' ⟨rfl, rfl⟩))
              refine wp_region_lit ?_
              iterate 9 go_step
              refine wpList_append_own_at _ rfl (.tmp 130) (.tmp 132) 75 rfl w.heap.size 87 i0 (.agg #[S [], S [], .int .i64 0]) 3 40 Tryz.underlying75 hi0 hz0 hz1 hz2 rfl (by decide) (.slice va vk vc) done.length (flatT l done) (by simp [Act.eval]) (own_mv hown (fun g _ hl => (Below.heap_alloc _ _ _ (by simp; omega)).trans (Below.heap_alloc _ _ _ hl))) ⟨wr.heap.size + 1, 0, none⟩ 1 1 [.string ⟨#[l[k]]⟩, .string ⟨#[l[k]]⟩, .int .i64 k] (by simp [Act.eval]) rfl (fun j u hu => by have := row_cl (wr.alloc (.cells #[.string ⟨#[l[k]]⟩, .string ⟨#[l[k]]⟩, .int .i64 k] 87)) #[.string ⟨#[l[k]]⟩, .string ⟨#[l[k]]⟩, .int .i64 k] 87 j u hu; simpa using this) (by simp [Value.oneCell']) (by simp only [maxLen]; omega) (by omega) (by simp; omega) ?_
              intro v' w6 hown6 hgrow hnil hat
              obtain ⟨c5, z6⟩ := after_append hown hgrow
              have HB6 : Below w.heap.size w w6 := (HB.alloc hz _).alloc (by simp; omega) _ |>.grown hgrow (by simp; omega) (fun g hg => (hown.lt g hg).1)
              obtain ⟨c5a, c5b⟩ := blk_cl c5
              go_wp2_with fail
              go_roundg fk
              case measure => omega
              case rel =>
                refine ⟨k + 1, done ++ [tokAt l i], by simp, by omega, by omega, by simp; omega, HB6, ?_, ?_⟩
                · rw [flatT_snoc, List.length_append, HTk.out.1]
                  simp only [HTk.out.2]
                  exact hown6
                · show _ = _
                  rw [HTL.out]
                  conv => lhs; unfold tokL
                  rw [HTk.out.1]
                  simp [endB]
            | false =>
              cases h123 : ((l[k].toNat : Int) == 123) with
              | true =>
                obtain ⟨i0, hi0, hz0, hz1, hz2⟩ := info_pt info_tk
                go_upto_region 29 with (first | (go_at_call 68; refine (low_any _ _).mono ?_; rintro e w' ⟨rfl, rfl⟩) | (go_at_call 69; refine (fig_any _ _).mono ?_; rintro e w' ⟨rfl, rfl⟩))
                refine wp_region_lit ?_
                iterate 9 go_step
                refine wpList_append_own_at _ rfl (.tmp 130) (.tmp 132) 75 rfl w.heap.size 87 i0 (.agg #[S [], S [], .int .i64 0]) 3 40 Tryz.underlying75 hi0 hz0 hz1 hz2 rfl (by decide) (.slice va vk vc) done.length (flatT l done) (by simp [Act.eval]) (own_mv hown (fun g _ hl => (Below.heap_alloc _ _ _ (by simp; omega)).trans (Below.heap_alloc _ _ _ hl))) ⟨wr.heap.size + 1, 0, none⟩ 1 1 [.string ⟨#[l[k]]⟩, .string ⟨#[l[k]]⟩, .int .i64 k] (by simp [Act.eval]) rfl (fun j u hu => by have := row_cl (wr.alloc (.cells #[.string ⟨#[l[k]]⟩, .string ⟨#[l[k]]⟩, .int .i64 k] 87)) #[.string ⟨#[l[k]]⟩, .string ⟨#[l[k]]⟩, .int .i64 k] 87 j u hu; simpa using this) (by simp [Value.oneCell']) (by simp only [maxLen]; omega) (by omega) (by simp; omega) ?_
                intro v' w6 hown6 hgrow hnil hat
                obtain ⟨c5, z6⟩ := after_append hown hgrow
                have HB6 : Below w.heap.size w w6 := (HB.alloc hz _).alloc (by simp; omega) _ |>.grown hgrow (by simp; omega) (fun g hg => (hown.lt g hg).1)
                obtain ⟨c5a, c5b⟩ := blk_cl c5
                go_wp2_with fail
                go_roundg fk
                case measure => omega
                case rel =>
                  refine ⟨k + 1, done ++ [tokAt l i], by simp, by omega, by omega, by simp; omega, HB6, ?_, ?_⟩
                  · rw [flatT_snoc, List.length_append, HTk.out.1]
                    simp only [HTk.out.2]
                    exact hown6
                  · show _ = _
                    rw [HTL.out]
                    conv => lhs; unfold tokL
                    rw [HTk.out.1]
                    simp [endB]
              | false =>
                cases h125 : ((l[k].toNat : Int) == 125) with
                | true =>
                  obtain ⟨i0, hi0, hz0, hz1, hz2⟩ := info_pt info_tk
                  go_upto_region 29 with (first | (go_at_call 68; refine (low_any _ _).mono ?_; rintro e w' ⟨rfl, rfl⟩) | (go_at_call 69; refine (fig_any _ _).mono ?_; rintro e w' ⟨rfl, rfl⟩))
                  refine wp_region_lit ?_
                  iterate 9 go_step
                  refine wpList_append_own_at _ rfl (.tmp 130) (.tmp 132) 75 rfl w.heap.size 87 i0 (.agg #[S [], S [], .int .i64 0]) 3 40 Tryz.underlying75 hi0 hz0 hz1 hz2 rfl (by decide) (.slice va vk vc) done.length (flatT l done) (by simp [Act.eval]) (own_mv hown (fun g _ hl => (Below.heap_alloc _ _ _ (by simp; omega)).trans (Below.heap_alloc _ _ _ hl))) ⟨wr.heap.size + 1, 0, none⟩ 1 1 [.string ⟨#[l[k]]⟩, .string ⟨#[l[k]]⟩, .int .i64 k] (by simp [Act.eval]) rfl (fun j u hu => by have := row_cl (wr.alloc (.cells #[.string ⟨#[l[k]]⟩, .string ⟨#[l[k]]⟩, .int .i64 k] 87)) #[.string ⟨#[l[k]]⟩, .string ⟨#[l[k]]⟩, .int .i64 k] 87 j u hu; simpa using this) (by simp [Value.oneCell']) (by simp only [maxLen]; omega) (by omega) (by simp; omega) ?_
                  intro v' w6 hown6 hgrow hnil hat
                  obtain ⟨c5, z6⟩ := after_append hown hgrow
                  have HB6 : Below w.heap.size w w6 := (HB.alloc hz _).alloc (by simp; omega) _ |>.grown hgrow (by simp; omega) (fun g hg => (hown.lt g hg).1)
                  obtain ⟨c5a, c5b⟩ := blk_cl c5
                  go_wp2_with fail
                  go_roundg fk
                  case measure => omega
                  case rel =>
                    refine ⟨k + 1, done ++ [tokAt l i], by simp, by omega, by omega, by simp; omega, HB6, ?_, ?_⟩
                    · rw [flatT_snoc, List.length_append, HTk.out.1]
                      simp only [HTk.out.2]
                      exact hown6
                    · show _ = _
                      rw [HTL.out]
                      conv => lhs; unfold tokL
                      rw [HTk.out.1]
                      simp [endB]
                | false =>
                  cases h60 : ((l[k].toNat : Int) == 60) with
                  | true =>
                    obtain ⟨i0, hi0, hz0, hz1, hz2⟩ := info_pt info_tk
                    go_upto_region 29 with (first | (go_at_call 68; refine (low_any _ _).mono ?_; rintro e w' ⟨rfl, rfl⟩) | (go_at_call 69; refine (fig_any _ _).mono ?_; rintro e w' ⟨rfl, rfl⟩))
                    refine wp_region_lit ?_
                    iterate 9 go_step
                    refine wpList_append_own_at _ rfl (.tmp 130) (.tmp 132) 75 rfl w.heap.size 87 i0 (.agg #[S [], S [], .int .i64 0]) 3 40 Tryz.underlying75 hi0 hz0 hz1 hz2 rfl (by decide) (.slice va vk vc) done.length (flatT l done) (by simp [Act.eval]) (own_mv hown (fun g _ hl => (Below.heap_alloc _ _ _ (by simp; omega)).trans (Below.heap_alloc _ _ _ hl))) ⟨wr.heap.size + 1, 0, none⟩ 1 1 [.string ⟨#[l[k]]⟩, .string ⟨#[l[k]]⟩, .int .i64 k] (by simp [Act.eval]) rfl (fun j u hu => by have := row_cl (wr.alloc (.cells #[.string ⟨#[l[k]]⟩, .string ⟨#[l[k]]⟩, .int .i64 k] 87)) #[.string ⟨#[l[k]]⟩, .string ⟨#[l[k]]⟩, .int .i64 k] 87 j u hu; simpa using this) (by simp [Value.oneCell']) (by simp only [maxLen]; omega) (by omega) (by simp; omega) ?_
                    intro v' w6 hown6 hgrow hnil hat
                    obtain ⟨c5, z6⟩ := after_append hown hgrow
                    have HB6 : Below w.heap.size w w6 := (HB.alloc hz _).alloc (by simp; omega) _ |>.grown hgrow (by simp; omega) (fun g hg => (hown.lt g hg).1)
                    obtain ⟨c5a, c5b⟩ := blk_cl c5
                    go_wp2_with fail
                    go_roundg fk
                    case measure => omega
                    case rel =>
                      refine ⟨k + 1, done ++ [tokAt l i], by simp, by omega, by omega, by simp; omega, HB6, ?_, ?_⟩
                      · rw [flatT_snoc, List.length_append, HTk.out.1]
                        simp only [HTk.out.2]
                        exact hown6
                      · show _ = _
                        rw [HTL.out]
                        conv => lhs; unfold tokL
                        rw [HTk.out.1]
                        simp [endB]
                  | false =>
                    simp [h59, h123, h125, h60] at hs
        · have HTk : Hid (tokAt l i = ⟨1, [], k⟩ ∧ rawAt l k = []) := ⟨HE.out hkl, by unfold rawAt; rw [List.drop_of_length_le (by omega)]⟩
          clear HE hat
          obtain ⟨i0, hi0, hz0, hz1, hz2⟩ := info_pt info_tk
          go_upto_region 29 with fail
          refine wp_region_lit ?_
          iterate 9 go_step
          refine wpList_append_own_at _ rfl (.tmp 130) (.tmp 132) 75 rfl w.heap.size 87 i0 (.agg #[S [], S [], .int .i64 0]) 3 40 Tryz.underlying75 hi0 hz0 hz1 hz2 rfl (by decide) (.slice va vk vc) done.length (flatT l done) (by simp [Act.eval]) (own_mv hown (fun g _ hl => (Below.heap_alloc _ _ _ (by simp; omega)).trans (Below.heap_alloc _ _ _ hl))) ⟨wr.heap.size + 1, 0, none⟩ 1 1 [S [101, 110, 100], .string ByteArray.empty, .int .i64 k] (by simp [Act.eval]) rfl (fun j u hu => by have := row_cl (wr.alloc (.cells #[S [101, 110, 100], .string ByteArray.empty, .int .i64 k] 87)) #[S [101, 110, 100], .string ByteArray.empty, .int .i64 k] 87 j u hu; simpa using this) (by simp [Value.oneCell']) (by simp only [maxLen]; omega) (by omega) (by simp; omega) ?_
          intro v' w6 hown6 hgrow hnil hat
          obtain ⟨c5, z6⟩ := after_append hown hgrow
          have HB6 : Below w.heap.size w w6 := (HB.alloc hz _).alloc (by simp; omega) _ |>.grown hgrow (by simp; omega) (fun g hg => (hown.lt g hg).1)
          obtain ⟨c5a, c5b⟩ := blk_cl c5
          go_wp2_with fail
          refine bodyPost_ret (v := v') (by simp [results, Tryz.results41, go_sem]) rfl ⟨v', rfl, HB6, ?_⟩
          have e0 : TL = done ++ [tokAt l i] := by
            rw [HTL.out]
            unfold tokL
            rw [HTk.out.1]
            rfl
          rw [e0, flatT_snoc, List.length_append, HTk.out.1]
          simp only [HTk.out.2]
          exact hown6
end Go.Proofs.YtfddoieakfpagaaGreatDoor
