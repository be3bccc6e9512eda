import Derived.Test.YtfddoieakfpagaaGreatDoorGK
import Derived.Test.YtfddoieakfpagaaGreatDoorGD
namespace Go.Proofs.YtfddoieakfpagaaGreatDoor
open Go.RowKit

/-- What Load answers, as far as the statement on Load asks. -/
def OutW {α : Type} (w : World) (r : Except (Nat × Nat) α) (e : Ending) (w' : World) : Prop :=
  Below w.heap.size w w' ∧ match r with
  | .ok _ => ∃ g, e = .returned (.tuple #[ptr g, .int .i64 0, .int .i64 0])
  | .error (i, p) => e = .returned (.tuple #[.pointer none, .int .i64 (enoS i), .int .i64 p])
def LoadOk : Prop := ∀ (l : List UInt8) (w : World) (A : Nat → Addr), Sent w A → Calls Tryz.prog 17 #[S l] w fun e w' => OutW w (readS l) e w'

theorem Wd.mv {w w' : World} {g : Nat} (h : Wd w g) (hb : Below w.heap.size w w') : Wd w' g := by
  obtain ⟨wo, h⟩ := h
  exact ⟨wo, h.move hb (cell_lt h.v) (cell_lt (h.c 0 (by decide)))⟩

/-- The law's own world: a list of n pairs of engines, nothing else. -/
structure Wo (w : World) (wb n : Nat) : Prop where
  ex : ∃ v xs, w.heap[wb]? = some (.cells #[v, nilV, .bool false] 58) ∧ w.ownsRow (wb + 1) 100 2 v n xs
theorem Wo.below {w w' : World} {wb n : Nat} (h : Wo w wb n) (hb : Below w.heap.size w w') : Wo w' wb n := by
  obtain ⟨v, xs, h1, h2⟩ := h.ex
  exact ⟨v, xs, (hb.block _ (Array.getElem?_eq_some_iff.1 h1).1).trans h1, own_mv h2 (fun _ _ hl => hb.block _ hl)⟩
theorem info_pair : (Tryz.prog.info? 100).map (fun i => (i.zero, i.size, i.bytes)) = some (some (.agg #[.pointer none, .pointer none]), 2, 16) := by kernel_rfl

set_option maxRecDepth 20000 in
set_option maxHeartbeats 2000000 in
theorem wload_any (HL : LoadOk) {w : World} {wb n g : Nat} {A : Nat → Addr} (h : Wo w wb n) (SS : Sent w A) (HG : Wd w g) (hn : n ≤ 4000000000000) (l : List UInt8) :
    Calls Tryz.prog 53 #[ptr wb, S l] w fun e w' => e = .returned (.bool true) ∧ (∃ n', n' ≤ n + 1 ∧ Wo w' wb n') ∧ Below wb w w' := by
  have hwb : wb < w.heap.size := by obtain ⟨v, xs, h1, _⟩ := h.ex; exact (Array.getElem?_eq_some_iff.1 h1).1
  have H1 := HL l w A SS
  have H2 := fun w1 (hb : Below w.heap.size w w1) => rread_all l w1 g (HG.mv hb)
  have hne : ∀ i p, readS l = .error (i, p) → enoS i ≠ 0 := fun i p _ => enoS_ne i
  generalize readS l = r at *
  go_enter Tryz.func53, Tryz.ntmps53
  go_wp2_with fail
  refine H1.mono ?_
  rintro e w1 ⟨B1, h1⟩
  clear H1
  have H2 := H2 w1 B1
  have z1 := B1.size
  rcases r with ⟨i, p⟩ | x
  · have h1 : e = .returned (.tuple #[.pointer none, .int .i64 (enoS i), .int .i64 p]) := h1
    subst h1
    have hn0 := hne i p rfl
    have hn1 : ((enoS i : Int) != 0) = true := by simp; omega
    generalize hei : enoS i = ei at *
    have EI : Hid (enoS i = ei) := hei
    clear hei
    clear hne
    go_wp2_with fail
    refine H2.mono ?_
    rintro e w2 ⟨B2, h2⟩
    have h2 : e = .returned (.tuple #[.pointer none, .int .i64 (enoS i), .int .i64 p]) := h2
    rw [EI.out] at h2
    subst h2
    clear H2
    go_wp2_with fail
    go_ret
    have B3 := B1.trans (B2.mono z1)
    exact ⟨by simp, ⟨n, by omega, h.below B3⟩, B3.mono (by omega)⟩
  · obtain ⟨g1, rfl⟩ := h1
    clear hne
    go_wp2_with fail
    refine H2.mono ?_
    rintro e w2 ⟨B2, rb, pb, tb, lo2, gr, gh, la, lc, L, fr, RA, Mv, p, rfl, q⟩
    clear H2
    have B3 := B1.trans (B2.mono z1)
    have h3 := h.below B3
    obtain ⟨v, xs, hv, hown⟩ := h3.ex
    obtain ⟨va, vk, vc, rfl⟩ := ownsRow_form2 hown
    have HN := rnew_any (w := w2.drew) (by have := q.pl.len; omega : L.length ≤ 701) q.pl.at'
    have z2 : w.heap.size ≤ w2.heap.size := B3.size
    have hlow : Below wb w w2 := B3.mono (by omega)
    have hw2 : wb < w2.heap.size := by omega
    clear q B1 B2 B3 h SS HG
    obtain ⟨i0, hi, hz0, hz1, hz2⟩ := info_parts info_pair
    have hbd : n + 1 ≤ maxLen := by simp only [maxLen]; omega
    have hby : (n + 1) * 16 ≤ 140737488355328 := by omega
    obtain ⟨c, cf⟩ := blk_cl hv
    go_wp2_with fail
    go_region_law (first
      | (refine step_append_own rfl (.tmp 46) (.tmp 51) 55 rfl (wb + 1) 100 i0 (.agg #[.pointer none, .pointer none]) 2 16 Tryz.underlying55 hi hz0 hz1 hz2 rfl (by decide) (.slice va vk vc) n xs (by simp [Act.eval]) how4 ⟨w4.heap.size, 0, none⟩ 1 1 [ptr g1, ptr m] (by simp [Act.eval]) rfl (row_cells w4 #[ptr g1, ptr m] 100) (fun u hu => by simp at hu; rcases hu with rfl | rfl <;> rfl) hbd hby (by simp; omega) ?_; intro v' w6 hown6 hgrow hat; obtain ⟨ya, yk, yc, rfl⟩ := ownsRow_form2 hown6; have hP6 := (hgrow.block wb hzz hrow).trans hP5; obtain ⟨cq, cqf⟩ := blk_cl hP6)
      | (refine wanted_pos rfl ?_; go_simp; go_at_call 87; go_must (refine HN.mono ?_; rintro e w4 ⟨m, rfl, hm, B4⟩; have z4 := B4.size; have hP4 := (B4.block wb hw2).trans hv; have z5 : w2.heap.size ≤ w4.heap.size := z4; have how4 := own_mv (w' := w4.alloc (.cells #[ptr g1, ptr m] 100)) hown (fun g hg hl => (Below.heap_alloc _ _ _ (Nat.lt_of_lt_of_le hl z5)).trans (B4.block g hl)); have hP5 := (Below.heap_alloc w4 (.cells #[ptr g1, ptr m] 100) wb (by omega)).trans hP4; have hzz : wb < (w4.alloc (.cells #[ptr g1, ptr m] 100)).heap.size := (by simp; omega); have hrow : some wb ≠ (Value.slice va vk vc).ownBlock := (fun e => by have := (hown.lt _ e.symm).1; omega); obtain ⟨cp4, cpf4⟩ := blk_cl hP4; obtain ⟨cp5, cpf5⟩ := blk_cl hP5)))
    all_goals
      go_wp2_with fail
      go_ret
      refine ⟨rfl, ⟨n + 1, Nat.le_refl _, .slice ya yk yc, xs ++ [ptr g1, ptr m], (heap_setCell_same _ _ 0 _ _ _ hP6).trans rfl, own_mv hown6 (fun g hg _ => Below.heap_setCell _ _ _ _ ?_)⟩, ?_⟩
      · have := (hown6.lt g hg).1
        show g ≠ wb
        omega
      · have hb4 : Below wb w w4 := (bdrw hlow).trans (B4.mono (show wb ≤ w2.heap.size by omega))
        exact (Below.grown (hb4.alloc (show wb ≤ w4.heap.size by omega) _) (by simp; omega) hgrow (fun g hg => by have := (hown.lt g hg).1; omega)).setCell (Nat.le_refl _) _
end Go.Proofs.YtfddoieakfpagaaGreatDoor

namespace Go.Proofs.YtfddoieakfpagaaGreatDoor
open Go.RowKit

/-- A step of a script. -/
structure Sop where
  k : Int
  a : Int
  u : Int
  s : List UInt8
abbrev sopA (t : Sop) : List Value := [.int .i64 t.k, .int .i64 t.a, .int .u64 t.u, S t.s]
/-- A script in memory. -/
structure Sc (w : World) (sa : Option Addr) (n : Nat) (T : Nat → Sop) : Prop where
  at' : 0 < n → ∃ b o, sa = some ⟨b, o, none⟩ ∧ b < w.heap.size ∧ ∀ i, i < n → w.rangeAt b (o + i * 4) (sopA (T i))
  len : n ≤ 4000000000000
theorem Sc.move {w w' : World} {sa : Option Addr} {n : Nat} {T : Nat → Sop} (h : Sc w sa n T) (hb : Below w.heap.size w w') : Sc w' sa n T :=
  ⟨fun hn => by
    obtain ⟨b, o, e, hl, hr⟩ := h.at' hn
    exact ⟨b, o, e, Nat.lt_of_lt_of_le hl hb.size, fun i hi j v hv => (hb.cell (p := ⟨b, o + i * 4 + j, none⟩) hl).trans (hr i hi j v hv)⟩, h.len⟩
theorem ix_op (b o n cap k : Nat) (hk : k < n) : ∀ W : World, (Instr.indexAt 22 (.slice (some ⟨b, o, none⟩) n cap) (.int .i64 k)).run Tryz.prog W = .ok (.pointer (some ⟨b, o + k * 4, none⟩)) W := by
  intro W
  rw [run_indexAt_slice (h := by kernel_rfl), if_pos (by omega)]
  have : (sizeOf (Tryz.prog.elem 22)).run Tryz.prog W = .ok 4 W := by kernel_rfl
  rw [this]
  simp [Result.andThen, Addr.add]

set_option maxRecDepth 20000 in
set_option maxHeartbeats 1000000 in
/-- small ends, and changes nothing. -/
theorem small_any {w : World} {sa : Option Addr} {n cap : Nat} {T : Nat → Sop} (h : Sc w sa n T) :
    Calls Tryz.prog 15 #[.slice sa n cap] w fun e w' => (∃ b, e = .returned (.bool b)) ∧ Below w.heap.size w w' := by
  have hlen := h.len
  go_enter Tryz.func15, Tryz.ntmps15
  go_wp2_with fail
  go_loopg [3, 10] n (fun f v3 v10 wr => ∃ (z : Int) (k : Nat), v3 = .int .i64 z ∧ v10 = .int .i64 k ∧ k + f = n ∧ Below w.heap.size w wr)
  case atStart => exact ⟨n, 0, rfl, rfl, by omega, Below.refl _ _⟩
  case round =>
    obtain ⟨z, k, rfl, rfl, hk, HB⟩ := hrel
    have hz := HB.size
    by_cases hlt : k < n
    · have hc := h.move HB
      obtain ⟨b, o, rfl, hl, hr⟩ := hc.at' (by omega)
      have hrg := hr k hlt
      have hix := ix_op b o n cap k hlt
      clear hr hc
      generalize T k = t at *
      obtain ⟨tk, ta, tu, ts⟩ := t
      generalize o + k * 4 = ok at *
      go_wp2_with (refine wpList_load_mid rfl 28 (.tmp 12) rfl b ok rfl (sopA ⟨tk, ta, tu, ts⟩) _ hrg Tryz.underlying28 rfl (by kernel_rfl) ?_)
      · go_ret
        exact ⟨⟨_, rfl⟩, HB.alloc hz _⟩
      · go_roundg (gk - 1)
        case measure => omega
        case rel => exact ⟨_, k + 1, rfl, by simp, by omega, HB.alloc hz _⟩
    · go_wp2_with fail
      go_ret
      exact ⟨⟨_, rfl⟩, HB⟩

theorem stage_one (w : World) : Calls Tryz.prog 33 #[.int .i64 1] w fun e w' => e = .returned (.int .i64 1) ∧ w' = w := by
  go_enter Tryz.func33, Tryz.ntmps33
  go_wp2_with fail
  go_ret
  exact ⟨rfl, rfl⟩
theorem stage_other (k : Int) (hk : k ≠ 1) (w : World) : Calls Tryz.prog 33 #[.int .i64 k] w fun e w' => (∃ z : Int, 2 ≤ z ∧ z ≤ 4 ∧ e = .returned (.int .i64 z)) ∧ w' = w := by
  have h1 : (k == 1) = false := by simpa using hk
  clear hk
  cases h2 : (k == 2) with
  | true =>
    go_enter Tryz.func33, Tryz.ntmps33
    go_wp2_with fail
    go_ret
    exact ⟨⟨2, by omega, by omega, rfl⟩, rfl⟩
  | false =>
  cases h3 : (k == 3) with
  | true =>
    go_enter Tryz.func33, Tryz.ntmps33
    go_wp2_with fail
    go_ret
    exact ⟨⟨3, by omega, by omega, rfl⟩, rfl⟩
  | false =>
  cases h4 : (k == 4) with
  | true =>
    go_enter Tryz.func33, Tryz.ntmps33
    go_wp2_with fail
    go_ret
    exact ⟨⟨3, by omega, by omega, rfl⟩, rfl⟩
  | false =>
    go_enter Tryz.func33, Tryz.ntmps33
    go_wp2_with fail
    go_ret
    exact ⟨⟨4, by omega, by omega, rfl⟩, rfl⟩

set_option maxRecDepth 20000 in
set_option maxHeartbeats 1000000 in
/-- A step that loads. -/
theorem wstep_load (HL : LoadOk) {w : World} {wb n g : Nat} {A : Nat → Addr} (h : Wo w wb n) (SS : Sent w A) (HG : Wd w g) (hn : n ≤ 4000000000000) (a u : Int) (l : List UInt8) :
    Calls Tryz.prog 34 #[ptr wb, .agg #[.int .i64 1, .int .i64 a, .int .u64 u, S l]] w fun e w' => e = .returned (.bool true) ∧ (∃ n', n' ≤ n + 1 ∧ Wo w' wb n') ∧ Below wb w w' := by
  have hwb : wb < w.heap.size := by obtain ⟨v, xs, h1, _⟩ := h.ex; exact (Array.getElem?_eq_some_iff.1 h1).1
  have B0 := (Below.refl w.heap.size w).alloc (Nat.le_refl _) (.cells #[.int .i64 1, .int .i64 a, .int .u64 u, S l] 28)
  have HX := wload_any HL (h.below B0) (SS.move B0) (HG.mv B0) hn l
  clear SS HG
  go_enter Tryz.func34, Tryz.ntmps34
  go_wp2_with fail
  refine HX.mono ?_
  rintro e w1 ⟨rfl, hw, hb⟩
  go_wp2_with fail
  go_ret
  exact ⟨rfl, hw, (B0.mono (by omega)).trans hb⟩
end Go.Proofs.YtfddoieakfpagaaGreatDoor

namespace Go.Proofs.YtfddoieakfpagaaGreatDoor
open Go.RowKit

set_option maxRecDepth 20000 in
set_option maxHeartbeats 2000000 in
theorem upto_load (HL : LoadOk) {w : World} {g : Nat} {A : Nat → Addr} (SS : Sent w A) (HG : Wd w g) {sa : Option Addr} {n cap : Nat} {T : Nat → Sop} (h : Sc w sa n T) :
    Calls Tryz.prog 16 #[.slice sa n cap, .int .i64 1] w fun e w' => e = .returned (.int .i64 (-1)) ∧ Below w.heap.size w w' := by
  have hlen := h.len
  have B0 := (Below.refl w.heap.size w).alloc (Nat.le_refl _) (.cells #[nilV, nilV, .bool false] 58)
  have W0 : Wo (w.alloc (.cells #[nilV, nilV, .bool false] 58)) w.heap.size 0 := ⟨nilV, [], heap_new rfl, World.ownsRow_nil _ _ _ _⟩
  go_enter Tryz.func16, Tryz.ntmps16
  go_wp2_with fail
  go_loopg [12] n (fun f v12 wr => ∃ k m : Nat, v12 = .int .i64 k ∧ k + f = n ∧ m ≤ k ∧ Wo wr w.heap.size m ∧ Below w.heap.size w wr)
  case atStart => exact ⟨0, 0, rfl, by omega, by omega, W0, B0⟩
  case round =>
    obtain ⟨k, m, rfl, hk, hm, HW, HB⟩ := hrel
    have hz := HB.size
    have hwz : w.heap.size < wr.heap.size := by obtain ⟨v, xs, h1, _⟩ := HW.ex; exact (Array.getElem?_eq_some_iff.1 h1).1
    clear B0 W0
    by_cases hlt : k < n
    · have hc := h.move HB
      obtain ⟨b, o, rfl, hl, hr⟩ := hc.at' (by omega)
      have hrg := hr k hlt
      have hix := ix_op b o n cap k hlt
      clear hr hc
      generalize T k = t at *
      obtain ⟨tk, ta, tu, ts⟩ := t
      generalize o + k * 4 = ok at *
      have B1 := HB.alloc hz (.cells #[.int .i64 tk, .int .i64 ta, .int .u64 tu, S ts] 28)
      have b1 : (wr.alloc (.cells #[.int .i64 tk, .int .i64 ta, .int .u64 tu, S ts] 28)).heap[wr.heap.size]? = some (.cells #[.int .i64 tk, .int .i64 ta, .int .u64 tu, S ts] 28) := heap_new rfl
      have W1 := HW.below ((Below.refl wr.heap.size wr).alloc (Nat.le_refl _) (.cells #[.int .i64 tk, .int .i64 ta, .int .u64 tu, S ts] 28))
      by_cases hk1 : tk = 1
      · subst hk1
        have HS := wstep_load HL W1 (SS.move B1) (HG.mv B1) (by omega) ta tu ts
        have HO := stage_one (wr.alloc (.cells #[.int .i64 1, .int .i64 ta, .int .u64 tu, S ts] 28))
        clear SS HG
        go_wp2_with (refine wpList_load_mid rfl 28 (.tmp 15) rfl b ok rfl (sopA ⟨1, ta, tu, ts⟩) _ hrg Tryz.underlying28 rfl (by kernel_rfl) ?_)
        refine HO.mono ?_
        rintro e w' ⟨rfl, rfl⟩
        go_wp2_with fail
        refine HO.mono ?_
        rintro e w' ⟨rfl, rfl⟩
        go_wp2_with fail
        refine HS.mono ?_
        rintro e w2 ⟨rfl, ⟨m', hm', W2⟩, B2⟩
        go_wp2_with fail
        go_roundg (gk - 1)
        case measure => omega
        case rel => exact ⟨k + 1, m', by simp, by omega, by omega, W2, B1.trans B2⟩
      · have HO := stage_other tk hk1 (wr.alloc (.cells #[.int .i64 tk, .int .i64 ta, .int .u64 tu, S ts] 28))
        have H1 := stage_one (wr.alloc (.cells #[.int .i64 tk, .int .i64 ta, .int .u64 tu, S ts] 28))
        clear SS HG hk1
        go_wp2_with (refine wpList_load_mid rfl 28 (.tmp 15) rfl b ok rfl (sopA ⟨tk, ta, tu, ts⟩) _ hrg Tryz.underlying28 rfl (by kernel_rfl) ?_)
        refine HO.mono ?_
        rintro e w' ⟨⟨z, hz2, hz4, rfl⟩, rfl⟩
        go_wp2_with fail
        refine H1.mono ?_
        rintro e w' ⟨rfl, rfl⟩
        have hgt : decide (z > 1) = true := by simp; omega
        go_wp2_with fail
        go_roundg (gk - 1)
        case measure => omega
        case rel => exact ⟨k + 1, m, by simp, by omega, by omega, W1, B1⟩
    · go_wp2_with fail
      go_ret
      exact ⟨rfl, HB⟩

set_option maxRecDepth 20000 in
/-- Every Load is as the document has it. -/
theorem loads_any (HL : LoadOk) {w : World} {g : Nat} {A : Nat → Addr} (SS : Sent w A) (HG : Wd w g) {sa : Option Addr} {n cap : Nat} {T : Nat → Sop} (h : Sc w sa n T) :
    Calls Tryz.prog 3 #[.slice sa n cap] w fun e w' => e = .returned (.bool true) ∧ Below w.heap.size w w' := by
  go_enter Tryz.func3, Tryz.ntmps3
  go_wp2_with fail
  refine (small_any h).mono ?_
  rintro e w1 ⟨⟨sb, rfl⟩, B1⟩
  have HX := upto_load HL (SS.move B1) (HG.mv B1) (cap := cap) (h.move B1)
  have z1 := B1.size
  clear SS HG
  cases sb with
  | false =>
    go_wp2_with fail
    go_ret
    exact ⟨rfl, B1⟩
  | true =>
    go_wp2_with fail
    refine HX.mono ?_
    rintro e w2 ⟨rfl, B2⟩
    go_wp2_with fail
    go_ret
    exact ⟨rfl, B1.trans (B2.mono z1)⟩
end Go.Proofs.YtfddoieakfpagaaGreatDoor
