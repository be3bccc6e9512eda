import Derived.Test.YtippenbbibfmdabDoorW13
namespace Go.Proofs.YtippenbbibfmdabDoor
open Go.RowKit

set_option maxRecDepth 20000 in
set_option maxHeartbeats 2000000 in
theorem blk_zero : BlkC 0 := by
  intro w b l t bl lo X Y h h8 hlo
  have hgt := h.gt
  obtain ⟨c0, c1, c2, c3, c4, c5⟩ := h.rd.cells
  by_cases hb : t.txt = [123]
  · have HE : Hid (blockS l 0 lo t = .error (true, t.pos)) := by show _ = _; unfold blockS; rw [if_pos hb]
    generalize blockS l 0 lo t = r at *
    have b1 : (t.txt == [123]) = true := by simp [hb]
    have b2 : ((bl : Int) == 8) = true := by rw [beq_iff_eq]; omega
    have hg := h.deep
    clear hb
    go_enter Tryd.func52, Tryd.ntmps52
    go_wp2_with fail
    refine (leave_r Y h).mono ?_
    rintro e we ⟨f, rfl, hf2⟩
    go_wp2_with fail
    rw [HE.out]
    exact ⟨rfl, f, rfl, hf2⟩
  · have HE : Hid (blockS l 0 lo t = .error (false, t.pos)) := by show _ = _; unfold blockS; rw [if_neg hb]
    generalize blockS l 0 lo t = r at *
    have b1 : (t.txt == [123]) = false := by simpa using hb
    go_enter Tryd.func52, Tryd.ntmps52
    go_wp2_with fail
    refine (need_no [123] h hb).mono ?_
    rintro e we ⟨f, rfl, hf2⟩
    go_wp2_with fail
    rw [HE.out]
    exact ⟨rfl, f, rfl, hf2⟩

theorem ownsRow_zero {w : World} {base : Nat} {e : TypeId} {size n : Nat} {v : Value} {xs : List Value} (h : w.ownsRow base e size v n xs) : w.ownsRow 0 e size v n xs := by
  refine ⟨h.1, ?_⟩
  rcases h.2 with h0 | ⟨g, cap, cur, hv, hg, r⟩
  · exact Or.inl h0
  · exact Or.inr ⟨g, cap, cur, hv, Nat.zero_le _, r⟩
theorem bindR_assoc {α β γ : Type} (r : PR α) (f : α → Tok → PR β) (g : β → Tok → PR γ) : bindR (bindR r f) g = bindR r fun x t => bindR (f x t) g := by
  unfold bindR; cases r with
  | error e => rfl
  | ok q => rfl

theorem ownsRow_moveB {w w' : World} {base : Nat} {e : TypeId} {size n : Nat} {v : Value} {xs : List Value} (h : w.ownsRow base e size v n xs) (hb : ∀ g, v.ownBlock = some g → g < w.heap.size → w'.heap[g]? = w.heap[g]?) : w'.ownsRow base e size v n xs := by
  refine ⟨h.1, ?_⟩
  rcases h.2 with h0 | ⟨g, cap, cur, hv, hg, hh, r⟩
  · exact Or.inl h0
  · exact Or.inr ⟨g, cap, cur, hv, hg, by rw [hb g (by rw [hv]; rfl) (Array.getElem?_eq_some_iff.1 hh).1]; exact hh, r⟩
theorem RB.grown {w0 w w' : World} {b : Nat} {l : List UInt8} {t : Tok} {bl lo : Nat} {X Y : Value} (h : RB w0 w b l t bl lo X Y) {row : Option Nat} (hg : w.grownBy w' row) (hr : ∀ k, row = some k → w0.heap.size ≤ k) : RB w0 w' b l t bl lo X Y := by
  have hz := h.z
  have hk := h.k.size
  have hbl : ∀ k, k < w0.heap.size → w'.heap[k]? = w.heap[k]? := fun k hlt => hg.block k (by omega) (fun e => by have := hr k e.symm; omega)
  refine ⟨⟨?_, ?_, ?_, h.r.nsyn, h.r.ndeep, h.r.len, h.r.tk⟩, ⟨hg.os.trans h.k.os, hg.tape.trans h.k.tape, hg.output.trans h.k.output, Nat.le_trans hk hg.size, fun k hlt hn => (hbl k hlt).trans (h.k.block k hlt hn)⟩, h.z⟩
  · exact (hbl b hz.2.2).trans h.r.rd
  · exact (World.cell?_of_block (w := w) (hbl _ hz.1)).trans h.r.syn
  · exact (World.cell?_of_block (w := w) (hbl _ hz.2.1)).trans h.r.deep
theorem row_cells (w : World) (A : Array Value) (T : TypeId) : ∀ j u, A.toList[j]? = some u → (w.alloc (.cells A T)).cell? ((⟨w.heap.size, 0, none⟩ : Addr).add j) = some u := by
  intro j u hj
  have hadd : (⟨w.heap.size, 0, none⟩ : Addr).add j = ⟨w.heap.size, j, none⟩ := by unfold Addr.add; split <;> simp_all
  rw [hadd, cell_of_row _ _ j A T (0, 0) (heap_new rfl)]
  simpa using hj
theorem stA_one (s : St) (a : Option Addr) (n c : Nat) (a' : Option Addr) (n' c' : Nat) : ∀ u ∈ (stA s (.slice a n c) (.slice a' n' c')).toList, u.oneCell' = true := by
  have h : (stA s (.slice a n c) (.slice a' n' c')).toList.all (·.oneCell') = true := by simp [Value.oneCell']
  exact fun u hu => List.all_eq_true.1 h u hu
theorem info_st : (Tryd.prog.info? 136).map (fun i => (i.zero, i.size, i.bytes)) = some (some (.agg (stA (stW []) nilV nilV)), 25, 288) := by kernel_rfl
theorem flatR_snoc (rows : List (St × Value × Value)) (r : St × Value × Value) : flatR (rows ++ [r]) = flatR rows ++ (stA r.1 r.2.1 r.2.2).toList := by
  simp [flatR]

set_option maxRecDepth 20000 in
set_option maxHeartbeats 4000000 in
theorem blk_succ (d : Nat) (ih : BlkC d) : BlkC (d + 1) := by
  intro w b l t bl lo X Y h h8 hlo
  have hgt := h.gt
  obtain ⟨c0, c1, c2, c3, c4, c5⟩ := h.rd.cells
  by_cases hb : t.txt = [123]
  · have HQ : Hid (@Eq (PR (List (St × BT d × BT d))) (blockS l (d + 1) lo t) (stmtsS (stmtS (blockS l d) (BTnil d) l lo) l (l.length + 1) (nx l t))) := blockS_yes l d lo t hb
    generalize blockS l (d + 1) lo t = r at *
    have b1 : (t.txt == [123]) = true := by simp [hb]
    have b2 : ((bl : Int) == 8) = false := by rw [beq_eq_false_iff_ne]; omega
    have hbl : bl < 8 := by omega
    go_enter Tryd.func52, Tryd.ntmps52
    go_wp2_with fail
    refine (need_yes [123] h hb).mono ?_
    rintro e w1 ⟨rfl, R1⟩
    clear b1 b2 c0 c1 c2 c3 c4 c5 hb
    obtain ⟨c0, c1, c2, c3, c4, c5⟩ := R1.r.rd.cells
    have cfz := R1.r.rd.frozen
    go_wp2_with fail
    have H1 : RB w (w1.setCell ⟨b, 4, none⟩ (.int .i64 ((bl : Int) + 1))) b l (nx l t) (bl + 1) lo X Y := R1.putB (bl + 1)
    clear c0 c1 c2 c3 c4 c5 cfz
    generalize w1.setCell ⟨b, 4, none⟩ (.int .i64 ((bl : Int) + 1)) = w2 at *
    clear R1
    go_loopg [3] (l.length + 1) (fun f v wr => ∃ (rows : List (St × Value × Value)) (done : List (St × BT d × BT d)) (t1 : Tok), Hid (@Eq (PR (List (St × BT d × BT d))) r (bindR (stmtsS (stmtS (blockS l d) (BTnil d) l lo) l f t1) fun ys t' => .ok (done ++ ys, t'))) ∧ l.length + 1 ≤ f + t1.pos ∧ rows.length + f ≤ l.length + 1 ∧ RB w wr b l t1 (bl + 1) lo X Y ∧ RelRows (SlR d wr (fun g => w.heap.size ≤ g ∧ v.ownBlock ≠ some g)) rows done ∧ wr.ownsRow w.heap.size 136 25 v rows.length (flatR rows))
    case atStart =>
      refine ⟨[], [], nx l t, ?_, by omega, by simp, H1, trivial, World.ownsRow_nil _ _ _ _⟩
      show _ = _
      refine HQ.out.trans ?_
      unfold bindR
      split <;> rename_i h <;> simp [h]
    case round =>
      obtain ⟨rows, done, t1, HR, hf, hn, hR, hrel, hown⟩ := hrel
      have hpos := hR.r.bnd
      have hlen := hR.r.len
      cases gk with
      | zero => exfalso; omega
      | succ k =>
      by_cases hr : t1.txt = [125]
      · go_wp2_with (go_at_call 56; refine (take_yes [125] hR.r hr).mono ?_; rintro e w3 ⟨rfl, R3⟩; obtain ⟨c0, c1, c2, c3, c4, c5⟩ := R3.r.rd.cells; have cfz := R3.r.rd.frozen)
        have HE : Hid (@Eq (PR (List (St × BT d × BT d))) r (.ok (done, nx l t1))) := by
          show _ = _
          refine HR.out.trans ?_
          unfold stmtsS; rw [if_pos hr]; simp [bindR]
        clear c0 c1 c2 c3 c4 c5 cfz
        go_ret
        rw [HE.out]
        refine ⟨u3, rfl, (hR.trans R3).putB bl, rows, ?_, ?_, fun g hg => (hown.lt g hg).1⟩
        · refine RelRows.mono (fun v x hv => ?_) _ _ hrel
          refine SlR.mono d (fun g (hg : w.heap.size ≤ g ∧ u3.ownBlock ≠ some g) => hg.1) v x (SlR.move d (fun g hg hl => ?_) v x hv)
          exact (Below.heap_setCell _ _ _ _ (by show g ≠ b; omega)).trans (R3.k.block g hl (by omega))
        · refine ownsRow_move (ownsRow_zero hown) (fun g hg hl => ?_)
          have := (hown.lt g hg).1
          exact (Below.heap_setCell _ _ _ _ (by show g ≠ b; omega)).trans (R3.k.block g hl (by omega))
      · go_wp2_with fail
        refine (take_no [125] hR.r hr).mono ?_
        rintro e w3 ⟨rfl, rfl⟩
        go_wp2_with fail
        cases hv : stmtS (blockS l d) (BTnil d) l lo t1 with
        | error q =>
          obtain ⟨qd, pp⟩ := q
          refine (stmt_er ih hR.r (by omega) hlo hv).mono ?_
          rintro e we h3
          obtain ⟨f, rfl, hf2⟩ := h3.from hR.k
          have HE : Hid (@Eq (PR (List (St × BT d × BT d))) r (.error (qd, pp))) := by
            show _ = _
            refine HR.out.trans ?_
            unfold stmtsS; rw [if_neg hr, hv]; rfl
          clear h3 HQ hv
          go_wp2_with fail
          rw [HE.out]
          exact ⟨rfl, f, rfl, hf2⟩
        | ok q =>
          obtain ⟨x, t2⟩ := q
          refine (stmt_ok ih hR.r (by omega) hlo hv).mono ?_
          rintro e w4 ⟨v1, v2, rfl, R4, S1, S2⟩
          obtain ⟨va, vn, vc, rfl⟩ := SlR.form d _ _ S1
          obtain ⟨ua, un, uc, rfl⟩ := SlR.form d _ _ S2
          have hadv := stmt_m (fun lo t x t' => block_m d lo t x t') hv
          have HS : Hid (@Eq (PR (List (St × BT d × BT d))) r (bindR (stmtsS (stmtS (blockS l d) (BTnil d) l lo) l k t2) fun ys t' => .ok ((done ++ [x]) ++ ys, t'))) := by
            show _ = _
            refine HR.out.trans ?_
            conv => lhs; unfold stmtsS
            rw [if_neg hr, hv]
            show bindR (bindR (stmtsS (stmtS (blockS l d) (BTnil d) l lo) l k t2) _) _ = _
            rw [bindR_assoc]
            simp only [bindR, List.append_assoc, List.singleton_append]
          have z3 := R4.k.size
          have zw := hR.k.size
          have how4 : w4.ownsRow w.heap.size 136 25 u3 rows.length (flatR rows) := ownsRow_moveB hown (fun g hg hl => R4.k.block g hl (by have := (hown.lt g hg).1; omega))
          have hold : RelRows (SlR d w4 (fun g => w.heap.size ≤ g ∧ g < w3.heap.size ∧ u3.ownBlock ≠ some g)) rows done := by
            refine RelRows.mono (fun v x hv => ?_) _ _ hrel
            refine SlR.move d (fun g hg hl => R4.k.block g (by omega) (by omega)) v x ?_
            exact SlR.mono d (fun g hg => ⟨hg.1.1, hg.2, hg.1.2⟩) v x (SlR.there d v x hv)
          have hlt3 : ∀ g, u3.ownBlock = some g → w.heap.size ≤ g ∧ g < w3.heap.size := fun g hg => hown.lt g hg
          have H4 := hR.trans R4
          clear HR hv hrel hown hR R4 HQ H1
          dsimp only
          iterate 4 go_step
          obtain ⟨i0, hi, hz0, hz1, hz2⟩ := info_parts info_st
          refine wpList_append_own_at (P := Tryd.prog) _ rfl (.tmp 32) (.tmp 35) 75 rfl w.heap.size 136 i0 (.agg (stA (stW []) nilV nilV)) 25 288 Tryd.underlying75 hi hz0 hz1 hz2 rfl (by decide) u3 rows.length (flatR rows) rfl (ownsRow_moveB how4 (fun g hg hl => Below.heap_alloc _ _ _ hl)) ⟨w4.heap.size, 0, none⟩ 1 1 (stA x.1 (.slice va vn vc) (.slice ua un uc)).toList rfl rfl (row_cells _ _ _) (stA_one _ _ _ _ _ _ _) (by simp only [maxLen]; omega) (by omega) (by simp; omega) ?_
          intro v' w5 hown5 hgrow hnil hat
          go_wp2_with fail
          go_roundg k
          case measure => omega
          case rel =>
            have hag : ∀ g, g < w4.heap.size → u3.ownBlock ≠ some g → w5.heap[g]? = w4.heap[g]? := fun g hl hne => (hgrow.block g (by simp; omega) (fun e => hne e.symm)).trans (Below.heap_alloc _ _ _ hl)
            have hvn : ∀ g, g < w4.heap.size → u3.ownBlock ≠ some g → v'.ownBlock ≠ some g := fun g hl hne e => by
              rcases hat with h1 | h1
              · exact hne (h1.symm.trans e)
              · rw [h1] at e; simp at e; omega
            refine ⟨rows ++ [(x.1, .slice va vn vc, .slice ua un uc)], done ++ [x], t2, HS, by omega, by simp; omega, (H4.alloc _).grown hgrow (fun g hg => (hlt3 g hg).1), ?_, ?_⟩
            · refine RelRows.snoc (x.1, .slice va vn vc, .slice ua un uc) x rfl ?_ ?_ rows done ?_
              · refine SlR.mono d (fun g hg => ⟨by omega, hvn g hg.2 (fun e => by have := hlt3 g e; omega)⟩) _ _ (SlR.move d (fun g hg hl => hag g hl (fun e => by have := hlt3 g e; omega)) _ _ (SlR.there d _ _ S1))
              · refine SlR.mono d (fun g hg => ⟨by omega, hvn g hg.2 (fun e => by have := hlt3 g e; omega)⟩) _ _ (SlR.move d (fun g hg hl => hag g hl (fun e => by have := hlt3 g e; omega)) _ _ (SlR.there d _ _ S2))
              · refine RelRows.mono (fun v x hv => ?_) _ _ hold
                exact SlR.mono d (fun g hg => ⟨hg.1, hvn g (by omega) hg.2.2⟩) v x (SlR.move d (fun g hg hl => hag g hl hg.2.2) v x hv)
            · rw [flatR_snoc]; simpa using hown5
  · have HE : Hid (@Eq (PR (List (St × BT d × BT d))) (blockS l (d + 1) lo t) (.error (false, t.pos))) := blockS_no l d lo t hb
    generalize blockS l (d + 1) lo t = r at *
    have b1 : (t.txt == [123]) = false := by simpa using hb
    go_enter Tryd.func52, Tryd.ntmps52
    go_wp2_with fail
    refine (need_no [123] h hb).mono ?_
    rintro e we ⟨f, rfl, hf2⟩
    go_wp2_with fail
    rw [HE.out]
    exact ⟨rfl, f, rfl, hf2⟩

theorem blk_all : ∀ d, BlkC d
  | 0 => blk_zero
  | d + 1 => blk_succ d (blk_all d)
end Go.Proofs.YtippenbbibfmdabDoor
