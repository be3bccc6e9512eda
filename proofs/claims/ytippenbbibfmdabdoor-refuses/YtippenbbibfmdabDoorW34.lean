import Derived.Test.YtippenbbibfmdabDoorW33
namespace Go.Proofs.YtippenbbibfmdabDoor
open Go.RowKit

/-- What Read answers: the sentinel's number and the place, or the policy. -/
def readS (l : List UInt8) : Except (Nat × Nat) (List Dc × List (Nat × NP × BT 8)) :=
  if l.length > 700 then .error (0, 0)
  else match policyS l (tokAt l 0) with
    | .error (q, p) => .error (if q then 1 else 10, p)
    | .ok (x, _) => match (checkS x.1 x.2).first with
      | some e => .error e
      | none => .ok x

def OutD (w : World) (E : Nat → Value) (r : Except (Nat × Nat) (List Dc × List (Nat × NP × BT 8))) (e : Ending) (w' : World) : Prop :=
  match r with
  | .ok x => ∃ n vd vr rows, e = .returned (.tuple #[ptr n, .nilIface]) ∧ Below w.heap.size w w' ∧ w.heap.size ≤ n ∧ w'.heap[n]? = some (.cells #[vd, vr] 67) ∧ w'.ownsRow (n + 1) 73 6 vd x.1.length (flatD x.1) ∧ w'.ownsRow (n + 1) 77 4 vr rows.length (flatU rows) ∧ RelU (SlR 8 w' (fun g => n + 1 ≤ g)) rows x.2
  | .error (i, p) => ∃ f, e = .returned (.tuple #[.pointer none, .iface 42 (.pointer (some ⟨f, 0, none⟩))]) ∧ Below w.heap.size w w' ∧ w.heap.size ≤ f ∧ w'.heap[f]? = some (.cells #[.iface 143 (E i), .int .i64 p] 44)

theorem bdrw {lo : Nat} {a w : World} (h : Below lo a w) : Below lo a w.drew := ⟨h.os, h.tape, h.output, h.size, h.block⟩

set_option maxRecDepth 20000 in
set_option maxHeartbeats 1000000 in
theorem read_any (l : List UInt8) (w : World) (E : Nat → Value) (gl : ∀ i, i < 11 → i ≠ 9 → w.cell? ⟨i, 0, none⟩ = some (.iface 143 (E i))) :
    Calls Tryd.prog 7 #[S l] w fun e w' => OutD w E (readS l) e w' := by
  have g0 := gl 0 (by omega) (by omega)
  have g1 := gl 1 (by omega) (by omega)
  have g10 := gl 10 (by omega) (by omega)
  generalize hr : readS l = r
  have HR : Hid (readS l = r) := hr
  clear hr
  by_cases hl : l.length > 700
  · have e1 : r = .error (0, 0) := by rw [← HR.out]; unfold readS; rw [if_pos hl]
    clear HR
    subst e1
    go_enter Tryd.func7, Tryd.ntmps7
    go_wp2_with fail
    go_region
    all_goals go_wp2_with fail
    all_goals exact bodyPost_ret (v := .tuple #[.pointer none, .iface 42 (.pointer (some ⟨w.heap.size, 0, none⟩))]) (by simp [results, Tryd.results7, go_sem]) rfl ⟨w.heap.size, rfl, bdrw ((Below.refl _ w).alloc (Nat.le_refl _) _), Nat.le_refl _, heap_new rfl⟩
  · have HP := parse_any l w (E 10) (E 1) (by omega) g10 g1
    have hG := gd_policy (l := l) (by omega) (t := tokAt l 0) (nx_ok l 0 (Nat.zero_le _))
    have HR : Hid (r = match policyS l (tokAt l 0) with
      | .error (q, p) => .error (if q then 1 else 10, p)
      | .ok (x, _) => match (checkS x.1 x.2).first with
        | some e => .error e
        | none => .ok x) := by show _ = _; rw [← HR.out]; unfold readS; rw [if_neg hl]
    generalize policyS l (tokAt l 0) = pr at *
    go_enter Tryd.func7, Tryd.ntmps7
    go_wp2_with fail
    refine HP.mono ?_
    clear HP
    rcases pr with ⟨q, p⟩ | ⟨x, t'⟩
    · rintro e w1 ⟨f, rfl, B1, hf, hF⟩
      go_wp2_with fail
      have e1 : r = .error (if q = true then 1 else 10, p) := HR.out
      subst e1
      refine bodyPost_ret (v := .tuple #[.pointer none, .iface 42 (.pointer (some ⟨f, 0, none⟩))]) (by simp [results, Tryd.results7, go_sem]) rfl ⟨f, rfl, B1, hf, ?_⟩
      rw [hF]
      cases q <;> rfl
    · rintro e w1 ⟨n, vd, vr, rows, rfl, B1, hn, hP, hod, hou, hrel⟩
      obtain ⟨⟨q1, q2, q3, q4⟩, _⟩ := hG x t' rfl
      have gl1 : ∀ i, 1 < i → i < 9 → w1.cell? ⟨i, 0, none⟩ = some (.iface 143 (E i)) := fun i h1 h2 => (B1.cell (p := ⟨i, 0, none⟩) (cell_lt (gl i (by omega) (by omega)))).trans (gl i (by omega) (by omega))
      have z10 : 10 < w.heap.size := cell_lt g10
      have z1 := B1.size
      have HR : Hid (r = match (checkS x.1 x.2).first with
        | some e => .error e
        | none => .ok x) := HR
      have HC := check_any n vd vr x.1 rows x.2 E hP hod hou hrel gl1 (by omega) q1 q2 q3 q4
      generalize checkS x.1 x.2 = sc at *
      go_wp2_with fail
      refine HC.mono ?_
      clear HC
      rintro e w2 ⟨v, rfl, hv, B2⟩
      cases hf : sc.first with
      | none =>
        rw [hf] at hv HR
        have hv : v = .nilIface := hv
        have e1 : r = .ok x := HR.out
        subst hv e1
        go_wp2_with fail
        refine bodyPost_ret (v := .tuple #[ptr n, .nilIface]) (by simp [results, Tryd.results7, go_sem]) rfl ⟨n, vd, vr, rows, rfl, B1.trans (B2.mono z1), hn, (B2.block _ (Array.getElem?_eq_some_iff.1 hP).1).trans hP, ownsRow_moveB hod (fun g _ hl => B2.block g hl), ownsRow_moveB hou (fun g _ hl => B2.block g hl), ?_⟩
        exact RelU.mono (fun v x h => SlR.move 8 (fun g _ hl => B2.block g hl) v x h) _ _ hrel
      | some ip =>
        rw [hf] at hv HR
        obtain ⟨i, p⟩ := ip
        obtain ⟨f, rfl, hlo, hF⟩ := hv
        have e1 : r = .error (i, p) := HR.out
        subst e1
        go_wp2_with fail
        exact bodyPost_ret (v := .tuple #[.pointer none, .iface 42 (.pointer (some ⟨f, 0, none⟩))]) (by simp [results, Tryd.results7, go_sem]) rfl ⟨f, rfl, B1.trans (B2.mono z1), by omega, hF⟩
end Go.Proofs.YtippenbbibfmdabDoor
