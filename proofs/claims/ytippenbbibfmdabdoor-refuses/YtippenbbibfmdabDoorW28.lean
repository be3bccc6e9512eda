import Derived.Test.YtippenbbibfmdabDoorW27
import Derived.Deep.MidRow
namespace Go.Proofs.YtippenbbibfmdabDoor
open Go.RowKit

theorem cblk_zero : CBlk 0 := by
  intro w lo c nb rb E s v x h hv _
  have hv : v = nilV := hv
  subst hv
  go_enter Tryd.func42, Tryd.ntmps42
  go_wp2_with fail
  go_loopg [8] 0 (fun f i wr => wr = w ∧ i = .int .i64 0)
  case atStart => exact ⟨rfl, rfl⟩
  case round =>
    obtain ⟨rfl, rfl⟩ := hrel
    go_wp2_with fail
    exact end0 rfl rfl ⟨rfl, h, Kp.refl _ _ _ _⟩

/-- Row k of rows that lie one behind the other. -/
theorem flatR_at : ∀ (rows : List (St × Value × Value)) (k : Nat) (r : St × Value × Value), rows[k]? = some r → ∀ j u, (stA r.1 r.2.1 r.2.2).toList[j]? = some u → (flatR rows)[k * 25 + j]? = some u := by
  intro rows
  induction rows with
  | nil => intro k r h; simp at h
  | cons q qs ih =>
    intro k r h j u hu
    have hj : j < 25 := by
      have := (List.getElem?_eq_some_iff.1 hu).1
      simpa using this
    cases k with
    | zero =>
      simp at h
      subst h
      simp only [flatR, List.flatMap_cons, Nat.zero_mul, Nat.zero_add]
      rw [List.getElem?_append_left (by simpa using hj)]
      exact hu
    | succ k =>
      simp only [flatR, List.flatMap_cons]
      rw [List.getElem?_append_right (by simp; omega)]
      have := ih k r (by simpa using h) j u hu
      simp only [flatR] at this
      rw [← this]
      congr 1
      simp
      omega

theorem RelRows.at {β : Type} {P : Value → β → Prop} : ∀ (rs : List (St × Value × Value)) (xs : List (St × β × β)), RelRows P rs xs → ∀ k, k < rs.length → ∃ st y z ty tz, rs[k]? = some (st, y, z) ∧ xs[k]? = some (st, ty, tz) ∧ xs.drop k = (st, ty, tz) :: xs.drop (k + 1) ∧ P y ty ∧ P z tz
  | [], [], _, k, h => by simp at h
  | (st, y, z) :: rs, (st', ty, tz) :: xs, ⟨a, b, c, d⟩, 0, _ => ⟨st, y, z, ty, tz, rfl, by simp; exact a.symm, by simp; exact a.symm, b, c⟩
  | (st, y, z) :: rs, (st', ty, tz) :: xs, ⟨a, b, c, d⟩, k + 1, h => by
    obtain ⟨s1, y1, z1, t1, t2, h1, h2, h3, h4⟩ := RelRows.at rs xs d k (by simpa using h)
    exact ⟨s1, y1, z1, t1, t2, by simpa using h1, by simpa using h2, by simpa using h3, h4⟩

theorem smallL.at {β : Type} {P : β → Prop} : ∀ (xs : List (St × β × β)), smallL P xs → ∀ (k : Nat) (r : St × β × β), xs[k]? = some r → r.1.small ∧ P r.2.1 ∧ P r.2.2
  | [], _, k, r, h => by simp at h
  | q :: xs, ⟨a, b, c, d⟩, 0, r, h => by simp at h; subst h; exact ⟨a, b, c⟩
  | q :: xs, ⟨a, b, c, d⟩, k + 1, r, h => smallL.at xs d k r (by simpa using h)

/-- A store of a whole struct into the block that has just come: the world behind it is told by what lies in it alone. -/
theorem store_in {w1 : World} {ops : Array Oper} {rest : List Oper} {o : Oper} {a : Act} {Q : Exit → Act → World → Prop} (hgd : o.guard = none) (T : TypeId) (x y : Operand) (ho : o.op = .store T x y)
    (A : Array Value) {Z' : Array Value} (hx : a.eval x = .pointer (some ⟨w1.heap.size, 0, none⟩)) (hy : a.eval y = .agg A) (hi : (Tryd.prog.info? T).map (·.size) = some A.size) (hs : Z'.size = A.size) (h1 : A.all (·.oneCell') = true)
    (h : ∀ W', Below w1.heap.size w1 W' → W'.heap[w1.heap.size]? = some (.cells A T) → w1.heap.size < W'.heap.size → wpList Tryd.prog ops Q rest (a.put o.dst undef) W') :
    wpList Tryd.prog ops Q (o :: rest) a (w1.alloc (.cells Z' T)) :=
  wpList_store_row hgd T x y ho w1.heap.size A hx hy T Z' (heap_new rfl) hi hs h1 (h _ ⟨rfl, rfl, rfl, by simp [World.setRow], fun k hk => (setRow_other _ _ _ _ (by omega)).trans (Below.heap_alloc _ _ _ hk)⟩ (setRow_heap _ _ _ _ _ _ (heap_new rfl)) (by simp [World.setRow]))

set_option maxRecDepth 20000 in
set_option maxHeartbeats 1000000 in
theorem cblk_succ {d : Nat} (HB : CBlk d) : CBlk (d + 1) := by
  intro w lo c nb rb E s v x h hv hsm
  obtain ⟨rows, hrel0, hown, hN⟩ := hv
  have hlow := h.low
  have hin := h.in
  have hlen : Hid (rows.length = List.length x) := RelRows.len _ _ hrel0
  generalize hs : s.block (d + 1) x = s'
  have HS : Hid (s' = List.foldl (fun s r => s.stmt (Ck.block d) r) s x) := hs.symm
  clear hs
  obtain ⟨va, vk, vc, rfl⟩ := ownsRow_form2 hown
  have hvk : vk = rows.length := by
    rcases hown.2 with ⟨h1, h2⟩ | ⟨g, cap, cur, h1, _⟩
    · simp at h1; omega
    · simp at h1; omega
  subst hvk
  have hmax : rows.length ≤ maxLen := by
    rcases hown.2 with ⟨h1, h2⟩ | ⟨g, cap, cur, h1, _, _, h2, h3, _⟩
    · omega
    · omega
  have hmax : rows.length ≤ 9223372036854775807 := hmax
  go_enter Tryd.func42, Tryd.ntmps42
  go_wp2_with fail
  go_loopg [8] rows.length (fun f i wr => ∃ (k : Nat) (sk : Ck), k + f = rows.length ∧ i = .int .i64 k ∧ CkAt wr lo c nb rb E sk ∧ Kp c nb rb w wr ∧ Hid (s' = List.foldl (fun s r => s.stmt (Ck.block d) r) sk (List.drop k x)))
  case atStart => exact ⟨0, s, by omega, rfl, h, Kp.refl _ _ _ _, HS⟩
  case round =>
    obtain ⟨k, sk, hk, rfl, h1, K1, HK⟩ := hrel
    by_cases hlt : k < rows.length
    · obtain ⟨st, y, z, ty, tz, r1, r2, r3, r4, r5⟩ := RelRows.at _ _ hrel0 k hlt
      obtain ⟨y1, y2, y3, rfl⟩ := SlR.form d _ _ r4
      obtain ⟨z1, z2, z3, rfl⟩ := SlR.form d _ _ r5
      have y4 := SlR.kp K1 hlow.2.1 hlow.2.2.1 hlow.2.2.2.1 r4
      have z4 := SlR.kp K1 hlow.2.1 hlow.2.2.1 hlow.2.2.2.1 r5
      obtain ⟨m1, m2, m3⟩ := smallL.at _ hsm k _ r2
      have hg : ∃ g, va = some ⟨g, 0, none⟩ := by
        rcases hown.2 with ⟨h1, h2⟩ | ⟨g, cap, cur, h1, _⟩
        · omega
        · simp at h1; exact ⟨g, h1.1⟩
      obtain ⟨g, rfl⟩ := hg
      have hgl : g < lo := hN g rfl
      have hix : ∀ W : World, (Instr.indexAt 75 (.slice (some ⟨g, 0, none⟩) rows.length vc) (.int .i64 k)).run Tryd.prog W = .ok (.pointer (some ⟨g, k * 25, none⟩)) W := by
        intro W
        rw [run_indexAt_slice (h := by kernel_rfl), if_pos (by omega)]
        have : (sizeOf (Tryd.prog.elem 75)).run Tryd.prog W = .ok 25 W := by kernel_rfl
        rw [this]
        simp [Result.andThen, Addr.add]
        omega
      have hown1 : wr.ownsRow 0 136 25 (.slice (some ⟨g, 0, none⟩) rows.length vc) rows.length (flatR rows) := ownsRow_move hown (fun q hq hl => by simp [Value.ownBlock] at hq; subst hq; exact K1.block _ hl (by omega) (by omega) (by omega))
      have hrg : wr.rangeAt g (k * 25) (stA st (.slice y1 y2 y3) (.slice z1 z2 z3)).toList := fun j u hu => by
        have hj : j < 25 := by have := (List.getElem?_eq_some_iff.1 hu).1; simpa using this
        rw [hown1.cellAt _ (by have : k + 1 ≤ rows.length := hlt; omega)]
        exact flatR_at rows k _ r1 j u hu
      go_upto_region 2 with fail
      refine wp_region_lit ?_
      iterate 3 go_step
      refine wpList_load_mid rfl 136 (.tmp 10) rfl g (k * 25) rfl (stA st (.slice y1 y2 y3) (.slice z1 z2 z3)).toList _ hrg Tryd.underlying136 rfl (by kernel_rfl) ?_
      iterate 3 go_step
      refine store_in rfl 136 (.tmp 5) (.tmp 11) rfl (stA st (.slice y1 y2 y3) (.slice z1 z2 z3)) rfl rfl (by kernel_rfl) rfl (by simp [Value.oneCell']) ?_
      intro w2 B2 hb2 hz2
      have h2 := h1.grow B2
      have K2 : Kp c nb rb wr w2 := ⟨B2.os, B2.tape, B2.output, B2.size, fun k hk _ _ _ => B2.block k hk⟩
      have y5 := SlR.kp K2 hlow.2.1 hlow.2.2.1 hlow.2.2.2.1 y4
      have z5 := SlR.kp K2 hlow.2.1 hlow.2.2.1 hlow.2.2.2.1 z4
      go_upto_region 3 with fail
      refine wp_region_lit ?_
      iterate 3 go_step
      refine wpList_load_row rfl 136 (.tmp 5) rfl wr.heap.size rfl 136 _ _ _ hb2 Tryd.underlying136 rfl (by kernel_rfl) ?_
      go_wp2_with fail
      refine (cstmt_any HB h2 st _ _ ty tz y5 z5 m1 m2 m3).mono ?_
      rintro e w3 ⟨rfl, h3, K3⟩
      go_wp2_with fail
      go_roundg (gk - 1)
      case measure => omega
      case rel =>
        refine ⟨k + 1, sk.stmt (Ck.block d) (st, ty, tz), by omega, ?_, h3, (K1.trans K2).trans K3, ?_⟩
        · simp
        · show _ = _
          rw [HK.out, r3]
          rfl
    · have e0 : List.drop k x = [] := List.drop_eq_nil_iff.2 (by have := hlen.out; omega)
      have e1 : s' = sk := by rw [HK.out, e0]; rfl
      subst e1
      go_wp2_with fail
      exact end0 rfl rfl ⟨rfl, h1, K1⟩

/-- THE CHECKER's BLOCK, at every depth. -/
theorem cblk_all : ∀ d, CBlk d
  | 0 => cblk_zero
  | d + 1 => cblk_succ (cblk_all d)
end Go.Proofs.YtippenbbibfmdabDoor
