import Derived.Test.YtippenbbibfmdabDoorW31
import Derived.Carry
namespace Go.Proofs.YtippenbbibfmdabDoor
open Go.RowKit

def ck0 : Ck := ⟨[], 0, [], none⟩
def missS (s : Ck) : Ck := if (look [109, 105, 115, 115] s.rules).getD 0 = 0 then s.fault 8 0 else s
def checkS (ds : List Dc) (rs : List (Nat × NP × BT 8)) : Ck := missS (rs.foldl Ck.rule (ds.foldl Ck.decl ck0))

/-- What check leaves. -/
def OutK (w : World) (E : Nat → Value) (s : Ck) (e : Ending) (w' : World) : Prop :=
  ∃ v, e = .returned v ∧ FirstR w' w.heap.size E v s.first ∧ Below w.heap.size w w'

theorem flat_at {α : Type} (f : α → List Value) (L : Nat) (hL : ∀ a, (f a).length = L) : ∀ (xs : List α) (k : Nat) (a : α), xs[k]? = some a → ∀ (j : Nat) (u : Value), (f a)[j]? = some u → (xs.flatMap f)[k * L + j]? = some u := by
  intro xs
  induction xs with
  | nil => intro k a h; simp at h
  | cons q qs ih =>
    intro k a h j u hu
    have hj : j < L := by rw [← hL a]; exact (List.getElem?_eq_some_iff.1 hu).1
    cases k with
    | zero =>
      simp at h
      subst h
      simp only [List.flatMap_cons, Nat.zero_mul, Nat.zero_add]
      rw [List.getElem?_append_left (by rw [hL]; exact hj)]
      exact hu
    | succ k =>
      simp only [List.flatMap_cons]
      have e : (k + 1) * L + j = (f q).length + (k * L + j) := by rw [hL, Nat.succ_mul]; omega
      rw [e, List.getElem?_append_right (by omega), Nat.add_sub_cancel_left]
      exact ih k a (by simpa using h) j u hu

theorem fault_fr (s : Ck) (i p : Nat) : (s.fault i p).freqs = s.freqs ∧ (s.fault i p).rules = s.rules := by unfold Ck.fault; split <;> exact ⟨rfl, rfl⟩
theorem bound_fr (s : Ck) (v p m : Nat) : (s.bound v p m).freqs = s.freqs ∧ (s.bound v p m).rules = s.rules := by unfold Ck.bound; split; exact fault_fr _ _ _; exact ⟨rfl, rfl⟩
theorem declare_fr (s : Ck) (n : NP) (k : Nat) : (s.declare n k).freqs = s.freqs ∧ (s.declare n k).rules = s.rules := by
  unfold Ck.declare
  split
  · exact fault_fr _ _ _
  · split
    · exact fault_fr _ _ _
    · exact ⟨rfl, rfl⟩
theorem decl_fr (s : Ck) (d : Dc) : (s.decl d).freqs ≤ s.freqs + 1 ∧ (s.decl d).rules = s.rules := by
  unfold Ck.decl
  split
  · rw [(bound_fr _ _ _ _).1, (bound_fr _ _ _ _).2, (declare_fr _ _ _).1, (declare_fr _ _ _).2]; exact ⟨by omega, rfl⟩
  · split
    · rw [(bound_fr _ _ _ _).1, (bound_fr _ _ _ _).2, (declare_fr _ _ _).1, (declare_fr _ _ _).2]; exact ⟨by omega, rfl⟩
    · split
      · rw [(bound_fr _ _ _ _).1, (bound_fr _ _ _ _).2]
        split
        · rw [(fault_fr _ _ _).1, (fault_fr _ _ _).2]; exact ⟨Nat.le_refl _, rfl⟩
        · exact ⟨Nat.le_refl _, rfl⟩
      · exact ⟨by omega, rfl⟩

theorem use_ru (s : Ck) (n : NP) (k : Nat) : (s.use n k).rules = s.rules := by
  unfold Ck.use
  split
  · exact (fault_fr _ _ _).2
  · split
    · rfl
    · exact (fault_fr _ _ _).2
theorem value_ru (s : Ck) (v : Vl) : (s.value v).rules = s.rules := by
  unfold Ck.value
  split
  · exact use_ru _ _ _
  · split
    · exact use_ru _ _ _
    · rfl
theorem cond_ru (s : Ck) (x : Cd) : (s.cond x).rules = s.rules := by
  unfold Ck.cond
  split
  · rw [value_ru, value_ru]
  · exact use_ru _ _ _
theorem stmt_ru {β : Type} (blk : Ck → β → Ck) (hb : ∀ s x, (blk s x).rules = s.rules) (s : Ck) (r : St × β × β) : (s.stmt blk r).rules = s.rules := by
  unfold Ck.stmt
  split
  · exact use_ru _ _ _
  · split
    · rw [use_ru, use_ru]
    · split
      · exact use_ru _ _ _
      · split
        · rw [hb, hb, cond_ru]
        · split
          · rw [hb, cond_ru, (bound_fr _ _ _ _).2]
          · rfl
theorem block_ru : ∀ (d : Nat) (s : Ck) (x : BT d), (s.block d x).rules = s.rules
  | 0, _, _ => rfl
  | d + 1, s, x => by
    have : ∀ (xs : List (St × BT d × BT d)) (s : Ck), (List.foldl (fun s r => s.stmt (Ck.block d) r) s xs).rules = s.rules := by
      intro xs
      induction xs with
      | nil => intro s; rfl
      | cons r rs ih => intro s; rw [List.foldl_cons, ih, stmt_ru _ (fun s x => block_ru d s x)]
    exact this x s
theorem rule_ru (s : Ck) (r : Nat × NP × BT 8) : (s.rule r).rules = (r.2.1.1, (look r.2.1.1 s.rules).getD 0 + 1) :: s.rules := by
  unfold Ck.rule
  rw [block_ru]
  have e1 : (s.rule1 r.1 r.2.1).rules = (r.2.1.1, (look r.2.1.1 s.rules).getD 0 + 1) :: s.rules := by
    unfold Ck.rule1
    split
    · rw [(fault_fr _ _ _).2]; rfl
    · rfl
  unfold Ck.rule2
  split
  · exact e1
  · rw [use_ru]; exact e1

theorem RelU.len {P : Value → BT 8 → Prop} : ∀ (rs : List (Nat × NP × Value)) (xs : List (Nat × NP × BT 8)), RelU P rs xs → rs.length = xs.length
  | [], [], _ => rfl
  | _ :: rs, _ :: xs, ⟨_, _, _, d⟩ => by simp [RelU.len rs xs d]
theorem RelU.at {P : Value → BT 8 → Prop} : ∀ (rs : List (Nat × NP × Value)) (xs : List (Nat × NP × BT 8)), RelU P rs xs → ∀ k, k < rs.length → ∃ p n v x, rs[k]? = some (p, n, v) ∧ (p, n, x) ∈ xs ∧ xs.drop k = (p, n, x) :: xs.drop (k + 1) ∧ P v x
  | [], [], _, k, h => by simp at h
  | (p, n, v) :: rs, (p', n', x) :: xs, ⟨a, b, c, d⟩, 0, _ => ⟨p, n, v, x, rfl, by have a : p = p' := a; have b : n = n' := b; subst a b; simp, by have a : p = p' := a; have b : n = n' := b; subst a b; simp, c⟩
  | _ :: rs, _ :: xs, ⟨_, _, _, d⟩, k + 1, h => by
    obtain ⟨p, n, v, x, h1, h2, h3, h4⟩ := RelU.at rs xs d k (by simpa using h)
    exact ⟨p, n, v, x, by simpa using h1, List.mem_cons_of_mem _ h2, by simpa using h3, h4⟩

set_option maxRecDepth 20000 in
set_option maxHeartbeats 1000000 in
theorem check_any {w : World} (n : Nat) (vd vr : Value) (ds : List Dc) (rows : List (Nat × NP × Value)) (rs : List (Nat × NP × BT 8)) (E : Nat → Value)
    (hP : w.heap[n]? = some (.cells #[vd, vr] 67)) (hod : w.ownsRow (n + 1) 73 6 vd ds.length (flatD ds)) (hou : w.ownsRow (n + 1) 77 4 vr rows.length (flatU rows)) (hrel0 : RelU (SlR 8 w (fun g => n + 1 ≤ g)) rows rs)
    (gl : ∀ i, 1 < i → i < 9 → w.cell? ⟨i, 0, none⟩ = some (.iface 143 (E i))) (hlo : 10 < w.heap.size)
    (hd7 : ∀ d ∈ ds, d.name.1.length ≤ 700) (hr7 : ∀ r ∈ rs, r.2.1.1.length ≤ 700 ∧ smallB 8 r.2.2) (hdn : ds.length ≤ 900) (hrn : rs.length ≤ 900) :
    Calls Tryd.prog 11 #[ptr n] w fun e w' => OutK w E (checkS ds rs) e w' := by
  have hmm := @run_makeMap Tryd.prog
  generalize hs : checkS ds rs = s'
  have HS : Hid (checkS ds rs = s') := hs
  clear hs
  have p0 : w.cell? ⟨n, 0, none⟩ = some vd := by simp [World.cell?, hP]
  have p1 : w.cell? ⟨n, 1, none⟩ = some vr := by simp [World.cell?, hP]
  obtain ⟨da, dk, dc, rfl⟩ := ownsRow_form2 hod
  obtain ⟨ra, rk, rc, rfl⟩ := ownsRow_form2 hou
  go_enter Tryd.func11, Tryd.ntmps11
  go_upto_region 2 with fail
  have h1 : CkAt (((w.alloc (.map #[] 0)).alloc (.map #[] 0)).alloc (.cells #[.map (some w.heap.size), .int .i64 0, .map (some (w.heap.size + 1)), .nilIface] 63)) w.heap.size (w.heap.size + 1 + 1) w.heap.size (w.heap.size + 1) E ck0 := by
    refine ⟨⟨.nilIface, heap_new (by simp), rfl⟩, ?_, ⟨0, Nat.le_refl _, ?_⟩, fun i h1 h2 => ?_, ?_, ?_⟩
    · exact (MapR.made w _).move (by rw [Below.heap_alloc _ _ _ (by simp; omega), Below.heap_alloc _ _ _ (by simp)])
    · have := MapR.made (w.alloc (.map #[] 0)) 3
      rw [show (w.alloc (.map #[] 0)).heap.size = w.heap.size + 1 by simp] at this
      exact this.move (by rw [Below.heap_alloc _ _ _ (by simp)])
    · rw [← gl i h1 h2]
      unfold World.cell?
      rw [Below.heap_alloc _ _ _ (by simp; omega), Below.heap_alloc _ _ _ (by simp; omega), Below.heap_alloc _ _ _ (by show i < _; omega)]
    · simp; omega
    · simp [ck0]
  have B1 : Below w.heap.size w (((w.alloc (.map #[] 0)).alloc (.map #[] 0)).alloc (.cells #[.map (some w.heap.size), .int .i64 0, .map (some (w.heap.size + 1)), .nilIface] 63)) := (((Below.refl _ w).alloc (Nat.le_refl _) _).alloc (by simp) _).alloc (by simp; omega) _
  have z1 : w.heap.size + 2 < (((w.alloc (.map #[] 0)).alloc (.map #[] 0)).alloc (.cells #[.map (some w.heap.size), .int .i64 0, .map (some (w.heap.size + 1)), .nilIface] 63)).heap.size := by simp
  generalize (((w.alloc (.map #[] 0)).alloc (.map #[] 0)).alloc (.cells #[.map (some w.heap.size), .int .i64 0, .map (some (w.heap.size + 1)), .nilIface] 63)) = w1 at *
  have hlt : n < w.heap.size := (Array.getElem?_eq_some_iff.1 hP).1
  have P1 : w1.heap[n]? = some (.cells #[.slice da dk dc, .slice ra rk rc] 67) := (B1.block _ hlt).trans hP
  have p10 : w1.cell? ⟨n, 0, none⟩ = some (.slice da dk dc) := by simp [World.cell?, P1]
  have p11 : w1.cell? ⟨n, 1, none⟩ = some (.slice ra rk rc) := by simp [World.cell?, P1]
  have hne : w.heap.size ≠ w.heap.size + 1 := by omega
  clear p0 p1 gl
  generalize hcc : w.heap.size + 1 + 1 = c at *
  generalize hrb : w.heap.size + 1 = rb at *
  generalize hnb : w.heap.size = nb at *
  have hdk : dk = ds.length := by
    rcases hod.2 with ⟨h1, h2⟩ | ⟨g, cap, cur, h1, _⟩
    · simp at h1; omega
    · simp at h1; omega
  have hrk : rk = rows.length := by
    rcases hou.2 with ⟨h1, h2⟩ | ⟨g, cap, cur, h1, _⟩
    · simp at h1; omega
    · simp at h1; omega
  subst hdk hrk
  go_wp2_with fail
  go_loopg [17] ds.length (fun f i wr => ∃ (k : Nat) (sk : Ck), k + f = ds.length ∧ i = .int .i64 k ∧ CkAt wr nb c nb rb E sk ∧ Below nb w wr ∧ Hid (s' = missS (rs.foldl Ck.rule ((ds.drop k).foldl Ck.decl sk))) ∧ sk.freqs ≤ k ∧ sk.rules = [])
  case atStart => exact ⟨0, ck0, by omega, rfl, h1, B1, HS.out.symm, Nat.le_refl _, rfl⟩
  case round =>
    obtain ⟨k, sk, hk, rfl, h2, B2, HK, hfq, hrl⟩ := hrel
    have P2 : wr.heap[n]? = some (.cells #[.slice da ds.length dc, .slice ra rows.length rc] 67) := (B2.block _ (by omega)).trans hP
    have p20 : wr.cell? ⟨n, 0, none⟩ = some (.slice da ds.length dc) := by simp [World.cell?, P2]
    have p21 : wr.cell? ⟨n, 1, none⟩ = some (.slice ra rows.length rc) := by simp [World.cell?, P2]
    clear p10 p11 P1 h1 B1
    by_cases hlt1 : k < ds.length
    · obtain ⟨x, hx⟩ : ∃ x, ds[k]? = some x := ⟨_, List.getElem?_eq_getElem hlt1⟩
      have hdr : ds.drop k = x :: ds.drop (k + 1) := by
        rw [List.drop_eq_getElem_cons hlt1]
        rw [List.getElem?_eq_getElem hlt1] at hx
        simp at hx
        rw [hx]
      have hx7 := hd7 x (List.mem_of_getElem? hx)
      have hg : ∃ g, da = some ⟨g, 0, none⟩ := by
        rcases hod.2 with ⟨h1, h2⟩ | ⟨g, cap, cur, h1, _⟩
        · omega
        · simp at h1; exact ⟨g, h1.1⟩
      obtain ⟨g, rfl⟩ := hg
      have hgl : g < nb := by have := (hod.lt g rfl).2; omega
      have hix : ∀ W : World, (Instr.indexAt 64 (.slice (some ⟨g, 0, none⟩) ds.length dc) (.int .i64 k)).run Tryd.prog W = .ok (.pointer (some ⟨g, k * 6, none⟩)) W := by
        intro W
        rw [run_indexAt_slice (h := by kernel_rfl), if_pos (by omega)]
        have : (sizeOf (Tryd.prog.elem 64)).run Tryd.prog W = .ok 6 W := by kernel_rfl
        rw [this]
        simp [Result.andThen, Addr.add]
        omega
      have hown1 : wr.ownsRow (n + 1) 73 6 (.slice (some ⟨g, 0, none⟩) ds.length dc) ds.length (flatD ds) := ownsRow_moveB hod (fun q hq hl => by simp [Value.ownBlock] at hq; subst hq; exact B2.block _ (by omega))
      have hrg : wr.rangeAt g (k * 6) (dcA x).toList := fun j u hu => by
        have hj : j < 6 := by have := (List.getElem?_eq_some_iff.1 hu).1; simpa using this
        rw [hown1.cellAt _ (by have : k + 1 ≤ ds.length := hlt1; omega)]
        exact flat_at (fun d => (dcA d).toList) 6 (fun _ => rfl) ds k _ hx j u hu
      go_upto_region 4 with fail
      refine wp_region_lit ?_
      iterate 3 go_step
      refine wpList_load_mid rfl 73 (.tmp 19) rfl g (k * 6) rfl (dcA x).toList _ hrg Tryd.underlying73 rfl (by kernel_rfl) ?_
      iterate 3 go_step
      refine store_in rfl 73 (.tmp 5) (.tmp 20) rfl (dcA x) rfl rfl (by kernel_rfl) rfl (by simp [Value.oneCell']) ?_
      intro w2 BB2 hb2 hz2
      have h3 := h2.grow BB2
      go_upto_region 5 with fail
      refine wp_region_lit ?_
      iterate 3 go_step
      refine wpList_load_row rfl 73 (.tmp 5) rfl wr.heap.size rfl 73 _ _ _ hb2 Tryd.underlying73 rfl (by kernel_rfl) ?_
      go_wp2_with fail
      refine (cdecl_any h3 (by omega) x hx7 (by omega)).mono ?_
      rintro e w3 ⟨rfl, h4, K4⟩
      go_wp2_with fail
      go_roundg (gk - 1)
      case measure => omega
      case rel =>
        have l3 := h3.low
        refine ⟨k + 1, sk.decl x, by omega, by simp, h4, (B2.trans (BB2.mono h2.low.2.2.2.2)).trans (K4.below l3.2.2.2.2 l3.2.1 l3.2.2.1 l3.2.2.2.1), ?_, by have := (decl_fr sk x).1; omega, by rw [(decl_fr sk x).2]; exact hrl⟩
        show _ = _
        rw [HK.out, hdr]
        rfl
    · have e0 : ds.drop k = [] := List.drop_eq_nil_iff.2 (by omega)
      have HK : Hid (s' = missS (rs.foldl Ck.rule sk)) := by show _ = _; rw [HK.out, e0]; rfl
      clear hfq e0
      have hlen : Hid (rows.length = rs.length) := RelU.len _ _ hrel0
      go_wp2_with fail
      go_loopg [30] rows.length (fun f i wr => ∃ (k : Nat) (sk : Ck), k + f = rows.length ∧ i = .int .i64 k ∧ CkAt wr nb c nb rb E sk ∧ Below nb w wr ∧ Hid (s' = missS ((rs.drop k).foldl Ck.rule sk)) ∧ sk.rules.length ≤ k ∧ ∀ key, (look key sk.rules).getD 0 ≤ k)
      case atStart => exact ⟨0, sk, by omega, rfl, h2, B2, HK, by rw [hrl]; exact Nat.le_refl _, fun key => by rw [hrl]; exact Nat.le_refl _⟩
      case round =>
        obtain ⟨k2, sk2, hk2, rfl, h5, B5, HK5, hrl5, hcn5⟩ := hrel
        clear P2 p20 p21 h2 B2 HK
        by_cases hlt2 : k2 < rows.length
        · obtain ⟨p, nm, v, x, r1, r2, r3, r4⟩ := RelU.at _ _ hrel0 k2 hlt2
          obtain ⟨y1, y2, y3, rfl⟩ := SlR.form 8 _ _ r4
          have r5 : SlR 8 wr (fun g => g < nb) (.slice y1 y2 y3) x := SlR.move 8 (fun g hg _ => B5.block g hg) _ _ (SlR.mono 8 (fun g hg => by have := hg.2; omega) _ _ (SlR.there 8 _ _ r4))
          obtain ⟨m1, m2⟩ := hr7 _ r2
          have hg : ∃ g, ra = some ⟨g, 0, none⟩ := by
            rcases hou.2 with ⟨h1, h2⟩ | ⟨g, cap, cur, h1, _⟩
            · omega
            · simp at h1; exact ⟨g, h1.1⟩
          obtain ⟨g, rfl⟩ := hg
          have hgl : g < nb := by have := (hou.lt g rfl).2; omega
          have hix : ∀ W : World, (Instr.indexAt 65 (.slice (some ⟨g, 0, none⟩) rows.length rc) (.int .i64 k2)).run Tryd.prog W = .ok (.pointer (some ⟨g, k2 * 4, none⟩)) W := by
            intro W
            rw [run_indexAt_slice (h := by kernel_rfl), if_pos (by omega)]
            have : (sizeOf (Tryd.prog.elem 65)).run Tryd.prog W = .ok 4 W := by kernel_rfl
            rw [this]
            simp [Result.andThen, Addr.add]
            omega
          have hown1 : wr.ownsRow (n + 1) 77 4 (.slice (some ⟨g, 0, none⟩) rows.length rc) rows.length (flatU rows) := ownsRow_moveB hou (fun q hq hl => by simp [Value.ownBlock] at hq; subst hq; exact B5.block _ (by omega))
          have hrg : wr.rangeAt g (k2 * 4) (ruA p nm (.slice y1 y2 y3)).toList := fun j u hu => by
            have hj : j < 4 := by have := (List.getElem?_eq_some_iff.1 hu).1; simpa using this
            rw [hown1.cellAt _ (by have : k2 + 1 ≤ rows.length := hlt2; omega)]
            exact flat_at (fun r : Nat × NP × Value => (ruA r.1 r.2.1 r.2.2).toList) 4 (fun _ => rfl) rows k2 _ r1 j u hu
          have hrn2 : rows.length ≤ 900 := by have := hlen.out; omega
          go_upto_region 9 with fail
          refine wp_region_lit ?_
          iterate 3 go_step
          refine wpList_load_mid rfl 77 (.tmp 32) rfl g (k2 * 4) rfl (ruA p nm (.slice y1 y2 y3)).toList _ hrg Tryd.underlying77 rfl (by kernel_rfl) ?_
          iterate 3 go_step
          refine store_in rfl 77 (.tmp 7) (.tmp 33) rfl (ruA p nm (.slice y1 y2 y3)) rfl rfl (by kernel_rfl) rfl (by simp [Value.oneCell']) ?_
          intro w2 BB2 hb2 hz2
          have h6 := h5.grow BB2
          have l5 := h5.low
          have l6 := h6.low
          have r6 : SlR 8 w2 (fun g => g < nb) (.slice y1 y2 y3) x := SlR.move 8 (fun g hg _ => BB2.block g (by omega)) _ _ r5
          go_upto_region 10 with fail
          refine wp_region_lit ?_
          iterate 3 go_step
          refine wpList_load_row rfl 77 (.tmp 7) rfl wr.heap.size rfl 77 _ _ _ hb2 Tryd.underlying77 rfl (by kernel_rfl) ?_
          go_wp2_with fail
          refine (crule_any h6 (by omega) p nm _ x m1 r6 m2 (by omega) (by have := hcn5 nm.1; omega)).mono ?_
          rintro e w3 ⟨rfl, h7, K7⟩
          go_wp2_with fail
          go_roundg (gk - 1)
          case measure => omega
          case rel =>
            refine ⟨k2 + 1, sk2.rule (p, nm, x), by omega, by simp, h7, (B5.trans (BB2.mono l5.2.2.2.2)).trans (K7.below l6.2.2.2.2 l6.2.1 l6.2.2.1 l6.2.2.2.1), ?_, by rw [rule_ru]; simp; omega, fun key => ?_⟩
            · show _ = _
              rw [HK5.out, r3]
              rfl
            · rw [rule_ru, look_cons]
              have := hcn5 nm.1
              have := hcn5 key
              split
              · simp; omega
              · omega
        · have e0 : rs.drop k2 = [] := List.drop_eq_nil_iff.2 (by have := hlen.out; omega)
          have HK6 : Hid (s' = missS sk2) := by show _ = _; rw [HK5.out, e0]; rfl
          obtain ⟨d0, d1, d2, df⟩ := h5.cells
          obtain ⟨m3, hm3, hr3⟩ := h5.rules
          have hget := hr3.get u81 u3 (z3 _) [109, 105, 115, 115] (by decide)
          have g8 := h5.gl 8 (by omega) (by omega)
          by_cases hz : (look [109, 105, 115, 115] sk2.rules).getD 0 = 0
          · have e1 : s' = sk2.fault 8 0 := by rw [HK6.out]; exact if_pos hz
            rw [hz] at hget
            clear hz HK5 HK6 HS
            subst e1
            go_wp2_with fail
            refine (cfault_any h5 8 0).mono ?_
            rintro e w6 ⟨rfl, h6, K6⟩
            have l5 := h5.low
            obtain ⟨v, hc, hf⟩ := h6.cell
            have d3 : w6.cell? ⟨c, 3, none⟩ = some v := by simp [World.cell?, hc]
            go_wp2_with fail
            go_ret
            subst hnb
            exact ⟨v, rfl, hf, B5.trans (K6.below l5.2.2.2.2 l5.2.1 l5.2.2.1 l5.2.2.2.1)⟩
          · have e1 : s' = sk2 := by rw [HK6.out]; exact if_neg hz
            have hz' : ¬ (((look [109, 105, 115, 115] sk2.rules).getD 0 : Nat) : Int) = 0 := by omega
            clear HK5 HK6 HS
            subst e1
            obtain ⟨v, hc, hf⟩ := h5.cell
            have d3 : wr.cell? ⟨c, 3, none⟩ = some v := by simp [World.cell?, hc]
            go_wp2_with fail
            go_ret
            subst hnb
            exact ⟨v, rfl, hf, B5⟩
end Go.Proofs.YtippenbbibfmdabDoor
