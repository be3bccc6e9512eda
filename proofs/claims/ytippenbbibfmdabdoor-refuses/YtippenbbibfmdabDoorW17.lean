import Derived.Test.YtippenbbibfmdabDoorW16
import Derived.Deep.RegionLaw
import Derived.RegionDies
namespace Go.Proofs.YtippenbbibfmdabDoor
open Go.RowKit

/-- append onto a slice of one's own, as one step of a region that draws. -/
theorem step_append_own {P : Program} {ops : Array Oper} {o : Oper} {a : Act} {w : World} {K : Act → World → Prop} {Q : Exit → Act → World → Prop} {E : Prop}
    (hg : o.guard = none) (s x : Operand) (t : TypeId) (hop : o.op = Op.call { callee := Callee.builtin Builtin.append, args := #[s, x], argTypes := #[t, t] })
    (base : Nat) (e : TypeId) (i : TypeInfo) (z : Value) (size bytes : Nat) (ht : P.underlying t = some (.slice e)) (hi : P.info? e = some i) (hz : i.zero = some z)
    (hsize : i.size = size) (hby : i.bytes = bytes) (hzs : z.cells.size = size) (hsz : 0 < size)
    (v : Value) (n : Nat) (xs : List Value) (hs : a.eval s = v) (hown : w.ownsRow base e size v n xs)
    (ad : Addr) (m c : Nat) (news : List Value) (hx : a.eval x = .slice (some ad) m c) (hl : news.length = m * size) (hnews : ∀ j u, news[j]? = some u → w.cell? (ad.add j) = some u) (h1 : ∀ u ∈ news, u.oneCell' = true)
    (h63 : n + m ≤ maxLen) (hbytes : (n + m) * bytes ≤ 140737488355328) (hbase : base ≤ w.heap.size)
    (h : ∀ v' w', w'.ownsRow base e size v' (n + m) (xs ++ news) → w.grownBy w' v.ownBlock → (v'.ownBlock = v.ownBlock ∨ v'.ownBlock = some w.heap.size) → K (a.put o.dst v') w') :
    if Region.wanted o (yielded ops a.tmps) = true then Oper.wp P o a w K Q else E := by
  have hw : Region.wanted o (yielded ops a.tmps) = true := by simp [Region.wanted, hg]
  rw [if_pos hw]
  obtain ⟨v', w', hr, h2, h3, _, h5⟩ := run_append_own_at (P := P) w base t o.type e i z size bytes ht hi hz hsize hby hzs hsz v n xs hown ad m c news hl hnews h1 h63 hbytes hbase
  unfold Oper.wp execOp
  simp only [hop, resolve, invoke, builtin, Sem.run_bind, Sem.run_pure, Result.andThen_ok, List.map_toArray, List.map_cons, List.map_nil, hs, hx, hr]
  exact h v' w' h2 h3 h5

theorem wanted_pos {P : Program} {ops : Array Oper} {o : Oper} {a : Act} {w : World} {K : Act → World → Prop} {Q : Exit → Act → World → Prop} {E : Prop} (hg : o.guard = none) (h : Oper.wp P o a w K Q) : if Region.wanted o (yielded ops a.tmps) = true then Oper.wp P o a w K Q else E := by
  rw [if_pos (by simp [Region.wanted, hg])]; exact h

def flatD (ds : List Dc) : List Value := ds.flatMap fun d => (dcA d).toList
theorem flatD_snoc (ds : List Dc) (d : Dc) : flatD (ds ++ [d]) = flatD ds ++ (dcA d).toList := by simp [flatD]
theorem info_dc : (Tryd.prog.info? 73).map (fun i => (i.zero, i.size, i.bytes)) = some (some (.agg (dcA ⟨[], 0, ([], 0), (0, 0)⟩)), 6, 64) := by kernel_rfl
theorem dcA_one (d : Dc) : ∀ u ∈ (dcA d).toList, u.oneCell' = true := by
  have h : (dcA d).toList.all (·.oneCell') = true := by simp [Value.oneCell']
  exact fun u hu => List.all_eq_true.1 h u hu
theorem ownsRow_form2 {w : World} {base : Nat} {e : TypeId} {size n : Nat} {v : Value} {xs : List Value} (h : w.ownsRow base e size v n xs) : ∃ a k c, v = .slice a k c := by
  rcases h.2 with ⟨h, _⟩ | ⟨g, cap, cur, h, _⟩
  · exact ⟨_, _, _, h⟩
  · exact ⟨_, _, _, h⟩

def declsS (l : List UInt8) : Nat → Tok → PR (List Dc)
  | 0, t => .error (false, t.pos)
  | f + 1, t => if declB t.txt = true then bindR (declS l t) fun d t1 => bindR (declsS l f t1) fun ds t2 => .ok (d :: ds, t2) else .ok ([], t)
def rulesS (l : List UInt8) : Nat → Tok → PR (List (Nat × NP × BT 8))
  | 0, t => .error (false, t.pos)
  | f + 1, t => if t.txt = [111, 110] then bindR (ruleS l t) fun d t1 => bindR (rulesS l f t1) fun ds t2 => .ok (d :: ds, t2) else .ok ([], t)
def endS (l : List UInt8) (ds : List Dc) (rs : List (Nat × NP × BT 8)) (t : Tok) : PR (List Dc × List (Nat × NP × BT 8)) := if t.kind = 1 then .ok ((ds, rs), nx l t) else .error (false, t.pos)
def policyS (l : List UInt8) (t : Tok) : PR (List Dc × List (Nat × NP × BT 8)) :=
  bindR (declsS l (l.length + 1) t) fun ds t1 => bindR (rulesS l (l.length + 1) t1) fun rs t2 => endS l ds rs t2

def RelU (P : Value → BT 8 → Prop) : List (Nat × NP × Value) → List (Nat × NP × BT 8) → Prop
  | [], [] => True
  | r :: rs, x :: xs => r.1 = x.1 ∧ r.2.1 = x.2.1 ∧ P r.2.2 x.2.2 ∧ RelU P rs xs
  | _, _ => False
theorem RelU.mono {P Q : Value → BT 8 → Prop} (h : ∀ v x, P v x → Q v x) : ∀ (rs : List (Nat × NP × Value)) (xs : List (Nat × NP × BT 8)), RelU P rs xs → RelU Q rs xs
  | [], [], _ => trivial
  | _ :: rs, _ :: xs, ⟨a, b, c, d⟩ => ⟨a, b, h _ _ c, RelU.mono h rs xs d⟩
theorem RelU.snoc {P : Value → BT 8 → Prop} (r : Nat × NP × Value) (x : Nat × NP × BT 8) (h1 : r.1 = x.1) (h2 : r.2.1 = x.2.1) (h3 : P r.2.2 x.2.2) :
    ∀ (rs : List (Nat × NP × Value)) (xs : List (Nat × NP × BT 8)), RelU P rs xs → RelU P (rs ++ [r]) (xs ++ [x])
  | [], [], _ => ⟨h1, h2, h3, trivial⟩
  | _ :: rs, _ :: xs, ⟨a, b, c, d⟩ => ⟨a, b, c, RelU.snoc r x h1 h2 h3 rs xs d⟩
def flatU (rows : List (Nat × NP × Value)) : List Value := rows.flatMap fun r => (ruA r.1 r.2.1 r.2.2).toList
theorem flatU_snoc (rows : List (Nat × NP × Value)) (r : Nat × NP × Value) : flatU (rows ++ [r]) = flatU rows ++ (ruA r.1 r.2.1 r.2.2).toList := by simp [flatU]
theorem info_ru : (Tryd.prog.info? 77).map (fun i => (i.zero, i.size, i.bytes)) = some (some (.agg (ruA 0 ([], 0) nilV)), 4, 56) := by kernel_rfl
theorem ruA_one (p : Nat) (n : NP) (a : Option Addr) (k c : Nat) : ∀ u ∈ (ruA p n (.slice a k c)).toList, u.oneCell' = true := by
  have h : (ruA p n (.slice a k c)).toList.all (·.oneCell') = true := by simp [Value.oneCell']
  exact fun u hu => List.all_eq_true.1 h u hu
theorem rule_m {l : List UInt8} {t t' : Tok} {x : Nat × NP × BT 8} (hd : t.txt = [111, 110]) (h : ruleS l t = .ok (x, t')) : t.pos + 1 ≤ t'.pos := by
  have h0 := nx_one l t _ hd (by decide)
  unfold ruleS at h
  obtain ⟨n, t1, h1, h⟩ := bindR_ok h
  obtain ⟨y, t2, h2, h⟩ := bindR_ok h
  have a1 : (nx l t).pos ≤ t1.pos := by
    unfold eventS at h1; split at h1
    · cases h1; exact nx_mono l _
    · exact name_m h1
  have := block_m _ _ _ _ _ h2
  cases h; omega
def OutP (w : World) (b : Nat) (l : List UInt8) (X Y : Value) (r : PR (List Dc × List (Nat × NP × BT 8))) (e : Ending) (w' : World) : Prop :=
  match r with
  | .ok (x, t') => ∃ vd vr rows, e = .returned (ptr w.heap.size) ∧ RB w w' b l t' 0 0 X Y ∧ w'.heap[w.heap.size]? = some (.cells #[vd, vr] 67) ∧ w'.ownsRow (w.heap.size + 1) 73 6 vd x.1.length (flatD x.1) ∧ w'.ownsRow (w.heap.size + 1) 77 4 vr rows.length (flatU rows) ∧ RelU (SlR 8 w' (fun g => w.heap.size + 1 ≤ g)) rows x.2
  | .error (q, p) => Flt w b (if q then Y else X) p e w'

theorem decl_m {l : List UInt8} {t t' : Tok} {x : Dc} (hd : declB t.txt = true) (h : declS l t = .ok (x, t')) : t.pos + 1 ≤ t'.pos := by
  have h0 : t.pos + 1 ≤ (nx l t).pos := by
    simp only [declB, Bool.or_eq_true, beq_iff_eq] at hd
    rcases hd with ((e | e) | e) | e <;> exact nx_one l t _ e (by decide)
  unfold declS at h
  split at h
  · obtain ⟨n, t1, h1, h⟩ := bindR_ok h
    obtain ⟨_, t2, h2, h⟩ := bindR_ok h
    have := num_m h1; have := need_m h2; cases h; omega
  · obtain ⟨m, t1, h1, h⟩ := bindR_ok h
    obtain ⟨n, t2, h2, h⟩ := bindR_ok h
    obtain ⟨_, t3, h3, h⟩ := bindR_ok h
    have := name_m h1; have := num_m h2; have := need_m h3; cases h; omega

set_option maxRecDepth 20000 in
set_option maxHeartbeats 4000000 in
theorem policy_any {w : World} {b : Nat} {l : List UInt8} {t : Tok} {X Y : Value} (h : Rw w b l t 0 0 X Y) :
    Calls Tryd.prog 17 #[ptr b] w fun e w' => OutP w b l X Y (policyS l t) e w' := by
  have hgt := h.gt
  have HQ : Hid (policyS l t = bindR (declsS l (l.length + 1) t) fun ds t1 => bindR (rulesS l (l.length + 1) t1) fun rs t2 => endS l ds rs t2) := rfl
  generalize policyS l t = r at *
  go_enter Tryd.func17, Tryd.ntmps17
  go_wp2_with fail
  go_loopg [] (l.length + 1) (fun f wr => ∃ (done : List Dc) (t1 : Tok) (v : Value), Hid (r = bindR (declsS l f t1) fun ys t' => bindR (rulesS l (l.length + 1) t') fun rs t2 => endS l (done ++ ys) rs t2) ∧ l.length + 1 ≤ f + t1.pos ∧ done.length + f ≤ l.length + 1 ∧ RB w wr b l t1 0 0 X Y ∧ wr.heap[w.heap.size]? = some (.cells #[v, nilV] 67) ∧ wr.ownsRow (w.heap.size + 1) 73 6 v done.length (flatD done))
  case atStart =>
    exact ⟨[], t, nilV, HQ, by omega, by simp, (RB.refl h).alloc _, heap_new rfl, World.ownsRow_nil _ _ _ _⟩
  case round =>
    obtain ⟨done, t1, v, HR, hf, hn, hR, hP, hown⟩ := hrel
    have hpos := hR.r.bnd
    have hlen := hR.r.len
    cases gk with
    | zero => exfalso; omega
    | succ k =>
    have zP : w.heap.size < wr.heap.size := (Array.getElem?_eq_some_iff.1 hP).1
    obtain ⟨va, vk, vc, rfl⟩ := ownsRow_form2 hown
    by_cases hd : declB t1.txt = true
    · cases hv : declS l t1 with
      | error q =>
        obtain ⟨qd, pp⟩ := q
        have HE : Hid (r = .error (qd, pp)) := by
          show _ = _
          rw [HR.out]
          conv => lhs; unfold declsS
          rw [if_pos hd, hv]; rfl
        have HV : Hid (declS l t1 = .error (qd, pp)) := hv
        clear hv HR
        obtain ⟨cp, cpf⟩ := blk_cells hP
        go_wp2_with (go_at_call 35; refine (isDecl_any hR.r).mono ?_; rintro e w' ⟨rfl, rfl⟩)
        go_region_dies
        all_goals
          refine (decl_er hR.drew.r HV.out).mono ?_
          rintro e we h3
          obtain ⟨f, rfl, hf2⟩ := h3.from hR.drew.k
          clear h3
          refine ⟨rfl, ?_⟩
          rw [HE.out]
          exact ⟨f, rfl, hf2⟩
      | ok q =>
        obtain ⟨x, t2⟩ := q
        have hadv := decl_m hd hv
        have HS : Hid (r = bindR (declsS l k t2) fun ys t' => bindR (rulesS l (l.length + 1) t') fun rs t2 => endS l ((done ++ [x]) ++ ys) rs t2) := by
          show _ = _
          rw [HR.out]
          conv => lhs; unfold declsS
          rw [if_pos hd, hv]
          show bindR (bindR (declsS l k t2) _) _ = _
          rw [bindR_assoc]
          simp only [bindR, List.append_assoc, List.singleton_append]
        have HV : Hid (declS l t1 = .ok (x, t2)) := hv
        clear hv HR
        obtain ⟨cp, cpf⟩ := blk_cells hP
        go_wp2_with (go_at_call 35; refine (isDecl_any hR.r).mono ?_; rintro e w' ⟨rfl, rfl⟩)
        obtain ⟨i0, hi, hz0, hz1, hz2⟩ := info_parts info_dc
        have hbd : done.length + 1 ≤ maxLen := by simp only [maxLen]; omega
        have hby : (done.length + 1) * 64 ≤ 140737488355328 := by omega
        go_region_law (first
          | (refine step_append_own rfl (.tmp 12) (.tmp 15) 64 rfl (w.heap.size + 1) 73 i0 (.agg (dcA ⟨[], 0, ([], 0), (0, 0)⟩)) 6 64 Tryd.underlying64 hi hz0 hz1 hz2 rfl (by decide) (.slice va vk vc) done.length (flatD done) (by simp [Act.eval]) how4 ⟨w4.heap.size, 0, none⟩ 1 1 (dcA x).toList (by simp [Act.eval]) rfl (row_cells _ _ _) (dcA_one _) hbd hby hz4 ?_; intro v' w6 hown6 hgrow hat; obtain ⟨ya, yk, yc, rfl⟩ := ownsRow_form2 hown6; have hP6 := (hgrow.block w.heap.size hzz hrow).trans hP5; obtain ⟨cq, cqf⟩ := blk_cells hP6)
          | (refine wanted_pos rfl ?_; go_simp; go_at_call 36; go_must (refine (decl_ok hR.drew.r HV.out).mono ?_; rintro e w4 ⟨rfl, R4⟩; have H4 := hR.drew.trans R4; have hP4 := (R4.k.block w.heap.size zP (by omega)).trans hP; have z4 := R4.k.size; have how4 := ownsRow_moveB (w' := w4.alloc (.cells (dcA x) 73)) hown (fun g hg hl => (Below.heap_alloc _ _ _ (Nat.lt_of_lt_of_le hl z4)).trans (R4.k.block g hl (by have := (hown.lt g hg).1; omega))); have z5 : w'.heap.size ≤ w4.heap.size := z4; have z6 : w.heap.size < w4.heap.size := Nat.lt_of_lt_of_le zP z4; have hz4 : w.heap.size + 1 ≤ (w4.alloc (.cells (dcA x) 73)).heap.size := (by first | omega | (simp; done) | (simp; omega)); have hP5 : (w4.alloc (.cells (dcA x) 73)).heap[w.heap.size]? = _ := (Below.heap_alloc _ _ _ (Nat.lt_of_lt_of_le zP z4)).trans hP4; have hzz : w.heap.size < (w4.alloc (.cells (dcA x) 73)).heap.size := hz4; have hrow : some w.heap.size ≠ (Value.slice va vk vc).ownBlock := (fun e => by have := (hown.lt _ e.symm).1; omega); obtain ⟨cp4, cpf4⟩ := blk_cells hP4)))
        all_goals
          go_wp2_with fail
          go_roundg k
          case measure => omega
          case rel =>
            refine ⟨done ++ [x], t2, .slice ya yk yc, HS, by omega, by simp; omega, (((H4.alloc _).grown hgrow (fun g hg => by have := (hown.lt g hg).1; omega)).set (Nat.le_refl _) _ _), (heap_setCell_same _ _ _ _ _ _ hP6).trans rfl, ?_⟩
            rw [flatD_snoc, List.length_append]
            refine ownsRow_moveB hown6 (fun g hg _ => Below.heap_setCell _ _ _ _ ?_)
            have := (hown6.lt g hg).1
            show g ≠ w.heap.size
            omega
    · have hdf : declB t1.txt = false := by simpa using hd
      have HS : Hid (r = bindR (rulesS l (l.length + 1) t1) fun rs t2 => endS l done rs t2) := by
        show _ = _
        rw [HR.out]
        conv => lhs; unfold declsS
        rw [if_neg hd]
        simp [bindR]
      clear HR hd HQ
      go_wp2_with (go_at_call 35; refine (isDecl_any hR.r).mono ?_; rintro e w' ⟨rfl, rfl⟩)
      go_loopg [] (l.length + 1) (fun f wr => ∃ (rows : List (Nat × NP × Value)) (rs : List (Nat × NP × BT 8)) (t2 : Tok) (v : Value), Hid (r = bindR (rulesS l f t2) fun ys t' => endS l done (rs ++ ys) t') ∧ l.length + 1 ≤ f + t2.pos ∧ rows.length + f ≤ l.length + 1 ∧ RB w wr b l t2 0 0 X Y ∧ wr.heap[w.heap.size]? = some (.cells #[.slice va vk vc, v] 67) ∧ wr.ownsRow (w.heap.size + 1) 73 6 (.slice va vk vc) done.length (flatD done) ∧ wr.ownsRow (w.heap.size + 1) 77 4 v rows.length (flatU rows) ∧ RelU (SlR 8 wr (fun g => w.heap.size + 1 ≤ g ∧ v.ownBlock ≠ some g)) rows rs ∧ (∀ g, (Value.slice va vk vc).ownBlock = some g → v.ownBlock ≠ some g))
      case atStart =>
        exact ⟨[], [], t1, nilV, HS, by omega, by simp, hR, hP, hown, World.ownsRow_nil _ _ _ _, trivial, fun g _ e => by simp [Value.ownBlock] at e⟩
      case round =>
        obtain ⟨rows, rs, t2, v, HR, hf2, hn2, hR2, hP2, hown2, hownv, hrelv, hav⟩ := hrel
        have hpos2 := hR2.r.bnd
        cases gk with
        | zero => exfalso; omega
        | succ k2 =>
        have zP2 : w.heap.size < wr.heap.size := (Array.getElem?_eq_some_iff.1 hP2).1
        obtain ⟨ba, bk, bc, rfl⟩ := ownsRow_form2 hownv
        obtain ⟨c0, c1, c2, c3, c4, c5⟩ := hR2.r.rd.cells
        by_cases ho : t2.txt = [111, 110]
        · have b1 : (t2.txt == [111, 110]) = true := by simp [ho]
          cases hv : ruleS l t2 with
          | error q =>
            obtain ⟨qd, pp⟩ := q
            have HE : Hid (r = .error (qd, pp)) := by
              show _ = _
              rw [HR.out]
              conv => lhs; unfold rulesS
              rw [if_pos ho, hv]; rfl
            have HV : Hid (ruleS l t2 = .error (qd, pp)) := hv
            clear hv HR ho
            obtain ⟨cp, cpf⟩ := blk_cells hP2
            go_wp2_with fail
            go_region_dies
            all_goals
              refine (rule_er hR2.drew.r HV.out).mono ?_
              rintro e we h3
              obtain ⟨f, rfl, hg2⟩ := h3.from hR2.drew.k
              clear h3
              refine ⟨rfl, ?_⟩
              rw [HE.out]
              exact ⟨f, rfl, hg2⟩
          | ok q =>
            obtain ⟨x, t3⟩ := q
            have hadv := rule_m ho hv
            have HT : Hid (r = bindR (rulesS l k2 t3) fun ys t' => endS l done ((rs ++ [x]) ++ ys) t') := by
              show _ = _
              rw [HR.out]
              conv => lhs; unfold rulesS
              rw [if_pos ho, hv]
              show bindR (bindR (rulesS l k2 t3) _) _ = _
              rw [bindR_assoc]
              simp only [bindR, List.append_assoc, List.singleton_append]
            have HV : Hid (ruleS l t2 = .ok (x, t3)) := hv
            clear hv HR ho
            obtain ⟨cp, cpf⟩ := blk_cells hP2
            go_wp2_with fail
            clear c0 c1 c2 c3 c4 c5 b1
            obtain ⟨i0, hi, hz0, hz1, hz2⟩ := info_parts info_ru
            have hbd : rows.length + 1 ≤ maxLen := by simp only [maxLen]; omega
            have hby : (rows.length + 1) * 56 ≤ 140737488355328 := by omega
            go_region_law (first
              | (refine step_append_own rfl (.tmp 29) (.tmp 32) 65 rfl (w.heap.size + 1) 77 i0 (.agg (ruA 0 ([], 0) nilV)) 4 56 Tryd.underlying65 hi hz0 hz1 hz2 rfl (by decide) (.slice ba bk bc) rows.length (flatU rows) (by simp [Act.eval]) how4 ⟨w4.heap.size, 0, none⟩ 1 1 (ruA x.1 x.2.1 (.slice ua uk uc)).toList (by simp [Act.eval]) rfl (row_cells _ _ _) (ruA_one _ _ _ _ _) hbd hby hz4 ?_; intro v' w6 hown6 hgrow hat; obtain ⟨ya, yk, yc, rfl⟩ := ownsRow_form2 hown6; have hP6 := (hgrow.block w.heap.size hzz hrow).trans hP5; obtain ⟨cq, cqf⟩ := blk_cells hP6)
              | (refine wanted_pos rfl ?_; go_simp; go_at_call 37; go_must (refine (rule_ok hR2.drew.r HV.out).mono ?_; rintro e w4 ⟨u, rfl, R4, S4⟩; obtain ⟨ua, uk, uc, rfl⟩ := SlR.form 8 _ _ S4; have H4 := hR2.drew.trans R4; have hP4 := (R4.k.block w.heap.size zP2 (by omega)).trans hP2; have z4 := R4.k.size; have how4 := ownsRow_moveB (w' := w4.alloc (.cells (ruA x.1 x.2.1 (.slice ua uk uc)) 77)) hownv (fun g hg hl => (Below.heap_alloc _ _ _ (Nat.lt_of_lt_of_le hl z4)).trans (R4.k.block g hl (by have := (hownv.lt g hg).1; omega))); have z5 : wr.heap.size ≤ w4.heap.size := z4; have z6 : w.heap.size < w4.heap.size := Nat.lt_of_lt_of_le zP2 z4; have hz4 : w.heap.size + 1 ≤ (w4.alloc (.cells (ruA x.1 x.2.1 (.slice ua uk uc)) 77)).heap.size := (by first | omega | (simp; done) | (simp; omega)); have hP5 : (w4.alloc (.cells (ruA x.1 x.2.1 (.slice ua uk uc)) 77)).heap[w.heap.size]? = _ := (Below.heap_alloc _ _ _ z6).trans hP4; have hzz : w.heap.size < (w4.alloc (.cells (ruA x.1 x.2.1 (.slice ua uk uc)) 77)).heap.size := hz4; have hrow : some w.heap.size ≠ (Value.slice ba bk bc).ownBlock := (fun e => by have := (hownv.lt _ e.symm).1; omega); obtain ⟨cp4, cpf4⟩ := blk_cells hP4)))
            all_goals
              go_wp2_with fail
              go_roundg k2
              case measure => omega
              case rel =>
                have hlt3 : ∀ g, (Value.slice ba bk bc).ownBlock = some g → w.heap.size + 1 ≤ g ∧ g < wr.heap.size := fun g hg => hownv.lt g hg
                have hag : ∀ g, g < w4.heap.size → (Value.slice ba bk bc).ownBlock ≠ some g → g ≠ w.heap.size → (w6.setCell ⟨w.heap.size, 1, none⟩ (.slice ya yk yc)).heap[g]? = w4.heap[g]? := fun g hl hne hp => (Below.heap_setCell _ _ _ _ hp).trans ((hgrow.block g (by simp; omega) (fun e => hne e.symm)).trans (Below.heap_alloc _ _ _ hl))
                have hvn : ∀ g, g < w4.heap.size → (Value.slice ba bk bc).ownBlock ≠ some g → (Value.slice ya yk yc).ownBlock ≠ some g := fun g hl hne e => by
                  rcases hat with h1 | h1
                  · exact hne (h1.symm.trans e)
                  · rw [h1] at e; simp at e; omega
                refine ⟨rows ++ [(x.1, x.2.1, .slice ua uk uc)], rs ++ [x], t3, .slice ya yk yc, HT, by omega, by simp; omega, (((H4.alloc _).grown hgrow (fun g hg => by have := hlt3 g hg; omega)).set (Nat.le_refl _) _ _), (heap_setCell_same _ _ _ _ _ _ hP6).trans rfl, ?_, ?_, ?_, ?_⟩
                · refine ownsRow_moveB hown2 (fun g hg hl => ?_)
                  have h1 := (hown2.lt g hg).1
                  exact (hag g (by omega) (hav g hg) (by omega)).trans (R4.k.block g hl (by omega))
                · rw [flatU_snoc, List.length_append]
                  refine ownsRow_moveB hown6 (fun g hg _ => Below.heap_setCell _ _ _ _ ?_)
                  have := (hown6.lt g hg).1
                  show g ≠ w.heap.size
                  omega
                · refine RelU.snoc (x.1, x.2.1, .slice ua uk uc) x rfl rfl ?_ rows rs ?_
                  · exact SlR.mono 8 (fun g hg => ⟨by have : wr.heap.size ≤ g := hg.1; omega, hvn g hg.2 (fun e => by have := hlt3 g e; have : wr.heap.size ≤ g := hg.1; omega)⟩) _ _ (SlR.move 8 (fun g hg hl => hag g hl (fun e => by have := hlt3 g e; have : wr.heap.size ≤ g := hg.1; omega) (by have : wr.heap.size ≤ g := hg.1; omega)) _ _ (SlR.there 8 _ _ S4))
                  · refine RelU.mono (fun v x hv => ?_) _ _ hrelv
                    have h1 : SlR 8 wr (fun g => (w.heap.size + 1 ≤ g ∧ (Value.slice ba bk bc).ownBlock ≠ some g) ∧ g < wr.heap.size) v x := SlR.there 8 v x hv
                    have h2 := SlR.move (w' := w6.setCell ⟨w.heap.size, 1, none⟩ (.slice ya yk yc)) 8 (fun g hg hl => (hag g (by omega) hg.1.2 (by omega)).trans (R4.k.block g hl (by omega))) v x h1
                    exact SlR.mono 8 (fun g hg => ⟨hg.1.1, hvn g (by omega) hg.1.2⟩) v x h2
                · intro g hg
                  exact hvn g (by have := (hown2.lt g hg).2; omega) (hav g hg)
        · have b1 : (t2.txt == [111, 110]) = false := by simpa using ho
          have HT : Hid (r = endS l done rs t2) := by
            show _ = _
            rw [HR.out]
            conv => lhs; unfold rulesS
            rw [if_neg ho]
            simp [bindR]
          clear HR ho
          go_wp2_with fail
          by_cases hk : t2.kind = 1
          · refine (needKind_yes 1 hR2.r hk).mono ?_
            rintro e w4 ⟨rfl, R4⟩
            have HE : Hid (r = .ok ((done, rs), nx l t2)) := by show _ = _; rw [HT.out]; unfold endS; rw [if_pos hk]
            clear HT hk c0 c1 c2 c3 c4 c5
            go_wp2_with fail
            go_ret
            rw [HE.out]
            refine ⟨.slice va vk vc, .slice ba bk bc, rows, rfl, hR2.trans R4, (R4.k.block _ zP2 (by omega)).trans hP2, ?_, ?_, ?_⟩
            · exact ownsRow_moveB hown2 (fun g hg hl => R4.k.block g hl (by have := (hown2.lt g hg).1; omega))
            · exact ownsRow_moveB hownv (fun g hg hl => R4.k.block g hl (by have := (hownv.lt g hg).1; omega))
            · refine RelU.mono (fun v x hv => ?_) _ _ hrelv
              exact SlR.mono 8 (fun g hg => hg.1) v x (SlR.move 8 (fun g hg hl => R4.k.block g hl (by omega)) v x hv)
          · refine (needKind_no 1 hR2.r hk).mono ?_
            rintro e we h3
            obtain ⟨f, rfl, hg2⟩ := h3.from hR2.k
            have HE : Hid (r = .error (false, t2.pos)) := by show _ = _; rw [HT.out]; unfold endS; rw [if_neg hk]
            clear h3 HT c0 c1 c2 c3 c4 c5
            go_wp2_with fail
            rw [HE.out]
            exact ⟨rfl, f, rfl, hg2⟩
end Go.Proofs.YtippenbbibfmdabDoor
