import Derived.Laws.MakeOwn
import Derived.Test.YtfddoieakfpagabGreatDoorJD
import Derived.Test.YtfddoieakfpagabGreatDoorHC
import Derived.Test.YtfddoieakfpagabGreatDoorJE
namespace Go.Proofs.YtfddoieakfpagabGreatDoor
set_option maxHeartbeats 8000000
set_option maxRecDepth 20000
open Go.RowKit
structure Fo (own : Nat -> Prop) (w w' : World) : Prop where
 os : w'.os = w.os
 tape : w'.tape = w.tape
 output : w'.output = w.output
 size : w.heap.size <= w'.heap.size
 block : ∀ k, k < w.heap.size -> ¬ own k -> w'.heap[k]? = w.heap[k]?
theorem Fo.of {own : Nat -> Prop} {w w' : World} (h : Below w.heap.size w w') : Fo own w w' := ⟨h.os, h.tape, h.output, h.size, fun k hk _ => h.block k hk⟩
theorem Fo.trans {own own' : Nat -> Prop} {a b c : World} (h : Fo own a b) (h' : Fo own' b c) (ho : ∀ k, own' k -> own k \/ a.heap.size <= k) : Fo own a c :=
 ⟨h'.os.trans h.os, h'.tape.trans h.tape, h'.output.trans h.output, Nat.le_trans h.size h'.size, fun k hk hn => (h'.block k (Nat.lt_of_lt_of_le hk h.size) (fun e => by rcases ho k e with e | e; exact hn e; omega)).trans (h.block k hk hn)⟩
theorem Fo.mono {own own' : Nat -> Prop} {a b : World} (h : Fo own a b) (ho : ∀ k, own k -> own' k) : Fo own' a b := ⟨h.os, h.tape, h.output, h.size, fun k hk hn => h.block k hk (fun e => hn (ho k e))⟩
structure Mw (w : World) (mb nb : Nat) (dom : Nat -> Prop) (c : Cc) (A : Ar) (V : List Nat) (v : Nat -> Value) (rm lo0 ab mp : Nat) (x y vs : Value) : Prop where
 at' : w.heap[mb]? = some (.cells (mcA v c.mf rm (ptr ab) vs) 93)
 pg : PgF w lo0 mb rm v c
 ar : Aw w 0 ab mp x y A
 va : w.ownsRow 0 3 1 vs V.length (ints V)
 off : ∀ k, AMine ab mp x y k \/ vs.ownBlock = some k -> dom k /\ k ≠ mb /\ ¬ (nb <= k /\ k < mb)
 offV : ∀ g, vs.ownBlock = some g -> ¬ AMine ab mp x y g
 dm : dom mb
 dp : ∀ k, nb <= k -> k < mb -> dom k
 dl : ∀ k, dom k -> k < w.heap.size
 nl : nb <= lo0
def Mv (w : World) (mb nb : Nat) (dom : Nat -> Prop) (c : Cc) (A : Ar) (V : List Nat) : Prop := ∃ v rm lo0 ab mp x y vs, Mw w mb nb dom c A V v rm lo0 ab mp x y vs
section
variable {w w' : World} {mb nb : Nat} {dom : Nat -> Prop} {c : Cc} {A : Ar} {V : List Nat} {v : Nat -> Value} {rm lo0 ab mp : Nat} {x y vs : Value}
theorem Mw.lt (h : Mw w mb nb dom c A V v rm lo0 ab mp x y vs) : mb < w.heap.size := (Array.getElem?_eq_some_iff.1 h.at').1
theorem Mw.keep (h : Mw w mb nb dom c A V v rm lo0 ab mp x y vs) (hs : w.heap.size <= w'.heap.size) (hb : ∀ k, k < w.heap.size -> dom k -> w'.heap[k]? = w.heap[k]?) : Mw w' mb nb dom c A V v rm lo0 ab mp x y vs :=
 ⟨(hb mb h.lt h.dm).trans h.at', h.pg.move (fun g hg hl => hb g (by have := h.lt; omega) (h.dp g (by have := h.nl; omega) hl)), h.ar.keep (fun k hk => hb k (h.ar.lt hk).2 (h.off k (Or.inl hk)).1), own_mv h.va (fun g hg hl => hb g hl (h.off g (Or.inr hg)).1), h.off, h.offV, h.dm, h.dp, fun k hk => Nat.lt_of_lt_of_le (h.dl k hk) hs, h.nl⟩
theorem Mv.keep (h : Mv w mb nb dom c A V) (hs : w.heap.size <= w'.heap.size) (hb : ∀ k, k < w.heap.size -> dom k -> w'.heap[k]? = w.heap[k]?) : Mv w' mb nb dom c A V := by
 obtain ⟨v, rm, lo0, ab, mp, x, y, vs, h⟩ := h
 exact ⟨v, rm, lo0, ab, mp, x, y, vs, h.keep hs hb⟩
theorem relm_look {α β : Type} {R : α -> β -> Prop} (k : List UInt8) : ∀ {m : List (List UInt8 × α)} {t : List (List UInt8 × β)}, RelM R m t -> (lookV k m = none /\ lookV k t = none) \/ ∃ u s, lookV k m = some u /\ lookV k t = some s /\ R u s
 | [], [], _ => Or.inl ⟨rfl, rfl⟩
 | p :: m, q :: t, ⟨h1, h2, h3⟩ => by
  unfold lookV
  by_cases e : p.1 = k
  ·rw [if_pos e, if_pos (h1 ▸ e)]
   exact Or.inr ⟨_, _, rfl, rfl, h2⟩
  ·rw [if_neg e, if_neg (h1 ▸ e)]
   exact relm_look k h3
theorem zero_steps (W : World) : (zeroValue 129).run Tryz.prog W = .ok (.slice none 0 0) W := by kernel_rfl
theorem und_rules : Tryz.prog.underlying 86 = some (.map 9 129) := by kernel_rfl
theorem Mw.steps (h : Mw w mb nb dom c A V v rm lo0 ab mp x y vs) (ev : List UInt8) (hev : ev.length <= 700) (W : World) (hW : ∀ k, lo0 <= k -> k < mb -> W.heap[k]? = w.heap[k]?) : ∃ sa sc, (Instr.lookup 86 (.map (some rm)) (S ev) false).run Tryz.prog W = .ok (.slice sa ((lookV ev c.rt).getD []).length sc) W /\ w.ownsRow lo0 193 14 (.slice sa ((lookV ev c.rt).getD []).length sc) ((lookV ev c.rt).getD []).length (flatP ((lookV ev c.rt).getD [])) /\ ∀ g, (Value.slice sa ((lookV ev c.rt).getD []).length sc).ownBlock = some g -> g < mb := by
 obtain ⟨wp, h1, h2, h3⟩ := h.pg
 obtain ⟨k, m, hk, hm, hrel⟩ := h1.ru
 have hrm : lo0 <= rm /\ rm < wp.heap.size := ⟨h1.low, hm.lt⟩
 have hm' : MapV W rm k m := hm.move ((hW rm hrm.1 (by omega)).trans (h3 rm hrm.1 hrm.2))
 have hget := hm'.get und_rules (zero_steps W) ev hev
 have := relm_look ev hrel
 rcases this with ⟨e1, e2⟩ | ⟨u, st, e1, e2, hu⟩
 ·rw [e1] at hget
  rw [e2]
  exact ⟨none, 0, hget, World.ownsRow_nil w lo0 _ 14, fun g hg => by simp [Value.ownBlock] at hg⟩
 ·rw [e1] at hget
  rw [e2]
  have hlt := hu.lt
  have hu2 : w.ownsRow lo0 193 14 u st.length (flatP st) := own_mv hu (fun g hg hl => h3 g (hlt g hg).1 hl)
  have hf : ∃ sa sc, u = .slice sa st.length sc := by
   rcases hu.2 with ⟨k1, k2⟩ | ⟨g, cap, cur, k1, _⟩
   ·exact ⟨none, 0, by rw [k1, k2]⟩
   ·exact ⟨_, _, k1⟩
  obtain ⟨sa, sc, rfl⟩ := hf
  exact ⟨sa, sc, hget, hu2, fun g hg => by have := (hlt g hg).2; omega⟩
def OutRu (w : World) (lo0 mb : Nat) (st : List Stp) (e : Ending) (w' : World) : Prop := ∃ sa sc, e = .returned (.slice sa st.length sc) /\ Below w.heap.size w w' /\ w.ownsRow lo0 193 14 (.slice sa st.length sc) st.length (flatP st) /\ ∀ g, (Value.slice sa st.length sc).ownBlock = some g -> g < mb
theorem ix_str (g n cap k : Nat) (hk : k < n) : ∀ W : World, (Instr.indexAt 40 (.slice (some ⟨g, 0, none⟩) n cap) (.int .i64 k)).run Tryz.prog W = .ok (.pointer (some ⟨g, k, none⟩)) W := by
 intro W
 rw [run_indexAt_slice (h := by kernel_rfl), if_pos (by omega)]
 have : (sizeOf (Tryz.prog.elem 40)).run Tryz.prog W = .ok 1 W := by kernel_rfl
 rw [this]
 simp [Result.andThen, Addr.add]
 try omega
theorem mrule_any (h : Mw w mb nb dom c A V v rm lo0 ab mp x y vs) (key : Nat) (hk : key < key64) (ev : List UInt8) (he : evOf c A key = some ev) (hl : ∀ e ∈ c.ev, e.length <= 700) :
  Calls Tryz.prog 52 #[ptr mb, .int .u64 key] w (OutRu w lo0 mb ((lookV ev c.rt).getD [])) := by
 obtain ⟨c1, cf1⟩ := blk_cl h.at'
 unfold evOf at he
 simp only [Option.bind_eq_some_iff] at he
 obtain ⟨⟨q, ok⟩, hq, he⟩ := he
 have HF := afind_any h.ar key hk q ok hq
 cases ok with
 | false =>
  simp only [Bool.false_eq_true, if_false, Option.some.injEq] at he
  subst he
  obtain ⟨sa, sc, hget, ho, hg⟩ := h.steps [109, 105, 115, 115] (by decide) w (fun _ _ _ => rfl)
  have HO : Hid (OutRu w lo0 mb ((lookV [109, 105, 115, 115] c.rt).getD []) (.returned (.slice sa ((lookV [109, 105, 115, 115] c.rt).getD []).length sc)) w) := ⟨sa, sc, rfl, Below.refl _ _, ho, hg⟩
  generalize (lookV [109, 105, 115, 115] c.rt).getD [] = st at *
  clear ho hg
  go_enter Tryz.func52, Tryz.ntmps52
  go_wp2_with fail
  refine HF.mono ?_
  rintro e w1 ⟨rfl, rfl⟩
  go_wp2_with fail
  go_ret
  exact HO.out
 | true =>
  simp only [if_true] at he
  have hev := hl ev (List.mem_of_getElem? he)
  have hn := (List.getElem?_eq_some_iff.1 he).1
  have how : w.ownsRow lo0 9 1 (v 0) c.ev.length (c.ev.map S) := h.pg.pg.own 0 (by decide) (by decide)
  obtain ⟨g0, cap0, e1, _, _, e4⟩ := row_at how (by omega)
  have hc0 : w.cell? ⟨g0, q, none⟩ = some (S ev) := by rw [e4 q (by omega)]; simp [he]
  have hix := ix_str g0 c.ev.length cap0 q hn
  obtain ⟨sa, sc, hget, ho, hg⟩ := h.steps ev hev w.drew (fun _ _ _ => rfl)
  have HO : Hid (OutRu w lo0 mb ((lookV ev c.rt).getD []) (.returned (.slice sa ((lookV ev c.rt).getD []).length sc)) w.drew) := ⟨sa, sc, rfl, bdrw (Below.refl _ _), ho, hg⟩
  generalize (lookV ev c.rt).getD [] = st at *
  simp only [mcA] at c1
  rw [e1] at c1
  clear ho hg how e4
  go_enter Tryz.func52, Tryz.ntmps52
  go_wp2_with fail
  refine HF.mono ?_
  rintro e w1 ⟨rfl, rfl⟩
  go_wp2_with fail
  go_region
  all_goals
   go_wp2_with fail
   go_ret
   exact HO.out
end
section
variable {w w' : World} {mb nb : Nat} {dom : Nat -> Prop} {c : Cc} {A : Ar} {V : List Nat} {v : Nat -> Value} {rm lo0 ab mp : Nat} {x y vs : Value} {E : Nat -> Addr}
def OutAc (w : World) (mb nb : Nat) (dom : Nat -> Prop) (c : Cc) (E : Nat -> Addr) (hit : Bool) (r : Except (Nat × Nat) Rn) (e : Ending) (w' : World) : Prop := match r with
 | .error (i, p) => ∃ f, e = .returned (.tuple #[.bool false, .slice none 0 0, .iface 96 (.pointer (some ⟨f, 0, none⟩))]) /\ w.heap.size <= f /\ w'.heap[f]? = some (.cells #[.iface 278 (.pointer (some (E i))), .int .i64 p] 98) /\ Below w.heap.size w w'
 | .ok R => ∃ ev dom', e = .returned (.tuple #[.bool hit, ev, .nilIface]) /\ Fo (fun k => k = mb) w w' /\ Mv w' mb nb dom' c R.A R.vars /\ (∀ k, dom' k -> dom k \/ w.heap.size <= k) /\ (∀ k, dom k -> dom' k) /\ w'.ownsRow w.heap.size 27 1 ev R.ev.length (keysV R.ev) /\ ∀ g, ev.ownBlock = some g -> ¬ dom' g
theorem Mw.run (h : Mw w mb nb dom c A V v rm lo0 ab mp x y vs) {wc : World} (hb : Below w.heap.size w wc) {ab' mp' : Nat} {x' y' vs' : Value} (hA : Aw wc w.heap.size ab' mp' x' y' A) (hv : wc.ownsRow w.heap.size 3 1 vs' V.length (ints V)) (hs : ∀ g, vs'.ownBlock = some g -> ¬ AMine ab' mp' x' y' g) (key : Nat)
  (e1 : w.cell? ⟨10, 0, none⟩ = some (.iface 278 (.pointer (some (E 10))))) (e2 : w.cell? ⟨11, 0, none⟩ = some (.iface 278 (.pointer (some (E 11))))) (l1 : 10 < w.heap.size) (l2 : 11 < w.heap.size) :
  RH (wc.alloc (.cells #[ptr mb, ptr ab', vs', .int .u64 key, .slice none 0 0, .int .i64 0, .int .i64 0] 127)) w.heap.size wc.heap.size mb ab' mp' vs' noF key c E ⟨A, V, [], 0, 0⟩ := by
 have hb2 : Below wc.heap.size wc (wc.alloc (.cells #[ptr mb, ptr ab', vs', .int .u64 key, .slice none 0 0, .int .i64 0, .int .i64 0] 127)) := (Below.refl _ _).alloc (Nat.le_refl _) _
 have hb3 := hb.trans (hb2.mono hb.size)
 refine ⟨⟨x', y', .slice none 0 0, ⟨heap_new rfl, hA.grow hb2, own_grow hv hb2, World.ownsRow_nil _ _ _ 1, fun hm => by have := (hA.lt hm).2; omega, fun g hg => ⟨by have := (hv.lt g hg).2; omega, hs g hg, by simp [Value.ownBlock]⟩, fun g hg => by simp [Value.ownBlock] at hg, hb.size, fun k o hk => by cases hk⟩⟩, ⟨⟨v, lo0, rm, ptr ab, vs, (hb3.block mb h.lt).trans h.at', h.pg.move (fun g _ hl => hb3.block g (by have := h.lt; omega))⟩, h.lt, hb3.size⟩, (hb3.cell (p := ⟨10, 0, none⟩) l1).trans e1, (hb3.cell (p := ⟨11, 0, none⟩) l2).trans e2, l1, l2⟩
theorem Mw.form (h : Mw w mb nb dom c A V v rm lo0 ab mp x y vs) : ∃ va vc, vs = .slice va V.length vc := by
 rcases h.va.2 with ⟨k1, k2⟩ | ⟨g, cap, cur, k1, _⟩
 ·exact ⟨none, 0, by rw [k1, k2]⟩
 ·exact ⟨_, _, k1⟩
theorem macc_any (h : Mw w mb nb dom c A V v rm lo0 ab mp x y vs) (hn : A.nodes.length <= 1000000) (hqn : A.qs.length <= 1000000) (hvn : V.length <= 1000000) (key : Nat) (hk : key < key64) (ev : List UInt8) (he : evOf c A key = some ev) (hl : ∀ e ∈ c.ev, e.length <= 700) (hit : Bool) (hh : cachedS c A key = some hit)
  (e1 : w.cell? ⟨10, 0, none⟩ = some (.iface 278 (.pointer (some (E 10))))) (e2 : w.cell? ⟨11, 0, none⟩ = some (.iface 278 (.pointer (some (E 11))))) (l1 : 10 < w.heap.size) (l2 : 11 < w.heap.size)
  (hsn : ((lookV ev c.rt).getD []).length <= 900000) (htg : ∀ s ∈ (lookV ev c.rt).getD [], s.target <= 900000) (f0 : Nat) (r : Except (Nat × Nat) Rn) (hgo : Rn.go c key ((lookV ev c.rt).getD []) f0 0 ⟨A, V, [], 0, 0⟩ = some r) :
  Calls Tryz.prog 34 #[ptr mb, .int .u64 key] w (OutAc w mb nb dom c E hit r) := by
 obtain ⟨va, vc, rfl⟩ := h.form
 obtain ⟨c1, cf1⟩ := blk_cl h.at'
 have HC := sclone_any h.ar.drew hn hqn V va vc (own_mv h.va (w' := w.drew) (fun _ _ _ => rfl)) hvn
 have HR0 : Hid (∀ wc, Below w.heap.size w wc -> Mw wc mb nb dom c A V v rm lo0 ab mp x y (.slice va V.length vc)) := fun wc hb => h.keep hb.size (fun k hk _ => hb.block k hk)
 have HR1 : Hid (∀ (wc : World) (ab' mp' : Nat) (x' y' vs' : Value), Below w.heap.size w wc -> Aw wc w.heap.size ab' mp' x' y' A -> wc.ownsRow w.heap.size 3 1 vs' V.length (ints V) -> (∀ g, vs'.ownBlock = some g -> ¬ AMine ab' mp' x' y' g) -> RH (wc.alloc (.cells #[ptr mb, ptr ab', vs', .int .u64 key, .slice none 0 0, .int .i64 0, .int .i64 0] 127)) w.heap.size wc.heap.size mb ab' mp' vs' noF key c E ⟨A, V, [], 0, 0⟩) := fun wc ab' mp' x' y' vs' hb hA hv hs => h.run hb hA hv hs key e1 e2 l1 l2
 have HM : Hid (∀ wc, Mw wc mb nb dom c A V v rm lo0 ab mp x y (.slice va V.length vc) -> Calls Tryz.prog 52 #[ptr mb, .int .u64 key] wc (OutRu wc lo0 mb ((lookV ev c.rt).getD []))) := fun wc hm => mrule_any hm key hk ev he hl
 generalize hst : (lookV ev c.rt).getD [] = st at *
 have hlt := h.lt
 go_enter Tryz.func34, Tryz.ntmps34
 go_upto_region 1 with fail
 go_region_with (go_at_call 49; refine HC.mono ?_; rintro e wc ⟨ab', mp', x', y', vs', rfl, hA, hv, hs, Bc⟩; obtain ⟨va', vk', vc', rfl⟩ := ownsRow_form2 hv)
 all_goals
  have B1 : Below w.heap.size w wc := ⟨Bc.os, Bc.tape, Bc.output, Bc.size, Bc.block⟩
  have H1 := HR1.out wc ab' mp' x' y' _ B1 hA hv hs
  have B2 : Below w.heap.size w (wc.alloc (.cells #[ptr mb, ptr ab', .slice va' vk' vc', .int .u64 key, .slice none 0 0, .int .i64 0, .int .i64 0] 127)) := B1.alloc B1.size _
  have M2 := HR0.out _ B2
  clear HC HR0 HR1 c1 cf1 Bc
  go_wp2_with fail
  generalize wc.alloc (.cells #[ptr mb, ptr ab', .slice va' vk' vc', .int .u64 key, .slice none 0 0, .int .i64 0, .int .i64 0] 127) = w2 at *
  generalize wc.heap.size = rb at *
  obtain ⟨x1, y1, ev1, HX⟩ := H1.rx
  refine (rcached_any HX H1.pq key hk hit hh).mono ?_
  rintro e w3 ⟨rfl, rfl⟩
  go_wp2_with fail
  refine (HM.out w3 M2).mono ?_
  rintro e w4 ⟨sa, sc, rfl, B4, ho, hg⟩
  have H4 := H1.grow B4
  have HG := rgo_any H4 hk st sa sc (own_grow ho B4) (fun g hgg => by have := hg g hgg; omega) hsn htg f0 r hgo
  have hm4 := (B4.block mb (Nat.lt_of_lt_of_le hlt B2.size)).trans M2.at'
  have B5 := B2.trans (B4.mono B2.size)
  clear HM HX ho hg hgo
  go_wp2_with fail
  refine HG.mono ?_
  rintro e w5 ⟨B6, h6⟩
  have B7 := B5.trans B6
  cases r with
  | error q =>
   obtain ⟨qi, qp⟩ := q
   obtain ⟨fb, rfl, hfb, h7⟩ := h6
   clear HG
   go_wp2_with fail
   refine bodyPost_ret (v := .tuple #[.bool false, .slice none 0 0, .iface 96 (.pointer (some ⟨fb, 0, none⟩))]) (by simp [results, Tryz.results34, go_sem]) rfl ⟨fb, rfl, hfb, h7, B7⟩
  | ok R =>
   obtain ⟨rfl, x6, y6, ev6, HX6⟩ := h6
   have hm6 := (B6.block mb hlt).trans hm4
   obtain ⟨c6, cf6⟩ := blk_cl HX6.at'
   obtain ⟨c7, cf7⟩ := blk_cl hm6
   have hset : Hid (∀ k, k ≠ mb -> ((w5.setCell ⟨mb, 7, none⟩ (ptr ab')).setCell ⟨mb, 8, none⟩ (.slice va' vk' vc')).drew.heap[k]? = w5.heap[k]?) := fun k hk => (Below.heap_setCell _ ⟨mb, 8, none⟩ _ k hk).trans (Below.heap_setCell _ ⟨mb, 7, none⟩ _ k hk)
   have hat : Hid (((w5.setCell ⟨mb, 7, none⟩ (ptr ab')).setCell ⟨mb, 8, none⟩ (.slice va' vk' vc')).drew.heap[mb]? = some (.cells (mcA v c.mf rm (ptr ab') (.slice va' vk' vc')) 93)) := (heap_setCell_same _ _ 8 _ _ _ (heap_setCell_same _ _ 7 _ _ _ hm6)).trans rfl
   have hsz6 : Hid (((w5.setCell ⟨mb, 7, none⟩ (ptr ab')).setCell ⟨mb, 8, none⟩ (.slice va' vk' vc')).drew.heap.size = w5.heap.size) := by show _ = _; simp [World.setCell]
   have hfm : ∃ a k, ev6 = .slice a R.ev.length k := by
    rcases HX6.el.2 with ⟨k1, k2⟩ | ⟨g, cap, cur, k1, _⟩
    ·exact ⟨none, 0, by rw [k1, k2]⟩
    ·exact ⟨_, _, k1⟩
   obtain ⟨ea, ek, rfl⟩ := hfm
   clear HG
   go_wp2_with fail
   go_region
   all_goals
    go_wp2_with fail
    have hge : ∀ k, AMine ab' mp' x6 y6 k \/ (Value.slice va' vk' vc').ownBlock = some k -> w.heap.size <= k /\ k < w5.heap.size := fun k hk => by
     rcases hk with hk | hk
     ·exact HX6.ar.lt hk
     ·exact HX6.va.lt k hk
    have hM : Mw ((w5.setCell ⟨mb, 7, none⟩ (ptr ab')).setCell ⟨mb, 8, none⟩ (.slice va' vk' vc')).drew mb nb (fun k => dom k \/ AMine ab' mp' x6 y6 k \/ (Value.slice va' vk' vc').ownBlock = some k) c R.A R.vars v rm lo0 ab' mp' x6 y6 (.slice va' vk' vc') :=
     ⟨hat.out, h.pg.move (fun g _ hl => (hset.out g (by omega)).trans (B7.block g (by omega))), (HX6.ar.keep (fun k hk => hset.out k (by have := hge k (Or.inl hk); omega))).lower (Nat.zero_le _), own_low (own_mv HX6.va (fun g hg _ => hset.out g (by have := hge g (Or.inr hg); omega))) (Nat.zero_le _), fun k hk => ⟨Or.inr hk, by have := hge k hk; omega, by have := hge k hk; omega⟩, fun g hg => (HX6.offV g hg).2.1, Or.inl h.dm, fun k h1 h2 => Or.inl (h.dp k h1 h2), fun k hk => by
      rw [hsz6.out]
      rcases hk with hk | hk
      ·have := h.dl k hk; have := B7.size; omega
      ·exact (hge k hk).2, h.nl⟩
    refine bodyPost_ret (v := .tuple #[.bool hit, .slice ea R.ev.length ek, .nilIface]) (by simp [results, Tryz.results34, go_sem]) rfl ⟨_, _, rfl, ⟨B7.os, B7.tape, B7.output, by rw [hsz6.out]; exact B7.size, fun k hk hn => (hset.out k hn).trans (B7.block k hk)⟩, ⟨v, rm, lo0, ab', mp', x6, y6, _, hM⟩, fun k hk => ?_, fun k hk => Or.inl hk, own_mv HX6.el (fun g hg _ => hset.out g (by have := (HX6.el.lt g hg).1; omega)), fun g hg hd => ?_⟩
    ·rcases hk with hk | hk
     ·exact Or.inl hk
     ·exact Or.inr (hge k hk).1
    ·have h1 := HX6.el.lt g hg
     have h2 := HX6.offE g hg
     rcases hd with hd | hd | hd
     ·have := h.dl g hd; omega
     ·exact h2.2 hd
     ·exact (HX6.offV g hd).2.2 hg
end
theorem lk_at {N : List Nd} : ∀ {c : List Nat} {i a b : Nat}, Lk N c -> c[i]? = some a -> c[i + 1]? = some b -> nxt N a = some (b : Int) /\ prv N b = some a
 | [], i, a, b, _, h, _ => by simp at h
 | [_], 0, a, b, _, _, h => by simp at h
 | [_], i + 1, a, b, _, h, _ => by simp at h
 | x :: y :: l, 0, a, b, h, h1, h2 => by
  simp at h1 h2
  subst h1; subst h2
  exact h.1
 | x :: y :: l, i + 1, a, b, h, h1, h2 => lk_at (c := y :: l) h.2 (by simpa using h1) (by simpa using h2)
section
variable {w w' : World} {lo ab mp : Nat} {x y : Value} {A : Ar} {nq : Nat} {cap : Nat -> Nat} {I : Nat -> List Nat} {fr : List Nat}
theorem Rep.nextAt (hr : Rep A nq cap I fr []) {q : Nat} (hq : q < nq) : ∃ d b, A.nodes[q]? = some d /\ d.next = ((b : Nat) : Int) /\ (I q ++ [q])[0]? = some b := by
 obtain ⟨s, r, hs⟩ := cons_of q (I q)
 have h0 : (I q ++ [q])[0]? = some s := by rw [hs]; rfl
 have := (lk_at (i := 0) (a := q) (b := s) (hr.ring q hq) rfl (by rw [List.cons_append, hs]; rfl)).1
 unfold nxt at this
 cases hd : A.nodes[q]? with
 | none => rw [hd] at this; cases this
 | some d => rw [hd] at this; exact ⟨d, s, rfl, by simpa using this, h0⟩
theorem Rep.stepAt (hr : Rep A nq cap I fr []) {q k : Nat} (hq : q < nq) (hk : k < (I q).length) : ∃ n d b, (I q ++ [q])[k]? = some n /\ (I q)[k]? = some n /\ n ≠ q /\ A.nodes[n]? = some d /\ d.next = ((b : Nat) : Int) /\ (I q ++ [q])[k + 1]? = some b /\ (eN A.nodes n).1 = d.key /\ b <= 1000 /\ n <= 1000 := by
 have h1 : (I q)[k]? = some (I q)[k] := List.getElem?_eq_getElem hk
 have hm : (I q)[k] ∈ I q := List.getElem_mem hk
 obtain ⟨g1, d, g2, _⟩ := hr.ent q hq _ hm
 have h2 : (I q ++ [q])[k]? = some (I q)[k] := by rw [List.getElem?_append_left hk]; exact h1
 have hlt : k + 1 < (I q ++ [q]).length := by simp; omega
 have h3 : (I q ++ [q])[k + 1]? = some (I q ++ [q])[k + 1] := List.getElem?_eq_getElem hlt
 have := (lk_at (i := k + 1) (hr.ring q hq) (a := (I q)[k]) (b := (I q ++ [q])[k + 1]) (by rw [List.cons_append, List.getElem?_cons_succ]; exact h2) (by rw [List.cons_append, List.getElem?_cons_succ]; exact h3)).1
 unfold nxt at this
 rw [g2] at this
 have hb : (I q ++ [q])[k + 1] ∈ I q ++ [q] := List.getElem_mem hlt
 have hbl : (I q ++ [q])[k + 1] < A.nodes.length := hr.lt hq (by
  rcases List.mem_append.1 hb with e | e
  ·exact List.mem_cons_of_mem _ e
  ·rw [List.mem_singleton.1 e]; exact List.mem_cons_self)
 have hnl := hr.lt hq (n := (I q)[k]) (by simp)
 have hnb := hr.nlb
 have hnm := hr.nm
 exact ⟨_, d, _, h2, h1, by omega, g2, by simpa using this, h3, by unfold eN; rw [g2]; rfl, by omega, by omega⟩
theorem akeys_any (h : Aw w lo ab mp x y A) (hr : Rep A nq cap I fr []) (q : Nat) (hq : q < nq) :
  Calls Tryz.prog 39 #[ptr ab, .int .i64 q] w fun e w' => ∃ v, e = .returned v /\ w'.ownsRow w.heap.size 27 1 v (I q).length (keysV ((I q).map fun n => (eN A.nodes n).1)) /\ Below w.heap.size w w' := by
 have hlen : A.len q = some (I q).length := by unfold Ar.len; rw [hr.qs q hq]; rfl
 have h50 := hr.len hq
 have HL := alen_any h q _ hlen
 obtain ⟨i0, hi, hz0, hz1, hz2⟩ := info_parts info_u64
 obtain ⟨w1, hmk, ho1, hg1⟩ := run_make_own (P := Tryz.prog) w w.heap.size 22 27 i0 (.int .u64 0) 1 Tryz.underlying22 hi hz0 hz1 .i64 .i64 (I q).length (by rw [hz2]; omega) (by simp only [maxLen]; omega) (Nat.le_refl _)
 have B1 : Below w.heap.size w w1 := ⟨hg1.os, hg1.tape, hg1.output, hg1.size, fun k hk => hg1.block k hk (fun e => by cases e)⟩
 obtain ⟨d0, b0, hd0, hn0, hp0⟩ := hr.nextAt hq
 have hA1 := h.grow B1
 obtain ⟨g, cp, e1, _, hql, _, _, _, _, _, kn⟩ := hA1.nodeAt hd0
 obtain ⟨c1, cf1⟩ := blk_cl hA1.at'
 rw [e1] at c1
 rw [hn0] at kn
 have hix := ix_node g A.nodes.length cp q hql
 have hb0 : b0 <= 1000 := by
  have hm : b0 ∈ I q ++ [q] := List.mem_of_getElem? hp0
  have := hr.lt hq (n := b0) (by simp at hm ⊢; rcases hm with e | e <;> simp [e])
  have := hr.nlb; have := hr.nm
  omega
 go_enter Tryz.func39, Tryz.ntmps39
 go_wp2_with fail
 refine HL.mono ?_
 rintro e w2 ⟨rfl, rfl⟩
 go_wp2_with fail
 go_loopg [5, 6] (I q).length (fun f v5 v6 wr => ∃ (k b : Nat), k + f = (I q).length /\ v6 = .int .i64 b /\ (I q ++ [q])[k]? = some b /\ wr.ownsRow w2.heap.size 27 1 v5 k (keysV (((I q).take k).map fun n => (eN A.nodes n).1)) /\ Below w2.heap.size w2 wr)
 case atStart => exact ⟨0, b0, by omega, rfl, hp0, by simpa [keysV] using ho1, B1⟩
 case round =>
  obtain ⟨k, b, hk, rfl, hb, hown, HB⟩ := hrel
  have hz := HB.size
  have hAr := h.grow HB
  by_cases hlt : k < (I q).length
  ·obtain ⟨n, d, b', hn1, hn2, hnq, hd, hdn, hb', hke, hb1, hb2⟩ := hr.stepAt hq hlt
   rw [hb] at hn1
   cases hn1
   obtain ⟨gr, cpr, er, ego, hnl, _, kk2, _, _, _, kx2⟩ := h.nodeAt hd
   have hgl := (h.nd.lt gr ego).2
   have kk := (HB.cell (p := ⟨gr, b * 5, none⟩) hgl).trans kk2
   rw [hdn] at kx2
   obtain ⟨cr, cfr⟩ := blk_cl hAr.at'
   have hixr := ix_node gr A.nodes.length cpr b hnl
   rw [er] at cr
   have fne : ((b : Int) != (q : Int)) = true := by simp; omega
   have hxs : Hid (keysV (((I q).take (k + 1)).map fun n => (eN A.nodes n).1) = keysV (((I q).take k).map fun n => (eN A.nodes n).1) ++ [.int .u64 d.key]) := by
    show _ = _
    rw [List.take_add_one, hn2]
    simp [keysV, hke]
   have HN : Hid (∀ wz, Below w2.heap.size w2 wz -> Aw wz lo ab mp x y A) := fun wz hbz => h.grow hbz
   generalize keysV (((I q).take k).map fun n => (eN A.nodes n).1) = xs at *
   obtain ⟨ea, ek, ec, rfl⟩ := ownsRow_form2 hown
   have hek : ek = k := by
    rcases hown.2 with ⟨h1, h2⟩ | ⟨g, cap, cur, h1, _⟩
    ·simp at h1; omega
    ·simp at h1; exact h1.2.1
   subst hek
   clear hb hn2 hd hdn hke hA1 hAr hr
   go_upto_region 5 with fail
   refine wp_region_lit ?_
   iterate 30 go_step
   refine wpList_append_own_at _ rfl (.tmp 30) (.tmp 39) 22 rfl w2.heap.size 27 i0 (.int .u64 0) 1 8 Tryz.underlying22 hi hz0 hz1 hz2 rfl (by decide) (.slice ea ek ec) ek xs (by simp [Act.eval]) (own_mv hown (fun g _ hl => Below.heap_alloc _ _ _ hl)) ⟨wr.heap.size, 0, none⟩ 1 1 [.int .u64 d.key] (by simp [Act.eval]) rfl (row_cells wr #[.int .u64 d.key] 27) (fun u hu => by simp at hu; subst hu; rfl) (by simp only [maxLen]; omega) (by omega) (by simp; omega) ?_
   intro v' w6 hown6 hgrow _ hat
   obtain ⟨za, zk, zc, rfl⟩ := ownsRow_form2 hown6
   have B6 : Below w2.heap.size w2 w6 := by
    refine HB.trans ⟨hgrow.os, hgrow.tape, hgrow.output, by have := hgrow.size; simp at this; omega, fun j hj => (hgrow.block j (by simp; omega) (fun e => ?_)).trans (Below.heap_alloc _ _ _ (by omega))⟩
    have := (hown.lt j e.symm).1
    omega
   have A6 := HN.out w6 B6
   obtain ⟨c6, cf6⟩ := blk_cl A6.at'
   rw [er] at c6
   have kx6 := (B6.cell (p := ⟨gr, b * 5 + 4, none⟩) hgl).trans kx2
   go_wp2_with fail
   go_roundg (gk - 1)
   case measure => omega
   case rel => exact ⟨ek + 1, b', by omega, rfl, hb', by rw [hxs.out]; exact hown6, B6⟩
  ·have hkl : k = (I q).length := by omega
   subst hkl
   have hbq : b = q := by
    rw [List.getElem?_append_right (Nat.le_refl _)] at hb
    simpa using hb.symm
   subst hbq
   have fne : ((b : Int) != (b : Int)) = false := by simp
   rw [List.take_length] at hown
   obtain ⟨ea, ek, ec, rfl⟩ := ownsRow_form2 hown
   go_wp2_with fail
   go_ret
   exact ⟨_, rfl, hown, HB⟩
end
def ixS : List (List UInt8) -> List UInt8 -> Option Nat
 | [], _ => none
 | a :: l, x => if a = x then some 0 else (ixS l x).map (· + 1)
def ixV : Option Nat -> Int
 | none => -1
 | some k => k
theorem ixS_at : ∀ {l : List (List UInt8)} {x : List UInt8} {k : Nat}, l[k]? = some x -> (∀ (j : Nat) a, j < k -> l[j]? = some a -> a ≠ x) -> ixS l x = some k
 | [], _, _, h, _ => by simp at h
 | a :: l, x, 0, h, _ => by
  simp at h
  unfold ixS
  rw [if_pos h]
 | a :: l, x, k + 1, h, hn => by
  unfold ixS
  rw [if_neg (hn 0 a (by omega) rfl), ixS_at (l := l) (by simpa using h) (fun j b hj hb => hn (j + 1) b (by omega) (by simpa using hb))]
  rfl
theorem ixS_no : ∀ {l : List (List UInt8)} {x : List UInt8}, (∀ a ∈ l, a ≠ x) -> ixS l x = none
 | [], _, _ => rfl
 | a :: l, x, h => by
  unfold ixS
  rw [if_neg (h a (by simp)), ixS_no (fun b hb => h b (by simp [hb]))]
  rfl
theorem ixS_some : ∀ {l : List (List UInt8)} {x : List UInt8} {k : Nat}, ixS l x = some k -> l[k]? = some x
 | [], _, _, h => by cases h
 | a :: l, x, k, h => by
  unfold ixS at h
  split at h
  ·rename_i e
   cases h
   simp [e]
  ·simp only [Option.map_eq_some_iff] at h
   obtain ⟨j, hj, rfl⟩ := h
   simpa using ixS_some hj
theorem ixS_ne : ∀ {l : List (List UInt8)} {j : Nat} {a : List UInt8}, l[j]? = some a -> ixS l a ≠ none
 | [], j, a, h => by simp at h
 | b :: l, j, a, h => by
  unfold ixS
  split
  ·simp
  ·rename_i hne
   cases j with
   | zero => simp at h; exact absurd h hne
   | succ j =>
    have := ixS_ne (l := l) (j := j) (a := a) (by simpa using h)
    simpa using this
section
variable {w w' : World}
theorem index_any {lo : Nat} (l : List (List UInt8)) (va : Option Addr) (vc : Nat) (h : w.ownsRow lo 9 1 (.slice va l.length vc) l.length (l.map S)) (hl : l.length <= 1000000) (x : List UInt8) :
  Calls Tryz.prog 38 #[.slice va l.length vc, S x] w fun e w' => e = .returned (.int .i64 (ixV (ixS l x))) /\ w' = w := by
 have HR : Hid (ixS l x = ixS l x) := rfl
 generalize hr : ixS l x = r at *
 have hr : Hid (ixS l x = r) := hr
 clear HR
 go_enter Tryz.func38, Tryz.ntmps38
 go_wp2_with fail
 go_loopg [8] l.length (fun f v wr => ∃ k : Nat, v = .int .i64 k /\ k + f = l.length /\ wr = w /\ Hid (∀ (j : Nat) a, j < k -> l[j]? = some a -> a ≠ x))
 case atStart => exact ⟨0, rfl, by omega, rfl, fun j a hj => by omega⟩
 case round =>
  obtain ⟨k, rfl, hk, rfl, HK⟩ := hrel
  by_cases hlt : k < l.length
  ·obtain ⟨g, cap, e1, _, _, e4⟩ := row_at h (by omega)
   simp only [Value.slice.injEq, true_and] at e1
   obtain ⟨rfl, rfl⟩ := e1
   have hrow : l[k]? = some l[k] := List.getElem?_eq_getElem hlt
   have hc : wr.cell? ⟨g, k, none⟩ = some (S l[k]) := by rw [e4 k (by omega)]; simp [hrow]
   have hix := ix_str g l.length vc k hlt
   have HQ : Hid (x = l[k] -> r = some k) := fun e => by rw [<- hr.out]; exact ixS_at (by rw [hrow, <- e]) HK.out
   have HQ2 : Hid (x ≠ l[k] -> ∀ (j : Nat) a, j < k + 1 -> l[j]? = some a -> a ≠ x) := fun e j a hj ha => by
    by_cases e2 : j = k
    ·subst e2
     rw [hrow] at ha
     cases ha
     exact Ne.symm e
    ·exact HK.out j a (by omega) ha
   clear hrow HK e4
   generalize l[k] = d at *
   cases hq : (x == d) with
   | true =>
    go_wp2_with fail
    go_ret
    exact ⟨by rw [HQ.out (by simpa using hq)]; rfl, rfl⟩
   | false =>
    go_wp2_with fail
    go_roundg (gk - 1)
    case measure => omega
    case rel => exact ⟨k + 1, by simp, by omega, rfl, HQ2.out (by simpa using hq)⟩
  ·have e0 : r = none := by
    rw [<- hr.out]
    refine ixS_no (fun a ha => ?_)
    obtain ⟨j, hj, rfl⟩ := List.getElem_of_mem ha
    exact HK.out j _ (by omega) (List.getElem?_eq_getElem hj)
   have fk : decide ((k : Int) < (l.length : Int)) = false := by simp; omega
   go_wp2_with fail
   go_ret
   exact ⟨by rw [e0]; rfl, rfl⟩
end
section
variable {w w' : World} {mb nb : Nat} {dom : Nat -> Prop} {c : Cc} {A : Ar} {V : List Nat} {v : Nat -> Value} {rm lo0 ab mp : Nat} {x y vs : Value} {E : Nat -> Addr}
theorem Mw.names (h : Mw w mb nb dom c A V v rm lo0 ab mp x y vs) : ∃ a k, v 0 = .slice a c.ev.length k /\ w.ownsRow lo0 9 1 (.slice a c.ev.length k) c.ev.length (c.ev.map S) := by
 have how : w.ownsRow lo0 9 1 (v 0) c.ev.length (c.ev.map S) := h.pg.pg.own 0 (by decide) (by decide)
 rcases how.2 with ⟨k1, k2⟩ | ⟨g, cap, cur, k1, _⟩
 ·exact ⟨none, 0, by rw [k1, k2], by rw [k1] at how; rw [k2] at how ⊢; exact how⟩
 ·exact ⟨_, _, k1, by rw [k1] at how; exact how⟩
theorem Mw.vnames (h : Mw w mb nb dom c A V v rm lo0 ab mp x y vs) : ∃ a k, v 5 = .slice a c.vn.length k /\ w.ownsRow lo0 9 1 (.slice a c.vn.length k) c.vn.length (c.vn.map S) := by
 have how : w.ownsRow lo0 9 1 (v 5) c.vn.length (c.vn.map S) := h.pg.pg.own 5 (by decide) (by decide)
 rcases how.2 with ⟨k1, k2⟩ | ⟨g, cap, cur, k1, _⟩
 ·exact ⟨none, 0, by rw [k1, k2], by rw [k1] at how; rw [k2] at how ⊢; exact how⟩
 ·exact ⟨_, _, k1, by rw [k1] at how; exact how⟩
def OutKs (w : World) (E : Nat -> Addr) (r : Option (List Nat)) (e : Ending) (w' : World) : Prop := Below w.heap.size w w' /\ match r with
 | none => e = .returned (.tuple #[.slice none 0 0, .iface 278 (.pointer (some (E 0)))])
 | some ks => ∃ u, e = .returned (.tuple #[u, .nilIface]) /\ w'.ownsRow w.heap.size 27 1 u ks.length (keysV ks)
theorem mkeys_any (h : Mw w mb nb dom c A V v rm lo0 ab mp x y vs) {nq : Nat} {cap : Nat -> Nat} {I : Nat -> List Nat} {fr : List Nat} (hr : Rep A nq cap I fr []) (hev : c.ev.length = nq) (e3 : w.cell? ⟨0, 0, none⟩ = some (.iface 278 (.pointer (some (E 0))))) (name : List UInt8) :
  Calls Tryz.prog 28 #[ptr mb, S name] w (OutKs w E ((ixS c.ev name).map fun q => (I q).map fun n => (eN A.nodes n).1)) := by
 obtain ⟨c1, cf1⟩ := blk_cl h.at'
 obtain ⟨na, nk, e0, how⟩ := h.names
 have hnm := hr.nm
 have HI := index_any c.ev na nk how (by omega) name
 have HK : Hid (∀ q, ixS c.ev name = some q -> Calls Tryz.prog 39 #[ptr ab, .int .i64 q] w fun e w' => ∃ v, e = .returned v /\ w'.ownsRow w.heap.size 27 1 v (I q).length (keysV ((I q).map fun n => (eN A.nodes n).1)) /\ Below w.heap.size w w') := fun q hq => akeys_any h.ar hr q (by have := (List.getElem?_eq_some_iff.1 (ixS_some hq)).1; omega)
 simp only [mcA] at c1
 rw [e0] at c1
 cases hx : ixS c.ev name with
 | none =>
  rw [hx] at HI
  have HI : Calls Tryz.prog 38 #[.slice na c.ev.length nk, S name] w fun e w' => e = .returned (.int .i64 (-1)) /\ w' = w := HI
  clear HK how hr hev hnm
  go_enter Tryz.func28, Tryz.ntmps28
  go_wp2_with fail
  refine HI.mono ?_
  rintro e w1 ⟨rfl, rfl⟩
  go_wp2_with fail
  go_region
  all_goals
   go_wp2_with fail
   exact bodyPost_ret (v := .tuple #[.slice none 0 0, .iface 278 (.pointer (some (E 0)))]) (by simp [results, Tryz.results28, go_sem]) rfl ⟨bdrw (Below.refl _ _), rfl⟩
 | some q =>
  rw [hx] at HI
  have HI : Calls Tryz.prog 38 #[.slice na c.ev.length nk, S name] w fun e w' => e = .returned (.int .i64 (q : Int)) /\ w' = w := HI
  have HK := HK.out q hx
  have fq : decide ((q : Int) < 0) = false := by simp
  clear how hx hr hev hnm
  go_enter Tryz.func28, Tryz.ntmps28
  go_wp2_with fail
  refine HI.mono ?_
  rintro e w1 ⟨rfl, rfl⟩
  go_wp2_with fail
  refine HK.mono ?_
  rintro e w2 ⟨u, rfl, ho, B2⟩
  obtain ⟨ua, uk, uc, rfl⟩ := ownsRow_form2 ho
  go_wp2_with fail
  refine bodyPost_ret (v := .tuple #[.slice ua uk uc, .nilIface]) (by simp [results, Tryz.results28, go_sem]) rfl ⟨B2, _, rfl, ?_⟩
  rw [List.length_map]
  exact ho
theorem mvalue_any (h : Mw w mb nb dom c A V v rm lo0 ab mp x y vs) (hvl : V.length = c.vn.length) (hvn : c.vn.length <= 1000000) (e3 : w.cell? ⟨0, 0, none⟩ = some (.iface 278 (.pointer (some (E 0))))) (name : List UInt8) :
  Calls Tryz.prog 37 #[ptr mb, S name] w fun e w' => Below w.heap.size w w' /\ match (ixS c.vn name).bind fun q => V[q]? with
   | none => e = .returned (.tuple #[.int .i64 0, .iface 278 (.pointer (some (E 0)))])
   | some n => e = .returned (.tuple #[.int .i64 n, .nilIface]) := by
 obtain ⟨c1, cf1⟩ := blk_cl h.at'
 obtain ⟨na, nk, e0, how⟩ := h.vnames
 obtain ⟨va, vc, rfl⟩ := h.form
 have HI := index_any c.vn na nk how (by omega) name
 simp only [mcA] at c1
 rw [e0] at c1
 cases hx : ixS c.vn name with
 | none =>
  rw [hx] at HI
  have HI : Calls Tryz.prog 38 #[.slice na c.vn.length nk, S name] w fun e w' => e = .returned (.int .i64 (-1)) /\ w' = w := HI
  clear how hvl hvn
  go_enter Tryz.func37, Tryz.ntmps37
  go_wp2_with fail
  refine HI.mono ?_
  rintro e w1 ⟨rfl, rfl⟩
  go_wp2_with fail
  go_region
  all_goals
   go_wp2_with fail
   exact bodyPost_ret (v := .tuple #[.int .i64 0, .iface 278 (.pointer (some (E 0)))]) (by simp [results, Tryz.results37, go_sem]) rfl ⟨bdrw (Below.refl _ _), rfl⟩
 | some q =>
  rw [hx] at HI
  have HI : Calls Tryz.prog 38 #[.slice na c.vn.length nk, S name] w fun e w' => e = .returned (.int .i64 (q : Int)) /\ w' = w := HI
  have hq := (List.getElem?_eq_some_iff.1 (ixS_some hx)).1
  have hqv : q < V.length := by omega
  have hrow : V[q]? = some V[q] := List.getElem?_eq_getElem hqv
  obtain ⟨g, cap, e1, _, _, e4⟩ := row_at h.va (by omega)
  simp only [Value.slice.injEq, true_and] at e1
  obtain ⟨rfl, rfl⟩ := e1
  have hc : w.cell? ⟨g, q, none⟩ = some (.int .i64 V[q]) := by rw [e4 q (by omega)]; simp [ints, hrow]
  have hix := ix_int g 0 V.length vc q hqv
  simp only [Nat.zero_add] at hix
  have fq : decide ((q : Int) < 0) = false := by simp
  simp only [Option.bind_some, hrow]
  generalize V[q] = n at *
  clear how hx hrow e4 hvl hvn
  go_enter Tryz.func37, Tryz.ntmps37
  go_wp2_with fail
  refine HI.mono ?_
  rintro e w1 ⟨rfl, rfl⟩
  go_wp2_with fail
  exact bodyPost_ret (v := .tuple #[.int .i64 (n : Int), .nilIface]) (by simp [results, Tryz.results37, go_sem]) rfl ⟨Below.refl _ _, rfl⟩
theorem mremove_any (h : Mw w mb nb dom c A V v rm lo0 ab mp x y vs) (key : Nat) (hk : key < key64) (b : Bool) (B : Ar) (hq : A.forget key = some (b, B)) :
  Calls Tryz.prog 36 #[ptr mb, .int .u64 key] w fun e w' => e = .returned (.bool b) /\ Fo (fun k => dom k) w w' /\ Mv w' mb nb dom c B V /\ ∀ g, nb <= g -> g < mb -> w'.heap[g]? = w.heap[g]? := by
 obtain ⟨c1, cf1⟩ := blk_cl h.at'
 have HF := aforget_any h.ar key hk b B hq
 go_enter Tryz.func36, Tryz.ntmps36
 go_wp2_with fail
 refine HF.mono ?_
 rintro e w1 ⟨rfl, hA, hF⟩
 have hlt := h.lt
 go_wp2_with fail
 go_ret
 refine ⟨rfl, ⟨hF.os, hF.tape, hF.output, hF.size, fun k hk hn => hF.block k hk (fun hm => hn (h.off k (Or.inl hm)).1)⟩, ⟨v, rm, lo0, ab, mp, x, y, vs, ?_⟩, fun g h1 h2 => hF.block g (by omega) (fun hm => (h.off g (Or.inl hm)).2.2 ⟨h1, h2⟩)⟩
 exact ⟨(hF.block mb hlt (fun hm => (h.off mb (Or.inl hm)).2.1 rfl)).trans h.at', h.pg.move (fun g h1 h2 => hF.block g (by omega) (fun hm => (h.off g (Or.inl hm)).2.2 ⟨by have := h.nl; omega, h2⟩)), hA, own_mv h.va (fun g hg hl => hF.block g hl (h.offV g hg)), h.off, h.offV, h.dm, h.dp, fun k hk => Nat.lt_of_lt_of_le (h.dl k hk) hF.size, h.nl⟩
end
section
open Go.RowKit Go.Extern.Stop Go.Stop Go.Extern
theorem is_same0 (b : Addr) (w : World) :
  Calls Tryz.prog 40 #[.iface 278 (.pointer (some b)), .iface 278 (.pointer (some b))] w fun e w' => e = .returned (.bool true) /\ w' = w := by
 obtain ⟨i, hi, hcmp⟩ := Option.map_eq_some_iff.1 Tryz.isComp
 obtain ⟨j, hj, hjs⟩ := Option.map_eq_some_iff.1 Tryz.isSize
 have h8 := @run_callFunc_extern Tryz.prog 55 _ Extern.ReflectliteType.typeOf Tryz.func55 (by kernel_rfl) (by kernel_rfl) (by kernel_rfl) (by kernel_rfl)
 have h32 := @run_callFunc_extern Tryz.prog 195 _ (Extern.ReflectliteType.method cmpF) Tryz.func195 (by kernel_rfl) (by kernel_rfl) (by kernel_rfl) (by kernel_rfl)
 have tT := Tryz.isTypeOf
 have cT := Tryz.isComparable
 have mR := Tryz.isMethodComparable
 have heq := run_eql_iface_ptr_same (P := Tryz.prog) w b Tryz.underlying67 Tryz.underlying278 hi hcmp hj
 go_enter Tryz.func40, Tryz.ntmps40
 go_wp2
 refine wp_loop_rounds 1 ?_
 rw [rounds_succ]
 go_wp2
 go_ret
 exact ⟨rfl, rfl⟩
theorem is_other0 (b a : Addr) (ca cb : Array Value) (ta tb : TypeId) (w : World) (hne : a ≠ b) (ha : w.heap[a.block]? = some (.cells ca ta (0, 0))) (hb : w.heap[b.block]? = some (.cells cb tb (0, 0))) :
  Calls Tryz.prog 40 #[.iface 278 (.pointer (some a)), .iface 278 (.pointer (some b))] w fun e w' => e = .returned (.bool false) /\ w' = w := by
 obtain ⟨i, hi, hcmp⟩ := Option.map_eq_some_iff.1 Tryz.isComp
 obtain ⟨j, hj, hjs⟩ := Option.map_eq_some_iff.1 Tryz.isSize
 have h8 := @run_callFunc_extern Tryz.prog 55 _ Extern.ReflectliteType.typeOf Tryz.func55 (by kernel_rfl) (by kernel_rfl) (by kernel_rfl) (by kernel_rfl)
 have h32 := @run_callFunc_extern Tryz.prog 195 _ (Extern.ReflectliteType.method cmpF) Tryz.func195 (by kernel_rfl) (by kernel_rfl) (by kernel_rfl) (by kernel_rfl)
 have tT := Tryz.isTypeOf
 have cT := Tryz.isComparable
 have mR := Tryz.isMethodComparable
 have nE := Tryz.noIsE
 have uE := Tryz.noUnwrapE
 have vE := Tryz.noUnwrapsE
 have heq := run_eql_iface_ptr_other (P := Tryz.prog) w Tryz.underlying67 Tryz.underlying278 hi hcmp hj (by rw [hjs]; decide) hne ha hb
 go_enter Tryz.func40, Tryz.ntmps40
 go_wp2
 refine wp_loop_rounds 1 ?_
 rw [rounds_succ]
 go_wp2
 go_ret
 exact ⟨rfl, rfl⟩
theorem is_idx0 {w : World} {A : Nat -> Addr} (S : Sent w A) (i j : Nat) (i1 : i < 12 \/ i = 13) (j1 : j < 12 \/ j = 13) :
  Calls Tryz.prog 40 #[.iface 278 (.pointer (some (A i))), .iface 278 (.pointer (some (A j)))] w fun e w' => e = .returned (.bool (decide (i = j))) /\ w' = w := by
 by_cases h : i = j
 ·subst h
  simp only [decide_true]
  exact is_same0 _ w
 ·simp only [h, decide_false]
  obtain ⟨ca, ta, ha⟩ := S.b i i1
  obtain ⟨cb, tb, hb⟩ := S.b j j1
  exact is_other0 _ _ ca cb ta tb w (fun e => h (S.n i j i1 j1 e)) ha hb
theorem errno_name {w : World} {A : Nat -> Addr} (S : Sent w A) :
  Calls Tryz.prog 29 #[.iface 278 (.pointer (some (A 0)))] w fun e w' => e = .returned (.int .i64 13) /\ w' = w := by
 have g0 := S.g 0 (by decide)
 have g1 := S.g 1 (by decide)
 have g2 := S.g 2 (by decide)
 have g3 := S.g 3 (by decide)
 have g4 := S.g 4 (by decide)
 have g5 := S.g 5 (by decide)
 have g6 := S.g 6 (by decide)
 have g7 := S.g 7 (by decide)
 have g8 := S.g 8 (by decide)
 have g9 := S.g 9 (by decide)
 have g10 := S.g 10 (by decide)
 have g11 := S.g 11 (by decide)
 go_enter Tryz.func29, Tryz.ntmps29
 go_wp2_with (go_at_call 40; refine (is_idx0 S _ _ (by decide) (by decide)).mono ?_; rintro e w' ⟨rfl, rfl⟩)
 go_ret
 exact ⟨rfl, rfl⟩
end
end Go.Proofs.YtfddoieakfpagabGreatDoor
