import Derived.Test.YtfddoieakfpagabGreatDoorDC
import Derived.Test.YtfddoieakfpagabGreatDoorJJ
namespace Go.Proofs.YtfddoieakfpagabGreatDoor
set_option maxHeartbeats 4000000
set_option maxRecDepth 20000
open Go.RowKit
section
variable {w : World} {v : Value} {ks : List Nat} {key : Nat}
theorem at_in (h : Rk w v ks) (hm : key ∈ ks) : Calls Tryz.prog 12 #[v, .int .u64 key] w fun e w' => (∃ r : Nat, e = .returned (.int .i64 r)) /\ w' = w := by
 cases hf : ks.findIdx? (· == key) with
 | none =>
  rw [List.findIdx?_eq_none_iff] at hf
  exact absurd (hf key hm) (by simp)
 | some j => exact (at_any h key j (by rw [hf])).mono fun e w' q => ⟨⟨j, q.1⟩, q.2⟩
theorem at_no (h : Rk w v ks) (hm : key ∉ ks) : Calls Tryz.prog 12 #[v, .int .u64 key] w fun e w' => e = .returned (.int .i64 (-1)) /\ w' = w := by
 cases hf : ks.findIdx? (· == key) with
 | none => exact at_any h key (-1) (by rw [hf])
 | some j =>
  rw [List.findIdx?_eq_some_iff_getElem] at hf
  obtain ⟨h1, h2, _⟩ := hf
  exact absurd (by rw [<- (by simpa using h2 : ks[j] = key)]; exact List.getElem_mem h1) hm
end
section
variable {w : World} {g : Nat} {dom : Nat -> Prop} {x : Tx} {s : Ex} {n : Nat × Nat × Nat} {E : Nat -> Addr}
theorem Eg.un (h : Eg w g dom x s n) : Un (polOf x).L s := by
 obtain ⟨nb, lo, mb, A, V, _, _, _, _, h5⟩ := h.ex
 exact un_of h.prg h5
theorem Eg.err (h : Eg w g dom x s n) {key q : Nat} (hk : key < key64) (ha : (polOf x).access s key = .error q) : q = 11 \/ q = 12 := by
 obtain ⟨nb, lo, mb, A, V, _, _, _, _, h5⟩ := h.ex
 obtain ⟨ev, _, h2⟩ := acc_spec h.prg h5 hk
 rw [ha] at h2
 obtain ⟨f, i, p, h3, _⟩ := h2
 rcases h3 with h3 | h3
 ·exact Or.inl h3.1
 ·exact Or.inr h3.1
def Cap (x : Tx) (s : Ex) : Prop := ∀ q, (s.Q.getD q []).length <= maxX (polOf x).L q
theorem ev_q (h : Eg w g dom x s n) (hc : Cap x s) {wd : List UInt8} (hw : wd ≠ [118, 97, 114]) : ∀ m ∈ nmsW (polOf x).L wd, ∃ ks, (polOf x).keys s m = some ks /\ ks.length <= 50 := by
 intro m hm
 unfold nmsW at hm
 obtain ⟨d, h1, rfl⟩ := List.mem_map.1 hm
 obtain ⟨h1, h2⟩ := List.mem_filter.1 h1
 have h2 : d.1 = wd := by simpa using h2
 obtain ⟨q, hq⟩ := List.mem_iff_getElem?.1 h1
 refine ⟨_, keys_at h.prg hq (by rw [h2]; exact hw), ?_⟩
 have h3 := hc q
 have h4 : maxX (polOf x).L q = d.2.2 := by unfold maxX; rw [hq]
 have h5 := (h.prg.mx d h1).2.2 (by rw [h2]; exact hw)
 rw [List.length_map]
 omega
theorem nms_len (h : Eg w g dom x s n) (wd : List UInt8) : (nmsW (polOf x).L wd).length <= 8 := by
 unfold nmsW
 rw [List.length_map]
 exact Nat.le_trans (List.length_filter_le _ _) h.prg.ll
theorem all_len (h : Eg w g dom x s n) (hc : Cap x s) {wd : List UInt8} (hw : wd ≠ [118, 97, 114]) : (allK (polOf x) s wd).length <= 400 := by
 have h1 := ev_q h hc hw
 have h2 := nms_len h wd
 unfold allK
 have key : ∀ ns : List (List UInt8), (∀ m ∈ ns, ∃ ks, (polOf x).keys s m = some ks /\ ks.length <= 50) -> (ns.flatMap fun n => ((polOf x).keys s n).getD []).length <= 50 * ns.length := by
  intro ns
  induction ns with
  | nil => intro _; simp
  | cons m ns ih =>
   intro hm
   obtain ⟨ks, e1, e2⟩ := hm m (by simp)
   have := ih (fun m' h' => hm m' (by simp [h']))
   rw [List.flatMap_cons, List.length_append, e1, List.length_cons]
   simp only [Option.getD_some]
   omega
 have := key _ h1
 omega
theorem ev_any (h : Eg w g dom x s n) (SS : Sent w E) (hc : Cap x s) {wd : List UInt8} (hw : wd ≠ [118, 97, 114]) {lo : Nat} {v : Value} (hv : Rs2 w lo v (nmsW (polOf x).L wd)) :
  Calls Tryz.prog 21 #[ptr g, v] w fun e w' => ∃ u, e = .returned (.tuple #[u, .bool true]) /\ Below w.heap.size w w' /\ w'.ownsRow w.heap.size 27 1 u (allK (polOf x) s wd).length (keysV (allK (polOf x) s wd)) :=
 every_any h SS _ (ev_q h hc hw) (by have := nms_len h wd; omega) hv
theorem start_cap : Cap x (polOf x).start := fun q => by
 have : (polOf x).start.Q.getD q [] = [] := by
  show (List.replicate (polOf x).L.length []).getD q [] = []
  rw [List.getD_eq_getElem?_getD, List.getElem?_replicate]
  split <;> rfl
 rw [this]
 exact Nat.zero_le _
structure Cv (w0 : World) (x : Tx) (g : Nat) (vq vg : Value) (i : Nat) (wr : World) : Prop where
 ex : ∃ s dom n, Eg wr g dom x s n /\ Cap x s /\ n.1 + n.2.1 <= i /\ n.2.2 <= 7000000 * i /\ (∀ k, dom k \/ k = g -> w0.heap.size <= k /\ vq.ownBlock ≠ some k /\ vg.ownBlock ≠ some k)
 q : Rs2 wr w0.heap.size vq (nmsW (polOf x).L [113, 117, 101, 117, 101])
 g' : Rs2 wr w0.heap.size vg (nmsW (polOf x).L [103, 104, 111, 115, 116])
 b : Below w0.heap.size w0 wr
end
theorem enoS_ne (i : Nat) : enoS i ≠ 0 := by
 unfold enoS
 repeat' split
 all_goals decide
theorem Tb.up {lo lo' : Nat} {w : World} (h : Tb lo w) (hl : lo <= lo') : Tb lo' w := fun W hW => h W (hW.mono hl)
def cvT : List UInt8 := [113, 117, 101, 117, 101, 32, 114, 32, 49, 59, 32, 111, 110, 32, 109, 105, 115, 115, 32, 123, 32, 112, 117, 116, 32, 114, 59, 32, 125]
theorem cv_pol : ∃ x, readS cvT = .ok x /\ (polOf x).keys (polOf x).start [114] = some [] := by
 have h : ((readS cvT).toOption.map fun x => (polOf x).keys (polOf x).start [114]) = some (some []) := by kernel_rfl
 cases hr : readS cvT with
 | error e => rw [hr] at h; cases h
 | ok x =>
  rw [hr] at h
  exact ⟨x, rfl, Option.some.inj h⟩
theorem cap_rem {x : Tx} {s : Ex} (h : Cap x s) (k : Nat) : Cap x (s.removed k).2 := by
 unfold Ex.removed
 split
 ·exact h
 ·exact fun q => Nat.le_trans out_len (h q)
theorem conserved_any {w : World} {E : Nat -> Addr} (SS : Sent w E) (ht : Tb w.heap.size w) (src : List UInt8) {va : Value} {l : List Nat} (hv : Rq w va l) (hk64 : ∀ k ∈ l, k < key64) (hl : l.length <= 281474976710656) :
  Calls Tryz.prog 5 #[S src, va] w fun e w' => e = .returned (.bool true) /\ Below w.heap.size w w' := by
 obtain ⟨aa, ca, rfl, a3⟩ := hv
 obtain ⟨x0, hx0, hks0⟩ := cv_pol
 have HK := kload_any SS cvT [114] x0 hx0 hks0
 go_enter Tryz.func5, Tryz.ntmps5
 go_wp2_with fail
 refine HK.mono ?_
 rintro e w1 ⟨g0, dom0, rfl, B1, hj1, hj2, hj3⟩
 clear HK hx0 hks0 hj1 hj2 hj3
 have HL := eload_any src (SS.move B1)
 unfold OutEL at HL
 go_wp2_with fail
 refine HL.mono ?_
 clear HL
 rintro e w2 ⟨B2, h2⟩
 have z1 := B1.size
 have BB2 := B1.trans (B2.mono z1)
 cases hr : readS src with
 | error q =>
  obtain ⟨i, p⟩ := q
  rw [hr] at h2
  have h2 : e = .returned (.tuple #[.pointer none, .int .i64 (enoS i), .int .i64 p]) := h2
  subst h2
  have hn0 := enoS_ne i
  have hn1 : ((enoS i : Int) != 0) = true := by simp; omega
  generalize enoS i = ei at *
  go_wp2_with fail
  go_ret
  exact ⟨by simp, BB2⟩
 | ok x =>
  rw [hr] at h2
  obtain ⟨g, rfl, hg, hE⟩ := h2
  have z2 := BB2.size
  have HT := etext hE ((ht.mv BB2).up z2)
  obtain ⟨hlen, _⟩ := txt_l hr
  have hnt := names_txt hr
  go_wp2_with fail
  refine HT.mono ?_
  rintro e w3 ⟨rfl, B3⟩
  clear HT
  have HN := names_any (txtT x).1 w3 hlen
  rw [hnt] at HN
  generalize (txtT x).1 = tx at *
  go_wp2_with fail
  refine HN.mono ?_
  rintro e w4 ⟨vq, vg, rfl, B4, hq, hg4⟩
  clear HN
  have z3 := B3.size
  have B24 := B3.trans (B4.mono z3)
  have BB4 := BB2.trans (B24.mono z2)
  have H0 : Cv w x g vq vg 0 w4 := by
   refine ⟨⟨_, _, _, hE.below B24, start_cap, by simp, by simp, fun k hk => ?_⟩, own_low hq (by omega), own_low hg4 (by omega), BB4⟩
   have hk2 : w1.heap.size <= k /\ k < w2.heap.size := by
    rcases hk with hk | rfl
    ·exact ⟨hk.1, hk.2.1⟩
    ·exact ⟨hg, hE.lt⟩
   exact ⟨by omega, fun e => by have := (hq.lt k e).1; omega, fun e => by have := (hg4.lt k e).1; omega⟩
  clear hE hq hg4 hnt hlen hr B24 B3 B4 BB2 B2 B1
  go_wp2_with fail
  go_loopg [61] l.length (fun f v61 wr => ∃ i : Nat, v61 = .int .i64 i /\ i + f = l.length /\ i <= 16384 /\ Cv w x g vq vg i wr)
  case atStart => exact ⟨0, rfl, by omega, by omega, H0⟩
  case round =>
   obtain ⟨i, rfl, hi, hi2, H⟩ := hrel
   obtain ⟨go, hgo⟩ : ∃ q, Hid (q = gk) := ⟨gk, rfl⟩
   have hz := H.b.size
   clear H0
   by_cases hlt : i < l.length
   ·have hne : l ≠ [] := fun e => by subst e; simp at hlt
    obtain ⟨ga, oa, rfl, lga, hcell⟩ := a3.resolve_left hne
    obtain ⟨key, hki⟩ : ∃ key, l[i]? = some key := ⟨_, List.getElem?_eq_getElem hlt⟩
    have cc := (H.b.cell (p := ⟨ga, oa + i, none⟩) lga).trans (hcell i _ hki)
    have ix := ix_u64 ga oa l.length ca i hlt
    have hk9 : Hid (key < key64) := hk64 _ (List.mem_of_getElem? hki)
    have hKs : Hid (∀ (j k : Nat), l[j]? = some k -> w.cell? ⟨ga, oa + j, none⟩ = some (.int .u64 k)) := hcell
    have hk8 : Hid (∀ k ∈ l, k < key64) := hk64
    have t1 : decide ((i : Int) < (l.length : Int)) = true := by simp; omega
    by_cases hlt2 : i = 16384
    ·have t3 : ((i : Int) == 16384) = true := by simp; omega
     have hB := H.b
     clear hcell a3 hne H hki hlt2
     go_upto_region 49 with fail
     go_wp2_with fail
     go_ret
     exact ⟨rfl, hB⟩
    ·have t3 : ((i : Int) == 16384) = false := by simp; omega
     obtain ⟨s, dom, n, hE, hc, hn1, hn2, hdm⟩ := H.ex
     have hu := hE.un
     have hS := SS.move H.b
     have hl1 := all_len hE hc (wd := [113, 117, 101, 117, 101]) (by decide)
     have hl2 := all_len hE hc (wd := [103, 104, 111, 115, 116]) (by decide)
     have HE1 := ev_any hE hS hc (by decide) H.q
     clear hcell a3 hne
     go_upto_region 11 with fail
     go_wp2_with fail
     refine HE1.mono ?_
     rintro e w5 ⟨u1, rfl, B5, o1⟩
     clear HE1
     have z5 := B5.size
     have HE2 := ev_any (hE.below B5) (hS.move B5) hc (wd := [103, 104, 111, 115, 116]) (by decide) (own_mv H.g' (fun b _ hb => B5.block b hb))
     go_wp2_with fail
     refine HE2.mono ?_
     rintro e w6 ⟨u2, rfl, B6, o2⟩
     clear HE2
     have z6 := B6.size
     have B56 := B5.trans (B6.mono z5)
     have HC1 := ecounts_any (hE.below B56)
     go_wp2_with fail
     refine HC1.mono ?_
     rintro e w7 ⟨B7, rfl⟩
     clear HC1
     have z7 := B7.size
     have B57 := B56.trans (B7.mono (by omega))
     have B58 : Below wr.heap.size wr (w7.alloc (.cells #[.int .i64 n.1, .int .i64 n.2.1, .int .i64 n.2.2] 47)) := B57.alloc (by omega) _
     have c8 : (w7.alloc (.cells #[.int .i64 n.1, .int .i64 n.2.1, .int .i64 n.2.2] 47)).heap[w7.heap.size]? = some (.cells #[.int .i64 n.1, .int .i64 n.2.1, .int .i64 n.2.2] 47) := heap_new rfl
     have HA := eaccess_any (hE.below B58) (hS.move B58) key hk9.out (by omega) (by omega) (by omega)
     have o18 := own_mv o1 (fun b _ hb => (Below.heap_alloc w7 (.cells #[.int .i64 n.1, .int .i64 n.2.1, .int .i64 n.2.2] 47) b (by omega)).trans ((B7.block b (by omega)).trans (B6.block b hb)))
     have o28 := own_mv o2 (fun b _ hb => (Below.heap_alloc w7 (.cells #[.int .i64 n.1, .int .i64 n.2.1, .int .i64 n.2.2] 47) b (by omega)).trans (B7.block b hb))
     clear o1 o2 B5 B6 B7 B56 B57
     unfold OutEA at HA
     go_upto_region 14 with fail
     generalize w7.alloc (.cells #[.int .i64 n.1, .int .i64 n.2.1, .int .i64 n.2.2] 47) = w8 at *
     have z8 := B58.size
     go_wp2_with fail
     refine HA.mono ?_
     clear HA
     intro e w9 HA
     cases hac : (polOf x).access s key with
     | error eq =>
      as_aux_lemma =>
       rw [hac] at HA
       obtain ⟨rfl, B9⟩ := HA
       have heq : ((eq : Int) != 0) = true := by rcases hE.err hk9.out hac with e | e <;> rw [e] <;> rfl
       have z9 := B9.size
       have B89 := B58.trans (B9.mono z8)
       have HE3 := ev_any (hE.below B89) (hS.move B89) hc (by decide) (own_mv H.q (fun b _ hb => B89.block b hb))
       go_wp2_with fail
       refine HE3.mono ?_
       rintro e w10 ⟨u3, rfl, B10, o3⟩
       clear HE3
       have z10 := B10.size
       have B810 := B89.trans (B10.mono (by omega))
       have HE4 := ev_any (hE.below B810) (hS.move B810) hc (wd := [103, 104, 111, 115, 116]) (by decide) (own_mv H.g' (fun b _ hb => B810.block b hb))
       go_wp2_with fail
       refine HE4.mono ?_
       rintro e w11 ⟨u4, rfl, B11, o4⟩
       clear HE4
       have z11 := B11.size
       have B811 := B810.trans (B11.mono (by omega))
       have HC2 := ecounts_any (hE.below B811)
       go_wp2_with fail
       refine HC2.mono ?_
       rintro e w12 ⟨B12, rfl⟩
       clear HC2
       have z12 := B12.size
       have Bn : Below w8.heap.size w8 (w12.alloc (.cells #[.int .i64 n.1, .int .i64 n.2.1, .int .i64 n.2.2] 47)) := (B9.trans ((B10.mono z9).trans ((B11.mono (by omega)).trans (B12.mono (by omega))))).alloc (by omega) _
       have c13 : (w12.alloc (.cells #[.int .i64 n.1, .int .i64 n.2.1, .int .i64 n.2.2] 47)).heap[w12.heap.size]? = some (.cells #[.int .i64 n.1, .int .i64 n.2.1, .int .i64 n.2.2] 47) := heap_new rfl
       have r1 := (Rk.own o18).below Bn
       have r2 := (Rk.own o28).below Bn
       have r3 := (Rk.own o3).below (((B11.mono (Nat.le_refl _)).trans (B12.mono z11)).alloc (by omega) (.cells #[.int .i64 n.1, .int .i64 n.2.1, .int .i64 n.2.2] 47))
       have r4 := (Rk.own o4).below ((B12.mono (Nat.le_refl _)).alloc (by omega) (.cells #[.int .i64 n.1, .int .i64 n.2.1, .int .i64 n.2.2] 47))
       have hN : Hid (Cv w x g vq vg (i + 1) (w12.alloc (.cells #[.int .i64 n.1, .int .i64 n.2.1, .int .i64 n.2.2] 47))) := by
        have Ba := B58.trans (Bn.mono z8)
        exact ⟨⟨s, dom, n, hE.below Ba, hc, by omega, by omega, hdm⟩, own_mv H.q (fun b _ hb => Ba.block b hb), own_mv H.g' (fun b _ hb => Ba.block b hb), H.b.trans (Ba.mono hz)⟩
       have c8n := (Bn.block _ (Array.getElem?_eq_some_iff.1 c8).1).trans c8
       clear o18 o28 o3 o4 B9 B10 B11 B12 B89 B810 B811 Bn hE H hu hc hdm hn1 hn2 hS SS c8 hac
       go_upto_region 18 with fail
       generalize w12.alloc (.cells #[.int .i64 n.1, .int .i64 n.2.1, .int .i64 n.2.2] 47) = w13 at *
       obtain ⟨y8, yf8⟩ := blk_cl c8n
       obtain ⟨y13, yf13⟩ := blk_cl c13
       have S1 := same_yes r1 r3
       go_upto_region 21 with fail
       go_wp2_with fail
       refine S1.mono ?_
       rintro e w14 ⟨rfl, B14⟩
       clear S1
       have S2 := same_yes (r2.below B14) (r4.below B14)
       go_wp2_with fail
       refine S2.mono ?_
       rintro e w15 ⟨rfl, B15⟩
       clear S2
       have B135 := B14.trans (B15.mono B14.size)
       have hl8 := (Array.getElem?_eq_some_iff.1 c8n).1
       have hl13 := (Array.getElem?_eq_some_iff.1 c13).1
       have d8 := (B135.block _ hl8).trans c8n
       have d13 := (B135.block _ hl13).trans c13
       have hN2 : Hid (Cv w x g vq vg (i + 1) w15) := by
        obtain ⟨⟨s', dom', n', q1, q2, q3, q4, q5⟩, q6, q7, q8⟩ := hN.out
        have := q8.size
        exact ⟨⟨s', dom', n', q1.below B135, q2, q3, q4, q5⟩, own_mv q6 (fun b _ hb => B135.block b hb), own_mv q7 (fun b _ hb => B135.block b hb), q8.trans (B135.mono this)⟩
       clear hN r1 r2 r3 r4 c8n c13 y8 yf8 y13 yf13 B14 B15 B135
       obtain ⟨y8, yf8⟩ := blk_cl d8
       obtain ⟨y13, yf13⟩ := blk_cl d13
       go_wp2_with fail
       go_roundg (gk - 1)
       case measure => omega
       case rel => exact ⟨i + 1, by simp, by omega, by omega, hN2.out⟩
     | ok r =>
      obtain ⟨hit, out, t⟩ := r
      rw [hac] at HA
      obtain ⟨ev, dom', rfl, F9, hE9, hd9, o9, hev⟩ := HA
      obtain ⟨K1, K2, K3, K4⟩ := access_keeps hE.prg hu hac
      have hout := access_len hE.prg hac
      have hc9 : Cap x t := K4 hc
      have hdl := hE.dl
      have hgl := hE.lt
      have z9 := F9.size
      have hB8 : Below w.heap.size w w8 := H.b.trans (B58.mono hz)
      have hB9 : Below w.heap.size w w9 := hB8.trans ⟨F9.os, F9.tape, F9.output, F9.size, fun b hb => F9.block b (by omega) (fun e => by have := (hdm b e).1; omega)⟩
      have hS9 := SS.move hB9
      have hF9 : ∀ b, b < w8.heap.size -> ¬ (dom b \/ b = g) -> w9.heap[b]? = w8.heap[b]? := fun b hb hn => F9.block b hb hn
      have hnew : ∀ b, wr.heap.size <= b -> ¬ (dom b \/ b = g) := fun b hb e => by
       rcases e with e | e
       ·have := hdl b e; omega
       ·omega
      have q9 : Rs2 w9 w.heap.size vq (nmsW (polOf x).L [113, 117, 101, 117, 101]) := own_mv (own_mv H.q (fun b _ hb => B58.block b hb)) (fun b e hb => hF9 b hb (fun e2 => (hdm b e2).2.1 e))
      have g9 : Rs2 w9 w.heap.size vg (nmsW (polOf x).L [103, 104, 111, 115, 116]) := own_mv (own_mv H.g' (fun b _ hb => B58.block b hb)) (fun b e hb => hF9 b hb (fun e2 => (hdm b e2).2.2 e))
      have o19 := own_mv o18 (fun b e hb => hF9 b hb (hnew b (o18.lt b e).1))
      have o29 := own_mv o28 (fun b e hb => hF9 b hb (hnew b (by have := (o28.lt b e).1; omega)))
      have c9 := (hF9 _ (Array.getElem?_eq_some_iff.1 c8).1 (hnew _ (by omega))).trans c8
      have hdm9 : ∀ k, dom' k \/ k = g -> w.heap.size <= k /\ vq.ownBlock ≠ some k /\ vg.ownBlock ≠ some k := fun k hk => by
       rcases hk with hk | hk
       ·rcases hd9 k hk with h | h
        ·exact hdm k (Or.inl h)
        ·exact ⟨by omega, fun e => by have := (H.q.lt k e).2; omega, fun e => by have := (H.g'.lt k e).2; omega⟩
       ·exact hdm k (Or.inr hk)
      have HE3 := ev_any hE9 hS9 hc9 (by decide) q9
      have hl3 := all_len hE9 hc9 (wd := [113, 117, 101, 117, 101]) (by decide)
      have hl4 := all_len hE9 hc9 (wd := [103, 104, 111, 115, 116]) (by decide)
      have hnd := nodup_all hE9.prg hE9.un
      have hrem := fun kk => removed_is hE9.prg hE9.un (k := kk)
      clear hE hac hd9 F9 hS c8 o18 o28 hu hc hdm B58 hF9 hnew hdl
      go_wp2_with fail
      refine HE3.mono ?_
      rintro e w10 ⟨u3, rfl, B10, o3⟩
      clear HE3
      have z10 := B10.size
      have HE4 := ev_any (hE9.below B10) (hS9.move B10) hc9 (wd := [103, 104, 111, 115, 116]) (by decide) (own_mv g9 (fun b _ hb => B10.block b hb))
      go_wp2_with fail
      refine HE4.mono ?_
      rintro e w11 ⟨u4, rfl, B11, o4⟩
      clear HE4
      have z11 := B11.size
      have B911 := B10.trans (B11.mono z10)
      have HC2 := ecounts_any (hE9.below B911)
      obtain ⟨n1, n2, n3⟩ := n
      simp only at hn1 hn2
      have hm : ∃ m1 m2 m3, cntE (n1, n2, n3) hit out.length = (m1, m2, m3) /\ m1 + m2 = n1 + n2 + 1 /\ m3 = n3 + out.length := by
       unfold cntE
       cases hit
       ·exact ⟨n1, n2 + 1, n3 + out.length, rfl, by omega, rfl⟩
       ·exact ⟨n1 + 1, n2, n3 + out.length, rfl, by omega, rfl⟩
      obtain ⟨m1, m2, m3, hm0, hm1, hm2⟩ := hm
      have HM : Hid (m1 + m2 = n1 + n2 + 1 /\ m3 = n3 + out.length) := ⟨hm1, hm2⟩
      have HM2 : m1 <= 100000 /\ m2 <= 100000 /\ n1 <= 100000 /\ n2 <= 100000 := by omega
      have HM3 : m3 <= 1000000000000 /\ n3 <= 1000000000000 := by omega
      obtain ⟨hb1, hb2, hb3, hb4⟩ := HM2
      obtain ⟨hb5, hb6⟩ := HM3
      clear hm1 hm2
      rw [hm0] at HC2 hE9
      simp only at HC2
      go_wp2_with fail
      refine HC2.mono ?_
      rintro e w12 ⟨B12, rfl⟩
      clear HC2
      have z12 := B12.size
      have Bn : Below w9.heap.size w9 (w12.alloc (.cells #[.int .i64 m1, .int .i64 m2, .int .i64 m3] 47)) := (B911.trans (B12.mono (by omega))).alloc (by omega) _
      have c13 : (w12.alloc (.cells #[.int .i64 m1, .int .i64 m2, .int .i64 m3] 47)).heap[w12.heap.size]? = some (.cells #[.int .i64 m1, .int .i64 m2, .int .i64 m3] 47) := heap_new rfl
      have r1 := (Rk.own o19).below Bn
      have r2 := (Rk.own o29).below Bn
      have r9 := (Rk.own o9).below Bn
      have r3 := (Rk.own o3).below ((B11.trans (B12.mono z11)).alloc (by omega) (.cells #[.int .i64 m1, .int .i64 m2, .int .i64 m3] 47))
      have r4 := (Rk.own o4).below ((Below.refl _ _ |>.trans B12).alloc (by omega) (.cells #[.int .i64 m1, .int .i64 m2, .int .i64 m3] 47))
      have hE13 := hE9.below Bn
      have q13 : Rs2 _ w.heap.size vq (nmsW (polOf x).L [113, 117, 101, 117, 101]) := own_mv q9 (fun b _ hb => Bn.block b hb)
      have g13 : Rs2 _ w.heap.size vg (nmsW (polOf x).L [103, 104, 111, 115, 116]) := own_mv g9 (fun b _ hb => Bn.block b hb)
      have hB13 := hB9.trans (Bn.mono (by have := hB9.size; omega))
      have c9n := (Bn.block _ (Array.getElem?_eq_some_iff.1 c9).1).trans c9
      clear o19 o29 o3 o4 o9 B10 B11 B12 B911 hE9 H hS9 c9 q9 g9 hev Bn hB9 hB8 hm0
      go_upto_region 18 with fail
      generalize w12.alloc (.cells #[.int .i64 m1, .int .i64 m2, .int .i64 m3] 47) = w13 at *
      obtain ⟨y8, yf8⟩ := blk_cl c9n
      obtain ⟨y13, yf13⟩ := blk_cl c13
      go_upto_region 23 with fail
      obtain ⟨ea, ec, rfl, e1, e2, e3⟩ := r9
      have r9 : Rk w13 (.slice ea out.length ec) out := ⟨ea, ec, rfl, e1, e2, e3⟩
      clear e3
      have hs1 : ((m1 : Int) + (m2 : Int) != (n1 : Int) + (n2 : Int) + 1) = false := by have := HM.out.1; simp; omega
      have hs2 : ((m3 : Int) != (n3 : Int) + (out.length : Int)) = false := by have := HM.out.2; simp; omega
      go_cut [171] (fun v wx => v = .bool false /\ w13 = wx)
      case first =>
       as_aux_lemma =>
        by_cases hmem : key ∈ allK (polOf x) s [113, 117, 101, 117, 101]
        ·have hh := K1.2 hmem
         subst hh
         have HA1 := at_in r1 hmem
         clear K1 K2 K3 K4 hnd hrem
         go_wp2_with fail
         refine HA1.mono ?_
         rintro e w14 ⟨⟨r, rfl⟩, rfl⟩
         clear HA1
         have hr0 : decide ((r : Int) >= 0) = true := by simp
         have hr1 : decide ((0 : Int) >= (r : Int)) = decide ((r : Int) <= 0) := rfl
         have hr2 : decide ((0 : Int) <= (r : Int)) = true := by simp
         go_wp2_with fail
         go_meet
         exact ⟨rfl, rfl⟩
        ·have hh : hit = false := by
          cases hit with
          | false => rfl
          | true => exact absurd (K1.1 rfl) hmem
         subst hh
         have HA1 := at_no r1 hmem
         clear K1 K2 K3 K4 hnd hrem
         go_wp2_with fail
         refine HA1.mono ?_
         rintro e w14 ⟨rfl, rfl⟩
         clear HA1
         go_wp2_with fail
         go_meet
         exact ⟨rfl, rfl⟩
      case rest =>
      obtain ⟨rfl, rfl⟩ := hcut
      clear hs1 hs2 y8 yf8 y13 yf13 c13 c9n K1 K4
      go_upto_region 25 with fail
      obtain ⟨Li, hLi⟩ : ∃ L, Hid (L = allK (polOf x) s [113, 117, 101, 117, 101]) := ⟨allK (polOf x) s [113, 117, 101, 117, 101], rfl⟩
      obtain ⟨Lg, hLg⟩ : ∃ L, Hid (L = allK (polOf x) s [103, 104, 111, 115, 116]) := ⟨allK (polOf x) s [103, 104, 111, 115, 116], rfl⟩
      rw [<- hLi.out] at r1 K2 K3
      rw [<- hLg.out] at r2 K3
      generalize hLn : allK (polOf x) t [113, 117, 101, 117, 101] = Ln at *
      generalize hLt : allK (polOf x) t [103, 104, 111, 115, 116] = Lt at *
      have K2' : Hid (∀ k ∈ Li, k ∈ Ln \/ k ∈ out) := K2
      have K3' : Hid (∀ k ∈ Ln, k ∈ Li \/ k = key \/ k ∈ Lg) := K3
      have HLn : Hid (allK (polOf x) t [113, 117, 101, 117, 101] = Ln /\ allK (polOf x) t [103, 104, 111, 115, 116] = Lt) := ⟨hLn, hLt⟩
      have hlL : Li.length <= 400 := by rw [hLi.out]; exact hl1
      clear hLn hLt K2 K3 hLi hLg hl1 hl2
      obtain ⟨pa, pc, rfl, p1, p2, p3⟩ := r1
      have r1 : Rk w13 (.slice pa Li.length pc) Li := ⟨pa, pc, rfl, p1, p2, p3⟩
      obtain ⟨na, nc, rfl, s1, s2, s3⟩ := r3
      have r3 : Rk w13 (.slice na Ln.length nc) Ln := ⟨na, nc, rfl, s1, s2, s3⟩
      go_wp2_with fail
      go_loopg [174] Li.length (fun f v wx => ∃ j : Nat, v = .int .i64 j /\ j + f = Li.length /\ w13 = wx)
      case atStart => exact ⟨0, rfl, by omega, rfl⟩
      case round =>
       obtain ⟨j, rfl, hj, rfl⟩ := hrel
       by_cases hjl : j < Li.length
       ·have hjt : decide ((j : Int) < (Li.length : Int)) = true := by simp; omega
        obtain ⟨kk, hkk⟩ : ∃ kk, Li[j]? = some kk := ⟨_, List.getElem?_eq_getElem hjl⟩
        have hne : Li ≠ [] := fun e => by rw [e] at hjl; simp at hjl
        obtain ⟨gp, op, rfl, lp, hp⟩ := p3.resolve_left (fun e => hne e.2.1)
        have cj := hp j kk hkk
        have ixj := ix_u64 gp op Li.length pc j hjl
        have hor := K2'.out kk (List.mem_of_getElem? hkk)
        clear hp hkk hne s3
        by_cases hmem : kk ∈ Ln
        ·have HA1 := at_in r3 hmem
         go_wp2_with fail
         refine HA1.mono ?_
         rintro e w14 ⟨⟨r, rfl⟩, rfl⟩
         clear HA1
         have hr0 : decide ((r : Int) < 0) = false := by simp
         go_wp2_with fail
         go_roundg (gk - 1)
         case measure => omega
         case rel => exact ⟨j + 1, by simp, by omega, rfl⟩
        ·have HA1 := at_no r3 hmem
         have HA2 := at_in r9 (hor.resolve_left hmem)
         go_wp2_with fail
         refine HA1.mono ?_
         rintro e w14 ⟨rfl, rfl⟩
         clear HA1
         go_wp2_with fail
         refine HA2.mono ?_
         rintro e w14 ⟨⟨r, rfl⟩, rfl⟩
         clear HA2
         have hr0 : decide ((r : Int) < 0) = false := by simp
         go_wp2_with fail
         go_roundg (gk - 1)
         case measure => omega
         case rel => exact ⟨j + 1, by simp, by omega, rfl⟩
       ·have hjt : decide ((j : Int) < (Li.length : Int)) = false := by simp; omega
        go_upto_region 31 with fail
        clear p3 hjl hj hjt
        go_wp2_with fail
        go_loopg [191] Ln.length (fun f v wx => ∃ j : Nat, v = .int .i64 j /\ j + f = Ln.length /\ w13 = wx)
        case atStart => exact ⟨0, rfl, by omega, rfl⟩
        case round =>
         obtain ⟨j, rfl, hj, rfl⟩ := hrel
         by_cases hjl : j < Ln.length
         ·obtain ⟨kk, hkk⟩ : ∃ kk, Ln[j]? = some kk := ⟨_, List.getElem?_eq_getElem hjl⟩
          have hne : Ln ≠ [] := fun e => by rw [e] at hjl; simp at hjl
          obtain ⟨gp, op, rfl, lp, hp⟩ := s3.resolve_left (fun e => hne e.2.1)
          have cj := hp j kk hkk
          have ixj := ix_u64 gp op Ln.length nc j hjl
          have hor := K3'.out kk (List.mem_of_getElem? hkk)
          clear hp hkk hne
          by_cases hmem : kk ∈ Li
          ·have HA1 := at_in r1 hmem
           clear hor
           go_wp2_with fail
           refine HA1.mono ?_
           rintro e w14 ⟨⟨r, rfl⟩, rfl⟩
           clear HA1
           have hr0 : decide ((r : Int) < 0) = false := by simp
           go_wp2_with fail
           go_roundg (gk - 1)
           case measure => omega
           case rel => exact ⟨j + 1, by simp, by omega, rfl⟩
          ·have HA1 := at_no r1 hmem
           have hor := hor.resolve_left hmem
           by_cases hkey : kk = key
           ·have hb : ((kk : Int) != (key : Int)) = false := by rw [hkey]; simp
            clear hkey hor
            go_wp2_with fail
            refine HA1.mono ?_
            rintro e w14 ⟨rfl, rfl⟩
            clear HA1
            go_wp2_with fail
            go_roundg (gk - 1)
            case measure => omega
            case rel => exact ⟨j + 1, by simp, by omega, rfl⟩
           ·have hb : ((kk : Int) != (key : Int)) = true := by simp; omega
            have HA2 := at_in r2 (hor.resolve_left hkey)
            clear hkey hor
            go_wp2_with fail
            refine HA1.mono ?_
            rintro e w14 ⟨rfl, rfl⟩
            clear HA1
            go_wp2_with fail
            refine HA2.mono ?_
            rintro e w14 ⟨⟨r, rfl⟩, rfl⟩
            clear HA2
            have hr0 : decide ((r : Int) < 0) = false := by simp
            go_wp2_with fail
            go_roundg (gk - 1)
            case measure => omega
            case rel => exact ⟨j + 1, by simp, by omega, rfl⟩
         ·go_upto_region 37 with fail
          clear K2' K3' r1 r2 r9 hj hjl
          obtain ⟨ta, tc, rfl, t5, t6, t7⟩ := r4
          obtain ⟨i0, hi0, hz0, hz1, hz2⟩ := info_parts info_u64
          have hlLn : Ln.length <= 400 := hl3
          have hlLt : Lt.length <= 400 := hl4
          go_cut [29] (fun v wx => Below w13.heap.size w13 wx /\ wx.ownsRow w13.heap.size 27 1 v (Ln ++ Lt).length (keysV (Ln ++ Lt)))
          case first =>
           as_aux_lemma =>
            refine wp_region_lit ?_
            iterate 3 go_step
            rcases s3 with ⟨rfl, rfl, rfl⟩ | ⟨gn, on, rfl, ln, hn⟩
            ·refine wpList_append_own_none rfl (.const (.slice none 0 0)) (.tmp 211) 22 rfl w13.heap.size 27 i0 1 Tryz.underlying22 hi0 (.slice none 0 0) 0 [] (by simp [Act.eval]) (World.ownsRow_nil _ _ _ _) (by simp [Act.eval]) ?_
             go_simp
             iterate 3 go_step
             rcases t7 with ⟨rfl, rfl, rfl⟩ | ⟨gt, ot, rfl, lt, ht⟩
             ·refine wpList_append_own_none rfl (.tmp 212) (.tmp 213) 22 rfl w13.heap.size 27 i0 1 Tryz.underlying22 hi0 (.slice none 0 0) 0 [] (by simp [Act.eval]) (World.ownsRow_nil _ _ _ _) (by simp [Act.eval]) ?_
              go_wp2_with fail
              go_meet
              exact ⟨Below.refl _ _, World.ownsRow_nil _ _ _ _⟩
             ·refine wpList_append_own_at _ rfl (.tmp 212) (.tmp 213) 22 rfl w13.heap.size 27 i0 (.int .u64 0) 1 8 Tryz.underlying22 hi0 hz0 hz1 hz2 rfl (by decide) (.slice none 0 0) 0 [] (by simp [Act.eval]) (World.ownsRow_nil _ _ _ _) ⟨gt, ot, none⟩ Lt.length tc (keysV Lt) (by simp [Act.eval]) (by simp [keysV]) (keys_read ht) keys_one (by simp only [maxLen]; omega) (by omega) (by omega) ?_
              intro v' w14 hown6 hgrow _ _
              have B14 : Below w13.heap.size w13 w14 := ⟨hgrow.os, hgrow.tape, hgrow.output, hgrow.size, fun b hb => hgrow.block b hb (fun e => by simp [Value.ownBlock] at e)⟩
              have o14 : w14.ownsRow w13.heap.size 27 1 v' ([] ++ Lt).length (keysV ([] ++ Lt)) := by simpa using hown6
              clear hown6 hgrow
              go_wp2_with fail
              go_meet
              exact ⟨B14, o14⟩
            ·refine wpList_append_own_at _ rfl (.const (.slice none 0 0)) (.tmp 211) 22 rfl w13.heap.size 27 i0 (.int .u64 0) 1 8 Tryz.underlying22 hi0 hz0 hz1 hz2 rfl (by decide) (.slice none 0 0) 0 [] rfl (World.ownsRow_nil _ _ _ _) ⟨gn, on, none⟩ Ln.length nc (keysV Ln) (by simp [Act.eval]) (by simp [keysV]) (keys_read hn) keys_one (by simp only [maxLen]; omega) (by omega) (by omega) ?_
             intro v' w14 hown6 hgrow _ _
             have B14 : Below w13.heap.size w13 w14 := ⟨hgrow.os, hgrow.tape, hgrow.output, hgrow.size, fun b hb => hgrow.block b hb (fun e => by simp [Value.ownBlock] at e)⟩
             have z14 := B14.size
             obtain ⟨za, zk, zc, rfl⟩ := ownsRow_form2 hown6
             have o14 : w14.ownsRow w13.heap.size 27 1 (.slice za zk zc) Ln.length (keysV Ln) := by simpa using hown6
             clear hown6 hgrow hn
             go_simp
             iterate 3 go_step
             rcases t7 with ⟨rfl, rfl, rfl⟩ | ⟨gt, ot, rfl, lt, ht⟩
             ·refine wpList_append_own_none rfl (.tmp 212) (.tmp 213) 22 rfl w13.heap.size 27 i0 1 Tryz.underlying22 hi0 (.slice za zk zc) Ln.length (keysV Ln) (by simp [Act.eval]) o14 (by simp [Act.eval]) ?_
              have o15 : w14.ownsRow w13.heap.size 27 1 (.slice za zk zc) (Ln ++ []).length (keysV (Ln ++ [])) := by simpa using o14
              go_wp2_with fail
              go_meet
              exact ⟨B14, o15⟩
             ·refine wpList_append_own_at _ rfl (.tmp 212) (.tmp 213) 22 rfl w13.heap.size 27 i0 (.int .u64 0) 1 8 Tryz.underlying22 hi0 hz0 hz1 hz2 rfl (by decide) (.slice za zk zc) Ln.length (keysV Ln) (by simp [Act.eval]) o14 ⟨gt, ot, none⟩ Lt.length tc (keysV Lt) (by simp [Act.eval]) (by simp [keysV]) (keys_read (fun j k hk => (B14.cell (p := ⟨gt, ot + j, none⟩) lt).trans (ht j k hk))) keys_one (by simp only [maxLen]; omega) (by omega) (by omega) ?_
              intro v'' w15 hown7 hgrow7 _ _
              have B15 : Below w13.heap.size w13 w15 := B14.trans ⟨hgrow7.os, hgrow7.tape, hgrow7.output, hgrow7.size, fun b hb => hgrow7.block b (by omega) (fun e => by have := (o14.lt b e.symm).1; omega)⟩
              have o15 : w15.ownsRow w13.heap.size 27 1 v'' (Ln ++ Lt).length (keysV (Ln ++ Lt)) := by
               rw [List.length_append, show keysV (Ln ++ Lt) = keysV Ln ++ keysV Lt from by simp [keysV]]
               exact hown7
              clear hown7 hgrow7 o14
              go_wp2_with fail
              go_meet
              exact ⟨B15, o15⟩
          case rest =>
          obtain ⟨B16, o16⟩ := hcut
          have z16 := B16.size
          have hE16 := hE13.below B16
          have q16 : Rs2 wc w.heap.size vq (nmsW (polOf x).L [113, 117, 101, 117, 101]) := own_mv q13 (fun b _ hb => B16.block b hb)
          have g16 : Rs2 wc w.heap.size vg (nmsW (polOf x).L [103, 104, 111, 115, 116]) := own_mv g13 (fun b _ hb => B16.block b hb)
          have hB16 := hB13.trans (B16.mono (by have := hB13.size; omega))
          have hndW : Hid ((Ln ++ Lt).Nodup) := hnd
          have hrem9 : Hid (∀ kk, ((t.removed kk).1 = true ↔ kk ∈ Ln ++ Lt) /\ ((t.removed kk).2.removed kk).1 = false /\ (Cap x t -> Cap x (t.removed kk).2)) := hrem
          have hlw : (Ln ++ Lt).length <= 800 := by rw [List.length_append]; omega
          have hM9 : Hid (m1 + m2 <= i + 1 /\ m3 <= 7000000 * (i + 1)) := by have := HM.out; exact ⟨by omega, by omega⟩
          have hdm8 : Hid (∀ k, dom' k \/ k = g -> w.heap.size <= k /\ vq.ownBlock ≠ some k /\ vg.ownBlock ≠ some k) := hdm9
          have hc8 : Hid (Cap x t) := hc9
          have hE8 : Hid (Eg wc g dom' x t (m1, m2, m3)) := hE16
          have hq8 : Hid (Rs2 wc w.heap.size vq (nmsW (polOf x).L [113, 117, 101, 117, 101]) /\ Rs2 wc w.heap.size vg (nmsW (polOf x).L [103, 104, 111, 115, 116]) /\ Below w.heap.size w wc) := ⟨q16, g16, hB16⟩
          clear hnd hrem hE13 hE16 q13 g13 q16 g16 hB13 hB16 B16 hdm9 hc9 HM s3 t7 HLn
          generalize Ln ++ Lt = Wl at *
          obtain ⟨fa, fc, rfl, f1, f2, f3⟩ := Rk.own o16
          have rW : Rk wc (.slice fa Wl.length fc) Wl := ⟨fa, fc, rfl, f1, f2, f3⟩
          clear o16
          go_wp2_with fail
          go_loopg [217] Wl.length (fun f v wx => ∃ j : Nat, v = .int .i64 j /\ j + f = Wl.length /\ wc = wx)
          case atStart => exact ⟨0, rfl, by omega, rfl⟩
          case round =>
           obtain ⟨j, rfl, hj, rfl⟩ := hrel
           by_cases hjl : j < Wl.length
           ·obtain ⟨kk, hkk⟩ : ∃ kk, Wl[j]? = some kk := ⟨_, List.getElem?_eq_getElem hjl⟩
            have hne : Wl ≠ [] := fun e => by rw [e] at hjl; simp at hjl
            obtain ⟨gp, op, rfl, lp, hp⟩ := f3.resolve_left (fun e => hne e.2.1)
            have cj := hp j kk hkk
            have ixj := ix_u64 gp op Wl.length fc j hjl
            have hjc : j <= fc := by omega
            have hlj : (Wl.take j).length = j := by rw [List.length_take]; omega
            have rj : Rk wc (.slice (some ⟨gp, op, none⟩) j fc) (Wl.take j) := ⟨_, fc, by rw [hlj], by omega, f2, Or.inr ⟨gp, op, rfl, lp, fun a k ha => hp a k (by rw [List.getElem?_take] at ha; split at ha; exact ha; cases ha)⟩⟩
            have hno : kk ∉ Wl.take j := fun hm => by
             obtain ⟨a, ha⟩ := List.mem_iff_getElem?.1 hm
             rw [List.getElem?_take] at ha
             split at ha
             ·rename_i hlt
              have := (List.getElem?_inj (by omega) hndW.out).1 (ha.trans hkk.symm)
              omega
             ·cases ha
            have HA1 := at_no rj hno
            clear hp hkk hne hlj rj hno
            go_wp2_with fail
            refine HA1.mono ?_
            rintro e w14 ⟨rfl, rfl⟩
            clear HA1
            go_wp2_with fail
            go_roundg (gk - 1)
            case measure => omega
            case rel => exact ⟨j + 1, by simp, by omega, rfl⟩
           ·go_upto_region 44 with fail
            clear hj hjl f3
            have h7 : (i : Int).tmod 7 = ((i % 7 : Nat) : Int) := by rw [Int.tmod_eq_emod_of_nonneg (by omega)]; omega
            by_cases h6 : i % 7 = 6
            ·have h61 : (((i % 7 : Nat) : Int) == 6) = true := by rw [h6]; rfl
             have h2 : (i : Int).tdiv 2 = ((i / 2 : Nat) : Int) := by rw [Int.tdiv_eq_ediv_of_nonneg (by omega)]; omega
             have hi3 : i / 2 < l.length := by omega
             obtain ⟨k2, hk2⟩ : ∃ k2, l[i / 2]? = some k2 := ⟨_, List.getElem?_eq_getElem hi3⟩
             have cc2 := (hq8.out.2.2.cell (p := ⟨ga, oa + i / 2, none⟩) lga).trans (hKs.out _ _ hk2)
             have ix2 := ix_u64 ga oa l.length ca (i / 2) hi3
             have hk64b := hk8.out k2 (List.mem_of_getElem? hk2)
             have HR := eremove_any hE8.out k2 hk64b
             obtain ⟨hr1, hr2, hr3⟩ := hrem9.out k2
             have hfin : Hid (∀ w17 w18 : World, Fo (fun k => dom' k) wc w17 -> Fo (fun k => dom' k) w17 w18 -> Eg w18 g dom' x ((t.removed k2).2.removed k2).2 (m1, m2, m3) -> Cv w x g vq vg (i + 1) w18) := fun w17 w18 F1 F2 hE18 => by
              have hbl : ∀ b, b < wc.heap.size -> ¬ dom' b -> w18.heap[b]? = wc.heap[b]? := fun b hb hn => (F2.block b (by have := F1.size; omega) hn).trans (F1.block b hb hn)
              have hz := hq8.out.2.2.size
              exact ⟨⟨_, dom', (m1, m2, m3), hE18, cap_rem (cap_rem hc8.out k2) k2, hM9.out.1, hM9.out.2, hdm8.out⟩, own_mv hq8.out.1 (fun b e hb => hbl b hb (fun hd => (hdm8.out b (Or.inl hd)).2.1 e)), own_mv hq8.out.2.1 (fun b e hb => hbl b hb (fun hd => (hdm8.out b (Or.inl hd)).2.2 e)), hq8.out.2.2.trans ⟨F2.os.trans F1.os, F2.tape.trans F1.tape, F2.output.trans F1.output, Nat.le_trans F1.size F2.size, fun b hb => hbl b (by omega) (fun hd => by have := (hdm8.out b (Or.inl hd)).1; omega)⟩⟩
             have hcc : Hid (∀ w17 : World, Fo (fun k => dom' k) wc w17 -> w17.cell? ⟨ga, oa + i / 2, none⟩ = some (.int .u64 k2)) := fun w17 F1 => (World.cell?_of_block (a := ⟨ga, oa + i / 2, none⟩) (F1.block ga (by have := hq8.out.2.2.size; omega) (fun hd => by have := (hdm8.out ga (Or.inl hd)).1; omega))).trans cc2
             clear hk2 h6
             go_upto_region 45 with fail
             go_cut [32] (fun v wx => v = .bool (t.removed k2).1 /\ wc = wx)
             case first =>
              as_aux_lemma =>
               by_cases hmem : k2 ∈ Wl
               ·have rb : Hid ((t.removed k2).1 = true) := hr1.2 hmem
                have HA1 := at_in rW hmem
                clear hr1 hr2 hr3 HR hfin hcc
                go_wp2_with fail
                refine HA1.mono ?_
                rintro e w14 ⟨⟨r, rfl⟩, rfl⟩
                clear HA1
                have hr0 : decide ((r : Int) >= 0) = true := by simp
                go_wp2_with fail
                go_meet
                exact ⟨by rw [rb.out], rfl⟩
               ·have rb : Hid ((t.removed k2).1 = false) := by
                 cases hb : (t.removed k2).1 with
                 | false => rfl
                 | true => exact absurd (hr1.1 hb) hmem
                have HA1 := at_no rW hmem
                clear hr1 hr2 hr3 HR hfin hcc
                go_wp2_with fail
                refine HA1.mono ?_
                rintro e w14 ⟨rfl, rfl⟩
                clear HA1
                go_wp2_with fail
                go_meet
                exact ⟨by rw [rb.out], rfl⟩
             case rest =>
             obtain ⟨rfl, rfl⟩ := hcut
             clear hr1 hr3 rW
             generalize hb : (t.removed k2).1 = b at *
             have hbb : (b != b) = false := by simp
             clear hb
             go_wp2_with fail
             refine HR.mono ?_
             rintro e w17 ⟨rfl, F17, hE17⟩
             clear HR
             have HR2 := eremove_any hE17 k2 hk64b
             rw [hr2] at HR2
             have cc3 := hcc.out w17 F17
             go_wp2_with fail
             refine HR2.mono ?_
             rintro e w18 ⟨rfl, F18, hE18⟩
             clear HR2
             have hN := hfin.out w17 w18 F17 F18 hE18
             clear hfin hE18 hE17
             go_wp2_with fail
             go_roundg (go - 1)
             case measure => have := hgo.out; omega
             case rel => exact ⟨i + 1, by simp, by have := hgo.out; omega, by omega, hN⟩
            ·have h61 : (((i % 7 : Nat) : Int) == 6) = false := by simp; omega
             have hN : Cv w x g vq vg (i + 1) wc := ⟨⟨t, dom', (m1, m2, m3), hE8.out, hc8.out, hM9.out.1, hM9.out.2, hdm8.out⟩, hq8.out.1, hq8.out.2.1, hq8.out.2.2⟩
             clear h6
             go_wp2_with fail
             go_roundg (go - 1)
             case measure => have := hgo.out; omega
             case rel => exact ⟨i + 1, by simp, by have := hgo.out; omega, by omega, hN⟩
   ·have t1 : decide ((i : Int) < (l.length : Int)) = false := by simp; omega
    have hB := H.b
    clear H
    go_wp2_with fail
    go_ret
    exact ⟨rfl, hB⟩
end Go.Proofs.YtfddoieakfpagabGreatDoor
