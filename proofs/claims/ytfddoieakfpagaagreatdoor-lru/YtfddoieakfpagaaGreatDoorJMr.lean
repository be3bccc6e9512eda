import Derived.Test.YtfddoieakfpagaaGreatDoorJJr
namespace Go.Proofs.YtfddoieakfpagaaGreatDoor
open Go.RowKit
/-! Lru: a greater cache beside. -/
def Lr (N : Nat) (ks my : List Nat) : Prop := my = ks ∨ ∃ z, my = ks ++ [z] ∧ ks.length = N
theorem Lr.hit {P : Pol} {N : Nat} (hL : P.L = oneL (N + 1)) (hr : P.rul [114] = some oneR) {my l1 l2 : List Nat} {key : Nat} (h : Lr N (l1 ++ key :: l2) my) (hn : key ∉ l1) (hl : (l1 ++ key :: l2).length ≤ N) : ∃ my' h2 o2, P.access (oneE my) key = .ok (h2, o2, oneE my') ∧ o2.length ≤ 1 ∧ Lr N (key :: (l1 ++ l2)) my' := by
  rcases h with rfl | ⟨z, rfl, hz⟩
  · exact ⟨_, _, _, one_hit hL hr rfl hn (by omega), by simp, Or.inl rfl⟩
  · refine ⟨_, _, _, one_hit hL hr (l1 := l1) (l2 := l2 ++ [z]) (by simp) hn (by simp at hz ⊢; omega), by simp, Or.inr ⟨z, by simp, by simp at hz ⊢; omega⟩⟩
theorem Lr.miss0 {P : Pol} {N : Nat} (hL : P.L = oneL (N + 1)) (hm : P.rul [109, 105, 115, 115] = some oneM) {my ks : List Nat} {key : Nat} (h : Lr N ks my) (hn : key ∉ ks) (hl : ks.length < N) : ∃ my' h2 o2, P.access (oneE my) key = .ok (h2, o2, oneE my') ∧ o2.length ≤ 1 ∧ Lr N (key :: ks) my' := by
  rcases h with rfl | ⟨z, rfl, hz⟩
  · exact ⟨_, _, _, one_miss0 hL hm hn (by omega), by simp, Or.inl rfl⟩
  · omega
theorem Lr.miss1 {P : Pol} {N : Nat} (hL : P.L = oneL (N + 1)) (hr : P.rul [114] = some oneR) (hm : P.rul [109, 105, 115, 115] = some oneM) {my m : List Nat} {k key : Nat} (h : Lr N (m ++ [k]) my) (hn : key ∉ m ++ [k]) (hl : (m ++ [k]).length = N) : ∃ my' h2 o2, P.access (oneE my) key = .ok (h2, o2, oneE my') ∧ o2.length ≤ 1 ∧ Lr N (key :: m) my' := by
  have hlm : (key :: m).length = N := by simp at hl ⊢; omega
  rcases h with rfl | ⟨z, rfl, hz⟩
  · exact ⟨_, _, _, one_miss0 hL hm hn (by omega), by simp, Or.inr ⟨k, by simp, hlm⟩⟩
  · by_cases e : key = z
    · subst e
      refine ⟨_, _, _, one_hit hL hr (l1 := m ++ [k]) (l2 := []) (by simp) hn (by simp at hl ⊢; omega), by simp, Or.inr ⟨k, by simp, hlm⟩⟩
    · refine ⟨_, _, _, one_miss1 hL hm (m := m ++ [k]) (k := z) (fun h => ?_) (by simp at hl ⊢; omega), by simp, Or.inr ⟨k, by simp, hlm⟩⟩
      simp only [List.mem_append, List.mem_singleton] at h hn
      rcases h with h | h
      · exact hn h
      · exact e h
theorem Lr.pre {N : Nat} {ks my : List Nat} (h : Lr N ks my) : ∃ r, my = ks ++ r ∧ my.length ≤ ks.length + 1 := by
  rcases h with rfl | ⟨z, rfl, _⟩
  · exact ⟨[], by simp, by omega⟩
  · exact ⟨[z], rfl, by simp⟩
def lruTxt (n : Nat) : List UInt8 := [113, 117, 101, 117, 101, 32, 114, 32] ++ figL n ++ [59, 32, 111, 110, 32, 114, 32, 123, 32, 112, 117, 116, 32, 114, 59, 32, 125, 32, 111, 110, 32, 109, 105, 115, 115, 32, 123, 32, 105, 102, 32, 102, 117, 108, 108, 32, 114, 32, 123, 32, 101, 118, 105, 99, 116, 32, 114, 59, 32, 125, 32, 112, 117, 116, 32, 114, 59, 32, 125]
theorem lru_pol_all : ((List.range 50).all fun m => isPol (lruTxt (m + 1)) (oneL (m + 1)) 0 [([114], some oneR), ([109, 105, 115, 115], some oneM)]) = true := by kernel_rfl
theorem lru_pol (m : Nat) (h1 : 1 ≤ m) (h2 : m ≤ 50) : ∃ x, readS (lruTxt m) = .ok x ∧ (polOf x).L = oneL m ∧ (polOf x).rul [114] = some oneR ∧ (polOf x).rul [109, 105, 115, 115] = some oneM := by
  have h := List.all_eq_true.1 lru_pol_all (m - 1) (by simp; omega)
  rw [show m - 1 + 1 = m from by omega] at h
  obtain ⟨x, hx, hL, hm, hr⟩ := isPol_ok h
  exact ⟨x, hx, hL, hr ([114], some oneR) (by simp), hr ([109, 105, 115, 115], some oneM) (by simp)⟩
/-- The greater cache, at a round; x's blocks stand apart. -/
structure LruE (w : World) (N lo : Nat) (x y : Tx) (g g2 i : Nat) (v : Value) (wr : World) : Prop where
  ex : ∃ ks my dom dom2 n n2, Eg wr g dom x (oneE ks) n ∧ Eg wr g2 dom2 y (oneE my) n2 ∧ Lr N ks my ∧ (∀ k, (dom k ∨ k = g) → (dom2 k ∨ k = g2) → False) ∧ Rk wr v ks ∧ ks.length ≤ N ∧ (∀ b, v.ownBlock = some b → ¬ (dom b ∨ b = g) ∧ ¬ (dom2 b ∨ b = g2)) ∧ (∀ k, dom k → lo ≤ k) ∧ (∀ k, dom2 k → lo ≤ k) ∧ (n.1 ≤ i ∧ n.2.1 ≤ i ∧ n.2.2 ≤ 7000000 * i) ∧ (n2.1 ≤ i ∧ n2.2.1 ≤ i ∧ n2.2.2 ≤ 7000000 * i)
  g : lo ≤ g
  g2 : lo ≤ g2
  b : Below lo w wr
theorem Rk.own_lt {w : World} {v : Value} {ks : List Nat} (h : Rk w v ks) {b : Nat} (hb : v.ownBlock = some b) : b < w.heap.size := by
  obtain ⟨a, cap, e, _, _, h3⟩ := h
  rcases h3 with ⟨e2, _⟩ | ⟨g2, o2, e2, hg2, _⟩
  · rw [e, e2] at hb; simp [Value.ownBlock] at hb
  · rw [e, e2] at hb; simp [Value.ownBlock] at hb; omega
theorem cnt_le {n : Nat × Nat × Nat} {i o : Nat} {hit : Bool} (h : n.1 ≤ i ∧ n.2.1 ≤ i ∧ n.2.2 ≤ 7000000 * i) (ho : o ≤ 1) : (cntE n hit o).1 ≤ i + 1 ∧ (cntE n hit o).2.1 ≤ i + 1 ∧ (cntE n hit o).2.2 ≤ 7000000 * (i + 1) := by
  obtain ⟨h1, h2, h3⟩ := h
  cases hit <;> simp [cntE] <;> omega
end Go.Proofs.YtfddoieakfpagaaGreatDoor

namespace Go.Proofs.YtfddoieakfpagaaGreatDoor
open Go.RowKit
/-- Between the two caches' calls. -/
structure LruM (w : World) (N lo : Nat) (x y : Tx) (g g2 i : Nat) (key : Nat) (v : Value) (wb : World) : Prop where
  ex : ∃ ks my my' h2 o2 dom dom2 n n2, Eg wb g dom x (oneE ks) n ∧ Eg wb g2 dom2 y (oneE my) n2 ∧ (polOf y).access (oneE my) key = .ok (h2, o2, oneE my') ∧ o2.length ≤ 1 ∧ Lr N ks my' ∧ (∀ k, (dom k ∨ k = g) → (dom2 k ∨ k = g2) → False) ∧ Rk wb v ks ∧ ks.length ≤ N ∧ (∀ b, v.ownBlock = some b → ¬ (dom b ∨ b = g) ∧ ¬ (dom2 b ∨ b = g2)) ∧ (∀ k, dom k → lo ≤ k) ∧ (∀ k, dom2 k → lo ≤ k) ∧ (n.1 ≤ i + 1 ∧ n.2.1 ≤ i + 1 ∧ n.2.2 ≤ 7000000 * (i + 1)) ∧ (n2.1 ≤ i ∧ n2.2.1 ≤ i ∧ n2.2.2 ≤ 7000000 * i)
  g : lo ≤ g
  g2 : lo ≤ g2
  b : Below lo w wb
section
variable {w wr wa wb : World} {E : Nat → Addr} {N : Nat} {x y : Tx} {g g2 i key : Nat} {dom dom2 : Nat → Prop} {v u vo : Value} {ks ks' my out : List Nat} {n n2 : Nat × Nat × Nat} {hit : Bool}
theorem lru_told (SS : Sent w E) (hb : Below w.heap.size w wr) (hg : w.heap.size ≤ g) (hg2 : w.heap.size ≤ g2) (hE : Eg wr g dom x (oneE ks) n) (hE2 : Eg wr g2 dom2 y (oneE my) n2) (hdis : ∀ k, (dom k ∨ k = g) → (dom2 k ∨ k = g2) → False) (hd : ∀ k, dom k → w.heap.size ≤ k) (hd2 : ∀ k, dom2 k → w.heap.size ≤ k) (hn : n.1 ≤ i ∧ n.2.1 ≤ i ∧ n.2.2 ≤ 7000000 * i) (hn2 : n2.1 ≤ i ∧ n2.2.1 ≤ i ∧ n2.2.2 ≤ 7000000 * i) (hi : i ≤ 16384) (hk : key < key64)
    (Ba : Below wr.heap.size wr wa) (ha : (polOf x).access (oneE ks) key = .ok (hit, out, oneE ks')) (ho : out.length ≤ 1) (hks : (polOf x).keys (oneE ks') [114] = some ks') (hout : Rk wa vo out) (hofo : ∀ b, vo.ownBlock = some b → ¬ (dom b ∨ b = g)) (hu : Rk wa u ks') (hou : ∀ b, u.ownBlock = some b → ¬ (dom b ∨ b = g) ∧ ¬ (dom2 b ∨ b = g2)) (hN : ks'.length ≤ N)
    (hy : ∃ my' h2 o2, (polOf y).access (oneE my) key = .ok (h2, o2, oneE my') ∧ o2.length ≤ 1 ∧ Lr N ks' my') :
    Calls Tryz.prog 30 #[ptr g, .int .u64 key, .bool hit, vo, S [114], u] wa fun e wb => e = .returned (.bool true) ∧ LruM w N w.heap.size x y g g2 i key u wb := by
  obtain ⟨my', h2, o2, hy1, hy2, hy3⟩ := hy
  have hz := hb.size
  have hza := Ba.size
  have hlo : ∀ k, dom k ∨ k = g → w.heap.size ≤ k := fun k e => by
    rcases e with e | e
    · exact hd k e
    · exact e ▸ hg
  refine (told_yes SS (hb.trans (Ba.mono hz)) (hE.below Ba) hlo key hk (by omega) (by omega) (by omega) ha hks hout hu hofo (fun b e => (hou b e).1)).mono ?_
  rintro e wb ⟨dom', rfl, hF, hE', hd'⟩
  have hE2a := hE2.below Ba
  have hE2b : Eg wb g2 dom2 y (oneE my) n2 := hE2a.keep hF.size (fun k hk e => hF.block k hk (fun e2 => hdis k e2 e))
  have hdl2 : ∀ k, dom2 k ∨ k = g2 → k < wa.heap.size := fun k e => by
    rcases e with e | e
    · have := hE2.dl k e; omega
    · have := hE2.lt; omega
  refine ⟨rfl, ⟨ks', my, my', h2, o2, dom', dom2, _, n2, hE', hE2b, hy1, hy2, hy3, fun k e1 e2 => ?_, hu.fo hF (fun b e => (hou b e).1), hN, fun b e => ⟨fun hc => ?_, (hou b e).2⟩, fun k hk => ?_, hd2, cnt_le hn ho, hn2⟩, hg, hg2, hb.trans ((Ba.mono hz).trans (hF.lows hlo (by omega)))⟩
  · rcases e1 with e1 | e1
    · rcases hd' k e1 with e1 | e1
      · exact hdis k (Or.inl e1) e2
      · have := hdl2 k e2; omega
    · exact hdis k (Or.inr e1) e2
  · have hlt := hu.own_lt e
    rcases hc with hc | hc
    · rcases hd' b hc with hc | hc
      · exact (hou b e).1 (Or.inl hc)
      · omega
    · exact (hou b e).1 (Or.inr hc)
  · rcases hd' k hk with hk | hk
    · exact hd k hk
    · omega
theorem lru_access (SS : Sent w E) (hi : i ≤ 16384) (hk : key < key64) (h : LruM w N w.heap.size x y g g2 i key u wb) :
    Calls Tryz.prog 21 #[ptr g2, .int .u64 key] wb fun e wc => ∃ h2 ev, e = .returned (.tuple #[.bool h2, ev, .int .i64 0]) ∧ LruE w N w.heap.size x y g g2 (i + 1) u wc := by
  obtain ⟨ks, my, my', h2, o2, dom, dom2, n, n2, hE, hE2, hy1, hy2, hy3, hdis, hR, hN, hoff, hd, hd2, hn, hn2⟩ := h.ex
  have HA := eaccess_any hE2 (SS.move h.b) key hk (by omega) (by omega) (by omega)
  rw [hy1] at HA
  refine HA.mono ?_
  rintro e wc ⟨ev, dom', rfl, hF, hE', hd', _, _⟩
  have hz := h.b.size
  have hdl : ∀ k, dom k ∨ k = g → k < wb.heap.size := fun k e => by
    rcases e with e | e
    · exact hE.dl k e
    · have := hE.lt; omega
  refine ⟨h2, ev, rfl, ⟨ks, my', dom, dom', n, _, hE.keep hF.size (fun k hk e => hF.block k hk (fun e2 => hdis k e e2)), hE', hy3, fun k e1 e2 => ?_, hR.fo hF (fun b e => (hoff b e).2), hN, fun b e => ⟨(hoff b e).1, fun hc => ?_⟩, hd, fun k hk => ?_, hn, cnt_le hn2 hy2⟩, h.g, h.g2, h.b.trans (hF.lows (fun k e => ?_) hz)⟩
  · rcases e2 with e2 | e2
    · rcases hd' k e2 with e2 | e2
      · exact hdis k e1 (Or.inl e2)
      · have := hdl k e1; omega
    · exact hdis k e1 (Or.inr e2)
  · have hlt := hR.own_lt e
    rcases hc with hc | hc
    · rcases hd' b hc with hc | hc
      · exact (hoff b e).2 (Or.inl hc)
      · omega
    · exact (hoff b e).2 (Or.inr hc)
  · rcases hd' k hk with hk | hk
    · exact hd2 k hk
    · omega
  · rcases e with e | e
    · exact hd2 k e
    · exact e ▸ h.g2
theorem LruE.below {wc : World} (h : LruE w N w.heap.size x y g g2 i u wb) (B : Below wb.heap.size wb wc) : LruE w N w.heap.size x y g g2 i u wc := by
  obtain ⟨ks, my, dom, dom2, n, n2, h1, h2, h3, h4, h5, h6, h7, h8, h9, h10, h11⟩ := h.ex
  exact ⟨⟨ks, my, dom, dom2, n, n2, h1.below B, h2.below B, h3, h4, h5.below B, h6, h7, h8, h9, h10, h11⟩, h.g, h.g2, h.b.trans (B.mono h.b.size)⟩
/-- A list's beginning. -/
theorem Rk.pre {a : Option Addr} {len cap : Nat} {l r : List Nat} (h : Rk w (.slice a len cap) (l ++ r)) : l.length ≤ len ∧ l.length ≤ cap ∧ (a = none → l = []) ∧ (l ++ r ≠ [] → Rk w (.slice a l.length cap) l) := by
  obtain ⟨a', cap', e, h1, h2, h3⟩ := h
  simp only [Value.slice.injEq] at e
  obtain ⟨rfl, rfl, rfl⟩ := e
  simp at h1
  refine ⟨by simp, by omega, fun e => ?_, fun hne => ⟨a, cap, rfl, by omega, h2, ?_⟩⟩
  · rcases h3 with ⟨_, h, _⟩ | ⟨g, o, e2, _⟩
    · simp at h; exact h.1
    · rw [e] at e2; cases e2
  · rcases h3 with ⟨_, h, _⟩ | ⟨g, o, e2, hg, hc⟩
    · exact absurd h hne
    · exact Or.inr ⟨g, o, e2, hg, fun j k hk => hc j k (by rw [List.getElem?_append_left (List.getElem?_eq_some_iff.1 hk).1]; exact hk)⟩
theorem own_len {lo len : Nat} {a : Option Addr} {k c : Nat} {xs : List Value} (h : w.ownsRow lo 26 1 (.slice a k c) len xs) : k = len := by
  rcases h.2 with ⟨h1, h2⟩ | ⟨g, cap, cur, h1, _⟩
  · simp at h1; omega
  · simp at h1; exact h1.2.1
/-- What the greater cache's Keys answers. -/
theorem lru_keys (SS : Sent w E) (hL2 : (polOf y).L = oneL (N + 1)) (h : LruE w N w.heap.size x y g g2 i u wb) (hu : ∀ a n c, u = .slice a n c → 0 < n) :
    Calls Tryz.prog 31 #[ptr g2, S [114]] wb fun e wc => ∃ (ga o len cap ul : Nat) (ua : Option Addr) (uc : Nat) (ks : List Nat), e = .returned (.tuple #[.slice (some ⟨ga, o, none⟩) len cap, .int .i64 0]) ∧ u = .slice ua ul uc ∧ ul ≤ len ∧ len ≤ cap ∧ cap ≤ maxLen ∧ Rk wc (.slice (some ⟨ga, o, none⟩) ul cap) ks ∧ Rk wc (.slice ua ul uc) ks ∧ LruE w N w.heap.size x y g g2 i u wc := by
  have hh := h
  obtain ⟨ks, my, dom, dom2, n, n2, hE, hE2, hr, hdis, hR, hN, hoff, hd, hd2, hn, hn2⟩ := h.ex
  have HK := ekeys_any hE2 (SS.move h.b) [114]
  rw [one_keys hL2 my] at HK
  refine HK.mono ?_
  rintro e wc ⟨B, v, rfl, hv⟩
  obtain ⟨r, hmy, _⟩ := hr.pre
  have hRk := Rk.own hv
  have hR' := hR
  obtain ⟨ua, uc, hue, _⟩ := hR
  have hkn : ks ≠ [] := fun e => by
    have := hu _ _ _ hue
    rw [e] at this
    simp at this
  rw [hmy] at hRk
  obtain ⟨a', cap', e', h1, h2, h3⟩ := hRk
  subst e'
  have hmne : ks ++ r ≠ [] := fun e => hkn (List.append_eq_nil_iff.1 e).1
  obtain ⟨ga, o, rfl, hg, hc⟩ := h3.resolve_left (fun e => hmne e.2.1)
  have hpre := (Rk.pre (w := wc) (a := some ⟨ga, o, none⟩) (cap := cap') (len := (ks ++ r).length) ⟨_, _, rfl, h1, h2, Or.inr ⟨ga, o, rfl, hg, hc⟩⟩).2.2.2 hmne
  exact ⟨ga, o, (ks ++ r).length, cap', ks.length, ua, uc, ks, rfl, hue, by simp, h1, h2, hpre, by rw [← hue]; exact hR'.below B, hh.below B⟩
end
end Go.Proofs.YtfddoieakfpagaaGreatDoor

namespace Go.Proofs.YtfddoieakfpagaaGreatDoor
open Go.RowKit
set_option maxRecDepth 20000 in
set_option maxHeartbeats 1500000 in
theorem lru_any {w : World} {E : Nat → Addr} (SS : Sent w E) {va : Value} {l : List Nat} (hv : Rq w va l) (hk64 : ∀ k ∈ l, k < key64) (hl : l.length ≤ 281474976710656) (c : Int) (h1 : -9223372036854775808 ≤ c) (h2 : c ≤ 9223372036854775807) :
    Calls Tryz.prog 14 #[va, .int .i64 c] w fun e w' => e = .returned (.bool true) ∧ Below w.heap.size w w' := by
  obtain ⟨aa, ca, rfl, a3⟩ := hv
  go_enter Tryz.func14, Tryz.ntmps14
  go_wp2_with fail
  refine (pickK_any c 49 (by decide) (by decide) w h1 h2).mono ?_
  rintro e w1 ⟨k, hk, rfl, rfl⟩
  have HF := figK_any (1 + k) (by omega) w1
  have e1 : ((1 + k : Nat) : Int) = 1 + (k : Int) := by omega
  rw [e1] at HF
  obtain ⟨x, hx, hL, hr1, hr2⟩ := lru_pol (1 + k) (by omega) (by omega)
  obtain ⟨y, hy, hL2, hs1, hs2⟩ := lru_pol (1 + k + 1) (by omega) (by omega)
  go_wp2_with fail
  refine HF.mono ?_
  rintro e w2 ⟨rfl, B2⟩
  clear HF
  have hfl := figL_le (1 + k)
  have f1 : ¬ (9223372036854775807 < 8 + (figL (1 + k)).length) := by omega
  go_wp2_with fail
  have e2 : ∀ m, (ByteArray.mk #[113, 117, 101, 117, 101, 32, 114, 32] ++ ByteArray.mk (figL m).toArray ++ ByteArray.mk #[59, 32, 111, 110, 32, 114, 32, 123, 32, 112, 117, 116, 32, 114, 59, 32, 125, 32, 111, 110, 32, 109, 105, 115, 115, 32, 123, 32, 105, 102, 32, 102, 117, 108, 108, 32, 114, 32, 123, 32, 101, 118, 105, 99, 116, 32, 114, 59, 32, 125, 32, 112, 117, 116, 32, 114, 59, 32, 125]) = ByteArray.mk (lruTxt m).toArray := fun m => by
    rw [show lruTxt m = [113, 117, 101, 117, 101, 32, 114, 32] ++ figL m ++ [59, 32, 111, 110, 32, 114, 32, 123, 32, 112, 117, 116, 32, 114, 59, 32, 125, 32, 111, 110, 32, 109, 105, 115, 115, 32, 123, 32, 105, 102, 32, 102, 117, 108, 108, 32, 114, 32, 123, 32, 101, 118, 105, 99, 116, 32, 114, 59, 32, 125, 32, 112, 117, 116, 32, 114, 59, 32, 125] from rfl, ← bapp3, ← bapp3]
  rw [e2]
  have hks : (polOf x).keys (polOf x).start [114] = some [] := by rw [one_start hL]; exact one_keys hL []
  have hks2 : (polOf y).keys (polOf y).start [114] = some [] := by rw [one_start hL2]; exact one_keys hL2 []
  refine (kload_any (SS.move B2) _ [114] x hx hks).mono ?_
  rintro e w3 ⟨g, dom, rfl, B3, hg, hd, hE⟩
  rw [one_start hL] at hE
  have hz2 := B2.size
  have B03 := B2.trans (B3.mono hz2)
  have HF := figK_any (1 + k + 1) (by omega) w3
  have e3 : ((1 + k + 1 : Nat) : Int) = 1 + (k : Int) + 1 := by omega
  rw [e3] at HF
  go_wp2_with fail
  refine HF.mono ?_
  rintro e w4 ⟨rfl, B4⟩
  clear HF
  have hfl2 := figL_le (1 + k + 1)
  have f2 : ¬ (9223372036854775807 < 8 + (figL (1 + k + 1)).length) := by omega
  go_wp2_with fail
  have hz3 := B03.size
  have hz4 := B4.size
  have B04 := B03.trans (B4.mono hz3)
  refine (kload_any (SS.move B04) _ [114] y hy hks2).mono ?_
  rintro e w5 ⟨g2, dom2, rfl, B5, hg2, hd2, hE2⟩
  rw [one_start hL2] at hE2
  have hz5 := B5.size
  have B05 := B04.trans (B5.mono (by omega))
  have hE1 := (hE.below B4).below B5
  have H0 : LruE w1 (1 + k) w1.heap.size x y g g2 0 (.slice none 0 0) w5 := ⟨⟨[], [], dom, dom2, (0, 0, 0), (0, 0, 0), hE1, hE2, Or.inl rfl, fun j e1 e2 => by
    have a1 : j < w3.heap.size := by
      rcases e1 with e1 | e1
      · exact hE.dl j e1
      · have := hE.lt; omega
    have a2 : w4.heap.size ≤ j := by
      rcases e2 with e2 | e2
      · exact hd2 j e2
      · omega
    omega, Rk.nil, by simp, fun b hb => by simp [Value.ownBlock] at hb, fun j hj => by have := hd j hj; omega, fun j hj => by have := hd2 j hj; omega, by simp, by simp⟩, by omega, by omega, B05⟩
  clear hE hE1 hE2 hd hd2 hks hks2 B03 B04 B05 hz2 hz3 hz4 hz5 hg hg2 B2 B3 B4 B5 hx hy e1 e3
  go_wp2_with fail
  go_loopg [7, 36] (min l.length 16384) (fun f v7 v36 wr => ∃ i : Nat, v36 = .int .i64 i ∧ i + f = min l.length 16384 ∧ LruE w1 (1 + k) w1.heap.size x y g g2 i v7 wr)
  case atStart => exact ⟨0, rfl, by omega, H0⟩
  case round =>
    obtain ⟨i, rfl, hi, H⟩ := hrel
    have hz := H.b.size
    clear e2 f1 f2 hfl hfl2 H0
    obtain ⟨ks, my, dom, dom2, n, n2, hE, hE2, hr, hdis, hR, hN, hoff, hd, hd2, hn, hn2⟩ := H.ex
    by_cases hlt : i < l.length
    · have hne : l ≠ [] := fun e => by subst e; simp at hlt
      obtain ⟨ga, oa, rfl, lga, hcell⟩ := a3.resolve_left hne
      have cc := (H.b.cell (p := ⟨ga, oa + i, none⟩) lga).trans (hcell i _ (List.getElem?_eq_getElem hlt))
      have ix := ix_u64 ga oa l.length ca i hlt
      have hk6 := hk64 _ (List.getElem_mem hlt)
      generalize l[i] = key at *
      have t1 : decide ((i : Int) < (l.length : Int)) = true := by simp; omega
      clear hcell a3 hne
      by_cases hlt2 : i < 16384
      · have t3 : ((i : Int) == 16384) = false := by simp; omega
        have hR0 := hR
        obtain ⟨la, lc, rfl, l1, l2, l3⟩ := hR0
        have hdl : ∀ b, wr.heap.size ≤ b → ¬ (dom b ∨ b = g) ∧ ¬ (dom2 b ∨ b = g2) := fun b hb => ⟨fun e => by
          rcases e with e | e
          · have := hE.dl b e; omega
          · have := hE.lt; omega, fun e => by
          rcases e with e | e
          · have := hE2.dl b e; omega
          · have := hE2.lt; omega⟩
        cases hf : ks.findIdx? (· == key) with
        | some j =>
          have HA := at_any hR key j (by rw [hf])
          obtain ⟨p1, p2, e, hnn, hj⟩ := idx_split hf
          have hjl : j < ks.length := by rw [e]; simp; omega
          have HW := without_any hR j hjl (by omega)
          have her : ks.eraseIdx j = p1 ++ p2 := by rw [e, ← hj, List.eraseIdx_append_of_length_le (Nat.le_refl _)]; simp
          rw [her] at HW
          have hpl : (p1 ++ p2).length ≤ 1000000 := by rw [e] at hN; simp at hN ⊢; omega
          have HNx : Hid (∀ wa lo u, wr.heap.size ≤ lo → Below wr.heap.size wr wa → wa.ownsRow lo 26 1 u (key :: (p1 ++ p2)).length (keysV (key :: (p1 ++ p2))) → Calls Tryz.prog 30 #[ptr g, .int .u64 key, .bool true, .slice none 0 0, S [114], u] wa fun e wb => e = .returned (.bool true) ∧ LruM w1 (1 + k) w1.heap.size x y g g2 i key u wb) := fun wa lo u hlo2 Ba hown =>
            lru_told SS H.b H.g H.g2 hE hE2 hdis hd hd2 hn hn2 (by omega) hk6 Ba (one_hit hL hr1 e hnn (by omega)) (by simp) (one_keys hL _) Rk.nil (fun b hb => by simp [Value.ownBlock] at hb) (Rk.own hown) (fun b hb => hdl b (by have := (hown.lt b hb).1; omega)) (by rw [e] at hN; simp at hN ⊢; omega) (Lr.hit hL2 hs1 (by rw [← e]; exact hr) hnn (by rw [← e]; exact hN))
          clear e hnn hj her hf l3 hE hE2 hr hdis hoff hd hd2 hn hn2 hdl
          go_upto_region 11 with fail
          go_wp2_with fail
          refine HA.mono ?_
          rintro e w5 ⟨rfl, rfl⟩
          clear HA
          go_upto_region 14 with fail
          go_wp2_with fail
          refine HW.mono ?_
          rintro e w6 ⟨u, rfl, B6, hown⟩
          have HFr := front_any (Rk.own hown) hpl key
          obtain ⟨ua, uk, uc, rfl⟩ := ownsRow_form2 hown
          clear HW hown
          go_upto_region 18 with fail
          go_wp2_with fail
          refine HFr.mono ?_
          rintro e w7 ⟨u2, rfl, B7, hown7⟩
          obtain ⟨ya, yk, yc, rfl⟩ := ownsRow_form2 hown7
          have hyk : 0 < yk := by have := own_len hown7; simp at this; omega
          have HT := HNx.out w7 _ _ B6.size (B6.trans (B7.mono B6.size)) hown7
          clear HFr HNx hown7
          go_upto_region 19 with fail
          go_wp2_with fail
          refine HT.mono ?_
          rintro e w8 ⟨rfl, H8⟩
          have HY := lru_access SS (by omega) hk6 H8
          clear HT
          go_wp2_with fail
          refine HY.mono ?_
          rintro e w9 ⟨h2, ev, rfl, H9⟩
          have HK := lru_keys SS hL2 H9 (fun a n c e => by simp only [Value.slice.injEq] at e; omega)
          clear HY H8
          go_wp2_with fail
          refine HK.mono ?_
          rintro e w10 ⟨gm, om, lm, cm, ul, ua', uc', ks3, rfl, hue, hul, hlc1, hlc2, R1, R2, H10⟩
          simp only [Value.slice.injEq] at hue
          obtain ⟨rfl, rfl, rfl⟩ := hue
          have HS := same_yes R1 R2
          have c1 : decide ((lm : Int) < (yk : Int)) = false := by simp; omega
          have c2 : ¬ cm < yk := by omega
          clear HK H9 R1 R2
          go_wp2_with fail
          refine HS.mono ?_
          rintro e w11 ⟨rfl, B11⟩
          clear HS
          go_wp2_with fail
          go_roundg (gk - 1)
          case measure => omega
          case rel => exact ⟨i + 1, by simp, by omega, H10.below B11⟩
        | none =>
          have hno := idx_no hf
          have HA := at_any hR key (-1) (by rw [hf])
          clear hf
          by_cases hfull : ks.length = 1 + k
          · have feq : ((ks.length : Int) == 1 + (k : Int)) = true := by simp; omega
            have hkn : ks ≠ [] := fun e => by rw [e] at hfull; simp at hfull; omega
            obtain ⟨gl, ol, rfl, lgl, hcl⟩ := l3.resolve_left (fun e => hkn e.2.1)
            obtain ⟨m, kk, hm⟩ : ∃ m kk, ks = m ++ [kk] := ⟨ks.dropLast, ks.getLast hkn, (List.dropLast_concat_getLast hkn).symm⟩
            have hml : m.length = k := by rw [hm] at hfull; simp at hfull; omega
            have hlc : ¬ lc = k := by omega
            have hrow : ks[k]? = some kk := by rw [hm, ← hml]; simp
            have hout : Rk wr (.slice (some ⟨gl, ol + k, none⟩) 1 (lc - k)) [kk] := ⟨_, _, rfl, by simp; omega, by omega, Or.inr ⟨gl, ol + k, rfl, lgl, fun j u hu => by
              rcases j with _ | j
              · simp at hu; subst hu; exact hcl k kk hrow
              · simp at hu⟩⟩
            have HW := without_any hR k (by omega) (by omega)
            have her : ks.eraseIdx k = m := by rw [hm, ← hml, List.eraseIdx_append_of_length_le (Nat.le_refl _)]; simp
            rw [her] at HW
            have hacc : (polOf x).access (oneE ks) key = .ok (false, [kk], oneE (key :: m)) := by
              rw [hm]
              exact one_miss1 hL hr2 (by rw [← hm]; exact hno) (by rw [← hm]; exact hfull)
            have hofo : ∀ b, (Value.slice (some ⟨gl, ol + k, none⟩) 1 (lc - k)).ownBlock = some b → ¬ (dom b ∨ b = g) := fun b hb => (hoff b (by simpa [Value.ownBlock] using hb)).1
            have hsk : ks.length - k = 1 := by omega
            have HNx : Hid (∀ wa lo u, wr.heap.size ≤ lo → Below wr.heap.size wr wa → wa.ownsRow lo 26 1 u (key :: m).length (keysV (key :: m)) → Calls Tryz.prog 30 #[ptr g, .int .u64 key, .bool false, .slice (some ⟨gl, ol + k, none⟩) (ks.length - k) (lc - k), S [114], u] wa fun e wb => e = .returned (.bool true) ∧ LruM w1 (1 + k) w1.heap.size x y g g2 i key u wb) := fun wa lo u hlo2 Ba hown => by
              rw [hsk]
              exact lru_told SS H.b H.g H.g2 hE hE2 hdis hd hd2 hn hn2 (by omega) hk6 Ba hacc (by simp) (one_keys hL _) (hout.below Ba) hofo (Rk.own hown) (fun b hb => hdl b (by have := (hown.lt b hb).1; omega)) (by simp; omega) (Lr.miss1 hL2 hs1 hs2 (by rw [← hm]; exact hr) (by rw [← hm]; exact hno) (by rw [← hm]; exact hfull))
            have hm6 : m.length ≤ 1000000 := by omega
            have hlk : k ≤ ks.length := by omega
            clear hacc hno her hrow hcl hm l3 hout hofo hkn hsk hfull hml hE hE2 hr hdis hoff hd hd2 hn hn2 hdl
            go_upto_region 11 with fail
            go_wp2_with fail
            refine HA.mono ?_
            rintro e w5 ⟨rfl, rfl⟩
            clear HA
            go_upto_region 17 with fail
            go_wp2_with fail
            rw [show (1 + (k : Int) - 1) = (k : Int) from by omega]
            refine HW.mono ?_
            rintro e w6 ⟨u, rfl, B6, hown⟩
            have HFr := front_any (Rk.own hown) hm6 key
            obtain ⟨ua, uk, uc, rfl⟩ := ownsRow_form2 hown
            clear HW hown
            go_upto_region 18 with fail
            go_wp2_with fail
            refine HFr.mono ?_
            rintro e w7 ⟨u2, rfl, B7, hown7⟩
            obtain ⟨ya, yk, yc, rfl⟩ := ownsRow_form2 hown7
            have hyk : 0 < yk := by have := own_len hown7; simp at this; omega
            have HT := HNx.out w7 _ _ B6.size (B6.trans (B7.mono B6.size)) hown7
            clear HFr HNx hown7
            go_upto_region 19 with fail
            go_wp2_with fail
            refine HT.mono ?_
            rintro e w8 ⟨rfl, H8⟩
            have HY := lru_access SS (by omega) hk6 H8
            clear HT
            go_wp2_with fail
            refine HY.mono ?_
            rintro e w9 ⟨h2, ev, rfl, H9⟩
            have HK := lru_keys SS hL2 H9 (fun a n c e => by simp only [Value.slice.injEq] at e; omega)
            clear HY H8
            go_wp2_with fail
            refine HK.mono ?_
            rintro e w10 ⟨gm, om, lm, cm, ul, ua', uc', ks3, rfl, hue, hul, hlc1, hlc2, R1, R2, H10⟩
            simp only [Value.slice.injEq] at hue
            obtain ⟨rfl, rfl, rfl⟩ := hue
            have HS := same_yes R1 R2
            have c1 : decide ((lm : Int) < (yk : Int)) = false := by simp; omega
            have c2 : ¬ cm < yk := by omega
            clear HK H9 R1 R2
            go_wp2_with fail
            refine HS.mono ?_
            rintro e w11 ⟨rfl, B11⟩
            clear HS
            go_wp2_with fail
            go_roundg (gk - 1)
            case measure => omega
            case rel => exact ⟨i + 1, by simp, by omega, H10.below B11⟩
          · have fneq : ((ks.length : Int) == 1 + (k : Int)) = false := by simp; omega
            have HFr := front_any hR (by omega) key
            have HNx : Hid (∀ wa u, Below wr.heap.size wr wa → wa.ownsRow wr.heap.size 26 1 u (key :: ks).length (keysV (key :: ks)) → Calls Tryz.prog 30 #[ptr g, .int .u64 key, .bool false, .slice none 0 0, S [114], u] wa fun e wb => e = .returned (.bool true) ∧ LruM w1 (1 + k) w1.heap.size x y g g2 i key u wb) := fun wa u Ba hown =>
              lru_told SS H.b H.g H.g2 hE hE2 hdis hd hd2 hn hn2 (by omega) hk6 Ba (one_miss0 hL hr2 hno (by omega)) (by simp) (one_keys hL _) Rk.nil (fun b hb => by simp [Value.ownBlock] at hb) (Rk.own hown) (fun b hb => hdl b (by have := (hown.lt b hb).1; omega)) (by simp; omega) (Lr.miss0 hL2 hs2 hr hno (by omega))
            clear hno l3 hE hE2 hr hdis hoff hd hd2 hn hn2 hdl
            go_upto_region 11 with fail
            go_wp2_with fail
            refine HA.mono ?_
            rintro e w5 ⟨rfl, rfl⟩
            clear HA
            go_upto_region 18 with fail
            go_wp2_with fail
            refine HFr.mono ?_
            rintro e w7 ⟨u2, rfl, B7, hown7⟩
            obtain ⟨ya, yk, yc, rfl⟩ := ownsRow_form2 hown7
            have hyk : 0 < yk := by have := own_len hown7; simp at this; omega
            have HT := HNx.out w7 _ B7 hown7
            clear HFr HNx hown7
            go_upto_region 19 with fail
            go_wp2_with fail
            refine HT.mono ?_
            rintro e w8 ⟨rfl, H8⟩
            have HY := lru_access SS (by omega) hk6 H8
            clear HT
            go_wp2_with fail
            refine HY.mono ?_
            rintro e w9 ⟨h2, ev, rfl, H9⟩
            have HK := lru_keys SS hL2 H9 (fun a n c e => by simp only [Value.slice.injEq] at e; omega)
            clear HY H8
            go_wp2_with fail
            refine HK.mono ?_
            rintro e w10 ⟨gm, om, lm, cm, ul, ua', uc', ks3, rfl, hue, hul, hlc1, hlc2, R1, R2, H10⟩
            simp only [Value.slice.injEq] at hue
            obtain ⟨rfl, rfl, rfl⟩ := hue
            have HS := same_yes R1 R2
            have c1 : decide ((lm : Int) < (yk : Int)) = false := by simp; omega
            have c2 : ¬ cm < yk := by omega
            clear HK H9 R1 R2
            go_wp2_with fail
            refine HS.mono ?_
            rintro e w11 ⟨rfl, B11⟩
            clear HS
            go_wp2_with fail
            go_roundg (gk - 1)
            case measure => omega
            case rel => exact ⟨i + 1, by simp, by omega, H10.below B11⟩
      · have t3 : ((i : Int) == 16384) = true := by simp; omega
        go_upto_region 26 with fail
        go_wp2_with fail
        go_ret
        exact ⟨rfl, H.b⟩
    · have t1 : decide ((i : Int) < (l.length : Int)) = false := by simp; omega
      go_wp2_with fail
      go_ret
      exact ⟨rfl, H.b⟩
end Go.Proofs.YtfddoieakfpagaaGreatDoor
