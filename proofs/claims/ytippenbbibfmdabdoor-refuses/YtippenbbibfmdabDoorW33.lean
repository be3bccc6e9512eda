import Derived.Test.YtippenbbibfmdabDoorW32
namespace Go.Proofs.YtippenbbibfmdabDoor
open Go.RowKit

def Tk (l : List UInt8) (t : Tok) : Prop := t.pos + t.txt.length ≤ l.length
theorem Tk.nx {l : List UInt8} {t : Tok} (h : Tk l t) : Tk l (nx l t) := nx_ok l _ h

/-- What is read well is P, and the token ahead lies in the text. -/
def Gd {α : Type} (l : List UInt8) (P : α → Prop) (r : PR α) : Prop := ∀ x t', r = .ok (x, t') → P x ∧ Tk l t'
theorem Gd.bind {α β : Type} {l : List UInt8} {P : α → Prop} {Q : β → Prop} {r : PR α} {f : α → Tok → PR β} (h : Gd l P r) (k : ∀ x t, P x → Tk l t → Gd l Q (f x t)) : Gd l Q (bindR r f) := by
  intro y t' e
  cases r with
  | error q => simp [bindR] at e
  | ok p => exact k p.1 p.2 (h p.1 p.2 rfl).1 (h p.1 p.2 rfl).2 y t' e
theorem Gd.ok {α : Type} {l : List UInt8} {P : α → Prop} {x : α} {t : Tok} (hx : P x) (ht : Tk l t) : Gd l P (.ok (x, t)) := by
  intro y t' e
  simp only [Except.ok.injEq, Prod.mk.injEq] at e
  obtain ⟨rfl, rfl⟩ := e
  exact ⟨hx, ht⟩
theorem Gd.err {α : Type} {l : List UInt8} {P : α → Prop} {e : Bool × Nat} : Gd l P (.error e) := by intro y t' e; simp at e
theorem Gd.ite {α : Type} {l : List UInt8} {P : α → Prop} {c : Prop} [Decidable c] {a b : PR α} (ha : c → Gd l P a) (hb : ¬ c → Gd l P b) : Gd l P (if c then a else b) := by
  by_cases h : c
  · rw [if_pos h]; exact ha h
  · rw [if_neg h]; exact hb h

def sm (l : List UInt8) (n : NP) : Prop := n.1.length ≤ l.length
def smV (l : List UInt8) (v : Vl) : Prop := sm l v.name
def smC (l : List UInt8) (c : Cd) : Prop := sm l c.queue ∧ smV l c.left ∧ smV l c.right
def smS (l : List UInt8) (s : St) : Prop := sm l s.name ∧ sm l s.to ∧ smC l s.cond
theorem sm_np {l : List UInt8} {t : Tok} (h : Tk l t) : sm l (np t) := by unfold Tk at h; show t.txt.length ≤ l.length; omega
theorem sm_nil (l : List UInt8) (p : Nat) : sm l ([], p) := Nat.zero_le _

theorem gd_name {l : List UInt8} {t : Tok} (h : Tk l t) : Gd l (sm l) (nameS l t) := Gd.ite (fun _ => Gd.ok (sm_np h) h.nx) (fun _ => Gd.err)
theorem gd_need {l s : List UInt8} {t : Tok} (h : Tk l t) : Gd l (fun _ => True) (needS s l t) := Gd.ite (fun _ => Gd.ok trivial h.nx) (fun _ => Gd.err)
theorem gd_num {l : List UInt8} {t : Tok} (h : Tk l t) : Gd l (fun _ => True) (numS l t) := Gd.ite (fun _ => Gd.ok trivial h.nx) (fun _ => Gd.err)
theorem gd_value {l : List UInt8} {t : Tok} (h : Tk l t) : Gd l (smV l) (valueS l t) :=
  Gd.ite (fun _ => Gd.ite (fun _ => Gd.ok (sm_np h.nx) h.nx.nx) (fun _ => Gd.err)) (fun _ => Gd.ite (fun _ => Gd.ok (sm_nil _ _) h.nx) (fun _ => Gd.ite (fun _ => Gd.ok (sm_np h) h.nx) (fun _ => Gd.ite (fun _ => Gd.ok (sm_nil _ _) h.nx) (fun _ => Gd.err))))
theorem tk_nots {l : List UInt8} : ∀ (f : Nat) (n : Bool) (t : Tok), Tk l t → Tk l (notsS l f n t).2
  | 0, _, _, h => h
  | f + 1, n, t, h => by
    unfold notsS
    split
    · exact tk_nots f _ _ h.nx
    · exact h
theorem gd_condT {l : List UInt8} {n : Bool} {t : Tok} (h : Tk l t) : Gd l (smC l) (condT l n t) := by
  unfold condT
  refine Gd.ite (fun _ => Gd.ite (fun _ => Gd.ok ⟨sm_np h.nx, sm_nil _ _, sm_nil _ _⟩ h.nx.nx) (fun _ => Gd.err)) (fun _ => ?_)
  have h1 := gd_value h
  cases e1 : valueS l t with
  | error q => exact Gd.err
  | ok p =>
    obtain ⟨a, t1⟩ := p
    have h2 := h1 a t1 e1
    refine Gd.ite (fun _ => ?_) (fun _ => Gd.err)
    have h3 := gd_value h2.2.nx
    cases e2 : valueS l (nx l t1) with
    | error q => exact Gd.err
    | ok p =>
      obtain ⟨c, t2⟩ := p
      have h4 := h3 c t2 e2
      exact Gd.ok ⟨sm_nil _ _, h2.1, h4.1⟩ h4.2
theorem gd_cond {l : List UInt8} {t : Tok} (h : Tk l t) : Gd l (smC l) (condS l t) := gd_condT (tk_nots _ _ _ h)
theorem smC0 (l : List UInt8) : smC l cd0 := ⟨sm_nil _ _, sm_nil _ _, sm_nil _ _⟩
theorem tk_tail {l : List UInt8} {t : Tok} (h : Tk l t) : Tk l (tailS l t).2 := by unfold tailS; split; exact h.nx; exact h
theorem gd_semi {l : List UInt8} {s : St} {t : Tok} (hs : smS l s) (h : Tk l t) : Gd l (smS l) (semi l s t) := Gd.ite (fun _ => Gd.ok hs h.nx) (fun _ => Gd.err)
theorem gd_plain {l : List UInt8} {t : Tok} (h : Tk l t) : Gd l (smS l) (plainS l t) :=
  Gd.ite (fun _ => (gd_name h.nx).bind fun _n _t2 hn h2 => gd_semi ⟨hn, sm_nil _ _, smC0 l⟩ (tk_tail h2)) fun _ =>
  Gd.ite (fun _ => (gd_name h.nx).bind fun _n _t2 hn h2 => (gd_name h2).bind fun _m _t3 hm h3 => gd_semi ⟨hn, hm, smC0 l⟩ (tk_tail h3)) fun _ =>
  Gd.ite (fun _ => (gd_name h.nx).bind fun _n _t2 hn h2 => gd_semi ⟨hn, sm_nil _ _, smC0 l⟩ h2) fun _ =>
  Gd.ite (fun _ => gd_semi ⟨sm_nil _ _, sm_nil _ _, smC0 l⟩ h.nx) fun _ => Gd.err

/-- A statement with its blocks. -/
def smR {β : Type} (l : List UInt8) (P : β → Prop) (r : St × β × β) : Prop := smS l r.1 ∧ P r.2.1 ∧ P r.2.2
theorem gd_if {β : Type} {l : List UInt8} {P : β → Prop} {blk : Tok → PR β} {z : β} (hz : P z) (hb : ∀ t, Tk l t → Gd l P (blk t)) {t : Tok} (h : Tk l t) : Gd l (smR l P) (ifS blk z l t) :=
  (gd_cond h.nx).bind fun _c t1 hc h1 => (hb t1 h1).bind fun _x _t2 hx h2 =>
    Gd.ite (fun _ => (hb _ h2.nx).bind fun _y _t3 hy h3 => Gd.ok ⟨⟨sm_nil _ _, sm_nil _ _, hc⟩, hx, hy⟩ h3) (fun _ => Gd.ok ⟨⟨sm_nil _ _, sm_nil _ _, hc⟩, hx, hz⟩ h2)
theorem gd_rep {β : Type} {l : List UInt8} {P : β → Prop} {blk : Nat → Tok → PR β} {z : β} (hz : P z) (hb : ∀ n t, Tk l t → Gd l P (blk n t)) {lo : Nat} {t : Tok} (h : Tk l t) : Gd l (smR l P) (repS blk z l lo t) :=
  Gd.ite (fun _ => Gd.err) fun _ => (gd_num h.nx).bind fun _n _t1 _ h1 => (gd_need h1).bind fun _ _t2 _ h2 => (gd_cond h2).bind fun _c t3 hc h3 => (hb _ t3 h3).bind fun _x _t4 hx h4 =>
    Gd.ok ⟨⟨sm_nil _ _, sm_nil _ _, hc⟩, hx, hz⟩ h4
theorem gd_stmt {β : Type} {l : List UInt8} {P : β → Prop} {blk : Nat → Tok → PR β} {z : β} (hz : P z) (hb : ∀ n t, Tk l t → Gd l P (blk n t)) {lo : Nat} {t : Tok} (h : Tk l t) : Gd l (smR l P) (stmtS blk z l lo t) :=
  Gd.ite (fun _ => gd_if hz (hb lo) h) fun _ => Gd.ite (fun _ => gd_rep hz hb h) fun _ => (gd_plain h).bind fun _s _t1 hs h1 => Gd.ok ⟨hs, hz, hz⟩ h1
theorem gd_stmts {α : Type} {l : List UInt8} {P : α → Prop} {stm : Tok → PR α} (hs : ∀ t, Tk l t → Gd l P (stm t)) : ∀ (f : Nat) (t : Tok), Tk l t → Gd l (fun xs => ∀ x ∈ xs, P x) (stmtsS stm l f t)
  | 0, _, _ => Gd.err
  | f + 1, t, h => by
    unfold stmtsS
    refine Gd.ite (fun _ => Gd.ok (by simp) h.nx) fun _ => (hs t h).bind fun x t1 hx h1 => (gd_stmts hs f t1 h1).bind fun xs t2 hxs h2 => Gd.ok ?_ h2
    intro y hy
    rcases List.mem_cons.1 hy with rfl | hy
    · exact hx
    · exact hxs y hy

theorem smallL_of {β : Type} {l : List UInt8} {P : β → Prop} (hl : l.length ≤ 700) : ∀ (xs : List (St × β × β)), (∀ x ∈ xs, smR l P x) → smallL P xs
  | [], _ => trivial
  | r :: rs, h => by
    obtain ⟨h1, h2, h3⟩ := h r (by simp)
    unfold smS smC smV sm at h1
    exact ⟨⟨by omega, by omega, by unfold Cd.small; omega⟩, h2, h3, smallL_of hl rs (fun x hx => h x (by simp [hx]))⟩
theorem smallB_nil : ∀ d, smallB d (BTnil d)
  | 0 => trivial
  | _ + 1 => trivial
theorem gd_block {l : List UInt8} (hl : l.length ≤ 700) : ∀ (d lo : Nat) (t : Tok), Tk l t → Gd l (smallB d) (blockS l d lo t)
  | 0, _, _, _ => by unfold blockS; exact Gd.ite (fun _ => Gd.err) (fun _ => Gd.err)
  | d + 1, lo, t, h => by
    unfold blockS
    refine Gd.ite (fun _ => ?_) (fun _ => Gd.err)
    intro x t' e
    obtain ⟨h1, h2⟩ := gd_stmts (fun t ht => gd_stmt (smallB_nil d) (fun n t ht => gd_block hl d n t ht) ht) _ _ h.nx x t' e
    exact ⟨smallL_of hl x h1, h2⟩
theorem gd_decl {l : List UInt8} {t : Tok} (h : Tk l t) : Gd l (fun d => sm l d.name) (declS l t) :=
  Gd.ite (fun _ => (gd_num h.nx).bind fun _n _t1 _ h1 => (gd_need h1).bind fun _ _t2 _ h2 => Gd.ok (sm_nil _ _) h2) fun _ =>
    (gd_name h.nx).bind fun _m _t1 hm h1 => (gd_num h1).bind fun _n _t2 _ h2 => (gd_need h2).bind fun _ _t3 _ h3 => Gd.ok hm h3
theorem gd_rule {l : List UInt8} (hl : l.length ≤ 700) {t : Tok} (h : Tk l t) : Gd l (fun r => sm l r.2.1 ∧ smallB 8 r.2.2) (ruleS l t) :=
  Gd.bind (P := sm l) (Gd.ite (fun _ => Gd.ok (sm_np h.nx) h.nx.nx) (fun _ => gd_name h.nx)) fun _n t1 hn h1 => (gd_block hl 8 0 t1 h1).bind fun _x _t2 hx h2 => Gd.ok ⟨hn, hx⟩ h2
theorem gd_decls {l : List UInt8} : ∀ (f : Nat) (t : Tok), Tk l t → Gd l (fun ds => (∀ d ∈ ds, sm l d.name) ∧ ds.length ≤ f) (declsS l f t)
  | 0, _, _ => Gd.err
  | f + 1, t, h => by
    unfold declsS
    refine Gd.ite (fun _ => (gd_decl h).bind fun d t1 hd h1 => (gd_decls f t1 h1).bind fun ds t2 hds h2 => Gd.ok ⟨?_, ?_⟩ h2) (fun _ => Gd.ok (by simp) h)
    · intro y hy
      rcases List.mem_cons.1 hy with rfl | hy
      · exact hd
      · exact hds.1 y hy
    · have := hds.2; simp; omega
theorem gd_rules {l : List UInt8} (hl : l.length ≤ 700) : ∀ (f : Nat) (t : Tok), Tk l t → Gd l (fun rs => (∀ r ∈ rs, sm l r.2.1 ∧ smallB 8 r.2.2) ∧ rs.length ≤ f) (rulesS l f t)
  | 0, _, _ => Gd.err
  | f + 1, t, h => by
    unfold rulesS
    refine Gd.ite (fun _ => (gd_rule hl h).bind fun d t1 hd h1 => (gd_rules hl f t1 h1).bind fun ds t2 hds h2 => Gd.ok ⟨?_, ?_⟩ h2) (fun _ => Gd.ok (by simp) h)
    · intro y hy
      rcases List.mem_cons.1 hy with rfl | hy
      · exact hd
      · exact hds.1 y hy
    · have := hds.2; simp; omega

/-- The names of a policy that is read are no longer than its text, and there are no more declarations and rules than a text has bytes, and one. -/
theorem gd_policy {l : List UInt8} (hl : l.length ≤ 700) {t : Tok} (h : Tk l t) : Gd l (fun p => (∀ d ∈ p.1, d.name.1.length ≤ 700) ∧ (∀ r ∈ p.2, r.2.1.1.length ≤ 700 ∧ smallB 8 r.2.2) ∧ p.1.length ≤ 900 ∧ p.2.length ≤ 900) (policyS l t) :=
  (gd_decls _ t h).bind fun ds t1 hds h1 => (gd_rules hl _ t1 h1).bind fun rs t2 hrs h2 =>
    Gd.ite (fun _ => Gd.ok ⟨fun d hd => Nat.le_trans (hds.1 d hd) hl, fun r hr => ⟨Nat.le_trans (hrs.1 r hr).1 hl, (hrs.1 r hr).2⟩, by have := hds.2; show ds.length ≤ 900; omega, by have := hrs.2; show rs.length ≤ 900; omega⟩ h2.nx) (fun _ => Gd.err)
end Go.Proofs.YtippenbbibfmdabDoor
