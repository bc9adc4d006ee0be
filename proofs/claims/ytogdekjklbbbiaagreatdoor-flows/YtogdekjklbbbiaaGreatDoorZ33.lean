import Derived.Test.YtogdekjklbbbiaaGreatDoorZ32
import Derived.Test.YtogdekjklbbbiaaGreatDoorZ10
set_option maxRecDepth 100000
namespace Go.Proofs.YtogdekjklbbbiaaGreatDoor
open Go.ChangeShapes Go.WideShapes Go.ChangeAt Go.RowKit
set_option linter.unusedSimpArgs false
set_option linter.unusedVariables false

theorem rel_zero (s : Pace.St) : Pace.rel 0 s = ([], s) := rfl
theorem rel_none {s : Pace.St} (h : Pace.due s = none) (n : Nat) : Pace.rel n s = ([], s) := by
  cases n with
  | zero => rfl
  | succ n => simp only [Pace.rel, h]
/-- One more. -/
theorem rel_succ (n : Nat) : ∀ s : Pace.St, (Pace.due (Pace.rel n s).2 = none → ∀ m, Pace.rel (n + m) s = Pace.rel n s) ∧
    ∀ a, (Pace.rel n s).1.length = n → Pace.due (Pace.rel n s).2 = some a → Pace.rel (n + 1) s = ((Pace.rel n s).1 ++ [(Pace.send (Pace.rel n s).2 a).1], (Pace.send (Pace.rel n s).2 a).2) := by
  induction n with
  | zero =>
    intro s
    refine ⟨fun h m => ?_, fun a _ h => ?_⟩
    · have h : Pace.due s = none := h
      rw [rel_none h, rel_zero]
    · have h : Pace.due s = some a := h
      simp only [Pace.rel, h]
      rfl
  | succ n ih =>
    intro s
    cases q : Pace.due s with
    | none =>
      refine ⟨fun _ m => by rw [rel_none q, rel_none q], fun a h1 _ => ?_⟩
      rw [rel_none q] at h1
      simp at h1
    | some a0 =>
      have e : ∀ k, Pace.rel (k + 1) s = ((Pace.send s a0).1 :: (Pace.rel k (Pace.send s a0).2).1, (Pace.rel k (Pace.send s a0).2).2) := fun k => by simp only [Pace.rel, q]
      obtain ⟨i1, i2⟩ := ih (Pace.send s a0).2
      refine ⟨fun h m => ?_, fun a h1 h => ?_⟩
      · rw [show n + 1 + m = (n + m) + 1 by omega, e, e]
        rw [e] at h
        rw [i1 h m]
      · rw [e] at h1 h ⊢
        rw [e n]
        have h1' : (Pace.rel n (Pace.send s a0).2).1.length = n := by simpa using h1
        rw [i2 a h1' h]
        rfl
theorem rel_total {s : Pace.St} (h : Pace.PI s []) (n : Nat) : total (Pace.rel n s).1 + Pace.waits (Pace.rel n s).2.fl = Pace.waits s.fl := by
  induction n generalizing s with
  | zero => simp [Pace.rel, total]
  | succ n ih =>
    cases q : Pace.due s with
    | none => rw [rel_none q]; simp [total]
    | some a =>
      obtain ⟨q1, q2⟩ := Pace.due_some q
      obtain ⟨x, hx, hn, hl, hk, hk2, hby, hsent, hfl, h'⟩ := h.send (Pace.best_some q1).1 q2
      have e : Pace.rel (n + 1) s = ((Pace.send s a).1 :: (Pace.rel n (Pace.send s a).2).1, (Pace.rel n (Pace.send s a).2).2) := by simp only [Pace.rel, q]
      have h1 := ih h'
      have h2 := Pace.waits_upd h.wf.nums hx a.k (Nat.le_trans hk2 (h.wf.F x hx).adm)
      rw [hn, ← hfl] at h2
      rw [e]
      have h3 : total ((Pace.send s a).1 :: (Pace.rel n (Pace.send s a).2).1) = a.k + total (Pace.rel n (Pace.send s a).2).1 := by
        simp only [total, List.map_cons, List.sum_cons, hsent, List.length_take]
        have := (h.wf.F x hx).adm
        omega
      show total ((Pace.send s a).1 :: _) + Pace.waits (Pace.rel n (Pace.send s a).2).2.fl = _
      rw [h3]
      omega
theorem waits_le {l : List Pace.Fl} (h : ∀ x ∈ l, x.pk.length ≤ 8) : Pace.waits l ≤ 8 * l.length := by
  induction l with
  | nil => simp [Pace.waits]
  | cons x l ih =>
    have h1 := ih fun z hz => h z (List.mem_cons_of_mem _ hz)
    have h2 := h x (List.mem_cons_self ..)
    simp only [Pace.waits, List.map_cons, List.sum_cons, List.length_cons] at h1 ⊢
    omega
theorem rel_len8 {s : Pace.St} (h : Pace.PI s []) (hfew : s.fl.length ≤ 8) (n : Nat) : (Pace.rel n s).1.length ≤ 64 ∧ total (Pace.rel n s).1 ≤ 64 := by
  have h1 := h.rel_len n
  have h2 := rel_total h n
  have h3 := waits_le fun x hx => (h.wf.F x hx).few
  omega
theorem best_first : ∀ (l : List Pace.Ar) {a : Pace.Ar} {r : List Pace.Ar}, (∀ q ∈ l, a.at' < q.at') → (∀ q ∈ r, a.at' ≤ q.at') → Pace.best (l ++ a :: r) = some a
  | [], a, r, _, hr => by
    show Pace.best (a :: r) = some a
    unfold Pace.best
    split
    · rfl
    · rename_i b q
      have := hr b (Pace.best_some q).1
      rw [if_neg (by omega)]
  | x :: l, a, r, hl, hr => by
    show Pace.best (x :: (l ++ a :: r)) = some a
    unfold Pace.best
    rw [best_first l (fun q hq => hl q (List.mem_cons_of_mem _ hq)) hr]
    have := hl x (List.mem_cons_self ..)
    simp only
    rw [if_pos this]
theorem off_split {l r : List Pace.Ar} {a : Pace.Ar} (h : ((l ++ a :: r).map (·.num)).Nodup) : Pace.off (l ++ a :: r) a.num = l ++ r := by
  simp only [List.map_append, List.map_cons] at h
  have hl : ∀ x ∈ l, x.num ≠ a.num := fun x hx e => by
    have := (List.nodup_append.1 h).2.2 x.num (List.mem_map.2 ⟨x, hx, rfl⟩) a.num (List.mem_cons_self ..)
    exact this e
  have hr : ∀ x ∈ r, x.num ≠ a.num := fun x hx e => by
    have := (List.nodup_cons.1 (List.nodup_append.1 h).2.1).1
    exact this (by rw [← e]; exact List.mem_map.2 ⟨x, hx, rfl⟩)
  have el : Pace.off l a.num = l := by
    unfold Pace.off
    rw [List.filter_eq_self]
    intro x hx; simpa using hl x hx
  have er : Pace.off (a :: r) a.num = r := by
    unfold Pace.off
    rw [List.filter_cons, if_neg (by simp), List.filter_eq_self]
    intro x hx; simpa using hr x hx
  rw [Pace.off_append, el, er]
theorem first_due {A : List Pace.Ar} {p : Nat × Nat} {A' : List (Nat × Nat)} (h : FirstA (A.map fun a => (a.num, a.at')) p A') (hnd : (A.map (·.num)).Nodup) : ∃ a, Pace.best A = some a ∧ p = (a.num, a.at') ∧ A' = (Pace.off A a.num).map fun a => (a.num, a.at') := by
  obtain ⟨l, r, h1, h2, h3, h4⟩ := h
  obtain ⟨l0, t0, e1, e2, e3⟩ := List.map_eq_append_iff.1 h1
  obtain ⟨a, r0, e4, e5, e6⟩ := List.map_eq_cons_iff.1 e3
  subst e4; subst e1; subst e2; subst e6; subst e5
  refine ⟨a, best_first l0 (fun q hq => h3 (q.num, q.at') (List.mem_map.2 ⟨q, hq, rfl⟩)) (fun q hq => h4 (q.num, q.at') (List.mem_map.2 ⟨q, hq, rfl⟩)), rfl, ?_⟩
  rw [h2, off_split hnd, List.map_append]
/-- The pacer's own block has turned. -/
theorem PM.self {w w' : World} {b : Nat} {y : Lay} {s s' : Pace.St} {nw nw' : Nat} {P P' : List Pace.Cmd} {c c' : Cn} {pv' : Value} (h : PM w b y s nw P c) (hf : Fr w w' (fun k => k = b)) (hfz : ∀ o, w'.frozen? ⟨b, o, none⟩ = false)
    (hPB : PB w' b s'.q s'.clock nw' y.fv pv' y.wb c') (hrp : w'.ownsRow 0 161 5 pv' P'.length (cmdsC y.B P')) (hpv : pv' = y.pv ∨ pv'.ownBlock = none) (hA : s'.A = s.A) (hck : s.clock ≤ s'.clock) (hnums : s'.fl.map (·.num) = s.fl.map (·.num))
    (hfl : ∀ f' ∈ s'.fl, ∃ f ∈ s.fl, f'.num = f.num ∧ f'.rate = f.rate ∧ f'.burst = f.burst ∧ f'.adm = f.adm ∧ f'.pk = f.pk ∧ FC s'.clock f' (y.cr f.num) (y.rk f.num)) :
    ∃ y', PM w' b y' s' nw' P' c' ∧ Step w w' y y' ∧ y'.B = y.B ∧ y'.wb = y.wb ∧ y'.wn = y.wn ∧ y'.bt = y.bt ∧ y'.tag = y.tag := by
  have hk : ∀ k t, y.tag k = t → t ≠ .none → t ≠ .self → w'.heap[k]? = w.heap[k]? := fun k t e h1 h2 => hf.blk k (h.lt k (h.own_of e h1)) fun q => h2 (by rw [← e, q]; exact h.tb)
  refine ⟨{ y with pv := pv' }, ⟨h.tb, h.t0, fun k hO => Nat.lt_of_lt_of_le (h.lt k hO) hf.size, hfz, hPB, ?_, h.tf, hrp, ?_, ?_, h.two, Nat.le_trans h.wn hck, ?_, ?_, ?_, ?_, ?_⟩, ⟨hf.weak fun k _ q => by rw [q]; exact h.ow, fun _ _ e => e⟩, rfl, rfl, rfl, rfl, rfl⟩
  · have e1 : s'.fl.length = s.fl.length := by have := congrArg List.length hnums; simpa using this
    have e2 : s'.fl.map (fun f => Value.pointer (some ⟨y.B f.num, 0, none⟩)) = s.fl.map fun f => Value.pointer (some ⟨y.B f.num, 0, none⟩) := by
      have : ∀ l : List Pace.Fl, l.map (fun f => Value.pointer (some ⟨y.B f.num, 0, none⟩)) = (l.map (·.num)).map fun n => Value.pointer (some ⟨y.B n, 0, none⟩) := fun l => by rw [List.map_map]; rfl
      rw [this, this, hnums]
    show w'.ownsRow 0 159 1 y.fv s'.fl.length (s'.fl.map fun f => Value.pointer (some ⟨y.B f.num, 0, none⟩))
    rw [e1, e2]
    exact row_kept h.rf fun g hg => hk g _ (h.tf g hg) (by simp) (by simp)
  · intro g hg
    rcases hpv with q | q
    · exact h.tp g (by rw [← q]; exact hg)
    · have hg : pv'.ownBlock = some g := hg
      rw [q] at hg; cases hg
  · show WA w' y.wb y.wo y.wn (s'.A.map _)
    rw [hA]
    exact h.wa.kept hf fun k hO q => by have := h.two k hO; rw [q, h.tb] at this; cases this
  · intro f' hf'
    obtain ⟨f, hfm, e1, e2, e3, e4, e5, _⟩ := hfl f' hf'
    have := (h.fl f hfm).kept (hk _ _ (h.tl f hfm) (by simp) (by simp)) fun g hg => hk g _ (h.tk f hfm g hg) (by simp) (by simp)
    rw [e1]
    exact ⟨by rw [e1]; exact this.c0, by rw [e2]; exact this.c1, by rw [e3]; exact this.c2, this.c3, this.c4, this.c5, by rw [e4]; exact this.c6, this.c7, by rw [e5]; exact this.row, this.fz⟩
  · intro f' hf'
    obtain ⟨f, hfm, e1, e2, e3, e4, e5, e6⟩ := hfl f' hf'
    rw [e1]; exact e6
  · intro f' hf'
    obtain ⟨f, hfm, e1, _⟩ := hfl f' hf'
    rw [e1]; exact h.tl f hfm
  · intro f' hf'
    obtain ⟨f, hfm, e1, _⟩ := hfl f' hf'
    rw [e1]; exact h.tk f hfm
  · rw [hA]; exact h.ak
theorem find_congr {α : Type} (l : List α) {p q : α → Bool} (h : ∀ x ∈ l, p x = q x) : l.find? p = l.find? q := by
  induction l with
  | nil => rfl
  | cons x l ih =>
    rw [List.find?_cons, List.find?_cons, h x (List.mem_cons_self ..), ih fun z hz => h z (List.mem_cons_of_mem _ hz)]
/-- The flow of a number. -/
theorem pm_live {w : World} {b : Nat} {y : Lay} {s : Pace.St} {nw : Nat} {P : List Pace.Cmd} {c : Cn} (h : PM w b y s nw P c) (hfew : s.fl.length ≤ 8) (n : Int) :
    Calls Tryz.prog 68 #[.pointer (some ⟨b, 0, none⟩), .int .i64 n] w fun e w' => w' = w ∧ e = .returned (liveV ((s.fl.find? fun f => decide ((f.num : Int) = n)).map fun f => y.B f.num)) := by
  have hx : ∃ (inv : Nat → Nat), ∀ f ∈ s.fl, inv (y.B f.num) = f.num := by
    refine ⟨fun k => match y.tag k with | .flow m => m | _ => 0, fun f hf => ?_⟩
    simp only [h.tl f hf]
  obtain ⟨inv, hinv⟩ := hx
  obtain ⟨g, cap, hfv⟩ : ∃ g cap, (y.fv = .slice none 0 0 ∧ (s.fl.map fun f => y.B f.num) = []) ∨ y.fv = .slice (some ⟨g, 0, none⟩) (s.fl.map fun f => y.B f.num).length cap := by
    rcases h.rf.2 with ⟨q1, q2⟩ | ⟨g, cap, cur, q1, _⟩
    · exact ⟨0, 0, .inl ⟨q1, by simpa using q2⟩⟩
    · exact ⟨g, cap, .inr (by rw [q1]; simp)⟩
  refine (live_walk b g cap (s.fl.map fun f => y.B f.num) (fun x => (inv x : Int)) n y.fv w h.pb.c3 h.pb.c15 hfv (by simpa using hfew) ?_ ?_).mono ?_
  · intro k x hk
    have hrf := h.rf
    rcases hfv with ⟨_, q⟩ | q
    · rw [q] at hk; simp at hk
    · refine row_get0 hrf (by rw [q]; rfl) ?_
      rw [List.getElem?_map] at hk ⊢
      cases hz : s.fl[k]? with
      | none => rw [hz] at hk; cases hk
      | some f => rw [hz] at hk; simp at hk ⊢; exact hk
  · intro x hx
    obtain ⟨f, hf, rfl⟩ := List.mem_map.1 hx
    show w.cell? _ = some (Value.int .i64 ((inv (y.B f.num) : Nat) : Int))
    rw [hinv f hf]
    exact (h.fl f hf).c0
  · rintro e w' ⟨rfl, rfl⟩
    refine ⟨rfl, ?_⟩
    congr 2
    rw [List.find?_map]
    congr 1
    exact find_congr s.fl fun f hf => by simp only [Function.comp, hinv f hf]
theorem find_look (l : List Pace.Fl) (n : Nat) : (l.find? fun f => decide ((f.num : Int) = (n : Int))) = Pace.look l n := by
  unfold Pace.look
  congr 1
  funext f
  rw [decide_eq_decide]
  omega
end Go.Proofs.YtogdekjklbbbiaaGreatDoor

namespace Go.Proofs.YtogdekjklbbbiaaGreatDoor
open Go.ChangeShapes Go.WideShapes Go.ChangeAt Go.RowKit
set_option linter.unusedSimpArgs false
set_option linter.unusedVariables false

theorem send_clock (s : Pace.St) (a : Pace.Ar) : (Pace.send s a).2.clock = s.clock := Pace.arm_clock _ _
theorem send_q (s : Pace.St) (a : Pace.Ar) : (Pace.send s a).2.q = s.q := Pace.arm_q _ _
theorem rel_clock (n : Nat) (s : Pace.St) : (Pace.rel n s).2.clock = s.clock := by
  induction n generalizing s with
  | zero => rfl
  | succ n ih =>
    unfold Pace.rel
    split
    · rfl
    · exact (ih _).trans (send_clock s _)
theorem rel_flen (n : Nat) (s : Pace.St) : (Pace.rel n s).2.fl.length = s.fl.length := by have := congrArg List.length (Pace.rel_nums n s); simpa using this
/-- What holds in the midst of a release. -/
structure RI (w : World) (b : Nat) (y : Lay) (s : Pace.St) (nw : Nat) (c : Cn) (B L nb n0 : Nat) (wr : World) (yr : Lay) : Prop where
  pm : PM wr b yr (Pace.rel nb s).2 nw [] c
  ld : LD wr L n0 (fun k => yr.tag k = .none) (Pace.rel nb s).1
  len : (Pace.rel nb s).1.length = nb
  le : nb ≤ B
  st : StepN n0 w wr y yr
  bb : yr.B = y.B
  wb : yr.wb = y.wb
  wn : yr.wn = s.clock
  n0 : w.heap.size ≤ n0 ∧ n0 ≤ wr.heap.size
def RR (w : World) (b : Nat) (y : Lay) (s : Pace.St) (nw : Nat) (c : Cn) (B L nb gk : Nat) (wr : World) : Prop := gk = 64 - nb ∧ ∃ n0 yr, RI w b y s nw c B L nb n0 wr yr
def RE (w : World) (b : Nat) (y : Lay) (s : Pace.St) (nw : Nat) (c : Cn) (B L nb : Nat) (wr : World) : Prop := Pace.rel B s = Pace.rel nb s ∧ ∃ n0 yr, RI w b y s nw c B L nb n0 wr yr
/-- A batch is taken out of the wheel. -/
def RT (w : World) (b : Nat) (y : Lay) (s : Pace.St) (nw : Nat) (c : Cn) (B L nb gk num at' : Nat) (wr : World) : Prop := gk = 64 - nb ∧ nb + 1 ≤ B ∧ (Pace.rel nb s).1.length = nb ∧ ∃ n0 yr a, Pace.due (Pace.rel nb s).2 = some a ∧ num = a.num ∧ at' = a.at' ∧
  PM wr b yr { (Pace.rel nb s).2 with A := Pace.off (Pace.rel nb s).2.A a.num } nw [] c ∧ yr.bt a.num = a.k ∧ LD wr L n0 (fun k => yr.tag k = .none) (Pace.rel nb s).1 ∧ StepN n0 w wr y yr ∧ yr.B = y.B ∧ yr.wb = y.wb ∧ yr.wn = s.clock ∧ w.heap.size ≤ n0 ∧ n0 ≤ wr.heap.size
/-- It is sent. -/
def RS (w : World) (b : Nat) (y : Lay) (s : Pace.St) (nw : Nat) (c : Cn) (B L nb gk x : Nat) (wr : World) : Prop := gk = 64 - nb ∧ nb + 1 ≤ B ∧ (Pace.rel nb s).1.length = nb ∧ ∃ n0 yr a, Pace.due (Pace.rel nb s).2 = some a ∧ x = y.B a.num ∧
  PM wr b yr { (Pace.rel nb s).2 with fl := Pace.upd (Pace.rel nb s).2.fl a.num (Pace.sentFl a.k), A := Pace.off (Pace.rel nb s).2.A a.num } nw [] c ∧ LD wr L n0 (fun k => yr.tag k = .none) ((Pace.rel nb s).1 ++ [(Pace.send (Pace.rel nb s).2 a).1]) ∧ StepN n0 w wr y yr ∧ yr.B = y.B ∧ yr.wb = y.wb ∧ yr.wn = s.clock ∧ w.heap.size ≤ n0 ∧ n0 ≤ wr.heap.size

/-- Step by step: the first of those that are due. -/
theorem pm_first {w : World} {b : Nat} {y : Lay} {s : Pace.St} {nw : Nat} {c : Cn} {B L nb gk : Nat} {wr : World} (hi : Pace.PI s []) (h : RR w b y s nw c B L nb gk wr) (hlt : nb < B) :
    Calls Tryz.prog 67 #[.pointer (some ⟨y.wb, 0, none⟩)] wr fun e w' => (e = .returned (.tuple #[.int .i64 0, .int .i64 0, .bool false]) ∧ RE w b y s nw c B L nb w') ∨ ∃ num at' : Nat, e = .returned (.tuple #[.int .i64 (num : Int), .int .i64 (at' : Int), .bool true]) ∧ RT w b y s nw c B L nb gk num at' w' := by
  obtain ⟨hgk, n0, yr, hr⟩ := h
  have hwa := hr.pm.wa
  rw [hr.wb, hr.wn] at hwa
  have hwf := (hi.rel nb).wf
  refine (wa_first hwa).mono ?_
  rintro e w' ⟨hf, ⟨rfl, hno, hw'⟩ | ⟨p, A', rfl, hfst, hle, hw'⟩⟩
  · left
    rw [← hr.wb] at hw'
    obtain ⟨y1, hP, hS, e1, e2, e3, e4, e5⟩ := hr.pm.wheel hf hw' (fun k q => .inl q) (by rw [rel_clock]; exact Nat.le_refl _) hr.pm.ak
    have hdue : Pace.due (Pace.rel nb s).2 = none := by
      unfold Pace.due
      cases q : Pace.best (Pace.rel nb s).2.A with
      | none => rfl
      | some a =>
        have h1 := hno (a.num, a.at') (List.mem_map.2 ⟨a, (Pace.best_some q).1, rfl⟩)
        have h2 := rel_clock nb s
        simp only [Option.filter]
        rw [if_neg (by simp; omega)]
    refine ⟨rfl, ?_, n0, y1, ⟨hP, ?_, hr.len, hr.le, hr.st.trans hS.toN, e1.trans hr.bb, e3.trans hr.wb, e4, hr.n0.1, Nat.le_trans hr.n0.2 hS.fr.size⟩⟩
    · have := (rel_succ nb s).1 hdue (B - nb)
      rw [show nb + (B - nb) = B by omega] at this
      exact this
    · exact hr.ld.kept hS.fr (fun k _ hk q => q hk) (fun k hk hk' => hS.ext k hk hk')
  · right
    obtain ⟨a, hb, rfl, rfl⟩ := first_due hfst hwf.anum
    have hle : a.at' ≤ s.clock := hle
    have hdue : Pace.due (Pace.rel nb s).2 = some a := by
      unfold Pace.due
      rw [hb]
      have h2 := rel_clock nb s
      simp only [Option.filter]
      rw [if_pos (by simp; omega)]
    rw [← hr.wb] at hw'
    obtain ⟨y1, hP, hS, e1, e2, e3, e4, e5⟩ := hr.pm.wheel hf hw' (fun k q => .inl q) (by rw [rel_clock]; exact Nat.le_refl _) (fun x hx => hr.pm.ak x (Pace.mem_off.1 hx).1)
    refine ⟨a.num, a.at', rfl, hgk, by omega, hr.len, n0, y1, a, hdue, rfl, rfl, hP, ?_, ?_, hr.st.trans hS.toN, e1.trans hr.bb, e3.trans hr.wb, e4, hr.n0.1, Nat.le_trans hr.n0.2 hS.fr.size⟩
    · rw [e2]; exact hr.pm.ak a (Pace.best_some hb).1
    · exact hr.ld.kept hS.fr (fun k _ hk q => q hk) (fun k hk hk' => hS.ext k hk hk')
/-- It is sent. -/
theorem pm_out {w : World} {b : Nat} {y : Lay} {s : Pace.St} {nw : Nat} {c : Cn} {B L nb gk num at' : Nat} {w2 : World} (hi : Pace.PI s []) (hfew : s.fl.length ≤ 8) (h : RT w b y s nw c B L nb gk num at' w2) :
    ∃ x, (Calls Tryz.prog 68 #[.pointer (some ⟨b, 0, none⟩), .int .i64 (num : Int)] w2 fun e w' => w' = w2 ∧ e = .returned (liveV (some x))) ∧ w2.cell? ⟨b, 1, none⟩ = some (.int .i64 (s.clock : Int)) ∧
      Calls Tryz.prog 69 #[.pointer (some ⟨x, 0, none⟩), .int .i64 (at' : Int), .int .i64 (s.clock : Int), .pointer (some ⟨L, 0, none⟩)] w2 fun e w' => e = .returned (.tuple #[]) ∧ RS w b y s nw c B L nb gk x w' := by
  obtain ⟨hgk, hnb, hlen, n0, yr, a, hdue, rfl, rfl, hP, hbt, hL, hS, e1, e2, e3, hn1, hn2⟩ := h
  obtain ⟨q1, q2⟩ := Pace.due_some hdue
  have hpi := hi.rel nb
  obtain ⟨x, hx, hxn, hlk, hk0, hka, hby, hsent, hfl, hpi'⟩ := hpi.send (Pace.best_some q1).1 q2
  have hcl := rel_clock nb s
  have h8 := rel_len8 hi hfew nb
  refine ⟨y.B a.num, ?_, ?_, ?_⟩
  · have := pm_live hP (by show (Pace.rel nb s).2.fl.length ≤ 8; rw [rel_flen]; exact hfew) ((a.num : Nat) : Int)
    refine this.mono ?_
    rintro e w' ⟨rfl, rfl⟩
    refine ⟨rfl, ?_⟩
    have hlk' : Pace.look ({ (Pace.rel nb s).2 with A := Pace.off (Pace.rel nb s).2.A a.num } : Pace.St).fl a.num = some x := hlk
    rw [find_look, hlk', Option.map_some, hxn, e1]
  · have := hP.pb.c1
    have h2 : ({ (Pace.rel nb s).2 with A := Pace.off (Pace.rel nb s).2.A a.num } : Pace.St).clock = s.clock := hcl
    rw [h2] at this
    exact this
  · have := pm_send hP hpi.wf.nums hlk (hpi.wf.F x hx) hpi.wf.clock hbt hk0 hka hby (fun z hz => (Pace.mem_off.1 hz).2) hL hn2 (by omega) (by omega) a.at'
    rw [e1] at this
    have h2 : ({ (Pace.rel nb s).2 with A := Pace.off (Pace.rel nb s).2.A a.num } : Pace.St).clock = s.clock := hcl
    rw [h2] at this
    refine this.mono ?_
    rintro e w' ⟨rfl, y', hP', hL', hS', b1, b2, b3⟩
    refine ⟨rfl, hgk, hnb, hlen, n0, y', a, hdue, rfl, ?_, ?_, hS.trans hS', b1, b2.trans e2, b3.trans e3, hn1, Nat.le_trans hn2 hS'.fr.size⟩
    · rw [← h2] at hP'
      exact hP'
    · rw [hsent]; exact hL'
/-- And armed anew. -/
theorem pm_again {w : World} {b : Nat} {y : Lay} {s : Pace.St} {nw : Nat} {c : Cn} {B L nb gk x : Nat} {w3 : World} (hi : Pace.PI s []) (hfew : s.fl.length ≤ 8) (hnb : ∀ x ∈ s.fl, x.num < 9223372036854775808) (h : RS w b y s nw c B L nb gk x w3) :
    Calls Tryz.prog 64 #[.pointer (some ⟨b, 0, none⟩), .pointer (some ⟨x, 0, none⟩)] w3 fun e w' => e = .returned (.tuple #[]) ∧ ∃ gk', gk' < gk ∧ RR w b y s nw c B L (nb + 1) gk' w' := by
  obtain ⟨hgk, hnB, hlen, n0, yr, a, hdue, rfl, hP, hL, hS, e1, e2, e3, hn1, hn2⟩ := h
  obtain ⟨q1, q2⟩ := Pace.due_some hdue
  have hpi := hi.rel nb
  obtain ⟨x, hx, hxn, hlk, hk0, hka, hby, hsent, hfl, hpi'⟩ := hpi.send (Pace.best_some q1).1 q2
  have hrel := (rel_succ nb s).2 a hlen hdue
  have h8 := rel_len8 hi hfew (nb + 1)
  have hlen1 : (Pace.rel (nb + 1) s).1.length = nb + 1 := by rw [hrel]; simp [hlen]
  have hxu : Pace.look (Pace.upd (Pace.rel nb s).2.fl a.num (Pace.sentFl a.k)) a.num = some (Pace.sentFl a.k x) := by
    rw [Pace.look_upd _ _ _ (by intro x; rfl), hlk]
    simp [hxn]
  have hF := hpi'.wf.F (Pace.sentFl a.k x) (by rw [hfl]; exact (Pace.look_some hxu).1)
  rw [send_q] at hF
  have hnd : ((Pace.upd (Pace.rel nb s).2.fl a.num (Pace.sentFl a.k)).map (·.num)).Nodup := by rw [Pace.upd_nums _ _ (by intro x; rfl)]; exact hpi.wf.nums
  have hA8 := Wf_few hpi.wf
  rw [rel_flen] at hA8
  have hAl : (Pace.off (Pace.rel nb s).2.A a.num).length ≤ (Pace.rel nb s).2.A.length := List.length_filter_le _ _
  have hnn : a.num < 9223372036854775808 := by
    have : x.num ∈ (Pace.rel nb s).2.fl.map (·.num) := List.mem_map.2 ⟨x, hx, rfl⟩
    rw [Pace.rel_nums] at this
    obtain ⟨z, hz, e⟩ := List.mem_map.1 this
    rw [← hxn, ← e]; exact hnb z hz
  have := pm_arm hP hnd hxu hF hpi.wf.q hpi.wf.clock hnn (by show (Pace.off (Pace.rel nb s).2.A a.num).length < 1000; omega)
  rw [e1] at this
  refine this.mono ?_
  rintro e w' ⟨rfl, y', hP', hS', b1, b2, b3, b4⟩
  refine ⟨rfl, 64 - (nb + 1), by omega, rfl, n0, y', ⟨?_, ?_, hlen1, hnB, hS.trans hS'.toN, b1, b3.trans e2, b4.trans e3, hn1, Nat.le_trans hn2 hS'.fr.size⟩⟩
  · rw [hrel]; exact hP'
  · rw [hrel]; exact hL.kept hS'.fr (fun k _ hk q => q hk) (fun k hk hk' => hS'.ext k hk hk')
end Go.Proofs.YtogdekjklbbbiaaGreatDoor

namespace Go.Proofs.YtogdekjklbbbiaaGreatDoor
open Go.ChangeShapes Go.WideShapes Go.ChangeAt Go.RowKit
set_option linter.unusedSimpArgs false
set_option linter.unusedVariables false

/-- A batch of an answer. -/
def BAt (w : World) (n0 : Nat) (N : Nat → Prop) (v : Value) (c3 : List Value) (q : Bt) : Prop :=
  ∃ g o, c3 = [.int .i64 (q.1 : Int), .int .i64 (q.2.1 : Int), .slice (some ⟨g, o, none⟩) q.2.2.length q.2.2.length] ∧ n0 ≤ g ∧ g < w.heap.size ∧ N g ∧ pkAt w g o q.2.2 ∧ v.ownBlock ≠ some g
/-- An answer of batches. -/
structure BA (w : World) (n0 : Nat) (N : Nat → Prop) (bs : List Bt) (v : Value) : Prop where
  row : ∃ cs, w.ownsRow n0 85 3 v bs.length cs.flatten ∧ Pace.All2 (BAt w n0 N v) cs bs
  nn : ∀ g, v.ownBlock = some g → N g
theorem LDs.ba {w : World} {L n0 : Nat} {N : Nat → Prop} {bs : List Bt} {bv pv : Value} {px : List Value} {cs : List (List Value)} (h : LDs w L n0 N bs bv pv px cs) : BA w n0 N bs bv := by
  refine ⟨⟨cs, h.rb, h.all.mono fun c q hq => ?_⟩, h.nb⟩
  obtain ⟨g, o, e, h1, h2, h3, h4, h5, h6⟩ := hq
  refine ⟨g, o, e, h1, h2, h3, fun j u hu => ?_, h5⟩
  rcases h6 with ⟨q1, q2⟩ | ⟨q1, q2⟩
  · exact row_get0 h.rp q1 (q2 j u hu)
  · exact q2 j u hu
theorem BA.kept {w w' : World} {n0 : Nat} {N N' : Nat → Prop} {bs : List Bt} {v : Value} (h : BA w n0 N bs v) {O : Nat → Prop} (hf : Fr w w' O) (hO : ∀ k, k < w.heap.size → n0 ≤ k → N k → ¬ O k) (hN : ∀ k, k < w.heap.size → N k → N' k) : BA w' n0 N' bs v := by
  obtain ⟨⟨cs, hr, ha⟩, hn⟩ := h
  have hk : ∀ k, k < w.heap.size → n0 ≤ k → N k → w'.heap[k]? = w.heap[k]? := fun k h1 h0 h2 => hf.blk k h1 (hO k h1 h0 h2)
  refine ⟨⟨cs, row_kept0 hr fun g hg => hk g (hr.lt g hg).2 (hr.lt g hg).1 (hn g hg), ha.mono fun c q hq => ?_⟩, fun g hg => hN g (hr.lt g hg).2 (hn g hg)⟩
  obtain ⟨g, o, e, h1, h2, h3, h4, h5⟩ := hq
  exact ⟨g, o, e, h1, Nat.lt_of_lt_of_le h2 hf.size, hN g h2 h3, fun j u hu => (World.cell?_of_block (w := w) (a := ⟨g, o + j, none⟩) (hk g h2 h1 h3)).trans (h4 j u hu), h5⟩
theorem row_len {w : World} {n0 e sz n : Nat} {v : Value} {xs : List Value} (h : w.ownsRow n0 e sz v n xs) : ∃ a c, v = .slice a n c := by
  rcases h.2 with ⟨q, q2⟩ | ⟨g, cap, cur, q, _⟩
  · exact ⟨none, 0, by rw [q, q2]⟩
  · exact ⟨_, cap, q⟩
theorem PB.sent {w w' : World} {b q ck nw : Nat} {fv pv : Value} {wb : Nat} {c : Cn} (h : PB w b q ck nw fv pv wb c) (hc : Ch w w' (fun a o => a = b ∧ o = 8)) {n : Nat} (h8 : w'.cell? ⟨b, 8, none⟩ = some (.int .i64 (n : Int))) : PB w' b q ck nw fv pv wb { c with sent := n } := by
  have hcc : ∀ o, o ≠ 8 → w'.cell? ⟨b, o, none⟩ = w.cell? ⟨b, o, none⟩ := fun o ho => hc.cell b o fun q => ho q.2
  exact ⟨by rw [hcc _ (by omega)]; exact h.c0, by rw [hcc _ (by omega)]; exact h.c1, by rw [hcc _ (by omega)]; exact h.c2, by rw [hcc _ (by omega)]; exact h.c3, by rw [hcc _ (by omega)]; exact h.c4, by rw [hcc _ (by omega)]; exact h.c5, by rw [hcc _ (by omega)]; exact h.c6, by rw [hcc _ (by omega)]; exact h.c7, h8, by rw [hcc _ (by omega)]; exact h.c9, by rw [hcc _ (by omega)]; exact h.c10, by rw [hcc _ (by omega)]; exact h.c11, by rw [hcc _ (by omega)]; exact h.c12, by rw [hcc _ (by omega)]; exact h.c13, by rw [hcc _ (by omega)]; exact h.c14, by rw [hcc _ (by omega)]; exact h.c15⟩

/-- What is due is released. -/
theorem pm_release {w : World} {b : Nat} {y : Lay} {s : Pace.St} {nw : Nat} {c : Cn} (h : PM w b y s nw [] c) (hi : Pace.PI s []) (hfew : s.fl.length ≤ 8) (hnb : ∀ x ∈ s.fl, x.num < 9223372036854775808) (hT : TabW w) (hc : c.sent < 8000000000000000000) (budget : Int) :
    Calls Tryz.prog 25 #[.pointer (some ⟨b, 0, none⟩), .int .i64 budget] w fun e w' => ∃ v, e = .returned v ∧ ∃ n0 y', PM w' b y' (Pace.rel budget.toNat s).2 nw [] { c with sent := c.sent + total (Pace.rel budget.toNat s).1 } ∧ BA w' n0 (fun k => y'.tag k = .none) (Pace.rel budget.toNat s).1 v ∧ StepN n0 w w' y y' ∧ w.heap.size ≤ n0 ∧ y'.B = y.B := by
  have hck := hi.wf.clock
  refine (release_walk b y.wb (s.clock : Int) budget w
    (fun w1 => ∃ y1, PM w1 b y1 s nw [] c ∧ Step w w1 y y1 ∧ y1.B = y.B ∧ y1.wb = y.wb ∧ y1.wn = s.clock)
    (fun L nb gk wr => RR w b y s nw c budget.toNat L nb gk wr)
    (fun L nb gk num at' wr => RT w b y s nw c budget.toNat L nb gk num at' wr)
    (fun L nb gk x wr => RS w b y s nw c budget.toNat L nb gk x wr)
    (fun L nb wr => RE w b y s nw c budget.toNat L nb wr)
    ⟨h.pb.c5, h.pb.c1⟩ ?_ ?_ ?_ ?_ ?_ ?_ ?_ ?_ ?_).mono ?_
  · intro m
    have hd := h.drewN m
    have hTd : TabW (w.drewN m) := hT
    refine (wa_turn hd.wa hTd (fun q => by have := h.two 0 q; rw [h.t0] at this; cases this) (s.clock : Int) (by omega)).mono ?_
    rintro e w' ⟨rfl, N, hN, hf, hw'⟩
    have hNe : N = s.clock := by have := h.wn; omega
    subst hNe
    obtain ⟨y1, hP, hS, e1, e2, e3, e4, e5⟩ := hd.wheel hf hw' (fun k q => .inl q) (Nat.le_refl _) hd.ak
    exact ⟨rfl, y1, hP, ⟨⟨hS.fr.os, hS.fr.tape, hS.fr.output, hS.fr.size, hS.fr.blk⟩, hS.ext⟩, e1, e3, e4⟩
  · rintro w1 ⟨y1, h1, hs, e1, e2, e3⟩
    exact ⟨by rw [← e2]; exact h1.pb.c5, h1.pb.c1⟩
  · rintro w1 ⟨y1, h1, hs, e1, e2, e3⟩
    obtain ⟨a3, cap3, hfv⟩ := row_len h1.rf
    have hc3 := h1.pb.c3
    rw [hfv] at hc3
    have hx : ∃ (len : Nat → Nat), ∀ f ∈ s.fl, len (y1.B f.num) = f.pk.length := by
      refine ⟨fun k => match y1.tag k with | .flow m => ((Pace.look s.fl m).map (·.pk.length)).getD 0 | _ => 0, fun f hf => ?_⟩
      simp only [h1.tl f hf, Pace.look_of_mem hi.wf.nums hf]
      rfl
    obtain ⟨len, hlen⟩ := hx
    refine (newload_walk b (s.fl.map fun f => y1.B f.num) len w1 a3 cap3 (by rw [List.length_map]; exact hc3) (by simpa using hfew) ?_ ?_ ?_).mono ?_
    · intro x hx
      obtain ⟨f, hf, rfl⟩ := List.mem_map.1 hx
      rw [hlen f hf]; exact (hi.wf.F f hf).few
    · intro k x hk
      have hz : (s.fl.map fun f => Value.pointer (some ⟨y1.B f.num, 0, none⟩))[k]? = some (.pointer (some ⟨x, 0, none⟩)) := by
        rw [List.getElem?_map] at hk ⊢
        cases hz : s.fl[k]? with
        | none => rw [hz] at hk; cases hk
        | some f => rw [hz] at hk; simp at hk ⊢; exact hk
      have hpos : 0 < s.fl.length := by
        have := (List.getElem?_eq_some_iff.1 hz).1
        rw [List.length_map] at this; omega
      obtain ⟨g, cap, hv, _, _, hvg, _⟩ := row_shape h1.rf hpos
      refine ⟨g, ?_, row_get0 h1.rf hvg hz⟩
      rw [hfv] at hv
      injection hv
    · intro x hx
      obtain ⟨f, hf, rfl⟩ := List.mem_map.1 hx
      have hF := h1.fl f hf
      obtain ⟨a, c5, hv⟩ := row_len hF.row
      exact ⟨a, c5, by rw [hlen f hf, ← hv]; exact hF.c5⟩
    · rintro e w' ⟨L, pv, rfl, hg, hL, hh, hp, hpL⟩
      have hfr : Fr w1 w' (fun _ => False) := (World.grownBy.fr hg).weak fun k _ q => by cases q
      refine ⟨L, 64, rfl, rfl, w1.heap.size, y1, ⟨h1.kept hfr (fun _ _ q => q), ?_, rfl, Nat.zero_le _, hs.toN.trans ⟨hfr.weak fun _ _ q => q.elim, fun _ _ e => e⟩, e1, e2, e3, hs.fr.size, hfr.size⟩⟩
      exact ld_new (fun k hk => Classical.byContradiction fun hne => by have := h1.lt k hne; omega) hg hL hh hp hpL
  · rintro L nb gk wr ⟨_, n0, yr, hr⟩
    have h8 := rel_len8 hi hfew nb
    have hl := hr.len
    obtain ⟨bv, pv, px, cs, hld⟩ := hr.ld
    obtain ⟨a, cc, hbv⟩ := row_len hld.rb
    refine ⟨by omega, ⟨a, cc, ?_⟩, by rw [← hr.wb]; exact hr.pm.pb.c5, ?_⟩
    · rw [hld.c0, hbv, hl]
    · have := hr.pm.pb.c1
      rw [rel_clock] at this
      exact this
  · intro L nb gk wr hR hlt
    exact pm_first hi hR (by omega)
  · intro L nb gk num at' w2 hR
    exact pm_out hi hfew hR
  · intro L nb gk x w3 hR
    exact pm_again hi hfew hnb hR
  · rintro L nb gk wr ⟨_, n0, yr, hr⟩ hle
    have := hr.le
    refine ⟨?_, n0, yr, hr⟩
    rw [show budget.toNat = nb by omega]
  · rintro L nb wr ⟨_, n0, yr, hr⟩
    have h8 := rel_len8 hi hfew nb
    have hl := hr.len
    obtain ⟨bv, pv, px, cs, hld⟩ := hr.ld
    obtain ⟨a, cc, hbv⟩ := row_len hld.rb
    obtain ⟨a1, c1, hpv⟩ := row_len hld.rp
    refine ⟨c.sent, total (Pace.rel nb s).1, a, cc, a1, c1, by rw [hld.c0, hbv, hl], by rw [hld.c1, hpv], by omega, by omega, hr.pm.pb.c8, hr.pm.fz 8, fun e => ?_⟩
    have h1 := hld.nL
    have h2 := hr.pm.tb
    rw [← e, h2] at h1
    cases h1
  · rintro e w' ⟨v, rfl, L, nb, wr, s0, np, a1, c1, ⟨hrel, n0, yr, hr⟩, hL1, hb8, hch, h8, hL0⟩
    obtain ⟨bv, pv, px, cs, hld⟩ := hr.ld
    obtain ⟨a1', c1', hpv⟩ := row_len hld.rp
    have hnp : np = total (Pace.rel nb s).1 := by
      have := hld.c1
      rw [hL1, hpv] at this
      injection this with this
      injection this
    have hs0 : s0 = c.sent := by
      have := hr.pm.pb.c8
      rw [hb8] at this
      injection this with this
      injection this with _ this
      omega
    have hv : v = bv := by
      have := hld.c0
      rw [hL0] at this
      injection this
    subst hnp; subst hs0; subst hv
    rw [hrel]
    have hfr : Fr wr w' (fun k => k = b) := hch.fr2 fun a o q => q.1
    obtain ⟨y', hP, hS, e1, e2, e3, e4, e5⟩ := hr.pm.self (s' := (Pace.rel nb s).2) (P' := []) hfr (fun o => (hch.fz _).trans (hr.pm.fz o)) (hr.pm.pb.sent hch h8) (row_kept hr.pm.rp fun g hg => hch.blk g fun o q => by
        have := hr.pm.tp g hg
        rw [q.1, hr.pm.tb] at this; cases this) (.inl rfl) rfl (Nat.le_refl _) rfl (fun f hf => ⟨f, hf, rfl, rfl, rfl, rfl, rfl, hr.pm.fc f hf⟩)
    refine ⟨v, rfl, n0, y', hP, ?_, hr.st.trans hS.toN, hr.n0.1, e1.trans hr.bb⟩
    exact hld.ba.kept hS.fr (fun k _ _ hk q => q hk) (fun k hk hk' => hS.ext k hk hk')
end Go.Proofs.YtogdekjklbbbiaaGreatDoor
