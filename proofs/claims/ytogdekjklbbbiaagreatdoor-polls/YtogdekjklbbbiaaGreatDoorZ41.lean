import Derived.Test.YtogdekjklbbbiaaGreatDoorRs
set_option maxRecDepth 100000
namespace Go.Proofs.YtogdekjklbbbiaaGreatDoor
open Go.ChangeShapes Go.WideShapes Go.ChangeAt Go.RowKit
set_option linter.unusedSimpArgs false
set_option linter.unusedVariables false

/-- One command of a script. -/
structure OpV where
  k : Int
  a : Int
  b : Int
  c : Int
  w : Int
  sa : Option Addr
  sn : Nat
  sc : Nat
/-- How far the counts have come. -/
structure Bd (p : Pace.PS) (c : Cn) (k : Nat) : Prop where
  nw : p.newest ≤ k
  tk : c.taken ≤ k
  rf : c.refused ≤ k
  sn : c.sent ≤ 64 * k
  dr : c.dropped ≤ 8 * k
theorem poll_len {p : Pace.PS} (hI : p.Inv) {now : Nat} (hn : now ≤ 4000000000000000000) (B : Nat) : (p.poll now B).1.length ≤ 64 ∧ total (p.poll now B).1 ≤ 64 := by
  refine rel_len8 ((hI.pi.tick hn).admit) ?_ B
  have h1 := congrArg List.length (Pace.admit_nums (Pace.tick p.st now) p.asks)
  have h2 := congrArg List.length (Pace.tick_nums p.st now)
  simp at h1 h2
  rw [h1]
  have := hI.few
  omega
/-- What a command makes of a pacer. -/
noncomputable def stP (o : OpV) (p : Pace.PS) : Pace.PS :=
  if o.k = 1 then addP p o.a o.b else if o.k = 2 then setP p o.a o.b o.c else if o.k = 3 then enqP p o.a o.b o.c else if o.k = 4 then remP p o.a else if o.k = 5 then (if o.a ≤ 4000000000000000000 then (p.poll o.a.toNat o.b.toNat).2 else p) else p
noncomputable def stC (o : OpV) (p : Pace.PS) (c : Cn) : Cn :=
  if o.k = 3 then enqC p o.a o.c c else if o.k = 4 then { c with dropped := c.dropped + (remL p o.a).length } else if o.k = 5 then (if o.a ≤ 4000000000000000000 then { c with sent := c.sent + total (p.poll o.a.toNat o.b.toNat).1 } else c) else c
theorem remL_len {p : Pace.PS} (hI : p.Inv) (f : Int) : (remL p f).length ≤ 8 := by
  unfold remL
  split
  · exact Nat.zero_le _
  · rename_i x hx
    exact (hI.pi.wf.F x (lookI_some hx hI.pi.wf.nums).1).few
theorem Bd.step {p : Pace.PS} {c : Cn} {k : Nat} (h : Bd p c k) (hI : p.Inv) (o : OpV) : Bd (stP o p) (stC o p c) (k + 1) := by
  have h1 := h.nw; have h2 := h.tk; have h3 := h.rf; have h4 := h.sn; have h5 := h.dr
  unfold stP stC
  by_cases k1 : o.k = 1
  · rw [if_pos k1, if_neg (by omega), if_neg (by omega), if_neg (by omega)]
    refine ⟨?_, by omega, by omega, by omega, by omega⟩
    unfold addP
    split
    · show p.newest + 1 ≤ k + 1; omega
    · omega
  rw [if_neg k1]
  by_cases k2 : o.k = 2
  · rw [if_pos k2, if_neg (by omega), if_neg (by omega), if_neg (by omega)]
    refine ⟨?_, by omega, by omega, by omega, by omega⟩
    unfold setP
    split
    · show p.newest ≤ k + 1; omega
    · omega
  rw [if_neg k2]
  by_cases k3 : o.k = 3
  · rw [if_pos k3, if_pos k3]
    unfold enqP enqC
    split
    · exact ⟨by show p.newest ≤ k + 1; omega, by show c.taken + 1 ≤ k + 1; omega, by show c.refused ≤ k + 1; omega, by show c.sent ≤ 64 * (k + 1); omega, by show c.dropped ≤ 8 * (k + 1); omega⟩
    · exact ⟨by show p.newest ≤ k + 1; omega, by show c.taken ≤ k + 1; omega, by show c.refused + 1 ≤ k + 1; omega, by show c.sent ≤ 64 * (k + 1); omega, by show c.dropped ≤ 8 * (k + 1); omega⟩
  rw [if_neg k3, if_neg k3]
  by_cases k4 : o.k = 4
  · rw [if_pos k4, if_pos k4]
    have := remL_len hI o.a
    refine ⟨?_, by show c.taken ≤ k + 1; omega, by show c.refused ≤ k + 1; omega, by show c.sent ≤ 64 * (k + 1); omega, by show c.dropped + _ ≤ 8 * (k + 1); omega⟩
    unfold remP
    split
    · omega
    · show p.newest ≤ k + 1; omega
  rw [if_neg k4, if_neg k4]
  by_cases k5 : o.k = 5
  · rw [if_pos k5, if_pos k5]
    split
    · have ht := poll_len hI (now := o.a.toNat) (by omega) o.b.toNat
      exact ⟨Nat.le_trans h1 (by omega), by show c.taken ≤ k + 1; omega, by show c.refused ≤ k + 1; omega, by show c.sent + _ ≤ 64 * (k + 1); omega, by show c.dropped ≤ 8 * (k + 1); omega⟩
    · exact ⟨by omega, by omega, by omega, by omega, by omega⟩
  rw [if_neg k5, if_neg k5]
  exact ⟨by omega, by omega, by omega, by omega, by omega⟩
/-- A Poll at any time. -/
noncomputable def pollB (o : OpV) (p : Pace.PS) : List Bt := if o.a ≤ 4000000000000000000 then (p.poll o.a.toNat o.b.toNat).1 else []
theorem sent_few {s : Pace.St} (h : Pace.PI s []) (n : Nat) : ∀ q ∈ (Pace.rel n s).1, q.2.2.length ≤ 8 := by
  induction n generalizing s with
  | zero => intro q hq; cases hq
  | succ n ih =>
    unfold Pace.rel
    split
    · intro q hq; cases hq
    · rename_i a e
      obtain ⟨q1, q2⟩ := Pace.due_some e
      obtain ⟨x, hx, hxn, hlx, hk, hk2, hgot, hsent, hfl, h'⟩ := h.send (Pace.best_some q1).1 q2
      intro q hq
      rcases List.mem_cons.1 hq with rfl | hq
      · rw [hsent]
        have := (h.wf.F x hx).few
        show (x.pk.take a.k).length ≤ 8
        rw [List.length_take]; omega
      · exact ih h' q hq
end Go.Proofs.YtogdekjklbbbiaaGreatDoor

namespace Go.Proofs.YtogdekjklbbbiaaGreatDoor
open Go.ChangeShapes Go.WideShapes Go.ChangeAt Go.RowKit
set_option linter.unusedSimpArgs false
set_option linter.unusedVariables false

/-- A flow is put behind the others. -/
theorem RM.addFl {w w' : World} {b : Nat} {y : RL} {s : Pace.St} {nw tu : Nat} {P : List Pace.Cmd} {c : Cn} {fv' : Value} {F : Nat} (h : RM w b y s nw tu P c) (hle : ∀ x ∈ s.fl, x.num ≤ nw) (hA : ∀ a ∈ s.A, ∃ x ∈ s.fl, x.num = a.num) (hf : Fr w w' (fun k => k = b ∨ y.fv.ownBlock = some k)) (hfz : ∀ o, w'.frozen? ⟨b, o, none⟩ = false)
    (hRB : RB w' b s.q s.clock (nw + 1) tu fv' y.pv c) (hrf : w'.ownsRow 0 183 1 fv' (s.fl.length + 1) ((s.fl.map fun f => Value.pointer (some ⟨y.B f.num, 0, none⟩)) ++ [.pointer (some ⟨F, 0, none⟩)])) (hfv : ∀ g, fv'.ownBlock = some g → y.fv.ownBlock = some g ∨ w.heap.size < g) (hF : F = w.heap.size) (hF' : F < w'.heap.size)
    (hRA : RA w' F ⟨nw + 1, 0, 0, 0, [], 0⟩ 0 0 0 0 0 (.slice none 0 0)) :
    ∃ y', RM w' b y' { s with fl := s.fl ++ [⟨nw + 1, 0, 0, 0, [], 0⟩] } (nw + 1) tu P c ∧ StpR w w' y y' ∧ y'.pv = y.pv := by
  have hk : ∀ k t, y.tag k = t → t ≠ .none → t ≠ .self → t ≠ .rowF → w'.heap[k]? = w.heap[k]? := fun k t e h1 h2 h3 => hf.blk k (h.lt k (h.own_of e h1)) fun q => by
    rcases q with q | q
    · exact h2 (by rw [← e, q]; exact h.tb)
    · exact h3 (by rw [← e]; exact h.tf k q)
  have ht : ∀ k, k < w.heap.size → y.tag k ≠ .rowF → fv'.ownBlock ≠ some k := fun k hkl hkt e => by
    rcases hfv k e with q | q
    · exact hkt (h.tf k q)
    · omega
  have hkeep : ∀ k t, y.tag k = t → t ≠ .none → t ≠ .rowF → (if k = F then Tag.flow (nw + 1) else if fv'.ownBlock = some k then .rowF else y.tag k) = t := fun k t e h1 h2 => by
    have hlt := h.lt k (h.own_of e h1)
    rw [if_neg (by omega), if_neg (ht k hlt (by rw [e]; exact h2))]; exact e
  have hne : ∀ f ∈ s.fl, f.num ≠ nw + 1 := fun f hf' => by have := hle f hf'; omega
  have hmem : ∀ f ∈ s.fl ++ [(⟨nw + 1, 0, 0, 0, [], 0⟩ : Pace.Fl)], f ∈ s.fl ∨ f = ⟨nw + 1, 0, 0, 0, [], 0⟩ := fun f hf' => by
    rcases List.mem_append.1 hf' with q | q
    · exact .inl q
    · exact .inr (List.mem_singleton.1 q)
  have hna : ∀ a ∈ s.A, a.num ≠ nw + 1 := fun a ha => by
    obtain ⟨x, hx, e⟩ := hA a ha
    rw [← e]; exact hne x hx
  refine ⟨{ y with tag := fun k => if k = F then .flow (nw + 1) else if fv'.ownBlock = some k then .rowF else y.tag k, B := upd y.B (nw + 1) F, V := upd y.V (nw + 1) (.slice none 0 0), cr := upd y.cr (nw + 1) 0, ls := upd y.ls (nw + 1) 0, ar := upd y.ar (nw + 1) 0, at' := upd y.at' (nw + 1) 0, tn := upd y.tn (nw + 1) 0, fv := fv' }, ⟨?_, ?_, ?_, hfz, hRB, ?_, ?_, ?_, ?_, ?_, ?_, ?_, ?_, ?_⟩, ⟨?_, ?_⟩, rfl⟩
  · exact hkeep b _ h.tb (by simp) (by simp)
  · have hb := h.lt b h.ow
    show (if _ then _ else _) = _
    rw [if_neg (by omega), if_neg (ht 0 (by omega) (by rw [h.t0]; simp))]; exact h.t0
  · intro k hO
    have hO' : (if k = F then Tag.flow (nw + 1) else if fv'.ownBlock = some k then .rowF else y.tag k) ≠ .none := hO
    by_cases q0 : k = F
    · omega
    · rw [if_neg q0] at hO'
      by_cases q : fv'.ownBlock = some k
      · exact (hrf.lt k q).2
      · rw [if_neg q] at hO'
        exact Nat.lt_of_lt_of_le (h.lt k hO') hf.size
  · show w'.ownsRow 0 183 1 fv' (s.fl ++ [_]).length ((s.fl ++ [_]).map _)
    rw [List.length_append, List.length_singleton, List.map_append]
    have e1 : s.fl.map (fun f => Value.pointer (some ⟨upd y.B (nw + 1) F f.num, 0, none⟩)) = s.fl.map fun f => Value.pointer (some ⟨y.B f.num, 0, none⟩) := List.map_congr_left fun f hf' => by rw [upd_other _ _ (hne f hf')]
    rw [e1]
    simp only [List.map_cons, List.map_nil, upd_same]
    exact hrf
  · intro g hg
    have hg' : fv'.ownBlock = some g := hg
    show (if _ then _ else _) = _
    rw [if_neg, if_pos hg']
    rcases hfv g hg' with q | q
    · have := h.lt g (h.own_of (h.tf g q) (by simp)); omega
    · omega
  · exact row_kept h.rp fun g hg => hk g _ (h.tp g hg) (by simp) (by simp) (by simp)
  · exact fun g hg => hkeep g _ (h.tp g hg) (by simp) (by simp)
  · intro f hf'
    rcases hmem f hf' with q | rfl
    · simp only [upd_other _ _ (hne f q)]
      exact (h.fl f q).kept (hk _ _ (h.tl f q) (by simp) (by simp) (by simp)) fun g hg => hk g _ (h.tk f q g hg) (by simp) (by simp) (by simp)
    · simp only [upd_same]; exact hRA
  · intro f hf'
    rcases hmem f hf' with q | rfl
    · simp only [upd_other _ _ (hne f q)]
      exact h.fc f q
    · simp only [upd_same]
      exact ⟨Nat.zero_le _, Nat.zero_le _, by simp [Pace.acc]⟩
  · intro f hf'
    rcases hmem f hf' with q | rfl
    · have := hkeep _ _ (h.tl f q) (by simp) (by simp)
      have e : upd y.B (nw + 1) F f.num = y.B f.num := upd_other _ _ (hne f q)
      rw [← e] at this
      exact this
    · show (if upd y.B (nw + 1) F (nw + 1) = F then _ else _) = _
      rw [upd_same, if_pos rfl]
  · intro f hf' g hg
    rcases hmem f hf' with q | rfl
    · simp only [upd_other _ _ (hne f q)] at hg
      exact hkeep g _ (h.tk f q g hg) (by simp) (by simp)
    · simp only [upd_same] at hg
      cases hg
  · refine ⟨fun a ha => ?_, fun f hf' hno => ?_, ?_, fun a ha => ?_⟩
    · show upd y.ar (nw + 1) 0 a.num = a.k ∧ upd y.at' (nw + 1) 0 a.num = a.at'
      rw [upd_other _ _ (hna a ha), upd_other _ _ (hna a ha)]
      exact h.arm.inn a ha
    · rcases hmem f hf' with q | rfl
      · show upd y.ar (nw + 1) 0 f.num = 0
        rw [upd_other _ _ (hne f q)]
        exact h.arm.out f q hno
      · show upd y.ar (nw + 1) 0 (nw + 1) = 0
        exact upd_same _ _ _
    · refine List.Pairwise.imp_of_mem ?_ h.arm.ord
      intro a a' ha ha' hlt
      show upd y.tn (nw + 1) 0 a.num < upd y.tn (nw + 1) 0 a'.num
      rw [upd_other _ _ (hna a ha), upd_other _ _ (hna a' ha')]
      exact hlt
    · show upd y.tn (nw + 1) 0 a.num ≤ tu
      rw [upd_other _ _ (hna a ha)]
      exact h.arm.le a ha
  · exact hf.weak fun k _ q => by
      rcases q with q | q
      · rw [q]; exact h.ow
      · exact h.own_of (h.tf k q) (by simp)
  · intro k hk' e
    show (if _ then _ else _) = _
    rw [if_neg (by omega), if_neg (ht k hk' (by rw [e]; simp))]; exact e

/-- A flow is gone. -/
theorem RM.gone {w w' : World} {b : Nat} {y : RL} {s : Pace.St} {nw tu n : Nat} {P P' : List Pace.Cmd} {c c' : Cn} {fv' pv' : Value} (h : RM w b y s nw tu P c) (hf : Fr w w' (fun k => k = b)) (hfz : ∀ o, w'.frozen? ⟨b, o, none⟩ = false)
    (hRB : RB w' b s.q s.clock nw tu fv' pv' c') (hrf : w'.ownsRow 0 183 1 fv' (Pace.gone s.fl n).length ((Pace.gone s.fl n).map fun f => Value.pointer (some ⟨y.B f.num, 0, none⟩))) (hfv : ∀ g, fv'.ownBlock = some g → w.heap.size ≤ g) (hrp : w'.ownsRow 0 187 4 pv' P'.length (asksC P')) (hpv : ∀ g, pv'.ownBlock = some g → w.heap.size ≤ g ∧ fv'.ownBlock ≠ some g) :
    ∃ y', RM w' b y' { s with fl := Pace.gone s.fl n, A := Pace.off s.A n } nw tu P' c' ∧ StpR w w' y y' := by
  have hk : ∀ k t, y.tag k = t → t ≠ .none → t ≠ .self → w'.heap[k]? = w.heap[k]? := fun k t e h1 h2 => hf.blk k (h.lt k (h.own_of e h1)) fun q => h2 (by rw [← e, q]; exact h.tb)
  have hz : 0 < w.heap.size := Nat.lt_of_le_of_lt (Nat.zero_le _) (h.lt b h.ow)
  have hold : ∀ k, k < w.heap.size → (if fv'.ownBlock = some k then Tag.rowF else if pv'.ownBlock = some k then .rowP else y.tag k) = y.tag k := fun k hk' => by
    rw [if_neg (fun e => by have := hfv k e; omega), if_neg (fun e => by have := (hpv k e).1; omega)]
  have hkeep : ∀ k t, y.tag k = t → t ≠ .none → (if fv'.ownBlock = some k then Tag.rowF else if pv'.ownBlock = some k then .rowP else y.tag k) = t := fun k t e h1 => (hold k (h.lt k (h.own_of e h1))).trans e
  refine ⟨{ y with tag := fun k => if fv'.ownBlock = some k then .rowF else if pv'.ownBlock = some k then .rowP else y.tag k, fv := fv', pv := pv' }, ⟨hkeep b _ h.tb (by simp), (hold 0 hz).trans h.t0, ?_, hfz, hRB, hrf, fun g hg => if_pos hg, hrp, ?_, ?_, ?_, ?_, ?_, ?_⟩, ⟨?_, fun k hk' e => (hold k hk').trans e⟩⟩
  · intro k hO
    have hO' : (if fv'.ownBlock = some k then Tag.rowF else if pv'.ownBlock = some k then .rowP else y.tag k) ≠ .none := hO
    by_cases q : fv'.ownBlock = some k
    · exact (hrf.lt k q).2
    · rw [if_neg q] at hO'
      by_cases q : pv'.ownBlock = some k
      · exact (hrp.lt k q).2
      · rw [if_neg q] at hO'
        exact Nat.lt_of_lt_of_le (h.lt k hO') hf.size
  · intro g hg
    show (if _ then _ else _) = _
    rw [if_neg (hpv g hg).2, if_pos hg]
  · intro f hf'
    have q := (Pace.mem_gone.1 hf').1
    exact (h.fl f q).kept (hk _ _ (h.tl f q) (by simp) (by simp)) fun g hg => hk g _ (h.tk f q g hg) (by simp) (by simp)
  · intro f hf'; exact h.fc f (Pace.mem_gone.1 hf').1
  · intro f hf'; exact hkeep _ _ (h.tl f (Pace.mem_gone.1 hf').1) (by simp)
  · intro f hf' g hg; exact hkeep _ _ (h.tk f (Pace.mem_gone.1 hf').1 g hg) (by simp)
  · refine ⟨fun a ha => h.arm.inn a (Pace.mem_off.1 ha).1, fun f hf' hno => ?_, h.arm.ord.sublist (off_sub _ _), fun a ha => h.arm.le a (Pace.mem_off.1 ha).1⟩
    obtain ⟨q1, q2⟩ := Pace.mem_gone.1 hf'
    exact h.arm.out f q1 fun a ha e => hno a (Pace.mem_off.2 ⟨ha, by rw [e]; exact q2⟩) e
  · exact hf.weak fun k _ q => by rw [q]; exact h.ow
end Go.Proofs.YtogdekjklbbbiaaGreatDoor
