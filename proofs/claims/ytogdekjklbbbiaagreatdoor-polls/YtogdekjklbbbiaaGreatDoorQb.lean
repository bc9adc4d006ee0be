import Derived.Test.YtogdekjklbbbiaaGreatDoorZ37
set_option maxRecDepth 100000
namespace Go.Proofs.YtogdekjklbbbiaaGreatDoor
open Go.ChangeShapes Go.WideShapes Go.ChangeAt Go.RowKit
set_option linter.unusedSimpArgs false
set_option linter.unusedVariables false

theorem PB.rows {w : World} {b q ck nw : Nat} {fv pv : Value} {wb : Nat} {c : Cn} (h : PB w b q ck nw fv pv wb c) (fv' : Value) : PB (w.setCell ⟨b, 3, none⟩ fv') b q ck nw fv' pv wb c := by
  have hc : Ch w (w.setCell ⟨b, 3, none⟩ fv') (fun a o => a = b ∧ o = 3) := (Ch.refl w _).setCell ⟨rfl, rfl⟩ _
  have hcc : ∀ o, o ≠ 3 → (w.setCell ⟨b, 3, none⟩ fv').cell? ⟨b, o, none⟩ = w.cell? ⟨b, o, none⟩ := fun o ho => hc.cell b o fun q => ho q.2
  exact ⟨by rw [hcc _ (by omega)]; exact h.c0, by rw [hcc _ (by omega)]; exact h.c1, by rw [hcc _ (by omega)]; exact h.c2, World.cell?_setCell_same' _ _ _ (by rw [h.c3]; rfl), by rw [hcc _ (by omega)]; exact h.c4, by rw [hcc _ (by omega)]; exact h.c5, by rw [hcc _ (by omega)]; exact h.c6, by rw [hcc _ (by omega)]; exact h.c7, by rw [hcc _ (by omega)]; exact h.c8, by rw [hcc _ (by omega)]; exact h.c9, by rw [hcc _ (by omega)]; exact h.c10, by rw [hcc _ (by omega)]; exact h.c11, by rw [hcc _ (by omega)]; exact h.c12, by rw [hcc _ (by omega)]; exact h.c13, by rw [hcc _ (by omega)]; exact h.c14, by rw [hcc _ (by omega)]; exact h.c15⟩
theorem PB.dropped {w : World} {b q ck nw : Nat} {fv pv : Value} {wb : Nat} {c : Cn} (h : PB w b q ck nw fv pv wb c) (n : Nat) : PB (w.setCell ⟨b, 9, none⟩ (.int .i64 (n : Int))) b q ck nw fv pv wb { c with dropped := n } := by
  have hc : Ch w (w.setCell ⟨b, 9, none⟩ (.int .i64 (n : Int))) (fun a o => a = b ∧ o = 9) := (Ch.refl w _).setCell ⟨rfl, rfl⟩ _
  have hcc : ∀ o, o ≠ 9 → (w.setCell ⟨b, 9, none⟩ (.int .i64 (n : Int))).cell? ⟨b, o, none⟩ = w.cell? ⟨b, o, none⟩ := fun o ho => hc.cell b o fun q => ho q.2
  exact ⟨by rw [hcc _ (by omega)]; exact h.c0, by rw [hcc _ (by omega)]; exact h.c1, by rw [hcc _ (by omega)]; exact h.c2, by rw [hcc _ (by omega)]; exact h.c3, by rw [hcc _ (by omega)]; exact h.c4, by rw [hcc _ (by omega)]; exact h.c5, by rw [hcc _ (by omega)]; exact h.c6, by rw [hcc _ (by omega)]; exact h.c7, by rw [hcc _ (by omega)]; exact h.c8, World.cell?_setCell_same' _ _ _ (by rw [h.c9]; rfl), by rw [hcc _ (by omega)]; exact h.c10, by rw [hcc _ (by omega)]; exact h.c11, by rw [hcc _ (by omega)]; exact h.c12, by rw [hcc _ (by omega)]; exact h.c13, by rw [hcc _ (by omega)]; exact h.c14, by rw [hcc _ (by omega)]; exact h.c15⟩
theorem map_cut {α β : Type} (u : α → β) : ∀ (l r : List α) (a : α), ((l ++ a :: r).map u).take l.length ++ ((l ++ a :: r).map u).drop (l.length + 1) = (l ++ r).map u
  | [], r, a => by simp
  | x :: l, r, a => by
    have := map_cut u l r a
    simp only [List.cons_append, List.map_cons, List.length_cons, List.take_succ_cons, List.drop_succ_cons]
    rw [this]
/-- What Remove answers. -/
def remR (p : Pace.PS) (f : Int) : Int :=
  match lookI p.st.fl f with
  | none => 5
  | some _ => 0
def remP (p : Pace.PS) (f : Int) : Pace.PS :=
  match lookI p.st.fl f with
  | none => p
  | some x => p.remove x.num
def remL (p : Pace.PS) (f : Int) : List (Int × Nat) :=
  match lookI p.st.fl f with
  | none => []
  | some x => x.pk
/-- A list of packets that was made behind n0. -/
structure PL (w : World) (n0 : Nat) (N : Nat → Prop) (l : List (Int × Nat)) (v : Value) : Prop where
  row : w.ownsRow n0 87 2 v l.length (pkC l)
  nn : ∀ g, v.ownBlock = some g → N g
theorem pa_remove {w : World} {b : Nat} {y : Lay} {p : Pace.PS} {c : Cn} (h : PA w b y p c) (hnw : p.newest < 8000000000000000000) (hc : c.dropped < 8000000000000000000) (f : Int) :
    Calls Tryz.prog 33 #[.pointer (some ⟨b, 0, none⟩), .int .i64 f] w fun e w' => ∃ v, e = .returned (.tuple #[v, .int .i64 (remR p f)]) ∧ ∃ y', PA w' b y' (remP p f) { c with dropped := c.dropped + (remL p f).length } ∧ Stp w w' y y' ∧ PL w' w.heap.size (fun k => y'.tag k = .none) (remL p f) v := by
  have hPA := h
  obtain ⟨P, hM, hI, hS, hSh⟩ := h
  have hV := pm_live hM hI.few f
  have hnd := hI.pi.wf.nums
  have h80 : P.length ≤ 80 := short80 hS.inv.pi hSh hI.few
  cases hl : lookI p.st.fl f with
  | none =>
    have hR : remR p f = 5 ∧ remP p f = p ∧ remL p f = [] := by unfold remR remP remL; rw [hl]; exact ⟨rfl, rfl, rfl⟩
    unfold lookI at hl
    rw [hl] at hV
    refine (remove_none b f w hV).mono ?_
    rintro e w' ⟨rfl, rfl⟩
    rw [hR.1, hR.2.1, hR.2.2]
    refine ⟨_, rfl, y, hPA.kept (O := fun _ => False) ((Fr.refl _ _).alloc _) (fun _ _ q => q), ⟨((Fr.refl _ _).alloc _), fun _ _ e => e⟩, ⟨World.ownsRow_nil _ _ _ _, fun g hg => by cases hg⟩⟩
  | some x =>
    obtain ⟨hx, hxf, hlk, hft⟩ := lookI_some hl hnd
    have hR : remR p f = 0 ∧ remP p f = p.remove x.num ∧ remL p f = x.pk := by unfold remR remP remL; rw [hl]; exact ⟨rfl, rfl, rfl⟩
    unfold lookI at hl
    rw [hl] at hV
    have hV : Calls Tryz.prog 68 #[.pointer (some ⟨b, 0, none⟩), .int .i64 f] w fun e w' => w' = w ∧ e = .returned (liveV (some (y.B x.num))) := hV
    obtain ⟨h1, h2, h3, h4⟩ := hM.at_flow hlk
    have hFx := hI.pi.wf.F x hx
    have hfew := hI.few
    have hbl : b < w.heap.size := hM.lt b hM.ow
    have hxl : y.B x.num < w.heap.size := hM.lt _ (hM.own_of h4 (by simp))
    have hfb : y.fv.ownBlock ≠ some b := fun e => by have := hM.tf b e; rw [hM.tb] at this; cases this
    have hfl : ∀ k m, y.tag k = .flow m → k < w.heap.size := fun k m e => hM.lt k (hM.own_of e (by simp))
    obtain ⟨al, ar, hsp, hgone⟩ := gone_split hnd hx
    obtain ⟨av, cv, hv⟩ := row_len h1.row
    have hpos : 0 < p.st.fl.length := List.length_pos_of_mem hx
    have hkl : al.length < p.st.fl.length := by rw [hsp]; simp
    obtain ⟨gf, capf, hfv, _, hgfl, hgfo, hfc, hfm⟩ := row_shape hM.rf hpos
    have hgft := hM.tf gf hgfo
    generalize hW0 : (w.alloc (.cells #[.pointer (some ⟨y.B x.num, 0, none⟩)] 159)).drewN 1 = W0
    have hfr0 : Fr w W0 (fun _ => False) := by rw [← hW0]; exact ((Fr.refl _ _).alloc _).drewN 1
    have hs0 : W0.heap.size = w.heap.size + 1 := by rw [← hW0]; show (w.alloc _).heap.size = _; simp
    have hz0 : W0.heap[w.heap.size]? = some (.cells #[.pointer (some ⟨y.B x.num, 0, none⟩)] 159) := by rw [← hW0]; exact heap_alloc_new _ _
    have hM0 := hM.kept hfr0 (fun _ _ q => q)
    have hb0 : W0.heap[b]? = w.heap[b]? := hfr0.blk b hbl fun q => q
    have hZ0 : ZR w y (y.B x.num) W0 := ⟨by omega, hz0, fun k m e => hfr0.blk k (hfl k m e) fun q => q⟩
    -- what each step leaves
    have K1 : ∀ v1 w1, DP W0 w1 0 159 1 (p.st.fl.length - 1) y.fv v1 ((Pace.gone p.st.fl x.num).map fun f => Value.pointer (some ⟨y.B f.num, 0, none⟩)) → Fr w (w1.setCell ⟨b, 3, none⟩ v1) (fun k => k = b ∨ y.tag k = .rowF) ∧ w1.heap[b]? = w.heap[b]? ∧ ZR w y (y.B x.num) (w1.setCell ⟨b, 3, none⟩ v1) ∧ PB (w1.setCell ⟨b, 3, none⟩ v1) b p.st.q p.st.clock p.newest v1 y.pv y.wb c := by
      rintro v1 w1 ⟨r1, r2, r3, r4⟩
      have hfr1 : Fr w w1 (fun k => y.tag k = .rowF) := (hfr0.weak fun _ _ q => q.elim).trans (World.grownBy.fr r3) fun k _ q => hM.tf k q
      have hb1 : w1.heap[b]? = w.heap[b]? := hfr1.blk b hbl fun q => by rw [hM.tb] at q; cases q
      have hfr1' : Fr w (w1.setCell ⟨b, 3, none⟩ v1) (fun k => k = b ∨ y.tag k = .rowF) := (hfr1.weak fun k _ q => .inr q).trans (ch1 w1 b 3 v1) fun k _ q => .inl q
      refine ⟨hfr1', hb1, ?_, (hM.pb.kept hb1).rows v1⟩
      refine (hZ0.fr (World.grownBy.fr r3) (fun q => ?_) (fun k m e => ⟨hfl k m e, fun q => ?_⟩)).fr (ch1 w1 b 3 v1) (by omega) (fun k m e => ⟨hfl k m e, fun q => ?_⟩)
      · have := (hM.rf.lt _ q).2; omega
      · have := hM.tf k q; rw [e] at this; cases this
      · rw [q, hM.tb] at e; cases e
    have K2 : ∀ v1 w1 p2 w2, DP W0 w1 0 159 1 (p.st.fl.length - 1) y.fv v1 ((Pace.gone p.st.fl x.num).map fun f => Value.pointer (some ⟨y.B f.num, 0, none⟩)) → Fr (w1.setCell ⟨b, 3, none⟩ v1) w2 (fun k => y.pv.ownBlock = some k) → PB w2 b p.st.q p.st.clock p.newest v1 y.pv y.wb c ∧ (∀ o, w2.frozen? ⟨b, o, none⟩ = false) ∧ Fr w (w2.setCell ⟨b, 4, none⟩ p2) (fun k => k = b ∨ y.fv.ownBlock = some k ∨ y.pv.ownBlock = some k) ∧ w2.heap[y.B x.num]? = w.heap[y.B x.num]? := by
      intro v1 w1 p2 w2 hDP hf2
      obtain ⟨k1, k2, k3, k4⟩ := K1 v1 w1 hDP
      obtain ⟨r1, r2, r3, r4⟩ := hDP
      have hs1 := k1.size
      have hb2 : w2.heap[b]? = (w1.setCell ⟨b, 3, none⟩ v1).heap[b]? := hf2.blk b (by omega) (pv_ne_b hM)
      have hfr1 : Fr w w1 (fun k => y.fv.ownBlock = some k) := (hfr0.weak fun _ _ q => q.elim).trans (World.grownBy.fr r3) fun k _ q => q
      refine ⟨k4.kept hb2, fun o => ?_, (((hfr1.weak (O' := fun k => k = b ∨ y.fv.ownBlock = some k ∨ y.pv.ownBlock = some k) fun k _ q => .inr (.inl q)).trans (ch1 w1 b 3 v1) fun k _ q => .inl q).trans hf2 fun k _ q => .inr (.inr q)).trans (ch1 w2 b 4 p2) fun k _ q => .inl q, ?_⟩
      · rw [frozen_of hb2, World.frozen?_setCell, frozen_of k2]; exact hM.fz o
      · refine (hf2.blk _ (by omega) fun q => ?_).trans (k1.blk _ hxl fun q => ?_)
        · have := hM.tp _ q; rw [h4] at this; cases this
        · rcases q with q | q
          · rw [q, hM.tb] at h4; cases h4
          · rw [h4] at q; cases q
    refine (remove_walk b (y.B x.num) y.wb al.length x.pk.length c.dropped f (x.num : Int) y.fv y.pv (y.V x.num) av cv w
      (fun v1 w1 => DP W0 w1 0 159 1 (p.st.fl.length - 1) y.fv v1 ((Pace.gone p.st.fl x.num).map fun f => Value.pointer (some ⟨y.B f.num, 0, none⟩)))
      (fun p2 w2 => ∃ v1 w1, DP W0 w1 0 159 1 (p.st.fl.length - 1) y.fv v1 ((Pace.gone p.st.fl x.num).map fun f => Value.pointer (some ⟨y.B f.num, 0, none⟩)) ∧ (w2.ownsRow 0 161 5 p2 (P.filter fun c => decide (c.flow ≠ x.num)).length (cmdsC y.B (P.filter fun c => decide (c.flow ≠ x.num))) ∧ p2.ownBlock = y.pv.ownBlock ∧ ZR w y (y.B x.num) w2 ∧ Fr (w1.setCell ⟨b, 3, none⟩ v1) w2 (fun k => y.pv.ownBlock = some k)))
      (fun w4 => ∃ v1 w1 p2 w2, DP W0 w1 0 159 1 (p.st.fl.length - 1) y.fv v1 ((Pace.gone p.st.fl x.num).map fun f => Value.pointer (some ⟨y.B f.num, 0, none⟩)) ∧ (w2.ownsRow 0 161 5 p2 (P.filter fun c => decide (c.flow ≠ x.num)).length (cmdsC y.B (P.filter fun c => decide (c.flow ≠ x.num))) ∧ p2.ownBlock = y.pv.ownBlock ∧ ZR w y (y.B x.num) w2 ∧ Fr (w1.setCell ⟨b, 3, none⟩ v1) w2 (fun k => y.pv.ownBlock = some k)) ∧ Fr (w2.setCell ⟨b, 4, none⟩ p2) w4 y.wo ∧ WA w4 y.wb y.wo y.wn ((Pace.off p.st.A x.num).map fun a => (a.num, a.at')))
      (fun v w' => ∃ y', PA w' b y' (p.remove x.num) { c with dropped := c.dropped + x.pk.length } ∧ Stp w w' y y' ∧ PL w' w.heap.size (fun k => y'.tag k = .none) x.pk v)
      hv hFx.few (by omega) (by omega) (fun e => by rw [← e, hM.tb] at h4; cases h4) hbl hM.pb.c3 hV ?_ ?_ ?_ ?_ ?_ ?_ ?_ ?_).mono ?_
    · rw [hW0]
      have hi0 := index_walk gf capf (p.st.fl.map fun f => y.B f.num) (y.B x.num) al.length W0 (by simpa using hfew) (by rw [hsp]; simp) (fun k hk => by
        rw [hsp]
        intro e
        rw [List.getElem?_map, List.getElem?_append_left hk] at e
        cases hz : al[k]? with
        | none => rw [hz] at e; cases e
        | some z =>
          rw [hz] at e
          have e : y.B z.num = y.B x.num := by simpa using e
          have hzm : z ∈ p.st.fl := by rw [hsp]; exact List.mem_append.2 (.inl (List.mem_of_getElem? hz))
          have ht := hM.tl z hzm
          rw [e, h4] at ht
          injection ht with ht
          have hg' : z ∈ Pace.gone p.st.fl x.num := by rw [hgone]; exact List.mem_append.2 (.inl (List.mem_of_getElem? hz))
          exact (Pace.mem_gone.1 hg').2 ht.symm) (fun k z hk => by
        refine row_get0 hM0.rf hgfo ?_
        rw [List.getElem?_map] at hk ⊢
        cases hz : p.st.fl[k]? with
        | none => rw [hz] at hk; cases hk
        | some f => rw [hz] at hk; simp at hk ⊢; exact hk) (fun z hz => by
        obtain ⟨f', hf', rfl⟩ := List.mem_map.1 hz
        exact ⟨⟨_, (hM0.fl f' hf').c0⟩, (hM0.fl f' hf').fz⟩)
      rw [List.length_map, ← hfv] at hi0
      exact hi0
    · rw [hW0]
      rcases hM0.rf.2 with ⟨q, q2⟩ | ⟨g', cap', cur, q1, q2, q3, q4, q5, q6, q7⟩
      · omega
      · have hd := del53_walk 0 g' p.st.fl.length cap' al.length (al.length + 1) cur _ W0 q3 (Nat.zero_le _) q4 q5 (by simpa using q6) (by simpa using q7) (fun u hu => by obtain ⟨z, _, rfl⟩ := List.mem_map.1 hu; rfl) (by omega) (by omega)
        rw [show ((al.length + 1 : Nat) : Int) = (al.length : Int) + 1 by omega, ← q1] at hd
        refine hd.mono ?_
        rintro e w' ⟨v', rfl, hDP⟩
        refine ⟨v', rfl, ?_⟩
        have e1 : (p.st.fl.map fun f => Value.pointer (some ⟨y.B f.num, 0, none⟩)).take al.length ++ (p.st.fl.map fun f => Value.pointer (some ⟨y.B f.num, 0, none⟩)).drop (al.length + 1) = (Pace.gone p.st.fl x.num).map fun f => Value.pointer (some ⟨y.B f.num, 0, none⟩) := by
          rw [hgone, hsp]
          exact map_cut _ al ar x
        rw [e1, show p.st.fl.length - (al.length + 1 - al.length) = p.st.fl.length - 1 by omega] at hDP
        exact hDP
    · intro v1 w1 hDP
      obtain ⟨k1, k2, k3, k4⟩ := K1 v1 w1 hDP
      obtain ⟨a, cc, hv1⟩ := row_len hDP.1
      have hPB1 := hM.pb.kept k2
      exact ⟨⟨a, _, cc, hv1⟩, ⟨_, hPB1.c3⟩, (frozen_of k2 3).trans (hM.fz 3), hPB1.c4⟩
    · intro v1 w1 hDP
      obtain ⟨k1, k2, k3, k4⟩ := K1 v1 w1 hDP
      refine (pm_delf hM hS.inv.pi h80 hx k1 (fun k q => q) k3).mono ?_
      rintro e w' ⟨v', rfl, hh⟩
      exact ⟨v', rfl, v1, w1, hDP, hh⟩
    · rintro p2 w2 ⟨v1, w1, hDP, a1, a2, a3, a4⟩
      obtain ⟨j1, j2, j3, j4⟩ := K2 v1 w1 p2 w2 hDP a4
      obtain ⟨a, cc, hp2⟩ := row_len a1
      exact ⟨⟨a, _, cc, hp2⟩, ⟨_, j1.c4⟩, j2 4, j1.c5, by rw [heap_cell a3.z]; rfl, (World.cell?_of_block (w := w) (a := ⟨y.B x.num, 0, none⟩) j4).trans h1.c0⟩
    · rintro p2 w2 ⟨v1, w1, hDP, a1, a2, a3, a4⟩
      obtain ⟨j1, j2, j3, j4⟩ := K2 v1 w1 p2 w2 hDP a4
      have hwa := (hM.wa.kept j3 fun k hO q => by
        have := hM.two k hO
        rcases q with q | q | q
        · rw [q, hM.tb] at this; cases this
        · rw [hM.tf k q] at this; cases this
        · rw [hM.tp k q] at this; cases this).kept (O' := fun _ => False) ((Fr.refl _ _).drewN 1) fun _ _ q => q
      have hnx := (hI.le x hx).2
      refine (wa_cancel hwa (x.num : Int) (by omega) (by omega)).mono ?_
      rintro e w4 ⟨rfl, hf4, hw4⟩
      rw [can_off] at hw4
      exact ⟨_, rfl, v1, w1, p2, w2, hDP, ⟨a1, a2, a3, a4⟩, ⟨hf4.os, hf4.tape, hf4.output, hf4.size, hf4.blk⟩, hw4⟩
    · rintro w4 ⟨v1, w1, p2, w2, hDP, ⟨a1, a2, a3, a4⟩, hf4, hw4⟩
      obtain ⟨j1, j2, j3, j4⟩ := K2 v1 w1 p2 w2 hDP a4
      have hs3 := j3.size
      have hzs := a3.sz
      have hs4 : (w2.setCell ⟨b, 4, none⟩ p2).heap.size = w2.heap.size := by simp
      have hb4 : w4.heap[b]? = (w2.setCell ⟨b, 4, none⟩ p2).heap[b]? := hf4.blk b (by omega) fun q => by have := hM.two b q; rw [hM.tb] at this; cases this
      have hPB4 := (j1.pend p2).kept hb4
      have hx4 : w4.heap[y.B x.num]? = w.heap[y.B x.num]? := (hf4.blk _ (by omega) fun q => by have := hM.two _ q; rw [h4] at this; cases this).trans ((Below.heap_setCell _ _ _ _ fun e => by
        have e' : y.B x.num = b := e
        rw [e', hM.tb] at h4; cases h4).trans j4)
      have hz4 : w4.heap[w.heap.size]? = some (.cells #[.pointer (some ⟨y.B x.num, 0, none⟩)] 159) := (hf4.blk _ (by omega) fun q => by have := hM.lt _ (hM.own_of (hM.two _ q) (by simp)); omega).trans ((Below.heap_setCell _ _ _ _ (by show w.heap.size ≠ b; omega)).trans a3.z)
      have hcx : ∀ o, w4.cell? ⟨y.B x.num, o, none⟩ = w.cell? ⟨y.B x.num, o, none⟩ := fun o => World.cell?_of_block (w := w) (a := ⟨y.B x.num, o, none⟩) hx4
      exact ⟨hPB4.c5, by rw [heap_cell hz4]; rfl, by rw [hcx]; exact h1.c0, hPB4.c9, by rw [frozen_of hb4, World.frozen?_setCell]; exact j2 9, by rw [hcx]; exact h1.c5⟩
    · rintro w4 ⟨v1, w1, p2, w2, hDP, ⟨a1, a2, a3, a4⟩, hf4, hw4⟩
      obtain ⟨j1, j2, j3, j4⟩ := K2 v1 w1 p2 w2 hDP a4
      have hs3 := j3.size
      have hs4 : (w2.setCell ⟨b, 4, none⟩ p2).heap.size = w2.heap.size := by simp
      have hb4 : w4.heap[b]? = (w2.setCell ⟨b, 4, none⟩ p2).heap[b]? := hf4.blk b (by omega) fun q => by have := hM.two b q; rw [hM.tb] at this; cases this
      have hPB4 := (j1.pend p2).kept hb4
      rw [show (c.dropped : Int) + (x.pk.length : Int) = ((c.dropped + x.pk.length : Nat) : Int) by omega]
      have hPB5 := hPB4.dropped (c.dropped + x.pk.length)
      have hfr5 : Fr w (w4.setCell ⟨b, 9, none⟩ (.int .i64 ((c.dropped + x.pk.length : Nat) : Int))) (fun k => k = b ∨ y.fv.ownBlock = some k ∨ y.pv.ownBlock = some k ∨ y.wo k) := ((j3.weak (O' := fun k => k = b ∨ y.fv.ownBlock = some k ∨ y.pv.ownBlock = some k ∨ y.wo k) fun k _ q => by
          rcases q with q | q | q
          · exact .inl q
          · exact .inr (.inl q)
          · exact .inr (.inr (.inl q))).trans hf4 fun k _ q => .inr (.inr (.inr q))).trans (ch1 w4 b 9 _) fun k _ q => .inl q
      obtain ⟨r1, r2, r3, r4⟩ := hDP
      -- the two rows at the end
      have hrf5 : (w4.setCell ⟨b, 9, none⟩ (.int .i64 ((c.dropped + x.pk.length : Nat) : Int))).ownsRow 0 159 1 v1 (Pace.gone p.st.fl x.num).length ((Pace.gone p.st.fl x.num).map fun f => Value.pointer (some ⟨y.B f.num, 0, none⟩)) := by
        have el : (Pace.gone p.st.fl x.num).length = p.st.fl.length - 1 := by rw [hgone, hsp]; simp
        rw [el]
        refine row_kept0 r1 fun g hg => ?_
        rw [r2] at hg
        have hgt := hM.tf g hg
        have hgl := (hM.rf.lt g hg).2
        have hgb : g ≠ b := fun e => by rw [e, hM.tb] at hgt; cases hgt
        have hw1 : w.heap.size ≤ w1.heap.size := by have : w1.heap.size = W0.heap.size := r4; omega
        have hs2 := a4.size
        have hs1' : (w1.setCell ⟨b, 3, none⟩ v1).heap.size = w1.heap.size := by simp
        rw [Below.heap_setCell _ _ _ _ hgb, hf4.blk g (by omega) (fun q => by have := hM.two g q; rw [hgt] at this; cases this), Below.heap_setCell _ _ _ _ hgb, a4.blk g (by omega) (fun q => by have := hM.tp g q; rw [hgt] at this; cases this), Below.heap_setCell _ _ _ _ hgb]
      have hrp5 : (w4.setCell ⟨b, 9, none⟩ (.int .i64 ((c.dropped + x.pk.length : Nat) : Int))).ownsRow 0 161 5 p2 (P.filter fun c => decide (c.flow ≠ x.num)).length (cmdsC y.B (P.filter fun c => decide (c.flow ≠ x.num))) := by
        refine row_kept0 a1 fun g hg => ?_
        rw [a2] at hg
        have hgt := hM.tp g hg
        have hgl := (hM.rp.lt g hg).2
        have hgb : g ≠ b := fun e => by rw [e, hM.tb] at hgt; cases hgt
        rw [Below.heap_setCell _ _ _ _ hgb, hf4.blk g (by omega) (fun q => by have := hM.two g q; rw [hgt] at this; cases this), Below.heap_setCell _ _ _ _ hgb]
      have hwa5 := hw4.kept (ch1 w4 b 9 (.int .i64 ((c.dropped + x.pk.length : Nat) : Int))) fun k hO q => by have := hM.two k hO; rw [q, hM.tb] at this; cases this
      obtain ⟨y', hP', hs'⟩ := hM.gone (n := x.num) (P' := P.filter fun c => decide (c.flow ≠ x.num)) hfr5 (fun o => by rw [World.frozen?_setCell, frozen_of hb4, World.frozen?_setCell]; exact j2 o) hPB5 hrf5 r2 hrp5 a2 hwa5
      have hPAe : PA (w4.setCell ⟨b, 9, none⟩ (.int .i64 ((c.dropped + x.pk.length : Nat) : Int))) b y' (p.remove x.num) { c with dropped := c.dropped + x.pk.length } := ⟨_, hP', hI.remove x.num, hS.remove x.num (hI.le x hx).2, hSh.filter _⟩
      generalize (w4.setCell ⟨b, 9, none⟩ (.int .i64 ((c.dropped + x.pk.length : Nat) : Int))) = w5 at hPAe hfr5 hP' hs' ⊢
      have hs5 := hfr5.size
      have hend : ∀ v w', w5.grownBy w' none → (w'.ownsRow w5.heap.size 87 2 v x.pk.length (pkC x.pk) ∨ (v = .slice none 0 0 ∧ x.pk = [])) → ∃ y', PA w' b y' (p.remove x.num) { c with dropped := c.dropped + x.pk.length } ∧ Stp w w' y y' ∧ PL w' w.heap.size (fun k => y'.tag k = .none) x.pk v := by
        intro v w' hg hrow
        have hff : Fr w5 w' (fun _ => False) := (World.grownBy.fr hg).weak fun k _ q => by cases q
        refine ⟨y', hPAe.kept hff (fun _ _ q => q), hs'.stp.trans ⟨hff.weak fun _ _ q => q.elim, fun _ _ e => e⟩, ?_⟩
        rcases hrow with q | ⟨q1, q2⟩
        · refine ⟨⟨q.1, ?_⟩, fun g hg' => Classical.byContradiction fun hne => ?_⟩
          · rcases q.2 with q' | ⟨g, cap, cur, z1, z2, z3⟩
            · exact .inl q'
            · exact .inr ⟨g, cap, cur, z1, by omega, z3⟩
          · have := hP'.lt g hne
            have := (q.lt g hg').1
            omega
        · rw [q2, q1]
          exact ⟨World.ownsRow_nil _ _ _ _, fun g hg' => by cases hg'⟩
      have hgrow0 : w5.grownBy (w5.drewN 1) none := ⟨rfl, rfl, rfl, Nat.le_refl _, fun _ _ _ => rfl⟩
      rcases h1.row.2 with ⟨q1, q2⟩ | ⟨g, cap, cur, q1, q2, q3, q4, q5, q6, q7⟩
      · rw [q1]
        refine (clone_nil (w5.drewN 1)).mono ?_
        rintro e w' ⟨rfl, rfl⟩
        exact ⟨_, rfl, hend _ _ hgrow0 (.inr ⟨rfl, List.length_eq_zero_iff.1 q2⟩)⟩
      · rw [q1]
        have hgo : (y.V x.num).ownBlock = some g := by rw [q1]; rfl
        have hgt : y.tag g = .pk x.num := hM.tk x hx g hgo
        have hgl := (h1.row.lt g hgo).2
        refine (clone_walk g x.pk.length cap (pkC x.pk) (w5.drewN 1) hFx.few (pkC_length _) (pkC_one _) (fun j u hu => ?_)).mono ?_
        · have := row_get0 h1.row hgo hu
          refine (World.cell?_of_block (w := w) (a := ⟨g, j, none⟩) (w' := w5.drewN 1) (hfr5.blk g hgl fun q => ?_)).trans this
          rcases q with q | q | q | q
          · rw [q, hM.tb] at hgt; cases hgt
          · rw [hM.tf g q] at hgt; cases hgt
          · rw [hM.tp g q] at hgt; cases hgt
          · rw [hM.two g q] at hgt; cases hgt
        · rintro e w' ⟨v, rfl, k1, k2⟩
          exact ⟨v, rfl, hend _ _ ⟨k2.os, k2.tape, k2.output, k2.size, k2.block⟩ (.inl k1)⟩
    · rintro e w' ⟨v, rfl, hh⟩
      rw [hR.1, hR.2.1, hR.2.2]
      exact ⟨v, rfl, hh⟩
end Go.Proofs.YtogdekjklbbbiaaGreatDoor
