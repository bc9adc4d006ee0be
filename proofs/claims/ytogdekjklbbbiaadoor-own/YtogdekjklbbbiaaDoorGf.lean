import Derived.Test.YtogdekjklbbbiaaDoorGd
import Derived.Test.YtogdekjklbbbiaaDoorLd
import Derived.Test.YtogdekjklbbbiaaDoorOge
set_option maxRecDepth 100000
namespace Go.Proofs.YtogdekjklbbbiaaDoor
open Go.ChangeShapes Go.WideShapes Go.ChangeAt Go.RowKit
set_option linter.unusedSimpArgs false
set_option linter.unusedVariables false

/-- What a command makes of a pacer. -/
noncomputable def stP (o : OpV) (p : Pace.PS) : Pace.PS :=
  if o.k = 1 then addP p o.a o.b else if o.k = 2 then setP p o.a o.b o.c else if o.k = 3 then enqP p o.a o.b o.c else if o.k = 4 then remP p o.a else if o.k = 5 then (if o.a ≤ 4000000000000000000 then (p.poll o.a.toNat o.b.toNat).2 else p) else p
noncomputable def stC (o : OpV) (p : Pace.PS) (c : Cn) : Cn :=
  if o.k = 3 then enqC p o.a o.c c else if o.k = 4 then { c with dropped := c.dropped + (remL p o.a).length } else if o.k = 5 then (if o.a ≤ 4000000000000000000 then { c with sent := c.sent + total (p.poll o.a.toNat o.b.toNat).1 } else c) else c
theorem remL_len {p : Pace.PS} (hI : p.Inv) (f : Int) : (remL p f).length ≤ 8 := by
  unfold remL
  split
  · exact Nat.zero_le _
  · rename_i x hx
    exact (hI.pi.wf.F x (lookI_some hx hI.pi.wf.nums).1).few
theorem Bd.step {p : Pace.PS} {c : Cn} {k : Nat} (h : Bd p c k) (hI : p.Inv) (o : OpV) : Bd (stP o p) (stC o p c) (k + 1) := by
  have h1 := h.nw; have h2 := h.tk; have h3 := h.rf; have h4 := h.sn; have h5 := h.dr
  unfold stP stC
  by_cases k1 : o.k = 1
  · rw [if_pos k1, if_neg (by omega), if_neg (by omega), if_neg (by omega)]
    refine ⟨?_, by omega, by omega, by omega, by omega⟩
    unfold addP
    split
    · show p.newest + 1 ≤ k + 1; omega
    · omega
  rw [if_neg k1]
  by_cases k2 : o.k = 2
  · rw [if_pos k2, if_neg (by omega), if_neg (by omega), if_neg (by omega)]
    refine ⟨?_, by omega, by omega, by omega, by omega⟩
    unfold setP
    split
    · show p.newest ≤ k + 1; omega
    · omega
  rw [if_neg k2]
  by_cases k3 : o.k = 3
  · rw [if_pos k3, if_pos k3]
    unfold enqP enqC
    split
    · exact ⟨by show p.newest ≤ k + 1; omega, by show c.taken + 1 ≤ k + 1; omega, by show c.refused ≤ k + 1; omega, by show c.sent ≤ 64 * (k + 1); omega, by show c.dropped ≤ 8 * (k + 1); omega⟩
    · exact ⟨by show p.newest ≤ k + 1; omega, by show c.taken ≤ k + 1; omega, by show c.refused + 1 ≤ k + 1; omega, by show c.sent ≤ 64 * (k + 1); omega, by show c.dropped ≤ 8 * (k + 1); omega⟩
  rw [if_neg k3, if_neg k3]
  by_cases k4 : o.k = 4
  · rw [if_pos k4, if_pos k4]
    have := remL_len hI o.a
    refine ⟨?_, by show c.taken ≤ k + 1; omega, by show c.refused ≤ k + 1; omega, by show c.sent ≤ 64 * (k + 1); omega, by show c.dropped + _ ≤ 8 * (k + 1); omega⟩
    unfold remP
    split
    · omega
    · show p.newest ≤ k + 1; omega
  rw [if_neg k4, if_neg k4]
  by_cases k5 : o.k = 5
  · rw [if_pos k5, if_pos k5]
    split
    · have ht := poll_len hI (now := o.a.toNat) (by omega) o.b.toNat
      exact ⟨Nat.le_trans h1 (by omega), by show c.taken ≤ k + 1; omega, by show c.refused ≤ k + 1; omega, by show c.sent + _ ≤ 64 * (k + 1); omega, by show c.dropped ≤ 8 * (k + 1); omega⟩
    · exact ⟨by omega, by omega, by omega, by omega, by omega⟩
  rw [if_neg k5, if_neg k5]
  exact ⟨by omega, by omega, by omega, by omega, by omega⟩
/-- A Poll at any time. -/
noncomputable def pollB (o : OpV) (p : Pace.PS) : List Bt := if o.a ≤ 4000000000000000000 then (p.poll o.a.toNat o.b.toNat).1 else []
theorem pa_polls {w : World} {b : Nat} {y : Lay} {p : Pace.PS} {c : Cn} (h : PA w b y p c) (hT : TabW w) (hnw : p.newest < 9000000000000000000) (hc : c.sent < 8000000000000000000) (o : OpV) (h5 : o.k = 5) :
    Calls Tryd.prog 25 #[.pointer (some ⟨b, 0, none⟩), .int .i64 o.a, .int .i64 o.b] w fun e w' => ∃ v er, e = .returned (.tuple #[v, .int .i64 er]) ∧ ∃ n0 y', PA w' b y' (stP o p) (stC o p c) ∧ BAi w' n0 (fun k => y'.tag k = .none) ((pollB o p).map up) v ∧ Stp w w' y y' ∧ w.heap.size ≤ n0 := by
  by_cases hn : o.a ≤ 4000000000000000000
  · refine (pa_poll h hT hnw hc o.a o.b hn).mono ?_
    rintro e w' ⟨v, rfl, n0, y', hP, hB, hs, hn0⟩
    refine ⟨v, _, rfl, n0, y', ?_, ?_, hs, hn0⟩
    · simpa [stP, stC, h5, hn] using hP
    · simpa [pollB, hn] using hB.up
  · refine (pa_poll_bad h o.a o.b (by omega)).mono ?_
    rintro e w' ⟨rfl, rfl⟩
    refine ⟨_, _, rfl, w'.heap.size, y, ?_, ?_, Stp.refl _ _, Nat.le_refl _⟩
    · simpa [stP, stC, h5, hn] using h
    · simp only [pollB, if_neg hn, List.map_nil]
      exact ⟨⟨[], World.ownsRow_nil _ _ _ _, .nil⟩, fun g hg => by cases hg⟩
theorem sent_few {s : Pace.St} (h : Pace.PI s []) (n : Nat) : ∀ q ∈ (Pace.rel n s).1, q.2.2.length ≤ 8 := by
  induction n generalizing s with
  | zero => intro q hq; cases hq
  | succ n ih =>
    unfold Pace.rel
    split
    · intro q hq; cases hq
    · rename_i a e
      obtain ⟨q1, q2⟩ := Pace.due_some e
      obtain ⟨x, hx, hxn, hlx, hk, hk2, hgot, hsent, hfl, h'⟩ := h.send (Pace.best_some q1).1 q2
      intro q hq
      rcases List.mem_cons.1 hq with rfl | hq
      · rw [hsent]
        have := (h.wf.F x hx).few
        show (x.pk.take a.k).length ≤ 8
        rw [List.length_take]; omega
      · exact ih h' q hq
theorem pollB_few {p : Pace.PS} (hI : p.Inv) (o : OpV) : ((pollB o p).map up).length ≤ 64 ∧ ∀ q ∈ (pollB o p).map up, q.2.2.length ≤ 8 := by
  unfold pollB
  split
  · rename_i hn
    have ht := poll_len hI (now := o.a.toNat) (by omega) o.b.toNat
    refine ⟨by rw [List.length_map]; exact ht.1, fun q hq => ?_⟩
    obtain ⟨z, hz, rfl⟩ := List.mem_map.1 hq
    exact sent_few ((hI.pi.tick (by omega)).admit) o.b.toNat z hz
  · exact ⟨Nat.zero_le _, fun q hq => by cases hq⟩
theorem clB_few {p : Pace.PS} (hI : p.Inv) : (clB p.st.fl).length ≤ 64 ∧ ∀ q ∈ clB p.st.fl, q.2.2.length ≤ 8 := by
  refine ⟨?_, fun q hq => ?_⟩
  · have := clB_len p.st.fl
    have := hI.few
    omega
  · obtain ⟨f, hf, h2⟩ := List.mem_flatMap.1 hq
    split at h2
    · cases h2
    · rw [List.mem_singleton] at h2
      subst h2
      exact (hI.pi.wf.F f hf).few
set_option maxHeartbeats 1000000 in
/-- Own, all but the row. -/
theorem own_any (q : Int) (sa : Option Addr) (n cp : Nat) (w : World) (hz : 0 < w.heap.size) (hT : TabW w) (hb : n < 8796093022208) (hsa : 0 < n → ∃ g o, sa = some ⟨g, o, none⟩) (op : Nat → OpV)
    (hC : ∀ k, k < n → ∀ g o, sa = some ⟨g, o, none⟩ → w.cell? ⟨g, o + k * 6, none⟩ = some (.int .i64 (op k).k) ∧ w.cell? ⟨g, o + k * 6 + 1, none⟩ = some (.int .i64 (op k).a) ∧ w.cell? ⟨g, o + k * 6 + 2, none⟩ = some (.int .i64 (op k).b) ∧ w.cell? ⟨g, o + k * 6 + 3, none⟩ = some (.int .i64 (op k).c) ∧ w.cell? ⟨g, o + k * 6 + 4, none⟩ = some (.int .i64 (op k).w) ∧ w.cell? ⟨g, o + k * 6 + 5, none⟩ = some (.slice (op k).sa (op k).sn (op k).sc)) :
    Calls Tryd.prog 8 #[.int .i64 q, .slice sa n cp] w fun e w' => e = .returned (.bool true) ∧ Fr w w' (fun _ => False) := by
  have hTr : ∀ {wr : World}, Fr w wr (fun _ => False) → TabW wr := fun hf => hT.fr hf (fun q => q) hz
  have hkeep : ∀ {wr w' : World} {y y' : Lay} (o : Obj), (∀ k, y.own k → k < wr.heap.size) → Stp (wr.alloc o) w' y y' → w'.heap[wr.heap.size]? = some o := fun {wr w' y y'} o hlt hs => by
    rw [hs.fr.blk wr.heap.size (by simp) fun q => by have := hlt _ q; omega]
    exact heap_alloc_new _ _
  have halloc : ∀ {wr : World} {a b : Nat} {ya yb : Lay} {pa pb : Pace.PS} {ca cb : Cn} (o : Obj), D2 w wr a b ya yb pa pb ca cb → D2 w (wr.alloc o) a b ya yb pa pb ca cb := fun {wr a b ya yb pa pb ca cb} o h => h.touch (O := fun _ => False) ((Fr.refl wr _).alloc o) (fun _ q => q.elim)
  refine own_walk q sa n cp w hb hsa op (fun w1 => Fr w w1 (fun _ => False)) (fun w1 => Fr w w1 (fun _ => False) ∧ (q < 1500 ∨ 1000000 < q)) (fun a w1 => 1500 ≤ q ∧ q ≤ 1000000 ∧ PX w (Pace.PS.new q.toNat) ⟨0, 0, 0, 0, 0, 0⟩ a w1)
    (fun a b k wr => k ≤ n ∧ ∃ p c ya yb, D2 w wr a b ya yb p p c c ∧ Bd p c k)
    (fun a b k wr => k < n ∧ ∃ p c ya yb, D2 w wr a b ya yb (stP (op k) p) p (stC (op k) p c) c ∧ Bd p c k)
    (fun a b k v wr => k < n ∧ ∃ p c ya yb, D2 w wr a b ya yb (stP (op k) p) p (stC (op k) p c) c ∧ Bd p c k ∧ ∃ n0, PL wr n0 (fun k => ¬ ya.own k ∧ ¬ yb.own k) (remL p (op k).a) v ∧ w.heap.size ≤ n0)
    (fun a b k v wr => k < n ∧ ∃ p c ya yb, D2 w wr a b ya yb (stP (op k) p) p (stC (op k) p c) c ∧ Bd p c k ∧ ∃ n0, BAi wr n0 (fun k => ¬ ya.own k ∧ ¬ yb.own k) ((pollB (op k) p).map up) v ∧ w.heap.size ≤ n0)
    (fun a b k v u wr => k < n ∧ ∃ p c ya yb, D2 w wr a b ya yb p p c c ∧ Bd p c (k + 1) ∧ ∃ l n0 n1, l.length ≤ 8 ∧ PL wr n0 (fun k => ¬ ya.own k ∧ ¬ yb.own k ∧ k < n1) l v ∧ PL wr n1 (fun _ => True) l u ∧ w.heap.size ≤ n0)
    (fun a b k v u wr => k < n ∧ ∃ p c ya yb, D2 w wr a b ya yb p p c c ∧ Bd p c (k + 1) ∧ ∃ bs n0 n1, bs.length ≤ 64 ∧ (∀ q ∈ bs, q.2.2.length ≤ 8) ∧ BAi wr n0 (fun k => ¬ ya.own k ∧ ¬ yb.own k ∧ k < n1) bs v ∧ BAi wr n1 (fun k => n1 ≤ k) bs u ∧ w.heap.size ≤ n0)
    (fun a b v wr => ∃ p c yb, PA wr b yb p c ∧ Fr w wr (fun _ => False) ∧ (∀ k, yb.own k → w.heap.size ≤ k) ∧ c.dropped < 8000000000000000000 ∧ ∃ n0, BAi wr n0 (fun k => ¬ yb.own k) (clB p.st.fl) v ∧ w.heap.size ≤ n0)
    (fun a b v u wr => Fr w wr (fun _ => False) ∧ ∃ bs n0 n1, bs.length ≤ 64 ∧ (∀ q ∈ bs, q.2.2.length ≤ 8) ∧ BAi wr n0 (fun k => k < n1) bs v ∧ BAi wr n1 (fun k => n1 ≤ k) bs u ∧ w.heap.size ≤ n0)
    (fun w' => Fr w w' (fun _ => False)) (alive_any w hz hT) ?_ ?_ ?_ ?_ ?_ ?_ ?_ ?_ ?_ ?_ ?_ ?_ ?_ ?_ ?_ ?_ ?_ ?_ ?_ ?_ ?_
  -- New
  · intro w1 hf
    by_cases hq : q < 1500 ∨ 1000000 < q
    · refine (new_bad q w1 hq).mono ?_
      rintro e w' ⟨rfl, rfl⟩
      exact .inl ⟨rfl, hq, hf, hq⟩
    · refine (PX.new hf hz q (by omega) (by omega)).mono ?_
      rintro e w' ⟨b, rfl, hP⟩
      exact .inr ⟨b, rfl, by omega, by omega, hP⟩
  · rintro w1 ⟨hf, hq⟩
    refine (new_bad q w1 hq).mono ?_
    rintro e w' ⟨rfl, rfl⟩
    exact ⟨rfl, hf⟩
  · rintro a w1 ⟨h1, h2, ya, hP, hf, hy⟩
    have hs := hf.size
    refine (pa_new w1 (by omega) q h1 h2).mono ?_
    rintro e w' ⟨b, yb, rfl, hPb, hfr, hyb⟩
    refine ⟨b, rfl, Nat.zero_le _, _, _, ya, yb, ⟨hP.kept hfr (fun _ _ q => q), hPb, hf.trans hfr (fun _ _ q => q), hy, fun k hk => Nat.le_trans hs (hyb k hk), fun k h1 h2 => ?_⟩, ⟨Nat.le_refl _, Nat.le_refl _, Nat.le_refl _, Nat.le_refl _, Nat.le_refl _⟩⟩
    have := hP.olt k h1
    have := hyb k h2
    omega
  -- the script's cells
  · rintro a b k wr ⟨_, p, c, ya, yb, hD, hB⟩ hk g o e
    have hcell := hC k hk g o e
    have hg : g < w.heap.size := World.block_lt_of_cell? _ _ hcell.1
    have hs : ∀ j, wr.cell? ⟨g, j, none⟩ = w.cell? ⟨g, j, none⟩ := fun j => World.cell?_of_block (w := w) (a := ⟨g, j, none⟩) (hD.fr.blk g hg fun q => q)
    rw [hs, hs, hs, hs, hs, hs]
    exact hcell
  -- Add
  · rintro a b k wr ⟨_, p, c, ya, yb, hD, hB⟩ hk h1
    have hDa := halloc (op k).obj hD
    refine (pa_addR hDa.ha (by have := hB.nw; omega) (op k).a (op k).b).mono ?_
    rintro e w' ⟨rfl, y', hP', hs⟩
    refine ⟨_, _, rfl, ⟨hk, p, c, y', yb, ?_, hB⟩, hkeep _ hD.ha.olt hs⟩
    have e1 : stP (op k) p = addP p (op k).a (op k).b := by simp [stP, h1]
    have e2 : stC (op k) p c = c := by simp [stC, h1]
    rw [e1, e2]
    exact hDa.left hP' hs
  · rintro a b k wr ⟨_, p, c, ya, yb, hD, hB⟩ hk h1
    refine (pa_addR hD.hb (by have := hB.nw; omega) (op k).a (op k).b).mono ?_
    rintro e w' ⟨rfl, y', hP', hs⟩
    have e1 : stP (op k) p = addP p (op k).a (op k).b := by simp [stP, h1]
    have e2 : stC (op k) p c = c := by simp [stC, h1]
    refine ⟨_, _, rfl, by omega, stP (op k) p, stC (op k) p c, ya, y', ?_, hB.step hD.hb.inv (op k)⟩
    refine hD.right ?_ hs
    rw [e1, e2]; exact hP'
  -- Set
  · rintro a b k wr ⟨_, p, c, ya, yb, hD, hB⟩ hk h1
    have hDa := halloc (op k).obj hD
    refine (pa_set hDa.ha (op k).a (op k).b (op k).c).mono ?_
    rintro e w' ⟨rfl, y', hP', hs⟩
    refine ⟨_, rfl, ⟨hk, p, c, y', yb, ?_, hB⟩, hkeep _ hD.ha.olt hs⟩
    have e1 : stP (op k) p = setP p (op k).a (op k).b (op k).c := by simp [stP, h1]
    have e2 : stC (op k) p c = c := by simp [stC, h1]
    rw [e1, e2]
    exact hDa.left hP' hs
  · rintro a b k wr ⟨_, p, c, ya, yb, hD, hB⟩ hk h1
    refine (pa_set hD.hb (op k).a (op k).b (op k).c).mono ?_
    rintro e w' ⟨rfl, y', hP', hs⟩
    have e1 : stP (op k) p = setP p (op k).a (op k).b (op k).c := by simp [stP, h1]
    have e2 : stC (op k) p c = c := by simp [stC, h1]
    refine ⟨_, rfl, by omega, stP (op k) p, stC (op k) p c, ya, y', ?_, hB.step hD.hb.inv (op k)⟩
    refine hD.right ?_ hs
    rw [e1, e2]; exact hP'
  -- Enqueue
  · rintro a b k wr ⟨_, p, c, ya, yb, hD, hB⟩ hk h1
    have hDa := halloc (op k).obj hD
    refine (pa_enq hDa.ha (by have := hB.rf; omega) (by have := hB.tk; omega) (op k).a (op k).b (op k).c).mono ?_
    rintro e w' ⟨rfl, y', hP', hs⟩
    refine ⟨_, rfl, ⟨hk, p, c, y', yb, ?_, hB⟩, hkeep _ hD.ha.olt hs⟩
    have e1 : stP (op k) p = enqP p (op k).a (op k).b (op k).c := by simp [stP, h1]
    have e2 : stC (op k) p c = enqC p (op k).a (op k).c c := by simp [stC, h1]
    rw [e1, e2]
    exact hDa.left hP' hs
  · rintro a b k wr ⟨_, p, c, ya, yb, hD, hB⟩ hk h1
    refine (pa_enq hD.hb (by have := hB.rf; omega) (by have := hB.tk; omega) (op k).a (op k).b (op k).c).mono ?_
    rintro e w' ⟨rfl, y', hP', hs⟩
    have e1 : stP (op k) p = enqP p (op k).a (op k).b (op k).c := by simp [stP, h1]
    have e2 : stC (op k) p c = enqC p (op k).a (op k).c c := by simp [stC, h1]
    refine ⟨_, rfl, by omega, stP (op k) p, stC (op k) p c, ya, y', ?_, hB.step hD.hb.inv (op k)⟩
    refine hD.right ?_ hs
    rw [e1, e2]; exact hP'
  -- Remove
  · rintro a b k wr ⟨_, p, c, ya, yb, hD, hB⟩ hk h1
    have hDa := halloc (op k).obj hD
    have hsz : wr.heap.size ≤ (wr.alloc (op k).obj).heap.size := by simp
    refine (pa_remove hDa.ha (by have := hB.nw; omega) (by have := hB.dr; omega) (op k).a).mono ?_
    rintro e w' ⟨v, rfl, y', hP', hs, hL⟩
    have e1 : stP (op k) p = remP p (op k).a := by simp [stP, h1]
    have e2 : stC (op k) p c = { c with dropped := c.dropped + (remL p (op k).a).length } := by simp [stC, h1]
    refine ⟨v, _, rfl, ⟨hk, p, c, y', yb, ?_, hB, _, ⟨hL.row, fun g hg => ⟨fun q => q (hL.nn g hg), fun q => ?_⟩⟩, ?_⟩, hkeep _ hD.ha.olt hs⟩
    · rw [e1, e2]
      exact hDa.left hP' hs
    · have := hDa.hb.olt g q
      have := (hL.row.lt g hg).1
      omega
    · exact hDa.fr.size
  · rintro a b k v wr ⟨_, p, c, ya, yb, hD, hB, n0, hL, hn0⟩ hk h1
    refine (pa_remove hD.hb (by have := hB.nw; omega) (by have := hB.dr; omega) (op k).a).mono ?_
    rintro e w' ⟨u, rfl, y', hP', hs, hL'⟩
    have e1 : stP (op k) p = remP p (op k).a := by simp [stP, h1]
    have e2 : stC (op k) p c = { c with dropped := c.dropped + (remL p (op k).a).length } := by simp [stC, h1]
    refine ⟨u, _, rfl, hk, stP (op k) p, stC (op k) p c, ya, y', ?_, hB.step hD.hb.inv (op k), remL p (op k).a, n0, wr.heap.size, remL_len hD.hb.inv _, ⟨row_kept0 hL.row fun g hg => ?_, fun g hg => ?_⟩, ⟨hL'.row, fun _ _ => trivial⟩, hn0⟩
    · refine hD.right ?_ hs
      rw [e1, e2]; exact hP'
    · exact hs.fr.blk g (hL.row.lt g hg).2 (hL.nn g hg).2
    · exact ⟨(hL.nn g hg).1, fun q => (hL.nn g hg).2 (hs.own (hL.row.lt g hg).2 q), (hL.row.lt g hg).2⟩
  · rintro a b k v u wr ⟨_, p, c, ya, yb, hD, hB, l, n0, n1, hl, hL, hL', hn0⟩
    obtain ⟨x, z, hx⟩ := row_len hL.row
    obtain ⟨x2, z2, hx2⟩ := row_len hL'.row
    exact ⟨⟨x, _, z, hx⟩, ⟨x2, _, z2, hx2⟩⟩
  · rintro a b k v u wr ⟨_, p, c, ya, yb, hD, hB, l, n0, n1, hl, hL, hL', hn0⟩ hk
    refine (grown_one hL hL' hl fun g hg hg' => ?_).mono ?_
    · have := (hL.nn g hg).2.2
      have := (hL'.row.lt g hg').1
      omega
    · rintro e w' ⟨rfl, hf⟩
      exact ⟨rfl, by omega, p, c, ya, yb, hD.touch hf (fun k hk => ⟨hk.2.1, hk.2.2.1, Nat.le_trans hn0 hk.1⟩), hB⟩
  -- Poll
  · rintro a b k wr ⟨_, p, c, ya, yb, hD, hB⟩ hk h1
    have hDa := halloc (op k).obj hD
    have hsz : wr.heap.size ≤ (wr.alloc (op k).obj).heap.size := by simp
    refine (pa_polls hDa.ha (hTr hDa.fr) (by have := hB.nw; omega) (by have := hB.sn; omega) (op k) h1).mono ?_
    rintro e w' ⟨v, er, rfl, n0, y', hP', hBA, hs, hn0⟩
    refine ⟨v, _, rfl, ⟨hk, p, c, y', yb, hDa.left hP' hs, hB, n0, hBA.imp fun g h1 h2 h3 => ⟨fun q => q h3, fun q => ?_⟩, ?_⟩, hkeep _ hD.ha.olt hs⟩
    · have := hDa.hb.olt g q
      omega
    · exact Nat.le_trans hDa.fr.size hn0
  · rintro a b k v wr ⟨_, p, c, ya, yb, hD, hB, n0, hBA, hn0⟩ hk h1
    refine (pa_polls hD.hb (hTr hD.fr) (by have := hB.nw; omega) (by have := hB.sn; omega) (op k) h1).mono ?_
    rintro e w' ⟨u, er, rfl, n1, y', hP', hBA', hs, hn1⟩
    have hfew := pollB_few hD.hb.inv (op k)
    refine ⟨u, _, rfl, hk, stP (op k) p, stC (op k) p c, ya, y', hD.right hP' hs, hB.step hD.hb.inv (op k), _, n0, n1, hfew.1, hfew.2, ?_, hBA'.imp fun g h1 _ _ => h1, hn0⟩
    exact (hBA.imp (N' := fun k => (¬ ya.own k ∧ ¬ yb.own k) ∧ k < wr.heap.size) fun g _ h2 h3 => ⟨h3, h2⟩).kept hs.fr (fun g _ _ h3 => h3.1.2) (fun g h1 h3 => ⟨h3.1.1, fun q => h3.1.2 (hs.own h1 q), by have := h3.2; omega⟩)
  · rintro a b k v u wr ⟨_, p, c, ya, yb, hD, hB, bs, n0, n1, hl, hl8, hBA, hBA', hn0⟩ hk
    refine (grown_two hBA hBA' hl hl8 fun g h1 h2 => ?_).mono ?_
    · have := h1.2.2; omega
    · rintro e w' ⟨rfl, hf⟩
      exact ⟨rfl, by omega, p, c, ya, yb, hD.touch hf (fun k hk => ⟨hk.2.1, hk.2.2.1, Nat.le_trans hn0 hk.1⟩), hB⟩
  -- another command
  · rintro a b k wr ⟨_, p, c, ya, yb, hD, hB⟩ hk
    have h1 := hB.nw; have h2 := hB.tk; have h3 := hB.rf; have h4 := hB.sn; have h5 := hB.dr
    exact ⟨by omega, p, c, ya, yb, halloc _ hD, ⟨by omega, by omega, by omega, by omega, by omega⟩⟩
  -- Close
  · rintro a b wr ⟨_, p, c, ya, yb, hD, hB⟩
    refine (pa_close hD.ha (by have := hB.dr; omega)).mono ?_
    rintro e w' ⟨v, rfl, hZ, hBA, hs⟩
    refine ⟨v, rfl, p, c, yb, hD.hb.kept hs.fr (fun k hk q => hD.dj k q hk), hD.fr.trans hs.fr (fun k hk q => by have := hD.oa k q; omega), hD.ob, by have := hB.dr; omega, _, hBA.imp fun g h1 _ _ q => ?_, hD.fr.size⟩
    have := hD.hb.olt g q
    omega
  · rintro a b v wr ⟨p, c, yb, hP, hf, hy, hdr, n0, hBA, hn0⟩
    refine (pa_close hP hdr).mono ?_
    rintro e w' ⟨u, rfl, hZ, hBA', hs⟩
    have hfew := clB_few hP.inv
    refine ⟨u, rfl, hf.trans hs.fr (fun k hk q => by have := hy k q; omega), _, n0, wr.heap.size, hfew.1, hfew.2, ?_, hBA'.imp fun g h1 _ _ => h1, hn0⟩
    exact (hBA.imp (N' := fun k => (¬ yb.own k) ∧ k < wr.heap.size) fun g _ h2 h3 => ⟨h3, h2⟩).kept hs.fr (fun g _ _ h3 => h3.1) (fun g h1 h3 => h3.2)
  · rintro a b v u wr ⟨hf, bs, n0, n1, hl, hl8, hBA, hBA', hn0⟩
    refine (grown_two hBA hBA' hl hl8 fun g h1 h2 => by omega).mono ?_
    rintro e w' ⟨rfl, hf'⟩
    exact ⟨rfl, hf.trans hf' fun k hk q => by omega⟩
end Go.Proofs.YtogdekjklbbbiaaDoor
