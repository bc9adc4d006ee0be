import Derived.Test.YtogdekjklbbbiaaGreatDoorPp
set_option maxRecDepth 100000
namespace Go.Proofs.YtogdekjklbbbiaaGreatDoor
open Go.ChangeShapes Go.WideShapes Go.ChangeAt Go.RowKit
set_option linter.unusedSimpArgs false
set_option linter.unusedVariables false

abbrev Bt := Nat × Nat × List (Int × Nat)
def pkAt (w : World) (g o : Nat) (pk : List (Int × Nat)) : Prop := ∀ j u, (pkC pk)[j]? = some u → w.cell? ⟨g, o + j, none⟩ = some u
/-- A batch of a load in memory. -/
def LB (w : World) (n0 : Nat) (N : Nat → Prop) (bv pv : Value) (L : Nat) (px : List Value) (c3 : List Value) (q : Bt) : Prop :=
  ∃ g o, c3 = [.int .i64 (q.1 : Int), .int .i64 (q.2.1 : Int), .slice (some ⟨g, o, none⟩) q.2.2.length q.2.2.length] ∧ n0 ≤ g ∧ g < w.heap.size ∧ N g ∧ g ≠ L ∧ bv.ownBlock ≠ some g ∧
    ((pv.ownBlock = some g ∧ ∀ j u, (pkC q.2.2)[j]? = some u → px[o + j]? = some u) ∨ (pv.ownBlock ≠ some g ∧ pkAt w g o q.2.2))
def total (bs : List Bt) : Nat := (bs.map (·.2.2.length)).sum
structure LDs (w : World) (L n0 : Nat) (N : Nat → Prop) (bs : List Bt) (bv pv : Value) (px : List Value) (cs : List (List Value)) : Prop where
  c0 : w.cell? ⟨L, 0, none⟩ = some bv
  c1 : w.cell? ⟨L, 1, none⟩ = some pv
  fz : ∀ o, w.frozen? ⟨L, o, none⟩ = false
  rb : w.ownsRow n0 85 3 bv bs.length cs.flatten
  rp : w.ownsRow n0 87 2 pv (total bs) px
  bp : ∀ g, bv.ownBlock = some g → pv.ownBlock ≠ some g
  bL : bv.ownBlock ≠ some L
  pL : pv.ownBlock ≠ some L
  nL : N L
  n0L : n0 ≤ L
  nb : ∀ g, bv.ownBlock = some g → N g
  np : ∀ g, pv.ownBlock = some g → N g
  all : Pace.All2 (LB w n0 N bv pv L px) cs bs
def LD (w : World) (L n0 : Nat) (N : Nat → Prop) (bs : List Bt) : Prop := ∃ bv pv px cs, LDs w L n0 N bs bv pv px cs
theorem LDs.ltL {w : World} {L n0 : Nat} {N : Nat → Prop} {bs : List Bt} {bv pv : Value} {px : List Value} {cs : List (List Value)} (h : LDs w L n0 N bs bv pv px cs) : L < w.heap.size := World.block_lt_of_cell? _ _ h.c0
theorem LD.kept {w w' : World} {L n0 : Nat} {N N' : Nat → Prop} {bs : List Bt} (h : LD w L n0 N bs) {O : Nat → Prop} (hf : Fr w w' O) (hO : ∀ k, k < w.heap.size → N k → ¬ O k) (hN : ∀ k, k < w.heap.size → N k → N' k) : LD w' L n0 N' bs := by
  obtain ⟨bv, pv, px, cs, h⟩ := h
  have hL := h.ltL
  have hk : ∀ k, k < w.heap.size → N k → w'.heap[k]? = w.heap[k]? := fun k h1 h2 => hf.blk k h1 (hO k h1 h2)
  have hLk := hk L hL h.nL
  refine ⟨bv, pv, px, cs, ⟨?_, ?_, ?_, ?_, ?_, h.bp, h.bL, h.pL, hN L hL h.nL, h.n0L, ?_, ?_, ?_⟩⟩
  · exact (World.cell?_of_block (w := w) (a := ⟨L, 0, none⟩) hLk).trans h.c0
  · exact (World.cell?_of_block (w := w) (a := ⟨L, 1, none⟩) hLk).trans h.c1
  · exact fun o => (frozen_of hLk o).trans (h.fz o)
  · exact row_kept0 h.rb fun g hg => hk g (h.rb.lt g hg).2 (h.nb g hg)
  · exact row_kept0 h.rp fun g hg => hk g (h.rp.lt g hg).2 (h.np g hg)
  · exact fun g hg => hN g (h.rb.lt g hg).2 (h.nb g hg)
  · exact fun g hg => hN g (h.rp.lt g hg).2 (h.np g hg)
  · refine h.all.mono fun c q hq => ?_
    obtain ⟨g, o, e, h1, h2, h3, h4, h5, h6⟩ := hq
    refine ⟨g, o, e, h1, Nat.lt_of_lt_of_le h2 hf.size, hN g h2 h3, h4, h5, ?_⟩
    rcases h6 with q | ⟨q1, q2⟩
    · exact .inl q
    · refine .inr ⟨q1, fun j u hu => ?_⟩
      exact (World.cell?_of_block (w := w) (a := ⟨g, o + j, none⟩) (hk g h2 h3)).trans (q2 j u hu)
theorem row_get0 {w : World} {n0 e sz n g : Nat} {v : Value} {xs : List Value} (h : w.ownsRow n0 e sz v n xs) (hg : v.ownBlock = some g) {j : Nat} {u : Value} (hu : xs[j]? = some u) : w.cell? ⟨g, j, none⟩ = some u := by
  rcases h.2 with ⟨q, _⟩ | ⟨g', cap, cur, q1, q2, q3, q4, q5, q6, q7⟩
  · rw [q] at hg; cases hg
  · rw [q1] at hg
    simp [Value.ownBlock] at hg
    subst hg
    rw [heap_cell q3, ← hu, ← q7, List.getElem?_take]
    have hlt : j < n * sz := by
      have := (List.getElem?_eq_some_iff.1 hu).1
      rw [h.1] at this; exact this
    rw [if_pos hlt]
    simp
theorem pkC_one (pk : List (Int × Nat)) : ∀ u ∈ pkC pk, u.oneCell' = true := by
  intro u hu
  simp only [pkC, List.mem_flatMap] at hu
  obtain ⟨p, _, hp⟩ := hu
  simp at hp
  rcases hp with rfl | rfl <;> rfl
theorem All2.snoc {α β : Type} {R : α → β → Prop} {l : List α} {m : List β} {a : α} {b : β} (h : Pace.All2 R l m) (hab : R a b) : Pace.All2 R (l ++ [a]) (m ++ [b]) := by
  induction h with
  | nil => exact .cons hab .nil
  | cons q _ ih => exact .cons q ih
/-- A batch is put behind the others. -/
theorem ld_add {w : World} {L n0 : Nat} {N : Nat → Prop} {bs : List Bt} (h : LD w L n0 N bs) (hN : ∀ k, w.heap.size ≤ k → N k) (hn0 : n0 ≤ w.heap.size) (hb : bs.length ≤ 100) (ht : total bs ≤ 1000) (q : Bt) (hm0 : 0 < q.2.2.length) (hm : q.2.2.length ≤ 8) (g c : Nat) (hc : pkAt w g 0 q.2.2) :
    Calls Tryz.prog 116 #[.pointer (some ⟨L, 0, none⟩), .int .i64 (q.1 : Int), .int .i64 (q.2.1 : Int), .slice (some ⟨g, 0, none⟩) q.2.2.length c] w fun e w' => e = .returned (.tuple #[]) ∧ LD w' L n0 N (bs ++ [q]) ∧ Fr w w' (fun k => N k ∧ n0 ≤ k) := by
  obtain ⟨bv, pv, px, cs, h⟩ := h
  refine (ladd_walk L n0 bs.length (total bs) q.2.2.length c (q.1 : Int) (q.2.1 : Int) bv pv cs.flatten px (pkC q.2.2) ⟨g, 0, none⟩ w h.c0 h.c1 h.fz h.rb h.rp hn0 h.bp h.bL h.pL hb ht hm0 hm (pkC_length _) ?_ (pkC_one _)).mono ?_
  · intro j u hu
    have := hc j u hu
    rw [add_lit]
    exact this
  · rintro e w' ⟨rfl, bv', pv', g', c0, c1, hg', rb, rp, k1, k2, k3, k4, k5, o1, o2, o3, o4, fz, blk⟩
    have hpvN : ∀ k, pv'.ownBlock = some k → N k := fun k hk => by
      rcases k1 with q1 | q1
      · exact h.np k (by rw [← q1]; exact hk)
      · rw [hg'] at hk; injection hk with hk; exact hN k (by omega)
    have hbvN : ∀ k, bv'.ownBlock = some k → N k := fun k hk => by
      rcases k2 with q1 | q1
      · exact h.nb k (by rw [← q1]; exact hk)
      · exact hN k (q1 k hk)
    have hg0 : n0 ≤ g' := by
      have := (rp.lt g' hg').1; exact this
    have hgL : g' < w'.heap.size := (rp.lt g' hg').2
    refine ⟨rfl, ⟨bv', pv', px ++ pkC q.2.2, cs ++ [[.int .i64 (q.1 : Int), .int .i64 (q.2.1 : Int), .slice (some ⟨g', total bs * 2, none⟩) q.2.2.length q.2.2.length]], ⟨c0, c1, fz, ?_, ?_, k3, k4, k5, h.nL, h.n0L, hbvN, hpvN, ?_⟩⟩, ⟨o1, o2, o3, o4, ?_⟩⟩
    · have e1 : (bs ++ [q]).length = bs.length + 1 := by simp
      rw [e1, List.flatten_append]
      simpa using rb
    · have e1 : total (bs ++ [q]) = total bs + q.2.2.length := by simp [total]
      rw [e1]; exact rp
    · refine All2.snoc (h.all.mono fun c3 z hz => ?_) ?_
      · obtain ⟨g1, o, e, h1, h2, h3, h4, h5, h6⟩ := hz
        have hb1 : bv'.ownBlock ≠ some g1 := fun hx => by
          rcases k2 with q1 | q1
          · exact h5 (by rw [← q1]; exact hx)
          · have := q1 g1 hx; omega
        refine ⟨g1, o, e, h1, Nat.lt_of_lt_of_le h2 o4, h3, h4, hb1, ?_⟩
        by_cases hpp : pv'.ownBlock = some g1
        · refine .inl ⟨hpp, fun j u hu => ?_⟩
          have hsame : pv.ownBlock = some g1 := by
            rcases k1 with q1 | q1
            · rw [← q1]; exact hpp
            · rw [hg'] at hpp; injection hpp with hpp; omega
          rcases h6 with ⟨_, q2⟩ | ⟨q1, _⟩
          · have hx := q2 j u hu
            rw [List.getElem?_append_left ((List.getElem?_eq_some_iff.1 hx).1)]
            exact hx
          · exact absurd hsame q1
        · refine .inr ⟨hpp, fun j u hu => ?_⟩
          have hblk := blk g1 h2 h4 h5 (fun _ => hpp)
          rw [World.cell?_of_block (w := w) (a := ⟨g1, o + j, none⟩) hblk]
          rcases h6 with ⟨q1, q2⟩ | ⟨_, q2⟩
          · exact row_get0 h.rp q1 (q2 j u hu)
          · exact q2 j u hu
      · refine ⟨g', total bs * 2, rfl, hg0, hgL, hpvN g' hg', fun e => k5 (by rw [hg', e]), fun e => k3 g' e hg', .inl ⟨hg', fun j u hu => ?_⟩⟩
        have hl := h.rp.1
        rw [List.getElem?_append_right (by omega), hl, Nat.add_sub_cancel_left]
        exact hu
    · intro k hk hn
      exact blk k hk (fun e => hn (by rw [e]; exact ⟨h.nL, h.n0L⟩)) (fun e => hn ⟨h.nb k e, (h.rb.lt k e).1⟩) (fun e => absurd ⟨h.np k e, (h.rp.lt k e).1⟩ hn)
/-- A load made anew. -/
theorem ld_new {w w' : World} {L : Nat} {pv : Value} {N : Nat → Prop} (hN : ∀ k, w.heap.size ≤ k → N k) (hg : w.grownBy w' none) (hL : w.heap.size ≤ L) (hh : w'.heap[L]? = some (.cells #[.slice none 0 0, pv] 170)) (hp : w'.ownsRow w.heap.size 87 2 pv 0 []) (hpL : pv.ownBlock ≠ some L) : LD w' L w.heap.size N [] := by
  refine ⟨.slice none 0 0, pv, [], [], ⟨?_, ?_, ?_, ⟨rfl, .inl ⟨rfl, rfl⟩⟩, hp, ?_, ?_, hpL, hN L hL, hL, ?_, ?_, .nil⟩⟩
  · rw [heap_cell hh]; rfl
  · rw [heap_cell hh]; rfl
  · intro o; simp [World.frozen?, hh]
  · intro g hg'; cases hg'
  · intro hg'; cases hg'
  · intro g hg'; cases hg'
  · intro g hg'; exact hN g (hp.lt g hg').1
end Go.Proofs.YtogdekjklbbbiaaGreatDoor

namespace Go.Proofs.YtogdekjklbbbiaaGreatDoor
open Go.ChangeShapes Go.WideShapes Go.ChangeAt Go.RowKit
set_option linter.unusedSimpArgs false
set_option linter.unusedVariables false

theorem World.grownBy.fr {w w' : World} {row : Option Nat} (h : w.grownBy w' row) : Fr w w' (fun k => row = some k) := ⟨h.os, h.tape, h.output, h.size, fun k hk hn => h.block k hk fun e => hn e.symm⟩
theorem GC.fr {w w' : World} {x : Nat} {S : Nat → Prop} (h : GC w w' x S) : Fr w w' (fun k => k = x) := ⟨h.os, h.tape, h.output, h.size, fun k hk hn => h.blk k hk hn⟩
theorem Fr.weak {w w' : World} {O O' : Nat → Prop} (h : Fr w w' O) (hO : ∀ k, k < w.heap.size → O k → O' k) : Fr w w' O' := ⟨h.os, h.tape, h.output, h.size, fun k hk hn => h.blk k hk fun q => hn (hO k hk q)⟩
theorem pkC_drop (l : List (Int × Nat)) : ∀ k, pkC (l.drop k) = (pkC l).drop (k * 2) := by
  induction l with
  | nil => intro k; simp [pkC]
  | cons p l ih =>
    intro k
    cases k with
    | zero => rfl
    | succ k =>
      have e : pkC (p :: l) = .int .i64 p.1 :: .int .i64 (p.2 : Int) :: pkC l := rfl
      rw [List.drop_succ_cons, ih k, e, show (k + 1) * 2 = k * 2 + 1 + 1 by omega, List.drop_succ_cons, List.drop_succ_cons]
theorem pkC_take (l : List (Int × Nat)) : ∀ k, pkC (l.take k) = (pkC l).take (k * 2) := by
  induction l with
  | nil => intro k; simp [pkC]
  | cons p l ih =>
    intro k
    cases k with
    | zero => rfl
    | succ k =>
      have e : ∀ l, pkC (p :: l) = .int .i64 p.1 :: .int .i64 (p.2 : Int) :: pkC l := fun _ => rfl
      rw [List.take_succ_cons, e, ih k, e, show (k + 1) * 2 = k * 2 + 1 + 1 by omega, List.take_succ_cons, List.take_succ_cons]
/-- A step beside a load: what lies below n0 and is not the pacer's stays. -/
structure StepN (n0 : Nat) (w w' : World) (y y' : Lay) : Prop where
  fr : Fr w w' (fun k => y.own k ∨ n0 ≤ k)
  ext : ∀ k, k < w.heap.size → y.tag k = .none → y'.tag k = .none
theorem StepN.trans {n0 : Nat} {a b c : World} {x y z : Lay} (h : StepN n0 a b x y) (k : StepN n0 b c y z) : StepN n0 a c x z :=
  ⟨h.fr.trans k.fr fun n hn q => by
    rcases q with q | q
    · by_cases e : x.tag n = .none
      · exact absurd (h.ext n hn e) q
      · exact .inl e
    · exact .inr q, fun n hn e => k.ext n (Nat.lt_of_lt_of_le hn h.fr.size) (h.ext n hn e)⟩
theorem Step.toN {n0 : Nat} {w w' : World} {y y' : Lay} (h : Step w w' y y') : StepN n0 w w' y y' := ⟨h.fr.weak fun _ _ q => .inl q, h.ext⟩

set_option maxHeartbeats 1000000 in
/-- A flow sends its batch. -/
theorem pm_send {w : World} {b : Nat} {y : Lay} {s : Pace.St} {nw : Nat} {P : List Pace.Cmd} {c : Cn} (h : PM w b y s nw P c) (hnd : (s.fl.map (·.num)).Nodup) {n : Nat} {f : Pace.Fl} (hn : Pace.look s.fl n = some f) (hF : Pace.FOk s.q f) (hck : s.clock ≤ 4000000000000000000)
    {k : Nat} (hbt : y.bt n = k) (hk0 : 0 < k) (hka : k ≤ f.adm) (hby : Pace.bytes (f.pk.take k) * Pace.parts ≤ f.cr) (hnoA : ∀ a ∈ s.A, a.num ≠ n) {L n0 : Nat} {bs : List Bt} (hL : LD w L n0 (fun k => y.tag k = .none) bs) (hn0 : n0 ≤ w.heap.size) (hbl : bs.length ≤ 100) (htl : total bs ≤ 1000) (at' : Nat) :
    Calls Tryz.prog 69 #[.pointer (some ⟨y.B n, 0, none⟩), .int .i64 (at' : Int), .int .i64 (s.clock : Int), .pointer (some ⟨L, 0, none⟩)] w fun e w' => e = .returned (.tuple #[]) ∧ ∃ y', PM w' b y' { s with fl := Pace.upd s.fl n (Pace.sentFl k) } nw P c ∧ LD w' L n0 (fun k => y'.tag k = .none) (bs ++ [(n, at', f.pk.take k)]) ∧ StepN n0 w w' y y' ∧ y'.B = y.B ∧ y'.wb = y.wb ∧ y'.wn = y.wn := by
  obtain ⟨h1, h2, h3, h4⟩ := h.at_flow hn
  obtain ⟨hfm, hfn⟩ := Pace.look_some hn
  have hp := Pace.parts_eq
  have hadm := hF.adm
  have hfew := hF.few
  have hb : f.burst ≤ 1000000 := by rcases hF.burst with ⟨q, _⟩ | ⟨_, q⟩ <;> omega
  have hcr := hF.cr
  rw [hp] at hcr
  rw [hp] at hby
  obtain ⟨g, cap, hv, _, hgl, hvg, hnc, hcm⟩ := row_shape h1.row (by omega)
  have hgx : g ≠ y.B n := fun e => h3 (by rw [hvg, e])
  have hgt : y.tag g = .pk n := by have := h.tk f hfm g (by rw [hfn]; exact hvg); rw [hfn] at this; exact this
  have hxl : y.B n < w.heap.size := h.lt _ (h.own_of h4 (by simp))
  have htk : (f.pk.take k).length = k := by rw [List.length_take]; omega
  generalize hx : y.B n = x at *
  have hvx : (y.V n).ownBlock ≠ some x := h3
  refine (send_walk x L g f.pk.length cap k (n : Int) (at' : Int) (s.clock : Int) f.cr f.adm (f.pk.take k) w
    (fun w1 => Ch w w1 (fun a o => a = x ∧ (o = 3 ∨ o = 4)) ∧ FA w1 x f f.cr s.clock (y.bt n) (y.V n))
    (fun w3 => ∃ w1 w2, (Ch w w1 (fun a o => a = x ∧ (o = 3 ∨ o = 4)) ∧ FA w1 x f f.cr s.clock (y.bt n) (y.V n)) ∧ GC w1 w2 x (fun o => o = 3) ∧ w2.cell? ⟨x, 3, none⟩ = some (.int .i64 ((f.cr - Pace.bytes (f.pk.take k) * 1000000000 : Nat) : Int)) ∧ LD w3 L n0 (fun k => y.tag k = .none) (bs ++ [(n, at', f.pk.take k)]) ∧ Fr w2 w3 (fun k => y.tag k = .none ∧ n0 ≤ k))
    (fun v' w4 => ∃ w3 m, (∃ w1 w2, (Ch w w1 (fun a o => a = x ∧ (o = 3 ∨ o = 4)) ∧ FA w1 x f f.cr s.clock (y.bt n) (y.V n)) ∧ GC w1 w2 x (fun o => o = 3) ∧ w2.cell? ⟨x, 3, none⟩ = some (.int .i64 ((f.cr - Pace.bytes (f.pk.take k) * 1000000000 : Nat) : Int)) ∧ LD w3 L n0 (fun k => y.tag k = .none) (bs ++ [(n, at', f.pk.take k)]) ∧ Fr w2 w3 (fun k => y.tag k = .none ∧ n0 ≤ k)) ∧ DP (w3.drewN m) w4 0 87 2 (f.pk.length - k) (y.V n) v' ((pkC f.pk).take (0 * 2) ++ (pkC f.pk).drop (k * 2)))
    htk (by omega) hk0 (by omega) hnc (by unfold maxLen at hcm; omega) (fun p hp' => (hF.lens p (List.mem_of_mem_take hp')).2) hby (by omega) hka (by omega) (fl_accrue h1 h2 hF hck hvx) ?_ ?_ ?_).mono ?_
  · rintro w1 ⟨hc1, hf1⟩
    have hc0 := hf1.c0
    rw [hfn] at hc0
    have hc7 := hf1.c7
    rw [hbt] at hc7
    refine ⟨hc0, hf1.c3, by rw [← hv]; exact hf1.c5, hf1.c6, hc7, hf1.fz, hgx, by rw [hc1.size]; exact hgl, fun j p hj => ?_⟩
    have hr1 := hf1.row
    rw [hv] at hr1
    have hj' : f.pk[j]? = some p := by
      rw [List.getElem?_take] at hj
      split at hj
      · exact hj
      · cases hj
    exact ⟨row_get hr1 (pkC_get f.pk j p hj').1, row_get hr1 (pkC_get f.pk j p hj').2⟩
  · rintro w1 w2 ⟨hc1, hf1⟩ hG hc3
    have hLd2 : LD w2 L n0 (fun k => y.tag k = .none) bs := by
      refine (hL.kept (O := fun k => k = x) (hc1.fr2 fun a o q => q.1) (fun k _ hk e => ?_) (fun k _ hk => hk)).kept hG.fr (fun k _ hk e => ?_) (fun k _ hk => hk)
      · rw [e, h4] at hk; cases hk
      · rw [e, h4] at hk; cases hk
    have hs12 : w.heap.size ≤ w2.heap.size := by rw [← hc1.size]; exact hG.size
    have hadd := ld_add hLd2 (fun k hk => Classical.byContradiction fun hne => by have := h.lt k hne; omega) (by omega) hbl htl (n, at', f.pk.take k) (by show 0 < (f.pk.take k).length; omega) (by show (f.pk.take k).length ≤ 8; omega) g cap (by
      intro j u hu
      have hu' : (pkC (f.pk.take k))[j]? = some u := hu
      rw [pkC_take, List.getElem?_take] at hu'
      split at hu'
      · have hr1 := row_get0 hf1.row hvg hu'
        rw [Nat.zero_add]
        exact (World.cell?_of_block (w := w1) (a := ⟨g, j, none⟩) (hG.blk g (by rw [hc1.size]; exact hgl) hgx)).trans hr1
      · cases hu')
    have hadd' : Calls Tryz.prog 116 #[.pointer (some ⟨L, 0, none⟩), .int .i64 (n : Int), .int .i64 (at' : Int), .slice (some ⟨g, 0, none⟩) (f.pk.take k).length cap] w2 _ := hadd
    rw [htk] at hadd'
    refine hadd'.mono ?_
    rintro e w3 ⟨rfl, hL3, hfr3⟩
    exact ⟨rfl, ⟨w1, w2, ⟨hc1, hf1⟩, hG, hc3, hL3, hfr3⟩, hfr3.blk x (by omega) fun q => by rw [h4] at q; cases q.1⟩
  · rintro w3 m ⟨w1, w2, ⟨hc1, hf1⟩, hG, hc3, hL3, hfr3⟩
    have hg12 : w1.heap.size ≤ w2.heap.size := hG.size
    have hgw : w3.heap[g]? = w1.heap[g]? := by
      refine (hfr3.blk g (by rw [← hc1.size] at hgl; omega) fun q => by rw [hgt] at q; cases q.1).trans ?_
      exact hG.blk g (by rw [hc1.size]; exact hgl) hgx
    rcases hf1.row.2 with ⟨q, q2⟩ | ⟨g', cap', cur, q1, q2, q3, q4, q5, q6, q7⟩
    · omega
    · rw [hv] at q1
      injection q1 with q1 q1b q1c
      injection q1 with q1
      injection q1 with q1
      subst q1
      subst q1c
      have hd := del96_walk 0 g f.pk.length cap 0 k cur (pkC f.pk) (w3.drewN m) (by show w3.heap[g]? = _; rw [hgw]; exact q3) (Nat.zero_le _) q4 q5 q6 q7 (pkC_one _) hk0 (by omega)
      rw [show ((0 : Nat) : Int) = 0 from rfl] at hd
      refine hd.mono ?_
      rintro e w4 ⟨v', rfl, hDP⟩
      rw [Nat.sub_zero, ← hv] at hDP
      obtain ⟨r1, r2, r3, r4⟩ := hDP
      rcases r1.2 with ⟨z1, _⟩ | ⟨g2, cap2, cur2, z1, z2⟩
      · rw [z1, hvg] at r2; cases r2
      · refine ⟨some ⟨g2, 0, none⟩, cap2, by rw [z1], ⟨w3, m, ⟨w1, w2, ⟨hc1, hf1⟩, hG, hc3, hL3, hfr3⟩, by rw [← z1]; exact ⟨r1, r2, r3, r4⟩⟩, ?_⟩
        have hx3 : x < w3.heap.size := by have := hfr3.size; rw [← hc1.size] at hxl; omega
        exact r3.block x hx3 fun e => hvx e.symm
  · rintro e w' ⟨rfl, v', w4, ⟨w3, m, ⟨w1, w2, ⟨hc1, hf1⟩, hG, hc3, hL3, hfr3⟩, r1, r2, r3, r4⟩, hch, c5, c6⟩
    have hs1 : w1.heap.size = w.heap.size := hc1.size
    have hs2 := hG.size
    have hs3 := hfr3.size
    have hs4 : w4.heap.size = w3.heap.size := r4
    have hx1 : w3.heap[x]? = w2.heap[x]? := hfr3.blk x (by omega) fun q => by rw [h4] at q; cases q.1
    have hx2 : w4.heap[x]? = w3.heap[x]? := r3.block x (by show x < w3.heap.size; omega) fun e => hvx e.symm
    have hx3 : w4.heap[x]? = w2.heap[x]? := hx2.trans hx1
    have hcell : ∀ o, o ≠ 5 → o ≠ 6 → w'.cell? ⟨x, o, none⟩ = w2.cell? ⟨x, o, none⟩ := fun o o5 o6 => (hch.cell x o (by omega)).trans (World.cell?_of_block (w := w2) (a := ⟨x, o, none⟩) hx3)
    have hcell1 : ∀ o, o ≠ 3 → o ≠ 5 → o ≠ 6 → w'.cell? ⟨x, o, none⟩ = w1.cell? ⟨x, o, none⟩ := fun o o3 o5 o6 => (hcell o o5 o6).trans (hG.cell o o3)
    have hr3 : Fr w3 w4 (fun k => k = g) := by
      have hq := (World.grownBy.fr r3).weak (O' := fun k => k = g) fun k _ q => by rw [hvg] at q; injection q with q; exact q.symm
      exact ⟨hq.os, hq.tape, hq.output, hq.size, hq.blk⟩
    have hfr : Fr w w' (fun k => k = x ∨ k = g ∨ (y.tag k = .none ∧ n0 ≤ k)) := by
      refine ((((hc1.fr2 (O := fun k => k = x) fun a o q => q.1).weak fun k _ q => .inl q).trans hG.fr fun k _ q => .inl q).trans hfr3 fun k _ q => .inr (.inr q)).trans hr3 (fun k _ q => .inr (.inl q)) |>.trans (hch.fr2 (O := fun k => k = x) fun a o q => q.1) fun k _ q => .inl q
    have hpkd : (pkC f.pk).take (0 * 2) ++ (pkC f.pk).drop (k * 2) = pkC (f.pk.drop k) := by rw [pkC_drop]; simp
    rw [hpkd] at r1
    have hFA : FA w' x (Pace.sentFl k f) (f.cr - Pace.bytes (f.pk.take k) * Pace.parts) s.clock (y.bt n) v' := by
      refine ⟨?_, ?_, ?_, ?_, ?_, c5, c6, ?_, ?_, ?_⟩
      · rw [hcell1 0 (by omega) (by omega) (by omega)]; exact hf1.c0
      · rw [hcell1 1 (by omega) (by omega) (by omega)]; exact hf1.c1
      · rw [hcell1 2 (by omega) (by omega) (by omega)]; exact hf1.c2
      · rw [hcell 3 (by omega) (by omega), hp]; exact hc3
      · rw [hcell1 4 (by omega) (by omega) (by omega)]; exact hf1.c4
      · rw [hcell1 7 (by omega) (by omega) (by omega)]; exact hf1.c7
      · have e1 : (Pace.sentFl k f).pk.length = f.pk.length - k := by show (f.pk.drop k).length = _; rw [List.length_drop]
        rw [e1]
        refine row_kept0 r1 fun g2 hg2 => hch.blk g2 fun o q => ?_
        rw [r2, hvg] at hg2
        injection hg2 with hg2
        exact hgx (by rw [hg2]; exact q.1)
      · intro o
        rw [hch.fz, frozen_of hx3 o, hG.fz o]
        exact hf1.fz o
    have hcl : f.cr - Pace.bytes (f.pk.take k) * Pace.parts ≤ f.burst * Pace.parts := Nat.le_trans (Nat.sub_le _ _) hF.cr
    obtain ⟨y', hP', hext, b1, b2, b3, b4, b5, b6⟩ := h.flowG (f' := Pace.sentFl k f) hn hfn hfr (fun k' q => by
      rcases q with q | q | q
      · rw [q]; exact .inl h4
      · rw [q]; exact .inr (.inl hgt)
      · exact .inr (.inr q.1)) (by rw [hx]; exact hFA) ⟨Nat.le_refl _, hcl, by
        show _ = Pace.acc _ _ _ (s.clock - s.clock)
        rw [Nat.sub_self]; exact (Pace.acc_zero hcl).symm⟩ (fun g2 hg2 => .inl (by rw [← r2]; exact hg2)) (fun a ha q => absurd q (hnoA a ha))
    rw [← upd_const hnd hn (Pace.sentFl k)] at hP'
    refine ⟨rfl, y', hP', ?_, ⟨hfr.weak fun k' _ q => ?_, hext⟩, b1, b3, b4⟩
    · have hfr2 : Fr w3 w' (fun k => k = x ∨ k = g) := by
        refine (hr3.weak (O' := fun k => k = x ∨ k = g) fun k _ q => .inr q).trans (hch.fr2 (O := fun k => k = x) fun a o q => q.1) fun k _ q => .inl q
      refine hL3.kept hfr2 (fun k' _ hk' q => ?_) (fun k' hk' hk'' => ?_)
      · rcases q with q | q
        · rw [q, h4] at hk'; cases hk'
        · rw [q, hgt] at hk'; cases hk'
      · by_cases hlt : k' < w.heap.size
        · exact hext k' hlt hk''
        · rw [b6 k' fun e => ?_]
          · exact hk''
          · rw [r2, hvg] at e
            injection e with e
            omega
    · rcases q with q | q | q
      · rw [q]; exact .inl (h.own_of h4 (by simp))
      · rw [q]; exact .inl (h.own_of hgt (by simp))
      · exact .inr q.2
end Go.Proofs.YtogdekjklbbbiaaGreatDoor
