import Derived.Test.YtogdekjklbbbiaaDoorTurn2
set_option maxRecDepth 100000
namespace Go.Proofs.YtogdekjklbbbiaaDoor
open Go.ChangeShapes Go.WideShapes Go.ChangeAt Go.RowKit
set_option linter.unusedSimpArgs false
set_option linter.unusedVariables false

theorem ir_toI {w : World} {n0 : Nat} {v : Value} {D : List (Nat × Nat)} (h : w.ownsRow n0 3 1 v D.length (D.map fun p => Value.int .i64 (p.1 : Int))) : ∃ a cap, v = .slice a D.length cap ∧ IR w a (toI D) := by
  obtain ⟨a, cap, h1, h2⟩ := ir_of_row (row_toI h)
  rw [toI_len] at h1
  exact ⟨a, cap, h1, h2⟩

/-- What is known on the way through kind 3: the pair has advanced on the first side; the answer's row lies apart. -/
structure K3 (w : World) (b d : Nat) (O Q : Nat → Prop) (n N : Nat) (A D : List (Nat × Nat)) (x : Int) (v : Value) (w' : World) : Prop where
  pr : Pair w' b d O Q N (beyond N A) n A
  fr : Fr w w' O
  row : w'.ownsRow (w.heap.size + 1) 3 1 v D.length (D.map fun p => Value.int .i64 (p.1 : Int))
  so : SortOf (upTo N A) D
  bx : w'.cell? ⟨w.heap.size, 1, none⟩ = some (.int .i64 x)
  tb : TabW w'
  sz : w.heap.size + 1 ≤ w'.heap.size
def Apart (w : World) (O Q : Nat → Prop) (v : Value) (k : Nat) : Prop := w.heap.size + 1 ≤ k ∧ ¬ O k ∧ ¬ Q k ∧ v.ownBlock ≠ some k
theorem K3.keep {w w1 w2 : World} {b d : Nat} {O Q X : Nat → Prop} {n N : Nat} {A D : List (Nat × Nat)} {x : Int} {v : Value} (h : K3 w b d O Q n N A D x v w1) (hf : Fr w1 w2 X) (hX : ∀ k, X k → Apart w O Q v k) (h0 : 0 < w.heap.size) : K3 w b d O Q n N A D x v w2 := by
  have hsz := h.sz
  have hbb : w2.heap[w.heap.size]? = w1.heap[w.heap.size]? := hf.blk _ (by omega) fun q => by have := (hX _ q).1; omega
  exact ⟨h.pr.keep hf (fun k q q' => (hX k q').2.1 q) (fun k q q' => (hX k q').2.2.1 q), Fr.trans h.fr hf (fun k hk q => by have := (hX k q).1; omega), row_blk h.row fun g hg => hf.blk g (h.row.lt g hg).2 fun q => (hX g q).2.2.2 hg, h.so, (World.cell?_of_block (a := ⟨w.heap.size, 1, none⟩) hbb).trans h.bx, h.tb.fr hf (fun q => by have := (hX 0 q).1; omega) (by omega), Nat.le_trans h.sz hf.size⟩
theorem K3.fresh {w w1 : World} {b d : Nat} {O Q : Nat → Prop} {n N : Nat} {A D : List (Nat × Nat)} {x : Int} {v : Value} (h : K3 w b d O Q n N A D x v w1) {k : Nat} (hk : w1.heap.size ≤ k) : Apart w O Q v k :=
  ⟨Nat.le_trans h.sz hk, fun q => by have := h.pr.wa.olt q; omega, fun q => by have := h.pr.ra.olt q; omega, fun q => by have := (h.row.lt k q).2; omega⟩

theorem turned3_any {w : World} {b d : Nat} {O Q : Nat → Prop} {n : Nat} {A : List (Nat × Nat)} (h : Pair w b d O Q n A n A) (hl : A.length < 8796093022208) (hT : TabW w) (h00 : 0 < w.heap.size) (hO0 : ¬ O 0) (x y z : Int) (hx : x < 9223372036854775808) :
    Calls Tryd.prog 10 #[.pointer (some ⟨b, 0, none⟩), .pointer (some ⟨d, 0, none⟩), .agg #[.int .i64 3, .int .i64 x, .int .i64 y, .int .i64 z]] w fun e w' => e = .returned (.bool true) ∧ Out w b d O Q A w' := by
  have hf0 : Fr w (w.alloc (.cells #[.int .i64 3, .int .i64 x, .int .i64 y, .int .i64 z] 30)) (fun _ => False) := alloc_fr _ _ _
  have h0 := h.keep hf0 (fun _ _ q => q) (fun _ _ q => q)
  have hs0 : (w.alloc (.cells #[.int .i64 3, .int .i64 x, .int .i64 y, .int .i64 z] 30)).heap.size = w.heap.size + 1 := by simp
  have hT0 : TabW (w.alloc (.cells #[.int .i64 3, .int .i64 x, .int .i64 y, .int .i64 z] 30)) := hT.fr hf0 (fun q => q) h00
  have hbx : ¬ O w.heap.size := fun q => by have := h.wa.olt q; omega
  have hOw : ∀ k, O k → k < w.heap.size := fun k q => h.wa.olt q
  obtain ⟨N, hN⟩ : ∃ N : Nat, (N : Int) = max (n : Int) x := ⟨(max (n : Int) x).toNat, by omega⟩
  let K := fun D v w' => K3 w b d O Q n N A D x v w'
  refine turned3 b d x y z w (fun v w' => ∃ D, K D v w')
    (fun v o w' => ∃ D, K D v w' ∧ ∃ P : Nat → Prop, WA w' o P 0 [] ∧ ∀ k, P k → Apart w O Q v k)
    (fun v o w' => ∃ D, K D v w' ∧ ∃ P : Nat → Prop, ∃ C, C.length ≤ 1 ∧ WA w' o P 0 C ∧ ∀ k, P k → Apart w O Q v k)
    (fun v za m w' => ∃ D, K D v w' ∧ ∀ i, i < m → ∃ g, za = some ⟨g, 0, none⟩ ∧ (∃ u, w'.cell? ⟨g, i, none⟩ = some u) ∧ w'.frozen? ⟨g, i, none⟩ = false ∧ Apart w O Q v g)
    (fun v mv w' => ∃ D Q', Pair w' b d O Q' N (beyond N A) N (beyond N A) ∧ Fr w w' (fun k => O k ∨ Q k) ∧ (∀ k, Q' k → Q k ∨ w.heap.size ≤ k) ∧ (∃ a cap, v = .slice a D.length cap ∧ IR w' a (toI D)) ∧ (∃ a cap, mv = .slice a D.length cap ∧ IR w' a (toI D)) ∧ D.length ≤ A.length)
    _ ((wa_advance h0.wa (by omega) hT0 hO0 x hx).mono ?_) ?_ ?_ ?_ ?_ ?_ ?_
  · rintro e w1 ⟨v, rfl, D, N', hN', hS, hf, hrow, hW⟩
    obtain rfl : N' = N := by omega
    refine ⟨v, rfl, D, h0.first hf hW (fun k q => .inl q), ⟨hf.os.trans hf0.os, hf.tape.trans hf0.tape, hf.output.trans hf0.output, Nat.le_trans hf0.size hf.size, fun k hk hn => (hf.blk k (by omega) hn).trans (hf0.blk k hk fun q => q)⟩, by rw [hs0] at hrow; exact hrow, hS, box_cell w _ 30 hf hbx 1, hT0.fr hf hO0 (by omega), by rw [← hs0]; exact hf.size⟩
  · rintro v w1 ⟨D, hK⟩
    refine (wa_new w1).mono ?_
    rintro e w2 ⟨o, rfl, g1, P, g2, g3⟩
    exact ⟨o, rfl, D, hK.keep g1 (fun _ q => q.elim) h00, P, g2, fun k hk => hK.fresh (g3 k hk)⟩
  · rintro v o w1 ⟨D, hK, P, hP, hPk⟩
    refine (wa_insert hP 7 1 (by decide) (by decide) (by decide)).mono ?_
    rintro e w2 ⟨rfl, g1, P2, g2, g3⟩
    refine ⟨_, rfl, D, hK.keep g1 hPk h00, P2, _, ?_, g2, fun k hk => (g3 k hk).elim (hPk k) fun q => hK.fresh q⟩
    rw [insA_len]
    split <;> simp
  · rintro v o w1 ⟨D, hK, P, C, hC, hP, hPk⟩
    refine (wa_advance hP (by omega) hK.tb (fun q => by have := (hPk 0 q).1; omega) 1 (by decide)).mono ?_
    rintro e w2 ⟨zv, rfl, Dz, Nz, _, hSz, hf, hrow, _⟩
    have hDl : Dz.length ≤ 1 := by
      have h1 := hSz.len
      have h2 := List.length_filter_le (fun p : Nat × Nat => decide (p.2 ≤ Nz)) C
      omega
    have hK2 := hK.keep hf hPk h00
    rcases hrow.2 with ⟨rfl, hn⟩ | ⟨g, cap, cur, rfl, q1, q2, q3, q4, q5, q6⟩
    · exact ⟨none, 0, 0, rfl, by decide, D, hK2, fun i hi => by omega⟩
    · refine ⟨_, Dz.length, cap, rfl, by omega, D, hK2, fun i hi => ⟨g, rfl, ?_, hrow.frozenAt i, hK.fresh q1⟩⟩
      refine ⟨_, (hrow.cellAt i (by omega)).trans (List.getElem?_eq_getElem (by simpa using hi))⟩
  · rintro v za m w1 i ⟨D, hK, hz⟩ hi
    obtain ⟨g, hg, hu, hfz, hap⟩ := hz i hi
    refine ⟨g, hg, hu, hfz, D, ?_, ?_⟩
    · have hch : Ch w1 (w1.setCell ⟨g, i, none⟩ (.int .i64 (-9))) (fun a _ => a = g) := (Ch.refl w1 (fun a _ => a = g)).setCell (b := g) (o := i) rfl _
      have hf : Fr w1 (w1.setCell ⟨g, i, none⟩ (.int .i64 (-9))) (fun k => k = g) := ⟨hch.os, hch.tape, hch.output, by rw [hch.size]; exact Nat.le_refl _, fun k _ hn => hch.blk k fun _ q => hn q⟩
      exact hK.keep hf (fun k q => by rw [q]; exact hap) h00
    · intro j hj
      obtain ⟨g', hg', ⟨u, hu'⟩, hfz', hap'⟩ := hz j hj
      have hch : Ch w1 (w1.setCell ⟨g, i, none⟩ (.int .i64 (-9))) (fun a _ => a = g) := (Ch.refl w1 (fun a _ => a = g)).setCell (b := g) (o := i) rfl _
      refine ⟨g', hg', ?_, by rw [hch.fz]; exact hfz', hap'⟩
      exact Option.isSome_iff_exists.1 (by rw [hch.dom, hu']; rfl)
  · rintro v za m w1 ⟨D, hK, hz⟩
    refine ⟨hK.bx, (ra_advance hK.pr.ra hl x N hN).mono ?_⟩
    rintro e w2 ⟨mv, D2, rfl, hS2, hf, hrow2, Q', hR, hq, hap⟩
    obtain rfl : D2 = D := hS2.eq hK.so
    have hQw : ∀ k, Q k → k < w.heap.size := fun k q => h.ra.olt q
    refine ⟨mv, rfl, D2, Q', hK.pr.second hf hR hq, fr_or hK.fr hf (fun k _ q => .inl q) (fun k _ q => .inr q), fun k hk => (hq k hk).imp id fun q => by have := hK.sz; omega, ?_, ir_toI hrow2, ?_⟩
    · refine ir_toI (row_blk hK.row fun g hg => hf.blk g (hK.row.lt g hg).2 fun q => ?_)
      have q1 := (hK.row.lt g hg).1
      have q2 := hQw g q
      omega
    · have h1 := hS2.len
      have h2 := List.length_filter_le (fun p : Nat × Nat => decide (p.2 ≤ N)) A
      unfold upTo at h1
      omega
  · rintro v mv w1 ⟨D, Q', hP, hf, hq, ⟨a, cap, rfl, i1⟩, ⟨a', cap', rfl, i2⟩, hDl⟩
    refine (ints_eq a a' (toI D) D.length cap cap' w1 (toI_len D).symm (by omega) i1 i2).mono ?_
    rintro e w2 ⟨rfl, hB⟩
    have hfB : Fr w1 w2 (fun _ => False) := below_fr hB
    refine ⟨rfl, Fr.trans hf hfB (fun _ _ q => q.elim), O, Q', N, _, hP.keep hfB (fun _ _ q => q) (fun _ _ q => q), ?_, fun k q => .inl q, hq⟩
    have := List.length_filter_le (fun p : Nat × Nat => decide (N < p.2)) A
    unfold beyond
    omega
end Go.Proofs.YtogdekjklbbbiaaDoor
