import Derived.Test.YtogdekjklbbbiaaDoorWheelsW
set_option maxRecDepth 100000
namespace Go.Proofs.YtogdekjklbbbiaaDoor
open Go.ChangeShapes Go.WideShapes Go.ChangeAt Go.RowKit
set_option linter.unusedSimpArgs false
set_option linter.unusedVariables false

theorem out_w {w : World} {b d : Nat} {O Q : Nat → Prop} {n : Nat} {A : List (Nat × Nat)} (h : Pair w b d O Q n A n A) (hl : A.length < 8796093022208) (hT : TabW w) (h00 : 0 < w.heap.size) (hO0 : ¬ O 0) (k x y z : Int) (hx0 : -9223372036854775808 ≤ x) (hx : x < 9223372036854775808) (hy : y < 9223372036854775808) :
    Calls Tryd.prog 10 #[.pointer (some ⟨b, 0, none⟩), .pointer (some ⟨d, 0, none⟩), .agg #[.int .i64 k, .int .i64 x, .int .i64 y, .int .i64 z]] w fun e w' => e = .returned (.bool true) ∧ Out w b d O Q A w' := by
  by_cases k1 : k = 1
  · subst k1; exact turned1_any h hl x y z hx hy
  · by_cases k2 : k = 2
    · subst k2; exact turned2_any h hl x y z hx0 hx
    · by_cases k3 : k = 3
      · subst k3; exact turned3_any h hl hT h00 hO0 x y z hx
      · exact turned4_any h hl hT h00 k x y z k1 k2 k3

/-- Four wheels, two by two, all their blocks beyond N. -/
structure Four (w : World) (N : Nat) (wr : World) (b b' d d' : Nat) (O O' Q Q' : Nat → Prop) (n n' : Nat) (A A' : List (Nat × Nat)) : Prop where
  be : Below N w wr
  p1 : Pair wr b d O Q n A n A
  p2 : Pair wr b' d' O' Q' n' A' n' A'
  o1 : ∀ k, O k ∨ Q k → N ≤ k
  o2 : ∀ k, O' k ∨ Q' k → N ≤ k
  dj : ∀ k, O k ∨ Q k → ¬ (O' k ∨ Q' k)
theorem Four.first {w : World} {N : Nat} {wr w' : World} {b b' d d' : Nat} {O O' Q Q' : Nat → Prop} {n n' : Nat} {A A' : List (Nat × Nat)} (h : Four w N wr b b' d d' O O' Q Q' n n' A A') (hN : N ≤ wr.heap.size) (ho : Out wr b d O Q A w') :
    ∃ O1 Q1 n1 A1, A1.length ≤ A.length + 1 ∧ Four w N w' b b' d d' O1 O' Q1 Q' n1 n' A1 A' := by
  obtain ⟨hf, O1, Q1, n1, A1, hP, hlen, g1, g2⟩ := ho
  have hg : ∀ k, O1 k ∨ Q1 k → (O k ∨ Q k) ∨ wr.heap.size ≤ k := fun k q => q.elim (fun q => (g1 k q).imp .inl id) fun q => (g2 k q).imp .inr id
  refine ⟨O1, Q1, n1, A1, hlen, h.be.trans (hf.below h.o1 hN), hP, h.p2.keep hf (fun k q q' => h.dj k q' (.inl q)) (fun k q q' => h.dj k q' (.inr q)), fun k q => (hg k q).elim (h.o1 k) fun q => Nat.le_trans hN q, h.o2, fun k q q' => (hg k q).elim (fun q1 => h.dj k q1 q') fun q1 => ?_⟩
  rcases q' with q' | q'
  · have := h.p2.wa.olt q'; omega
  · have := h.p2.ra.olt q'; omega
theorem Four.second {w : World} {N : Nat} {wr w' : World} {b b' d d' : Nat} {O O' Q Q' : Nat → Prop} {n n' : Nat} {A A' : List (Nat × Nat)} (h : Four w N wr b b' d d' O O' Q Q' n n' A A') (hN : N ≤ wr.heap.size) (ho : Out wr b' d' O' Q' A' w') :
    ∃ O1 Q1 n1 A1, A1.length ≤ A'.length + 1 ∧ Four w N w' b b' d d' O O1 Q Q1 n n1 A A1 := by
  obtain ⟨hf, O1, Q1, n1, A1, hP, hlen, g1, g2⟩ := ho
  have hg : ∀ k, O1 k ∨ Q1 k → (O' k ∨ Q' k) ∨ wr.heap.size ≤ k := fun k q => q.elim (fun q => (g1 k q).imp .inl id) fun q => (g2 k q).imp .inr id
  refine ⟨O1, Q1, n1, A1, hlen, h.be.trans (hf.below h.o2 hN), h.p1.keep hf (fun k q q' => h.dj k (.inl q) q') (fun k q q' => h.dj k (.inr q) q'), hP, h.o1, fun k q => (hg k q).elim (h.o2 k) fun q => Nat.le_trans hN q, fun k q q' => (hg k q').elim (fun q1 => h.dj k q q1) fun q1 => ?_⟩
  rcases q with q | q
  · have := h.p1.wa.olt q; omega
  · have := h.p1.ra.olt q; omega

/-- A script that came in. -/
structure CameT (w : World) (a : Option Addr) (xs : List (Int × Int × Int × Int)) : Prop where
  there : 0 < xs.length → ∃ g o, a = some ⟨g, o, none⟩
  cell : ∀ i p, xs[i]? = some p → ∀ g o, a = some ⟨g, o, none⟩ → g < w.heap.size ∧ w.cell? ⟨g, o + i * 4, none⟩ = some (.int .i64 p.1) ∧ w.cell? ⟨g, o + i * 4 + 1, none⟩ = some (.int .i64 p.2.1) ∧ w.cell? ⟨g, o + i * 4 + 2, none⟩ = some (.int .i64 p.2.2.1) ∧ w.cell? ⟨g, o + i * 4 + 3, none⟩ = some (.int .i64 p.2.2.2)
  bd : ∀ p ∈ xs, -9223372036854775808 ≤ p.2.1 ∧ p.2.1 < 9223372036854775808 ∧ p.2.2.1 < 9223372036854775808

theorem ra_new (w : World) : RA (w.alloc (.cells #[.int .i64 0, .slice none 0 0] 28)) w.heap.size (fun k => k = w.heap.size) 0 [] := by
  refine ⟨.slice none 0 0, cellN w _ 28 0, cellN w _ 28 1, fun o => ?_, World.ownsRow_nil _ _ _ _, fun g hg => (by cases hg), rfl, fun k (q : k = w.heap.size) => by rw [q]; simp⟩
  have := World.alloc_heap_new w (.cells #[.int .i64 0, .slice none 0 0] 28)
  unfold World.frozen?
  rw [this]
  simp

theorem wheels_any (sa : Option Addr) (xs : List (Int × Int × Int × Int)) (c : Nat) (w : World) (hx : CameT w sa xs) (hT : TabW w) (h0 : 0 < w.heap.size) (hl : xs.length < 8796093022208) :
    Calls Tryd.prog 3 #[.slice sa xs.length c] w fun e w' => e = .returned (.bool true) ∧ Below w.heap.size w w' := by
  have hNN : w.heap.size ≤ w.heap.size := Nat.le_refl _
  refine wheels_walk sa xs.length c w hl hx.there
    (fun b wr => Below w.heap.size w wr ∧ ∃ O : Nat → Prop, WA wr b O 0 [] ∧ ∀ k, O k → w.heap.size ≤ k)
    (fun b b' wr => ∃ O O', Two w w.heap.size wr b b' O O' 0 0 [] [])
    (fun b b' d d' k wr => k ≤ xs.length ∧ ∃ O O' Q Q' n n' A A', Four w w.heap.size wr b b' d d' O O' Q Q' n n' A A' ∧ A.length ≤ k ∧ A'.length ≤ k)
    (fun b' d' wr => ∃ b d O O' Q Q' n n' A A', Four w w.heap.size wr b b' d d' O O' Q Q' n n' A A' ∧ A'.length ≤ xs.length)
    (fun w' => Below w.heap.size w w') ?_ ?_ ?_ ?_ ?_ ?_
  · refine (wa_new w).mono ?_
    rintro e w' ⟨b, rfl, h1, O, h2, h3⟩
    exact ⟨b, rfl, h1.below (fun _ q => q.elim) hNN, O, h2, h3⟩
  · rintro b wr ⟨hB, O, hW, hO⟩
    refine (wa_new wr).mono ?_
    rintro e w' ⟨b', rfl, h1, O', h2, h3⟩
    exact ⟨b', rfl, O, O', ⟨hB.trans (h1.below (fun _ q => q.elim) hB.size), hW.kept h1 (fun _ _ q => q), h2, hO, fun x q => Nat.le_trans hB.size (h3 x q), fun x q q' => by have := hW.olt q; have := h3 x q'; omega⟩⟩
  · rintro b b' wr ⟨O, O', hTw⟩
    have hs := hTw.size hNN
    have f1 : Fr wr (wr.alloc (.cells #[.int .i64 0, .slice none 0 0] 28)) (fun _ => False) := alloc_fr _ _ _
    have hs1 : (wr.alloc (.cells #[.int .i64 0, .slice none 0 0] 28)).heap.size = wr.heap.size + 1 := by simp
    have f2 : Fr (wr.alloc (.cells #[.int .i64 0, .slice none 0 0] 28)) ((wr.alloc (.cells #[.int .i64 0, .slice none 0 0] 28)).alloc (.cells #[.int .i64 0, .slice none 0 0] 28)) (fun _ => False) := alloc_fr _ _ _
    have r1 := (ra_new wr).kept f2 (fun _ _ q => q)
    have r2 := ra_new (wr.alloc (.cells #[.int .i64 0, .slice none 0 0] 28))
    rw [hs1] at r2
    have f12 := Fr.trans f1 f2 (fun _ _ q => q)
    refine ⟨Nat.zero_le _, O, O', (fun k => k = wr.heap.size), (fun k => k = wr.heap.size + 1), 0, 0, [], [], ⟨hTw.be.trans (f12.below (fun _ q => q.elim) hs), ⟨hTw.w1.kept f12 (fun _ _ q => q), r1, fun k q q' => by have := hTw.w1.olt q; omega⟩, ⟨hTw.w2.kept f12 (fun _ _ q => q), r2, fun k q q' => by have := hTw.w2.olt q; omega⟩, ?_, ?_, ?_⟩, Nat.le_refl _, Nat.le_refl _⟩
    · intro k q
      exact q.elim (hTw.o1 k) fun q => by omega
    · intro k q
      exact q.elim (hTw.o2 k) fun q => by omega
    · intro k q q'
      rcases q with q | q <;> rcases q' with q' | q'
      · exact hTw.dj k q q'
      · have := hTw.w1.olt q; omega
      · have := hTw.w2.olt q'; omega
      · omega
  · rintro b b' d d' k wr ⟨hkx, O, O', Q, Q', n, n', A, A', hF, hA, hA'⟩ hk
    have hbd := hx.bd xs[k] (List.getElem_mem hk)
    have hs : w.heap.size ≤ wr.heap.size := hF.be.size
    have hTr : TabW wr := hT.below hF.be h0
    refine ⟨xs[k].1, xs[k].2.1, xs[k].2.2.1, xs[k].2.2.2, fun g o hg => ?_, ?_, ?_⟩
    · obtain ⟨hlt, c1, c2, c3, c4⟩ := hx.cell k xs[k] (List.getElem?_eq_getElem hk) g o hg
      exact ⟨(hF.be.cell (p := ⟨g, o + k * 4, none⟩) hlt).trans c1, (hF.be.cell (p := ⟨g, o + k * 4 + 1, none⟩) hlt).trans c2, (hF.be.cell (p := ⟨g, o + k * 4 + 2, none⟩) hlt).trans c3, (hF.be.cell (p := ⟨g, o + k * 4 + 3, none⟩) hlt).trans c4⟩
    · refine (out_w hF.p1 (by omega) hTr (by omega) (fun q => by have := hF.o1 0 (.inl q); omega) _ _ _ _ hbd.1 hbd.2.1 hbd.2.2).mono ?_
      rintro e w' ⟨rfl, ho⟩
      obtain ⟨O1, Q1, n1, A1, hlen, h4⟩ := hF.first hs ho
      exact ⟨rfl, by omega, O1, O', Q1, Q', n1, n', A1, A', h4, by omega, by omega⟩
    · refine (out_w hF.p2 (by omega) hTr (by omega) (fun q => by have := hF.o2 0 (.inl q); omega) _ _ _ _ hbd.1 hbd.2.1 hbd.2.2).mono ?_
      rintro e w' ⟨rfl, ho⟩
      obtain ⟨O1, Q1, n1, A1, hlen, h4⟩ := hF.second hs ho
      exact ⟨rfl, by omega, O, O1, Q, Q1, n, n1, A, A1, h4, by omega, by omega⟩
  · rintro b b' d d' wr ⟨hkx, O, O', Q, Q', n, n', A, A', hF, hA, hA'⟩
    refine (out_w hF.p1 (by omega) (hT.below hF.be h0) (by have := hF.be.size; omega) (fun q => by have := hF.o1 0 (.inl q); omega) 0 0 0 0 (by decide) (by decide) (by decide)).mono ?_
    rintro e w' ⟨rfl, ho⟩
    obtain ⟨O1, Q1, n1, A1, hlen, h4⟩ := hF.first hF.be.size ho
    exact ⟨rfl, b, d, O1, O', Q1, Q', n1, n', A1, A', h4, hA'⟩
  · rintro b' d' wr ⟨b, d, O, O', Q, Q', n, n', A, A', hF, hA'⟩
    refine (out_w hF.p2 (by omega) (hT.below hF.be h0) (by have := hF.be.size; omega) (fun q => by have := hF.o2 0 (.inl q); omega) 0 0 0 0 (by decide) (by decide) (by decide)).mono ?_
    rintro e w' ⟨rfl, ho⟩
    obtain ⟨O1, Q1, n1, A1, hlen, h4⟩ := hF.second hF.be.size ho
    exact ⟨rfl, h4.be⟩
end Go.Proofs.YtogdekjklbbbiaaDoor
