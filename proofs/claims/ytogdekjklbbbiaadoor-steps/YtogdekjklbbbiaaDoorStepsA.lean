import Derived.Test.YtogdekjklbbbiaaDoorOnce
import Derived.Test.YtogdekjklbbbiaaDoorStepsW
set_option maxRecDepth 100000
namespace Go.Proofs.YtogdekjklbbbiaaDoor
open Go.ChangeShapes Go.WideShapes Go.ChangeAt Go.RowKit
set_option linter.unusedSimpArgs false
set_option linter.unusedVariables false

/-- A slice of integers that came in. -/
structure Came (w : World) (a : Option Addr) (xs : List Int) : Prop where
  cell : ∀ i x, xs[i]? = some x → ∃ g o, a = some ⟨g, o, none⟩ ∧ g < w.heap.size ∧ w.cell? ⟨g, o + i, none⟩ = some (.int .i64 x)
  bd : ∀ x ∈ xs, -9223372036854775808 ≤ x ∧ x < 9223372036854775808
theorem Came.at {w wr : World} {a : Option Addr} {xs : List Int} (h : Came w a xs) (hB : Below w.heap.size w wr) {k : Nat} (hk : k < xs.length) : At wr a k xs[k] := by
  intro g o ha
  obtain ⟨g', o', ha', hg, hc⟩ := h.cell k xs[k] (List.getElem?_eq_getElem hk)
  rw [ha] at ha'
  cases ha'
  exact (hB.cell (p := ⟨g, o + k, none⟩) hg).trans hc
theorem Came.some {w : World} {a : Option Addr} {xs : List Int} (h : Came w a xs) (hk : 0 < xs.length) : ∃ g o, a = some ⟨g, o, none⟩ := by
  obtain ⟨g, o, ha, _⟩ := h.cell 0 xs[0] (List.getElem?_eq_getElem hk)
  exact ⟨g, o, ha⟩
theorem TabW.below {w w' : World} {n : Nat} (h : TabW w) (hB : Below n w w') (hn : 0 < n) : TabW w' := by
  intro i v hi
  exact (hB.cell (p := ⟨0, i, none⟩) hn).trans (h i v hi)

/-- Two wheels, side by side, all their blocks beyond N. -/
structure Two (w : World) (N : Nat) (wr : World) (b b' : Nat) (O O' : Nat → Prop) (now now' : Nat) (C C' : List (Nat × Nat)) : Prop where
  be : Below N w wr
  w1 : WA wr b O now C
  w2 : WA wr b' O' now' C'
  o1 : ∀ x, O x → N ≤ x
  o2 : ∀ x, O' x → N ≤ x
  dj : ∀ x, O x → ¬ O' x
theorem Two.first {w : World} {N : Nat} {wr w' : World} {b b' : Nat} {O O' O1 : Nat → Prop} {now now' n1 : Nat} {C C' C1 : List (Nat × Nat)} (h : Two w N wr b b' O O' now now' C C') (hN : N ≤ wr.heap.size) (hf : Fr wr w' O) (hw : WA w' b O1 n1 C1) (ho : ∀ k, O1 k → O k ∨ wr.heap.size ≤ k) : Two w N w' b b' O1 O' n1 now' C1 C' :=
  ⟨h.be.trans (hf.below h.o1 hN), hw, h.w2.kept hf fun k q q' => h.dj k q' q, fun x hx => (ho x hx).elim (h.o1 x) fun q => Nat.le_trans hN q, h.o2, fun x hx hx' => (ho x hx).elim (fun q => h.dj x q hx') fun q => by have := h.w2.olt hx'; omega⟩
theorem Two.second {w : World} {N : Nat} {wr w' : World} {b b' : Nat} {O O' O1 : Nat → Prop} {now now' n1 : Nat} {C C' C1 : List (Nat × Nat)} (h : Two w N wr b b' O O' now now' C C') (hN : N ≤ wr.heap.size) (hf : Fr wr w' O') (hw : WA w' b' O1 n1 C1) (ho : ∀ k, O1 k → O' k ∨ wr.heap.size ≤ k) : Two w N w' b b' O O1 now n1 C C1 :=
  ⟨h.be.trans (hf.below h.o2 hN), h.w1.kept hf h.dj, hw, h.o1, fun x hx => (ho x hx).elim (h.o2 x) fun q => Nat.le_trans hN q, fun x hx hx' => (ho x hx').elim (h.dj x hx) fun q => by have := h.w1.olt hx; omega⟩
theorem Two.size {w : World} {N : Nat} {wr : World} {b b' : Nat} {O O' : Nat → Prop} {now now' : Nat} {C C' : List (Nat × Nat)} (h : Two w N wr b b' O O' now now' C C') (hN : N ≤ w.heap.size) : N ≤ wr.heap.size := Nat.le_trans hN h.be.size
theorem Two.drew {w : World} {N : Nat} {wr : World} {b b' : Nat} {O O' : Nat → Prop} {now now' : Nat} {C C' : List (Nat × Nat)} (h : Two w N wr b b' O O' now now' C C') : Two w N wr.drew b b' O O' now now' C C' :=
  ⟨h.be.drew, h.w1.kept (O' := fun _ => False) ⟨rfl, rfl, rfl, Nat.le_refl _, fun _ _ _ => rfl⟩ (fun _ _ q => q), h.w2.kept (O' := fun _ => False) ⟨rfl, rfl, rfl, Nat.le_refl _, fun _ _ _ => rfl⟩ (fun _ _ q => q), h.o1, h.o2, h.dj⟩

theorem insA_len (A : List (Nat × Nat)) (id t : Int) : (insA A id t).length = if insE A id t = 0 then A.length + 1 else A.length := by
  unfold insA insE
  by_cases h1 : id < 0 ∨ t < 0
  · rw [if_pos h1, if_pos h1, if_neg (by decide)]
  · rw [if_neg h1, if_neg h1]
    by_cases h2 : hasId A id
    · rw [if_pos h2, if_pos h2, if_neg (by decide)]
    · rw [if_neg h2, if_neg h2, if_pos rfl]; simp

def toI (D : List (Nat × Nat)) : List Int := D.map fun p => (p.1 : Int)
theorem toI_len (D : List (Nat × Nat)) : (toI D).length = D.length := by simp [toI]
theorem row_toI {w : World} {n0 : Nat} {v : Value} {D : List (Nat × Nat)} (h : w.ownsRow n0 3 1 v D.length (D.map fun p => Value.int .i64 (p.1 : Int))) : w.ownsRow n0 3 1 v (toI D).length ((toI D).map fun x => Value.int .i64 x) := by
  rw [toI_len]
  unfold toI
  rw [List.map_map]
  exact h

theorem least_ex : ∀ C : List (Nat × Nat), ∃ v, LeastOf C v
  | [] => ⟨-1, .inl ⟨rfl, rfl⟩⟩
  | p :: r => by
    obtain ⟨v, hv⟩ := least_ex r
    rcases hv with ⟨rfl, _⟩ | ⟨q, hq, rfl, hle⟩
    · exact ⟨p.2, .inr ⟨p, by simp, rfl, by simp⟩⟩
    · by_cases h : p.2 ≤ q.2
      · refine ⟨p.2, .inr ⟨p, by simp, rfl, fun z hz => ?_⟩⟩
        rcases List.mem_cons.1 hz with e | e
        · rw [e]; exact Nat.le_refl _
        · have := hle z e; omega
      · refine ⟨q.2, .inr ⟨q, by simp [hq], rfl, fun z hz => ?_⟩⟩
        rcases List.mem_cons.1 hz with e | e
        · rw [e]; omega
        · exact hle z e

theorem steps_any (ia aa ta : Option Addr) (xs ys zs : List Int) (c1 c2 c3 : Nat) (w : World) (hx : Came w ia xs) (hy : Came w aa ys) (hz : Came w ta zs) (hT : TabW w) (h0 : 0 < w.heap.size) (b1 : xs.length < 17592186044416) (b2 : ys.length < 17592186044416) (b3 : zs.length < 17592186044416) :
    Calls Tryd.prog 4 #[.slice ia xs.length c1, .slice aa ys.length c2, .slice ta zs.length c3] w fun e w' => e = .returned (.bool true) ∧ Below w.heap.size w w' := by
  have hNN : w.heap.size ≤ w.heap.size := Nat.le_refl _
  refine steps_walk ia aa ta xs.length ys.length zs.length c1 c2 c3 w b1 b2 b3 hx.some hy.some hz.some
    (fun b wr => Below w.heap.size w wr ∧ ∃ O : Nat → Prop, WA wr b O 0 [] ∧ ∀ k, O k → w.heap.size ≤ k)
    (fun b b' k n wr => ∃ O O' A, Two w w.heap.size wr b b' O O' 0 0 A A ∧ A.length = n ∧ n ≤ k ∧ k ≤ xs.length)
    (fun b b' k n id t er wr => ∃ O O' A, Two w w.heap.size wr b b' O O' 0 0 (insA A id t) A ∧ A.length = n ∧ n ≤ k ∧ k < xs.length ∧ er = insE A id t ∧ ∃ (q1 : k < xs.length) (q2 : k < ys.length), id = xs[k] ∧ t = ys[k])
    (fun w' => Below w.heap.size w w') ?_ ?_ ?_ ?_
    (fun b b' B n k most l wr => ∃ O O' A now C D, Two w w.heap.size wr b b' O O' now 0 C A ∧ (∀ x, O x → x < B) ∧ (∀ x, O' x → x < B) ∧ (w.heap.size ≤ B ∧ B ≤ wr.heap.size) ∧ A.length = n ∧ n ≤ xs.length ∧ (now : Int) = most ∧ l = toI D ∧ ((k = 0 ∧ now = 0 ∧ C = A ∧ D = []) ∨ (C = beyond now A ∧ SortOf (upTo now A) D)))
    (fun b b' B n most l ms wr => ∃ O O' A now now' C C' D D2, Two w w.heap.size wr b b' O O' now now' C C' ∧ (∀ x, O x → x < B) ∧ B ≤ wr.heap.size ∧ A.length = n ∧ n ≤ xs.length ∧ (now : Int) = most ∧ l = toI D ∧ ms = toI D2 ∧ SortOf (upTo now A) D2 ∧ ((zs.length = 0 ∧ C = A ∧ D = []) ∨ (C = beyond now A ∧ SortOf (upTo now A) D)))
    (fun b b' B n most l ms us wr => ∃ O O' now now' C C', Two w w.heap.size wr b b' O O' now now' C C' ∧ B ≤ wr.heap.size ∧ (C.length : Int) = (n : Int) - (l.length : Int) - (us.length : Int) ∧ (∀ p ∈ C, most < (p.2 : Int)) ∧ (l = ms ∨ (l.length ≠ ms.length ∧ zs.length = 0)))
    ?_ ?_ ?_ ?_ ?_ ?_ ?_ ?_ ?_
  · refine (wa_new w).mono ?_
    rintro e w' ⟨b, rfl, h1, O, h2, h3⟩
    exact ⟨b, rfl, h1.below (fun _ q => q.elim) hNN, O, h2, h3⟩
  · rintro b wr ⟨hB, O, hW, hO⟩
    refine (wa_new wr).mono ?_
    rintro e w' ⟨b', rfl, h1, O', h2, h3⟩
    exact ⟨b', rfl, O, O', [], ⟨hB.trans (h1.below (fun _ q => q.elim) hB.size), hW.kept h1 (fun _ _ q => q), h2, hO, fun x q => Nat.le_trans hB.size (h3 x q), fun x q q' => by have := hW.olt q; have := h3 x q'; omega⟩, rfl, Nat.le_refl _, Nat.zero_le _⟩
  · rintro b b' k n wr ⟨O, O', A, hTw, hA, hnk, hkx⟩ hk1 hk2
    have i1 := hx.bd xs[k] (List.getElem_mem hk1)
    have i2 := hy.bd ys[k] (List.getElem_mem hk2)
    refine ⟨xs[k], ys[k], hx.at hTw.be hk1, hy.at hTw.be hk2, ?_⟩
    have hD := hTw.drew
    refine (wa_insert hD.w1 xs[k] ys[k] i1.2 i2.2 (by unfold maxLen; omega)).mono ?_
    rintro e w' ⟨rfl, h1, O1, h2, h3⟩
    have hT1 := hD.first (hD.size hNN) h1 h2 h3
    exact ⟨_, rfl, hx.at hT1.be hk1, hy.at hT1.be hk2, O1, O', A, hT1, hA, hnk, hk1, rfl, hk1, hk2, rfl, rfl⟩
  · rintro b b' k n id t er wr ⟨O, O', A, hTw, hA, hnk, hkx, rfl, q1, q2, rfl, rfl⟩
    have hD := hTw.drew
    refine (wa_insert hD.w2 xs[k] ys[k] (hx.bd _ (List.getElem_mem q1)).2 (hy.bd _ (List.getElem_mem q2)).2 (by unfold maxLen; omega)).mono ?_
    rintro e w' ⟨rfl, h1, O1, h2, h3⟩
    have hT1 := hD.second (hD.size hNN) h1 h2 h3
    refine ⟨rfl, hx.at hT1.be q1, hy.at hT1.be q2, fun he => ?_, O, O1, _, hT1, ?_, ?_, q1⟩
    · unfold insE at he
      by_cases hneg : xs[k] < 0 ∨ ys[k] < 0
      · rw [if_pos hneg] at he; cases he
      · omega
    · rw [insA_len, hA]
    · split <;> omega
  · rintro b b' k n wr ⟨O, O', A, hTw, hA, hnk, hkx⟩ hk
    refine ⟨?_, O, O', A, 0, A, [], hTw, fun x q => hTw.w1.olt q, fun x q => hTw.w2.olt q, ⟨hTw.size hNN, Nat.le_refl _⟩, hA, by omega, rfl, rfl, .inl ⟨rfl, rfl, rfl, rfl⟩⟩
    rw [← hA]
    exact wa_len hTw.w1
  · rintro b b' B n k most l wr ⟨O, O', A, now, C, D, hTw, o1, o2, hB, hA, hnx, hm, rfl, hc⟩
    refine ⟨hB.2, ?_⟩
    rw [toI_len]
    rcases hc with ⟨_, _, _, rfl⟩ | ⟨_, hS⟩
    · simp
    · have h1 := hS.len; have h2 := parts now A; omega
  · rintro b b' B n k most l wr w' row ⟨O, O', A, now, C, D, hTw, o1, o2, hB, hA, hnx, hm, hl, hc⟩ hg hr
    have hf : Fr wr w' (fun x => row = some x) := ⟨hg.os, hg.tape, hg.output, hg.size, fun k hk hn => hg.block k hk (fun e => hn e.symm)⟩
    have hBN : ∀ j, row = some j → w.heap.size ≤ j := by
      intro j hj
      exact Nat.le_trans hB.1 (hr j hj)
    exact ⟨O, O', A, now, C, D, ⟨hTw.be.trans (hf.below hBN (hTw.size hNN)), hTw.w1.kept hf (fun k q q' => by have := o1 k q; have := hr k q'; omega), hTw.w2.kept hf (fun k q q' => by have := o2 k q; have := hr k q'; omega), hTw.o1, hTw.o2, hTw.dj⟩, o1, o2, ⟨hB.1, Nat.le_trans hB.2 hg.size⟩, hA, hnx, hm, hl, hc⟩
  · rintro b b' B n k most l wr ⟨O, O', A, now, C, D, hTw, o1, o2, hB, hA, hnx, hm, rfl, hc⟩ hk
    have hCl : C.length ≤ A.length := by
      rcases hc with ⟨_, _, rfl, _⟩ | ⟨rfl, _⟩
      · exact Nat.le_refl _
      · exact List.length_filter_le _ _
    refine ⟨zs[k], hz.at hTw.be hk, (wa_advance hTw.w1 (by omega) (hT.below hTw.be h0) (fun q => by have := hTw.o1 0 q; omega) zs[k] (hz.bd _ (List.getElem_mem hk)).2).mono ?_⟩
    rintro e w' ⟨v, rfl, D1, N, hN, hS1, hf, hrow, hW⟩
    have hT1 := hTw.first (hTw.size hNN) hf hW (fun k q => .inl q)
    refine ⟨v, toI D1, rfl, row_toI hrow, fun j hj hlt => hf.blk j hlt (fun q => by have := o1 j q; omega), O, O', A, N, _, D ++ D1, hT1, o1, o2, ⟨hB.1, Nat.le_trans hB.2 hf.size⟩, hA, hnx, ?_, by unfold toI; rw [List.map_append], .inr ?_⟩
    · split <;> omega
    · have hnN : now ≤ N := by omega
      rcases hc with ⟨_, _, rfl, rfl⟩ | ⟨rfl, hS⟩
      · exact ⟨rfl, by rw [List.nil_append]; exact hS1⟩
      · exact ⟨beyond_beyond hnN A, hS.join hS1 hnN⟩
  · rintro b b' B n most l wr ⟨O, O', A, now, C, D, hTw, o1, o2, hB, hA, hnx, hm, rfl, hc⟩
    have hnow := hTw.w1.now
    refine (wa_advance hTw.w2 (by omega) (hT.below hTw.be h0) (fun q => by have := hTw.o2 0 q; omega) most (by omega)).mono ?_
    rintro e w' ⟨v, rfl, D1, N, hN, hS1, hf, hrow, hW⟩
    have hT1 := hTw.second (hTw.size hNN) hf hW (fun k q => .inl q)
    have hNn : N = now := by omega
    refine ⟨v, toI D1, rfl, row_toI hrow, fun j hj hlt => hf.blk j hlt (fun q => by have := o2 j q; omega), O, O', A, now, N, C, _, D, D1, hT1, o1, Nat.le_trans hB.2 hf.size, hA, hnx, hm, rfl, rfl, by rw [← hNn]; exact hS1, ?_⟩
    rcases hc with ⟨q1, _, q2, q3⟩ | q
    · exact .inl ⟨q1, q2, q3⟩
    · exact .inr q
  · rintro b b' B n most l ms wr ⟨O, O', A, now, now', C, C', D, D2, hTw, o1, hB, hA, hnx, hm, rfl, rfl, hS2, hc⟩
    have hCl : C.length ≤ A.length := by
      rcases hc with ⟨_, rfl, _⟩ | ⟨rfl, _⟩
      · exact Nat.le_refl _
      · exact List.length_filter_le _ _
    refine (wa_advance hTw.w1 (by omega) (hT.below hTw.be h0) (fun q => by have := hTw.o1 0 q; omega) 0 (by omega)).mono ?_
    rintro e w' ⟨v, rfl, D1, N, hN, hS1, hf, hrow, hW⟩
    have hT1 := hTw.first (hTw.size hNN) hf hW (fun k q => .inl q)
    have hNn : N = now := by omega
    subst hNn
    refine ⟨v, toI D1, rfl, row_toI hrow, fun j hj hlt => hf.blk j hlt (fun q => by have := o1 j q; omega), O, O', N, now', _, C', hT1, Nat.le_trans hB hf.size, ?_, ?_, ?_⟩
    · rw [toI_len, toI_len]
      have hp := parts N A
      have hs1 := hS1.len
      rcases hc with ⟨_, rfl, rfl⟩ | ⟨rfl, hS⟩
      · have e1 : (C.filter fun p => decide (p.2 ≤ N)) = upTo N C := rfl
        have e2 : (C.filter fun p => decide (N < p.2)) = beyond N C := rfl
        rw [e1] at hs1
        rw [e2]
        simp only [List.length_nil]
        omega
      · have e1 : ((beyond N A).filter fun p => decide (p.2 ≤ N)) = [] := upTo_beyond A
        have e2 : ((beyond N A).filter fun p => decide (N < p.2)) = beyond N A := beyond_beyond (Nat.le_refl _) A
        rw [e1] at hs1
        rw [e2]
        have := hS.len
        simp only [List.length_nil] at hs1
        omega
    · intro p hp
      have := (List.mem_filter.1 hp).2
      simp at this
      omega
    · rcases hc with ⟨q, rfl, rfl⟩ | ⟨_, hS⟩
      · cases D2 with
        | nil => exact .inl rfl
        | cons x r => exact .inr ⟨by simp [toI], q⟩
      · exact .inl (by rw [hS.eq hS2])
  · rintro b b' B n most l ms us wr ⟨O, O', now, now', C, C', hTw, hB, hlen, hgt, hc⟩
    exact ⟨hB, by omega, by omega, hc⟩
  · rintro b b' B n most l ms us wr w' ⟨O, O', now, now', C, C', hTw, hB, hlen, hgt, hc⟩ hBw
    have hf : Fr wr w' (fun _ => False) := ⟨hBw.os, hBw.tape, hBw.output, hBw.size, fun k hk _ => hBw.block k hk⟩
    exact ⟨O, O', now, now', C, C', ⟨hTw.be.trans (hBw.mono (hTw.size hNN)), hTw.w1.kept hf (fun _ _ q => q), hTw.w2.kept hf (fun _ _ q => q), hTw.o1, hTw.o2, hTw.dj⟩, Nat.le_trans hB hBw.size, hlen, hgt, hc⟩
  · rintro b b' B n most l ms us wr ⟨O, O', now, now', C, C', hTw, hB, hlen, hgt, hc⟩
    have hnx := wa_next hTw.w1 (hT.below hTw.be h0)
    obtain ⟨nv, hnv⟩ := least_ex C
    refine ⟨nv, by rw [← hlen]; exact wa_len hTw.w1, hnx.mono ?_, ?_, ?_⟩
    · rintro e w' ⟨v, rfl, hv, hBw⟩
      exact ⟨by rw [hv.eq hnv], hTw.be.trans (hBw.mono (hTw.size hNN))⟩
    · intro hz'
      rcases hnv with ⟨_, q⟩ | ⟨p, hp, _⟩
      · exact q
      · rw [← hlen] at hz'
        have := List.length_pos_of_mem hp
        omega
    · intro hz'
      rcases hnv with ⟨q, _⟩ | ⟨p, hp, rfl, _⟩
      · rw [← hlen, q] at hz'; simp at hz'
      · exact hgt p hp
end Go.Proofs.YtogdekjklbbbiaaDoor
