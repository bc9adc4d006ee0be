import Derived.Test.YtogdekjklbbbiaaDoorAbs
import Derived.Test.YtogdekjklbbbiaaDoorTakeAny
set_option maxRecDepth 100000
namespace Go.Proofs.YtogdekjklbbbiaaDoor
open Go.ChangeShapes Go.WideShapes Go.ChangeAt Go.RowKit
set_option linter.unusedSimpArgs false
set_option linter.unusedVariables false

set_option maxHeartbeats 1000000 in
theorem adv2_walk (b : Nat) (t : Int) (w : World) (R : World → Prop) (Post : Value → World → Prop)
    (hT : Calls Tryd.prog 38 #[.pointer (some ⟨b, 0, none⟩), .int .i64 t] w fun e w' => e = .returned (.tuple #[]) ∧ R w')
    (hO : ∀ w1, R w1 → Calls Tryd.prog 39 #[.pointer (some ⟨b, 0, none⟩)] w1 fun e w' => ∃ v, e = .returned v ∧ Post v w') :
    Calls Tryd.prog 14 #[.pointer (some ⟨b, 0, none⟩), .int .i64 t] w fun e w' => ∃ v, e = .returned v ∧ Post v w' := by
  have HT := hide hT; have HO := hide hO
  clear hT hO
  go_enter Tryd.func14, Tryd.ntmps14
  go_wp2_with fail
  refine (unhide HT).mono ?_
  rintro e w1 ⟨rfl, hw1⟩
  have HW1 := hide hw1
  clear hw1
  go_wp2_with fail
  refine (unhide HO _ (unhide HW1)).mono ?_
  rintro e w2 ⟨v, rfl, hp⟩
  have HP := hide hp
  clear hp
  go_wp2_with fail
  go_ret
  exact ⟨v, rfl, unhide HP⟩
theorem advance_any {w : World} {b m : Nat} {O : Nat → Prop} {now : Nat} {L : List Nat} {ls : Nat → List Nat} {us ids ats : Nat → Nat} (h : WH w b m O now L ls us ids ats) (hL : L.length < 17592186044416) (hT : TabW w) (h0 : ¬ O 0) (t : Int) (ht : t < 9223372036854775808) :
    Calls Tryd.prog 14 #[.pointer (some ⟨b, 0, none⟩), .int .i64 t] w fun e w' => ∃ v, e = .returned v ∧ ∃ (D : List Nat) (N : Nat), (N : Int) = max (now : Int) t ∧ Srt ats D ∧ (∀ t, fib ats D t = fib ats (due N ats L) t) ∧ Fr w w' O ∧ w'.ownsRow w.heap.size 3 1 v D.length (D.map fun x => Value.int .i64 (ids x : Int)) ∧
      ∃ ls' us', WH w' b m O N (rest N ats L) ls' us' ids ats := by
  refine adv2_walk b t w (fun w1 => ∃ N : Nat, (N : Int) = max (now : Int) t ∧ Fr w w1 O ∧ w1.heap.size = w.heap.size ∧ ∃ ls' us', WH w1 b m O N L ls' us' ids ats) _ (turn_any h hT h0 t ht) ?_
  rintro w1 ⟨N, hN, hf, hs, ls', us', hW⟩
  refine (takeOver_any hW hL).mono ?_
  rintro e w' ⟨D, v, rfl, h1, h2, h3, h4, h5⟩
  refine ⟨v, rfl, D, N, hN, h1, h2, hf.trans h3 (fun _ _ q => q), ?_, h5⟩
  rw [← hs]; exact h4

/-- D has what A has, in the order of the times, and of the same time in A's order. -/
structure SortOf (A D : List (Nat × Nat)) : Prop where
  srt : D.Pairwise fun p q => p.2 ≤ q.2
  fib : ∀ t, D.filter (fun p => decide (p.2 = t)) = A.filter (fun p => decide (p.2 = t))

theorem wa_advance {w : World} {b : Nat} {O : Nat → Prop} {now : Nat} {A : List (Nat × Nat)} (h : WA w b O now A) (hl : A.length < 17592186044416) (hT : TabW w) (h0 : ¬ O 0) (t : Int) (ht : t < 9223372036854775808) :
    Calls Tryd.prog 14 #[.pointer (some ⟨b, 0, none⟩), .int .i64 t] w fun e w' => ∃ v, e = .returned v ∧ ∃ (D : List (Nat × Nat)) (N : Nat), (N : Int) = max (now : Int) t ∧ SortOf (A.filter fun p => decide (p.2 ≤ N)) D ∧ Fr w w' O ∧
      w'.ownsRow w.heap.size 3 1 v D.length (D.map fun p => Value.int .i64 (p.1 : Int)) ∧ WA w' b O N (A.filter fun p => decide (N < p.2)) := by
  obtain ⟨m, L, ls, us, ids, ats, hW, rfl⟩ := h
  refine (advance_any hW (by simpa using hl) hT h0 t ht).mono ?_
  rintro e w' ⟨v, rfl, D, N, hN, h1, h2, h3, h4, ls', us', h5⟩
  refine ⟨v, rfl, D.map (fun x => (ids x, ats x)), N, hN, ⟨?_, ?_⟩, h3, ?_, ⟨m, _, _, _, _, _, h5, ?_⟩⟩
  · rw [List.pairwise_map]; exact h1
  · intro t
    have := h2 t
    rw [List.filter_map, List.filter_map, List.filter_map]
    exact congrArg (List.map fun x => (ids x, ats x)) this
  · rw [List.length_map, List.map_map]; exact h4
  · rw [List.filter_map]; rfl

/-- Such an order is one. -/
theorem sortOf_unique : ∀ {D D' : List (Nat × Nat)}, (D.Pairwise fun p q => p.2 ≤ q.2) → (D'.Pairwise fun p q => p.2 ≤ q.2) → (∀ t, D.filter (fun p => decide (p.2 = t)) = D'.filter (fun p => decide (p.2 = t))) → D = D'
  | [], [], _, _, _ => rfl
  | [], q :: D', _, _, hf => by have := hf q.2; simp at this
  | p :: D, [], _, _, hf => by have := hf p.2; simp at this
  | p :: D, q :: D', h, k, hf => by
    have hpq : p.2 = q.2 := by
      have h1 : p ∈ (q :: D').filter (fun z => decide (z.2 = p.2)) := by rw [← hf p.2]; simp
      have h2 : q ∈ (p :: D).filter (fun z => decide (z.2 = q.2)) := by rw [hf q.2]; simp
      have e1 : q.2 ≤ p.2 := by
        rcases List.mem_cons.1 (List.mem_filter.1 h1).1 with e | e
        · rw [e]; exact Nat.le_refl _
        · exact (List.pairwise_cons.1 k).1 p e
      have e2 : p.2 ≤ q.2 := by
        rcases List.mem_cons.1 (List.mem_filter.1 h2).1 with e | e
        · rw [e]; exact Nat.le_refl _
        · exact (List.pairwise_cons.1 h).1 q e
      omega
    have hp := hf p.2
    rw [List.filter_cons, List.filter_cons, if_pos (by simp), if_pos (by simp [hpq])] at hp
    have hpe : p = q := (List.cons.inj hp).1
    subst hpe
    congr 1
    refine sortOf_unique (List.pairwise_cons.1 h).2 (List.pairwise_cons.1 k).2 fun t => ?_
    have ht := hf t
    rw [List.filter_cons, List.filter_cons] at ht
    by_cases e : p.2 = t
    · rw [if_pos (by simp [e]), if_pos (by simp [e])] at ht
      exact (List.cons.inj ht).2
    · rw [if_neg (by simp [e]), if_neg (by simp [e])] at ht
      exact ht
theorem SortOf.eq {A D D' : List (Nat × Nat)} (h : SortOf A D) (k : SortOf A D') : D = D' := sortOf_unique h.srt k.srt fun t => (h.fib t).trans (k.fib t).symm
end Go.Proofs.YtogdekjklbbbiaaDoor
