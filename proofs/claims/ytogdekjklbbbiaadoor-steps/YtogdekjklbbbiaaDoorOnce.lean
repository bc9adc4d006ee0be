import Derived.Test.YtogdekjklbbbiaaDoorAds
set_option maxRecDepth 100000
namespace Go.Proofs.YtogdekjklbbbiaaDoor
open Go.ChangeShapes Go.WideShapes Go.ChangeAt Go.RowKit
set_option linter.unusedSimpArgs false
set_option linter.unusedVariables false

def upTo (n : Nat) (A : List (Nat × Nat)) : List (Nat × Nat) := A.filter fun p => decide (p.2 ≤ n)
def beyond (n : Nat) (A : List (Nat × Nat)) : List (Nat × Nat) := A.filter fun p => decide (n < p.2)

theorem SortOf.mem {A D : List (Nat × Nat)} (h : SortOf A D) (p : Nat × Nat) : p ∈ D ↔ p ∈ A := by
  have e := h.fib p.2
  constructor
  · intro q
    have : p ∈ D.filter (fun z => decide (z.2 = p.2)) := by simp [q]
    rw [e] at this
    exact (List.mem_filter.1 this).1
  · intro q
    have : p ∈ A.filter (fun z => decide (z.2 = p.2)) := by simp [q]
    rw [← e] at this
    exact (List.mem_filter.1 this).1
theorem SortOf.len {A D : List (Nat × Nat)} (h : SortOf A D) : D.length = A.length := by
  apply List.Perm.length_eq
  rw [List.perm_iff_count]
  intro p
  have e : ∀ X : List (Nat × Nat), X.count p = (X.filter (fun z => decide (z.2 = p.2))).count p := fun X => by rw [List.count_filter (by simp)]
  rw [e, h.fib, ← e]
theorem SortOf.nil {D : List (Nat × Nat)} (h : SortOf [] D) : D = [] := List.eq_nil_of_length_eq_zero h.len
theorem parts (n : Nat) (A : List (Nat × Nat)) : (upTo n A).length + (beyond n A).length = A.length := by
  unfold upTo beyond
  induction A with
  | nil => rfl
  | cons p r ih =>
    rw [List.filter_cons, List.filter_cons]
    by_cases q : p.2 ≤ n
    · rw [if_pos (by simp [q]), if_neg (by simp; omega)]; simp only [List.length_cons]; omega
    · rw [if_neg (by simp [q]), if_pos (by simp; omega)]; simp only [List.length_cons]; omega
theorem beyond_beyond {n m : Nat} (h : n ≤ m) (A : List (Nat × Nat)) : beyond m (beyond n A) = beyond m A := by
  unfold beyond
  rw [List.filter_filter]
  apply List.filter_congr
  intro p _
  by_cases q : m < p.2
  · have : n < p.2 := by omega
    simp [q, this]
  · simp [q]
theorem upTo_beyond {n : Nat} (A : List (Nat × Nat)) : upTo n (beyond n A) = [] := by
  unfold upTo beyond
  rw [List.filter_filter, List.filter_eq_nil_iff]
  intro p _
  simp
/-- Step by step, or at once. -/
theorem SortOf.join {A D D1 : List (Nat × Nat)} {n m : Nat} (h : SortOf (upTo n A) D) (k : SortOf (upTo m (beyond n A)) D1) (hnm : n ≤ m) : SortOf (upTo m A) (D ++ D1) := by
  constructor
  · rw [List.pairwise_append]
    refine ⟨h.srt, k.srt, fun p hp q hq => ?_⟩
    have h1 := (List.mem_filter.1 ((h.mem p).1 hp)).2
    have h2 := (List.mem_filter.1 (List.mem_filter.1 ((k.mem q).1 hq)).1).2
    simp at h1 h2
    omega
  · intro t
    rw [List.filter_append, h.fib, k.fib]
    unfold upTo beyond
    rw [List.filter_filter, List.filter_filter, List.filter_filter, List.filter_filter]
    by_cases q : t ≤ n
    · have e1 : (A.filter fun p => decide (p.2 = t) && (decide (p.2 ≤ m) && decide (n < p.2))) = [] := by
        rw [List.filter_eq_nil_iff]
        intro p _
        simp
        omega
      have e1' : (A.filter fun p => (decide (p.2 = t) && decide (p.2 ≤ m)) && decide (n < p.2)) = [] := by
        rw [List.filter_eq_nil_iff]
        intro p _
        simp
        omega
      first | rw [e1] | rw [e1']
      rw [List.append_nil]
      apply List.filter_congr
      intro p _
      by_cases e : p.2 = t
      · simp [e]; omega
      · simp [e]
    · have e1 : (A.filter fun p => decide (p.2 = t) && decide (p.2 ≤ n)) = [] := by
        rw [List.filter_eq_nil_iff]
        intro p _
        simp
        omega
      rw [e1, List.nil_append]
      apply List.filter_congr
      intro p _
      by_cases e : p.2 = t
      · have : n < t := by omega
        simp [e, this]
      · simp [e]
end Go.Proofs.YtogdekjklbbbiaaDoor
