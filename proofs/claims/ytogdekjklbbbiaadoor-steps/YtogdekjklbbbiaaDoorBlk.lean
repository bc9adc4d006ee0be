import Derived.Test.YtogdekjklbbbiaaDoorInsS
namespace Go.Proofs.YtogdekjklbbbiaaDoor
set_option linter.unusedSimpArgs false
set_option linter.unusedVariables false

/-- D is a stable rearrangement of D0 in which every block of bs from the place s on, up to the place e, is sorted. -/
structure Blk (ats : Nat → Nat) (D0 D : List Nat) : Prop where
  len : D.length = D0.length
  fibs : ∀ t, fib ats D t = fib ats D0 t
def Run (ats : Nat → Nat) (D : List Nat) (s e : Nat) : Prop := Srt ats ((D.drop s).take (e - s))

theorem cut3 (D : List Nat) (s e : Nat) (hs : s ≤ e) : D = D.take s ++ (D.drop s).take (e - s) ++ D.drop e := by
  have h1 : D.drop e = (D.drop s).drop (e - s) := by rw [List.drop_drop]; congr 1; omega
  rw [h1, List.append_assoc, List.take_append_drop, List.take_append_drop]
theorem Blk.sub {ats : Nat → Nat} {D0 P X Q M : List Nat} (h : Blk ats D0 (P ++ X ++ Q)) (hl : M.length = X.length) (hf : ∀ t, fib ats M t = fib ats X t) : Blk ats D0 (P ++ M ++ Q) :=
  ⟨by rw [← h.len]; simp [hl], fun t => by rw [← h.fibs t]; simp only [fib_append, hf t]⟩
/-- A run ahead of a piece, or behind it, is as it was when that piece has been rearranged. -/
theorem run_kept {ats : Nat → Nat} {P X Q M : List Nat} (hl : M.length = X.length) {s e : Nat} (h : Run ats (P ++ X ++ Q) s e) (hd : e ≤ P.length ∨ P.length + X.length ≤ s) : Run ats (P ++ M ++ Q) s e := by
  unfold Run at *
  rcases hd with hd | hd
  · have e1 : ∀ Y : List Nat, ((P ++ Y ++ Q).drop s).take (e - s) = (P.drop s).take (e - s) := by
      intro Y
      by_cases hs : s ≤ P.length
      · rw [List.append_assoc, List.drop_append_of_le_length hs, List.take_append_of_le_length (by rw [List.length_drop]; omega)]
      · have : e - s = 0 := by omega
        rw [this]; simp
    rw [e1] at h ⊢
    exact h
  · have e1 : ∀ Y : List Nat, Y.length = X.length → (P ++ Y ++ Q).drop s = Q.drop (s - (P.length + X.length)) := by
      intro Y hY
      rw [List.drop_append, List.drop_eq_nil_of_le (by simp; omega)]
      simp [hY]
    rw [e1 M hl]
    rw [e1 X rfl] at h
    exact h
theorem run_new {ats : Nat → Nat} {P M Q : List Nat} (h : Srt ats M) : Run ats (P ++ M ++ Q) P.length (P.length + M.length) := by
  unfold Run
  rw [List.append_assoc, List.drop_left, show P.length + M.length - P.length = M.length by omega, List.take_left]
  exact h
theorem Run.whole {ats : Nat → Nat} {D : List Nat} {e : Nat} (h : Run ats D 0 e) (he : D.length ≤ e) : Srt ats D := by
  unfold Run at h
  rw [List.drop_zero, List.take_of_length_le (by omega)] at h
  exact h
theorem Run.cut {ats : Nat → Nat} {D : List Nat} {s e e' : Nat} (h : Run ats D s e) (he : e' ≤ e) : Run ats D s e' := by
  unfold Run at *
  have : (D.drop s).take (e' - s) = ((D.drop s).take (e - s)).take (e' - s) := by rw [List.take_take]; congr 1; omega
  rw [this]
  exact List.Pairwise.sublist (List.take_sublist _ _) h
theorem Run.long {ats : Nat → Nat} {D : List Nat} {s e e' : Nat} (h : Run ats D s e) (he : D.length ≤ e) : Run ats D s e' := by
  unfold Run at *
  rw [List.take_of_length_le (by rw [List.length_drop]; omega)] at h
  exact List.Pairwise.sublist (List.take_sublist _ _) h
end Go.Proofs.YtogdekjklbbbiaaDoor
