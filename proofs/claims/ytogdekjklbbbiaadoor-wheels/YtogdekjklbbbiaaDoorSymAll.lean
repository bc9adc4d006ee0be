import Derived.Test.YtogdekjklbbbiaaDoorSym3
import Derived.Test.YtogdekjklbbbiaaDoorStab
namespace Go.Proofs.YtogdekjklbbbiaaDoor
open Go.ChangeShapes Go.WideShapes Go.ChangeAt Go.RowKit
set_option linter.unusedSimpArgs false
set_option linter.unusedVariables false

theorem sym_all (g cap len : Nat) (ats : Nat → Nat) (hl : len < 2305843009213693952) : ∀ k, SymC g cap len ats k := by
  intro k
  induction k with
  | zero => intro a m b P A B Q w _ _ _ _ _ h1 h2 h3; omega
  | succ k ih =>
    intro a m b P A B Q w hD hlen ha hm hb hA hB hk sA sB hK fz
    by_cases e1 : A.length = 1
    · obtain ⟨x, rfl⟩ := List.length_eq_one_iff.1 e1
      refine (sym_one g cap a m b len x P B Q ats w (by simpa using hD) (by simpa using hlen) ha (by simpa using hm) (by simpa using hb) (by omega) sB (by simpa using hK) fz)
    · by_cases e2 : B.length = 1
      · obtain ⟨x, rfl⟩ := List.length_eq_one_iff.1 e2
        refine (sym_last g cap a m b len x P A Q ats w (by simpa using hD) (by simpa using hlen) ha hm (by simpa using hb) e1 (by omega) sA (fun z hz => hK z (by rcases List.mem_cons.1 hz with q | q <;> simp [q])) fz)
      · exact sym_gen g cap a m b len k P A B Q ats w hD hlen ha hm hb (by omega) (by omega) hk hl sA sB hK fz ih
theorem symD_all (g cap len : Nat) (ats : Nat → Nat) (hl : len < 2305843009213693952) : SymD g cap len ats := by
  intro a m b P A B Q w hD hlen ha hm hb hA hB sA sB hK fz
  exact sym_all g cap len ats hl (A.length + B.length) a m b P A B Q w hD hlen ha hm hb hA hB (Nat.le_refl _) sA sB hK fz
end Go.Proofs.YtogdekjklbbbiaaDoor
