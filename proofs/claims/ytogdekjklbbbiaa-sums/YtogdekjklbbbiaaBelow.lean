import Derived.Test.YtogdekjklbbbiaaLimbs
namespace Go.Proofs.Ytogdekjklbbbiaa
open Go.ChangeShapes Go.WideShapes Go.ChangeAt Go.RowKit
set_option maxHeartbeats 1000000 in
theorem below_any (x0 x1 x2 x3 x4 y0 y1 y2 y3 y4 : Int) (hx0 : 0 ≤ x0 ∧ x0 < 2147483648) (hx1 : 0 ≤ x1 ∧ x1 < 2147483648) (hx2 : 0 ≤ x2 ∧ x2 < 2147483648) (hx3 : 0 ≤ x3 ∧ x3 < 2147483648)
    (hy0 : 0 ≤ y0 ∧ y0 < 2147483648) (hy1 : 0 ≤ y1 ∧ y1 < 2147483648) (hy2 : 0 ≤ y2 ∧ y2 < 2147483648) (hy3 : 0 ≤ y3 ∧ y3 < 2147483648) (w : World) :
    Calls Try.prog 17 #[.agg #[.int .i64 x0, .int .i64 x1, .int .i64 x2, .int .i64 x3, .int .i64 x4], .agg #[.int .i64 y0, .int .i64 y1, .int .i64 y2, .int .i64 y3, .int .i64 y4]] w fun e w' =>
      ∃ b : Bool, e = .returned (.bool b) ∧ (b = true ↔ x0 + 2147483648 * x1 + 4611686018427387904 * x2 + 9903520314283042199192993792 * x3 + 21267647932558653966460912964485513216 * x4 < y0 + 2147483648 * y1 + 4611686018427387904 * y2 + 9903520314283042199192993792 * y3 + 21267647932558653966460912964485513216 * y4) ∧ Grown w w' := by
  go_enter Try.func17, Try.ntmps17
  go_wp2_with fail
  refine wp_loop_rounds 6 ?_
  rw [rounds_succ]; go_wp2; go_quiet (fail); go_wp2
  · have H4 : Hid ((x4 != y4) = true) := ‹(x4 != y4) = true›
    go_quiet (fail)
    go_wp2
    go_ret
    have g4 : x4 ≠ y4 := by simpa using unhide H4
    refine ⟨decide (x4 < y4), rfl, ?_, ?_⟩
    · rw [decide_eq_true_iff]; omega
    · repeat (with_reducible refine Grown.drewN ?_ _)
      go_grown
  have g4 : x4 = y4 := by simpa using ‹(x4 != y4) = false›
  have G4 := hide g4; clear g4
  rw [rounds_succ]; go_wp2; go_quiet (fail); go_wp2
  · have H3 : Hid ((x3 != y3) = true) := ‹(x3 != y3) = true›
    go_quiet (fail)
    go_wp2
    go_ret
    have g3 : x3 ≠ y3 := by simpa using unhide H3
    have := unhide G4
    refine ⟨decide (x3 < y3), rfl, ?_, ?_⟩
    · rw [decide_eq_true_iff]; omega
    · repeat (with_reducible refine Grown.drewN ?_ _)
      go_grown
  have g3 : x3 = y3 := by simpa using ‹(x3 != y3) = false›
  have G3 := hide g3; clear g3
  rw [rounds_succ]; go_wp2; go_quiet (fail); go_wp2
  · have H2 : Hid ((x2 != y2) = true) := ‹(x2 != y2) = true›
    go_quiet (fail)
    go_wp2
    go_ret
    have g2 : x2 ≠ y2 := by simpa using unhide H2
    have := unhide G4; have := unhide G3
    refine ⟨decide (x2 < y2), rfl, ?_, ?_⟩
    · rw [decide_eq_true_iff]; omega
    · repeat (with_reducible refine Grown.drewN ?_ _)
      go_grown
  have g2 : x2 = y2 := by simpa using ‹(x2 != y2) = false›
  have G2 := hide g2; clear g2
  rw [rounds_succ]; go_wp2; go_quiet (fail); go_wp2
  · have H1 : Hid ((x1 != y1) = true) := ‹(x1 != y1) = true›
    go_quiet (fail)
    go_wp2
    go_ret
    have g1 : x1 ≠ y1 := by simpa using unhide H1
    have := unhide G4; have := unhide G3; have := unhide G2
    refine ⟨decide (x1 < y1), rfl, ?_, ?_⟩
    · rw [decide_eq_true_iff]; omega
    · repeat (with_reducible refine Grown.drewN ?_ _)
      go_grown
  have g1 : x1 = y1 := by simpa using ‹(x1 != y1) = false›
  have G1 := hide g1; clear g1
  rw [rounds_succ]; go_wp2; go_quiet (fail); go_wp2
  · have H0 : Hid ((x0 != y0) = true) := ‹(x0 != y0) = true›
    go_quiet (fail)
    go_wp2
    go_ret
    have g0 : x0 ≠ y0 := by simpa using unhide H0
    have := unhide G4; have := unhide G3; have := unhide G2; have := unhide G1
    refine ⟨decide (x0 < y0), rfl, ?_, ?_⟩
    · rw [decide_eq_true_iff]; omega
    · repeat (with_reducible refine Grown.drewN ?_ _)
      go_grown
  have g0 : x0 = y0 := by simpa using ‹(x0 != y0) = false›
  have G0 := hide g0; clear g0
  rw [rounds_succ]; go_wp2
  go_ret
  refine ⟨false, rfl, ?_, ?_⟩
  · have := unhide G0; have := unhide G1; have := unhide G2; have := unhide G3; have := unhide G4
    simp only [Bool.false_eq_true, false_iff]; omega
  · repeat (with_reducible refine Grown.drewN ?_ _)
    go_grown
end Go.Proofs.Ytogdekjklbbbiaa
