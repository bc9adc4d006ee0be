import Derived.Test.YtogdekjklbbbiaaGreatDoorPush
set_option maxRecDepth 100000
namespace Go.Proofs.YtogdekjklbbbiaaGreatDoor
open Go.ChangeShapes Go.WideShapes Go.ChangeAt Go.RowKit
set_option linter.unusedSimpArgs false
set_option linter.unusedVariables false

theorem wrap64 {v : Int} (h : -9223372036854775808 ≤ v) (h' : v < 9223372036854775808) : IntKind.i64.wrap v = v := by rw [IntKind.wrap_i64]; omega
set_option maxHeartbeats 0 in
theorem accrue_walk (x : Nat) (c0 r bu rk ck c1 e1 : Int) (w : World)
    (h1 : w.cell? ⟨x, 1, none⟩ = some (.int .i64 r)) (h2 : w.cell? ⟨x, 2, none⟩ = some (.int .i64 bu)) (h3 : w.cell? ⟨x, 3, none⟩ = some (.int .i64 c0)) (h4 : w.cell? ⟨x, 4, none⟩ = some (.int .i64 rk))
    (hf : ∀ o, w.frozen? ⟨x, o, none⟩ = false) (hb0 : 0 ≤ bu) (hb1 : bu ≤ 1000000) (hrk0 : 0 ≤ rk) (hrk1 : rk ≤ ck) (hck : ck < 9223372036854775808)
    (hA : ∀ W, Calls Tryz.prog 138 #[.int .i64 c0, .int .i64 r, .int .i64 (bu * 1000000000), .int .i64 (ck - rk)] W fun e w' => e = .returned (.tuple #[.int .i64 c1, .int .i64 e1]) ∧ w' = W) :
    Calls Tryz.prog 110 #[.pointer (some ⟨x, 0, none⟩), .int .i64 ck] w fun e w' => e = .returned (.tuple #[]) ∧ Ch w w' (fun a o => a = x ∧ (o = 3 ∨ o = 4)) ∧ w'.cell? ⟨x, 3, none⟩ = some (.int .i64 c1) ∧ w'.cell? ⟨x, 4, none⟩ = some (.int .i64 ck) := by
  have f3 := hf 3
  have f4 := hf 4
  have HA := hide hA
  have W1 := hide (wrap64 (v := bu * 1000000000) (by omega) (by omega))
  have W2 := hide (wrap64 (v := ck - rk) (by omega) (by omega))
  clear hA hf
  go_enter Tryz.func110, Tryz.ntmps110
  go_wp2_with fail
  go_region_with (first | (go_at_call 138; rw [unhide W1, unhide W2]; refine (unhide HA _).mono ?_; rintro e w1 ⟨rfl, hw1⟩; rw [hw1]; clear hw1))
  all_goals go_wp2_with fail
  all_goals go_end0
  all_goals refine ⟨rfl, ?_, by simp [cset, ↓isSome_set, h3, h4], by simp [cset, ↓isSome_set, h3, h4]⟩
  all_goals (repeat (first | exact Ch.refl _ _ | refine Ch.drew ?_ | refine Ch.setCell ?_ ⟨rfl, by omega⟩ _))
end Go.Proofs.YtogdekjklbbbiaaGreatDoor
