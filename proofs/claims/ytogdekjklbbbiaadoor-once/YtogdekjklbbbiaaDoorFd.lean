import Derived.Test.YtogdekjklbbbiaaDoorFc
import Derived.Deep.RegionHeld3
set_option maxRecDepth 100000
namespace Go.Proofs.YtogdekjklbbbiaaDoor
open Go.ChangeShapes Go.WideShapes Go.ChangeAt Go.RowKit
set_option linter.unusedSimpArgs false
set_option linter.unusedVariables false

set_option maxHeartbeats 1000000 in
theorem parm_walk (b x wb : Nat) (num q ck at' adm rate : Int) (w : World) (R R2 Post : World → Prop)
    (hS0 : w.cell? ⟨b, 5, none⟩ = some (.pointer (some ⟨wb, 0, none⟩)) ∧ w.cell? ⟨x, 0, none⟩ = some (.int .i64 num) ∧ w.cell? ⟨b, 0, none⟩ = some (.int .i64 q) ∧ w.cell? ⟨b, 1, none⟩ = some (.int .i64 ck))
    (hS : ∀ W, (R W ∨ R2 W ∨ Post W) → W.cell? ⟨b, 5, none⟩ = some (.pointer (some ⟨wb, 0, none⟩)) ∧ W.cell? ⟨x, 0, none⟩ = some (.int .i64 num) ∧ W.cell? ⟨b, 0, none⟩ = some (.int .i64 q) ∧ W.cell? ⟨b, 1, none⟩ = some (.int .i64 ck))
    (hC : ∀ n, Calls Tryd.prog 33 #[.pointer (some ⟨wb, 0, none⟩), .int .i64 num] (w.drewN n) fun e w' => ∃ v : Int, e = .returned (.int .i64 v) ∧ R w')
    (hR : ∀ w1, R w1 → w1.cell? ⟨x, 6, none⟩ = some (.int .i64 adm) ∧ w1.cell? ⟨x, 1, none⟩ = some (.int .i64 rate))
    (hN : ¬ (0 < adm ∧ 0 < rate) → ∀ w1, R w1 → Post w1)
    (hA : 0 < adm ∧ 0 < rate → ∀ w1, R w1 → ∀ n, Calls Tryd.prog 95 #[.pointer (some ⟨x, 0, none⟩), .int .i64 q, .int .i64 ck] (w1.drewN n) fun e w' => e = .returned (.int .i64 at') ∧ R2 w')
    (hI : 0 < adm ∧ 0 < rate → ∀ w2, R2 w2 → Calls Tryd.prog 11 #[.pointer (some ⟨wb, 0, none⟩), .int .i64 num, .int .i64 at'] w2 fun e w' => ∃ v : Int, e = .returned (.int .i64 v) ∧ Post w') :
    Calls Tryd.prog 82 #[.pointer (some ⟨b, 0, none⟩), .pointer (some ⟨x, 0, none⟩)] w fun e w' => e = .returned (.tuple #[]) ∧ Post w' := by
  have HS := hide hS; have HC := hide hC; have HR := hide hR; have HN := hide hN; have HA := hide hA; have HI := hide hI
  clear hS hC hR hN hA hI
  go_enter Tryd.func82, Tryd.ntmps82
  go_wp2_with fail
  go_region_held3 (fun W => W.cell? ⟨b, 5, none⟩ = some (.pointer (some ⟨wb, 0, none⟩)) ∧ W.cell? ⟨x, 0, none⟩ = some (.int .i64 num) ∧ W.cell? ⟨b, 0, none⟩ = some (.int .i64 q) ∧ W.cell? ⟨b, 1, none⟩ = some (.int .i64 ck)) (first | exact hS0 | exact hS1)
    (first | (go_at_call 33; refine (unhide HC 1).mono ?_; rintro e w1 ⟨v, rfl, hw1⟩; have HW1 := hide hw1; have hS1 := unhide HS _ (.inl hw1); clear hw1))
  all_goals
    obtain ⟨h6, h1⟩ := unhide HR _ (unhide HW1)
    by_cases ha : 0 < adm
    · by_cases hr : 0 < rate
      · have HA1 := hide (unhide HA ⟨ha, hr⟩ _ (unhide HW1) 1)
        have HI1 := hide (unhide HI ⟨ha, hr⟩)
        go_wp2_with fail
        go_region_held3 (fun W => W.cell? ⟨b, 5, none⟩ = some (.pointer (some ⟨wb, 0, none⟩)) ∧ W.cell? ⟨x, 0, none⟩ = some (.int .i64 num) ∧ W.cell? ⟨b, 0, none⟩ = some (.int .i64 q) ∧ W.cell? ⟨b, 1, none⟩ = some (.int .i64 ck)) (first | exact hS1 | exact hS2 | exact hS3)
          (first
            | (go_at_call 95; refine (unhide HA1).mono ?_; rintro e w2 ⟨rfl, hw2⟩; have HW2 := hide hw2; have hS2 := unhide HS _ (.inr (.inl hw2)); clear hw2)
            | (go_at_call 11; refine (unhide HI1 _ (unhide HW2)).mono ?_; rintro e w3 ⟨v3, rfl, hw3⟩; have HW3 := hide hw3; have hS3 := unhide HS _ (.inr (.inr hw3)); clear hw3))
        all_goals go_wp2_with fail
        all_goals go_end0
        all_goals exact ⟨rfl, unhide HW3⟩
      · have hr' : decide (0 < rate) = false := by simp; omega
        have HP := hide (unhide HN (by omega) _ (unhide HW1))
        go_wp2_with fail
        go_end0
        exact ⟨rfl, unhide HP⟩
    · have ha' : decide (0 < adm) = false := by simp; omega
      have HP := hide (unhide HN (by omega) _ (unhide HW1))
      go_wp2_with fail
      go_end0
      exact ⟨rfl, unhide HP⟩
end Go.Proofs.YtogdekjklbbbiaaDoor
