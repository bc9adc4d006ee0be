import Derived.Test.YtogdekjklbbbiaaDoorFg
set_option maxRecDepth 100000
namespace Go.Proofs.YtogdekjklbbbiaaDoor
open Go.ChangeShapes Go.WideShapes Go.ChangeAt Go.RowKit
set_option linter.unusedSimpArgs false
set_option linter.unusedVariables false

/-- How a release ends. -/
def RelEnd (wr w' : World) (b L s0 np : Nat) (v : Value) : Prop := Ch wr w' (fun a o => a = b ∧ o = 8) ∧ w'.cell? ⟨b, 8, none⟩ = some (.int .i64 ((s0 + np : Nat) : Int)) ∧ wr.cell? ⟨L, 0, none⟩ = some v
set_option maxHeartbeats 2000000 in
theorem release_walk (b wb : Nat) (ck budget : Int) (w : World) (R0 : World → Prop) (R : Nat → Nat → Nat → World → Prop) (R1 : Nat → Nat → Nat → Nat → Nat → World → Prop) (R2 : Nat → Nat → Nat → Nat → World → Prop) (RE : Nat → Nat → World → Prop)
    (hS0 : w.cell? ⟨b, 5, none⟩ = some (.pointer (some ⟨wb, 0, none⟩)) ∧ w.cell? ⟨b, 1, none⟩ = some (.int .i64 ck))
    (hT : ∀ m, Calls Tryd.prog 38 #[.pointer (some ⟨wb, 0, none⟩), .int .i64 ck] (w.drewN m) fun e w' => e = .returned (.tuple #[]) ∧ R0 w')
    (hS1 : ∀ w1, R0 w1 → w1.cell? ⟨b, 5, none⟩ = some (.pointer (some ⟨wb, 0, none⟩)) ∧ w1.cell? ⟨b, 1, none⟩ = some (.int .i64 ck))
    (hN : ∀ w1, R0 w1 → Calls Tryd.prog 83 #[.pointer (some ⟨b, 0, none⟩)] w1 fun e w' => ∃ L gk, e = .returned (.pointer (some ⟨L, 0, none⟩)) ∧ R L 0 gk w')
    (hc : ∀ L nb gk wr, R L nb gk wr → nb ≤ 64 ∧ (∃ a c, wr.cell? ⟨L, 0, none⟩ = some (.slice a nb c)) ∧ wr.cell? ⟨b, 5, none⟩ = some (.pointer (some ⟨wb, 0, none⟩)) ∧ wr.cell? ⟨b, 1, none⟩ = some (.int .i64 ck))
    (hF : ∀ L nb gk wr, R L nb gk wr → (nb : Int) < budget → Calls Tryd.prog 84 #[.pointer (some ⟨wb, 0, none⟩)] wr fun e w' => (e = .returned (.tuple #[.int .i64 0, .int .i64 0, .bool false]) ∧ RE L nb w') ∨ ∃ num at' : Nat, e = .returned (.tuple #[.int .i64 (num : Int), .int .i64 (at' : Int), .bool true]) ∧ R1 L nb gk num at' w')
    (hV : ∀ L nb gk num at' w2, R1 L nb gk num at' w2 → ∃ x, (Calls Tryd.prog 49 #[.pointer (some ⟨b, 0, none⟩), .int .i64 (num : Int)] w2 fun e w' => w' = w2 ∧ e = .returned (liveV (some x))) ∧ w2.cell? ⟨b, 1, none⟩ = some (.int .i64 ck) ∧
      Calls Tryd.prog 85 #[.pointer (some ⟨x, 0, none⟩), .int .i64 (at' : Int), .int .i64 ck, .pointer (some ⟨L, 0, none⟩)] w2 fun e w' => e = .returned (.tuple #[]) ∧ R2 L nb gk x w')
    (hM : ∀ L nb gk x w3, R2 L nb gk x w3 → Calls Tryd.prog 82 #[.pointer (some ⟨b, 0, none⟩), .pointer (some ⟨x, 0, none⟩)] w3 fun e w' => e = .returned (.tuple #[]) ∧ ∃ gk', gk' < gk ∧ R L (nb + 1) gk' w')
    (hB : ∀ L nb gk wr, R L nb gk wr → budget ≤ (nb : Int) → RE L nb wr)
    (hE : ∀ L nb wr, RE L nb wr → ∃ s0 np a c a1 c1, wr.cell? ⟨L, 0, none⟩ = some (.slice a nb c) ∧ wr.cell? ⟨L, 1, none⟩ = some (.slice a1 np c1) ∧ np ≤ 1000 ∧ s0 < 9000000000000000000 ∧ wr.cell? ⟨b, 8, none⟩ = some (.int .i64 ((s0 : Nat) : Int)) ∧ wr.frozen? ⟨b, 8, none⟩ = false ∧ b ≠ L) :
    Calls Tryd.prog 58 #[.pointer (some ⟨b, 0, none⟩), .int .i64 budget] w fun e w' => ∃ v, e = .returned v ∧ ∃ L nb wr s0 np a1 c1, RE L nb wr ∧ wr.cell? ⟨L, 1, none⟩ = some (.slice a1 np c1) ∧ wr.cell? ⟨b, 8, none⟩ = some (.int .i64 ((s0 : Nat) : Int)) ∧ RelEnd wr w' b L s0 np v := by
  have HT := hide hT; have HS1 := hide hS1; have HN := hide hN; have HC := hide hc; have HF := hide hF; have HV := hide hV; have HM := hide hM; have HB := hide hB; have HE := hide hE
  clear hT hS1 hN hc hF hV hM hB hE
  go_enter Tryd.func58, Tryd.ntmps58
  go_wp2_with fail
  go_region_held3 (fun W => W.cell? ⟨b, 5, none⟩ = some (.pointer (some ⟨wb, 0, none⟩)) ∧ W.cell? ⟨b, 1, none⟩ = some (.int .i64 ck)) (first | exact hS0 | exact hS1)
    (first | (go_at_call 38; refine (unhide HT 1).mono ?_; rintro e w1 ⟨rfl, hw1⟩; have HW1 := hide hw1; have hS1 := unhide HS1 _ hw1; clear hw1))
  all_goals
    go_wp2_with fail
    refine (unhide HN _ (unhide HW1)).mono ?_
    rintro e w2 ⟨L, g0, rfl, hw2⟩
    have HW2 := hide hw2
    clear hw2
    go_wp2_with fail
    go_loopg [6] g0 (fun gk p wr => ∃ nb, R L nb gk wr)
    case atStart => exact ⟨0, unhide HW2⟩
    case round =>
      obtain ⟨nb, hR⟩ := hrel
      obtain ⟨hnb, ⟨a0, c0, hL0⟩, hb5, hb1⟩ := unhide HC _ _ _ _ hR
      have HR := hide hR
      clear hR
      by_cases hbu : (nb : Int) < budget
      · have HF1 := hide (unhide HF _ _ _ _ (unhide HR) hbu)
        go_wp2_with fail
        refine (unhide HF1).mono ?_
        rintro e w3 (⟨rfl, hw3⟩ | ⟨num, at', rfl, hw3⟩)
        · have HW3 := hide hw3
          obtain ⟨s0, np, a, c, a1, c1, e0, e1, e2, e3, e4, e5, e6⟩ := unhide HE _ _ _ hw3
          clear hw3
          go_wp2_with fail
          go_region
          all_goals
            have hset0 : (w3.setCell ⟨b, 8, none⟩ (.int .i64 ((s0 : Int) + (np : Int)))).cell? ⟨L, 0, none⟩ = some (.slice a nb c) := by
              rw [World.cell?_setCell_other]
              · exact e0
              · intro q; injection q with q; exact e6 q
            go_wp2_with fail
            go_ret
            refine ⟨_, rfl, L, nb, w3, s0, np, a1, c1, unhide HW3, e1, e4, ?_, ?_, e0⟩
            · repeat (first | exact Ch.refl _ _ | refine Ch.drew ?_ | refine Ch.setCell ?_ ⟨rfl, rfl⟩ _)
            · simp [cset, ↓isSome_set, e4]
        · obtain ⟨x, hv1, hv2, hv3⟩ := unhide HV _ _ _ _ _ _ hw3
          have HV1 := hide hv1; have HV3 := hide hv3
          clear hv1 hv3 hw3
          go_wp2_with fail
          refine (unhide HV1).mono ?_
          rintro e w4 ⟨hw4, rfl⟩
          rw [hw4]
          unfold liveV
          go_wp2_with fail
          refine (unhide HV3).mono ?_
          rintro e w5 ⟨rfl, hw5⟩
          have HM1 := hide (unhide HM _ _ _ _ _ hw5)
          clear hw5
          go_wp2_with fail
          refine (unhide HM1).mono ?_
          rintro e w6 ⟨rfl, g1, hg1, hw6⟩
          have HW6 := hide hw6; have HG1 := hide hg1
          clear hw6 hg1
          go_wp2_with fail
          go_roundg g1
          case measure => exact unhide HG1
          case rel => exact ⟨nb + 1, unhide HW6⟩
      · have hbu' : decide ((nb : Int) < budget) = false := decide_eq_false hbu
        have hw3 := unhide HB _ _ _ _ (unhide HR) (by omega)
        have HW3 := hide hw3
        obtain ⟨s0, np, a, c, a1, c1, e0, e1, e2, e3, e4, e5, e6⟩ := unhide HE _ _ _ hw3
        clear hw3
        go_wp2_with fail
        go_region
        all_goals
          have hset0 : (wr.setCell ⟨b, 8, none⟩ (.int .i64 ((s0 : Int) + (np : Int)))).cell? ⟨L, 0, none⟩ = some (.slice a nb c) := by
            rw [World.cell?_setCell_other]
            · exact e0
            · intro q; injection q with q; exact e6 q
          go_wp2_with fail
          go_ret
          refine ⟨_, rfl, L, nb, wr, s0, np, a1, c1, unhide HW3, e1, e4, ?_, ?_, e0⟩
          · repeat (first | exact Ch.refl _ _ | refine Ch.drew ?_ | refine Ch.setCell ?_ ⟨rfl, rfl⟩ _)
          · simp [cset, ↓isSome_set, e4]
end Go.Proofs.YtogdekjklbbbiaaDoor
