import Derived.Test.YtogdekjklbbbiaaDoorTurn3
import Derived.Deep.LoopGhost
set_option maxRecDepth 100000
namespace Go.Proofs.YtogdekjklbbbiaaDoor
open Go.ChangeShapes Go.WideShapes Go.ChangeAt Go.RowKit
set_option linter.unusedSimpArgs false
set_option linter.unusedVariables false

set_option maxRecDepth 100000 in
set_option maxHeartbeats 2000000 in
theorem wheels_walk (sa : Option Addr) (n c : Nat) (w : World) (hb : n < 8796093022208) (hsa : 0 < n → ∃ g o, sa = some ⟨g, o, none⟩)
    (R0 : Nat → World → Prop) (R1 : Nat → Nat → World → Prop) (R : Nat → Nat → Nat → Nat → Nat → World → Prop) (R3 : Nat → Nat → World → Prop) (Post : World → Prop)
    (hN1 : Calls Tryd.prog 9 #[] w fun e w' => ∃ b, e = .returned (.pointer (some ⟨b, 0, none⟩)) ∧ R0 b w')
    (hN2 : ∀ b wr, R0 b wr → Calls Tryd.prog 9 #[] wr fun e w' => ∃ b', e = .returned (.pointer (some ⟨b', 0, none⟩)) ∧ R1 b b' w')
    (hR : ∀ b b' wr, R1 b b' wr → R b b' wr.heap.size (wr.heap.size + 1) 0 ((wr.alloc (.cells #[.int .i64 0, .slice none 0 0] 28)).alloc (.cells #[.int .i64 0, .slice none 0 0] 28)))
    (hT : ∀ b b' d d' k wr, R b b' d d' k wr → k < n → ∃ kk x y z : Int, (∀ g o, sa = some ⟨g, o, none⟩ → wr.cell? ⟨g, o + k * 4, none⟩ = some (.int .i64 kk) ∧ wr.cell? ⟨g, o + k * 4 + 1, none⟩ = some (.int .i64 x) ∧ wr.cell? ⟨g, o + k * 4 + 2, none⟩ = some (.int .i64 y) ∧ wr.cell? ⟨g, o + k * 4 + 3, none⟩ = some (.int .i64 z)) ∧
      (Calls Tryd.prog 10 #[.pointer (some ⟨b, 0, none⟩), .pointer (some ⟨d, 0, none⟩), .agg #[.int .i64 kk, .int .i64 x, .int .i64 y, .int .i64 z]] wr fun e w' => e = .returned (.bool true) ∧ R b b' d d' (k + 1) w') ∧
      (Calls Tryd.prog 10 #[.pointer (some ⟨b', 0, none⟩), .pointer (some ⟨d', 0, none⟩), .agg #[.int .i64 kk, .int .i64 x, .int .i64 y, .int .i64 z]] wr fun e w' => e = .returned (.bool true) ∧ R b b' d d' (k + 1) w'))
    (hE1 : ∀ b b' d d' wr, R b b' d d' n wr → Calls Tryd.prog 10 #[.pointer (some ⟨b, 0, none⟩), .pointer (some ⟨d, 0, none⟩), .agg #[.int .i64 0, .int .i64 0, .int .i64 0, .int .i64 0]] wr fun e w' => e = .returned (.bool true) ∧ R3 b' d' w')
    (hE2 : ∀ b' d' wr, R3 b' d' wr → Calls Tryd.prog 10 #[.pointer (some ⟨b', 0, none⟩), .pointer (some ⟨d', 0, none⟩), .agg #[.int .i64 0, .int .i64 0, .int .i64 0, .int .i64 0]] wr fun e w' => e = .returned (.bool true) ∧ Post w') :
    Calls Tryd.prog 3 #[.slice sa n c] w fun e w' => e = .returned (.bool true) ∧ Post w' := by
  have HN1 := hide hN1; have HN2 := hide hN2; have HRr := hide hR; have HT := hide hT; have HE1 := hide hE1; have HE2 := hide hE2; have HSA := hide hsa
  clear hN1 hN2 hR hT hE1 hE2 hsa
  go_enter Tryd.func3, Tryd.ntmps3
  go_wp2_with fail
  refine (unhide HN1).mono ?_
  rintro e w1 ⟨b, rfl, hR0⟩
  have HR0 := hide hR0
  clear hR0
  go_wp2_with fail
  refine (unhide HN2 _ _ (unhide HR0)).mono ?_
  rintro e w2 ⟨b', rfl, hR1⟩
  have HR1 := hide hR1
  clear hR1 HR0
  have HR2 := hide (unhide HRr _ _ _ (unhide HR1))
  go_wp2_with fail
  go_loopg [7] n (fun gk vi wr => ∃ k : Nat, vi = .int .i64 (k : Int) ∧ gk = n - k ∧ k ≤ n ∧ R b b' w2.heap.size (w2.heap.size + 1) k wr)
  case atStart => exact ⟨0, rfl, rfl, Nat.zero_le _, unhide HR2⟩
  case round =>
    obtain ⟨k, hu, hgk, hkn, hRk⟩ := hrel
    rw [hu]
    clear hu HR1 HR2
    have HG := hide hgk; have HRk := hide hRk
    clear hgk hRk
    by_cases hk : k < n
    · have hki : (k : Int) < (n : Int) := by omega
      have hk0 : (0 : Int) ≤ (k : Int) := by omega
      obtain ⟨kk, x, y, z, hcs, hc1, hc2⟩ := unhide HT _ _ _ _ _ _ (unhide HRk) hk
      obtain ⟨g, o, rfl⟩ := unhide HSA (by omega)
      obtain ⟨e1, e2, e3, e4⟩ := hcs g o rfl
      have HC1 := hide hc1; have HC2 := hide hc2
      clear hcs hc1 hc2
      cases hbit : (bits BinOp.and IntKind.i64 z 1 == 0) with
      | true =>
        go_wp2_with fail
        refine (unhide HC1).mono ?_
        rintro e w5 ⟨rfl, hR5⟩
        have HR5 := hide hR5
        clear hR5
        go_wp2_with fail
        go_roundg (n - (k + 1))
        case measure => rw [unhide HG]; omega
        case rel => exact ⟨k + 1, by simp, rfl, by omega, unhide HR5⟩
      | false =>
        go_wp2_with fail
        refine (unhide HC2).mono ?_
        rintro e w5 ⟨rfl, hR5⟩
        have HR5 := hide hR5
        clear hR5
        go_wp2_with fail
        go_roundg (n - (k + 1))
        case measure => rw [unhide HG]; omega
        case rel => exact ⟨k + 1, by simp, rfl, by omega, unhide HR5⟩
    · have hki : ¬ (k : Int) < (n : Int) := by omega
      have hkn' : k = n := by omega
      have HRn : Hid (R b b' w2.heap.size (w2.heap.size + 1) n wr) := by rw [← hkn']; exact unhide HRk
      clear hkn'
      go_wp2_with fail
      refine (unhide HE1 _ _ _ _ _ (unhide HRn)).mono ?_
      rintro e w5 ⟨rfl, hR5⟩
      have HR5 := hide hR5
      clear hR5
      go_wp2_with fail
      refine (unhide HE2 _ _ _ (unhide HR5)).mono ?_
      rintro e w6 ⟨rfl, hp⟩
      have HP := hide hp
      clear hp
      go_wp2_with fail
      go_ret
      exact ⟨rfl, unhide HP⟩
end Go.Proofs.YtogdekjklbbbiaaDoor
