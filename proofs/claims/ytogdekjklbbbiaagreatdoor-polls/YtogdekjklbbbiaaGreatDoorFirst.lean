import Derived.Test.YtogdekjklbbbiaaGreatDoorZ03
namespace Go.Proofs.YtogdekjklbbbiaaGreatDoor
open Go.ChangeShapes Go.WideShapes Go.ChangeAt Go.RowKit
set_option linter.unusedSimpArgs false
set_option linter.unusedVariables false

theorem idx11 (u0 u1 u2 u3 u4 u5 u6 u7 u8 u9 u10 : Int) :
    (∀ w, (Instr.index 121 (.agg #[.int .u64 u0, .int .u64 u1, .int .u64 u2, .int .u64 u3, .int .u64 u4, .int .u64 u5, .int .u64 u6, .int .u64 u7, .int .u64 u8, .int .u64 u9, .int .u64 u10]) (.int .i64 0)).run Tryz.prog w = .ok (.int .u64 u0) w) ∧
    (∀ w, (Instr.index 121 (.agg #[.int .u64 u0, .int .u64 u1, .int .u64 u2, .int .u64 u3, .int .u64 u4, .int .u64 u5, .int .u64 u6, .int .u64 u7, .int .u64 u8, .int .u64 u9, .int .u64 u10]) (.int .i64 1)).run Tryz.prog w = .ok (.int .u64 u1) w) ∧
    (∀ w, (Instr.index 121 (.agg #[.int .u64 u0, .int .u64 u1, .int .u64 u2, .int .u64 u3, .int .u64 u4, .int .u64 u5, .int .u64 u6, .int .u64 u7, .int .u64 u8, .int .u64 u9, .int .u64 u10]) (.int .i64 2)).run Tryz.prog w = .ok (.int .u64 u2) w) ∧
    (∀ w, (Instr.index 121 (.agg #[.int .u64 u0, .int .u64 u1, .int .u64 u2, .int .u64 u3, .int .u64 u4, .int .u64 u5, .int .u64 u6, .int .u64 u7, .int .u64 u8, .int .u64 u9, .int .u64 u10]) (.int .i64 3)).run Tryz.prog w = .ok (.int .u64 u3) w) ∧
    (∀ w, (Instr.index 121 (.agg #[.int .u64 u0, .int .u64 u1, .int .u64 u2, .int .u64 u3, .int .u64 u4, .int .u64 u5, .int .u64 u6, .int .u64 u7, .int .u64 u8, .int .u64 u9, .int .u64 u10]) (.int .i64 4)).run Tryz.prog w = .ok (.int .u64 u4) w) ∧
    (∀ w, (Instr.index 121 (.agg #[.int .u64 u0, .int .u64 u1, .int .u64 u2, .int .u64 u3, .int .u64 u4, .int .u64 u5, .int .u64 u6, .int .u64 u7, .int .u64 u8, .int .u64 u9, .int .u64 u10]) (.int .i64 5)).run Tryz.prog w = .ok (.int .u64 u5) w) ∧
    (∀ w, (Instr.index 121 (.agg #[.int .u64 u0, .int .u64 u1, .int .u64 u2, .int .u64 u3, .int .u64 u4, .int .u64 u5, .int .u64 u6, .int .u64 u7, .int .u64 u8, .int .u64 u9, .int .u64 u10]) (.int .i64 6)).run Tryz.prog w = .ok (.int .u64 u6) w) ∧
    (∀ w, (Instr.index 121 (.agg #[.int .u64 u0, .int .u64 u1, .int .u64 u2, .int .u64 u3, .int .u64 u4, .int .u64 u5, .int .u64 u6, .int .u64 u7, .int .u64 u8, .int .u64 u9, .int .u64 u10]) (.int .i64 7)).run Tryz.prog w = .ok (.int .u64 u7) w) ∧
    (∀ w, (Instr.index 121 (.agg #[.int .u64 u0, .int .u64 u1, .int .u64 u2, .int .u64 u3, .int .u64 u4, .int .u64 u5, .int .u64 u6, .int .u64 u7, .int .u64 u8, .int .u64 u9, .int .u64 u10]) (.int .i64 8)).run Tryz.prog w = .ok (.int .u64 u8) w) ∧
    (∀ w, (Instr.index 121 (.agg #[.int .u64 u0, .int .u64 u1, .int .u64 u2, .int .u64 u3, .int .u64 u4, .int .u64 u5, .int .u64 u6, .int .u64 u7, .int .u64 u8, .int .u64 u9, .int .u64 u10]) (.int .i64 9)).run Tryz.prog w = .ok (.int .u64 u9) w) ∧
    (∀ w, (Instr.index 121 (.agg #[.int .u64 u0, .int .u64 u1, .int .u64 u2, .int .u64 u3, .int .u64 u4, .int .u64 u5, .int .u64 u6, .int .u64 u7, .int .u64 u8, .int .u64 u9, .int .u64 u10]) (.int .i64 10)).run Tryz.prog w = .ok (.int .u64 u10) w) :=
  ⟨fun _ => by kernel_rfl, fun _ => by kernel_rfl, fun _ => by kernel_rfl, fun _ => by kernel_rfl, fun _ => by kernel_rfl, fun _ => by kernel_rfl, fun _ => by kernel_rfl, fun _ => by kernel_rfl, fun _ => by kernel_rfl, fun _ => by kernel_rfl, fun _ => by kernel_rfl⟩

set_option maxHeartbeats 1000000 in
theorem first_0 (b : Nat) (u0 u1 u2 u3 u4 u5 u6 u7 u8 u9 u10 : Int) (w : World)
    (c0 : w.cell? ⟨b, 1412, none⟩ = some (.int .u64 u0))
    (c1 : w.cell? ⟨b, 1413, none⟩ = some (.int .u64 u1))
    (c2 : w.cell? ⟨b, 1414, none⟩ = some (.int .u64 u2))
    (c3 : w.cell? ⟨b, 1415, none⟩ = some (.int .u64 u3))
    (c4 : w.cell? ⟨b, 1416, none⟩ = some (.int .u64 u4))
    (c5 : w.cell? ⟨b, 1417, none⟩ = some (.int .u64 u5))
    (c6 : w.cell? ⟨b, 1418, none⟩ = some (.int .u64 u6))
    (c7 : w.cell? ⟨b, 1419, none⟩ = some (.int .u64 u7))
    (c8 : w.cell? ⟨b, 1420, none⟩ = some (.int .u64 u8))
    (c9 : w.cell? ⟨b, 1421, none⟩ = some (.int .u64 u9))
    (c10 : w.cell? ⟨b, 1422, none⟩ = some (.int .u64 u10))
     (y0 : (u0 != 0) = true) (k : Int) (hc : ∀ w', w' = w → Calls Tryz.prog 119 #[.int .u64 u0] w' fun e w'' => e = .returned (.int .i64 k) ∧ w'' = w') :
    Calls Tryz.prog 72 #[.pointer (some ⟨b, 0, none⟩)] w fun e w' => e = .returned (.tuple #[.int .i64 0, .int .i64 k, .bool true]) ∧ w' = w := by
  obtain ⟨i0, i1, i2, i3, i4, i5, i6, i7, i8, i9, i10⟩ := idx11 u0 u1 u2 u3 u4 u5 u6 u7 u8 u9 u10
  have HC := hide hc; clear hc
  go_enter Tryz.func72, Tryz.ntmps72
  go_wp2
  refine wp_loop_rounds 12 ?_
  rw [rounds_succ]; go_wp2_with fail
  refine (unhide HC _ rfl).mono ?_
  rintro e w' ⟨rfl, rfl⟩
  go_wp2
  go_ret3
  exact ⟨rfl, rfl⟩

set_option maxHeartbeats 1000000 in
theorem first_1 (b : Nat) (u0 u1 u2 u3 u4 u5 u6 u7 u8 u9 u10 : Int) (w : World)
    (c0 : w.cell? ⟨b, 1412, none⟩ = some (.int .u64 u0))
    (c1 : w.cell? ⟨b, 1413, none⟩ = some (.int .u64 u1))
    (c2 : w.cell? ⟨b, 1414, none⟩ = some (.int .u64 u2))
    (c3 : w.cell? ⟨b, 1415, none⟩ = some (.int .u64 u3))
    (c4 : w.cell? ⟨b, 1416, none⟩ = some (.int .u64 u4))
    (c5 : w.cell? ⟨b, 1417, none⟩ = some (.int .u64 u5))
    (c6 : w.cell? ⟨b, 1418, none⟩ = some (.int .u64 u6))
    (c7 : w.cell? ⟨b, 1419, none⟩ = some (.int .u64 u7))
    (c8 : w.cell? ⟨b, 1420, none⟩ = some (.int .u64 u8))
    (c9 : w.cell? ⟨b, 1421, none⟩ = some (.int .u64 u9))
    (c10 : w.cell? ⟨b, 1422, none⟩ = some (.int .u64 u10))
    (z0 : (u0 != 0) = false) (y1 : (u1 != 0) = true) (k : Int) (hc : ∀ w', w' = w → Calls Tryz.prog 119 #[.int .u64 u1] w' fun e w'' => e = .returned (.int .i64 k) ∧ w'' = w') :
    Calls Tryz.prog 72 #[.pointer (some ⟨b, 0, none⟩)] w fun e w' => e = .returned (.tuple #[.int .i64 1, .int .i64 k, .bool true]) ∧ w' = w := by
  obtain ⟨i0, i1, i2, i3, i4, i5, i6, i7, i8, i9, i10⟩ := idx11 u0 u1 u2 u3 u4 u5 u6 u7 u8 u9 u10
  have HC := hide hc; clear hc
  go_enter Tryz.func72, Tryz.ntmps72
  go_wp2
  refine wp_loop_rounds 12 ?_
  rw [rounds_succ]; go_wp2
  rw [rounds_succ]; go_wp2_with fail
  refine (unhide HC _ rfl).mono ?_
  rintro e w' ⟨rfl, rfl⟩
  go_wp2
  go_ret3
  exact ⟨rfl, rfl⟩

set_option maxHeartbeats 1000000 in
theorem first_2 (b : Nat) (u0 u1 u2 u3 u4 u5 u6 u7 u8 u9 u10 : Int) (w : World)
    (c0 : w.cell? ⟨b, 1412, none⟩ = some (.int .u64 u0))
    (c1 : w.cell? ⟨b, 1413, none⟩ = some (.int .u64 u1))
    (c2 : w.cell? ⟨b, 1414, none⟩ = some (.int .u64 u2))
    (c3 : w.cell? ⟨b, 1415, none⟩ = some (.int .u64 u3))
    (c4 : w.cell? ⟨b, 1416, none⟩ = some (.int .u64 u4))
    (c5 : w.cell? ⟨b, 1417, none⟩ = some (.int .u64 u5))
    (c6 : w.cell? ⟨b, 1418, none⟩ = some (.int .u64 u6))
    (c7 : w.cell? ⟨b, 1419, none⟩ = some (.int .u64 u7))
    (c8 : w.cell? ⟨b, 1420, none⟩ = some (.int .u64 u8))
    (c9 : w.cell? ⟨b, 1421, none⟩ = some (.int .u64 u9))
    (c10 : w.cell? ⟨b, 1422, none⟩ = some (.int .u64 u10))
    (z0 : (u0 != 0) = false) (z1 : (u1 != 0) = false) (y2 : (u2 != 0) = true) (k : Int) (hc : ∀ w', w' = w → Calls Tryz.prog 119 #[.int .u64 u2] w' fun e w'' => e = .returned (.int .i64 k) ∧ w'' = w') :
    Calls Tryz.prog 72 #[.pointer (some ⟨b, 0, none⟩)] w fun e w' => e = .returned (.tuple #[.int .i64 2, .int .i64 k, .bool true]) ∧ w' = w := by
  obtain ⟨i0, i1, i2, i3, i4, i5, i6, i7, i8, i9, i10⟩ := idx11 u0 u1 u2 u3 u4 u5 u6 u7 u8 u9 u10
  have HC := hide hc; clear hc
  go_enter Tryz.func72, Tryz.ntmps72
  go_wp2
  refine wp_loop_rounds 12 ?_
  rw [rounds_succ]; go_wp2
  rw [rounds_succ]; go_wp2
  rw [rounds_succ]; go_wp2_with fail
  refine (unhide HC _ rfl).mono ?_
  rintro e w' ⟨rfl, rfl⟩
  go_wp2
  go_ret3
  exact ⟨rfl, rfl⟩

set_option maxHeartbeats 1000000 in
theorem first_3 (b : Nat) (u0 u1 u2 u3 u4 u5 u6 u7 u8 u9 u10 : Int) (w : World)
    (c0 : w.cell? ⟨b, 1412, none⟩ = some (.int .u64 u0))
    (c1 : w.cell? ⟨b, 1413, none⟩ = some (.int .u64 u1))
    (c2 : w.cell? ⟨b, 1414, none⟩ = some (.int .u64 u2))
    (c3 : w.cell? ⟨b, 1415, none⟩ = some (.int .u64 u3))
    (c4 : w.cell? ⟨b, 1416, none⟩ = some (.int .u64 u4))
    (c5 : w.cell? ⟨b, 1417, none⟩ = some (.int .u64 u5))
    (c6 : w.cell? ⟨b, 1418, none⟩ = some (.int .u64 u6))
    (c7 : w.cell? ⟨b, 1419, none⟩ = some (.int .u64 u7))
    (c8 : w.cell? ⟨b, 1420, none⟩ = some (.int .u64 u8))
    (c9 : w.cell? ⟨b, 1421, none⟩ = some (.int .u64 u9))
    (c10 : w.cell? ⟨b, 1422, none⟩ = some (.int .u64 u10))
    (z0 : (u0 != 0) = false) (z1 : (u1 != 0) = false) (z2 : (u2 != 0) = false) (y3 : (u3 != 0) = true) (k : Int) (hc : ∀ w', w' = w → Calls Tryz.prog 119 #[.int .u64 u3] w' fun e w'' => e = .returned (.int .i64 k) ∧ w'' = w') :
    Calls Tryz.prog 72 #[.pointer (some ⟨b, 0, none⟩)] w fun e w' => e = .returned (.tuple #[.int .i64 3, .int .i64 k, .bool true]) ∧ w' = w := by
  obtain ⟨i0, i1, i2, i3, i4, i5, i6, i7, i8, i9, i10⟩ := idx11 u0 u1 u2 u3 u4 u5 u6 u7 u8 u9 u10
  have HC := hide hc; clear hc
  go_enter Tryz.func72, Tryz.ntmps72
  go_wp2
  refine wp_loop_rounds 12 ?_
  rw [rounds_succ]; go_wp2
  rw [rounds_succ]; go_wp2
  rw [rounds_succ]; go_wp2
  rw [rounds_succ]; go_wp2_with fail
  refine (unhide HC _ rfl).mono ?_
  rintro e w' ⟨rfl, rfl⟩
  go_wp2
  go_ret3
  exact ⟨rfl, rfl⟩

set_option maxHeartbeats 1000000 in
theorem first_4 (b : Nat) (u0 u1 u2 u3 u4 u5 u6 u7 u8 u9 u10 : Int) (w : World)
    (c0 : w.cell? ⟨b, 1412, none⟩ = some (.int .u64 u0))
    (c1 : w.cell? ⟨b, 1413, none⟩ = some (.int .u64 u1))
    (c2 : w.cell? ⟨b, 1414, none⟩ = some (.int .u64 u2))
    (c3 : w.cell? ⟨b, 1415, none⟩ = some (.int .u64 u3))
    (c4 : w.cell? ⟨b, 1416, none⟩ = some (.int .u64 u4))
    (c5 : w.cell? ⟨b, 1417, none⟩ = some (.int .u64 u5))
    (c6 : w.cell? ⟨b, 1418, none⟩ = some (.int .u64 u6))
    (c7 : w.cell? ⟨b, 1419, none⟩ = some (.int .u64 u7))
    (c8 : w.cell? ⟨b, 1420, none⟩ = some (.int .u64 u8))
    (c9 : w.cell? ⟨b, 1421, none⟩ = some (.int .u64 u9))
    (c10 : w.cell? ⟨b, 1422, none⟩ = some (.int .u64 u10))
    (z0 : (u0 != 0) = false) (z1 : (u1 != 0) = false) (z2 : (u2 != 0) = false) (z3 : (u3 != 0) = false) (y4 : (u4 != 0) = true) (k : Int) (hc : ∀ w', w' = w → Calls Tryz.prog 119 #[.int .u64 u4] w' fun e w'' => e = .returned (.int .i64 k) ∧ w'' = w') :
    Calls Tryz.prog 72 #[.pointer (some ⟨b, 0, none⟩)] w fun e w' => e = .returned (.tuple #[.int .i64 4, .int .i64 k, .bool true]) ∧ w' = w := by
  obtain ⟨i0, i1, i2, i3, i4, i5, i6, i7, i8, i9, i10⟩ := idx11 u0 u1 u2 u3 u4 u5 u6 u7 u8 u9 u10
  have HC := hide hc; clear hc
  go_enter Tryz.func72, Tryz.ntmps72
  go_wp2
  refine wp_loop_rounds 12 ?_
  rw [rounds_succ]; go_wp2
  rw [rounds_succ]; go_wp2
  rw [rounds_succ]; go_wp2
  rw [rounds_succ]; go_wp2
  rw [rounds_succ]; go_wp2_with fail
  refine (unhide HC _ rfl).mono ?_
  rintro e w' ⟨rfl, rfl⟩
  go_wp2
  go_ret3
  exact ⟨rfl, rfl⟩

set_option maxHeartbeats 1000000 in
theorem first_5 (b : Nat) (u0 u1 u2 u3 u4 u5 u6 u7 u8 u9 u10 : Int) (w : World)
    (c0 : w.cell? ⟨b, 1412, none⟩ = some (.int .u64 u0))
    (c1 : w.cell? ⟨b, 1413, none⟩ = some (.int .u64 u1))
    (c2 : w.cell? ⟨b, 1414, none⟩ = some (.int .u64 u2))
    (c3 : w.cell? ⟨b, 1415, none⟩ = some (.int .u64 u3))
    (c4 : w.cell? ⟨b, 1416, none⟩ = some (.int .u64 u4))
    (c5 : w.cell? ⟨b, 1417, none⟩ = some (.int .u64 u5))
    (c6 : w.cell? ⟨b, 1418, none⟩ = some (.int .u64 u6))
    (c7 : w.cell? ⟨b, 1419, none⟩ = some (.int .u64 u7))
    (c8 : w.cell? ⟨b, 1420, none⟩ = some (.int .u64 u8))
    (c9 : w.cell? ⟨b, 1421, none⟩ = some (.int .u64 u9))
    (c10 : w.cell? ⟨b, 1422, none⟩ = some (.int .u64 u10))
    (z0 : (u0 != 0) = false) (z1 : (u1 != 0) = false) (z2 : (u2 != 0) = false) (z3 : (u3 != 0) = false) (z4 : (u4 != 0) = false) (y5 : (u5 != 0) = true) (k : Int) (hc : ∀ w', w' = w → Calls Tryz.prog 119 #[.int .u64 u5] w' fun e w'' => e = .returned (.int .i64 k) ∧ w'' = w') :
    Calls Tryz.prog 72 #[.pointer (some ⟨b, 0, none⟩)] w fun e w' => e = .returned (.tuple #[.int .i64 5, .int .i64 k, .bool true]) ∧ w' = w := by
  obtain ⟨i0, i1, i2, i3, i4, i5, i6, i7, i8, i9, i10⟩ := idx11 u0 u1 u2 u3 u4 u5 u6 u7 u8 u9 u10
  have HC := hide hc; clear hc
  go_enter Tryz.func72, Tryz.ntmps72
  go_wp2
  refine wp_loop_rounds 12 ?_
  rw [rounds_succ]; go_wp2
  rw [rounds_succ]; go_wp2
  rw [rounds_succ]; go_wp2
  rw [rounds_succ]; go_wp2
  rw [rounds_succ]; go_wp2
  rw [rounds_succ]; go_wp2_with fail
  refine (unhide HC _ rfl).mono ?_
  rintro e w' ⟨rfl, rfl⟩
  go_wp2
  go_ret3
  exact ⟨rfl, rfl⟩

set_option maxHeartbeats 1000000 in
theorem first_6 (b : Nat) (u0 u1 u2 u3 u4 u5 u6 u7 u8 u9 u10 : Int) (w : World)
    (c0 : w.cell? ⟨b, 1412, none⟩ = some (.int .u64 u0))
    (c1 : w.cell? ⟨b, 1413, none⟩ = some (.int .u64 u1))
    (c2 : w.cell? ⟨b, 1414, none⟩ = some (.int .u64 u2))
    (c3 : w.cell? ⟨b, 1415, none⟩ = some (.int .u64 u3))
    (c4 : w.cell? ⟨b, 1416, none⟩ = some (.int .u64 u4))
    (c5 : w.cell? ⟨b, 1417, none⟩ = some (.int .u64 u5))
    (c6 : w.cell? ⟨b, 1418, none⟩ = some (.int .u64 u6))
    (c7 : w.cell? ⟨b, 1419, none⟩ = some (.int .u64 u7))
    (c8 : w.cell? ⟨b, 1420, none⟩ = some (.int .u64 u8))
    (c9 : w.cell? ⟨b, 1421, none⟩ = some (.int .u64 u9))
    (c10 : w.cell? ⟨b, 1422, none⟩ = some (.int .u64 u10))
    (z0 : (u0 != 0) = false) (z1 : (u1 != 0) = false) (z2 : (u2 != 0) = false) (z3 : (u3 != 0) = false) (z4 : (u4 != 0) = false) (z5 : (u5 != 0) = false) (y6 : (u6 != 0) = true) (k : Int) (hc : ∀ w', w' = w → Calls Tryz.prog 119 #[.int .u64 u6] w' fun e w'' => e = .returned (.int .i64 k) ∧ w'' = w') :
    Calls Tryz.prog 72 #[.pointer (some ⟨b, 0, none⟩)] w fun e w' => e = .returned (.tuple #[.int .i64 6, .int .i64 k, .bool true]) ∧ w' = w := by
  obtain ⟨i0, i1, i2, i3, i4, i5, i6, i7, i8, i9, i10⟩ := idx11 u0 u1 u2 u3 u4 u5 u6 u7 u8 u9 u10
  have HC := hide hc; clear hc
  go_enter Tryz.func72, Tryz.ntmps72
  go_wp2
  refine wp_loop_rounds 12 ?_
  rw [rounds_succ]; go_wp2
  rw [rounds_succ]; go_wp2
  rw [rounds_succ]; go_wp2
  rw [rounds_succ]; go_wp2
  rw [rounds_succ]; go_wp2
  rw [rounds_succ]; go_wp2
  rw [rounds_succ]; go_wp2_with fail
  refine (unhide HC _ rfl).mono ?_
  rintro e w' ⟨rfl, rfl⟩
  go_wp2
  go_ret3
  exact ⟨rfl, rfl⟩

set_option maxHeartbeats 1000000 in
theorem first_7 (b : Nat) (u0 u1 u2 u3 u4 u5 u6 u7 u8 u9 u10 : Int) (w : World)
    (c0 : w.cell? ⟨b, 1412, none⟩ = some (.int .u64 u0))
    (c1 : w.cell? ⟨b, 1413, none⟩ = some (.int .u64 u1))
    (c2 : w.cell? ⟨b, 1414, none⟩ = some (.int .u64 u2))
    (c3 : w.cell? ⟨b, 1415, none⟩ = some (.int .u64 u3))
    (c4 : w.cell? ⟨b, 1416, none⟩ = some (.int .u64 u4))
    (c5 : w.cell? ⟨b, 1417, none⟩ = some (.int .u64 u5))
    (c6 : w.cell? ⟨b, 1418, none⟩ = some (.int .u64 u6))
    (c7 : w.cell? ⟨b, 1419, none⟩ = some (.int .u64 u7))
    (c8 : w.cell? ⟨b, 1420, none⟩ = some (.int .u64 u8))
    (c9 : w.cell? ⟨b, 1421, none⟩ = some (.int .u64 u9))
    (c10 : w.cell? ⟨b, 1422, none⟩ = some (.int .u64 u10))
    (z0 : (u0 != 0) = false) (z1 : (u1 != 0) = false) (z2 : (u2 != 0) = false) (z3 : (u3 != 0) = false) (z4 : (u4 != 0) = false) (z5 : (u5 != 0) = false) (z6 : (u6 != 0) = false) (y7 : (u7 != 0) = true) (k : Int) (hc : ∀ w', w' = w → Calls Tryz.prog 119 #[.int .u64 u7] w' fun e w'' => e = .returned (.int .i64 k) ∧ w'' = w') :
    Calls Tryz.prog 72 #[.pointer (some ⟨b, 0, none⟩)] w fun e w' => e = .returned (.tuple #[.int .i64 7, .int .i64 k, .bool true]) ∧ w' = w := by
  obtain ⟨i0, i1, i2, i3, i4, i5, i6, i7, i8, i9, i10⟩ := idx11 u0 u1 u2 u3 u4 u5 u6 u7 u8 u9 u10
  have HC := hide hc; clear hc
  go_enter Tryz.func72, Tryz.ntmps72
  go_wp2
  refine wp_loop_rounds 12 ?_
  rw [rounds_succ]; go_wp2
  rw [rounds_succ]; go_wp2
  rw [rounds_succ]; go_wp2
  rw [rounds_succ]; go_wp2
  rw [rounds_succ]; go_wp2
  rw [rounds_succ]; go_wp2
  rw [rounds_succ]; go_wp2
  rw [rounds_succ]; go_wp2_with fail
  refine (unhide HC _ rfl).mono ?_
  rintro e w' ⟨rfl, rfl⟩
  go_wp2
  go_ret3
  exact ⟨rfl, rfl⟩

set_option maxHeartbeats 1000000 in
theorem first_8 (b : Nat) (u0 u1 u2 u3 u4 u5 u6 u7 u8 u9 u10 : Int) (w : World)
    (c0 : w.cell? ⟨b, 1412, none⟩ = some (.int .u64 u0))
    (c1 : w.cell? ⟨b, 1413, none⟩ = some (.int .u64 u1))
    (c2 : w.cell? ⟨b, 1414, none⟩ = some (.int .u64 u2))
    (c3 : w.cell? ⟨b, 1415, none⟩ = some (.int .u64 u3))
    (c4 : w.cell? ⟨b, 1416, none⟩ = some (.int .u64 u4))
    (c5 : w.cell? ⟨b, 1417, none⟩ = some (.int .u64 u5))
    (c6 : w.cell? ⟨b, 1418, none⟩ = some (.int .u64 u6))
    (c7 : w.cell? ⟨b, 1419, none⟩ = some (.int .u64 u7))
    (c8 : w.cell? ⟨b, 1420, none⟩ = some (.int .u64 u8))
    (c9 : w.cell? ⟨b, 1421, none⟩ = some (.int .u64 u9))
    (c10 : w.cell? ⟨b, 1422, none⟩ = some (.int .u64 u10))
    (z0 : (u0 != 0) = false) (z1 : (u1 != 0) = false) (z2 : (u2 != 0) = false) (z3 : (u3 != 0) = false) (z4 : (u4 != 0) = false) (z5 : (u5 != 0) = false) (z6 : (u6 != 0) = false) (z7 : (u7 != 0) = false) (y8 : (u8 != 0) = true) (k : Int) (hc : ∀ w', w' = w → Calls Tryz.prog 119 #[.int .u64 u8] w' fun e w'' => e = .returned (.int .i64 k) ∧ w'' = w') :
    Calls Tryz.prog 72 #[.pointer (some ⟨b, 0, none⟩)] w fun e w' => e = .returned (.tuple #[.int .i64 8, .int .i64 k, .bool true]) ∧ w' = w := by
  obtain ⟨i0, i1, i2, i3, i4, i5, i6, i7, i8, i9, i10⟩ := idx11 u0 u1 u2 u3 u4 u5 u6 u7 u8 u9 u10
  have HC := hide hc; clear hc
  go_enter Tryz.func72, Tryz.ntmps72
  go_wp2
  refine wp_loop_rounds 12 ?_
  rw [rounds_succ]; go_wp2
  rw [rounds_succ]; go_wp2
  rw [rounds_succ]; go_wp2
  rw [rounds_succ]; go_wp2
  rw [rounds_succ]; go_wp2
  rw [rounds_succ]; go_wp2
  rw [rounds_succ]; go_wp2
  rw [rounds_succ]; go_wp2
  rw [rounds_succ]; go_wp2_with fail
  refine (unhide HC _ rfl).mono ?_
  rintro e w' ⟨rfl, rfl⟩
  go_wp2
  go_ret3
  exact ⟨rfl, rfl⟩

set_option maxHeartbeats 1000000 in
theorem first_9 (b : Nat) (u0 u1 u2 u3 u4 u5 u6 u7 u8 u9 u10 : Int) (w : World)
    (c0 : w.cell? ⟨b, 1412, none⟩ = some (.int .u64 u0))
    (c1 : w.cell? ⟨b, 1413, none⟩ = some (.int .u64 u1))
    (c2 : w.cell? ⟨b, 1414, none⟩ = some (.int .u64 u2))
    (c3 : w.cell? ⟨b, 1415, none⟩ = some (.int .u64 u3))
    (c4 : w.cell? ⟨b, 1416, none⟩ = some (.int .u64 u4))
    (c5 : w.cell? ⟨b, 1417, none⟩ = some (.int .u64 u5))
    (c6 : w.cell? ⟨b, 1418, none⟩ = some (.int .u64 u6))
    (c7 : w.cell? ⟨b, 1419, none⟩ = some (.int .u64 u7))
    (c8 : w.cell? ⟨b, 1420, none⟩ = some (.int .u64 u8))
    (c9 : w.cell? ⟨b, 1421, none⟩ = some (.int .u64 u9))
    (c10 : w.cell? ⟨b, 1422, none⟩ = some (.int .u64 u10))
    (z0 : (u0 != 0) = false) (z1 : (u1 != 0) = false) (z2 : (u2 != 0) = false) (z3 : (u3 != 0) = false) (z4 : (u4 != 0) = false) (z5 : (u5 != 0) = false) (z6 : (u6 != 0) = false) (z7 : (u7 != 0) = false) (z8 : (u8 != 0) = false) (y9 : (u9 != 0) = true) (k : Int) (hc : ∀ w', w' = w → Calls Tryz.prog 119 #[.int .u64 u9] w' fun e w'' => e = .returned (.int .i64 k) ∧ w'' = w') :
    Calls Tryz.prog 72 #[.pointer (some ⟨b, 0, none⟩)] w fun e w' => e = .returned (.tuple #[.int .i64 9, .int .i64 k, .bool true]) ∧ w' = w := by
  obtain ⟨i0, i1, i2, i3, i4, i5, i6, i7, i8, i9, i10⟩ := idx11 u0 u1 u2 u3 u4 u5 u6 u7 u8 u9 u10
  have HC := hide hc; clear hc
  go_enter Tryz.func72, Tryz.ntmps72
  go_wp2
  refine wp_loop_rounds 12 ?_
  rw [rounds_succ]; go_wp2
  rw [rounds_succ]; go_wp2
  rw [rounds_succ]; go_wp2
  rw [rounds_succ]; go_wp2
  rw [rounds_succ]; go_wp2
  rw [rounds_succ]; go_wp2
  rw [rounds_succ]; go_wp2
  rw [rounds_succ]; go_wp2
  rw [rounds_succ]; go_wp2
  rw [rounds_succ]; go_wp2_with fail
  refine (unhide HC _ rfl).mono ?_
  rintro e w' ⟨rfl, rfl⟩
  go_wp2
  go_ret3
  exact ⟨rfl, rfl⟩

set_option maxHeartbeats 1000000 in
theorem first_10 (b : Nat) (u0 u1 u2 u3 u4 u5 u6 u7 u8 u9 u10 : Int) (w : World)
    (c0 : w.cell? ⟨b, 1412, none⟩ = some (.int .u64 u0))
    (c1 : w.cell? ⟨b, 1413, none⟩ = some (.int .u64 u1))
    (c2 : w.cell? ⟨b, 1414, none⟩ = some (.int .u64 u2))
    (c3 : w.cell? ⟨b, 1415, none⟩ = some (.int .u64 u3))
    (c4 : w.cell? ⟨b, 1416, none⟩ = some (.int .u64 u4))
    (c5 : w.cell? ⟨b, 1417, none⟩ = some (.int .u64 u5))
    (c6 : w.cell? ⟨b, 1418, none⟩ = some (.int .u64 u6))
    (c7 : w.cell? ⟨b, 1419, none⟩ = some (.int .u64 u7))
    (c8 : w.cell? ⟨b, 1420, none⟩ = some (.int .u64 u8))
    (c9 : w.cell? ⟨b, 1421, none⟩ = some (.int .u64 u9))
    (c10 : w.cell? ⟨b, 1422, none⟩ = some (.int .u64 u10))
    (z0 : (u0 != 0) = false) (z1 : (u1 != 0) = false) (z2 : (u2 != 0) = false) (z3 : (u3 != 0) = false) (z4 : (u4 != 0) = false) (z5 : (u5 != 0) = false) (z6 : (u6 != 0) = false) (z7 : (u7 != 0) = false) (z8 : (u8 != 0) = false) (z9 : (u9 != 0) = false) (y10 : (u10 != 0) = true) (k : Int) (hc : ∀ w', w' = w → Calls Tryz.prog 119 #[.int .u64 u10] w' fun e w'' => e = .returned (.int .i64 k) ∧ w'' = w') :
    Calls Tryz.prog 72 #[.pointer (some ⟨b, 0, none⟩)] w fun e w' => e = .returned (.tuple #[.int .i64 10, .int .i64 k, .bool true]) ∧ w' = w := by
  obtain ⟨i0, i1, i2, i3, i4, i5, i6, i7, i8, i9, i10⟩ := idx11 u0 u1 u2 u3 u4 u5 u6 u7 u8 u9 u10
  have HC := hide hc; clear hc
  go_enter Tryz.func72, Tryz.ntmps72
  go_wp2
  refine wp_loop_rounds 12 ?_
  rw [rounds_succ]; go_wp2
  rw [rounds_succ]; go_wp2
  rw [rounds_succ]; go_wp2
  rw [rounds_succ]; go_wp2
  rw [rounds_succ]; go_wp2
  rw [rounds_succ]; go_wp2
  rw [rounds_succ]; go_wp2
  rw [rounds_succ]; go_wp2
  rw [rounds_succ]; go_wp2
  rw [rounds_succ]; go_wp2
  rw [rounds_succ]; go_wp2_with fail
  refine (unhide HC _ rfl).mono ?_
  rintro e w' ⟨rfl, rfl⟩
  go_wp2
  go_ret3
  exact ⟨rfl, rfl⟩

set_option maxHeartbeats 1000000 in
theorem first_11 (b : Nat) (u0 u1 u2 u3 u4 u5 u6 u7 u8 u9 u10 : Int) (w : World)
    (c0 : w.cell? ⟨b, 1412, none⟩ = some (.int .u64 u0))
    (c1 : w.cell? ⟨b, 1413, none⟩ = some (.int .u64 u1))
    (c2 : w.cell? ⟨b, 1414, none⟩ = some (.int .u64 u2))
    (c3 : w.cell? ⟨b, 1415, none⟩ = some (.int .u64 u3))
    (c4 : w.cell? ⟨b, 1416, none⟩ = some (.int .u64 u4))
    (c5 : w.cell? ⟨b, 1417, none⟩ = some (.int .u64 u5))
    (c6 : w.cell? ⟨b, 1418, none⟩ = some (.int .u64 u6))
    (c7 : w.cell? ⟨b, 1419, none⟩ = some (.int .u64 u7))
    (c8 : w.cell? ⟨b, 1420, none⟩ = some (.int .u64 u8))
    (c9 : w.cell? ⟨b, 1421, none⟩ = some (.int .u64 u9))
    (c10 : w.cell? ⟨b, 1422, none⟩ = some (.int .u64 u10))
    (z0 : (u0 != 0) = false) (z1 : (u1 != 0) = false) (z2 : (u2 != 0) = false) (z3 : (u3 != 0) = false) (z4 : (u4 != 0) = false) (z5 : (u5 != 0) = false) (z6 : (u6 != 0) = false) (z7 : (u7 != 0) = false) (z8 : (u8 != 0) = false) (z9 : (u9 != 0) = false) (z10 : (u10 != 0) = false) :
    Calls Tryz.prog 72 #[.pointer (some ⟨b, 0, none⟩)] w fun e w' => e = .returned (.tuple #[.int .i64 0, .int .i64 0, .bool false]) ∧ w' = w := by
  obtain ⟨i0, i1, i2, i3, i4, i5, i6, i7, i8, i9, i10⟩ := idx11 u0 u1 u2 u3 u4 u5 u6 u7 u8 u9 u10
  go_enter Tryz.func72, Tryz.ntmps72
  go_wp2
  refine wp_loop_rounds 12 ?_
  rw [rounds_succ]; go_wp2
  rw [rounds_succ]; go_wp2
  rw [rounds_succ]; go_wp2
  rw [rounds_succ]; go_wp2
  rw [rounds_succ]; go_wp2
  rw [rounds_succ]; go_wp2
  rw [rounds_succ]; go_wp2
  rw [rounds_succ]; go_wp2
  rw [rounds_succ]; go_wp2
  rw [rounds_succ]; go_wp2
  rw [rounds_succ]; go_wp2
  rw [rounds_succ]; go_wp2
  go_ret3
  exact ⟨rfl, rfl⟩

end Go.Proofs.YtogdekjklbbbiaaGreatDoor
