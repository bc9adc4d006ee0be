import Derived.Test.YtogdekjklbbbiaaDoorMul
namespace Go.Proofs.YtogdekjklbbbiaaDoor
open Go.ChangeShapes Go.WideShapes Go.ChangeAt Go.RowKit

def acc (c r m t : Int) : Int := if c < 0 ∨ r < 0 ∨ m < 0 ∨ t < 0 ∨ m < c then 0 else if m < c + r * t then m else c + r * t
def accE (c r m t : Int) : Int := if c < 0 ∨ r < 0 ∨ m < 0 ∨ t < 0 ∨ m < c then 1 else 0

set_option maxHeartbeats 1000000 in
theorem accrue_any (c r m t : Int) (hc : -9223372036854775808 ≤ c ∧ c < 9223372036854775808) (hr : -9223372036854775808 ≤ r ∧ r < 9223372036854775808) (hm : -9223372036854775808 ≤ m ∧ m < 9223372036854775808) (ht : -9223372036854775808 ≤ t ∧ t < 9223372036854775808) (w : World) :
    Calls Tryd.prog 103 #[.int .i64 c, .int .i64 r, .int .i64 m, .int .i64 t] w fun e w' => e = .returned (.tuple #[.int .i64 (acc c r m t), .int .i64 (accE c r m t)]) ∧ w' = w := by
  obtain ⟨hc0, hc1⟩ := hc
  obtain ⟨hr0, hr1⟩ := hr
  obtain ⟨hm0, hm1⟩ := hm
  obtain ⟨ht0, ht1⟩ := ht
  by_cases h1 : c < 0
  · rw [show acc c r m t = 0 from by rw [acc, if_pos (by omega)], show accE c r m t = 1 from by rw [accE, if_pos (by omega)]]
    go_enter Tryd.func103, Tryd.ntmps103
    go_wp2
    go_ret2
    exact ⟨rfl, rfl⟩
  by_cases h2 : r < 0
  · rw [show acc c r m t = 0 from by rw [acc, if_pos (by omega)], show accE c r m t = 1 from by rw [accE, if_pos (by omega)]]
    go_enter Tryd.func103, Tryd.ntmps103
    go_wp2
    go_ret2
    exact ⟨rfl, rfl⟩
  by_cases h3 : m < 0
  · rw [show acc c r m t = 0 from by rw [acc, if_pos (by omega)], show accE c r m t = 1 from by rw [accE, if_pos (by omega)]]
    go_enter Tryd.func103, Tryd.ntmps103
    go_wp2
    go_ret2
    exact ⟨rfl, rfl⟩
  by_cases h4 : t < 0
  · rw [show acc c r m t = 0 from by rw [acc, if_pos (by omega)], show accE c r m t = 1 from by rw [accE, if_pos (by omega)]]
    go_enter Tryd.func103, Tryd.ntmps103
    go_wp2
    go_ret2
    exact ⟨rfl, rfl⟩
  by_cases h5 : m < c
  · rw [show acc c r m t = 0 from by rw [acc, if_pos (by omega)], show accE c r m t = 1 from by rw [accE, if_pos (by omega)]]
    go_enter Tryd.func103, Tryd.ntmps103
    go_wp2
    go_ret2
    exact ⟨rfl, rfl⟩
  have hb : ¬ (c < 0 ∨ r < 0 ∨ m < 0 ∨ t < 0 ∨ m < c) := by omega
  rw [show acc c r m t = if m < c + r * t then m else c + r * t from by rw [acc, if_neg hb], show accE c r m t = 0 from by rw [accE, if_neg hb]]
  clear hb
  have hp : 0 ≤ r * t := Int.mul_nonneg (by omega) (by omega)
  by_cases h6 : 18446744073709551616 ≤ r * t
  · rw [if_pos (show m < c + r * t by omega)]
    go_enter Tryd.func103, Tryd.ntmps103
    go_wp2_with fail
    refine (mul64_any r t (by omega) (by omega) (by omega) (by omega) _).mono ?_
    rintro e w' ⟨rfl, rfl⟩
    have h7 : 0 < r * t / 18446744073709551616 := by omega
    have h8 : r * t / 18446744073709551616 < 18446744073709551616 := by
      have := (prodb (x := r) (y := t) 9223372036854775807 9223372036854775807 (by omega) (by omega) (by omega) (by omega)).2
      omega
    go_wp2
    go_ret2
    exact ⟨rfl, rfl⟩
  have e1 : r * t / 18446744073709551616 = 0 := by omega
  have e2 : r * t % 18446744073709551616 = r * t := by omega
  have E1 := hide e1; have E2 := hide e2; clear e1 e2
  by_cases h7 : m < c + r * t
  · rw [if_pos h7]
    have h8 : m - c < r * t := by omega
    go_enter Tryd.func103, Tryd.ntmps103
    go_wp2_with fail
    refine (mul64_any r t (by omega) (by omega) (by omega) (by omega) _).mono ?_
    rintro e w' ⟨rfl, rfl⟩
    rw [unhide E1, unhide E2]
    go_wp2
    go_ret2
    exact ⟨rfl, rfl⟩
  · rw [if_neg h7]
    have h8 : r * t ≤ m - c := by omega
    go_enter Tryd.func103, Tryd.ntmps103
    go_wp2_with fail
    refine (mul64_any r t (by omega) (by omega) (by omega) (by omega) _).mono ?_
    rintro e w' ⟨rfl, rfl⟩
    rw [unhide E1, unhide E2]
    go_wp2
    go_ret2
    exact ⟨rfl, rfl⟩
end Go.Proofs.YtogdekjklbbbiaaDoor
