import Derived.Test.YtogdekjklbbbiaaDoorLimbs
import Derived.Test.YtogdekjklbbbiaaDoorMul
namespace Go.Proofs.YtogdekjklbbbiaaDoor
open Go.ChangeShapes Go.WideShapes Go.ChangeAt Go.RowKit

def unt (c r m : Int) : Int := if c < 0 ∨ r < 0 ∨ m < 0 then 0 else if m ≤ c then 0 else if r = 0 then 0 else (m - c - 1) / r + 1
def untE (c r m : Int) : Int := if c < 0 ∨ r < 0 ∨ m < 0 then 1 else if m ≤ c then 0 else if r = 0 then 3 else 0

theorem unt_up (n r : Int) (hn : 0 < n) (hr : 0 < r) : (n / r * r < n → n / r + 1 = (n - 1) / r + 1) ∧ (¬ n / r * r < n → n / r = (n - 1) / r + 1) ∧ 0 ≤ n / r ∧ n / r ≤ n ∧ 0 ≤ n / r * r ∧ n / r * r ≤ n ∧ 0 ≤ (n - 1) / r ∧ (n - 1) / r ≤ n - 1 := by
  have h1 := Int.mul_ediv_add_emod n r
  have h2 := Int.mul_ediv_add_emod (n - 1) r
  have h3 := Int.emod_nonneg n (show r ≠ 0 by omega)
  have h4 := Int.emod_lt_of_pos n hr
  have h5 := Int.emod_nonneg (n - 1) (show r ≠ 0 by omega)
  have h6 := Int.emod_lt_of_pos (n - 1) hr
  have h7 : 0 ≤ n / r := Int.ediv_nonneg (by omega) (by omega)
  have h8 : n / r ≤ n := Int.ediv_le_self _ (by omega)
  have h9 : 0 ≤ (n - 1) / r := Int.ediv_nonneg (by omega) (by omega)
  have h10 : (n - 1) / r ≤ n - 1 := Int.ediv_le_self _ (by omega)
  have hc : n / r * r = r * (n / r) := Int.mul_comm _ _
  have hp : 0 ≤ n / r * r := Int.mul_nonneg h7 (by omega)
  refine ⟨fun h => ?_, fun h => ?_, h7, h8, hp, by omega, h9, h10⟩
  · have h11 : 0 < n % r := by omega
    have : (n - 1) / r = n / r := by
      have e : n - 1 = (n % r - 1) + r * (n / r) := by omega
      have e1 := Int.add_mul_ediv_left (n % r - 1) (n / r) (show r ≠ 0 by omega)
      have e2 : (n % r - 1) / r = 0 := Int.ediv_eq_zero_of_lt (by omega) (by omega)
      rw [e, e1, e2]; omega
    omega
  · have h11 : n % r = 0 := by omega
    have : (n - 1) / r = n / r - 1 := by
      have e : n - 1 = (r - 1) + r * (n / r - 1) := by rw [Int.mul_sub]; omega
      have e1 := Int.add_mul_ediv_left (r - 1) (n / r - 1) (show r ≠ 0 by omega)
      have e2 : (r - 1) / r = 0 := Int.ediv_eq_zero_of_lt (by omega) (by omega)
      rw [e, e1, e2]; omega
    omega

set_option maxHeartbeats 1000000 in
theorem until_any (c r m : Int) (hc : -9223372036854775808 ≤ c ∧ c < 9223372036854775808) (hr : -9223372036854775808 ≤ r ∧ r < 9223372036854775808) (hm : -9223372036854775808 ≤ m ∧ m < 9223372036854775808) (w : World) :
    Calls Tryd.prog 104 #[.int .i64 c, .int .i64 r, .int .i64 m] w fun e w' => e = .returned (.tuple #[.int .i64 (unt c r m), .int .i64 (untE c r m)]) ∧ w' = w := by
  obtain ⟨hc0, hc1⟩ := hc
  obtain ⟨hr0, hr1⟩ := hr
  obtain ⟨hm0, hm1⟩ := hm
  by_cases h1 : c < 0
  · rw [show unt c r m = 0 from by rw [unt, if_pos (by omega)], show untE c r m = 1 from by rw [untE, if_pos (by omega)]]
    go_enter Tryd.func104, Tryd.ntmps104
    go_wp2
    go_ret2
    exact ⟨rfl, rfl⟩
  by_cases h2 : r < 0
  · rw [show unt c r m = 0 from by rw [unt, if_pos (by omega)], show untE c r m = 1 from by rw [untE, if_pos (by omega)]]
    go_enter Tryd.func104, Tryd.ntmps104
    go_wp2
    go_ret2
    exact ⟨rfl, rfl⟩
  by_cases h3 : m < 0
  · rw [show unt c r m = 0 from by rw [unt, if_pos (by omega)], show untE c r m = 1 from by rw [untE, if_pos (by omega)]]
    go_enter Tryd.func104, Tryd.ntmps104
    go_wp2
    go_ret2
    exact ⟨rfl, rfl⟩
  have hb : ¬ (c < 0 ∨ r < 0 ∨ m < 0) := by omega
  by_cases h4 : m ≤ c
  · rw [show unt c r m = 0 from by rw [unt, if_neg hb, if_pos h4], show untE c r m = 0 from by rw [untE, if_neg hb, if_pos h4]]
    clear hb
    go_enter Tryd.func104, Tryd.ntmps104
    go_wp2
    go_ret2
    exact ⟨rfl, rfl⟩
  by_cases h5 : r = 0
  · rw [show unt c r m = 0 from by rw [unt, if_neg hb, if_neg h4, if_pos h5], show untE c r m = 3 from by rw [untE, if_neg hb, if_neg h4, if_pos h5]]
    clear hb
    have h6 : (r == 0) = true := by simpa using h5
    clear h5
    go_enter Tryd.func104, Tryd.ntmps104
    go_wp2
    go_ret2
    exact ⟨rfl, rfl⟩
  rw [show unt c r m = (m - c - 1) / r + 1 from by rw [unt, if_neg hb, if_neg h4, if_neg h5], show untE c r m = 0 from by rw [untE, if_neg hb, if_neg h4, if_neg h5]]
  clear hb
  have h6 : (r == 0) = false := by simpa using h5
  obtain ⟨_, _, u3, u4, u5, u6, u7, u8⟩ := unt_up (m - c) r (by omega) (by omega)
  have h7 : 0 < r := by omega
  have h8 : 0 ≤ c := by omega
  have h9 : c < m := by omega
  clear h5 h1 h2 h3 h4
  go_enter Tryd.func104, Tryd.ntmps104
  go_wp2
  go_ret2
  exact ⟨rfl, rfl⟩
end Go.Proofs.YtogdekjklbbbiaaDoor
