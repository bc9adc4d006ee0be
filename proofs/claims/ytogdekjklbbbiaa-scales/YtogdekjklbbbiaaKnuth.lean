import Derived.Test.YtogdekjklbbbiaaMul
namespace Go.Proofs.Ytogdekjklbbbiaa
open Go.RowKit

/-- What a digit's search keeps: u = q a + r, and the digit is not below the true one. -/
structure Dig (u a b v q r : Int) : Prop where
  sum : u = q * a + r
  up : u * 4294967296 + v < (q + 1) * (a * 4294967296 + b)

theorem qY (q a b : Int) : q * (a * 4294967296 + b) = q * a * 4294967296 + q * b := by grind
theorem qY1 (q a b : Int) : (q + 1) * (a * 4294967296 + b) = q * a * 4294967296 + q * b + a * 4294967296 + b := by grind

theorem dig_init (u a b v : Int) (ha : 2147483648 ≤ a) (ha' : a < 4294967296) (hb : 0 ≤ b) (hb' : b < 4294967296) (hv : 0 ≤ v) (hv' : v < 4294967296) (hu : 0 ≤ u) (hu' : u < a * 4294967296 + b) :
    0 ≤ u / a ∧ u / a ≤ 4294967297 ∧ 0 ≤ u / a * a ∧ u / a * a ≤ u ∧ u - u / a * a < a ∧ Dig u a b v (u / a) (u - u / a * a) := by
  have h1 := Int.mul_ediv_add_emod u a
  have h3 := Int.emod_nonneg u (show a ≠ 0 by omega)
  have h4 := Int.emod_lt_of_pos u (show 0 < a by omega)
  have h7 : 0 ≤ u / a := Int.ediv_nonneg (by omega) (by omega)
  rw [Int.mul_comm a] at h1
  generalize u % a = r at *
  generalize u / a = q at *
  have hp : 0 ≤ q * a := Int.mul_nonneg h7 (by omega)
  have hqb : 0 ≤ q * b := Int.mul_nonneg h7 hb
  have hq : q ≤ 4294967297 := by
    by_cases hh : q ≤ 4294967297
    · exact hh
    · exfalso
      have : 4294967298 * a ≤ q * a := Int.mul_le_mul_of_nonneg_right (by omega) (by omega)
      omega
  exact ⟨h7, hq, hp, by omega, by omega, ⟨by omega, by rw [qY1]; omega⟩⟩

theorem dig_step {u a b v q r : Int} (hd : Dig u a b v q r) (ha : 2147483648 ≤ a) (ha' : a < 4294967296) (hb : 0 ≤ b) (hb' : b < 4294967296) (hv : 0 ≤ v) (hv' : v < 4294967296) (hu' : u < a * 4294967296 + b) (hr : 0 ≤ r) (hq0 : 0 ≤ q)
    (h : 4294967296 ≤ q ∨ (4294967296 * r + v < q * b)) : 1 ≤ q ∧ Dig u a b v (q - 1) (r + a) := by
  have h1 : 1 ≤ q := by
    by_cases hh : 1 ≤ q
    · exact hh
    · obtain rfl : q = 0 := by omega
      rcases h with h | h
      · omega
      · rw [Int.zero_mul] at h; omega
  refine ⟨h1, ⟨?_, ?_⟩⟩
  · rw [Int.sub_mul, Int.one_mul]; have := hd.sum; omega
  · rw [show q - 1 + 1 = q from by omega]
    rcases h with h | h
    · have : 4294967296 * (a * 4294967296 + b) ≤ q * (a * 4294967296 + b) := Int.mul_le_mul_of_nonneg_right h (by omega)
      omega
    · rw [qY]; have := hd.sum; omega

/-- The digit is the true one. -/
structure Dug (u a b v q m : Int) : Prop where
  q0 : 0 ≤ q
  q1 : q < 4294967296
  m0 : 0 ≤ m
  m1 : m < a * 4294967296 + b
  eq : u * 4294967296 + v = q * (a * 4294967296 + b) + m

theorem dig_end {u a b v q r : Int} (hd : Dig u a b v q r) (ha : 2147483648 ≤ a) (hb : 0 ≤ b) (hb' : b < 4294967296) (hv' : v < 4294967296) (hu' : u < a * 4294967296 + b) (hv : 0 ≤ v) (hq0 : 0 ≤ q)
    (h : q * b ≤ 4294967296 * r + v) : Dug u a b v q (u * 4294967296 + v - q * (a * 4294967296 + b)) := by
  have h1 : q * (a * 4294967296 + b) ≤ u * 4294967296 + v := by rw [qY]; have := hd.sum; omega
  have h2 : q < 4294967296 := by
    by_cases hh : q < 4294967296
    · exact hh
    · exfalso
      have : 4294967296 * (a * 4294967296 + b) ≤ q * (a * 4294967296 + b) := Int.mul_le_mul_of_nonneg_right (by omega) (by omega)
      omega
  have h3 := hd.up
  rw [Int.add_mul, Int.one_mul] at h3
  exact ⟨hq0, h2, by omega, by omega, by omega⟩

theorem dig_break {u a b v q r : Int} (hd : Dig u a b v q r) (ha : 2147483648 ≤ a) (hb : 0 ≤ b) (hb' : b < 4294967296) (hv' : v < 4294967296) (hu' : u < a * 4294967296 + b) (hv : 0 ≤ v) (hq0 : 0 ≤ q) (hq1 : q ≤ 4294967296)
    (hr : 4294967296 ≤ r) : Dug u a b v q (u * 4294967296 + v - q * (a * 4294967296 + b)) := by
  have h1 : q * b ≤ 4294967296 * 4294967295 := Int.mul_le_mul hq1 (by omega) hb (by omega)
  exact dig_end hd ha hb hb' hv' hu' hv hq0 (by omega)

theorem dug_wrap {u a b v q m Y : Int} (hd : Dug u a b v q m) (hY : Y = a * 4294967296 + b) (hY2 : Y < 18446744073709551616) :
    IntKind.u64.wrap (IntKind.u64.wrap (IntKind.u64.wrap (u * 4294967296) + v) - IntKind.u64.wrap (q * Y)) = m := by
  have h1 := hd.eq
  have h2 := hd.m0
  have h3 := hd.m1
  rw [← hY] at h1 h3
  simp only [IntKind.wrap_u64]
  generalize q * Y = p at *
  omega

/-- The two digits are the quotient. -/
theorem dug_two {hi lo y S u v u1 u0 a b q1 q0 m r : Int} (hS : 0 < S) (hyS : y * S = a * 4294967296 + b) (hU : u * 18446744073709551616 + v = (hi * 18446744073709551616 + lo) * S) (hv : v = u1 * 4294967296 + u0)
    (d1 : Dug u a b u1 q1 m) (d0 : Dug m a b u0 q0 r) :
    (q1 * 4294967296 + q0) * y ≤ hi * 18446744073709551616 + lo ∧ hi * 18446744073709551616 + lo < (q1 * 4294967296 + q0 + 1) * y := by
  have e1 := d1.eq
  have e0 := d0.eq
  have r0 := d0.m0
  have r1 := d0.m1
  rw [← hyS] at e1 e0 r1
  have k : (hi * 18446744073709551616 + lo) * S = ((q1 * 4294967296 + q0) * y) * S + r := by
    rw [← hU]
    have : ((q1 * 4294967296 + q0) * y) * S = q1 * (y * S) * 4294967296 + q0 * (y * S) := by grind
    omega
  constructor
  · refine Int.le_of_mul_le_mul_right ?_ hS
    omega
  · refine Int.lt_of_mul_lt_mul_right ?_ (Int.le_of_lt hS)
    rw [Int.add_mul _ 1 y, Int.one_mul, Int.add_mul _ y S]
    omega
end Go.Proofs.Ytogdekjklbbbiaa
