import Derived.Test.YtogdekjklbbbiaaKnuth
import Derived.Laws.MathBits
import Derived.Laws.BitsLemmas
namespace Go.Proofs.Ytogdekjklbbbiaa
open Go.RowKit

theorem norm_n (y : Int) (h1 : 1 ≤ y) (h2 : y < 9223372036854775808) : ∃ n : Nat, (64 : Int) - (bitLen y.toNat : Int) = (n : Int) ∧ 1 ≤ n ∧ n ≤ 63 ∧ 9223372036854775808 ≤ y * 2 ^ n ∧ y * 2 ^ n < 18446744073709551616 := by
  obtain ⟨k, rfl⟩ := Int.eq_ofNat_of_zero_le (show 0 ≤ y by omega)
  rw [Int.toNat_natCast]
  obtain ⟨s1, s2⟩ := bitLen_spec k
  have s3 := s2 (by omega)
  have hb1 : bitLen k ≤ 63 := by
    by_cases hh : bitLen k ≤ 63
    · exact hh
    · have : (2 : Nat) ^ 63 ≤ 2 ^ (bitLen k - 1) := Nat.pow_le_pow_right (by decide) (by omega)
      have : (2 : Nat) ^ 63 = 9223372036854775808 := by decide
      omega
  have hb0 : 1 ≤ bitLen k := by
    by_cases hh : 1 ≤ bitLen k
    · exact hh
    · rw [show bitLen k = 0 by omega] at s1; omega
  refine ⟨64 - bitLen k, by omega, by omega, by omega, ?_, ?_⟩
  · have e : (2 : Nat) ^ 63 = 2 ^ (bitLen k - 1) * 2 ^ (64 - bitLen k) := by rw [← Nat.pow_add]; congr 1; omega
    have h := Nat.mul_le_mul_right (2 ^ (64 - bitLen k)) s3
    rw [← e] at h
    have h' : ((9223372036854775808 : Nat) : Int) ≤ ((k * 2 ^ (64 - bitLen k) : Nat) : Int) := by exact_mod_cast h
    rw [Int.natCast_mul, Int.natCast_pow] at h'
    exact h'
  · have e : (2 : Nat) ^ 64 = 2 ^ bitLen k * 2 ^ (64 - bitLen k) := by rw [← Nat.pow_add]; congr 1; omega
    have h := Nat.mul_lt_mul_of_pos_right s1 (Nat.two_pow_pos (64 - bitLen k))
    rw [← e] at h
    have h' : ((k * 2 ^ (64 - bitLen k) : Nat) : Int) < ((18446744073709551616 : Nat) : Int) := by exact_mod_cast h
    rw [Int.natCast_mul, Int.natCast_pow] at h'
    exact h'

theorem wraps64 : ∀ n : Int, 0 ≤ n → n < 2 ^ 64 → IntKind.u64.wrap n = n := by
  intro n h0 h1
  rw [IntKind.wrap_u64]
  have : (2 : Int) ^ 64 = 18446744073709551616 := by decide
  omega

theorem norm_u (hi lo y : Int) (n : Nat) (hn1 : 1 ≤ n) (hn2 : n ≤ 63) (h0 : 0 < hi) (h1 : hi < y) (h3 : 0 ≤ lo) (h4 : lo < 18446744073709551616) (hY : y * 2 ^ n < 18446744073709551616) :
    0 ≤ hi * 2 ^ n ∧ hi * 2 ^ n < 18446744073709551616 ∧ 0 ≤ lo / 2 ^ (64 - n) ∧ lo / 2 ^ (64 - n) < 18446744073709551616 ∧
      bits .or .u64 (hi * 2 ^ n) (lo / 2 ^ (64 - n)) = hi * 2 ^ n + lo / 2 ^ (64 - n) ∧ hi * 2 ^ n + lo / 2 ^ (64 - n) < y * 2 ^ n ∧
      0 ≤ IntKind.u64.wrap (lo * 2 ^ n) ∧ IntKind.u64.wrap (lo * 2 ^ n) < 18446744073709551616 ∧
      (hi * 2 ^ n + lo / 2 ^ (64 - n)) * 18446744073709551616 + IntKind.u64.wrap (lo * 2 ^ n) = (hi * 18446744073709551616 + lo) * 2 ^ n := by
  have e64 : (2 : Int) ^ 64 = 18446744073709551616 := by decide
  have eST : (2 : Int) ^ n * 2 ^ (64 - n) = 18446744073709551616 := by rw [← Int.pow_add, show n + (64 - n) = 64 by omega]; exact e64
  have hS0 : (0 : Int) < 2 ^ n := Int.pow_pos (by decide)
  have hT0 : (0 : Int) < 2 ^ (64 - n) := Int.pow_pos (by decide)
  have g1 := Int.mul_ediv_add_emod lo (2 ^ (64 - n))
  have g2 := Int.emod_nonneg lo (show (2 : Int) ^ (64 - n) ≠ 0 by omega)
  have g3 := Int.emod_lt_of_pos lo hT0
  have g4 : 0 ≤ lo / 2 ^ (64 - n) := Int.ediv_nonneg h3 (by omega)
  have g5 : lo / 2 ^ (64 - n) < 2 ^ n := by
    refine Int.ediv_lt_of_lt_mul hT0 ?_
    rw [eST]; exact h4
  have g6 : 0 ≤ hi * 2 ^ n := Int.mul_nonneg (by omega) (by omega)
  have g7 : (hi + 1) * 2 ^ n ≤ y * 2 ^ n := Int.mul_le_mul_of_nonneg_right (by omega) (by omega)
  rw [Int.add_mul, Int.one_mul] at g7
  have g8 : bits .or .u64 (hi * 2 ^ n) (lo / 2 ^ (64 - n)) = hi * 2 ^ n + lo / 2 ^ (64 - n) :=
    bits_join .u64 64 (by decide) wraps64 n _ _ g6 (Int.mul_emod_left _ _) (by rw [e64]; omega) g4 g5 (by rw [e64]; omega)
  have g9 : 0 ≤ lo % 2 ^ (64 - n) * 2 ^ n := Int.mul_nonneg g2 (by omega)
  have g10 : (lo % 2 ^ (64 - n) + 1) * 2 ^ n ≤ 2 ^ (64 - n) * 2 ^ n := Int.mul_le_mul_of_nonneg_right (by omega) (by omega)
  rw [Int.mul_comm (2 ^ (64 - n)) (2 ^ n), eST, Int.add_mul, Int.one_mul] at g10
  have g11 : lo * 2 ^ n = lo / 2 ^ (64 - n) * 18446744073709551616 + lo % 2 ^ (64 - n) * 2 ^ n := by
    generalize lo / 2 ^ (64 - n) = d at *
    generalize lo % 2 ^ (64 - n) = m at *
    generalize (2 : Int) ^ (64 - n) = T at *
    generalize (2 : Int) ^ n = S at *
    rw [← g1, ← eST]
    grind
  have g12 : IntKind.u64.wrap (lo * 2 ^ n) = lo % 2 ^ (64 - n) * 2 ^ n := by
    rw [g11, IntKind.wrap_u64]
    generalize lo % 2 ^ (64 - n) * 2 ^ n = z at *
    generalize lo / 2 ^ (64 - n) = d at *
    clear g1 g11
    omega
  refine ⟨g6, by omega, g4, by omega, g8, by omega, by rw [g12]; exact g9, by rw [g12]; omega, ?_⟩
  rw [g12, Int.add_mul (hi * 18446744073709551616), g11]
  generalize lo % 2 ^ (64 - n) * 2 ^ n = z at *
  generalize lo / 2 ^ (64 - n) = d at *
  have : hi * 18446744073709551616 * 2 ^ n = hi * 2 ^ n * 18446744073709551616 := by grind
  clear g1 g11
  omega
end Go.Proofs.Ytogdekjklbbbiaa
