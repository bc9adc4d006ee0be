import Derived.Test.YtogdekjklbbbiaaDoorRows
import Derived.Test.YtogdekjklbbbiaaDoorCh
import Derived.Laws.BitsAllLaws
namespace Go.Proofs.YtogdekjklbbbiaaDoor
open Go.ChangeShapes Go.WideShapes Go.ChangeAt Go.RowKit
set_option linter.unusedSimpArgs false
set_option linter.unusedVariables false

theorem low_bit : ∀ (n x : Nat), x ≤ n → 0 < x → ∃ k m, x = 2 ^ (k + 1) * m + 2 ^ k
  | 0, x, h, h0 => by omega
  | n + 1, x, h, h0 => by
    by_cases ho : x % 2 = 1
    · exact ⟨0, x / 2, by simp; omega⟩
    · obtain ⟨k, m, e⟩ := low_bit n (x / 2) (by omega) (by omega)
      refine ⟨k + 1, m, ?_⟩
      have e2 : x = 2 * (x / 2) := by omega
      rw [e2, e, Nat.mul_add, ← Nat.mul_assoc, Nat.pow_succ 2 (k + 1), Nat.pow_succ 2 k]
      rw [Nat.mul_comm 2 (2 ^ k * 2), Nat.mul_comm 2 (2 ^ k)]

theorem bit_lo (k m i : Nat) : (2 ^ (k + 1) * m + 2 ^ k).testBit i = if i ≤ k then decide (i = k) else m.testBit (i - (k + 1)) := by
  rw [Nat.testBit_two_pow_mul_add m (Nat.pow_lt_pow_right (by decide) (by omega)) i]
  by_cases h : i < k + 1
  · rw [if_pos h, if_pos (by omega), Nat.testBit_two_pow]
    simp only [decide_eq_decide]
    omega
  · rw [if_neg h, if_neg (by omega)]
theorem bit_lo1 (k m i : Nat) : (2 ^ (k + 1) * m + (2 ^ k - 1)).testBit i = if i ≤ k then decide (i < k) else m.testBit (i - (k + 1)) := by
  have h2 : 2 ^ k - 1 < 2 ^ (k + 1) := by have := Nat.pow_lt_pow_right (a := 2) (by decide) (show k < k + 1 by omega); omega
  rw [Nat.testBit_two_pow_mul_add m h2 i]
  by_cases h : i < k + 1
  · rw [if_pos h, if_pos (by omega), Nat.testBit_two_pow_sub_one]
  · rw [if_neg h, if_neg (by omega)]

theorem low_and (x k m : Nat) (hx : x < 2 ^ 64) (e : x = 2 ^ (k + 1) * m + 2 ^ k) : x &&& (2 ^ 64 - x) = 2 ^ k := by
  have hp := Nat.one_le_two_pow (n := k)
  have hk : k < 64 := by
    by_cases hh : k < 64
    · exact hh
    · exfalso
      have : 2 ^ 64 ≤ 2 ^ k := Nat.pow_le_pow_right (by decide) (by omega)
      omega
  have e1 : x - 1 = 2 ^ (k + 1) * m + (2 ^ k - 1) := by omega
  have e2 : 2 ^ 64 - x = 2 ^ 64 - ((x - 1) + 1) := by omega
  apply Nat.eq_of_testBit_eq
  intro i
  rw [Nat.testBit_and, e2, Nat.testBit_two_pow_sub_succ (by omega), e1, bit_lo1, e, bit_lo, Nat.testBit_two_pow]
  by_cases h : i ≤ k
  · rw [if_pos h, if_pos h]
    by_cases h' : i = k
    · subst h'; simp [hk]
    · have h'' : ¬ k = i := fun e => h' e.symm
      simp [h', h'', show i < k by omega]
  · rw [if_neg h, if_neg h]
    have : ¬ k = i := by omega
    cases m.testBit (i - (k + 1)) <;> simp [this]

def tab : List Nat := [0, 1, 56, 2, 57, 49, 28, 3, 61, 58, 42, 50, 38, 29, 17, 4, 62, 47, 59, 36, 45, 43, 51, 22, 53, 39, 33, 30, 24, 18, 12, 5, 63, 55, 48, 27, 60, 41, 37, 16, 46, 35, 44, 21, 52, 32, 23, 11, 54, 26, 40, 15, 34, 20, 31, 10, 25, 14, 19, 9, 13, 8, 7, 6]
theorem tab_at : ∀ k : Fin 64, tab[(2 ^ k.val * 285870213051353865 % 18446744073709551616) / 288230376151711744]? = some k.val := by decide +kernel

/-- The table of math/bits lies as it is laid. -/
def TabW (w : World) : Prop := ∀ (i v : Nat), tab[i]? = some v → w.cell? ⟨0, i, none⟩ = some (.int .u8 (v : Int))

set_option maxHeartbeats 1000000 in
theorem tz_at (x : Int) (h0 : 0 < x) (h1 : x < 18446744073709551616) (w : World) (I : Nat) (hI : I < 64) (r : Int) (hr0 : 0 ≤ r) (hr1 : r < 64)
    (h2 : IntKind.u64.wrap (bits BinOp.and IntKind.u64 x (IntKind.u64.wrap (-x)) * 285870213051353865) / 288230376151711744 = (I : Int)) (h3 : w.cell? ⟨0, I, none⟩ = some (.int .u8 r)) :
    Calls Tryd.prog 77 #[.int .u64 x] w fun e w' => e = .returned (.int .i64 r) ∧ w' = w := by
  have e0 : (x == 0) = false := by rw [beq_eq_false_iff_ne]; omega
  go_enter Tryd.func77, Tryd.ntmps77
  go_wp2
  go_ret
  exact ⟨rfl, rfl⟩

theorem cst (z : Nat) : ((z : Int) * 285870213051353865 % 18446744073709551616 / 288230376151711744) = ((z * 285870213051353865 % 18446744073709551616 / 288230376151711744 : Nat) : Int) := by omega

theorem tz_any (x : Nat) (h0 : 0 < x) (h1 : x < 18446744073709551616) (w : World) (hT : TabW w) (k m : Nat) (e : x = 2 ^ (k + 1) * m + 2 ^ k) :
    Calls Tryd.prog 77 #[.int .u64 (x : Int)] w fun e w' => e = .returned (.int .i64 (k : Int)) ∧ w' = w := by
  have h64 : (2 : Nat) ^ 64 = 18446744073709551616 := by decide
  have hand := low_and x k m (by omega) e
  have hp := Nat.one_le_two_pow (n := k)
  have hk : k < 64 := by
    by_cases hh : k < 64
    · exact hh
    · exfalso
      have : 2 ^ 64 ≤ 2 ^ k := Nat.pow_le_pow_right (by decide) (by omega)
      omega
  have ht := tab_at ⟨k, hk⟩
  have e1 : IntKind.u64.wrap (-(x : Int)) = ((2 ^ 64 - x : Nat) : Int) := by rw [IntKind.wrap_u64]; omega
  have e2 : bits .and .u64 (x : Int) (IntKind.u64.wrap (-(x : Int))) = ((2 ^ k : Nat) : Int) := by
    rw [e1, u64_and_nat x _ (by omega) (by omega), hand]
  have hI : (2 ^ k * 285870213051353865 % 18446744073709551616) / 288230376151711744 < 64 := by
    have := Nat.mod_lt (2 ^ k * 285870213051353865) (show 0 < 18446744073709551616 by decide)
    omega
  refine tz_at (x : Int) (by omega) (by omega) w _ hI (k : Int) (by omega) (by omega) ?_ (hT _ _ ht)
  rw [e2, IntKind.wrap_u64]
  exact cst _
end Go.Proofs.YtogdekjklbbbiaaDoor
