import Derived.Test.YtogdekjklbbbiaaDoorCh
import Derived.Test.YtogdekjklbbbiaaDoorRows
import Derived.WalkKit
import Derived.ProofKit
import Derived.OpenShut
import Derived.Handy
import Derived.Laws.Bits64b
import Derived.Deep.QuietTactic
import Derived.BigQuiet
namespace Go.Proofs.YtogdekjklbbbiaaDoor
open Go.ChangeShapes Go.WideShapes Go.ChangeAt Go.RowKit


theorem Grown.trans {a b c : World} (h : Grown a b) (k : Grown b c) : Grown a c := by
  refine ⟨⟨k.1.1.trans h.1.1, k.1.2.1.trans h.1.2.1, fun i hi => ?_⟩, fun x => (k.2.1 x).trans (h.2.1 x), Nat.le_trans h.2.2 k.2.2⟩
  exact (World.keptBut_trans h.1 k.1).2.2 i hi
theorem Grown.drewN {W w' : World} (h : Grown W w') (n : Nat) : Grown W (w'.drewN n) := h

theorem and31 (n : Int) : bits .and .i64 n 2147483647 = n % 2147483648 := by
  have h127 : (BitVec.ofInt 64 2147483647).toNat = 2 ^ 31 - 1 := by decide
  have key : (BitVec.ofInt 64 n &&& BitVec.ofInt 64 2147483647).toNat = (n % ((2 ^ 64 : Nat) : Int)).toNat % 2 ^ 31 := by
    rw [BitVec.toNat_and, BitVec.toNat_ofInt, h127, Nat.and_two_pow_sub_one_eq_mod]
  show IntKind.i64.wrap ((BitVec.ofInt 64 n &&& BitVec.ofInt 64 2147483647).toNat : Nat) = n % 2147483648
  rw [key, IntKind.wrap_i64]
  omega

/-- Five limbs as a value. -/
def Lv (a b c d e : Int) : Value := .agg #[.int .i64 a, .int .i64 b, .int .i64 c, .int .i64 d, .int .i64 e]

set_option maxHeartbeats 400000 in
theorem limbs_any (n : Int) (h0 : 0 ≤ n) (h1 : n < 9223372036854775808) (w : World) :
    Calls Tryd.prog 47 #[.int .i64 n] w fun e w' => ∃ a b c : Int, 0 ≤ a ∧ a < 2147483648 ∧ 0 ≤ b ∧ b < 2147483648 ∧ 0 ≤ c ∧ c ≤ 1 ∧ n = a + 2147483648 * b + 4611686018427387904 * c ∧
      e = .returned (.agg #[.int .i64 a, .int .i64 b, .int .i64 c, .int .i64 0, .int .i64 0]) ∧
      (w.alloc (.cells #[.int .i64 a, .int .i64 b, .int .i64 c, .int .i64 0, .int .i64 0] 108)).alloc (.cells #[.int .i64 a, .int .i64 b, .int .i64 c, .int .i64 0, .int .i64 0] 108) = w' := by
  have e2 : n / 2147483648 / 2147483648 % 2147483648 = n / 4611686018427387904 := by omega
  have e3 : n / 2147483648 / 2147483648 / 2147483648 % 2147483648 = 0 := by omega
  have e4 : n / 2147483648 / 2147483648 / 2147483648 / 2147483648 % 2147483648 = 0 := by omega
  have E2 := hide e2; have E3 := hide e3; have E4 := hide e4
  clear e2 e3 e4
  go_enter Tryd.func47, Tryd.ntmps47
  go_wp2
  go_rounds 6
  simp only [and31]
  go_returns
  rw [unhide E2, unhide E3, unhide E4]
  exact ⟨_, _, _, by omega, by omega, by omega, by omega, by omega, by omega, by omega, rfl, rfl⟩
end Go.Proofs.YtogdekjklbbbiaaDoor
