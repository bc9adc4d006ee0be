import Derived.Test.YtogdekjklbbbiaaDoorLimbs
import Derived.Test.YtogdekjklbbbiaaDoorNum
namespace Go.Proofs.YtogdekjklbbbiaaDoor
open Go.ChangeShapes Go.WideShapes Go.ChangeAt Go.RowKit
theorem and32 (a : Int) (h0 : 0 ≤ a) (h1 : a < 18446744073709551616) : bits .and .u64 a 4294967295 = a % 4294967296 := by
  obtain ⟨n, rfl⟩ := Int.eq_ofNat_of_zero_le h0
  have h := bits_and_u64_nat n 4294967295 (by omega) (by omega)
  rw [show n &&& 4294967295 = n % 4294967296 from Nat.and_two_pow_sub_one_eq_mod n 32] at h
  exact h.trans (by omega)
theorem ret2_int {a b c d : Int} {k l : IntKind} (h : a = c) (h' : b = d) : Ending.returned (.tuple #[.int k a, .int l b]) = .returned (.tuple #[.int k c, .int l d]) := by rw [h, h']

theorem mulparts (x y : Int) (hx0 : 0 ≤ x) (hx : x < 18446744073709551616) (hy0 : 0 ≤ y) (hy : y < 18446744073709551616) :
    ∃ a b c d g s t u : Int, bits .and .u64 x 4294967295 = b ∧ x / 4294967296 = a ∧ bits .and .u64 y 4294967295 = d ∧ y / 4294967296 = c ∧
      b * d / 4294967296 = g ∧ bits .and .u64 (a * d + g) 4294967295 = s ∧ (a * d + g) / 4294967296 = t ∧ (s + b * c) / 4294967296 = u ∧
      (0 ≤ a ∧ a ≤ 4294967295) ∧ (0 ≤ b ∧ b ≤ 4294967295) ∧ (0 ≤ c ∧ c ≤ 4294967295) ∧ (0 ≤ d ∧ d ≤ 4294967295) ∧ (0 ≤ g ∧ g ≤ 4294967295) ∧ (0 ≤ s ∧ s ≤ 4294967295) ∧ (0 ≤ t ∧ t ≤ 4294967295) ∧ (0 ≤ u ∧ u ≤ 4294967295) ∧
      (0 ≤ b * d ∧ b * d ≤ 18446744065119617025) ∧ (0 ≤ a * d ∧ a * d ≤ 18446744065119617025) ∧ (0 ≤ b * c ∧ b * c ≤ 18446744065119617025) ∧ (0 ≤ a * c ∧ a * c ≤ 18446744065119617025) ∧ a * c + t + u = x * y / 18446744073709551616 := by
  have hb := and32 x hx0 hx
  have hd := and32 y hy0 hy
  have pbd := prodb (x := x % 4294967296) (y := y % 4294967296) 4294967295 4294967295 (by omega) (by omega) (by omega) (by omega)
  have pad := prodb (x := x / 4294967296) (y := y % 4294967296) 4294967295 4294967295 (by omega) (by omega) (by omega) (by omega)
  have pbc := prodb (x := x % 4294967296) (y := y / 4294967296) 4294967295 4294967295 (by omega) (by omega) (by omega) (by omega)
  have pac := prodb (x := x / 4294967296) (y := y / 4294967296) 4294967295 4294967295 (by omega) (by omega) (by omega) (by omega)
  have E : x * y = (x / 4294967296) * (y / 4294967296) * 18446744073709551616 + ((x / 4294967296) * (y % 4294967296) + (x % 4294967296) * (y / 4294967296)) * 4294967296 + (x % 4294967296) * (y % 4294967296) := by
    have e1 : x = 4294967296 * (x / 4294967296) + x % 4294967296 := by omega
    have e2 : y = 4294967296 * (y / 4294967296) + y % 4294967296 := by omega
    generalize x / 4294967296 = a at *
    generalize x % 4294967296 = b at *
    generalize y / 4294967296 = c at *
    generalize y % 4294967296 = d at *
    rw [e1, e2]
    grind
  rw [E]
  have ra : 0 ≤ x / 4294967296 ∧ x / 4294967296 ≤ 4294967295 := by omega
  have rb : 0 ≤ x % 4294967296 ∧ x % 4294967296 ≤ 4294967295 := by omega
  have rc : 0 ≤ y / 4294967296 ∧ y / 4294967296 ≤ 4294967295 := by omega
  have rd : 0 ≤ y % 4294967296 ∧ y % 4294967296 ≤ 4294967295 := by omega
  generalize x / 4294967296 = a at *
  generalize x % 4294967296 = b at *
  generalize y / 4294967296 = c at *
  generalize y % 4294967296 = d at *
  refine ⟨a, b, c, d, b * d / 4294967296, (a * d + b * d / 4294967296) % 4294967296, (a * d + b * d / 4294967296) / 4294967296, ((a * d + b * d / 4294967296) % 4294967296 + b * c) / 4294967296, hb, rfl, hd, rfl, rfl, ?_, rfl, rfl, ra, rb, rc, rd, ?_, ?_, ?_, ?_, pbd, pad, pbc, pac, ?_⟩
  · exact and32 _ (by omega) (by omega)
  all_goals (generalize a * c = ac at *; generalize a * d = ad at *; generalize b * c = bc at *; generalize b * d = bd at *; clear hb hd E; omega)

set_option maxHeartbeats 1000000 in
theorem mul64_any (x y : Int) (hx0 : 0 ≤ x) (hx : x < 18446744073709551616) (hy0 : 0 ≤ y) (hy : y < 18446744073709551616) (w : World) :
    Calls Tryd.prog 110 #[.int .u64 x, .int .u64 y] w fun e w' => e = .returned (.tuple #[.int .u64 (x * y / 18446744073709551616), .int .u64 (x * y % 18446744073709551616)]) ∧ w' = w := by
  obtain ⟨a, b, c, d, g, s, t, u, e1, e2, e3, e4, e5, e6, e7, e8, ⟨a0, a1⟩, ⟨b0, b1⟩, ⟨c0, c1⟩, ⟨d0, d1⟩, ⟨g0, g1⟩, ⟨s0, s1⟩, ⟨t0, t1⟩, ⟨u0, u1⟩, ⟨bd0, bd1⟩, ⟨ad0, ad1⟩, ⟨bc0, bc1⟩, ⟨ac0, ac1⟩, hi⟩ := mulparts x y hx0 hx hy0 hy
  have hlo : IntKind.u64.wrap (x * y) = x * y % 18446744073709551616 := IntKind.wrap_u64 _
  have HI := hide hi; have HL := hide hlo; clear hi hlo
  go_enter Tryd.func110, Tryd.ntmps110
  go_wp2
  go_ret2
  exact ⟨ret2_int (unhide HI) (unhide HL), rfl⟩
end Go.Proofs.YtogdekjklbbbiaaDoor
