import Derived.Test.YtogdekjklbbbiaaLimbs
import Derived.Test.YtogdekjklbbbiaaNum
namespace Go.Proofs.Ytogdekjklbbbiaa
open Go.ChangeShapes Go.WideShapes Go.ChangeAt Go.RowKit
set_option maxHeartbeats 1000000 in
theorem plus_any (x0 x1 x2 x3 x4 n : Int) (hx0 : 0 ≤ x0 ∧ x0 < 2147483648) (hx1 : 0 ≤ x1 ∧ x1 < 2147483648) (hx2 : 0 ≤ x2 ∧ x2 < 2147483648) (hx3 : 0 ≤ x3 ∧ x3 < 2147483648) (hx4 : 0 ≤ x4 ∧ x4 < 1000)
    (h0 : 0 ≤ n) (h1 : n < 9223372036854775808) (w : World) :
    Calls Try.prog 16 #[.agg #[.int .i64 x0, .int .i64 x1, .int .i64 x2, .int .i64 x3, .int .i64 x4], .int .i64 n] w fun e w' => ∃ p q r s t : Int, e = .returned (.agg #[.int .i64 p, .int .i64 q, .int .i64 r, .int .i64 s, .int .i64 t]) ∧
      p + 2147483648 * q + 4611686018427387904 * r + 9903520314283042199192993792 * s + 21267647932558653966460912964485513216 * t = x0 + 2147483648 * x1 + 4611686018427387904 * x2 + 9903520314283042199192993792 * x3 + 21267647932558653966460912964485513216 * x4 + n ∧
      (0 ≤ p ∧ p < 2147483648) ∧ (0 ≤ q ∧ q < 2147483648) ∧ (0 ≤ r ∧ r < 2147483648) ∧ (0 ≤ s ∧ s < 2147483648) ∧ (0 ≤ t ∧ t < 2147483648) ∧ Grown w w' := by
  obtain ⟨hx00, hx01⟩ := hx0
  obtain ⟨hx10, hx11⟩ := hx1
  obtain ⟨hx20, hx21⟩ := hx2
  obtain ⟨hx30, hx31⟩ := hx3
  obtain ⟨hx40, hx41⟩ := hx4
  go_enter Try.func16, Try.ntmps16
  go_wp2_with fail
  refine (limbs_any n h0 h1 _).mono ?_
  rintro e w1 ⟨y0, y1, y2, y00, y01, y10, y11, y20, y21, Hb, rfl, rfl⟩
  obtain ⟨o0, c0, e0, f0, s0, l0, u0, k0⟩ := spl (x0 + y0) (by omega)
  obtain ⟨o1, c1, e1, f1, s1, l1, u1, k1⟩ := spl (x1 + y1 + c0) (by omega)
  obtain ⟨o2, c2, e2, f2, s2, l2, u2, k2⟩ := spl (x2 + y2 + c1) (by omega)
  obtain ⟨o3, c3, e3, f3, s3, l3, u3, k3⟩ := spl (x3 + c2) (by omega)
  obtain ⟨o4, c4, e4, f4, s4, l4, u4, k4⟩ := spl (x4 + c3) (by omega)
  have j0 : c0 ≤ 1 := by omega
  have j1 : c1 ≤ 1 := by omega
  have j2 : c2 ≤ 1 := by omega
  have j3 : c3 ≤ 1 := by omega
  have hv : o0 + 2147483648 * o1 + 4611686018427387904 * o2 + 9903520314283042199192993792 * o3 + 21267647932558653966460912964485513216 * o4 = x0 + 2147483648 * x1 + 4611686018427387904 * x2 + 9903520314283042199192993792 * x3 + 21267647932558653966460912964485513216 * x4 + n := by
    clear e0 f0 e1 f1 e2 f2 e3 f3 e4 f4
    omega
  have HV := hide hv; clear hv
  clear Hb s0 s1 s2 s3 s4
  have A31 := and31
  have SD : ∀ (w : World) (n : Nat) (a : Addr) (v : Value), (w.drewN n).setCell a v = (w.setCell a v).drewN n := fun _ _ _ _ => rfl
  go_wp2_with fail
  refine wp_loop_rounds 6 ?_
  rw [rounds_succ]; go_wp2; go_quiet (fail); go_wp2
  rw [rounds_succ]; go_wp2; go_quiet (fail); go_wp2
  rw [rounds_succ]; go_wp2; go_quiet (fail); go_wp2
  rw [rounds_succ]; go_wp2; go_quiet (fail); go_wp2
  rw [rounds_succ]; go_wp2; go_quiet (fail); go_wp2
  rw [rounds_succ]; go_wp2
  go_returns
  refine ⟨o0, o1, o2, o3, o4, rfl, unhide HV, ⟨l0, u0⟩, ⟨l1, u1⟩, ⟨l2, u2⟩, ⟨l3, u3⟩, ⟨l4, u4⟩, Grown.drewN ?_ _⟩
  go_grown
end Go.Proofs.Ytogdekjklbbbiaa
