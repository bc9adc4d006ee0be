import Derived.Test.YtogdekjklbbbiaaGreatDoorZ02
namespace Go.Proofs.YtogdekjklbbbiaaGreatDoor
open Go.ChangeShapes Go.WideShapes Go.ChangeAt Go.RowKit
set_option maxHeartbeats 1000000 in
theorem times_any (a b : Int) (ha0 : 0 ≤ a) (ha1 : a < 9223372036854775808) (hb0 : 0 ≤ b) (hb1 : b < 9223372036854775808) (w : World) :
    Calls Tryz.prog 159 #[.int .i64 a, .int .i64 b] w fun e w' => ∃ p q r s t : Int, e = .returned (.agg #[.int .i64 p, .int .i64 q, .int .i64 r, .int .i64 s, .int .i64 t]) ∧
      p + 2147483648 * q + 4611686018427387904 * r + 9903520314283042199192993792 * s + 21267647932558653966460912964485513216 * t = a * b ∧
      (0 ≤ p ∧ p < 2147483648) ∧ (0 ≤ q ∧ q < 2147483648) ∧ (0 ≤ r ∧ r < 2147483648) ∧ (0 ≤ s ∧ s < 2147483648) ∧ (0 ≤ t ∧ t < 2147483648) ∧ Below w.heap.size w w' := by
  go_enter Tryz.func159, Tryz.ntmps159
  go_wp2_with fail
  refine (limbs_any a ha0 ha1 _).mono ?_
  rintro e w1 ⟨x0, x1, x2, x00, x01, x10, x11, x20, x21, Ha, rfl, rfl⟩
  have HA := hide Ha; clear Ha
  go_wp2_with fail
  refine (limbs_any b hb0 hb1 _).mono ?_
  rintro e w1 ⟨y0, y1, y2, y00, y01, y10, y11, y20, y21, Hb, rfl, rfl⟩
  have HB := hide Hb; clear Hb
  obtain ⟨o1, c1, o2, c2, o3, c3, o4, c4, o5, c5, o6, c6, o7, c7, o8, c8, o9, c9, ⟨e1, f1, m1, n1, l1, u1, k1, j1⟩, ⟨e2, f2, m2, n2, l2, u2, k2, j2⟩, ⟨e3, f3, m3, n3, l3, u3, k3, j3⟩, ⟨e4, f4, m4, n4, l4, u4, k4, j4⟩, ⟨e5, f5, m5, n5, l5, u5, k5, j5⟩, ⟨e6, f6, m6, n6, l6, u6, k6, j6⟩, ⟨e7, f7, m7, n7, l7, u7, k7, j7⟩, ⟨e8, f8, m8, n8, l8, u8, k8, j8⟩, ⟨e9, f9, m9, n9, l9, u9, k9, j9⟩, C⟩ := chain x0 x1 x2 y0 y1 y2 x00 x01 x10 x11 x20 x21 y00 y01 y10 y11 y20 y21
  have A31 := and31
  have SD : ∀ (w : World) (n : Nat) (a : Addr) (v : Value), (w.drewN n).setCell a v = (w.setCell a v).drewN n := fun _ _ _ _ => rfl
  go_wp2_with fail
  refine wp_loop_rounds 4 ?_
  rw [rounds_succ]
  go_wp2
  refine wp_loop_rounds 4 ?_
  rw [rounds_succ]; go_wp2; go_quiet (fail); go_wp2
  rw [rounds_succ]; go_wp2; go_quiet (fail); go_wp2
  rw [rounds_succ]; go_wp2; go_quiet (fail); go_wp2
  rw [rounds_succ]; go_wp2
  rw [rounds_succ]
  go_wp2
  refine wp_loop_rounds 4 ?_
  rw [rounds_succ]; go_wp2; go_quiet (fail); go_wp2
  rw [rounds_succ]; go_wp2; go_quiet (fail); go_wp2
  rw [rounds_succ]; go_wp2; go_quiet (fail); go_wp2
  rw [rounds_succ]; go_wp2
  rw [rounds_succ]
  go_wp2
  refine wp_loop_rounds 4 ?_
  rw [rounds_succ]; go_wp2; go_quiet (fail); go_wp2
  rw [rounds_succ]; go_wp2; go_quiet (fail); go_wp2
  rw [rounds_succ]; go_wp2; go_quiet (fail); go_wp2
  rw [rounds_succ]; go_wp2
  rw [rounds_succ]
  go_wp2
  go_returns
  refine ⟨o1, o4, o7, o8, o9, rfl, ?_, C.b1, C.b4, C.b7, C.b8, C.b9, bel_drewN ?_ _⟩
  · rw [C.val, ← unhide HA, ← unhide HB]
  · go_grown
end Go.Proofs.YtogdekjklbbbiaaGreatDoor
