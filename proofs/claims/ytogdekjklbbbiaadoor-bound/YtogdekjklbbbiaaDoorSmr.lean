import Derived.Test.YtogdekjklbbbiaaDoorSms
import Derived.Deep.RegionWith
set_option maxRecDepth 100000
namespace Go.Proofs.YtogdekjklbbbiaaDoor
open Go.ChangeShapes Go.WideShapes Go.ChangeAt Go.RowKit
theorem bel_drewN {B : Nat} {a w : World} (h : Below B a w) (n : Nat) : Below B a (w.drewN n) := ⟨h.os, h.tape, h.output, h.size, h.block⟩
theorem bel_trans {a b c : World} (h : Below a.heap.size a b) (k : Below b.heap.size b c) : Below a.heap.size a c := h.trans (k.mono h.size)
end Go.Proofs.YtogdekjklbbbiaaDoor

namespace Go.Proofs.YtogdekjklbbbiaaDoor
open Go.ChangeShapes Go.WideShapes Go.ChangeAt Go.RowKit
set_option maxHeartbeats 1000000 in
theorem times_any (a b : Int) (ha0 : 0 ≤ a) (ha1 : a < 9223372036854775808) (hb0 : 0 ≤ b) (hb1 : b < 9223372036854775808) (w : World) :
    Calls Tryd.prog 45 #[.int .i64 a, .int .i64 b] w fun e w' => ∃ p q r s t : Int, e = .returned (.agg #[.int .i64 p, .int .i64 q, .int .i64 r, .int .i64 s, .int .i64 t]) ∧
      p + 2147483648 * q + 4611686018427387904 * r + 9903520314283042199192993792 * s + 21267647932558653966460912964485513216 * t = a * b ∧
      (0 ≤ p ∧ p < 2147483648) ∧ (0 ≤ q ∧ q < 2147483648) ∧ (0 ≤ r ∧ r < 2147483648) ∧ (0 ≤ s ∧ s < 2147483648) ∧ (0 ≤ t ∧ t < 2147483648) ∧ Below w.heap.size w w' := by
  go_enter Tryd.func45, Tryd.ntmps45
  go_wp2_with fail
  refine (limbs_any a ha0 ha1 _).mono ?_
  rintro e w1 ⟨x0, x1, x2, x00, x01, x10, x11, x20, x21, Ha, rfl, rfl⟩
  have HA := hide Ha; clear Ha
  go_wp2_with fail
  refine (limbs_any b hb0 hb1 _).mono ?_
  rintro e w1 ⟨y0, y1, y2, y00, y01, y10, y11, y20, y21, Hb, rfl, rfl⟩
  have HB := hide Hb; clear Hb
  obtain ⟨o1, c1, o2, c2, o3, c3, o4, c4, o5, c5, o6, c6, o7, c7, o8, c8, o9, c9, ⟨e1, f1, m1, n1, l1, u1, k1, j1⟩, ⟨e2, f2, m2, n2, l2, u2, k2, j2⟩, ⟨e3, f3, m3, n3, l3, u3, k3, j3⟩, ⟨e4, f4, m4, n4, l4, u4, k4, j4⟩, ⟨e5, f5, m5, n5, l5, u5, k5, j5⟩, ⟨e6, f6, m6, n6, l6, u6, k6, j6⟩, ⟨e7, f7, m7, n7, l7, u7, k7, j7⟩, ⟨e8, f8, m8, n8, l8, u8, k8, j8⟩, ⟨e9, f9, m9, n9, l9, u9, k9, j9⟩, C⟩ := chain x0 x1 x2 y0 y1 y2 x00 x01 x10 x11 x20 x21 y00 y01 y10 y11 y20 y21
  have A31 := and31
  have SD : ∀ (w : World) (n : Nat) (a : Addr) (v : Value), (w.drewN n).setCell a v = (w.setCell a v).drewN n := fun _ _ _ _ => rfl
  go_wp2_with fail
  refine wp_loop_rounds 4 ?_
  rw [rounds_succ]
  go_wp2
  refine wp_loop_rounds 4 ?_
  rw [rounds_succ]; go_wp2; go_quiet (fail); go_wp2
  rw [rounds_succ]; go_wp2; go_quiet (fail); go_wp2
  rw [rounds_succ]; go_wp2; go_quiet (fail); go_wp2
  rw [rounds_succ]; go_wp2
  rw [rounds_succ]
  go_wp2
  refine wp_loop_rounds 4 ?_
  rw [rounds_succ]; go_wp2; go_quiet (fail); go_wp2
  rw [rounds_succ]; go_wp2; go_quiet (fail); go_wp2
  rw [rounds_succ]; go_wp2; go_quiet (fail); go_wp2
  rw [rounds_succ]; go_wp2
  rw [rounds_succ]
  go_wp2
  refine wp_loop_rounds 4 ?_
  rw [rounds_succ]; go_wp2; go_quiet (fail); go_wp2
  rw [rounds_succ]; go_wp2; go_quiet (fail); go_wp2
  rw [rounds_succ]; go_wp2; go_quiet (fail); go_wp2
  rw [rounds_succ]; go_wp2
  rw [rounds_succ]
  go_wp2
  go_returns
  refine ⟨o1, o4, o7, o8, o9, rfl, ?_, C.b1, C.b4, C.b7, C.b8, C.b9, bel_drewN ?_ _⟩
  · rw [C.val, ← unhide HA, ← unhide HB]
  · go_grown
end Go.Proofs.YtogdekjklbbbiaaDoor

namespace Go.Proofs.YtogdekjklbbbiaaDoor
open Go.ChangeShapes Go.WideShapes Go.ChangeAt Go.RowKit
set_option maxHeartbeats 1000000 in
theorem plus_any (x0 x1 x2 x3 x4 n : Int) (hx0 : 0 ≤ x0 ∧ x0 < 2147483648) (hx1 : 0 ≤ x1 ∧ x1 < 2147483648) (hx2 : 0 ≤ x2 ∧ x2 < 2147483648) (hx3 : 0 ≤ x3 ∧ x3 < 2147483648) (hx4 : 0 ≤ x4 ∧ x4 < 1000)
    (h0 : 0 ≤ n) (h1 : n < 9223372036854775808) (w : World) :
    Calls Tryd.prog 44 #[.agg #[.int .i64 x0, .int .i64 x1, .int .i64 x2, .int .i64 x3, .int .i64 x4], .int .i64 n] w fun e w' => ∃ p q r s t : Int, e = .returned (.agg #[.int .i64 p, .int .i64 q, .int .i64 r, .int .i64 s, .int .i64 t]) ∧
      p + 2147483648 * q + 4611686018427387904 * r + 9903520314283042199192993792 * s + 21267647932558653966460912964485513216 * t = x0 + 2147483648 * x1 + 4611686018427387904 * x2 + 9903520314283042199192993792 * x3 + 21267647932558653966460912964485513216 * x4 + n ∧
      (0 ≤ p ∧ p < 2147483648) ∧ (0 ≤ q ∧ q < 2147483648) ∧ (0 ≤ r ∧ r < 2147483648) ∧ (0 ≤ s ∧ s < 2147483648) ∧ (0 ≤ t ∧ t < 2147483648) ∧ Below w.heap.size w w' := by
  obtain ⟨hx00, hx01⟩ := hx0
  obtain ⟨hx10, hx11⟩ := hx1
  obtain ⟨hx20, hx21⟩ := hx2
  obtain ⟨hx30, hx31⟩ := hx3
  obtain ⟨hx40, hx41⟩ := hx4
  go_enter Tryd.func44, Tryd.ntmps44
  go_wp2_with fail
  refine (limbs_any n h0 h1 _).mono ?_
  rintro e w1 ⟨y0, y1, y2, y00, y01, y10, y11, y20, y21, Hb, rfl, rfl⟩
  obtain ⟨o0, c0, e0, f0, s0, l0, u0, k0⟩ := spl (x0 + y0) (by omega)
  obtain ⟨o1, c1, e1, f1, s1, l1, u1, k1⟩ := spl (x1 + y1 + c0) (by omega)
  obtain ⟨o2, c2, e2, f2, s2, l2, u2, k2⟩ := spl (x2 + y2 + c1) (by omega)
  obtain ⟨o3, c3, e3, f3, s3, l3, u3, k3⟩ := spl (x3 + c2) (by omega)
  obtain ⟨o4, c4, e4, f4, s4, l4, u4, k4⟩ := spl (x4 + c3) (by omega)
  have j0 : c0 ≤ 1 := by omega
  have j1 : c1 ≤ 1 := by omega
  have j2 : c2 ≤ 1 := by omega
  have j3 : c3 ≤ 1 := by omega
  have hv : o0 + 2147483648 * o1 + 4611686018427387904 * o2 + 9903520314283042199192993792 * o3 + 21267647932558653966460912964485513216 * o4 = x0 + 2147483648 * x1 + 4611686018427387904 * x2 + 9903520314283042199192993792 * x3 + 21267647932558653966460912964485513216 * x4 + n := by
    clear e0 f0 e1 f1 e2 f2 e3 f3 e4 f4
    omega
  have HV := hide hv; clear hv
  clear Hb s0 s1 s2 s3 s4
  have A31 := and31
  have SD : ∀ (w : World) (n : Nat) (a : Addr) (v : Value), (w.drewN n).setCell a v = (w.setCell a v).drewN n := fun _ _ _ _ => rfl
  go_wp2_with fail
  refine wp_loop_rounds 6 ?_
  rw [rounds_succ]; go_wp2; go_quiet (fail); go_wp2
  rw [rounds_succ]; go_wp2; go_quiet (fail); go_wp2
  rw [rounds_succ]; go_wp2; go_quiet (fail); go_wp2
  rw [rounds_succ]; go_wp2; go_quiet (fail); go_wp2
  rw [rounds_succ]; go_wp2; go_quiet (fail); go_wp2
  rw [rounds_succ]; go_wp2
  go_returns
  refine ⟨o0, o1, o2, o3, o4, rfl, unhide HV, ⟨l0, u0⟩, ⟨l1, u1⟩, ⟨l2, u2⟩, ⟨l3, u3⟩, ⟨l4, u4⟩, bel_drewN ?_ _⟩
  go_grown
end Go.Proofs.YtogdekjklbbbiaaDoor

namespace Go.Proofs.YtogdekjklbbbiaaDoor
open Go.ChangeShapes Go.WideShapes Go.ChangeAt Go.RowKit
set_option maxHeartbeats 1000000 in
theorem below_any (x0 x1 x2 x3 x4 y0 y1 y2 y3 y4 : Int) (hx0 : 0 ≤ x0 ∧ x0 < 2147483648) (hx1 : 0 ≤ x1 ∧ x1 < 2147483648) (hx2 : 0 ≤ x2 ∧ x2 < 2147483648) (hx3 : 0 ≤ x3 ∧ x3 < 2147483648)
    (hy0 : 0 ≤ y0 ∧ y0 < 2147483648) (hy1 : 0 ≤ y1 ∧ y1 < 2147483648) (hy2 : 0 ≤ y2 ∧ y2 < 2147483648) (hy3 : 0 ≤ y3 ∧ y3 < 2147483648) (w : World) :
    Calls Tryd.prog 46 #[.agg #[.int .i64 x0, .int .i64 x1, .int .i64 x2, .int .i64 x3, .int .i64 x4], .agg #[.int .i64 y0, .int .i64 y1, .int .i64 y2, .int .i64 y3, .int .i64 y4]] w fun e w' =>
      ∃ b : Bool, e = .returned (.bool b) ∧ (b = true ↔ x0 + 2147483648 * x1 + 4611686018427387904 * x2 + 9903520314283042199192993792 * x3 + 21267647932558653966460912964485513216 * x4 < y0 + 2147483648 * y1 + 4611686018427387904 * y2 + 9903520314283042199192993792 * y3 + 21267647932558653966460912964485513216 * y4) ∧ Below w.heap.size w w' := by
  go_enter Tryd.func46, Tryd.ntmps46
  go_wp2_with fail
  refine wp_loop_rounds 6 ?_
  rw [rounds_succ]; go_wp2; go_quiet (fail); go_wp2
  · have H4 : Hid ((x4 != y4) = true) := ‹(x4 != y4) = true›
    go_quiet (fail)
    go_wp2
    go_ret
    have g4 : x4 ≠ y4 := by simpa using unhide H4
    refine ⟨decide (x4 < y4), rfl, ?_, ?_⟩
    · rw [decide_eq_true_iff]; omega
    · repeat (with_reducible refine bel_drewN ?_ _)
      go_grown
  have g4 : x4 = y4 := by simpa using ‹(x4 != y4) = false›
  have G4 := hide g4; clear g4
  rw [rounds_succ]; go_wp2; go_quiet (fail); go_wp2
  · have H3 : Hid ((x3 != y3) = true) := ‹(x3 != y3) = true›
    go_quiet (fail)
    go_wp2
    go_ret
    have g3 : x3 ≠ y3 := by simpa using unhide H3
    have := unhide G4
    refine ⟨decide (x3 < y3), rfl, ?_, ?_⟩
    · rw [decide_eq_true_iff]; omega
    · repeat (with_reducible refine bel_drewN ?_ _)
      go_grown
  have g3 : x3 = y3 := by simpa using ‹(x3 != y3) = false›
  have G3 := hide g3; clear g3
  rw [rounds_succ]; go_wp2; go_quiet (fail); go_wp2
  · have H2 : Hid ((x2 != y2) = true) := ‹(x2 != y2) = true›
    go_quiet (fail)
    go_wp2
    go_ret
    have g2 : x2 ≠ y2 := by simpa using unhide H2
    have := unhide G4; have := unhide G3
    refine ⟨decide (x2 < y2), rfl, ?_, ?_⟩
    · rw [decide_eq_true_iff]; omega
    · repeat (with_reducible refine bel_drewN ?_ _)
      go_grown
  have g2 : x2 = y2 := by simpa using ‹(x2 != y2) = false›
  have G2 := hide g2; clear g2
  rw [rounds_succ]; go_wp2; go_quiet (fail); go_wp2
  · have H1 : Hid ((x1 != y1) = true) := ‹(x1 != y1) = true›
    go_quiet (fail)
    go_wp2
    go_ret
    have g1 : x1 ≠ y1 := by simpa using unhide H1
    have := unhide G4; have := unhide G3; have := unhide G2
    refine ⟨decide (x1 < y1), rfl, ?_, ?_⟩
    · rw [decide_eq_true_iff]; omega
    · repeat (with_reducible refine bel_drewN ?_ _)
      go_grown
  have g1 : x1 = y1 := by simpa using ‹(x1 != y1) = false›
  have G1 := hide g1; clear g1
  rw [rounds_succ]; go_wp2; go_quiet (fail); go_wp2
  · have H0 : Hid ((x0 != y0) = true) := ‹(x0 != y0) = true›
    go_quiet (fail)
    go_wp2
    go_ret
    have g0 : x0 ≠ y0 := by simpa using unhide H0
    have := unhide G4; have := unhide G3; have := unhide G2; have := unhide G1
    refine ⟨decide (x0 < y0), rfl, ?_, ?_⟩
    · rw [decide_eq_true_iff]; omega
    · repeat (with_reducible refine bel_drewN ?_ _)
      go_grown
  have g0 : x0 = y0 := by simpa using ‹(x0 != y0) = false›
  have G0 := hide g0; clear g0
  rw [rounds_succ]; go_wp2
  go_ret
  refine ⟨false, rfl, ?_, ?_⟩
  · have := unhide G0; have := unhide G1; have := unhide G2; have := unhide G3; have := unhide G4
    simp only [Bool.false_eq_true, false_iff]; omega
  · repeat (with_reducible refine bel_drewN ?_ _)
    go_grown
end Go.Proofs.YtogdekjklbbbiaaDoor

namespace Go.Proofs.YtogdekjklbbbiaaDoor
open Go.ChangeShapes Go.WideShapes Go.ChangeAt Go.RowKit

set_option maxHeartbeats 1000000 in
theorem accrueref_any (c r m t : Int) (hc : -9223372036854775808 ≤ c ∧ c < 9223372036854775808) (hr : -9223372036854775808 ≤ r ∧ r < 9223372036854775808) (hm : -9223372036854775808 ≤ m ∧ m < 9223372036854775808) (ht : -9223372036854775808 ≤ t ∧ t < 9223372036854775808) (w : World) :
    Calls Tryd.prog 19 #[.int .i64 c, .int .i64 r, .int .i64 m, .int .i64 t] w fun e w' => e = .returned (.tuple #[.int .i64 (acc c r m t), .int .i64 (accE c r m t)]) ∧ Below w.heap.size w w' := by
  obtain ⟨hc0, hc1⟩ := hc
  obtain ⟨hr0, hr1⟩ := hr
  obtain ⟨hm0, hm1⟩ := hm
  obtain ⟨ht0, ht1⟩ := ht
  by_cases h1 : c < 0
  · rw [show acc c r m t = 0 from by rw [acc, if_pos (by omega)], show accE c r m t = 1 from by rw [accE, if_pos (by omega)]]
    go_enter Tryd.func19, Tryd.ntmps19
    go_wp2
    go_ret2
    exact ⟨rfl, Below.refl _ _⟩
  by_cases h2 : r < 0
  · rw [show acc c r m t = 0 from by rw [acc, if_pos (by omega)], show accE c r m t = 1 from by rw [accE, if_pos (by omega)]]
    go_enter Tryd.func19, Tryd.ntmps19
    go_wp2
    go_ret2
    exact ⟨rfl, Below.refl _ _⟩
  by_cases h3 : m < 0
  · rw [show acc c r m t = 0 from by rw [acc, if_pos (by omega)], show accE c r m t = 1 from by rw [accE, if_pos (by omega)]]
    go_enter Tryd.func19, Tryd.ntmps19
    go_wp2
    go_ret2
    exact ⟨rfl, Below.refl _ _⟩
  by_cases h4 : t < 0
  · rw [show acc c r m t = 0 from by rw [acc, if_pos (by omega)], show accE c r m t = 1 from by rw [accE, if_pos (by omega)]]
    go_enter Tryd.func19, Tryd.ntmps19
    go_wp2
    go_ret2
    exact ⟨rfl, Below.refl _ _⟩
  by_cases h5 : m < c
  · rw [show acc c r m t = 0 from by rw [acc, if_pos (by omega)], show accE c r m t = 1 from by rw [accE, if_pos (by omega)]]
    go_enter Tryd.func19, Tryd.ntmps19
    go_wp2
    go_ret2
    exact ⟨rfl, Below.refl _ _⟩
  have hb : ¬ (c < 0 ∨ r < 0 ∨ m < 0 ∨ t < 0 ∨ m < c) := by omega
  rw [show acc c r m t = if m < c + r * t then m else c + r * t from by rw [acc, if_neg hb], show accE c r m t = 0 from by rw [accE, if_neg hb]]
  clear hb
  have hp := prodb (x := r) (y := t) 9223372036854775807 9223372036854775807 (by omega) (by omega) (by omega) (by omega)
  have HP := hide hp; clear hp
  go_enter Tryd.func19, Tryd.ntmps19
  go_wp2_with fail
  refine (times_any r t (by omega) (by omega) (by omega) (by omega) _).mono ?_
  rintro e w1 ⟨p0, p1, p2, p3, p4, rfl, hp, ⟨p00, p01⟩, ⟨p10, p11⟩, ⟨p20, p21⟩, ⟨p30, p31⟩, ⟨p40, p41⟩, hg1⟩
  have p42 : p4 < 1000 := by have := unhide HP; omega
  have HP1 := hide hp; clear hp
  go_wp2_with fail
  refine (plus_any p0 p1 p2 p3 p4 c ⟨p00, p01⟩ ⟨p10, p11⟩ ⟨p20, p21⟩ ⟨p30, p31⟩ ⟨p40, p42⟩ (by omega) (by omega) _).mono ?_
  rintro e w2 ⟨q0, q1, q2, q3, q4, rfl, hq, ⟨q00, q01⟩, ⟨q10, q11⟩, ⟨q20, q21⟩, ⟨q30, q31⟩, ⟨q40, q41⟩, hg2⟩
  have HQ := hide hq; clear hq
  go_wp2_with fail
  go_region_with (first | (go_at_call 47; refine (limbs_any m (by omega) (by omega) _).mono ?_; rintro e w' ⟨m0, m1, m2, m00, m01, m10, m11, m20, m21, hm, rfl, rfl⟩; have HM := hide hm; clear hm) | (go_at_call 46; refine (below_any m0 m1 m2 0 0 q0 q1 q2 q3 q4 (by omega) (by omega) (by omega) (by omega) (by omega) (by omega) (by omega) (by omega) _).mono ?_; rintro e w' ⟨b, rfl, hb, hg3⟩; have HB := hide hb; clear hb))
  all_goals
    have hk := unhide HB
    have hk1 := unhide HM
    have hk2 := unhide HQ
    have hk3 := unhide HP1
    have hk4 : (b = true ↔ m < c + r * t) := by rw [hk]; omega
    have hk5 := (unhide HP).1
    clear hk hk1 hk2 hk3
    have HG : Hid (Below w.heap.size w w') := by
      refine bel_trans hg1 (bel_trans hg2 (bel_trans ?_ hg3))
      repeat (with_reducible refine Below.drew ?_)
      go_grown
    cases b
    · have hk6 : c + r * t ≤ m := by simpa using hk4
      clear hk4
      go_wp2
      go_ret2
      exact ⟨rfl, unhide HG⟩
    · have hk6 : m < c + r * t := by simpa using hk4
      clear hk4
      go_wp2
      go_ret2
      exact ⟨rfl, unhide HG⟩
end Go.Proofs.YtogdekjklbbbiaaDoor
