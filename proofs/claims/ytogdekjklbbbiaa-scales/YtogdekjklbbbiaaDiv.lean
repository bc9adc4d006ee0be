import Derived.Test.YtogdekjklbbbiaaLen
import Derived.Test.YtogdekjklbbbiaaNorm
namespace Go.Proofs.Ytogdekjklbbbiaa
open Go.ChangeShapes Go.WideShapes Go.ChangeAt Go.RowKit

set_option maxHeartbeats 1000000 in
theorem div64_zero (lo y : Int) (h1 : 0 < y) (h2 : y < 9223372036854775808) (h3 : 0 ≤ lo) (h4 : lo < 18446744073709551616) (w : World) :
    Calls Try.prog 13 #[.int .u64 0, .int .u64 lo, .int .u64 y] w fun e w' => ∃ q r : Int, e = .returned (.tuple #[.int .u64 q, .int .u64 r]) ∧ 0 ≤ q ∧ q < 18446744073709551616 ∧ q * y ≤ lo ∧ lo < (q + 1) * y ∧ Grown w w' := by
  have e1 : (y == 0) = false := by rw [beq_eq_false_iff_ne]; omega
  have g1 := hide (Int.mul_ediv_add_emod lo y)
  have g2 := Int.emod_nonneg lo (show y ≠ 0 by omega)
  have g3 := Int.emod_lt_of_pos lo h1
  have g4 : 0 ≤ lo / y := Int.ediv_nonneg h3 (by omega)
  have g5 : lo / y ≤ lo := Int.ediv_le_self _ h3
  go_enter Try.func13, Try.ntmps13
  go_wp2
  go_quiet (fail)
  go_wp2
  go_ret2
  refine ⟨lo / y, _, rfl, g4, by omega, ?_, ?_, ?_⟩
  · have := unhide g1; rw [Int.mul_comm]; omega
  · have := unhide g1; rw [Int.add_mul, Int.mul_comm (lo / y)]; omega
  · exact Grown.drewN (Grown.refl _) _

set_option maxHeartbeats 4000000 in
theorem div64_pos (hi lo y : Int) (h0 : 0 < hi) (h1 : hi < y) (h2 : y < 9223372036854775808) (h3 : 0 ≤ lo) (h4 : lo < 18446744073709551616) (w : World) :
    Calls Try.prog 13 #[.int .u64 hi, .int .u64 lo, .int .u64 y] w fun e w' => ∃ q r : Int, e = .returned (.tuple #[.int .u64 q, .int .u64 r]) ∧ 0 ≤ q ∧ q < 18446744073709551616 ∧ q * y ≤ hi * 18446744073709551616 + lo ∧ hi * 18446744073709551616 + lo < (q + 1) * y ∧ Grown w w' := by
  obtain ⟨n, hn, n1, n2, n3, n4⟩ := norm_n y (by omega) h2
  obtain ⟨m1, m2, m3, m4, m5, m6, m7, m8, m9⟩ := norm_u hi lo y n n1 n2 h0 h1 h3 h4 n4
  have hSp : (0 : Int) < 2 ^ n := Int.pow_pos (by decide)
  obtain ⟨S, hS⟩ : ∃ S, (2 : Int) ^ n = S := ⟨_, rfl⟩
  rw [hS] at n3 n4 m1 m2 m5 m6 m7 m8 m9 hSp
  obtain ⟨Y, hY⟩ : ∃ Y, y * S = Y := ⟨_, rfl⟩
  rw [hY] at n3 n4 m6
  obtain ⟨H, hH⟩ : ∃ H, hi * S = H := ⟨_, rfl⟩
  rw [hH] at m1 m2 m5 m6 m9
  obtain ⟨l, hl⟩ : ∃ l, lo / 2 ^ (64 - n) = l := ⟨_, rfl⟩
  rw [hl] at m3 m4 m5 m6 m9
  obtain ⟨u, hu⟩ : ∃ u, H + l = u := ⟨_, rfl⟩
  rw [hu] at m5 m6 m9
  have hu0 : 0 ≤ u := by omega
  have HU := hide hu; clear hu
  obtain ⟨v, hv⟩ : ∃ v, IntKind.u64.wrap (lo * S) = v := ⟨_, rfl⟩
  rw [hv] at m7 m8 m9
  have HM9 := hide m9; clear m9
  have hb := and32 Y (by omega) n4
  have hu0' := and32 v m7 m8
  obtain ⟨a, ha⟩ : ∃ a, Y / 4294967296 = a := ⟨_, rfl⟩
  obtain ⟨b, hb'⟩ : ∃ b, Y % 4294967296 = b := ⟨_, rfl⟩
  obtain ⟨u1, hu1⟩ : ∃ u1, v / 4294967296 = u1 := ⟨_, rfl⟩
  obtain ⟨u0, hu0''⟩ : ∃ u0, v % 4294967296 = u0 := ⟨_, rfl⟩
  rw [hb'] at hb
  rw [hu0''] at hu0'
  have a1 : 2147483648 ≤ a ∧ a < 4294967296 := by omega
  have b1 : 0 ≤ b ∧ b < 4294967296 := by omega
  have c1 : 0 ≤ u1 ∧ u1 < 4294967296 := by omega
  have c0 : 0 ≤ u0 ∧ u0 < 4294967296 := by omega
  have HYab := hide (show Y = a * 4294967296 + b by omega)
  have HVu := hide (show v = u1 * 4294967296 + u0 by omega)
  clear hb' hu0''
  obtain ⟨a2, a3⟩ := a1; obtain ⟨b2, b3⟩ := b1; obtain ⟨c2, c3⟩ := c1; obtain ⟨c4, c5⟩ := c0
  have di := dig_init u a b u1 a2 a3 b2 b3 c2 c3 hu0 (by rw [← unhide HYab]; exact m6)
  obtain ⟨d1, d2, d3, d4, d5, D⟩ := di
  have e1 : (y == 0) = false := by rw [beq_eq_false_iff_ne]; omega
  have e2 : (hi == 0) = false := by rw [beq_eq_false_iff_ne]; omega
  have HN := hide hn; clear hn
  go_enter Try.func13, Try.ntmps13
  go_wp2_with fail
  refine (lz64_any y (by omega) (by omega) _).mono ?_
  rintro e w' ⟨rfl, rfl⟩
  rw [unhide HN]
  go_wp2_with fail
  go_loop [15, 16] (fun sq sr => ∃ q r : Int, sq = .int .u64 q ∧ sr = .int .u64 r ∧ 0 ≤ q ∧ q ≤ 4294967297 ∧ 0 ≤ r ∧ r < 4294967296 ∧ Dig u a b u1 q r) (fun sq _ => (intOf sq).toNat)
  case atStart => exact ⟨_, _, rfl, rfl, by omega, by omega, by omega, by omega, D⟩
  case round =>
    obtain ⟨q, r, rfl, rfl, q0, q1, r0, r1, D0⟩ := hrel
    clear d1 d2 d3 d4 d5 D
    by_cases hq : 4294967296 ≤ q
    · obtain ⟨s1, D1⟩ := dig_step D0 a2 a3 b2 b3 c2 c3 (by rw [← unhide HYab]; exact m6) r0 q0 (Or.inl hq)
      by_cases hr : 4294967296 ≤ r + a
      · have G := dig_break D1 a2 b2 b3 c3 (by rw [← unhide HYab]; exact m6) c2 (by omega) (by omega) hr
        obtain ⟨M, hM⟩ : ∃ M, u * 4294967296 + u1 - (q - 1) * (a * 4294967296 + b) = M := ⟨_, rfl⟩
        rw [hM] at G
        have EW := dug_wrap G (unhide HYab) n4
        have M0 := G.m0
        have M1 : M < Y := by rw [unhide HYab]; exact G.m1
        have Q0 := G.q0
        have Q1 := G.q1
        have GH := hide G
        clear hM G
        obtain ⟨f1, f2, f3, f4, f5, F⟩ := dig_init M a b u0 a2 a3 b2 b3 c4 c5 M0 (by rw [← unhide HYab]; exact M1)
        go_wp2_with fail
        go_loop [18, 16] (fun sq sr => ∃ p t : Int, sq = .int .u64 p ∧ sr = .int .u64 t ∧ 0 ≤ p ∧ p ≤ 4294967297 ∧ 0 ≤ t ∧ t < 4294967296 ∧ Dig M a b u0 p t) (fun sq _ => (intOf sq).toNat)
        case atStart => exact ⟨_, _, rfl, rfl, by omega, by omega, by omega, by omega, F⟩
        case round =>
          obtain ⟨p, t, rfl, rfl, p0, p1, t0, t1, F1⟩ := hrel
          clear f1 f2 f3 f4 f5 F
          by_cases hq : 4294967296 ≤ p
          · obtain ⟨s1, D1⟩ := dig_step F1 a2 a3 b2 b3 c4 c5 (by rw [← unhide HYab]; exact M1) t0 p0 (Or.inl hq)
            by_cases hr : 4294967296 ≤ t + a
            · have Z0 := dig_break D1 a2 b2 b3 c5 (by rw [← unhide HYab]; exact M1) c4 (by omega) (by omega) hr
              have P0 := Z0.q0
              have P1 := Z0.q1
              have Z := hide (dug_two hSp (hY.trans (unhide HYab)) (unhide HM9) (unhide HVu) (unhide GH) Z0)
              clear Z0
              go_wp2
              go_ret2
              exact ⟨(q - 1) * 4294967296 + (p - 1), ⟨_, rfl⟩, by omega, by omega, (unhide Z).1, (unhide Z).2, Grown.refl _⟩
            · go_wp2
              go_round
              case rel => exact ⟨p - 1, t + a, rfl, rfl, by omega, by omega, by omega, by omega, D1⟩
              case measure => simp [intOf]; omega
          · have pb := prodb (x := p) (y := b) 4294967295 4294967295 p0 (by omega) b2 (by omega)
            obtain ⟨pb0, pb1⟩ := pb
            by_cases hg : 4294967296 * t + u0 < p * b
            · obtain ⟨s1, D1⟩ := dig_step F1 a2 a3 b2 b3 c4 c5 (by rw [← unhide HYab]; exact M1) t0 p0 (Or.inr hg)
              by_cases hr : 4294967296 ≤ t + a
              · have Z0 := dig_break D1 a2 b2 b3 c5 (by rw [← unhide HYab]; exact M1) c4 (by omega) (by omega) hr
                have P0 := Z0.q0
                have P1 := Z0.q1
                have Z := hide (dug_two hSp (hY.trans (unhide HYab)) (unhide HM9) (unhide HVu) (unhide GH) Z0)
                clear Z0
                go_wp2
                go_ret2
                exact ⟨(q - 1) * 4294967296 + (p - 1), ⟨_, rfl⟩, by omega, by omega, (unhide Z).1, (unhide Z).2, Grown.refl _⟩
              · go_wp2
                go_round
                case rel => exact ⟨p - 1, t + a, rfl, rfl, by omega, by omega, by omega, by omega, D1⟩
                case measure => simp [intOf]; omega
            · have Z0 := dig_end F1 a2 b2 b3 c5 (by rw [← unhide HYab]; exact M1) c4 p0 (by omega)
              have P0 := Z0.q0
              have P1 := Z0.q1
              have Z := hide (dug_two hSp (hY.trans (unhide HYab)) (unhide HM9) (unhide HVu) (unhide GH) Z0)
              clear Z0
              go_wp2
              go_ret2
              exact ⟨(q - 1) * 4294967296 + p, ⟨_, rfl⟩, by omega, by omega, (unhide Z).1, (unhide Z).2, Grown.refl _⟩
      · go_wp2
        go_round
        case rel => exact ⟨q - 1, r + a, rfl, rfl, by omega, by omega, by omega, by omega, D1⟩
        case measure => simp [intOf]; omega
    · have pb := prodb (x := q) (y := b) 4294967295 4294967295 q0 (by omega) b2 (by omega)
      obtain ⟨pb0, pb1⟩ := pb
      by_cases hg : 4294967296 * r + u1 < q * b
      · obtain ⟨s1, D1⟩ := dig_step D0 a2 a3 b2 b3 c2 c3 (by rw [← unhide HYab]; exact m6) r0 q0 (Or.inr hg)
        by_cases hr : 4294967296 ≤ r + a
        · have G := dig_break D1 a2 b2 b3 c3 (by rw [← unhide HYab]; exact m6) c2 (by omega) (by omega) hr
          obtain ⟨M, hM⟩ : ∃ M, u * 4294967296 + u1 - (q - 1) * (a * 4294967296 + b) = M := ⟨_, rfl⟩
          rw [hM] at G
          have EW := dug_wrap G (unhide HYab) n4
          have M0 := G.m0
          have M1 : M < Y := by rw [unhide HYab]; exact G.m1
          have Q0 := G.q0
          have Q1 := G.q1
          have GH := hide G
          clear hM G
          obtain ⟨f1, f2, f3, f4, f5, F⟩ := dig_init M a b u0 a2 a3 b2 b3 c4 c5 M0 (by rw [← unhide HYab]; exact M1)
          go_wp2_with fail
          go_loop [18, 16] (fun sq sr => ∃ p t : Int, sq = .int .u64 p ∧ sr = .int .u64 t ∧ 0 ≤ p ∧ p ≤ 4294967297 ∧ 0 ≤ t ∧ t < 4294967296 ∧ Dig M a b u0 p t) (fun sq _ => (intOf sq).toNat)
          case atStart => exact ⟨_, _, rfl, rfl, by omega, by omega, by omega, by omega, F⟩
          case round =>
            obtain ⟨p, t, rfl, rfl, p0, p1, t0, t1, F1⟩ := hrel
            clear f1 f2 f3 f4 f5 F
            by_cases hq : 4294967296 ≤ p
            · obtain ⟨s1, D1⟩ := dig_step F1 a2 a3 b2 b3 c4 c5 (by rw [← unhide HYab]; exact M1) t0 p0 (Or.inl hq)
              by_cases hr : 4294967296 ≤ t + a
              · have Z0 := dig_break D1 a2 b2 b3 c5 (by rw [← unhide HYab]; exact M1) c4 (by omega) (by omega) hr
                have P0 := Z0.q0
                have P1 := Z0.q1
                have Z := hide (dug_two hSp (hY.trans (unhide HYab)) (unhide HM9) (unhide HVu) (unhide GH) Z0)
                clear Z0
                go_wp2
                go_ret2
                exact ⟨(q - 1) * 4294967296 + (p - 1), ⟨_, rfl⟩, by omega, by omega, (unhide Z).1, (unhide Z).2, Grown.refl _⟩
              · go_wp2
                go_round
                case rel => exact ⟨p - 1, t + a, rfl, rfl, by omega, by omega, by omega, by omega, D1⟩
                case measure => simp [intOf]; omega
            · have pb := prodb (x := p) (y := b) 4294967295 4294967295 p0 (by omega) b2 (by omega)
              obtain ⟨pb0, pb1⟩ := pb
              by_cases hg : 4294967296 * t + u0 < p * b
              · obtain ⟨s1, D1⟩ := dig_step F1 a2 a3 b2 b3 c4 c5 (by rw [← unhide HYab]; exact M1) t0 p0 (Or.inr hg)
                by_cases hr : 4294967296 ≤ t + a
                · have Z0 := dig_break D1 a2 b2 b3 c5 (by rw [← unhide HYab]; exact M1) c4 (by omega) (by omega) hr
                  have P0 := Z0.q0
                  have P1 := Z0.q1
                  have Z := hide (dug_two hSp (hY.trans (unhide HYab)) (unhide HM9) (unhide HVu) (unhide GH) Z0)
                  clear Z0
                  go_wp2
                  go_ret2
                  exact ⟨(q - 1) * 4294967296 + (p - 1), ⟨_, rfl⟩, by omega, by omega, (unhide Z).1, (unhide Z).2, Grown.refl _⟩
                · go_wp2
                  go_round
                  case rel => exact ⟨p - 1, t + a, rfl, rfl, by omega, by omega, by omega, by omega, D1⟩
                  case measure => simp [intOf]; omega
              · have Z0 := dig_end F1 a2 b2 b3 c5 (by rw [← unhide HYab]; exact M1) c4 p0 (by omega)
                have P0 := Z0.q0
                have P1 := Z0.q1
                have Z := hide (dug_two hSp (hY.trans (unhide HYab)) (unhide HM9) (unhide HVu) (unhide GH) Z0)
                clear Z0
                go_wp2
                go_ret2
                exact ⟨(q - 1) * 4294967296 + p, ⟨_, rfl⟩, by omega, by omega, (unhide Z).1, (unhide Z).2, Grown.refl _⟩
        · go_wp2
          go_round
          case rel => exact ⟨q - 1, r + a, rfl, rfl, by omega, by omega, by omega, by omega, D1⟩
          case measure => simp [intOf]; omega
      · have G := dig_end D0 a2 b2 b3 c3 (by rw [← unhide HYab]; exact m6) c2 q0 (by omega)
        obtain ⟨M, hM⟩ : ∃ M, u * 4294967296 + u1 - q * (a * 4294967296 + b) = M := ⟨_, rfl⟩
        rw [hM] at G
        have EW := dug_wrap G (unhide HYab) n4
        have M0 := G.m0
        have M1 : M < Y := by rw [unhide HYab]; exact G.m1
        have Q0 := G.q0
        have Q1 := G.q1
        have GH := hide G
        clear hM G
        obtain ⟨f1, f2, f3, f4, f5, F⟩ := dig_init M a b u0 a2 a3 b2 b3 c4 c5 M0 (by rw [← unhide HYab]; exact M1)
        go_wp2_with fail
        go_loop [18, 16] (fun sq sr => ∃ p t : Int, sq = .int .u64 p ∧ sr = .int .u64 t ∧ 0 ≤ p ∧ p ≤ 4294967297 ∧ 0 ≤ t ∧ t < 4294967296 ∧ Dig M a b u0 p t) (fun sq _ => (intOf sq).toNat)
        case atStart => exact ⟨_, _, rfl, rfl, by omega, by omega, by omega, by omega, F⟩
        case round =>
          obtain ⟨p, t, rfl, rfl, p0, p1, t0, t1, F1⟩ := hrel
          clear f1 f2 f3 f4 f5 F
          by_cases hq : 4294967296 ≤ p
          · obtain ⟨s1, D1⟩ := dig_step F1 a2 a3 b2 b3 c4 c5 (by rw [← unhide HYab]; exact M1) t0 p0 (Or.inl hq)
            by_cases hr : 4294967296 ≤ t + a
            · have Z0 := dig_break D1 a2 b2 b3 c5 (by rw [← unhide HYab]; exact M1) c4 (by omega) (by omega) hr
              have P0 := Z0.q0
              have P1 := Z0.q1
              have Z := hide (dug_two hSp (hY.trans (unhide HYab)) (unhide HM9) (unhide HVu) (unhide GH) Z0)
              clear Z0
              go_wp2
              go_ret2
              exact ⟨q * 4294967296 + (p - 1), ⟨_, rfl⟩, by omega, by omega, (unhide Z).1, (unhide Z).2, Grown.refl _⟩
            · go_wp2
              go_round
              case rel => exact ⟨p - 1, t + a, rfl, rfl, by omega, by omega, by omega, by omega, D1⟩
              case measure => simp [intOf]; omega
          · have pb := prodb (x := p) (y := b) 4294967295 4294967295 p0 (by omega) b2 (by omega)
            obtain ⟨pb0, pb1⟩ := pb
            by_cases hg : 4294967296 * t + u0 < p * b
            · obtain ⟨s1, D1⟩ := dig_step F1 a2 a3 b2 b3 c4 c5 (by rw [← unhide HYab]; exact M1) t0 p0 (Or.inr hg)
              by_cases hr : 4294967296 ≤ t + a
              · have Z0 := dig_break D1 a2 b2 b3 c5 (by rw [← unhide HYab]; exact M1) c4 (by omega) (by omega) hr
                have P0 := Z0.q0
                have P1 := Z0.q1
                have Z := hide (dug_two hSp (hY.trans (unhide HYab)) (unhide HM9) (unhide HVu) (unhide GH) Z0)
                clear Z0
                go_wp2
                go_ret2
                exact ⟨q * 4294967296 + (p - 1), ⟨_, rfl⟩, by omega, by omega, (unhide Z).1, (unhide Z).2, Grown.refl _⟩
              · go_wp2
                go_round
                case rel => exact ⟨p - 1, t + a, rfl, rfl, by omega, by omega, by omega, by omega, D1⟩
                case measure => simp [intOf]; omega
            · have Z0 := dig_end F1 a2 b2 b3 c5 (by rw [← unhide HYab]; exact M1) c4 p0 (by omega)
              have P0 := Z0.q0
              have P1 := Z0.q1
              have Z := hide (dug_two hSp (hY.trans (unhide HYab)) (unhide HM9) (unhide HVu) (unhide GH) Z0)
              clear Z0
              go_wp2
              go_ret2
              exact ⟨q * 4294967296 + p, ⟨_, rfl⟩, by omega, by omega, (unhide Z).1, (unhide Z).2, Grown.refl _⟩
end Go.Proofs.Ytogdekjklbbbiaa
