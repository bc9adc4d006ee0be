import Derived.Test.YtogdekjklbbbiaaDiv
import Derived.Test.YtogdekjklbbbiaaQuot
namespace Go.Proofs.Ytogdekjklbbbiaa
open Go.ChangeShapes Go.WideShapes Go.ChangeAt Go.RowKit

def scl (a b c : Int) : Int := if a < 0 ∨ b < 0 ∨ c < 1 then 0 else if 9223372036854775807 < a * b / c then 0 else a * b / c
def sclE (a b c : Int) : Int := if a < 0 ∨ b < 0 ∨ c < 1 then 1 else if 9223372036854775807 < a * b / c then 2 else 0

theorem div_q {x c q : Int} (hc : 0 < c) (h1 : q * c ≤ x) (h2 : x < (q + 1) * c) : x / c = q := by
  have h3 := Int.ediv_lt_of_lt_mul hc h2
  have h4 := Int.le_ediv_of_mul_le hc h1
  omega
theorem scl_in {a b c q : Int} (hb : ¬ (a < 0 ∨ b < 0 ∨ c < 1)) (h1 : q * c ≤ a * b) (h2 : a * b < (q + 1) * c) (h3 : q ≤ 9223372036854775807) : q = scl a b c ∧ 0 = sclE a b c := by
  have e := div_q (by omega) h1 h2
  rw [scl, sclE, if_neg hb, if_neg hb, e, if_neg (by omega), if_neg (by omega)]
  exact ⟨rfl, rfl⟩
theorem scl_out {a b c q : Int} (hb : ¬ (a < 0 ∨ b < 0 ∨ c < 1)) (h1 : q * c ≤ a * b) (h3 : 9223372036854775807 < q) : 0 = scl a b c ∧ 2 = sclE a b c := by
  have h4 := Int.le_ediv_of_mul_le (show 0 < c by omega) h1
  rw [scl, sclE, if_neg hb, if_neg hb, if_pos (by omega), if_pos (by omega)]
  exact ⟨rfl, rfl⟩
theorem ret2_both {a b c d : Int} {k l : IntKind} (h : a = c ∧ b = d) : Ending.returned (.tuple #[.int k a, .int l b]) = .returned (.tuple #[.int k c, .int l d]) := by rw [h.1, h.2]

set_option maxHeartbeats 1000000 in
theorem scale_any (a b c : Int) (hc : -9223372036854775808 ≤ a ∧ a < 9223372036854775808) (hr : -9223372036854775808 ≤ b ∧ b < 9223372036854775808) (hm : -9223372036854775808 ≤ c ∧ c < 9223372036854775808) (w : World) :
    Calls Try.prog 5 #[.int .i64 a, .int .i64 b, .int .i64 c] w fun e w' => e = .returned (.tuple #[.int .i64 (scl a b c), .int .i64 (sclE a b c)]) ∧ Grown w w' := by
  obtain ⟨hc0, hc1⟩ := hc
  obtain ⟨hr0, hr1⟩ := hr
  obtain ⟨hm0, hm1⟩ := hm
  by_cases h1 : a < 0
  · rw [show scl a b c = 0 from by rw [scl, if_pos (by omega)], show sclE a b c = 1 from by rw [sclE, if_pos (by omega)]]
    go_enter Try.func5, Try.ntmps5
    go_wp2
    go_ret2
    exact ⟨rfl, Grown.refl _⟩
  by_cases h2 : b < 0
  · rw [show scl a b c = 0 from by rw [scl, if_pos (by omega)], show sclE a b c = 1 from by rw [sclE, if_pos (by omega)]]
    go_enter Try.func5, Try.ntmps5
    go_wp2
    go_ret2
    exact ⟨rfl, Grown.refl _⟩
  by_cases h3 : c < 1
  · rw [show scl a b c = 0 from by rw [scl, if_pos (by omega)], show sclE a b c = 1 from by rw [sclE, if_pos (by omega)]]
    go_enter Try.func5, Try.ntmps5
    go_wp2
    go_ret2
    exact ⟨rfl, Grown.refl _⟩
  have hb : ¬ (a < 0 ∨ b < 0 ∨ c < 1) := by omega
  have HB := hide hb; clear hb
  have hp := prodb (x := a) (y := b) 9223372036854775807 9223372036854775807 (by omega) (by omega) (by omega) (by omega)
  obtain ⟨hp0, hp1⟩ := hp
  obtain ⟨hi, ehi⟩ : ∃ hi, a * b / 18446744073709551616 = hi := ⟨_, rfl⟩
  obtain ⟨lo, elo⟩ : ∃ lo, a * b % 18446744073709551616 = lo := ⟨_, rfl⟩
  have k1 : a * b = hi * 18446744073709551616 + lo := by omega
  have k2 : 0 ≤ hi ∧ hi < 9223372036854775808 := by omega
  have k3 : 0 ≤ lo ∧ lo < 18446744073709551616 := by omega
  obtain ⟨k4, k5⟩ := k2
  obtain ⟨k6, k7⟩ := k3
  have K1 := hide k1; clear k1
  have hcall := mul64_any a b (by omega) (by omega) (by omega) (by omega)
  rw [ehi, elo] at hcall
  have HC := hide hcall
  clear hcall ehi elo hp0 hp1
  by_cases h4 : c ≤ hi
  · have hf := hide (scl_out (q := 18446744073709551616) (unhide HB) (by have := unhide K1; omega) (by omega))
    go_enter Try.func5, Try.ntmps5
    go_wp2_with fail
    refine (unhide HC _).mono ?_
    rintro e w' ⟨rfl, rfl⟩
    go_wp2
    go_ret2
    exact ⟨ret2_both (unhide hf), Grown.refl _⟩
  · have hd : ∀ w, Calls Try.prog 13 #[.int .u64 hi, .int .u64 lo, .int .u64 c] w fun e w' => ∃ q r : Int, e = .returned (.tuple #[.int .u64 q, .int .u64 r]) ∧ 0 ≤ q ∧ q < 18446744073709551616 ∧ q * c ≤ hi * 18446744073709551616 + lo ∧ hi * 18446744073709551616 + lo < (q + 1) * c ∧ Grown w w' := by
      intro w
      by_cases hz : hi = 0
      · subst hz
        refine (div64_zero lo c (by omega) (by omega) k6 k7 w).mono ?_
        rintro e w' ⟨q, r, h⟩
        exact ⟨q, r, by simpa using h⟩
      · exact div64_pos hi lo c (by omega) (by omega) (by omega) k6 k7 w
    have HD := hide hd; clear hd
    go_enter Try.func5, Try.ntmps5
    go_wp2_with fail
    refine (unhide HC _).mono ?_
    rintro e w' ⟨rfl, rfl⟩
    go_wp2_with fail
    refine (unhide HD _).mono ?_
    rintro e w2 ⟨q, r, rfl, q0, q1, q2, q3, hg⟩
    rw [← unhide K1] at q2 q3
    have Q2 := hide q2; have Q3 := hide q3; clear q2 q3
    by_cases h5 : 9223372036854775807 < q
    · have hf := hide (scl_out (unhide HB) (unhide Q2) h5)
      go_wp2
      go_ret2
      exact ⟨ret2_both (unhide hf), hg⟩
    · have hf := hide (scl_in (unhide HB) (unhide Q2) (unhide Q3) (by omega))
      go_wp2
      go_ret2
      exact ⟨ret2_both (unhide hf), hg⟩

set_option maxHeartbeats 1000000 in
theorem scaleref_any (a b c : Int) (hc : -9223372036854775808 ≤ a ∧ a < 9223372036854775808) (hr : -9223372036854775808 ≤ b ∧ b < 9223372036854775808) (hm : -9223372036854775808 ≤ c ∧ c < 9223372036854775808) (w : World) :
    Calls Try.prog 6 #[.int .i64 a, .int .i64 b, .int .i64 c] w fun e w' => e = .returned (.tuple #[.int .i64 (scl a b c), .int .i64 (sclE a b c)]) ∧ Grown w w' := by
  obtain ⟨hc0, hc1⟩ := hc
  obtain ⟨hr0, hr1⟩ := hr
  obtain ⟨hm0, hm1⟩ := hm
  by_cases h1 : a < 0
  · rw [show scl a b c = 0 from by rw [scl, if_pos (by omega)], show sclE a b c = 1 from by rw [sclE, if_pos (by omega)]]
    go_enter Try.func6, Try.ntmps6
    go_wp2
    go_ret2
    exact ⟨rfl, Grown.refl _⟩
  by_cases h2 : b < 0
  · rw [show scl a b c = 0 from by rw [scl, if_pos (by omega)], show sclE a b c = 1 from by rw [sclE, if_pos (by omega)]]
    go_enter Try.func6, Try.ntmps6
    go_wp2
    go_ret2
    exact ⟨rfl, Grown.refl _⟩
  by_cases h3 : c < 1
  · rw [show scl a b c = 0 from by rw [scl, if_pos (by omega)], show sclE a b c = 1 from by rw [sclE, if_pos (by omega)]]
    go_enter Try.func6, Try.ntmps6
    go_wp2
    go_ret2
    exact ⟨rfl, Grown.refl _⟩
  have hb : ¬ (a < 0 ∨ b < 0 ∨ c < 1) := by omega
  have HB := hide hb; clear hb
  go_enter Try.func6, Try.ntmps6
  go_wp2_with fail
  refine (times_any a b (by omega) (by omega) (by omega) (by omega) _).mono ?_
  rintro e w1 ⟨p0, p1, p2, p3, p4, rfl, hp, p0b, p1b, p2b, p3b, p4b, hg1⟩
  have HP := hide hp; clear hp
  go_wp2_with fail
  refine (quot_any p0 p1 p2 p3 p4 c p0b p1b p2b p3b p4b (a * b) (unhide HP).symm (by omega) (by omega) _).mono ?_
  rintro e w2 ⟨q, k, rfl, hq, hk, hg2⟩
  have HQ := hide hq; have HK := hide hk; clear hq hk
  cases k
  · have h4 := unhide HK rfl
    have hf := hide (scl_out (q := 9223372036854775808) (unhide HB) (by rw [Int.mul_comm]; exact h4) (by omega))
    clear h4
    go_wp2
    go_ret2
    exact ⟨ret2_both (unhide hf), Grown.trans hg1 hg2⟩
  · obtain ⟨k1, k2, k3, k4⟩ := unhide HQ rfl
    have hf := hide (scl_in (q := q) (unhide HB) (by rw [Int.mul_comm]; exact k3) (by rw [Int.add_mul, Int.one_mul, Int.mul_comm q]; exact k4) (by omega))
    clear k3 k4
    go_wp2
    go_ret2
    exact ⟨ret2_both (unhide hf), Grown.trans hg1 hg2⟩
end Go.Proofs.Ytogdekjklbbbiaa
