import Derived.Test.YtogdekjklbbbiaaAcc
import Derived.Deep.RegionWith
namespace Go.Proofs.Ytogdekjklbbbiaa
open Go.ChangeShapes Go.WideShapes Go.ChangeAt Go.RowKit

set_option maxHeartbeats 1000000 in
theorem accrueref_any (c r m t : Int) (hc : -9223372036854775808 ≤ c ∧ c < 9223372036854775808) (hr : -9223372036854775808 ≤ r ∧ r < 9223372036854775808) (hm : -9223372036854775808 ≤ m ∧ m < 9223372036854775808) (ht : -9223372036854775808 ≤ t ∧ t < 9223372036854775808) (w : World) :
    Calls Try.prog 9 #[.int .i64 c, .int .i64 r, .int .i64 m, .int .i64 t] w fun e w' => e = .returned (.tuple #[.int .i64 (acc c r m t), .int .i64 (accE c r m t)]) ∧ Grown w w' := by
  obtain ⟨hc0, hc1⟩ := hc
  obtain ⟨hr0, hr1⟩ := hr
  obtain ⟨hm0, hm1⟩ := hm
  obtain ⟨ht0, ht1⟩ := ht
  by_cases h1 : c < 0
  · rw [show acc c r m t = 0 from by rw [acc, if_pos (by omega)], show accE c r m t = 1 from by rw [accE, if_pos (by omega)]]
    go_enter Try.func9, Try.ntmps9
    go_wp2
    go_ret2
    exact ⟨rfl, Grown.refl _⟩
  by_cases h2 : r < 0
  · rw [show acc c r m t = 0 from by rw [acc, if_pos (by omega)], show accE c r m t = 1 from by rw [accE, if_pos (by omega)]]
    go_enter Try.func9, Try.ntmps9
    go_wp2
    go_ret2
    exact ⟨rfl, Grown.refl _⟩
  by_cases h3 : m < 0
  · rw [show acc c r m t = 0 from by rw [acc, if_pos (by omega)], show accE c r m t = 1 from by rw [accE, if_pos (by omega)]]
    go_enter Try.func9, Try.ntmps9
    go_wp2
    go_ret2
    exact ⟨rfl, Grown.refl _⟩
  by_cases h4 : t < 0
  · rw [show acc c r m t = 0 from by rw [acc, if_pos (by omega)], show accE c r m t = 1 from by rw [accE, if_pos (by omega)]]
    go_enter Try.func9, Try.ntmps9
    go_wp2
    go_ret2
    exact ⟨rfl, Grown.refl _⟩
  by_cases h5 : m < c
  · rw [show acc c r m t = 0 from by rw [acc, if_pos (by omega)], show accE c r m t = 1 from by rw [accE, if_pos (by omega)]]
    go_enter Try.func9, Try.ntmps9
    go_wp2
    go_ret2
    exact ⟨rfl, Grown.refl _⟩
  have hb : ¬ (c < 0 ∨ r < 0 ∨ m < 0 ∨ t < 0 ∨ m < c) := by omega
  rw [show acc c r m t = if m < c + r * t then m else c + r * t from by rw [acc, if_neg hb], show accE c r m t = 0 from by rw [accE, if_neg hb]]
  clear hb
  have hp := prodb (x := r) (y := t) 9223372036854775807 9223372036854775807 (by omega) (by omega) (by omega) (by omega)
  have HP := hide hp; clear hp
  go_enter Try.func9, Try.ntmps9
  go_wp2_with fail
  refine (times_any r t (by omega) (by omega) (by omega) (by omega) _).mono ?_
  rintro e w1 ⟨p0, p1, p2, p3, p4, rfl, hp, ⟨p00, p01⟩, ⟨p10, p11⟩, ⟨p20, p21⟩, ⟨p30, p31⟩, ⟨p40, p41⟩, hg1⟩
  have p42 : p4 < 1000 := by have := unhide HP; omega
  have HP1 := hide hp; clear hp
  go_wp2_with fail
  refine (plus_any p0 p1 p2 p3 p4 c ⟨p00, p01⟩ ⟨p10, p11⟩ ⟨p20, p21⟩ ⟨p30, p31⟩ ⟨p40, p42⟩ (by omega) (by omega) _).mono ?_
  rintro e w2 ⟨q0, q1, q2, q3, q4, rfl, hq, ⟨q00, q01⟩, ⟨q10, q11⟩, ⟨q20, q21⟩, ⟨q30, q31⟩, ⟨q40, q41⟩, hg2⟩
  have HQ := hide hq; clear hq
  go_wp2_with fail
  go_region_with (first | (go_at_call 18; refine (limbs_any m (by omega) (by omega) _).mono ?_; rintro e w' ⟨m0, m1, m2, m00, m01, m10, m11, m20, m21, hm, rfl, rfl⟩; have HM := hide hm; clear hm) | (go_at_call 17; refine (below_any m0 m1 m2 0 0 q0 q1 q2 q3 q4 (by omega) (by omega) (by omega) (by omega) (by omega) (by omega) (by omega) (by omega) _).mono ?_; rintro e w' ⟨b, rfl, hb, hg3⟩; have HB := hide hb; clear hb))
  all_goals
    have hk := unhide HB
    have hk1 := unhide HM
    have hk2 := unhide HQ
    have hk3 := unhide HP1
    have hk4 : (b = true ↔ m < c + r * t) := by rw [hk]; omega
    have hk5 := (unhide HP).1
    clear hk hk1 hk2 hk3
    have HG : Hid (Grown w w') := by
      refine Grown.trans hg1 (Grown.trans hg2 (Grown.trans ?_ hg3))
      repeat (with_reducible refine Grown.drew ?_)
      go_grown
    cases b
    · have hk6 : c + r * t ≤ m := by simpa using hk4
      clear hk4
      go_wp2
      go_ret2
      exact ⟨rfl, unhide HG⟩
    · have hk6 : m < c + r * t := by simpa using hk4
      clear hk4
      go_wp2
      go_ret2
      exact ⟨rfl, unhide HG⟩
end Go.Proofs.Ytogdekjklbbbiaa
