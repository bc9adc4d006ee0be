import Derived.Test.YtogdekjklbbbiaaTimes
import Derived.Test.YtogdekjklbbbiaaPlus
import Derived.Test.YtogdekjklbbbiaaBelow
namespace Go.Proofs.Ytogdekjklbbbiaa
open Go.ChangeShapes Go.WideShapes Go.ChangeAt Go.RowKit

theorem Grown.cell {W w' : World} (h : Grown W w') (b o : Nat) (hb : b < W.heap.size) : w'.cell? ⟨b, o, none⟩ = W.cell? ⟨b, o, none⟩ := by
  have h3 := h.1.2.2 b hb
  unfold World.cell?
  dsimp only
  revert h3
  cases e1 : W.heap[b]? with
  | none => simp at e1; omega
  | some p =>
    cases e2 : w'.heap[b]? with
    | none => cases p <;> simp
    | some q =>
      cases p <;> cases q <;> simp
      intro _ _ _ h4
      rw [h4 o]

set_option maxHeartbeats 1000000 in
theorem quot_any (x0 x1 x2 x3 x4 c : Int) (hx0 : 0 ≤ x0 ∧ x0 < 2147483648) (hx1 : 0 ≤ x1 ∧ x1 < 2147483648) (hx2 : 0 ≤ x2 ∧ x2 < 2147483648) (hx3 : 0 ≤ x3 ∧ x3 < 2147483648) (hx4 : 0 ≤ x4 ∧ x4 < 2147483648)
    (X : Int) (hX : X = x0 + 2147483648 * x1 + 4611686018427387904 * x2 + 9903520314283042199192993792 * x3 + 21267647932558653966460912964485513216 * x4) (h0 : 1 ≤ c) (h1 : c < 9223372036854775808) (w : World) :
    Calls Try.prog 14 #[.agg #[.int .i64 x0, .int .i64 x1, .int .i64 x2, .int .i64 x3, .int .i64 x4], .int .i64 c] w fun e w' =>
      ∃ (q : Int) (b : Bool), e = .returned (.tuple #[.int .i64 q, .bool b]) ∧ (b = true → 0 ≤ q ∧ q < 9223372036854775808 ∧ c * q ≤ X ∧ X < c * q + c) ∧ (b = false → c * 9223372036854775808 ≤ X) ∧ Grown w w' := by
  have HX := hide hX; clear hX
  have hX0 : 0 ≤ X := by have := unhide HX; omega
  go_enter Try.func14, Try.ntmps14
  go_wp2
  go_loopw [6, 7] (fun q k wr => ∃ (j : Nat) (qv : Int), k = .int .i64 ((j : Int) - 1) ∧ j ≤ 63 ∧ q = .int .i64 qv ∧ 0 ≤ qv ∧ Hid (qv + 2 ^ j ≤ 9223372036854775808 ∧ c * qv ≤ X ∧ (X < c * (qv + 2 ^ j) ∨ qv + 2 ^ j = 9223372036854775808)) ∧ Grown (w.alloc (.cells #[.int .i64 x0, .int .i64 x1, .int .i64 x2, .int .i64 x3, .int .i64 x4] 38)) wr) (fun _ k _ => (intOf k + 1).toNat)
  case atStart => exact ⟨63, 0, rfl, by omega, rfl, by omega, hide ⟨by decide, by omega, Or.inr (by decide)⟩, Grown.refl _⟩
  case round =>
    obtain ⟨j, qv, rfl, hj, rfl, hq0, HQ, hg⟩ := hrel
    have hcell := Grown.cell hg
    have hsz : w.heap.size + 1 ≤ wr.heap.size := by have := hg.2.2; simpa using this
    by_cases hlt : 0 < j
    · obtain ⟨i, rfl⟩ : ∃ i, j = i + 1 := ⟨j - 1, by omega⟩
      rw [show ((i + 1 : Nat) : Int) - 1 = (i : Int) from by omega]
      obtain ⟨P, hP⟩ : ∃ P, (2 : Int) ^ i = P := ⟨_, rfl⟩
      have hP1 : 1 ≤ P := by have := Int.pow_pos (n := 2) (m := i) (by decide); omega
      have hq := unhide HQ
      rw [show (2 : Int) ^ (i + 1) = 2 * P from by rw [Int.pow_succ, hP]; omega] at hq
      clear HQ
      obtain ⟨hq1, hq2, hq3⟩ := hq
      have HQ3 := hide hq3; clear hq3
      have HQ2 := hide hq2; clear hq2
      have hcq : 0 ≤ qv + P ∧ qv + P < 9223372036854775808 := by omega
      go_wp2_with fail
      refine (times_any c (qv + P) (by omega) (by omega) (by omega) (by omega) _).mono ?_
      rintro e w1 ⟨p0, p1, p2, p3, p4, rfl, hp, p0b, p1b, p2b, p3b, p4b, hg1⟩
      have HP := hide hp; clear hp
      have hsz1 := hg1.2.2
      have hlt1 : w.heap.size < w1.heap.size := by omega
      have k0 : w1.cell? ⟨w.heap.size, 0, none⟩ = some (.int .i64 x0) := by rw [Grown.cell hg1 _ _ (by omega), hcell _ _ (by simp)]; simp [go_sem]
      have k1 : w1.cell? ⟨w.heap.size, 1, none⟩ = some (.int .i64 x1) := by rw [Grown.cell hg1 _ _ (by omega), hcell _ _ (by simp)]; simp [go_sem]
      have k2 : w1.cell? ⟨w.heap.size, 2, none⟩ = some (.int .i64 x2) := by rw [Grown.cell hg1 _ _ (by omega), hcell _ _ (by simp)]; simp [go_sem]
      have k3 : w1.cell? ⟨w.heap.size, 3, none⟩ = some (.int .i64 x3) := by rw [Grown.cell hg1 _ _ (by omega), hcell _ _ (by simp)]; simp [go_sem]
      have k4 : w1.cell? ⟨w.heap.size, 4, none⟩ = some (.int .i64 x4) := by rw [Grown.cell hg1 _ _ (by omega), hcell _ _ (by simp)]; simp [go_sem]
      clear hcell
      go_wp2_with fail
      refine (below_any x0 x1 x2 x3 x4 p0 p1 p2 p3 p4 hx0 hx1 hx2 hx3 p0b p1b p2b p3b _).mono ?_
      rintro e w2 ⟨b, rfl, hb, hg2⟩
      have HG : Hid (Grown (w.alloc (.cells #[.int .i64 x0, .int .i64 x1, .int .i64 x2, .int .i64 x3, .int .i64 x4] 38)) w2) := by
        refine Grown.trans hg (Grown.trans hg1 (Grown.trans ?_ hg2))
        go_grown
      have hb2 : (b = true ↔ X < c * (qv + P)) := by rw [hb, ← unhide HX, ← unhide HP]
      clear hb
      cases b
      · have hb3 := hide (show c * (qv + P) ≤ X by simpa using hb2)
        clear hb2
        go_wp2
        go_roundw
        case rel => exact ⟨i, qv + P, rfl, by omega, rfl, by omega, hide ⟨by omega, unhide hb3, by have := unhide HQ3; rw [hP, show qv + P + P = qv + 2 * P from by omega]; exact this⟩, unhide HG⟩
        case measure => simp [intOf]
      · have hb3 := hide (show X < c * (qv + P) by simpa using hb2)
        clear hb2
        go_wp2
        go_roundw
        case rel => exact ⟨i, qv, rfl, by omega, rfl, by omega, hide ⟨by omega, unhide HQ2, Or.inl (by rw [hP]; exact unhide hb3)⟩, unhide HG⟩
        case measure => simp [intOf]
    · obtain rfl : j = 0 := by omega
      rw [show ((0 : Nat) : Int) - 1 = -1 from by omega]
      have hq := unhide HQ
      rw [show (2 : Int) ^ 0 = 1 from rfl] at hq
      clear HQ
      obtain ⟨hq1, hq2, hq3⟩ := hq
      have HQ3 := hide hq3; clear hq3
      have HQ2 := hide hq2; clear hq2
      have hpb := hide (prodb (x := c) (y := qv) 9223372036854775807 9223372036854775807 (by omega) (by omega) (by omega) (by omega))
      go_wp2_with fail
      refine (times_any c qv (by omega) (by omega) (by omega) (by omega) _).mono ?_
      rintro e w1 ⟨p0, p1, p2, p3, p4, rfl, hp, p0b, p1b, p2b, p3b, p4b, hg1⟩
      have p42 : 0 ≤ p4 ∧ p4 < 1000 := by have := unhide hpb; omega
      have HP := hide hp; clear hp
      have hsz1 := hg1.2.2
      go_wp2_with fail
      refine (plus_any p0 p1 p2 p3 p4 c p0b p1b p2b p3b p42 (by omega) (by omega) _).mono ?_
      rintro e w2 ⟨q0, q1, q2, q3, q4, rfl, hq, q0b, q1b, q2b, q3b, q4b, hg2⟩
      have HR := hide hq; clear hq
      have hsz2 := hg2.2.2
      have hlt2 : w.heap.size < w2.heap.size := by omega
      have k0 : w2.cell? ⟨w.heap.size, 0, none⟩ = some (.int .i64 x0) := by rw [Grown.cell hg2 _ _ (by omega), Grown.cell hg1 _ _ (by omega), hcell _ _ (by simp)]; simp [go_sem]
      have k1 : w2.cell? ⟨w.heap.size, 1, none⟩ = some (.int .i64 x1) := by rw [Grown.cell hg2 _ _ (by omega), Grown.cell hg1 _ _ (by omega), hcell _ _ (by simp)]; simp [go_sem]
      have k2 : w2.cell? ⟨w.heap.size, 2, none⟩ = some (.int .i64 x2) := by rw [Grown.cell hg2 _ _ (by omega), Grown.cell hg1 _ _ (by omega), hcell _ _ (by simp)]; simp [go_sem]
      have k3 : w2.cell? ⟨w.heap.size, 3, none⟩ = some (.int .i64 x3) := by rw [Grown.cell hg2 _ _ (by omega), Grown.cell hg1 _ _ (by omega), hcell _ _ (by simp)]; simp [go_sem]
      have k4 : w2.cell? ⟨w.heap.size, 4, none⟩ = some (.int .i64 x4) := by rw [Grown.cell hg2 _ _ (by omega), Grown.cell hg1 _ _ (by omega), hcell _ _ (by simp)]; simp [go_sem]
      clear hcell
      have hGb : Hid (Grown w wr) := Grown.trans ((Grown.refl _).alloc _ _) hg
      have hcq : Hid (c * (qv + 1) = c * qv + c) := by show _ = _; rw [Int.mul_add, Int.mul_one]
      by_cases hm : qv = 9223372036854775807
      · have hm1 : (qv == 9223372036854775807) = true := by simpa using hm
        have HM := hide hm; clear hm
        go_wp2_with fail
        refine (below_any x0 x1 x2 x3 x4 q0 q1 q2 q3 q4 hx0 hx1 hx2 hx3 q0b q1b q2b q3b _).mono ?_
        rintro e w3 ⟨b, rfl, hb, hg3⟩
        have hb2 : (b = true ↔ X < c * qv + c) := by rw [hb, ← unhide HX, unhide HR, unhide HP]
        have HB := hide hb2
        clear hb hb2
        go_wp2
        go_ret2
        refine ⟨qv, b, rfl, fun h => ⟨by omega, by omega, unhide HQ2, (unhide HB).1 h⟩, fun h => ?_, Grown.trans (unhide hGb) (Grown.trans hg1 (Grown.trans hg2 (Grown.trans ?_ hg3)))⟩
        · have h2 := unhide HB
          rw [h] at h2
          have h3 := unhide hcq
          rw [show qv + 1 = 9223372036854775808 from by have := unhide HM; omega] at h3
          rw [h3]
          simpa using h2
        · go_grown
      · have hm1 : (qv == 9223372036854775807) = false := by simpa using hm
        have HM := hide hm; clear hm
        go_wp2
        go_ret2
        refine ⟨qv, true, rfl, fun _ => ⟨by omega, by omega, unhide HQ2, ?_⟩, (fun h => by cases h), Grown.trans (unhide hGb) (Grown.trans hg1 (Grown.trans hg2 ?_))⟩
        · rcases unhide HQ3 with h | h
          · rw [unhide hcq] at h; exact h
          · have := unhide HM; omega
        · go_grown
end Go.Proofs.Ytogdekjklbbbiaa
