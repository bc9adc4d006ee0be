import Derived.Test.YtogdekjklbbbiaaGreatDoorZ02
import Derived.Test.YtogdekjklbbbiaaGreatDoorRows
import Derived.Test.YtogdekjklbbbiaaGreatDoorCh
import Derived.Laws.MathBits
import Derived.Laws.BitsLemmas
import Derived.Laws.Shifts
import Derived.Laws.BitsAllLaws
set_option maxRecDepth 100000
namespace Go.Proofs.YtogdekjklbbbiaaGreatDoor
open Go.ChangeShapes Go.WideShapes Go.ChangeAt Go.RowKit
set_option maxHeartbeats 1000000 in
theorem plus_any (x0 x1 x2 x3 x4 n : Int) (hx0 : 0 ≤ x0 ∧ x0 < 2147483648) (hx1 : 0 ≤ x1 ∧ x1 < 2147483648) (hx2 : 0 ≤ x2 ∧ x2 < 2147483648) (hx3 : 0 ≤ x3 ∧ x3 < 2147483648) (hx4 : 0 ≤ x4 ∧ x4 < 1000)
    (h0 : 0 ≤ n) (h1 : n < 9223372036854775808) (w : World) :
    Calls Tryz.prog 158 #[.agg #[.int .i64 x0, .int .i64 x1, .int .i64 x2, .int .i64 x3, .int .i64 x4], .int .i64 n] w fun e w' => ∃ p q r s t : Int, e = .returned (.agg #[.int .i64 p, .int .i64 q, .int .i64 r, .int .i64 s, .int .i64 t]) ∧
      p + 2147483648 * q + 4611686018427387904 * r + 9903520314283042199192993792 * s + 21267647932558653966460912964485513216 * t = x0 + 2147483648 * x1 + 4611686018427387904 * x2 + 9903520314283042199192993792 * x3 + 21267647932558653966460912964485513216 * x4 + n ∧
      (0 ≤ p ∧ p < 2147483648) ∧ (0 ≤ q ∧ q < 2147483648) ∧ (0 ≤ r ∧ r < 2147483648) ∧ (0 ≤ s ∧ s < 2147483648) ∧ (0 ≤ t ∧ t < 2147483648) ∧ Below w.heap.size w w' := by
  obtain ⟨hx00, hx01⟩ := hx0
  obtain ⟨hx10, hx11⟩ := hx1
  obtain ⟨hx20, hx21⟩ := hx2
  obtain ⟨hx30, hx31⟩ := hx3
  obtain ⟨hx40, hx41⟩ := hx4
  go_enter Tryz.func158, Tryz.ntmps158
  go_wp2_with fail
  refine (limbs_any n h0 h1 _).mono ?_
  rintro e w1 ⟨y0, y1, y2, y00, y01, y10, y11, y20, y21, Hb, rfl, rfl⟩
  obtain ⟨o0, c0, e0, f0, s0, l0, u0, k0⟩ := spl (x0 + y0) (by omega)
  obtain ⟨o1, c1, e1, f1, s1, l1, u1, k1⟩ := spl (x1 + y1 + c0) (by omega)
  obtain ⟨o2, c2, e2, f2, s2, l2, u2, k2⟩ := spl (x2 + y2 + c1) (by omega)
  obtain ⟨o3, c3, e3, f3, s3, l3, u3, k3⟩ := spl (x3 + c2) (by omega)
  obtain ⟨o4, c4, e4, f4, s4, l4, u4, k4⟩ := spl (x4 + c3) (by omega)
  have j0 : c0 ≤ 1 := by omega
  have j1 : c1 ≤ 1 := by omega
  have j2 : c2 ≤ 1 := by omega
  have j3 : c3 ≤ 1 := by omega
  have hv : o0 + 2147483648 * o1 + 4611686018427387904 * o2 + 9903520314283042199192993792 * o3 + 21267647932558653966460912964485513216 * o4 = x0 + 2147483648 * x1 + 4611686018427387904 * x2 + 9903520314283042199192993792 * x3 + 21267647932558653966460912964485513216 * x4 + n := by
    clear e0 f0 e1 f1 e2 f2 e3 f3 e4 f4
    omega
  have HV := hide hv; clear hv
  clear Hb s0 s1 s2 s3 s4
  have A31 := and31
  have SD : ∀ (w : World) (n : Nat) (a : Addr) (v : Value), (w.drewN n).setCell a v = (w.setCell a v).drewN n := fun _ _ _ _ => rfl
  go_wp2_with fail
  refine wp_loop_rounds 6 ?_
  rw [rounds_succ]; go_wp2; go_quiet (fail); go_wp2
  rw [rounds_succ]; go_wp2; go_quiet (fail); go_wp2
  rw [rounds_succ]; go_wp2; go_quiet (fail); go_wp2
  rw [rounds_succ]; go_wp2; go_quiet (fail); go_wp2
  rw [rounds_succ]; go_wp2; go_quiet (fail); go_wp2
  rw [rounds_succ]; go_wp2
  go_returns
  refine ⟨o0, o1, o2, o3, o4, rfl, unhide HV, ⟨l0, u0⟩, ⟨l1, u1⟩, ⟨l2, u2⟩, ⟨l3, u3⟩, ⟨l4, u4⟩, bel_drewN ?_ _⟩
  go_grown
end Go.Proofs.YtogdekjklbbbiaaGreatDoor

namespace Go.Proofs.YtogdekjklbbbiaaGreatDoor
open Go.ChangeShapes Go.WideShapes Go.ChangeAt Go.RowKit
set_option maxHeartbeats 1000000 in
theorem below_any (x0 x1 x2 x3 x4 y0 y1 y2 y3 y4 : Int) (hx0 : 0 ≤ x0 ∧ x0 < 2147483648) (hx1 : 0 ≤ x1 ∧ x1 < 2147483648) (hx2 : 0 ≤ x2 ∧ x2 < 2147483648) (hx3 : 0 ≤ x3 ∧ x3 < 2147483648)
    (hy0 : 0 ≤ y0 ∧ y0 < 2147483648) (hy1 : 0 ≤ y1 ∧ y1 < 2147483648) (hy2 : 0 ≤ y2 ∧ y2 < 2147483648) (hy3 : 0 ≤ y3 ∧ y3 < 2147483648) (w : World) :
    Calls Tryz.prog 160 #[.agg #[.int .i64 x0, .int .i64 x1, .int .i64 x2, .int .i64 x3, .int .i64 x4], .agg #[.int .i64 y0, .int .i64 y1, .int .i64 y2, .int .i64 y3, .int .i64 y4]] w fun e w' =>
      ∃ b : Bool, e = .returned (.bool b) ∧ (b = true ↔ x0 + 2147483648 * x1 + 4611686018427387904 * x2 + 9903520314283042199192993792 * x3 + 21267647932558653966460912964485513216 * x4 < y0 + 2147483648 * y1 + 4611686018427387904 * y2 + 9903520314283042199192993792 * y3 + 21267647932558653966460912964485513216 * y4) ∧ Below w.heap.size w w' := by
  go_enter Tryz.func160, Tryz.ntmps160
  go_wp2_with fail
  refine wp_loop_rounds 6 ?_
  rw [rounds_succ]; go_wp2; go_quiet (fail); go_wp2
  · have H4 : Hid ((x4 != y4) = true) := ‹(x4 != y4) = true›
    go_quiet (fail)
    go_wp2
    go_ret
    have g4 : x4 ≠ y4 := by simpa using unhide H4
    refine ⟨decide (x4 < y4), rfl, ?_, ?_⟩
    · rw [decide_eq_true_iff]; omega
    · repeat (with_reducible refine bel_drewN ?_ _)
      go_grown
  have g4 : x4 = y4 := by simpa using ‹(x4 != y4) = false›
  have G4 := hide g4; clear g4
  rw [rounds_succ]; go_wp2; go_quiet (fail); go_wp2
  · have H3 : Hid ((x3 != y3) = true) := ‹(x3 != y3) = true›
    go_quiet (fail)
    go_wp2
    go_ret
    have g3 : x3 ≠ y3 := by simpa using unhide H3
    have := unhide G4
    refine ⟨decide (x3 < y3), rfl, ?_, ?_⟩
    · rw [decide_eq_true_iff]; omega
    · repeat (with_reducible refine bel_drewN ?_ _)
      go_grown
  have g3 : x3 = y3 := by simpa using ‹(x3 != y3) = false›
  have G3 := hide g3; clear g3
  rw [rounds_succ]; go_wp2; go_quiet (fail); go_wp2
  · have H2 : Hid ((x2 != y2) = true) := ‹(x2 != y2) = true›
    go_quiet (fail)
    go_wp2
    go_ret
    have g2 : x2 ≠ y2 := by simpa using unhide H2
    have := unhide G4; have := unhide G3
    refine ⟨decide (x2 < y2), rfl, ?_, ?_⟩
    · rw [decide_eq_true_iff]; omega
    · repeat (with_reducible refine bel_drewN ?_ _)
      go_grown
  have g2 : x2 = y2 := by simpa using ‹(x2 != y2) = false›
  have G2 := hide g2; clear g2
  rw [rounds_succ]; go_wp2; go_quiet (fail); go_wp2
  · have H1 : Hid ((x1 != y1) = true) := ‹(x1 != y1) = true›
    go_quiet (fail)
    go_wp2
    go_ret
    have g1 : x1 ≠ y1 := by simpa using unhide H1
    have := unhide G4; have := unhide G3; have := unhide G2
    refine ⟨decide (x1 < y1), rfl, ?_, ?_⟩
    · rw [decide_eq_true_iff]; omega
    · repeat (with_reducible refine bel_drewN ?_ _)
      go_grown
  have g1 : x1 = y1 := by simpa using ‹(x1 != y1) = false›
  have G1 := hide g1; clear g1
  rw [rounds_succ]; go_wp2; go_quiet (fail); go_wp2
  · have H0 : Hid ((x0 != y0) = true) := ‹(x0 != y0) = true›
    go_quiet (fail)
    go_wp2
    go_ret
    have g0 : x0 ≠ y0 := by simpa using unhide H0
    have := unhide G4; have := unhide G3; have := unhide G2; have := unhide G1
    refine ⟨decide (x0 < y0), rfl, ?_, ?_⟩
    · rw [decide_eq_true_iff]; omega
    · repeat (with_reducible refine bel_drewN ?_ _)
      go_grown
  have g0 : x0 = y0 := by simpa using ‹(x0 != y0) = false›
  have G0 := hide g0; clear g0
  rw [rounds_succ]; go_wp2
  go_ret
  refine ⟨false, rfl, ?_, ?_⟩
  · have := unhide G0; have := unhide G1; have := unhide G2; have := unhide G3; have := unhide G4
    simp only [Bool.false_eq_true, false_iff]; omega
  · repeat (with_reducible refine bel_drewN ?_ _)
    go_grown
end Go.Proofs.YtogdekjklbbbiaaGreatDoor

namespace Go.Proofs.YtogdekjklbbbiaaGreatDoor
open Go.ChangeShapes Go.WideShapes Go.ChangeAt Go.RowKit

theorem len_fin (x y : Int) (k : Nat) (hk : k ≤ 56) (hy : y = x / 2 ^ k) (h0 : 0 ≤ x) (hy1 : 0 < y) (hy2 : y < 256) : wrap64 ((k : Int) + wrap64 (bitLen y.toNat : Int)) = (bitLen x.toNat : Int) := by
  obtain ⟨n, rfl⟩ := Int.eq_ofNat_of_zero_le h0
  have e : y = ((n / 2 ^ k : Nat) : Int) := by rw [hy]; simp
  subst e
  rw [Int.toNat_natCast, Int.toNat_natCast]
  rw [bitLen_shift n k (by omega)]
  have := bitLen_le8 (n / 2 ^ k) (by omega)
  generalize bitLen (n / 2 ^ k) = b at *
  unfold wrap64
  omega
theorem len_fin0 (x : Int) (h0 : 0 ≤ x) (hy2 : x < 256) : wrap64 (wrap64 (bitLen x.toNat : Int)) = (bitLen x.toNat : Int) := by
  have := bitLen_le8 x.toNat (by omega)
  generalize bitLen x.toNat = b at *
  unfold wrap64
  omega

set_option maxHeartbeats 1000000 in
set_option maxRecDepth 100000 in
theorem len64_any (x : Int) (h0 : 0 < x) (h1 : x < 18446744073709551616) (w : World) :
    Calls Tryz.prog 157 #[.int .u64 x] w fun e w' => e = .returned (.int .i64 (bitLen x.toNat : Int)) ∧ w' = w := by
  by_cases h2 : 4294967296 ≤ x
  · by_cases h3 : 65536 ≤ x / 4294967296
    · by_cases h4 : 256 ≤ x / 4294967296 / 65536
      · have hf := hide (len_fin x (x / 4294967296 / 65536 / 256) 56 (by omega) (by omega) (by omega) (by omega) (by omega))
        go_enter Tryz.func157, Tryz.ntmps157
        go_wp2
        simp only [len8tab_get]
        go_ret
        exact ⟨congrArg Ending.returned (congrArg (Value.int IntKind.i64) (unhide hf)), rfl⟩
      · have hf := hide (len_fin x (x / 4294967296 / 65536) 48 (by omega) (by omega) (by omega) (by omega) (by omega))
        go_enter Tryz.func157, Tryz.ntmps157
        go_wp2
        simp only [len8tab_get]
        go_ret
        exact ⟨congrArg Ending.returned (congrArg (Value.int IntKind.i64) (unhide hf)), rfl⟩
    · by_cases h4 : 256 ≤ x / 4294967296
      · have hf := hide (len_fin x (x / 4294967296 / 256) 40 (by omega) (by omega) (by omega) (by omega) (by omega))
        go_enter Tryz.func157, Tryz.ntmps157
        go_wp2
        simp only [len8tab_get]
        go_ret
        exact ⟨congrArg Ending.returned (congrArg (Value.int IntKind.i64) (unhide hf)), rfl⟩
      · have hf := hide (len_fin x (x / 4294967296) 32 (by omega) (by omega) (by omega) (by omega) (by omega))
        go_enter Tryz.func157, Tryz.ntmps157
        go_wp2
        simp only [len8tab_get]
        go_ret
        exact ⟨congrArg Ending.returned (congrArg (Value.int IntKind.i64) (unhide hf)), rfl⟩
  · by_cases h3 : 65536 ≤ x
    · by_cases h4 : 256 ≤ x / 65536
      · have hf := hide (len_fin x (x / 65536 / 256) 24 (by omega) (by omega) (by omega) (by omega) (by omega))
        go_enter Tryz.func157, Tryz.ntmps157
        go_wp2
        simp only [len8tab_get]
        go_ret
        exact ⟨congrArg Ending.returned (congrArg (Value.int IntKind.i64) (unhide hf)), rfl⟩
      · have hf := hide (len_fin x (x / 65536) 16 (by omega) (by omega) (by omega) (by omega) (by omega))
        go_enter Tryz.func157, Tryz.ntmps157
        go_wp2
        simp only [len8tab_get]
        go_ret
        exact ⟨congrArg Ending.returned (congrArg (Value.int IntKind.i64) (unhide hf)), rfl⟩
    · by_cases h4 : 256 ≤ x
      · have hf := hide (len_fin x (x / 256) 8 (by omega) (by omega) (by omega) (by omega) (by omega))
        go_enter Tryz.func157, Tryz.ntmps157
        go_wp2
        simp only [len8tab_get]
        go_ret
        exact ⟨congrArg Ending.returned (congrArg (Value.int IntKind.i64) (unhide hf)), rfl⟩
      · have hf := hide (len_fin0 x (by omega) (by omega))
        go_enter Tryz.func157, Tryz.ntmps157
        go_wp2
        simp only [len8tab_get]
        go_ret
        exact ⟨congrArg Ending.returned (congrArg (Value.int IntKind.i64) (unhide hf)), rfl⟩
end Go.Proofs.YtogdekjklbbbiaaGreatDoor

namespace Go.Proofs.YtogdekjklbbbiaaGreatDoor
open Go.ChangeShapes Go.WideShapes Go.ChangeAt Go.RowKit
set_option linter.unusedSimpArgs false
set_option linter.unusedVariables false

theorem wraps_i63 : ∀ n : Int, 0 ≤ n → n < 2 ^ 63 → IntKind.i64.wrap n = n := by
  intro n h0 h1
  rw [IntKind.wrap_i64]
  have : (2 : Int) ^ 63 = 9223372036854775808 := by decide
  omega
theorem pow63 : (2 : Int) ^ 63 = 9223372036854775808 := by decide

/-- The level on which at stands while the wheel is at now; a slot's place there; where a slot starts. -/
def lv (now t : Nat) : Nat := (bitLen (t ^^^ now) - 1) / 6
def sl (t l : Nat) : Nat := t / 2 ^ (6 * l) % 64
def st (now l s : Nat) : Nat := (now / 2 ^ (6 * l + 6) * 64 + s) * 2 ^ (6 * l)

theorem xor_i64 (a b : Nat) (ha : a < 9223372036854775808) (hb : b < 9223372036854775808) : bits .xor .i64 (a : Int) (b : Int) = ((a ^^^ b : Nat) : Int) := by
  have hx : a ^^^ b < 2 ^ 63 := Nat.xor_lt_two_pow (by simpa using ha) (by simpa using hb)
  show IntKind.i64.wrap (((BitVec.ofInt 64 a) ^^^ (BitVec.ofInt 64 b)).toNat : Nat) = _
  have e1 : (BitVec.ofInt 64 (a : Int)).toNat = a := by rw [BitVec.toNat_ofInt]; omega
  have e2 : (BitVec.ofInt 64 (b : Int)).toNat = b := by rw [BitVec.toNat_ofInt]; omega
  rw [BitVec.toNat_xor, e1, e2, IntKind.wrap_i64]
  have : (2 : Nat) ^ 63 = 9223372036854775808 := by decide
  omega

theorem xor0 {a b : Nat} (h : a ^^^ b = 0) : a = b := by
  apply Nat.eq_of_testBit_eq
  intro i
  have := congrArg (fun n => n.testBit i) h
  simpa [Nat.testBit_xor] using this
theorem ret_int {k : IntKind} {a b : Int} (h : a = b) : Ending.returned (.int k a) = .returned (.int k b) := by rw [h]

theorem bitLen_pos {n : Nat} (h : n ≠ 0) : 1 ≤ bitLen n := by unfold bitLen; rw [if_neg h]; omega
theorem bitLen_le {n k : Nat} (h : n < 2 ^ k) : bitLen n ≤ k := by
  by_cases h0 : n = 0
  · subst h0; simp [bitLen]
  · have h2 := (bitLen_spec n).2 h0
    by_cases hh : bitLen n ≤ k
    · exact hh
    · exfalso
      have : 2 ^ k ≤ 2 ^ (bitLen n - 1) := Nat.pow_le_pow_right (by decide) (by omega)
      omega

theorem lv_le {now t : Nat} (h1 : now < 9223372036854775808) (h2 : t < 9223372036854775808) : lv now t ≤ 10 := by
  have hx : t ^^^ now < 2 ^ 63 := Nat.xor_lt_two_pow (by simpa using h2) (by simpa using h1)
  have := bitLen_le hx
  unfold lv
  omega

set_option maxHeartbeats 1000000 in
theorem slotOf_any (b now t : Nat) (w : World) (hn : w.cell? ⟨b, 0, none⟩ = some (.int .i64 now)) (h1 : now < t) (h2 : t < 9223372036854775808) :
    Calls Tryz.prog 143 #[.pointer (some ⟨b, 0, none⟩), .int .i64 t] w fun e w' => e = .returned (.tuple #[.int .i64 (lv now t : Int), .int .i64 (sl t (lv now t) : Int)]) ∧ Ch w w' (fun _ _ => False) := by
  have hx := xor_i64 t now h2 (by omega)
  have p63 : (2 : Nat) ^ 63 = 9223372036854775808 := by decide
  have hxlt : t ^^^ now < 2 ^ 63 := Nat.xor_lt_two_pow (by omega) (by omega)
  have hx0 : t ^^^ now ≠ 0 := by
    intro e
    have := xor0 e
    omega
  have hbl := bitLen_le hxlt
  have hb1 := bitLen_pos hx0
  obtain ⟨X, hX⟩ : ∃ X, t ^^^ now = X := ⟨_, rfl⟩
  rw [hX] at hx hxlt hx0 hbl hb1
  have hX63 : X < 9223372036854775808 := by simpa using hxlt
  have hlv : lv now t = (bitLen X - 1) / 6 := by unfold lv; rw [hX]
  have hc := hide (len64_any (X : Int) (by omega) (by omega))
  rw [show ((X : Nat) : Int).toNat = X from rfl] at hc
  obtain ⟨B, hB⟩ : ∃ B, bitLen X = B := ⟨_, rfl⟩
  rw [hB] at hbl hb1 hlv hc
  obtain ⟨l, hl⟩ : ∃ l, lv now t = l := ⟨_, rfl⟩
  rw [hl] at hlv
  rw [hl]
  have e1 : ((B : Int) - 1) / 6 = (l : Int) := by omega
  have e2 : (l : Int) * 6 = ((6 * l : Nat) : Int) := by omega
  obtain ⟨k, hk⟩ : ∃ k, 6 * l = k := ⟨_, rfl⟩
  rw [hk] at e2
  have hk60 : k ≤ 60 := by omega
  have e3 : sl t l = t / 2 ^ k % 64 := by unfold sl; rw [hk]
  have hq : ((t : Int) / 2 ^ k) = ((t / 2 ^ k : Nat) : Int) := by simp
  obtain ⟨q, hq'⟩ : ∃ q, t / 2 ^ k = q := ⟨_, rfl⟩
  rw [hq'] at hq e3
  rw [e3]
  have hqs : q ≤ t := by rw [← hq']; exact Nat.div_le_self _ _
  have E3 := hide e3; have HLV := hide hlv
  clear e3 hl hlv hX hB hk hq' hxlt hx0
  go_enter Tryz.func143, Tryz.ntmps143
  go_wp2_with fail
  refine (unhide hc _).mono ?_
  rintro e w' ⟨rfl, rfl⟩
  go_wp2
  go_quiet (fail)
  go_wp2
  go_ret2
  exact ⟨ret2_int e1 (by omega), Ch.drewN (Ch.refl _ _) _⟩

set_option maxHeartbeats 1000000 in
theorem startOf_any (b now l s : Nat) (w : World) (hn : w.cell? ⟨b, 0, none⟩ = some (.int .i64 now)) (h1 : now < 9223372036854775808) (h2 : l ≤ 10) (h3 : s < 64) (h4 : st now l s < 9223372036854775808) :
    Calls Tryz.prog 113 #[.pointer (some ⟨b, 0, none⟩), .int .i64 l, .int .i64 s] w fun e w' => e = .returned (.int .i64 (st now l s : Int)) ∧ w' = w := by
  obtain ⟨k, hk⟩ : ∃ k, 6 * l = k := ⟨_, rfl⟩
  have e1 : (l : Int) * 6 = (k : Int) := by omega
  have hk60 : k ≤ 60 := by omega
  obtain ⟨A, hA⟩ : ∃ A, now / 2 ^ (k + 6) = A := ⟨_, rfl⟩
  have hA64 : A * 64 ≤ now := by
    have : A * 2 ^ (k + 6) ≤ now := by rw [← hA]; exact Nat.div_mul_le_self _ _
    have h64 : 64 ≤ 2 ^ (k + 6) := by
      rw [Nat.pow_add]
      have := Nat.one_le_two_pow (n := k)
      omega
    exact Nat.le_trans (Nat.mul_le_mul_left A h64) this
  have hst : st now l s = (A * 64 + s) * 2 ^ k := by unfold st; rw [hk, hA]
  rw [hst] at h4 ⊢
  have hp := Nat.one_le_two_pow (n := k)
  have hB : A * 64 + s < 9223372036854775808 := Nat.lt_of_le_of_lt (Nat.le_mul_of_pos_right _ hp) h4
  have esh : ∀ w, (Op.shift .shr .i64 (now : Int) .i64 ((k : Int) + 6)).run Tryz.prog w = .ok (.int .i64 (A : Int)) w := by
    intro w
    rw [shift_shr_any _ _ _ _ (by omega)]
    have e2 : min ((k : Int) + 6).toNat IntKind.i64.bits = min (k + 6) 64 := by
      have : ((k : Int) + 6).toNat = k + 6 := by omega
      rw [this]; rfl
    rw [e2]
    have e3 : ((now : Int) / 2 ^ min (k + 6) 64) = (A : Int) := by
      have e4 : now / 2 ^ min (k + 6) 64 = A := by
        by_cases hh : k + 6 ≤ 64
        · rw [Nat.min_eq_left hh]; exact hA
        · rw [Nat.min_eq_right (by omega), Nat.div_eq_of_lt (Nat.lt_of_lt_of_le h1 (by decide))]
          rw [← hA, Nat.div_eq_of_lt]
          exact Nat.lt_of_lt_of_le h1 (Nat.le_trans (show 9223372036854775808 ≤ 2 ^ 64 by decide) (Nat.pow_le_pow_right (by decide) (by omega)))
      rw [← e4]; simp
    rw [e3]
    rfl
  have eor : bits .or .i64 ((A : Int) * 64) (s : Int) = (A : Int) * 64 + (s : Int) :=
    bits_join .i64 63 (by decide) wraps_i63 6 _ _ (by omega) (by rw [show (2 : Int) ^ 6 = 64 by decide]; omega) (by rw [pow63]; omega) (by omega) (by rw [show (2 : Int) ^ 6 = 64 by decide]; omega) (by rw [pow63]; omega)
  have efin : wrap64 (((A : Int) * 64 + (s : Int)) * 2 ^ k) = (((A * 64 + s) * 2 ^ k : Nat) : Int) := by
    have e5 : ((A : Int) * 64 + (s : Int)) * 2 ^ k = (((A * 64 + s) * 2 ^ k : Nat) : Int) := by simp
    rw [e5]
    unfold wrap64
    generalize (A * 64 + s) * 2 ^ k = z at *
    omega
  have EF := hide efin
  have HB' : (A : Int) * 64 + (s : Int) < 9223372036854775808 := by omega
  clear hA hst hk efin h4
  go_enter Tryz.func113, Tryz.ntmps113
  go_wp2
  go_ret
  exact ⟨ret_int (unhide EF), rfl⟩
end Go.Proofs.YtogdekjklbbbiaaGreatDoor

namespace Go.Proofs.YtogdekjklbbbiaaGreatDoor
open Go.ChangeShapes Go.WideShapes Go.ChangeAt Go.RowKit
set_option linter.unusedSimpArgs false
set_option linter.unusedVariables false

theorem low_bit : ∀ (n x : Nat), x ≤ n → 0 < x → ∃ k m, x = 2 ^ (k + 1) * m + 2 ^ k
  | 0, x, h, h0 => by omega
  | n + 1, x, h, h0 => by
    by_cases ho : x % 2 = 1
    · exact ⟨0, x / 2, by simp; omega⟩
    · obtain ⟨k, m, e⟩ := low_bit n (x / 2) (by omega) (by omega)
      refine ⟨k + 1, m, ?_⟩
      have e2 : x = 2 * (x / 2) := by omega
      rw [e2, e, Nat.mul_add, ← Nat.mul_assoc, Nat.pow_succ 2 (k + 1), Nat.pow_succ 2 k]
      rw [Nat.mul_comm 2 (2 ^ k * 2), Nat.mul_comm 2 (2 ^ k)]

theorem bit_lo (k m i : Nat) : (2 ^ (k + 1) * m + 2 ^ k).testBit i = if i ≤ k then decide (i = k) else m.testBit (i - (k + 1)) := by
  rw [Nat.testBit_two_pow_mul_add m (Nat.pow_lt_pow_right (by decide) (by omega)) i]
  by_cases h : i < k + 1
  · rw [if_pos h, if_pos (by omega), Nat.testBit_two_pow]
    simp only [decide_eq_decide]
    omega
  · rw [if_neg h, if_neg (by omega)]
theorem bit_lo1 (k m i : Nat) : (2 ^ (k + 1) * m + (2 ^ k - 1)).testBit i = if i ≤ k then decide (i < k) else m.testBit (i - (k + 1)) := by
  have h2 : 2 ^ k - 1 < 2 ^ (k + 1) := by have := Nat.pow_lt_pow_right (a := 2) (by decide) (show k < k + 1 by omega); omega
  rw [Nat.testBit_two_pow_mul_add m h2 i]
  by_cases h : i < k + 1
  · rw [if_pos h, if_pos (by omega), Nat.testBit_two_pow_sub_one]
  · rw [if_neg h, if_neg (by omega)]

theorem low_and (x k m : Nat) (hx : x < 2 ^ 64) (e : x = 2 ^ (k + 1) * m + 2 ^ k) : x &&& (2 ^ 64 - x) = 2 ^ k := by
  have hp := Nat.one_le_two_pow (n := k)
  have hk : k < 64 := by
    by_cases hh : k < 64
    · exact hh
    · exfalso
      have : 2 ^ 64 ≤ 2 ^ k := Nat.pow_le_pow_right (by decide) (by omega)
      omega
  have e1 : x - 1 = 2 ^ (k + 1) * m + (2 ^ k - 1) := by omega
  have e2 : 2 ^ 64 - x = 2 ^ 64 - ((x - 1) + 1) := by omega
  apply Nat.eq_of_testBit_eq
  intro i
  rw [Nat.testBit_and, e2, Nat.testBit_two_pow_sub_succ (by omega), e1, bit_lo1, e, bit_lo, Nat.testBit_two_pow]
  by_cases h : i ≤ k
  · rw [if_pos h, if_pos h]
    by_cases h' : i = k
    · subst h'; simp [hk]
    · have h'' : ¬ k = i := fun e => h' e.symm
      simp [h', h'', show i < k by omega]
  · rw [if_neg h, if_neg h]
    have : ¬ k = i := by omega
    cases m.testBit (i - (k + 1)) <;> simp [this]

def tab : List Nat := [0, 1, 56, 2, 57, 49, 28, 3, 61, 58, 42, 50, 38, 29, 17, 4, 62, 47, 59, 36, 45, 43, 51, 22, 53, 39, 33, 30, 24, 18, 12, 5, 63, 55, 48, 27, 60, 41, 37, 16, 46, 35, 44, 21, 52, 32, 23, 11, 54, 26, 40, 15, 34, 20, 31, 10, 25, 14, 19, 9, 13, 8, 7, 6]
theorem tab_at : ∀ k : Fin 64, tab[(2 ^ k.val * 285870213051353865 % 18446744073709551616) / 288230376151711744]? = some k.val := by decide +kernel

/-- The table of math/bits lies as it is laid. -/
def TabW (w : World) : Prop := ∀ (i v : Nat), tab[i]? = some v → w.cell? ⟨0, i, none⟩ = some (.int .u8 (v : Int))

set_option maxHeartbeats 1000000 in
theorem tz_at (x : Int) (h0 : 0 < x) (h1 : x < 18446744073709551616) (w : World) (I : Nat) (hI : I < 64) (r : Int) (hr0 : 0 ≤ r) (hr1 : r < 64)
    (h2 : IntKind.u64.wrap (bits BinOp.and IntKind.u64 x (IntKind.u64.wrap (-x)) * 285870213051353865) / 288230376151711744 = (I : Int)) (h3 : w.cell? ⟨0, I, none⟩ = some (.int .u8 r)) :
    Calls Tryz.prog 119 #[.int .u64 x] w fun e w' => e = .returned (.int .i64 r) ∧ w' = w := by
  have e0 : (x == 0) = false := by rw [beq_eq_false_iff_ne]; omega
  go_enter Tryz.func119, Tryz.ntmps119
  go_wp2
  go_ret
  exact ⟨rfl, rfl⟩

theorem cst (z : Nat) : ((z : Int) * 285870213051353865 % 18446744073709551616 / 288230376151711744) = ((z * 285870213051353865 % 18446744073709551616 / 288230376151711744 : Nat) : Int) := by omega

theorem tz_any (x : Nat) (h0 : 0 < x) (h1 : x < 18446744073709551616) (w : World) (hT : TabW w) (k m : Nat) (e : x = 2 ^ (k + 1) * m + 2 ^ k) :
    Calls Tryz.prog 119 #[.int .u64 (x : Int)] w fun e w' => e = .returned (.int .i64 (k : Int)) ∧ w' = w := by
  have h64 : (2 : Nat) ^ 64 = 18446744073709551616 := by decide
  have hand := low_and x k m (by omega) e
  have hp := Nat.one_le_two_pow (n := k)
  have hk : k < 64 := by
    by_cases hh : k < 64
    · exact hh
    · exfalso
      have : 2 ^ 64 ≤ 2 ^ k := Nat.pow_le_pow_right (by decide) (by omega)
      omega
  have ht := tab_at ⟨k, hk⟩
  have e1 : IntKind.u64.wrap (-(x : Int)) = ((2 ^ 64 - x : Nat) : Int) := by rw [IntKind.wrap_u64]; omega
  have e2 : bits .and .u64 (x : Int) (IntKind.u64.wrap (-(x : Int))) = ((2 ^ k : Nat) : Int) := by
    rw [e1, u64_and_nat x _ (by omega) (by omega), hand]
  have hI : (2 ^ k * 285870213051353865 % 18446744073709551616) / 288230376151711744 < 64 := by
    have := Nat.mod_lt (2 ^ k * 285870213051353865) (show 0 < 18446744073709551616 by decide)
    omega
  refine tz_at (x : Int) (by omega) (by omega) w _ hI (k : Int) (by omega) (by omega) ?_ (hT _ _ ht)
  rw [e2, IntKind.wrap_u64]
  exact cst _
end Go.Proofs.YtogdekjklbbbiaaGreatDoor
