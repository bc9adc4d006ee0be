import Derived.Test.YtogdekjklbbbiaaDoorLen
import Derived.Laws.BitsLemmas
import Derived.Laws.Shifts
namespace Go.Proofs.YtogdekjklbbbiaaDoor
open Go.ChangeShapes Go.WideShapes Go.ChangeAt Go.RowKit
set_option linter.unusedSimpArgs false
set_option linter.unusedVariables false

theorem wraps_i63 : ∀ n : Int, 0 ≤ n → n < 2 ^ 63 → IntKind.i64.wrap n = n := by
  intro n h0 h1
  rw [IntKind.wrap_i64]
  have : (2 : Int) ^ 63 = 9223372036854775808 := by decide
  omega
theorem pow63 : (2 : Int) ^ 63 = 9223372036854775808 := by decide

/-- The level on which at stands while the wheel is at now; a slot's place there; where a slot starts. -/
def lv (now t : Nat) : Nat := (bitLen (t ^^^ now) - 1) / 6
def sl (t l : Nat) : Nat := t / 2 ^ (6 * l) % 64
def st (now l s : Nat) : Nat := (now / 2 ^ (6 * l + 6) * 64 + s) * 2 ^ (6 * l)

theorem xor_i64 (a b : Nat) (ha : a < 9223372036854775808) (hb : b < 9223372036854775808) : bits .xor .i64 (a : Int) (b : Int) = ((a ^^^ b : Nat) : Int) := by
  have hx : a ^^^ b < 2 ^ 63 := Nat.xor_lt_two_pow (by simpa using ha) (by simpa using hb)
  show IntKind.i64.wrap (((BitVec.ofInt 64 a) ^^^ (BitVec.ofInt 64 b)).toNat : Nat) = _
  have e1 : (BitVec.ofInt 64 (a : Int)).toNat = a := by rw [BitVec.toNat_ofInt]; omega
  have e2 : (BitVec.ofInt 64 (b : Int)).toNat = b := by rw [BitVec.toNat_ofInt]; omega
  rw [BitVec.toNat_xor, e1, e2, IntKind.wrap_i64]
  have : (2 : Nat) ^ 63 = 9223372036854775808 := by decide
  omega

theorem xor0 {a b : Nat} (h : a ^^^ b = 0) : a = b := by
  apply Nat.eq_of_testBit_eq
  intro i
  have := congrArg (fun n => n.testBit i) h
  simpa [Nat.testBit_xor] using this
theorem ret2_int {a b c d : Int} {k l : IntKind} (h : a = c) (h' : b = d) : Ending.returned (.tuple #[.int k a, .int l b]) = .returned (.tuple #[.int k c, .int l d]) := by rw [h, h']
theorem ret_int {k : IntKind} {a b : Int} (h : a = b) : Ending.returned (.int k a) = .returned (.int k b) := by rw [h]

theorem bitLen_pos {n : Nat} (h : n ≠ 0) : 1 ≤ bitLen n := by unfold bitLen; rw [if_neg h]; omega
theorem bitLen_le {n k : Nat} (h : n < 2 ^ k) : bitLen n ≤ k := by
  by_cases h0 : n = 0
  · subst h0; simp [bitLen]
  · have h2 := (bitLen_spec n).2 h0
    by_cases hh : bitLen n ≤ k
    · exact hh
    · exfalso
      have : 2 ^ k ≤ 2 ^ (bitLen n - 1) := Nat.pow_le_pow_right (by decide) (by omega)
      omega

theorem lv_le {now t : Nat} (h1 : now < 9223372036854775808) (h2 : t < 9223372036854775808) : lv now t ≤ 10 := by
  have hx : t ^^^ now < 2 ^ 63 := Nat.xor_lt_two_pow (by simpa using h2) (by simpa using h1)
  have := bitLen_le hx
  unfold lv
  omega

set_option maxHeartbeats 1000000 in
theorem slotOf_any (b now t : Nat) (w : World) (hn : w.cell? ⟨b, 0, none⟩ = some (.int .i64 now)) (h1 : now < t) (h2 : t < 9223372036854775808) :
    Calls Tryd.prog 69 #[.pointer (some ⟨b, 0, none⟩), .int .i64 t] w fun e w' => e = .returned (.tuple #[.int .i64 (lv now t : Int), .int .i64 (sl t (lv now t) : Int)]) ∧ Ch w w' (fun _ _ => False) := by
  have hx := xor_i64 t now h2 (by omega)
  have p63 : (2 : Nat) ^ 63 = 9223372036854775808 := by decide
  have hxlt : t ^^^ now < 2 ^ 63 := Nat.xor_lt_two_pow (by omega) (by omega)
  have hx0 : t ^^^ now ≠ 0 := by
    intro e
    have := xor0 e
    omega
  have hbl := bitLen_le hxlt
  have hb1 := bitLen_pos hx0
  obtain ⟨X, hX⟩ : ∃ X, t ^^^ now = X := ⟨_, rfl⟩
  rw [hX] at hx hxlt hx0 hbl hb1
  have hX63 : X < 9223372036854775808 := by simpa using hxlt
  have hlv : lv now t = (bitLen X - 1) / 6 := by unfold lv; rw [hX]
  have hc := hide (len64_any (X : Int) (by omega) (by omega))
  rw [show ((X : Nat) : Int).toNat = X from rfl] at hc
  obtain ⟨B, hB⟩ : ∃ B, bitLen X = B := ⟨_, rfl⟩
  rw [hB] at hbl hb1 hlv hc
  obtain ⟨l, hl⟩ : ∃ l, lv now t = l := ⟨_, rfl⟩
  rw [hl] at hlv
  rw [hl]
  have e1 : ((B : Int) - 1) / 6 = (l : Int) := by omega
  have e2 : (l : Int) * 6 = ((6 * l : Nat) : Int) := by omega
  obtain ⟨k, hk⟩ : ∃ k, 6 * l = k := ⟨_, rfl⟩
  rw [hk] at e2
  have hk60 : k ≤ 60 := by omega
  have e3 : sl t l = t / 2 ^ k % 64 := by unfold sl; rw [hk]
  have hq : ((t : Int) / 2 ^ k) = ((t / 2 ^ k : Nat) : Int) := by simp
  obtain ⟨q, hq'⟩ : ∃ q, t / 2 ^ k = q := ⟨_, rfl⟩
  rw [hq'] at hq e3
  rw [e3]
  have hqs : q ≤ t := by rw [← hq']; exact Nat.div_le_self _ _
  have E3 := hide e3; have HLV := hide hlv
  clear e3 hl hlv hX hB hk hq' hxlt hx0
  go_enter Tryd.func69, Tryd.ntmps69
  go_wp2_with fail
  refine (unhide hc _).mono ?_
  rintro e w' ⟨rfl, rfl⟩
  go_wp2
  go_quiet (fail)
  go_wp2
  go_ret2
  exact ⟨ret2_int e1 (by omega), Ch.drewN (Ch.refl _ _) _⟩

set_option maxHeartbeats 1000000 in
theorem startOf_any (b now l s : Nat) (w : World) (hn : w.cell? ⟨b, 0, none⟩ = some (.int .i64 now)) (h1 : now < 9223372036854775808) (h2 : l ≤ 10) (h3 : s < 64) (h4 : st now l s < 9223372036854775808) :
    Calls Tryd.prog 70 #[.pointer (some ⟨b, 0, none⟩), .int .i64 l, .int .i64 s] w fun e w' => e = .returned (.int .i64 (st now l s : Int)) ∧ w' = w := by
  obtain ⟨k, hk⟩ : ∃ k, 6 * l = k := ⟨_, rfl⟩
  have e1 : (l : Int) * 6 = (k : Int) := by omega
  have hk60 : k ≤ 60 := by omega
  obtain ⟨A, hA⟩ : ∃ A, now / 2 ^ (k + 6) = A := ⟨_, rfl⟩
  have hA64 : A * 64 ≤ now := by
    have : A * 2 ^ (k + 6) ≤ now := by rw [← hA]; exact Nat.div_mul_le_self _ _
    have h64 : 64 ≤ 2 ^ (k + 6) := by
      rw [Nat.pow_add]
      have := Nat.one_le_two_pow (n := k)
      omega
    exact Nat.le_trans (Nat.mul_le_mul_left A h64) this
  have hst : st now l s = (A * 64 + s) * 2 ^ k := by unfold st; rw [hk, hA]
  rw [hst] at h4 ⊢
  have hp := Nat.one_le_two_pow (n := k)
  have hB : A * 64 + s < 9223372036854775808 := Nat.lt_of_le_of_lt (Nat.le_mul_of_pos_right _ hp) h4
  have esh : ∀ w, (Op.shift .shr .i64 (now : Int) .i64 ((k : Int) + 6)).run Tryd.prog w = .ok (.int .i64 (A : Int)) w := by
    intro w
    rw [shift_shr_any _ _ _ _ (by omega)]
    have e2 : min ((k : Int) + 6).toNat IntKind.i64.bits = min (k + 6) 64 := by
      have : ((k : Int) + 6).toNat = k + 6 := by omega
      rw [this]; rfl
    rw [e2]
    have e3 : ((now : Int) / 2 ^ min (k + 6) 64) = (A : Int) := by
      have e4 : now / 2 ^ min (k + 6) 64 = A := by
        by_cases hh : k + 6 ≤ 64
        · rw [Nat.min_eq_left hh]; exact hA
        · rw [Nat.min_eq_right (by omega), Nat.div_eq_of_lt (Nat.lt_of_lt_of_le h1 (by decide))]
          rw [← hA, Nat.div_eq_of_lt]
          exact Nat.lt_of_lt_of_le h1 (Nat.le_trans (show 9223372036854775808 ≤ 2 ^ 64 by decide) (Nat.pow_le_pow_right (by decide) (by omega)))
      rw [← e4]; simp
    rw [e3]
    rfl
  have eor : bits .or .i64 ((A : Int) * 64) (s : Int) = (A : Int) * 64 + (s : Int) :=
    bits_join .i64 63 (by decide) wraps_i63 6 _ _ (by omega) (by rw [show (2 : Int) ^ 6 = 64 by decide]; omega) (by rw [pow63]; omega) (by omega) (by rw [show (2 : Int) ^ 6 = 64 by decide]; omega) (by rw [pow63]; omega)
  have efin : wrap64 (((A : Int) * 64 + (s : Int)) * 2 ^ k) = (((A * 64 + s) * 2 ^ k : Nat) : Int) := by
    have e5 : ((A : Int) * 64 + (s : Int)) * 2 ^ k = (((A * 64 + s) * 2 ^ k : Nat) : Int) := by simp
    rw [e5]
    unfold wrap64
    generalize (A * 64 + s) * 2 ^ k = z at *
    omega
  have EF := hide efin
  have HB' : (A : Int) * 64 + (s : Int) < 9223372036854775808 := by omega
  clear hA hst hk efin h4
  go_enter Tryd.func70, Tryd.ntmps70
  go_wp2
  go_ret
  exact ⟨ret_int (unhide EF), rfl⟩
end Go.Proofs.YtogdekjklbbbiaaDoor
