import Derived.Test.YtogdekjklbbbiaaDoorPlace
namespace Go.Proofs.YtogdekjklbbbiaaDoor
set_option linter.unusedSimpArgs false
set_option linter.unusedVariables false

theorem xor_div (a b k : Nat) : (a ^^^ b) / 2 ^ k = (a / 2 ^ k) ^^^ (b / 2 ^ k) := by
  apply Nat.eq_of_testBit_eq
  intro i
  simp [Nat.testBit_div_two_pow, Nat.testBit_xor]

/-- Which level a time stands on. -/
theorem lv_spec {now t : Nat} (h : now < t) : t / 2 ^ (6 * lv now t + 6) = now / 2 ^ (6 * lv now t + 6) ∧ now / 2 ^ (6 * lv now t) < t / 2 ^ (6 * lv now t) := by
  have hx0 : t ^^^ now ≠ 0 := fun e => by have := xor0 e; omega
  have hb := bitLen_pos hx0
  obtain ⟨s1, s2⟩ := bitLen_spec (t ^^^ now)
  have s3 := s2 hx0
  have hl1 : 6 * lv now t ≤ bitLen (t ^^^ now) - 1 := by unfold lv; omega
  have hl2 : bitLen (t ^^^ now) ≤ 6 * lv now t + 6 := by unfold lv; omega
  generalize lv now t = l at *
  constructor
  · apply xor0
    rw [← xor_div]
    exact Nat.div_eq_of_lt (Nat.lt_of_lt_of_le s1 (Nat.pow_le_pow_right (by decide) hl2))
  · have h1 : now / 2 ^ (6 * l) ≤ t / 2 ^ (6 * l) := Nat.div_le_div_right (by omega)
    have h2 : t / 2 ^ (6 * l) ≠ now / 2 ^ (6 * l) := by
      intro e
      have h3 : (t ^^^ now) / 2 ^ (6 * l) = 0 := by rw [xor_div, e, Nat.xor_self]
      have h4 : 2 ^ (6 * l) ≤ t ^^^ now := Nat.le_trans (Nat.pow_le_pow_right (by decide) hl1) s3
      have h5 : 0 < (t ^^^ now) / 2 ^ (6 * l) := Nat.div_pos h4 (Nat.two_pow_pos _)
      omega
    omega
theorem div_more {a b j k : Nat} (h : a / 2 ^ j = b / 2 ^ j) (hjk : j ≤ k) : a / 2 ^ k = b / 2 ^ k := by
  have e : 2 ^ k = 2 ^ j * 2 ^ (k - j) := by rw [← Nat.pow_add]; congr 1; omega
  rw [e, ← Nat.div_div_eq_div_mul, ← Nat.div_div_eq_div_mul, h]
theorem lv_unique {now t l : Nat} (h : now < t) (h1 : t / 2 ^ (6 * l + 6) = now / 2 ^ (6 * l + 6)) (h2 : now / 2 ^ (6 * l) < t / 2 ^ (6 * l)) : lv now t = l := by
  obtain ⟨s1, s2⟩ := lv_spec h
  rcases Nat.lt_trichotomy (lv now t) l with hl | hl | hl
  · have := div_more s1 (show 6 * lv now t + 6 ≤ 6 * l by omega)
    omega
  · exact hl
  · have := div_more h1 (show 6 * l + 6 ≤ 6 * lv now t by omega)
    omega
theorem split64 (t l : Nat) : t / 2 ^ (6 * l) = t / 2 ^ (6 * l + 6) * 64 + sl t l := by
  unfold sl
  rw [Nat.pow_add, ← Nat.div_div_eq_div_mul]
  omega
/-- A slot that something stands in starts behind the wheel's time, and not behind what stands there. -/
theorem st_eq {now t : Nat} (h : now < t) : st now (lv now t) (sl t (lv now t)) = t / 2 ^ (6 * lv now t) * 2 ^ (6 * lv now t) := by
  unfold st
  rw [← (lv_spec h).1, ← split64]
theorem st_le {now t : Nat} (h : now < t) : st now (lv now t) (sl t (lv now t)) ≤ t := by
  rw [st_eq h]; exact Nat.div_mul_le_self _ _
theorem st_gt {now t : Nat} (h : now < t) : now < st now (lv now t) (sl t (lv now t)) := by
  rw [st_eq h]
  have h2 := (lv_spec h).2
  exact (Nat.div_lt_iff_lt_mul (Nat.two_pow_pos _)).1 h2
theorem st_div (now l s : Nat) : st now l s / 2 ^ (6 * l) = now / 2 ^ (6 * l + 6) * 64 + s := by
  unfold st; rw [Nat.mul_div_cancel _ (Nat.two_pow_pos _)]
theorem st_div6 (now l s : Nat) (hs : s < 64) : st now l s / 2 ^ (6 * l + 6) = now / 2 ^ (6 * l + 6) := by
  rw [Nat.pow_add 2 (6 * l) 6, ← Nat.div_div_eq_div_mul, st_div, Nat.pow_add 2 (6 * l) 6]
  omega
/-- What stands in other slots than the first one stays where it is while the wheel turns to that one's start, or to a time ahead of it. -/
theorem home_keep {now n' t l s : Nat} (h : now < t) (hn : now ≤ n') (hs : s < 64) (hst : n' ≤ st now l s) (hlt : l < lv now t ∨ (l = lv now t ∧ s < sl t l) ∨ (l = lv now t ∧ s = sl t l ∧ n' < st now l s)) :
    home n' t = home now t ∧ n' < t := by
  obtain ⟨s1, s2⟩ := lv_spec h
  have e6 : n' / 2 ^ (6 * l + 6) = now / 2 ^ (6 * l + 6) := by
    have a1 : now / 2 ^ (6 * l + 6) ≤ n' / 2 ^ (6 * l + 6) := Nat.div_le_div_right hn
    have a2 : n' / 2 ^ (6 * l + 6) ≤ st now l s / 2 ^ (6 * l + 6) := Nat.div_le_div_right hst
    rw [st_div6 now l s hs] at a2
    omega
  have key : n' / 2 ^ (6 * lv now t) < t / 2 ^ (6 * lv now t) ∧ l ≤ lv now t := by
    rcases hlt with hl | ⟨hl, hss⟩ | ⟨hl, hss, hn'⟩
    · refine ⟨?_, by omega⟩
      rw [div_more e6 (show 6 * l + 6 ≤ 6 * lv now t by omega)]
      exact s2
    · rw [← hl] at s1 s2 ⊢
      refine ⟨?_, Nat.le_refl _⟩
      have a2 : n' / 2 ^ (6 * l) ≤ st now l s / 2 ^ (6 * l) := Nat.div_le_div_right hst
      rw [st_div] at a2
      rw [split64 t l, s1]
      omega
    · rw [← hl] at s1 s2 ⊢
      refine ⟨?_, Nat.le_refl _⟩
      have a2 : n' / 2 ^ (6 * l) < now / 2 ^ (6 * l + 6) * 64 + s := (Nat.div_lt_iff_lt_mul (Nat.two_pow_pos _)).2 hn'
      rw [split64 t l, s1, ← hss]
      exact a2
  have hlt' : n' < t := by
    by_cases hh : n' < t
    · exact hh
    · have := Nat.div_le_div_right (c := 2 ^ (6 * lv now t)) (show t ≤ n' by omega)
      omega
  have e7 : t / 2 ^ (6 * lv now t + 6) = n' / 2 ^ (6 * lv now t + 6) := by
    rw [s1]; exact (div_more e6 (by omega)).symm
  have e8 := lv_unique hlt' e7 key.1
  exact ⟨by rw [home_slot hlt', home_slot h, e8], hlt'⟩
/-- What stands in the first slot leaves it when the wheel turns to its start: it comes to a lower level, or is over. -/
theorem home_lower {now t : Nat} (h : now < t) : home (st now (lv now t) (sl t (lv now t))) t < 1 + 64 * lv now t := by
  have hle := st_le h
  generalize hn' : st now (lv now t) (sl t (lv now t)) = n' at *
  by_cases e : t ≤ n'
  · rw [home_over e]; omega
  · have hlt : n' < t := by omega
    rw [home_slot hlt]
    have h1 : n' / 2 ^ (6 * lv now t) = t / 2 ^ (6 * lv now t) := by
      rw [← hn', st_eq h, Nat.mul_div_cancel _ (Nat.two_pow_pos _)]
    have h2 : lv n' t < lv now t := by
      by_cases hh : lv n' t < lv now t
      · exact hh
      · have a := (lv_spec hlt).2
        have b := div_more h1 (show 6 * lv now t ≤ 6 * lv n' t by omega)
        omega
    have h3 := sl_lt t (lv n' t)
    omega

/-! ### the masks -/
def UB (us : Nat → Nat) (ls : Nat → List Nat) (p : Nat) : Prop := ∀ l, l < 11 → us l < 18446744073709551616 ∧ ∀ s, s < 64 → ((us l).testBit s = true ↔ 1 + 64 * l + s ≠ p ∧ ls (1 + 64 * l + s) ≠ [])

theorem or_lt {a s : Nat} (ha : a < 18446744073709551616) (hs : s < 64) : a ||| 2 ^ s < 18446744073709551616 := by
  have e : (18446744073709551616 : Nat) = 2 ^ 64 := by decide
  rw [e] at ha ⊢
  exact Nat.or_lt_two_pow ha (Nat.pow_lt_pow_right (by decide) hs)
theorem or_bit (a s i : Nat) : (a ||| 2 ^ s).testBit i = (a.testBit i || decide (s = i)) := by rw [Nat.testBit_or, Nat.testBit_two_pow]
theorem and_lt {a b : Nat} (ha : a < 18446744073709551616) : a &&& b < 18446744073709551616 := Nat.lt_of_le_of_lt Nat.and_le_left ha
theorem clr_bit (a s i : Nat) (hi : i < 64) (hs : s < 64) : (a &&& (18446744073709551615 - 2 ^ s)).testBit i = (a.testBit i && !decide (s = i)) := by
  have hp : (2 : Nat) ^ s < 2 ^ 64 := Nat.pow_lt_pow_right (by decide) hs
  have e : 18446744073709551615 - 2 ^ s = 2 ^ 64 - (2 ^ s + 1) := by
    have : (2 : Nat) ^ 64 = 18446744073709551616 := by decide
    omega
  rw [Nat.testBit_and, e, Nat.testBit_two_pow_sub_succ hp, Nat.testBit_two_pow]
  simp [hi]

theorem UB.put {us : Nat → Nat} {ls : Nat → List Nat} {p now t x : Nat} (h : UB us ls p) (hl : lv now t ≤ 10) (hp : now < t → home now t ≠ p) : UB (putU us now t) (upd ls (home now t) (ls (home now t) ++ [x])) p := by
  intro l hll
  obtain ⟨h1, h2⟩ := h l hll
  unfold putU
  by_cases e : t ≤ now
  · rw [if_pos e, home_over e]
    refine ⟨h1, fun s hs => ?_⟩
    rw [upd_other _ _ (by omega)]
    exact h2 s hs
  · have e' : now < t := by omega
    have hp := hp e'
    rw [home_slot e'] at hp ⊢
    rw [if_neg e]
    have hs0 := sl_lt t (lv now t)
    generalize lv now t = l0 at *
    generalize sl t l0 = s0 at *
    by_cases el : l = l0
    · subst el
      rw [upd_same]
      refine ⟨or_lt h1 hs0, fun s hs => ?_⟩
      rw [or_bit]
      by_cases es : s0 = s
      · subst es
        rw [upd_same]
        simp
        omega
      · rw [upd_other _ _ (by omega), ← h2 s hs]
        simp [es]
    · rw [upd_other _ _ el]
      refine ⟨h1, fun s hs => ?_⟩
      rw [upd_other _ _ (by omega)]
      exact h2 s hs
theorem UB.clr {us : Nat → Nat} {ls : Nat → List Nat} (h : UB us ls 0) (l0 s0 : Nat) (hl : l0 < 11) (hs0 : s0 < 64) : UB (upd us l0 (us l0 &&& (18446744073709551615 - 2 ^ s0))) ls (1 + 64 * l0 + s0) := by
  intro l hll
  obtain ⟨h1, h2⟩ := h l hll
  by_cases el : l = l0
  · subst el
    rw [upd_same]
    refine ⟨and_lt h1, fun s hs => ?_⟩
    rw [clr_bit _ _ _ hs hs0]
    have h3 := h2 s hs
    by_cases es : s0 = s
    · subst es; simp
    · simp [es, h3]
      intro _
      omega
  · rw [upd_other _ _ el]
    refine ⟨h1, fun s hs => ?_⟩
    have h3 := h2 s hs
    rw [h3]
    constructor
    · intro q; exact ⟨by omega, q.2⟩
    · intro q; exact ⟨by omega, q.2⟩
theorem UB.pop {us : Nat → Nat} {ls : Nat → List Nat} {p : Nat} (h : UB us ls p) (r : List Nat) : UB us (upd ls p r) p := by
  intro l hll
  obtain ⟨h1, h2⟩ := h l hll
  refine ⟨h1, fun s hs => ?_⟩
  rw [h2 s hs]
  by_cases e : 1 + 64 * l + s = p
  · simp [e]
  · rw [upd_other _ _ e]
theorem UB.done {us : Nat → Nat} {ls : Nat → List Nat} {p : Nat} (h : UB us ls p) (he : ls p = []) : UB us ls 0 := by
  intro l hll
  obtain ⟨h1, h2⟩ := h l hll
  refine ⟨h1, fun s hs => ?_⟩
  rw [h2 s hs]
  constructor
  · intro q; exact ⟨by omega, q.2⟩
  · intro q; exact ⟨fun e => q.2 (e ▸ he), q.2⟩
theorem UB.cut {us : Nat → Nat} {ls : Nat → List Nat} {now t : Nat} (h : UB us ls 0) (hl : lv now t ≤ 10) (r : List Nat) (hne : ls (home now t) ≠ []) : UB (clrU us now t r.isEmpty) (upd ls (home now t) r) 0 := by
  unfold clrU
  by_cases e : t ≤ now
  · rw [if_pos e, home_over e]
    intro l hll
    obtain ⟨h1, h2⟩ := h l hll
    refine ⟨h1, fun s hs => ?_⟩
    rw [upd_other _ _ (by omega)]
    exact h2 s hs
  · have e' : now < t := by omega
    rw [home_slot e'] at hne ⊢
    rw [if_neg e]
    have hs0 := sl_lt t (lv now t)
    cases r with
    | nil =>
      simp only [List.isEmpty_nil, if_true]
      refine ((h.clr (lv now t) (sl t (lv now t)) (by omega) hs0).pop []).done ?_
      rw [upd_same]
    | cons x r =>
      simp only [List.isEmpty_cons]
      intro l hll
      obtain ⟨h1, h2⟩ := h l hll
      refine ⟨h1, fun s hs => ?_⟩
      have h3 := h2 s hs
      by_cases ee : 1 + 64 * l + s = 1 + 64 * lv now t + sl t (lv now t)
      · rw [show (if false = true then upd us (lv now t) (us (lv now t) &&& (18446744073709551615 - 2 ^ sl t (lv now t))) else us) = us from rfl]
        rw [ee, upd_same]
        rw [ee] at h3
        rw [h3]
        simp [hne]
      · rw [upd_other _ _ ee]
        exact h3
end Go.Proofs.YtogdekjklbbbiaaDoor
