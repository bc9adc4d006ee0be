import Derived.Test.YtogdekjklbbbiaaGreatDoorFirst
import Derived.Test.YtogdekjklbbbiaaGreatDoorZ20
set_option maxRecDepth 100000
namespace Go.Proofs.YtogdekjklbbbiaaGreatDoor
open Go.ChangeShapes Go.WideShapes Go.ChangeAt Go.RowKit
set_option linter.unusedSimpArgs false
set_option linter.unusedVariables false

/-- The first slot in which something stands. -/
structure FirstAt (ls : Nat → List Nat) (l s : Nat) : Prop where
  l11 : l < 11
  s64 : s < 64
  ne : ls (1 + 64 * l + s) ≠ []
  lo : ∀ l', l' < l → ∀ s', s' < 64 → ls (1 + 64 * l' + s') = []
  lo' : ∀ s', s' < s → ls (1 + 64 * l + s') = []

theorem ub_zero {us : Nat → Nat} {ls : Nat → List Nat} (h : UB us ls 0) {l : Nat} (hl : l < 11) (hz : us l = 0) : ∀ s, s < 64 → ls (1 + 64 * l + s) = [] := by
  intro s hs
  have h2 := (h l hl).2 s hs
  rw [hz] at h2
  simp at h2
  exact h2
theorem ub_first {us : Nat → Nat} {ls : Nat → List Nat} (h : UB us ls 0) {l : Nat} (hl : l < 11) (hz : us l ≠ 0) (hlo : ∀ l', l' < l → us l' = 0) :
    ∃ k m, us l = 2 ^ (k + 1) * m + 2 ^ k ∧ FirstAt ls l k := by
  obtain ⟨k, m, e⟩ := low_bit (us l) (us l) (Nat.le_refl _) (by omega)
  have hb := (h l hl).1
  have hk : k < 64 := by
    by_cases hh : k < 64
    · exact hh
    · exfalso
      have h1 : 2 ^ 64 ≤ 2 ^ k := Nat.pow_le_pow_right (by decide) (by omega)
      have h2 : (2 : Nat) ^ 64 = 18446744073709551616 := by decide
      omega
  refine ⟨k, m, e, ⟨hl, hk, ?_, fun l' hl' => ub_zero h (by omega) (hlo l' hl'), ?_⟩⟩
  · have h2 := (h l hl).2 k hk
    rw [e, bit_lo, if_pos (Nat.le_refl _)] at h2
    simp at h2
    exact h2
  · intro s' hs'
    have h2 := (h l hl).2 s' (by omega)
    rw [e, bit_lo, if_pos (by omega)] at h2
    have h3 : ¬ s' = k := by omega
    simp [h3] at h2
    exact h2

theorem first_any {w : World} {b m : Nat} {O : Nat → Prop} {now : Nat} {ls : Nat → List Nat} {us ids ats : Nat → Nat} (h : WM w b m O now ls us ids ats) (hu : UB us ls 0) (hT : TabW w) :
    Calls Tryz.prog 72 #[.pointer (some ⟨b, 0, none⟩)] w fun e w' => w' = w ∧
      ((e = .returned (.tuple #[.int .i64 0, .int .i64 0, .bool false]) ∧ ∀ p, 1 ≤ p → p < 705 → ls p = []) ∨
       (∃ l s : Nat, e = .returned (.tuple #[.int .i64 (l : Int), .int .i64 (s : Int), .bool true]) ∧ FirstAt ls l s)) := by
  by_cases z0 : us 0 = 0
  rotate_left
  · obtain ⟨k, m', e, hF⟩ := ub_first hu (l := 0) (by omega) z0 (by intro l' hl'; omega)
    have hb := (hu 0 (by omega)).1
    refine (first_0 b (us 0 : Int) (us 1 : Int) (us 2 : Int) (us 3 : Int) (us 4 : Int) (us 5 : Int) (us 6 : Int) (us 7 : Int) (us 8 : Int) (us 9 : Int) (us 10 : Int) w (h.cu 0 (by omega)) (h.cu 1 (by omega)) (h.cu 2 (by omega)) (h.cu 3 (by omega)) (h.cu 4 (by omega)) (h.cu 5 (by omega)) (h.cu 6 (by omega)) (h.cu 7 (by omega)) (h.cu 8 (by omega)) (h.cu 9 (by omega)) (h.cu 10 (by omega))  (by rw [bne_iff_ne]; omega) (k : Int) (fun w' hw' => by subst hw'; exact tz_any (us 0) (by omega) hb w' hT k m' e)).mono ?_
    rintro e w' ⟨rfl, rfl⟩
    exact ⟨rfl, .inr ⟨0, k, rfl, hF⟩⟩
  by_cases z1 : us 1 = 0
  rotate_left
  · obtain ⟨k, m', e, hF⟩ := ub_first hu (l := 1) (by omega) z1 (by intro l' hl'; match l', hl' with | 0, _ => exact z0)
    have hb := (hu 1 (by omega)).1
    refine (first_1 b (us 0 : Int) (us 1 : Int) (us 2 : Int) (us 3 : Int) (us 4 : Int) (us 5 : Int) (us 6 : Int) (us 7 : Int) (us 8 : Int) (us 9 : Int) (us 10 : Int) w (h.cu 0 (by omega)) (h.cu 1 (by omega)) (h.cu 2 (by omega)) (h.cu 3 (by omega)) (h.cu 4 (by omega)) (h.cu 5 (by omega)) (h.cu 6 (by omega)) (h.cu 7 (by omega)) (h.cu 8 (by omega)) (h.cu 9 (by omega)) (h.cu 10 (by omega)) (by rw [bne_eq_false_iff_eq]; omega) (by rw [bne_iff_ne]; omega) (k : Int) (fun w' hw' => by subst hw'; exact tz_any (us 1) (by omega) hb w' hT k m' e)).mono ?_
    rintro e w' ⟨rfl, rfl⟩
    exact ⟨rfl, .inr ⟨1, k, rfl, hF⟩⟩
  by_cases z2 : us 2 = 0
  rotate_left
  · obtain ⟨k, m', e, hF⟩ := ub_first hu (l := 2) (by omega) z2 (by intro l' hl'; match l', hl' with | 0, _ => exact z0 | 1, _ => exact z1)
    have hb := (hu 2 (by omega)).1
    refine (first_2 b (us 0 : Int) (us 1 : Int) (us 2 : Int) (us 3 : Int) (us 4 : Int) (us 5 : Int) (us 6 : Int) (us 7 : Int) (us 8 : Int) (us 9 : Int) (us 10 : Int) w (h.cu 0 (by omega)) (h.cu 1 (by omega)) (h.cu 2 (by omega)) (h.cu 3 (by omega)) (h.cu 4 (by omega)) (h.cu 5 (by omega)) (h.cu 6 (by omega)) (h.cu 7 (by omega)) (h.cu 8 (by omega)) (h.cu 9 (by omega)) (h.cu 10 (by omega)) (by rw [bne_eq_false_iff_eq]; omega) (by rw [bne_eq_false_iff_eq]; omega) (by rw [bne_iff_ne]; omega) (k : Int) (fun w' hw' => by subst hw'; exact tz_any (us 2) (by omega) hb w' hT k m' e)).mono ?_
    rintro e w' ⟨rfl, rfl⟩
    exact ⟨rfl, .inr ⟨2, k, rfl, hF⟩⟩
  by_cases z3 : us 3 = 0
  rotate_left
  · obtain ⟨k, m', e, hF⟩ := ub_first hu (l := 3) (by omega) z3 (by intro l' hl'; match l', hl' with | 0, _ => exact z0 | 1, _ => exact z1 | 2, _ => exact z2)
    have hb := (hu 3 (by omega)).1
    refine (first_3 b (us 0 : Int) (us 1 : Int) (us 2 : Int) (us 3 : Int) (us 4 : Int) (us 5 : Int) (us 6 : Int) (us 7 : Int) (us 8 : Int) (us 9 : Int) (us 10 : Int) w (h.cu 0 (by omega)) (h.cu 1 (by omega)) (h.cu 2 (by omega)) (h.cu 3 (by omega)) (h.cu 4 (by omega)) (h.cu 5 (by omega)) (h.cu 6 (by omega)) (h.cu 7 (by omega)) (h.cu 8 (by omega)) (h.cu 9 (by omega)) (h.cu 10 (by omega)) (by rw [bne_eq_false_iff_eq]; omega) (by rw [bne_eq_false_iff_eq]; omega) (by rw [bne_eq_false_iff_eq]; omega) (by rw [bne_iff_ne]; omega) (k : Int) (fun w' hw' => by subst hw'; exact tz_any (us 3) (by omega) hb w' hT k m' e)).mono ?_
    rintro e w' ⟨rfl, rfl⟩
    exact ⟨rfl, .inr ⟨3, k, rfl, hF⟩⟩
  by_cases z4 : us 4 = 0
  rotate_left
  · obtain ⟨k, m', e, hF⟩ := ub_first hu (l := 4) (by omega) z4 (by intro l' hl'; match l', hl' with | 0, _ => exact z0 | 1, _ => exact z1 | 2, _ => exact z2 | 3, _ => exact z3)
    have hb := (hu 4 (by omega)).1
    refine (first_4 b (us 0 : Int) (us 1 : Int) (us 2 : Int) (us 3 : Int) (us 4 : Int) (us 5 : Int) (us 6 : Int) (us 7 : Int) (us 8 : Int) (us 9 : Int) (us 10 : Int) w (h.cu 0 (by omega)) (h.cu 1 (by omega)) (h.cu 2 (by omega)) (h.cu 3 (by omega)) (h.cu 4 (by omega)) (h.cu 5 (by omega)) (h.cu 6 (by omega)) (h.cu 7 (by omega)) (h.cu 8 (by omega)) (h.cu 9 (by omega)) (h.cu 10 (by omega)) (by rw [bne_eq_false_iff_eq]; omega) (by rw [bne_eq_false_iff_eq]; omega) (by rw [bne_eq_false_iff_eq]; omega) (by rw [bne_eq_false_iff_eq]; omega) (by rw [bne_iff_ne]; omega) (k : Int) (fun w' hw' => by subst hw'; exact tz_any (us 4) (by omega) hb w' hT k m' e)).mono ?_
    rintro e w' ⟨rfl, rfl⟩
    exact ⟨rfl, .inr ⟨4, k, rfl, hF⟩⟩
  by_cases z5 : us 5 = 0
  rotate_left
  · obtain ⟨k, m', e, hF⟩ := ub_first hu (l := 5) (by omega) z5 (by intro l' hl'; match l', hl' with | 0, _ => exact z0 | 1, _ => exact z1 | 2, _ => exact z2 | 3, _ => exact z3 | 4, _ => exact z4)
    have hb := (hu 5 (by omega)).1
    refine (first_5 b (us 0 : Int) (us 1 : Int) (us 2 : Int) (us 3 : Int) (us 4 : Int) (us 5 : Int) (us 6 : Int) (us 7 : Int) (us 8 : Int) (us 9 : Int) (us 10 : Int) w (h.cu 0 (by omega)) (h.cu 1 (by omega)) (h.cu 2 (by omega)) (h.cu 3 (by omega)) (h.cu 4 (by omega)) (h.cu 5 (by omega)) (h.cu 6 (by omega)) (h.cu 7 (by omega)) (h.cu 8 (by omega)) (h.cu 9 (by omega)) (h.cu 10 (by omega)) (by rw [bne_eq_false_iff_eq]; omega) (by rw [bne_eq_false_iff_eq]; omega) (by rw [bne_eq_false_iff_eq]; omega) (by rw [bne_eq_false_iff_eq]; omega) (by rw [bne_eq_false_iff_eq]; omega) (by rw [bne_iff_ne]; omega) (k : Int) (fun w' hw' => by subst hw'; exact tz_any (us 5) (by omega) hb w' hT k m' e)).mono ?_
    rintro e w' ⟨rfl, rfl⟩
    exact ⟨rfl, .inr ⟨5, k, rfl, hF⟩⟩
  by_cases z6 : us 6 = 0
  rotate_left
  · obtain ⟨k, m', e, hF⟩ := ub_first hu (l := 6) (by omega) z6 (by intro l' hl'; match l', hl' with | 0, _ => exact z0 | 1, _ => exact z1 | 2, _ => exact z2 | 3, _ => exact z3 | 4, _ => exact z4 | 5, _ => exact z5)
    have hb := (hu 6 (by omega)).1
    refine (first_6 b (us 0 : Int) (us 1 : Int) (us 2 : Int) (us 3 : Int) (us 4 : Int) (us 5 : Int) (us 6 : Int) (us 7 : Int) (us 8 : Int) (us 9 : Int) (us 10 : Int) w (h.cu 0 (by omega)) (h.cu 1 (by omega)) (h.cu 2 (by omega)) (h.cu 3 (by omega)) (h.cu 4 (by omega)) (h.cu 5 (by omega)) (h.cu 6 (by omega)) (h.cu 7 (by omega)) (h.cu 8 (by omega)) (h.cu 9 (by omega)) (h.cu 10 (by omega)) (by rw [bne_eq_false_iff_eq]; omega) (by rw [bne_eq_false_iff_eq]; omega) (by rw [bne_eq_false_iff_eq]; omega) (by rw [bne_eq_false_iff_eq]; omega) (by rw [bne_eq_false_iff_eq]; omega) (by rw [bne_eq_false_iff_eq]; omega) (by rw [bne_iff_ne]; omega) (k : Int) (fun w' hw' => by subst hw'; exact tz_any (us 6) (by omega) hb w' hT k m' e)).mono ?_
    rintro e w' ⟨rfl, rfl⟩
    exact ⟨rfl, .inr ⟨6, k, rfl, hF⟩⟩
  by_cases z7 : us 7 = 0
  rotate_left
  · obtain ⟨k, m', e, hF⟩ := ub_first hu (l := 7) (by omega) z7 (by intro l' hl'; match l', hl' with | 0, _ => exact z0 | 1, _ => exact z1 | 2, _ => exact z2 | 3, _ => exact z3 | 4, _ => exact z4 | 5, _ => exact z5 | 6, _ => exact z6)
    have hb := (hu 7 (by omega)).1
    refine (first_7 b (us 0 : Int) (us 1 : Int) (us 2 : Int) (us 3 : Int) (us 4 : Int) (us 5 : Int) (us 6 : Int) (us 7 : Int) (us 8 : Int) (us 9 : Int) (us 10 : Int) w (h.cu 0 (by omega)) (h.cu 1 (by omega)) (h.cu 2 (by omega)) (h.cu 3 (by omega)) (h.cu 4 (by omega)) (h.cu 5 (by omega)) (h.cu 6 (by omega)) (h.cu 7 (by omega)) (h.cu 8 (by omega)) (h.cu 9 (by omega)) (h.cu 10 (by omega)) (by rw [bne_eq_false_iff_eq]; omega) (by rw [bne_eq_false_iff_eq]; omega) (by rw [bne_eq_false_iff_eq]; omega) (by rw [bne_eq_false_iff_eq]; omega) (by rw [bne_eq_false_iff_eq]; omega) (by rw [bne_eq_false_iff_eq]; omega) (by rw [bne_eq_false_iff_eq]; omega) (by rw [bne_iff_ne]; omega) (k : Int) (fun w' hw' => by subst hw'; exact tz_any (us 7) (by omega) hb w' hT k m' e)).mono ?_
    rintro e w' ⟨rfl, rfl⟩
    exact ⟨rfl, .inr ⟨7, k, rfl, hF⟩⟩
  by_cases z8 : us 8 = 0
  rotate_left
  · obtain ⟨k, m', e, hF⟩ := ub_first hu (l := 8) (by omega) z8 (by intro l' hl'; match l', hl' with | 0, _ => exact z0 | 1, _ => exact z1 | 2, _ => exact z2 | 3, _ => exact z3 | 4, _ => exact z4 | 5, _ => exact z5 | 6, _ => exact z6 | 7, _ => exact z7)
    have hb := (hu 8 (by omega)).1
    refine (first_8 b (us 0 : Int) (us 1 : Int) (us 2 : Int) (us 3 : Int) (us 4 : Int) (us 5 : Int) (us 6 : Int) (us 7 : Int) (us 8 : Int) (us 9 : Int) (us 10 : Int) w (h.cu 0 (by omega)) (h.cu 1 (by omega)) (h.cu 2 (by omega)) (h.cu 3 (by omega)) (h.cu 4 (by omega)) (h.cu 5 (by omega)) (h.cu 6 (by omega)) (h.cu 7 (by omega)) (h.cu 8 (by omega)) (h.cu 9 (by omega)) (h.cu 10 (by omega)) (by rw [bne_eq_false_iff_eq]; omega) (by rw [bne_eq_false_iff_eq]; omega) (by rw [bne_eq_false_iff_eq]; omega) (by rw [bne_eq_false_iff_eq]; omega) (by rw [bne_eq_false_iff_eq]; omega) (by rw [bne_eq_false_iff_eq]; omega) (by rw [bne_eq_false_iff_eq]; omega) (by rw [bne_eq_false_iff_eq]; omega) (by rw [bne_iff_ne]; omega) (k : Int) (fun w' hw' => by subst hw'; exact tz_any (us 8) (by omega) hb w' hT k m' e)).mono ?_
    rintro e w' ⟨rfl, rfl⟩
    exact ⟨rfl, .inr ⟨8, k, rfl, hF⟩⟩
  by_cases z9 : us 9 = 0
  rotate_left
  · obtain ⟨k, m', e, hF⟩ := ub_first hu (l := 9) (by omega) z9 (by intro l' hl'; match l', hl' with | 0, _ => exact z0 | 1, _ => exact z1 | 2, _ => exact z2 | 3, _ => exact z3 | 4, _ => exact z4 | 5, _ => exact z5 | 6, _ => exact z6 | 7, _ => exact z7 | 8, _ => exact z8)
    have hb := (hu 9 (by omega)).1
    refine (first_9 b (us 0 : Int) (us 1 : Int) (us 2 : Int) (us 3 : Int) (us 4 : Int) (us 5 : Int) (us 6 : Int) (us 7 : Int) (us 8 : Int) (us 9 : Int) (us 10 : Int) w (h.cu 0 (by omega)) (h.cu 1 (by omega)) (h.cu 2 (by omega)) (h.cu 3 (by omega)) (h.cu 4 (by omega)) (h.cu 5 (by omega)) (h.cu 6 (by omega)) (h.cu 7 (by omega)) (h.cu 8 (by omega)) (h.cu 9 (by omega)) (h.cu 10 (by omega)) (by rw [bne_eq_false_iff_eq]; omega) (by rw [bne_eq_false_iff_eq]; omega) (by rw [bne_eq_false_iff_eq]; omega) (by rw [bne_eq_false_iff_eq]; omega) (by rw [bne_eq_false_iff_eq]; omega) (by rw [bne_eq_false_iff_eq]; omega) (by rw [bne_eq_false_iff_eq]; omega) (by rw [bne_eq_false_iff_eq]; omega) (by rw [bne_eq_false_iff_eq]; omega) (by rw [bne_iff_ne]; omega) (k : Int) (fun w' hw' => by subst hw'; exact tz_any (us 9) (by omega) hb w' hT k m' e)).mono ?_
    rintro e w' ⟨rfl, rfl⟩
    exact ⟨rfl, .inr ⟨9, k, rfl, hF⟩⟩
  by_cases z10 : us 10 = 0
  rotate_left
  · obtain ⟨k, m', e, hF⟩ := ub_first hu (l := 10) (by omega) z10 (by intro l' hl'; match l', hl' with | 0, _ => exact z0 | 1, _ => exact z1 | 2, _ => exact z2 | 3, _ => exact z3 | 4, _ => exact z4 | 5, _ => exact z5 | 6, _ => exact z6 | 7, _ => exact z7 | 8, _ => exact z8 | 9, _ => exact z9)
    have hb := (hu 10 (by omega)).1
    refine (first_10 b (us 0 : Int) (us 1 : Int) (us 2 : Int) (us 3 : Int) (us 4 : Int) (us 5 : Int) (us 6 : Int) (us 7 : Int) (us 8 : Int) (us 9 : Int) (us 10 : Int) w (h.cu 0 (by omega)) (h.cu 1 (by omega)) (h.cu 2 (by omega)) (h.cu 3 (by omega)) (h.cu 4 (by omega)) (h.cu 5 (by omega)) (h.cu 6 (by omega)) (h.cu 7 (by omega)) (h.cu 8 (by omega)) (h.cu 9 (by omega)) (h.cu 10 (by omega)) (by rw [bne_eq_false_iff_eq]; omega) (by rw [bne_eq_false_iff_eq]; omega) (by rw [bne_eq_false_iff_eq]; omega) (by rw [bne_eq_false_iff_eq]; omega) (by rw [bne_eq_false_iff_eq]; omega) (by rw [bne_eq_false_iff_eq]; omega) (by rw [bne_eq_false_iff_eq]; omega) (by rw [bne_eq_false_iff_eq]; omega) (by rw [bne_eq_false_iff_eq]; omega) (by rw [bne_eq_false_iff_eq]; omega) (by rw [bne_iff_ne]; omega) (k : Int) (fun w' hw' => by subst hw'; exact tz_any (us 10) (by omega) hb w' hT k m' e)).mono ?_
    rintro e w' ⟨rfl, rfl⟩
    exact ⟨rfl, .inr ⟨10, k, rfl, hF⟩⟩
  refine (first_11 b (us 0 : Int) (us 1 : Int) (us 2 : Int) (us 3 : Int) (us 4 : Int) (us 5 : Int) (us 6 : Int) (us 7 : Int) (us 8 : Int) (us 9 : Int) (us 10 : Int) w (h.cu 0 (by omega)) (h.cu 1 (by omega)) (h.cu 2 (by omega)) (h.cu 3 (by omega)) (h.cu 4 (by omega)) (h.cu 5 (by omega)) (h.cu 6 (by omega)) (h.cu 7 (by omega)) (h.cu 8 (by omega)) (h.cu 9 (by omega)) (h.cu 10 (by omega)) (by rw [bne_eq_false_iff_eq]; omega) (by rw [bne_eq_false_iff_eq]; omega) (by rw [bne_eq_false_iff_eq]; omega) (by rw [bne_eq_false_iff_eq]; omega) (by rw [bne_eq_false_iff_eq]; omega) (by rw [bne_eq_false_iff_eq]; omega) (by rw [bne_eq_false_iff_eq]; omega) (by rw [bne_eq_false_iff_eq]; omega) (by rw [bne_eq_false_iff_eq]; omega) (by rw [bne_eq_false_iff_eq]; omega) (by rw [bne_eq_false_iff_eq]; omega)).mono ?_
  rintro e w' ⟨rfl, rfl⟩
  refine ⟨rfl, .inl ⟨rfl, fun p hp hp' => ?_⟩⟩
  have hz : ∀ l, l < 11 → us l = 0 := by
    intro l hl
    match l, hl with
    | 0, _ => exact z0
    | 1, _ => exact z1
    | 2, _ => exact z2
    | 3, _ => exact z3
    | 4, _ => exact z4
    | 5, _ => exact z5
    | 6, _ => exact z6
    | 7, _ => exact z7
    | 8, _ => exact z8
    | 9, _ => exact z9
    | 10, _ => exact z10
  have hd : (p - 1) / 64 < 11 := by omega
  have := ub_zero hu hd (hz _ hd) ((p - 1) % 64) (by omega)
  rw [show 1 + 64 * ((p - 1) / 64) + (p - 1) % 64 = p by omega] at this
  exact this
end Go.Proofs.YtogdekjklbbbiaaGreatDoor
