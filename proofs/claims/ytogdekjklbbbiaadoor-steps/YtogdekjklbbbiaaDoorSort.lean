import Derived.Test.YtogdekjklbbbiaaDoorRows
import Derived.Test.YtogdekjklbbbiaaDoorCh
namespace Go.Proofs.YtogdekjklbbbiaaDoor
open Go.ChangeShapes Go.WideShapes Go.ChangeAt Go.RowKit
set_option linter.unusedSimpArgs false
set_option linter.unusedVariables false

def cmpI (a b : Nat) : Int := if a < b then -1 else if b < a then 1 else 0
set_option maxHeartbeats 1000000 in
theorem compare_any (a b : Nat) (w : World) :
    Calls Tryd.prog 75 #[.int .i64 (a : Int), .int .i64 (b : Int)] w fun e w' => e = .returned (.int .i64 (cmpI a b)) ∧ w' = w := by
  by_cases h1 : a < b
  · rw [show cmpI a b = -1 by simp [cmpI, h1]]
    have h2 : (a : Int) < (b : Int) := by omega
    go_enter Tryd.func75, Tryd.ntmps75
    go_wp2
    go_ret
    exact ⟨rfl, rfl⟩
  · by_cases h2 : b < a
    · rw [show cmpI a b = 1 by simp [cmpI, h1, h2]]
      have h3 : ¬ (a : Int) < (b : Int) := by omega
      have h4 : (b : Int) < (a : Int) := by omega
      go_enter Tryd.func75, Tryd.ntmps75
      go_wp2
      go_ret
      exact ⟨rfl, rfl⟩
    · rw [show cmpI a b = 0 by simp [cmpI, h1, h2]]
      have h3 : ¬ (a : Int) < (b : Int) := by omega
      have h4 : ¬ (b : Int) < (a : Int) := by omega
      go_enter Tryd.func75, Tryd.ntmps75
      go_wp2
      go_ret
      exact ⟨rfl, rfl⟩
set_option maxHeartbeats 1000000 in
theorem less_any (x y a b : Nat) (w : World) (hx : w.cell? ⟨x, 3, none⟩ = some (.int .i64 (a : Int))) (hy : w.cell? ⟨y, 3, none⟩ = some (.int .i64 (b : Int))) :
    Calls Tryd.prog 74 #[.pointer (some ⟨x, 0, none⟩), .pointer (some ⟨y, 0, none⟩)] w fun e w' => e = .returned (.int .i64 (cmpI a b)) ∧ ∃ n, w' = w.drewN n := by
  go_enter Tryd.func74, Tryd.ntmps74
  go_wp2
  go_quiet ((go_at_call 75; exact Calls.quiet_of_same (compare_any a b _)))
  go_wp2
  go_ret
  exact ⟨rfl, _, rfl⟩

/-- A row of pointers in block g. -/
def RowL (w : World) (g : Nat) (D : List Nat) : Prop := ∀ i x, D[i]? = some x → w.cell? ⟨g, i, none⟩ = some (.pointer (some ⟨x, 0, none⟩))

theorem RowL.set {w : World} {g : Nat} {D : List Nat} (h : RowL w g D) (i y : Nat) (hi : i < D.length) : RowL (w.setCell ⟨g, i, none⟩ (.pointer (some ⟨y, 0, none⟩))) g (D.set i y) := by
  intro j x hj
  by_cases e : i = j
  · subst e
    rw [List.getElem?_set_self hi] at hj
    injection hj with hj
    subst hj
    exact World.cell?_setCell_same w _ _ (h i _ (List.getElem?_eq_getElem hi))
  · rw [List.getElem?_set_ne e] at hj
    rw [World.cell?_setCell_other w _ _ _ (by intro q; injection q with q1 q2; exact e q2)]
    exact h j x hj
theorem set_mid (L1 L2 : List Nat) (x y : Nat) : (L1 ++ x :: L2).set L1.length y = L1 ++ y :: L2 := by simp [List.set_append]
/-- Two things change their places. -/
theorem RowL.exch {w : World} {g : Nat} {L1 L2 L3 : List Nat} {x y i j : Nat} (h : RowL w g (L1 ++ x :: (L2 ++ y :: L3))) (hi : i = L1.length) (hj : j = L1.length + 1 + L2.length) :
    RowL ((w.setCell ⟨g, i, none⟩ (.pointer (some ⟨y, 0, none⟩))).setCell ⟨g, j, none⟩ (.pointer (some ⟨x, 0, none⟩))).drew g (L1 ++ y :: (L2 ++ x :: L3)) := by
  have h1 := h.set i y (by simp [hi])
  rw [hi, set_mid] at h1
  have e : L1 ++ y :: (L2 ++ y :: L3) = (L1 ++ y :: L2) ++ y :: L3 := by simp
  rw [e] at h1
  have h2 := h1.set j x (by simp [hj]; omega)
  have hl : j = (L1 ++ y :: L2).length := by simp [hj]; omega
  rw [hl, set_mid] at h2
  rw [hi, hl]
  have h3 : RowL ((w.setCell ⟨g, L1.length, none⟩ (.pointer (some ⟨y, 0, none⟩))).setCell ⟨g, (L1 ++ y :: L2).length, none⟩ (.pointer (some ⟨x, 0, none⟩))) g (L1 ++ y :: (L2 ++ x :: L3)) := by simpa using h2
  exact fun q z hz => h3 q z hz
theorem RowL.drewN {w : World} {g : Nat} {D : List Nat} (h : RowL w g D) (n : Nat) : RowL (w.drewN n) g D := h
theorem RowL.at {w : World} {g : Nat} {L1 L2 : List Nat} {x i : Nat} (h : RowL w g (L1 ++ x :: L2)) (hi : i = L1.length) : w.cell? ⟨g, i, none⟩ = some (.pointer (some ⟨x, 0, none⟩)) :=
  h i x (by rw [hi]; simp)

/-- While it is sorted: only block g turns, and it holds the row D. -/
def SW (w w' : World) (g : Nat) (D : List Nat) : Prop := Ch w w' (fun a _ => a = g) ∧ RowL w' g D

set_option maxHeartbeats 1000000 in
theorem swap_any (g cap a b n len : Nat) (P X M Y Q : List Nat) (w : World) (v : Value) (hD : RowL w g (P ++ X ++ M ++ Y ++ Q)) (hlen : len = (P ++ X ++ M ++ Y ++ Q).length) (ha : a = P.length) (hX : X.length = n) (hY : Y.length = n) (hb : b = P.length + X.length + M.length) (hl : len < 9223372036854775808) (fz : ∀ o, w.frozen? ⟨g, o, none⟩ = false) :
    Calls Tryd.prog 119 #[.slice (some ⟨g, 0, none⟩) len cap, .int .i64 (a : Int), .int .i64 (b : Int), .int .i64 (n : Int), v] w fun e w' => e = .returned (.tuple #[]) ∧ SW w w' g (P ++ Y ++ M ++ X ++ Q) := by
  have HL := hide hlen; have HA := hide ha; have HX := hide hX; have HY := hide hY; have HB := hide hb
  have l1 : a + n ≤ b ∧ b + n ≤ len := by simp at hlen; omega
  obtain ⟨l2, l3⟩ := l1
  clear hlen ha hX hY hb
  go_enter Tryd.func119, Tryd.ntmps119
  go_wp2
  go_loopw [10] (fun i wr => ∃ k : Nat, k ≤ n ∧ i = .int .i64 (k : Int) ∧ ∃ X1 X2 Y1 Y2, X = X1 ++ X2 ∧ Y = Y1 ++ Y2 ∧ X1.length = k ∧ Y1.length = k ∧ SW w wr g (P ++ Y1 ++ X2 ++ M ++ X1 ++ Y2 ++ Q)) (fun i _ => n - (intOf i).toNat)
  case atStart => exact ⟨0, Nat.zero_le _, rfl, [], X, [], Y, rfl, rfl, rfl, rfl, Ch.refl _ _, by simpa using hD⟩
  case round =>
    obtain ⟨k, hk, rfl, X1, X2, Y1, Y2, eX, eY, k1, k2, hC, hR⟩ := hrel
    have hx := unhide HX; have hy := unhide HY; have hlen := unhide HL; have ha := unhide HA; have hb := unhide HB
    rw [eX] at hx hb
    rw [eY] at hy
    simp at hx hy hb
    by_cases hlt : k < n
    · obtain ⟨x, X2', rfl⟩ : ∃ x r, X2 = x :: r := by
        cases X2 with
        | nil => simp at hx; omega
        | cons x r => exact ⟨x, r, rfl⟩
      obtain ⟨y, Y2', rfl⟩ : ∃ x r, Y2 = x :: r := by
        cases Y2 with
        | nil => simp at hy; omega
        | cons x r => exact ⟨x, r, rfl⟩
      have hR' : RowL wr g ((P ++ Y1) ++ x :: ((X2' ++ M ++ X1) ++ y :: (Y2' ++ Q))) := by simpa using hR
      simp only [List.length_cons] at hx hy hb
      have i1 : a + k = (P ++ Y1).length := by simp; omega
      have i2 : b + k = (P ++ Y1).length + 1 + (X2' ++ M ++ X1).length := by simp; omega
      have cx := hR'.at i1
      have hR2 : RowL wr g (((P ++ Y1) ++ x :: (X2' ++ M ++ X1)) ++ y :: (Y2' ++ Q)) := by simpa using hR'
      have cy := hR2.at (i := b + k) (by rw [i2]; simp only [List.length_append, List.length_cons]; omega)
      have hpost := hide (hR'.exch i1 i2)
      have c1 : (a : Int) + (k : Int) < (len : Int) := by omega
      have c2 : (b : Int) + (k : Int) < (len : Int) := by omega
      have f1 : wr.frozen? ⟨g, a + k, none⟩ = false := by rw [hC.fz]; exact fz _
      have f2 : wr.frozen? ⟨g, b + k, none⟩ = false := by rw [hC.fz]; exact fz _
      have HC := hide hC
      have K1 := hide k1; have K2 := hide k2
      clear hR hR' hR2 hC fz hD hx hy hlen ha hb i1 i2 k1 k2
      go_wp2
      go_region
      all_goals
        go_wp2
        go_roundw
        case rel => exact ⟨k + 1, by omega, by go_num, X1 ++ [x], X2', Y1 ++ [y], Y2', by simp [eX], by simp [eY], by simp [unhide K1], by simp [unhide K2], (((unhide HC).setCell rfl _).setCell rfl _).drew, by simpa using unhide hpost⟩
        case measure => simp [intOf]; omega
    · have hX2 : X2 = [] := List.eq_nil_of_length_eq_zero (by omega)
      have hY2 : Y2 = [] := List.eq_nil_of_length_eq_zero (by omega)
      subst hX2 hY2
      simp at eX eY
      subst eX eY
      have HP := hide (show SW w wr g (P ++ Y ++ M ++ X ++ Q) from ⟨hC, by simpa using hR⟩)
      clear hR hC hx hy hlen ha hb k1 k2
      go_wp2
      go_end0
      exact ⟨rfl, unhide HP⟩

end Go.Proofs.YtogdekjklbbbiaaDoor
