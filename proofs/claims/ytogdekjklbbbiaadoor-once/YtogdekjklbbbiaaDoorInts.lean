import Derived.Test.YtogdekjklbbbiaaDoorAbs
import Derived.Deep.LoopGhost
set_option maxRecDepth 100000
namespace Go.Proofs.YtogdekjklbbbiaaDoor
open Go.ChangeShapes Go.WideShapes Go.ChangeAt Go.RowKit
set_option linter.unusedSimpArgs false
set_option linter.unusedVariables false

/-- A slice of integers in memory. -/
def IR (w : World) (a : Option Addr) (xs : List Int) : Prop := ∀ i x, xs[i]? = some x → ∃ g o, a = some ⟨g, o, none⟩ ∧ w.cell? ⟨g, o + i, none⟩ = some (.int .i64 x)
theorem ir_of_row {w : World} {n0 : Nat} {v : Value} {xs : List Int} (h : w.ownsRow n0 3 1 v xs.length (xs.map fun x => Value.int .i64 x)) : ∃ a cap, v = .slice a xs.length cap ∧ IR w a xs := by
  rcases h.2 with ⟨rfl, hn⟩ | ⟨g, cap, cur, rfl, h1, h2, h3, h4, h5, h6⟩
  · have hD : xs = [] := List.eq_nil_of_length_eq_zero hn
    subst hD
    exact ⟨none, 0, rfl, fun i x hx => by simp at hx⟩
  · refine ⟨_, cap, rfl, fun i x hx => ⟨g, 0, rfl, ?_⟩⟩
    have hi := (List.getElem?_eq_some_iff.1 hx).1
    rw [Nat.zero_add, h.cellAt i (by omega)]
    simp [hx]

set_option maxHeartbeats 1000000 in
theorem num_any (n : Int) (w : World) : Calls Tryd.prog 12 #[.int .i64 n] w fun e w' => e = .returned (.int .i64 n) ∧ w' = w := by
  go_enter Tryd.func12, Tryd.ntmps12
  go_wp2
  go_ret
  exact ⟨rfl, rfl⟩

set_option maxHeartbeats 1000000 in
theorem ints_len (a b : Option Addr) (n m ca cb : Nat) (w : World) (hne : n ≠ m) : Calls Tryd.prog 15 #[.slice a n ca, .slice b m cb] w fun e w' => e = .returned (.bool false) ∧ w' = w := by
  have e1 : ((n : Int) != (m : Int)) = true := by rw [bne_iff_ne]; omega
  go_enter Tryd.func15, Tryd.ntmps15
  go_wp2
  go_ret
  exact ⟨rfl, rfl⟩
set_option maxHeartbeats 1000000 in
theorem ints_eq (a b : Option Addr) (xs : List Int) (n ca cb : Nat) (w : World) (hn : n = xs.length) (hl : n < 17592186044416) (ha : IR w a xs) (hb : IR w b xs) : Calls Tryd.prog 15 #[.slice a n ca, .slice b n cb] w fun e w' => e = .returned (.bool true) ∧ Below w.heap.size w w' := by
  have e1 : ((n : Int) != (n : Int)) = false := by simp
  have HA := hide ha; have HB := hide hb; have HN := hide hn
  clear ha hb hn
  go_enter Tryd.func15, Tryd.ntmps15
  go_wp2
  go_loopg [5] n (fun gk i wr => ∃ k : Nat, i = .int .i64 (k : Int) ∧ gk = n - k ∧ k ≤ n ∧ Ch w wr (fun _ _ => False))
  case atStart => exact ⟨0, rfl, rfl, Nat.zero_le _, Ch.refl _ _⟩
  case round =>
    obtain ⟨k, hu, hgk, hkn, hc⟩ := hrel
    rw [hu]
    clear hu
    have HC := hide hc; have HG := hide hgk
    by_cases hk : k < n
    · have hkl : k < xs.length := by rw [← unhide HN]; exact hk
      obtain ⟨g, o, ha, hca⟩ := unhide HA k xs[k] (List.getElem?_eq_getElem hkl)
      obtain ⟨g', o', hb, hcb⟩ := unhide HB k xs[k] (List.getElem?_eq_getElem hkl)
      rw [← hc.cell g (o + k) (fun q => q)] at hca
      rw [← hc.cell g' (o' + k) (fun q => q)] at hcb
      generalize xs[k] = x at hca hcb
      subst ha hb
      have hki : (k : Int) < (n : Int) := by omega
      have hk0 : (0 : Int) ≤ (k : Int) := by omega
      have hxx : (x != x) = false := by simp
      clear hc hgk
      go_wp2
      go_quiet (fail)
      go_wp2
      go_roundg (n - (k + 1))
      case measure => rw [unhide HG]; omega
      case rel => exact ⟨k + 1, by simp, rfl, by omega, (unhide HC).drewN _⟩
    · have hki : ¬ (k : Int) < (n : Int) := by omega
      clear hc hgk
      go_wp2
      go_ret
      exact ⟨rfl, (unhide HC).below (fun _ _ q => q.elim)⟩
end Go.Proofs.YtogdekjklbbbiaaDoor
