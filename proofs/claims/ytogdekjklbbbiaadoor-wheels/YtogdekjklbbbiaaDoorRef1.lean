import Derived.Test.YtogdekjklbbbiaaDoorOnce
import Derived.Test.YtogdekjklbbbiaaDoorTake
import Derived.Deep.LoopGhost
import Derived.Maps.AppendAt
set_option maxRecDepth 100000
namespace Go.Proofs.YtogdekjklbbbiaaDoor
open Go.ChangeShapes Go.WideShapes Go.ChangeAt Go.RowKit
set_option linter.unusedSimpArgs false
set_option linter.unusedVariables false

/-- The cells of a list of (id, at). -/
def PR (w : World) (a : Option Addr) (A : List (Nat × Nat)) : Prop := ∀ i p, A[i]? = some p → ∃ g, a = some ⟨g, 0, none⟩ ∧ w.cell? ⟨g, i * 2, none⟩ = some (.int .i64 (p.1 : Int)) ∧ w.cell? ⟨g, i * 2 + 1, none⟩ = some (.int .i64 (p.2 : Int))

def FindAt (A : List (Nat × Nat)) (id r : Int) : Prop := (r = -1 ∧ ∀ p ∈ A, (p.1 : Int) ≠ id) ∨ ∃ (i : Nat) (p : Nat × Nat), r = (i : Int) ∧ A[i]? = some p ∧ (p.1 : Int) = id

set_option maxHeartbeats 1000000 in
theorem find_walk (b cap : Nat) (a : Option Addr) (A : List (Nat × Nat)) (n : Nat) (id : Int) (w : World) (hn : n = A.length) (hb : n < 17592186044416) (hc : w.cell? ⟨b, 1, none⟩ = some (.slice a n cap)) (hp : PR w a A) :
    Calls Tryd.prog 64 #[.pointer (some ⟨b, 0, none⟩), .int .i64 id] w fun e w' => ∃ r, e = .returned (.int .i64 r) ∧ FindAt A id r ∧ w' = w := by
  have HP := hide hp; have HN := hide hn
  clear hp hn
  go_enter Tryd.func64, Tryd.ntmps64
  go_wp2
  go_loopg [5] n (fun gk i wr => ∃ k : Nat, i = .int .i64 (k : Int) ∧ gk = n - k ∧ k ≤ n ∧ wr = w ∧ ∀ j p, j < k → A[j]? = some p → (p.1 : Int) ≠ id)
  case atStart => exact ⟨0, rfl, rfl, Nat.zero_le _, rfl, fun j p hj => by omega⟩
  case round =>
    obtain ⟨k, hu, hgk, hkn, hw, hno⟩ := hrel
    rw [hu, hw]
    clear hu hw
    have HG := hide hgk; have HNo := hide hno
    clear hgk hno
    by_cases hk : k < n
    · have hki : (k : Int) < (n : Int) := by omega
      have hk0 : (0 : Int) ≤ (k : Int) := by omega
      have hkl : k < A.length := by rw [← unhide HN]; exact hk
      obtain ⟨g, ha, h1, h2⟩ := unhide HP k A[k] (List.getElem?_eq_getElem hkl)
      generalize hpe : A[k] = p at h1 h2
      have HA : Hid (A[k]? = some p) := by rw [← hpe]; exact List.getElem?_eq_getElem hkl
      subst ha
      clear hpe
      by_cases he : (p.1 : Int) = id
      · have he' : ((p.1 : Int) == id) = true := by rw [beq_iff_eq]; exact he
        have HE := hide he
        clear he
        go_wp2
        go_ret
        exact ⟨_, rfl, .inr ⟨k, p, rfl, unhide HA, unhide HE⟩, rfl⟩
      · have he' : ((p.1 : Int) == id) = false := by rw [beq_eq_false_iff_ne]; exact he
        have HE := hide he
        clear he
        go_wp2
        go_roundg (n - (k + 1))
        case measure => rw [unhide HG]; omega
        case rel =>
          refine ⟨k + 1, by simp, rfl, by omega, rfl, fun j q hj hq => ?_⟩
          by_cases e : j = k
          · subst e
            rw [unhide HA] at hq
            cases hq
            exact unhide HE
          · exact unhide HNo j q (by omega) hq
    · have hki : ¬ (k : Int) < (n : Int) := by omega
      go_wp2
      go_ret
      refine ⟨_, rfl, .inl ⟨rfl, fun p hp => ?_⟩, rfl⟩
      obtain ⟨j, hj⟩ := List.getElem?_of_mem hp
      have := (List.getElem?_eq_some_iff.1 hj).1
      have hn := unhide HN
      exact unhide HNo j p (by omega) hj

/-- The least of them, the first of these. -/
def FirstIx (A : List (Nat × Nat)) (k : Nat) (r : Int) : Prop := (r = -1 ∧ k = 0) ∨ ∃ (i : Nat) (p : Nat × Nat), r = (i : Int) ∧ i < k ∧ A[i]? = some p ∧ (∀ j q, j < i → A[j]? = some q → p.2 < q.2) ∧ (∀ j q, j < k → A[j]? = some q → p.2 ≤ q.2)

set_option maxHeartbeats 1000000 in
theorem first_walk (b cap : Nat) (a : Option Addr) (A : List (Nat × Nat)) (n : Nat) (w : World) (hn : n = A.length) (hb : n < 17592186044416) (hc : w.cell? ⟨b, 1, none⟩ = some (.slice a n cap)) (hp : PR w a A) :
    Calls Tryd.prog 67 #[.pointer (some ⟨b, 0, none⟩)] w fun e w' => ∃ r, e = .returned (.int .i64 r) ∧ FirstIx A n r ∧ Ch w w' (fun _ _ => False) := by
  have HP := hide hp; have HN := hide hn
  clear hp hn
  go_enter Tryd.func67, Tryd.ntmps67
  go_wp2
  go_loopg [3, 4] n (fun gk vb i wr => ∃ (k : Nat) (r : Int), vb = .int .i64 r ∧ i = .int .i64 (k : Int) ∧ gk = n - k ∧ k ≤ n ∧ FirstIx A k r ∧ Ch w wr (fun _ _ => False))
  case atStart => exact ⟨0, -1, rfl, rfl, rfl, Nat.zero_le _, .inl ⟨rfl, rfl⟩, Ch.refl _ _⟩
  case round =>
    obtain ⟨k, r, hu, hu', hgk, hkn, hF, hC⟩ := hrel
    rw [hu, hu']
    clear hu hu'
    have HG := hide hgk; have HC := hide hC
    have hcw : wr.cell? ⟨b, 1, none⟩ = some (.slice a n cap) := by rw [hC.cell _ _ (fun q => q)]; exact hc
    clear hgk hC
    by_cases hk : k < n
    · have hki : (k : Int) < (n : Int) := by omega
      have hk0 : (0 : Int) ≤ (k : Int) := by omega
      have hkl : k < A.length := by rw [← unhide HN]; exact hk
      obtain ⟨g, ha, h1, h2⟩ := unhide HP k A[k] (List.getElem?_eq_getElem hkl)
      rw [← (unhide HC).cell _ _ (fun q => q)] at h2
      generalize hpe : A[k] = p at h2
      have HA : Hid (A[k]? = some p) := by rw [← hpe]; exact List.getElem?_eq_getElem hkl
      subst ha
      clear hpe h1 hc
      rcases hF with ⟨rfl, hk00⟩ | ⟨i, q, rfl, hik, hiq, hlo, hle⟩
      · have HK := hide hk00
        clear hk00
        go_wp2
        go_quiet (fail)
        go_wp2
        go_roundg (n - (k + 1))
        case measure => rw [unhide HG]; omega
        case rel =>
          refine ⟨k + 1, k, rfl, by simp, rfl, by omega, .inr ⟨k, p, rfl, by omega, unhide HA, fun j z hj => by have := unhide HK; omega, fun j z hj hz => ?_⟩, (unhide HC).drewN _⟩
          have hK := unhide HK
          obtain rfl : j = k := by omega
          rw [unhide HA] at hz
          cases hz
          exact Nat.le_refl _
      · obtain ⟨g', ha', h3, h4⟩ := unhide HP i q hiq
        rw [← (unhide HC).cell _ _ (fun q => q)] at h4
        cases ha'
        have hi0 : (0 : Int) ≤ (i : Int) := by omega
        have hin : (i : Int) < (n : Int) := by omega
        have hneg : decide ((i : Int) < 0) = false := decide_eq_false (by omega)
        have HLo := hide hlo; have HLe := hide hle; have HIq := hide hiq
        clear h3 hlo hle hiq
        by_cases hlt : (p.2 : Int) < (q.2 : Int)
        · go_wp2
          go_quiet (fail)
          go_wp2
          go_roundg (n - (k + 1))
          case measure => rw [unhide HG]; omega
          case rel =>
            refine ⟨k + 1, k, rfl, by simp, rfl, by omega, .inr ⟨k, p, rfl, by omega, unhide HA, fun j z hj hz => ?_, fun j z hj hz => ?_⟩, (unhide HC).drewN _⟩
            · have := unhide HLe j z hj hz; omega
            · by_cases e : j = k
              · subst e
                rw [unhide HA] at hz
                cases hz
                exact Nat.le_refl _
              · have := unhide HLe j z (by omega) hz; omega
        · have hlt' : decide ((p.2 : Int) < (q.2 : Int)) = false := decide_eq_false hlt
          go_wp2
          go_quiet (fail)
          go_wp2
          go_roundg (n - (k + 1))
          case measure => rw [unhide HG]; omega
          case rel =>
            refine ⟨k + 1, i, rfl, by simp, rfl, by omega, .inr ⟨i, q, rfl, by omega, unhide HIq, unhide HLo, fun j z hj hz => ?_⟩, (unhide HC).drewN _⟩
            by_cases e : j = k
            · subst e
              rw [unhide HA] at hz
              cases hz
              omega
            · exact unhide HLe j z (by omega) hz
    · have hki : ¬ (k : Int) < (n : Int) := by omega
      have hkn' : k = n := by omega
      have HF := hide hF; have HK := hide hkn'
      clear hF hkn'
      go_wp2
      go_ret
      refine ⟨_, rfl, ?_, unhide HC⟩
      rw [← unhide HK]; exact unhide HF
end Go.Proofs.YtogdekjklbbbiaaDoor
