import Derived.Test.YtogdekjklbbbiaaGreatDoorRl
set_option maxRecDepth 100000
namespace Go.Proofs.YtogdekjklbbbiaaGreatDoor
open Go.ChangeShapes Go.WideShapes Go.ChangeAt Go.RowKit
set_option linter.unusedSimpArgs false
set_option linter.unusedVariables false

theorem rnext_pend (b ck n c : Nat) (a : Option Addr) (w : World) (h1 : w.cell? ⟨b, 1, none⟩ = some (.bool false)) (h4 : w.cell? ⟨b, 4, none⟩ = some (.slice a n c)) (h2 : w.cell? ⟨b, 2, none⟩ = some (.int .i64 (ck : Int))) (hn : 0 < n) :
    Calls Tryz.prog 38 #[.pointer (some ⟨b, 0, none⟩)] w fun e w' => e = .returned (.int .i64 (ck : Int)) ∧ w' = w := by
  have hni : (0 : Int) < (n : Int) := by omega
  go_enter Tryz.func38, Tryz.ntmps38
  go_wp2_with fail
  go_ret
  exact ⟨rfl, rfl⟩
set_option maxHeartbeats 2000000 in
theorem rnext_walk (b g cap : Nat) (xs : List Nat) (B ar at' : Nat → Nat) (fv : Value) (a4 : Option Addr) (c4 : Nat) (w : World) (h1 : w.cell? ⟨b, 1, none⟩ = some (.bool false)) (h4 : w.cell? ⟨b, 4, none⟩ = some (.slice a4 0 c4))
    (h3 : w.cell? ⟨b, 3, none⟩ = some fv) (hfv : fv = .slice none 0 0 ∧ xs = [] ∨ fv = .slice (some ⟨g, 0, none⟩) xs.length cap) (hlen : xs.length ≤ 8)
    (hrow : ∀ k x, xs[k]? = some x → w.cell? ⟨g, k, none⟩ = some (.pointer (some ⟨B x, 0, none⟩))) (hcell : ∀ x ∈ xs, w.cell? ⟨B x, 8, none⟩ = some (.int .i64 (ar x : Int)) ∧ w.cell? ⟨B x, 9, none⟩ = some (.int .i64 (at' x : Int))) :
    Calls Tryz.prog 38 #[.pointer (some ⟨b, 0, none⟩)] w fun e w' => e = .returned (.int .i64 (xs.foldl (Pace.pickN ar at') (-1))) ∧ Ch w w' (fun _ _ => False) := by
  have HR := hide hrow; have HN := hide hcell; have HF := hide hfv
  clear hrow hcell hfv
  have hfv2 : ∃ a cp, fv = .slice a xs.length cp ∧ ∀ k x, xs[k]? = some x → ∃ g, a = some ⟨g, 0, none⟩ ∧ w.cell? ⟨g, k, none⟩ = some (.pointer (some ⟨B x, 0, none⟩)) := by
    rcases unhide HF with ⟨q1, q2⟩ | q
    · exact ⟨none, 0, by rw [q1, q2]; rfl, fun k x hx => by rw [q2] at hx; simp at hx⟩
    · exact ⟨_, cap, q, fun k x hx => ⟨g, rfl, unhide HR k x hx⟩⟩
  obtain ⟨a3, cap3, hu3, hrd⟩ := hfv2
  have HRD := hide hrd
  clear hrd HR HF
  rw [hu3] at h3
  clear hu3
  have H3 := hide h3
  go_enter Tryz.func38, Tryz.ntmps38
  go_wp2_with fail
  go_loopg [3, 4] xs.length (fun gk vb i wr => Ch w wr (fun _ _ => False) ∧ ∃ k : Nat, vb = .int .i64 ((xs.take k).foldl (Pace.pickN ar at') (-1)) ∧ i = .int .i64 (k : Int) ∧ gk = xs.length - k ∧ k ≤ xs.length)
  case atStart => exact ⟨Ch.refl _ _, 0, rfl, rfl, rfl, Nat.zero_le _⟩
  case round =>
    obtain ⟨hC, k, hu, hu', hgk, hkl⟩ := hrel
    rw [hu, hu']
    have HG := hide hgk; have HC := hide hC
    have c3 : wr.cell? ⟨b, 3, none⟩ = some (.slice a3 xs.length cap3) := by rw [hC.cell _ _ (fun q => q)]; exact unhide H3
    clear hgk hC hu hu' h3
    by_cases hk : k < xs.length
    · obtain ⟨g', ha3, hg3⟩ := unhide HRD k xs[k] (List.getElem?_eq_getElem hk)
      have hki : (k : Int) < (xs.length : Int) := by omega
      have hk0 : (0 : Int) ≤ (k : Int) := by omega
      obtain ⟨n8, n9⟩ := unhide HN xs[k] (List.getElem_mem hk)
      rw [← (unhide HC).cell _ _ (fun q => q)] at hg3 n8 n9
      have hst := take_fold (Pace.pickN ar at') (-1) (List.getElem?_eq_getElem hk)
      generalize xs[k] = x at hg3 n8 n9 hst
      have HST := hide hst
      subst ha3
      clear hst
      generalize hm : (xs.take k).foldl (Pace.pickN ar at') (-1) = m at HST ⊢
      clear hm
      have HPN : Hid (Pace.pickN ar at' m x = if 0 < ar x ∧ (m < 0 ∨ (at' x : Int) < m) then (at' x : Int) else m) := rfl
      by_cases h0 : 0 < ar x
      · have h0i : (0 : Int) < (ar x : Int) := by omega
        by_cases h5 : m < 0
        · have HP : Hid (Pace.pickN ar at' m x = (at' x : Int)) := by unfold Hid; rw [unhide HPN, if_pos ⟨h0, .inl h5⟩]
          go_wp2_with fail
          go_roundg (xs.length - (k + 1))
          case measure => rw [unhide HG]; omega
          case rel => exact ⟨unhide HC, k + 1, by rw [unhide HST, unhide HP], by go_num, rfl, by omega⟩
        · have h5i : decide (m < 0) = false := decide_eq_false h5
          by_cases h6 : (at' x : Int) < m
          · have HP : Hid (Pace.pickN ar at' m x = (at' x : Int)) := by unfold Hid; rw [unhide HPN, if_pos ⟨h0, .inr h6⟩]
            go_wp2_with fail
            go_roundg (xs.length - (k + 1))
            case measure => rw [unhide HG]; omega
            case rel => exact ⟨unhide HC, k + 1, by rw [unhide HST, unhide HP], by go_num, rfl, by omega⟩
          · have h6i : decide ((at' x : Int) < m) = false := decide_eq_false h6
            have HP : Hid (Pace.pickN ar at' m x = m) := by unfold Hid; rw [unhide HPN, if_neg (by omega)]
            go_wp2_with fail
            go_roundg (xs.length - (k + 1))
            case measure => rw [unhide HG]; omega
            case rel => exact ⟨unhide HC, k + 1, by rw [unhide HST, unhide HP], by go_num, rfl, by omega⟩
      · have h0i : decide ((0 : Int) < (ar x : Int)) = false := decide_eq_false (by omega)
        have h0n : decide (0 < ar x) = false := decide_eq_false h0
        have HP : Hid (Pace.pickN ar at' m x = m) := by unfold Hid; rw [unhide HPN, if_neg (by omega)]
        go_wp2_with fail
        go_roundg (xs.length - (k + 1))
        case measure => rw [unhide HG]; omega
        case rel => exact ⟨unhide HC, k + 1, by rw [unhide HST, unhide HP], by go_num, rfl, by omega⟩
    · have hki : ¬ ((k : Int) < (xs.length : Int)) := by omega
      have hke : k = xs.length := by omega
      have HE : Hid ((xs.take k).foldl (Pace.pickN ar at') (-1) = xs.foldl (Pace.pickN ar at') (-1)) := by unfold Hid; rw [List.take_of_length_le (by omega)]
      clear hke
      go_wp2_with fail
      go_ret
      exact ⟨by rw [unhide HE]; rfl, unhide HC⟩
end Go.Proofs.YtogdekjklbbbiaaGreatDoor
