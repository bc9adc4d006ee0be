import Derived.Test.YtogdekjklbbbiaaGreatDoorZ06
import Derived.Test.YtogdekjklbbbiaaGreatDoorZ11
import Derived.Test.YtogdekjklbbbiaaGreatDoorRq
import Derived.Deep.QuietTactic
import Derived.Deep.RegionHeld3
set_option maxRecDepth 100000
namespace Go.Proofs.YtogdekjklbbbiaaGreatDoor
open Go.ChangeShapes Go.WideShapes Go.ChangeAt Go.RowKit
set_option linter.unusedSimpArgs false
set_option linter.unusedVariables false

theorem nil_ptr (o : Option Addr) (h : o = none) : Value.pointer o = .pointer none := by rw [h]
theorem take_fold {α β : Type} (f : β → α → β) (b : β) {xs : List α} {k : Nat} {x : α} (h : xs[k]? = some x) : (xs.take (k + 1)).foldl f b = f ((xs.take k).foldl f b) x := by
  rw [List.take_add_one, h]
  simp
set_option maxHeartbeats 2000000 in
theorem rdue_walk (b g cap : Nat) (xs : List Nat) (B ar at' tn : Nat → Nat) (ck : Nat) (fv : Value) (w : World)
    (h3 : w.cell? ⟨b, 3, none⟩ = some fv) (h2 : w.cell? ⟨b, 2, none⟩ = some (.int .i64 (ck : Int))) (hfv : fv = .slice none 0 0 ∧ xs = [] ∨ fv = .slice (some ⟨g, 0, none⟩) xs.length cap) (hlen : xs.length ≤ 8)
    (hrow : ∀ k x, xs[k]? = some x → w.cell? ⟨g, k, none⟩ = some (.pointer (some ⟨B x, 0, none⟩))) (hcell : ∀ x ∈ xs, w.cell? ⟨B x, 8, none⟩ = some (.int .i64 (ar x : Int)) ∧ w.cell? ⟨B x, 9, none⟩ = some (.int .i64 (at' x : Int)) ∧ w.cell? ⟨B x, 10, none⟩ = some (.int .i64 (tn x : Int))) :
    Calls Tryz.prog 86 #[.pointer (some ⟨b, 0, none⟩)] w fun e w' => e = .returned (.pointer ((xs.foldl (Pace.pick ck ar at' tn) none).map fun x => ⟨B x, 0, none⟩)) ∧ Ch w w' (fun _ _ => False) := by
  have HR := hide hrow; have HN := hide hcell; have HF := hide hfv
  clear hrow hcell hfv
  have hfv2 : ∃ a cp, fv = .slice a xs.length cp ∧ ∀ k x, xs[k]? = some x → ∃ g, a = some ⟨g, 0, none⟩ ∧ w.cell? ⟨g, k, none⟩ = some (.pointer (some ⟨B x, 0, none⟩)) := by
    rcases unhide HF with ⟨q1, q2⟩ | q
    · exact ⟨none, 0, by rw [q1, q2]; rfl, fun k x hx => by rw [q2] at hx; simp at hx⟩
    · exact ⟨_, cap, q, fun k x hx => ⟨g, rfl, unhide HR k x hx⟩⟩
  obtain ⟨a3, cap3, hu3, hrd⟩ := hfv2
  have HRD := hide hrd
  clear hrd HR HF
  rw [hu3] at h3
  clear hu3
  have H3 := hide h3; have H2 := hide h2
  go_enter Tryz.func86, Tryz.ntmps86
  go_wp2_with fail
  go_loopg [3, 4] xs.length (fun gk vb i wr => Ch w wr (fun _ _ => False) ∧ ∃ k : Nat, vb = .pointer (((xs.take k).foldl (Pace.pick ck ar at' tn) none).map fun x => ⟨B x, 0, none⟩) ∧ (∀ m, (xs.take k).foldl (Pace.pick ck ar at' tn) none = some m → m ∈ xs) ∧ i = .int .i64 (k : Int) ∧ gk = xs.length - k ∧ k ≤ xs.length)
  case atStart => exact ⟨Ch.refl _ _, 0, rfl, fun m q => by simp at q, rfl, rfl, Nat.zero_le _⟩
  case round =>
    obtain ⟨hC, k, hu, hm, hu', hgk, hkl⟩ := hrel
    rw [hu, hu']
    have HG := hide hgk; have HC := hide hC
    have c3 : wr.cell? ⟨b, 3, none⟩ = some (.slice a3 xs.length cap3) := by rw [hC.cell _ _ (fun q => q)]; exact unhide H3
    have c2 : wr.cell? ⟨b, 2, none⟩ = some (.int .i64 (ck : Int)) := by rw [hC.cell _ _ (fun q => q)]; exact unhide H2
    clear hgk hC hu hu' h3 h2
    by_cases hk : k < xs.length
    · obtain ⟨g', ha3, hg3⟩ := unhide HRD k xs[k] (List.getElem?_eq_getElem hk)
      have hki : (k : Int) < (xs.length : Int) := by omega
      have hk0 : (0 : Int) ≤ (k : Int) := by omega
      obtain ⟨n8, n9, n10⟩ := unhide HN xs[k] (List.getElem_mem hk)
      rw [← (unhide HC).cell _ _ (fun q => q)] at hg3 n8 n9 n10
      have hst := take_fold (Pace.pick ck ar at' tn) none (List.getElem?_eq_getElem hk)
      have hmx := List.getElem_mem hk
      generalize xs[k] = x at hg3 n8 n9 n10 hst hmx
      have HST := hide hst; have HMX := hide hmx; have HM := hide hm
      subst ha3
      clear hst hmx
      have hnilx := eqp_nilR wr (B x)
      by_cases h0 : ar x = 0
      · have h0i : ((ar x : Int) == 0) = true := by rw [h0]; rfl
        have h0n : (ar x == 0) = true := by rw [h0]; rfl
        have HP : Hid (∀ bb, Pace.pick ck ar at' tn bb x = bb) := fun bb => by unfold Pace.pick; rw [if_pos (.inl h0)]
        clear hm h0
        go_wp2_with fail
        go_quiet (fail)
        go_wp2_with fail
        go_roundg (xs.length - (k + 1))
        case measure => rw [unhide HG]; omega
        case rel => exact ⟨(unhide HC).drewN _, k + 1, by rw [unhide HST, unhide HP], by rw [unhide HST, unhide HP]; exact unhide HM, by go_num, rfl, by omega⟩
      · have h0i : ((ar x : Int) == 0) = false := by simp; omega
        have h0n : (ar x == 0) = false := by simp; omega
        by_cases h1 : ck < at' x
        · have h1i : (ck : Int) < (at' x : Int) := by omega
          have HP : Hid (∀ bb, Pace.pick ck ar at' tn bb x = bb) := fun bb => by unfold Pace.pick; rw [if_pos (.inr h1)]
          clear hm h0
          go_wp2_with fail
          go_quiet (fail)
          go_wp2_with fail
          go_roundg (xs.length - (k + 1))
          case measure => rw [unhide HG]; omega
          case rel => exact ⟨(unhide HC).drewN _, k + 1, by rw [unhide HST, unhide HP], by rw [unhide HST, unhide HP]; exact unhide HM, by go_num, rfl, by omega⟩
        · have h1i : decide ((ck : Int) < (at' x : Int)) = false := decide_eq_false (by omega)
          have h1n : decide (ck < at' x) = false := decide_eq_false h1
          have hne : ¬ (ar x = 0 ∨ ck < at' x) := by omega
          cases hb : (xs.take k).foldl (Pace.pick ck ar at' tn) none with
          | none =>
            have HP : Hid (Pace.pick ck ar at' tn none x = some x) := by unfold Hid Pace.pick; rw [if_neg hne]
            rw [hb] at HST
            clear hm h0 h1 hne hb HM
            simp only [Option.map_none]
            go_wp2_with fail
            go_quiet (fail)
            go_wp2_with fail
            go_quiet (fail)
            go_wp2_with fail
            go_roundg (xs.length - (k + 1))
            case measure => rw [unhide HG]; omega
            case rel => exact ⟨(unhide HC).drewN _, k + 1, by rw [unhide HST, unhide HP]; rfl, by rw [unhide HST, unhide HP]; intro m q; injection q with q; rw [← q]; exact unhide HMX, by go_num, rfl, by omega⟩
          | some m =>
            have hmm := hm m hb
            obtain ⟨m8, m9, m10⟩ := unhide HN m hmm
            rw [← (unhide HC).cell _ _ (fun q => q)] at m8 m9 m10
            have hnilm := eqp_nilR wr (B m)
            have HP : Hid (Pace.pick ck ar at' tn (some m) x = if at' x < at' m ∨ (at' x = at' m ∧ tn x < tn m) then some x else some m) := by unfold Hid Pace.pick; rw [if_neg hne]
            have HMM := hide hmm
            rw [hb] at HST
            clear hm h0 h1 hne hb HM hmm m8
            simp only [Option.map_some]
            by_cases q1 : at' x < at' m
            · have q1i : (at' x : Int) < (at' m : Int) := by omega
              have HP2 : Hid (Pace.pick ck ar at' tn (some m) x = some x) := by unfold Hid; rw [unhide HP, if_pos (.inl q1)]
              go_wp2_with fail
              go_quiet (fail)
              go_wp2_with fail
              go_quiet (fail)
              go_wp2_with fail
              go_roundg (xs.length - (k + 1))
              case measure => rw [unhide HG]; omega
              case rel => exact ⟨(unhide HC).drewN _, k + 1, by rw [unhide HST, unhide HP2]; rfl, by rw [unhide HST, unhide HP2]; intro m q; injection q with q; rw [← q]; exact unhide HMX, by go_num, rfl, by omega⟩
            · have q1i : decide ((at' x : Int) < (at' m : Int)) = false := decide_eq_false (by omega)
              have q1n : decide (at' x < at' m) = false := decide_eq_false q1
              by_cases q2 : at' x = at' m
              · have q2i : ((at' x : Int) == (at' m : Int)) = true := by rw [q2]; simp
                have q2n : (at' x == at' m) = true := by rw [q2]; simp
                by_cases q3 : tn x < tn m
                · have q3i : (tn x : Int) < (tn m : Int) := by omega
                  have HP2 : Hid (Pace.pick ck ar at' tn (some m) x = some x) := by unfold Hid; rw [unhide HP, if_pos (.inr ⟨q2, q3⟩)]
                  clear q2 q1
                  go_wp2_with fail
                  go_quiet (fail)
                  go_wp2_with fail
                  go_quiet (fail)
                  go_wp2_with fail
                  go_roundg (xs.length - (k + 1))
                  case measure => rw [unhide HG]; omega
                  case rel => exact ⟨(unhide HC).drewN _, k + 1, by rw [unhide HST, unhide HP2]; rfl, by rw [unhide HST, unhide HP2]; intro m q; injection q with q; rw [← q]; exact unhide HMX, by go_num, rfl, by omega⟩
                · have q3i : decide ((tn x : Int) < (tn m : Int)) = false := decide_eq_false (by omega)
                  have q3n : decide (tn x < tn m) = false := decide_eq_false q3
                  have HP2 : Hid (Pace.pick ck ar at' tn (some m) x = some m) := by unfold Hid; rw [unhide HP, if_neg (by omega)]
                  clear q2 q1 q3
                  go_wp2_with fail
                  go_quiet (fail)
                  go_wp2_with fail
                  go_quiet (fail)
                  go_wp2_with fail
                  go_roundg (xs.length - (k + 1))
                  case measure => rw [unhide HG]; omega
                  case rel => exact ⟨(unhide HC).drewN _, k + 1, by rw [unhide HST, unhide HP2]; rfl, by rw [unhide HST, unhide HP2]; intro m q; injection q with q; rw [← q]; exact unhide HMM, by go_num, rfl, by omega⟩
              · have q2i : ((at' x : Int) == (at' m : Int)) = false := by simp; omega
                have q2n : (at' x == at' m) = false := by simp; omega
                have HP2 : Hid (Pace.pick ck ar at' tn (some m) x = some m) := by unfold Hid; rw [unhide HP, if_neg (by omega)]
                clear q2 q1
                go_wp2_with fail
                go_quiet (fail)
                go_wp2_with fail
                go_quiet (fail)
                go_wp2_with fail
                go_roundg (xs.length - (k + 1))
                case measure => rw [unhide HG]; omega
                case rel => exact ⟨(unhide HC).drewN _, k + 1, by rw [unhide HST, unhide HP2]; rfl, by rw [unhide HST, unhide HP2]; intro m q; injection q with q; rw [← q]; exact unhide HMM, by go_num, rfl, by omega⟩
    · have hki : ¬ ((k : Int) < (xs.length : Int)) := by omega
      have hke : k = xs.length := by omega
      have HE : Hid ((xs.take k).foldl (Pace.pick ck ar at' tn) none = xs.foldl (Pace.pick ck ar at' tn) none) := by unfold Hid; rw [List.take_of_length_le (by omega)]
      clear hm hke
      go_wp2_with fail
      go_ret
      exact ⟨by rw [unhide HE]; rfl, unhide HC⟩
end Go.Proofs.YtogdekjklbbbiaaGreatDoor
