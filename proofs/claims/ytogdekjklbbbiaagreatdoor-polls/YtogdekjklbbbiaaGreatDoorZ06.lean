import Derived.Test.YtogdekjklbbbiaaGreatDoorPush
import Derived.Test.YtogdekjklbbbiaaGreatDoorSpec
import Derived.Deep.LoopGhost
import Derived.Test.YtogdekjklbbbiaaGreatDoorZ02
set_option maxRecDepth 100000
namespace Go.Proofs.YtogdekjklbbbiaaGreatDoor
open Go.ChangeShapes Go.WideShapes Go.ChangeAt Go.RowKit
set_option linter.unusedSimpArgs false
set_option linter.unusedVariables false

theorem wrapI {v : Int} (h : -9223372036854775808 ≤ v) (h' : v < 9223372036854775808) : IntKind.i64.wrap v = v := by rw [IntKind.wrap_i64]; omega
set_option maxHeartbeats 1000000 in
theorem start_walk (x : Nat) (r b ck : Int) (v1 v2 v3 v4 : Value) (w : World) (hb0 : 0 ≤ b) (hb1 : b ≤ 1000000)
    (h1 : w.cell? ⟨x, 1, none⟩ = some v1) (h2 : w.cell? ⟨x, 2, none⟩ = some v2) (h3 : w.cell? ⟨x, 3, none⟩ = some v3) (h4 : w.cell? ⟨x, 4, none⟩ = some v4) (hf : ∀ o, w.frozen? ⟨x, o, none⟩ = false) :
    Calls Tryz.prog 62 #[.pointer (some ⟨x, 0, none⟩), .int .i64 r, .int .i64 b, .int .i64 ck] w fun e w' => e = .returned (.tuple #[]) ∧ Ch w w' (fun a o => a = x ∧ 1 ≤ o ∧ o ≤ 4) ∧
      w'.cell? ⟨x, 1, none⟩ = some (.int .i64 r) ∧ w'.cell? ⟨x, 2, none⟩ = some (.int .i64 b) ∧ w'.cell? ⟨x, 3, none⟩ = some (.int .i64 (b * 1000000000)) ∧ w'.cell? ⟨x, 4, none⟩ = some (.int .i64 ck) := by
  have f1 := hf 1; have f2 := hf 2; have f3 := hf 3; have f4 := hf 4
  have W1 := hide (wrapI (v := b * 1000000000) (by omega) (by omega))
  clear hf
  go_enter Tryz.func62, Tryz.ntmps62
  go_wp2_with fail
  all_goals go_end0
  all_goals try rw [unhide W1]
  all_goals refine ⟨rfl, ?_, ?_, ?_, ?_, ?_⟩
  · repeat (first | exact Ch.refl _ _ | refine Ch.drew ?_ | refine Ch.setCell ?_ ⟨rfl, by omega, by omega⟩ _)
  all_goals simp [cset, ↓isSome_set, h1, h2, h3, h4]
set_option maxHeartbeats 1000000 in
theorem change_walk (x : Nat) (r b l ck c1 : Int) (w : World) (R : World → Prop) (hl0 : 0 ≤ l) (hl1 : l ≤ 1000000)
    (hA : Calls Tryz.prog 110 #[.pointer (some ⟨x, 0, none⟩), .int .i64 ck] w fun e w' => e = .returned (.tuple #[]) ∧ R w')
    (hR : ∀ w1, R w1 → (∃ v, w1.cell? ⟨x, 1, none⟩ = some v) ∧ (∃ v, w1.cell? ⟨x, 2, none⟩ = some v) ∧ w1.cell? ⟨x, 3, none⟩ = some (.int .i64 c1) ∧ ∀ o, w1.frozen? ⟨x, o, none⟩ = false) :
    Calls Tryz.prog 63 #[.pointer (some ⟨x, 0, none⟩), .int .i64 r, .int .i64 b, .int .i64 l, .int .i64 ck] w fun e w' => e = .returned (.tuple #[]) ∧ ∃ w1, R w1 ∧ Ch w1 w' (fun a o => a = x ∧ 1 ≤ o ∧ o ≤ 3) ∧
      w'.cell? ⟨x, 1, none⟩ = some (.int .i64 r) ∧ w'.cell? ⟨x, 2, none⟩ = some (.int .i64 b) ∧ w'.cell? ⟨x, 3, none⟩ = some (.int .i64 (min c1 (l * 1000000000))) := by
  have HA := hide hA; have HR := hide hR
  have W1 := hide (wrapI (v := l * 1000000000) (by omega) (by omega))
  clear hA hR
  go_enter Tryz.func63, Tryz.ntmps63
  go_wp2_with fail
  refine (unhide HA).mono ?_
  rintro e w1 ⟨rfl, hw1⟩
  obtain ⟨⟨v1, h1⟩, ⟨v2, h2⟩, h3, hf⟩ := unhide HR w1 hw1
  have HW := hide hw1
  have f1 := hf 1; have f2 := hf 2; have f3 := hf 3
  clear hw1 hf
  go_wp2_with fail
  all_goals go_end0
  all_goals refine ⟨rfl, w1, unhide HW, ?_, ?_, ?_, ?_⟩
  all_goals first
    | (simp [cset, ↓isSome_set, h1, h2, h3]; done)
    | (simp [cset, ↓isSome_set, h1, h2, h3]; omega)
    | (repeat (first | exact Ch.refl _ _ | refine Ch.drew ?_ | refine Ch.setCell ?_ ⟨rfl, by omega, by omega⟩ _))
/-- What live answers. -/
def liveV (o : Option Nat) : Value := .tuple #[.pointer (o.map fun x => ⟨x, 0, none⟩), .int .i64 (if o.isSome then 0 else 5)]
set_option maxHeartbeats 1000000 in
theorem live_walk (b g cap : Nat) (xs : List Nat) (num : Nat → Int) (n : Int) (fv : Value) (w : World)
    (h3 : w.cell? ⟨b, 3, none⟩ = some fv) (h15 : w.cell? ⟨b, 15, none⟩ = some (.bool false)) (hfv : fv = .slice none 0 0 ∧ xs = [] ∨ fv = .slice (some ⟨g, 0, none⟩) xs.length cap) (hlen : xs.length ≤ 8)
    (hrow : ∀ k x, xs[k]? = some x → w.cell? ⟨g, k, none⟩ = some (.pointer (some ⟨x, 0, none⟩))) (hnum : ∀ x ∈ xs, w.cell? ⟨x, 0, none⟩ = some (.int .i64 (num x))) :
    Calls Tryz.prog 68 #[.pointer (some ⟨b, 0, none⟩), .int .i64 n] w fun e w' => w' = w ∧
      e = .returned (liveV (xs.find? fun x => decide (num x = n))) := by
  have HR := hide hrow; have HN := hide hnum; have HF := hide hfv
  clear hrow hnum hfv
  have hfv2 : ∃ a cp, fv = .slice a xs.length cp ∧ ∀ k x, xs[k]? = some x → ∃ g, a = some ⟨g, 0, none⟩ ∧ w.cell? ⟨g, k, none⟩ = some (.pointer (some ⟨x, 0, none⟩)) := by
    rcases unhide HF with ⟨q1, q2⟩ | q
    · exact ⟨none, 0, by rw [q1, q2]; rfl, fun k x hx => by rw [q2] at hx; simp at hx⟩
    · exact ⟨_, cap, q, fun k x hx => ⟨g, rfl, unhide HR k x hx⟩⟩
  obtain ⟨a3, cap3, hu3, hrd⟩ := hfv2
  have HRD := hide hrd
  clear hrd HR HF
  rw [hu3] at h3
  go_enter Tryz.func68, Tryz.ntmps68
  go_wp2_with fail
  go_loopg [7, 17] xs.length (fun gk v i wr => wr = w ∧ ∃ k : Nat, i = .int .i64 (k : Int) ∧ gk = xs.length - k ∧ k ≤ xs.length ∧ ∀ x ∈ xs.take k, num x ≠ n)
  case atStart => exact ⟨rfl, 0, rfl, rfl, Nat.zero_le _, by simp⟩
  case round =>
    obtain ⟨hwr, k, hu, hgk, hkl, hno⟩ := hrel
    rw [hu, hwr]
    clear hu hwr
    by_cases hk : k < xs.length
    · obtain ⟨g', ha3, hg3⟩ := unhide HRD k xs[k] (List.getElem?_eq_getElem hk)
      have hki : (k : Int) < (xs.length : Int) := by omega
      have hk0 : (0 : Int) ≤ (k : Int) := by omega
      have hnx := unhide HN xs[k] (List.getElem_mem hk)
      generalize hx : xs[k] = x at hg3 hnx
      have HX := hide hx; have HNO := hide hno; have HGK := hide hgk
      clear hx hno hgk
      subst ha3
      by_cases he : num x = n
      · go_wp2_with fail
        go_ret2
        refine ⟨rfl, ?_⟩
        have hf : xs.find? (fun x => decide (num x = n)) = some x := by
          rw [← List.take_append_drop k xs, List.find?_append, List.find?_eq_none.2 (fun z hz => by simpa using unhide HNO z hz), List.drop_eq_getElem_cons hk, unhide HX, List.find?_cons, show decide (num x = n) = true by simpa using he]
          rfl
        rw [hf]
        rfl
      · go_wp2_with fail
        go_roundg (xs.length - (k + 1))
        case measure => rw [unhide HGK]; omega
        case rel =>
          refine ⟨rfl, k + 1, by go_num, rfl, by omega, ?_⟩
          intro z hz
          rw [List.take_add_one, List.getElem?_eq_getElem hk, unhide HX] at hz
          simp at hz
          rcases hz with hz | rfl
          · exact unhide HNO z hz
          · exact he
    · have hki : ¬ ((k : Int) < (xs.length : Int)) := by omega
      have hke : (k : Int) = (xs.length : Int) := by omega
      have HNO := hide hno
      clear hno
      go_wp2_with fail
      go_ret2
      refine ⟨rfl, ?_⟩
      have hf : xs.find? (fun x => decide (num x = n)) = none := List.find?_eq_none.2 (fun z hz => by
        have := unhide HNO z (by rw [List.take_of_length_le (by omega)]; exact hz)
        simpa using this)
      rw [hf]
      rfl
end Go.Proofs.YtogdekjklbbbiaaGreatDoor

namespace Go.Proofs.YtogdekjklbbbiaaGreatDoor
open Go.ChangeShapes Go.WideShapes Go.ChangeAt Go.RowKit
set_option linter.unusedSimpArgs false
set_option linter.unusedVariables false

set_option maxHeartbeats 1000000 in
theorem rflow_walk (b g cap : Nat) (xs : List Nat) (num : Nat → Int) (n : Int) (fv : Value) (w : World)
    (h3 : w.cell? ⟨b, 3, none⟩ = some fv) (hfv : fv = .slice none 0 0 ∧ xs = [] ∨ fv = .slice (some ⟨g, 0, none⟩) xs.length cap) (hlen : xs.length ≤ 8)
    (hrow : ∀ k x, xs[k]? = some x → w.cell? ⟨g, k, none⟩ = some (.pointer (some ⟨x, 0, none⟩))) (hnum : ∀ x ∈ xs, w.cell? ⟨x, 0, none⟩ = some (.int .i64 (num x))) :
    Calls Tryz.prog 76 #[.pointer (some ⟨b, 0, none⟩), .int .i64 n] w fun e w' => w' = w ∧
      e = .returned (.pointer ((xs.find? fun x => decide (num x = n)).map fun x => ⟨x, 0, none⟩)) := by
  have HR := hide hrow; have HN := hide hnum; have HF := hide hfv
  clear hrow hnum hfv
  have hfv2 : ∃ a cp, fv = .slice a xs.length cp ∧ ∀ k x, xs[k]? = some x → ∃ g, a = some ⟨g, 0, none⟩ ∧ w.cell? ⟨g, k, none⟩ = some (.pointer (some ⟨x, 0, none⟩)) := by
    rcases unhide HF with ⟨q1, q2⟩ | q
    · exact ⟨none, 0, by rw [q1, q2]; rfl, fun k x hx => by rw [q2] at hx; simp at hx⟩
    · exact ⟨_, cap, q, fun k x hx => ⟨g, rfl, unhide HR k x hx⟩⟩
  obtain ⟨a3, cap3, hu3, hrd⟩ := hfv2
  have HRD := hide hrd
  clear hrd HR HF
  rw [hu3] at h3
  go_enter Tryz.func76, Tryz.ntmps76
  go_wp2_with fail
  go_loopg [5] xs.length (fun gk i wr => wr = w ∧ ∃ k : Nat, i = .int .i64 (k : Int) ∧ gk = xs.length - k ∧ k ≤ xs.length ∧ ∀ x ∈ xs.take k, num x ≠ n)
  case atStart => exact ⟨rfl, 0, rfl, rfl, Nat.zero_le _, by simp⟩
  case round =>
    obtain ⟨hwr, k, hu, hgk, hkl, hno⟩ := hrel
    rw [hu, hwr]
    clear hu hwr
    by_cases hk : k < xs.length
    · obtain ⟨g', ha3, hg3⟩ := unhide HRD k xs[k] (List.getElem?_eq_getElem hk)
      have hki : (k : Int) < (xs.length : Int) := by omega
      have hk0 : (0 : Int) ≤ (k : Int) := by omega
      have hnx := unhide HN xs[k] (List.getElem_mem hk)
      generalize hx : xs[k] = x at hg3 hnx
      have HX := hide hx; have HNO := hide hno; have HGK := hide hgk
      clear hx hno hgk
      subst ha3
      by_cases he : num x = n
      · go_wp2_with fail
        go_ret
        refine ⟨rfl, ?_⟩
        have hf : xs.find? (fun x => decide (num x = n)) = some x := by
          rw [← List.take_append_drop k xs, List.find?_append, List.find?_eq_none.2 (fun z hz => by simpa using unhide HNO z hz), List.drop_eq_getElem_cons hk, unhide HX, List.find?_cons, show decide (num x = n) = true by simpa using he]
          rfl
        rw [hf]
        rfl
      · go_wp2_with fail
        go_roundg (xs.length - (k + 1))
        case measure => rw [unhide HGK]; omega
        case rel =>
          refine ⟨rfl, k + 1, by go_num, rfl, by omega, ?_⟩
          intro z hz
          rw [List.take_add_one, List.getElem?_eq_getElem hk, unhide HX] at hz
          simp at hz
          rcases hz with hz | rfl
          · exact unhide HNO z hz
          · exact he
    · have hki : ¬ ((k : Int) < (xs.length : Int)) := by omega
      have hke : (k : Int) = (xs.length : Int) := by omega
      have HNO := hide hno
      clear hno
      go_wp2_with fail
      go_ret
      refine ⟨rfl, ?_⟩
      have hf : xs.find? (fun x => decide (num x = n)) = none := List.find?_eq_none.2 (fun z hz => by
        have := unhide HNO z (by rw [List.take_of_length_le (by omega)]; exact hz)
        simpa using this)
      rw [hf]
      rfl

/-- The document's test of a rate and a burst. -/
theorem good_walk (r b : Int) (w : World) : Calls Tryz.prog 74 #[.int .i64 r, .int .i64 b] w fun e w' => e = .returned (.bool (decide (Pace.allowed r b))) ∧ w' = w := by
  by_cases h1 : 0 ≤ r
  · by_cases h2 : r ≤ 1000000000
    · by_cases h3 : 1500 ≤ b
      · by_cases h4 : b ≤ 1000000
        · have hd : decide (Pace.allowed r b) = true := decide_eq_true ⟨h1, h2, h3, h4⟩
          rw [hd]
          go_enter Tryz.func74, Tryz.ntmps74
          go_wp2_with fail
          go_ret
          exact ⟨rfl, rfl⟩
        · have hd : decide (Pace.allowed r b) = false := decide_eq_false fun h => h4 h.2.2.2
          rw [hd]
          go_enter Tryz.func74, Tryz.ntmps74
          go_wp2_with fail
          go_ret
          exact ⟨rfl, rfl⟩
      · have hd : decide (Pace.allowed r b) = false := decide_eq_false fun h => h3 h.2.2.1
        rw [hd]
        go_enter Tryz.func74, Tryz.ntmps74
        go_wp2_with fail
        go_ret
        exact ⟨rfl, rfl⟩
    · have hd : decide (Pace.allowed r b) = false := decide_eq_false fun h => h2 h.2.1
      rw [hd]
      go_enter Tryz.func74, Tryz.ntmps74
      go_wp2_with fail
      go_ret
      exact ⟨rfl, rfl⟩
  · have hd : decide (Pace.allowed r b) = false := decide_eq_false fun h => h1 h.1
    rw [hd]
    go_enter Tryz.func74, Tryz.ntmps74
    go_wp2_with fail
    go_ret
    exact ⟨rfl, rfl⟩
end Go.Proofs.YtogdekjklbbbiaaGreatDoor
