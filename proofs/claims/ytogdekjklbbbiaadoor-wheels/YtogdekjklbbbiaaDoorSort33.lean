import Derived.Test.YtogdekjklbbbiaaDoorStab
import Derived.Laws.AppendOwn
import Derived.Laws.OwnMore
namespace Go.Proofs.YtogdekjklbbbiaaDoor
open Go.ChangeShapes Go.WideShapes Go.ChangeAt Go.RowKit
set_option linter.unusedSimpArgs false
set_option linter.unusedVariables false

def ptrs (d : List Nat) : List Value := d.map fun x => Value.pointer (some ⟨x, 0, none⟩)

set_option maxHeartbeats 1000000 in
theorem sort33_walk (a : Option Addr) (cap len : Nat) (w : World) (Post : World → Prop) (hl : len < 1152921504606846976)
    (hc : Calls Tryd.prog 91 #[.slice a len cap, .int .i64 (len : Int), .func (.func 74) #[] #[]] w fun e w' => e = .returned (.tuple #[]) ∧ Post w') :
    Calls Tryd.prog 73 #[.slice a len cap, .func (.func 74) #[] #[]] w fun e w' => e = .returned (.tuple #[]) ∧ Post w' := by
  have HC := hide hc; clear hc
  go_enter Tryd.func73, Tryd.ntmps73
  go_wp2_with fail
  refine (unhide HC).mono ?_
  rintro e w' ⟨rfl, hp⟩
  have HP := hide hp; clear hp
  go_wp2
  go_end0
  exact ⟨rfl, unhide HP⟩
set_option maxHeartbeats 1000000 in
theorem ins_none (w : World) (v : Value) : Calls Tryd.prog 101 #[.slice none 0 0, .int .i64 0, .int .i64 0, v] w fun e w' => e = .returned (.tuple #[]) ∧ w' = w := by
  go_enter Tryd.func101, Tryd.ntmps101
  go_wp2
  refine wp_loop_rounds 1 ?_
  rw [rounds_succ]
  go_wp2
  go_end0
  exact ⟨rfl, rfl⟩
set_option maxHeartbeats 1000000 in
theorem stable_none (w : World) (v : Value) : Calls Tryd.prog 91 #[.slice none 0 0, .int .i64 0, v] w fun e w' => e = .returned (.tuple #[]) ∧ w' = w := by
  go_enter Tryd.func91, Tryd.ntmps91
  go_wp2
  refine wp_loop_rounds 1 ?_
  rw [rounds_succ]
  go_wp2_with fail
  refine (ins_none w v).mono ?_
  rintro e w' ⟨rfl, rfl⟩
  go_wp2
  refine wp_loop_rounds 1 ?_
  rw [rounds_succ]
  go_wp2
  go_end0
  exact ⟨rfl, rfl⟩

/-- What the sort leaves: the row, sorted; nothing else has turned. -/
def DueOK (w w' : World) (n0 : Nat) (v : Value) (D : List Nat) : Prop :=
  (v = .slice none 0 0 ∧ D = [] ∧ w' = w) ∨ ∃ g cap, v = .slice (some ⟨g, 0, none⟩) D.length cap ∧ n0 ≤ g ∧ g < w.heap.size ∧ Ch w w' (fun a _ => a = g) ∧ RowL w' g D

theorem sort33 {n0 : Nat} {v : Value} {D0 : List Nat} {ats : Nat → Nat} {w : World} (hown : w.ownsRow n0 78 1 v D0.length (ptrs D0)) (hl : D0.length < 1152921504606846976) (hK : ∀ z ∈ D0, z < n0 ∧ w.cell? ⟨z, 3, none⟩ = some (.int .i64 (ats z : Int))) (HS : ∀ g cap, SymD g cap D0.length ats) :
    Calls Tryd.prog 73 #[v, .func (.func 74) #[] #[]] w fun e w' => e = .returned (.tuple #[]) ∧ ∃ D, Sorted ats D0 D ∧ DueOK w w' n0 v D := by
  rcases hown.2 with ⟨rfl, hn⟩ | ⟨g, cap, cur, rfl, h1, h2, h3, h4, h5, h6⟩
  · have hD : D0 = [] := List.eq_nil_of_length_eq_zero hn
    subst hD
    refine (sort33_walk none 0 0 w (fun w' => w' = w) (by omega) (stable_none w _)).mono ?_
    rintro e w' ⟨rfl, hw⟩
    exact ⟨rfl, [], ⟨rfl, List.Pairwise.nil, fun t => rfl⟩, .inl ⟨rfl, rfl, hw⟩⟩
  · have hg : g < w.heap.size := (Array.getElem?_eq_some_iff.1 h2).1
    have hrow : RowL w g D0 := by
      intro i x hx
      have hi := (List.getElem?_eq_some_iff.1 hx).1
      rw [hown.cellAt i (by omega)]
      simp [ptrs, hx]
    have hfz : ∀ o, w.frozen? ⟨g, o, none⟩ = false := fun o => hown.frozenAt o
    refine (sort33_walk _ cap _ w _ hl (stable_any g cap _ D0 ats w hrow rfl hl (fun z hz => ⟨by have := (hK z hz).1; omega, (hK z hz).2⟩) hfz (HS g cap))).mono ?_
    rintro e w' ⟨rfl, D, hD, hC, hR⟩
    exact ⟨rfl, D, hD, .inr ⟨g, cap, by rw [hD.len], h1, hg, hC, hR⟩⟩
end Go.Proofs.YtogdekjklbbbiaaDoor
