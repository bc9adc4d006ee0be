import Derived.Test.YtogdekjklbbbiaaDoorRem
namespace Go.Proofs.YtogdekjklbbbiaaDoor
open Go.ChangeShapes Go.WideShapes Go.ChangeAt Go.RowKit
set_option linter.unusedSimpArgs false
set_option linter.unusedVariables false

theorem remove_any (hb ho x : Nat) (l r : List Nat) (w : World) (hL : LAt w hb ho (l ++ x :: r)) (hd : (l ++ x :: r).Nodup) (hlb : ∀ q ∈ l ++ x :: r, q ≠ hb) (fz : ∀ q ∈ hb :: (l ++ x :: r), ∀ o, w.frozen? ⟨q, o, none⟩ = false) :
    Calls Tryd.prog 89 #[.pointer (some ⟨hb, ho, none⟩), .pointer (some ⟨x, 0, none⟩)] w fun e w' => e = .returned (.tuple #[]) ∧ LAt w' hb ho (l ++ r) ∧ Ch w w' (remS hb ho x l r) := by
  rcases List.eq_nil_or_concat l with e | ⟨k, y, e⟩
  · subst e
    cases r with
    | nil => exact rem_nn hb ho x w hL hd hlb fz
    | cons z s => exact rem_nc hb ho x z s w hL hd hlb fz
  · have e' : l = k ++ [y] := by simpa using e
    subst e'
    cases r with
    | nil => exact rem_cn hb ho x y k w hL hd hlb fz
    | cons z s => exact rem_cc hb ho x y z k s w hL hd hlb fz

set_option maxHeartbeats 1000000 in
theorem pop_any (hb ho x : Nat) (r : List Nat) (w : World) (hL : LAt w hb ho (x :: r)) (hd : (x :: r).Nodup) (hlb : ∀ q ∈ x :: r, q ≠ hb) (fz : ∀ q ∈ hb :: (x :: r), ∀ o, w.frozen? ⟨q, o, none⟩ = false) :
    Calls Tryd.prog 72 #[.pointer (some ⟨hb, ho, none⟩)] w fun e w' => e = .returned (.pointer (some ⟨x, 0, none⟩)) ∧ LAt w' hb ho r ∧ Ch w w' (remS hb ho x [] r) := by
  have hc := hide (remove_any hb ho x [] r w hL hd hlb fz)
  have h1 : w.cell? ⟨hb, ho, none⟩ = some (.pointer (some ⟨x, 0, none⟩)) := hL.1
  clear hL hd hlb fz
  go_enter Tryd.func72, Tryd.ntmps72
  go_wp2_with fail
  refine (unhide hc).mono ?_
  rintro e w' ⟨rfl, h2, h3⟩
  have H2 := hide h2; have H3 := hide h3
  clear h2 h3
  go_wp2
  go_ret
  exact ⟨rfl, unhide H2, unhide H3⟩
end Go.Proofs.YtogdekjklbbbiaaDoor
