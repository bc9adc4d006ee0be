import Derived.Test.YtogdekjklbbbiaaGreatDoorRows
import Derived.Test.YtogdekjklbbbiaaGreatDoorCh
namespace Go.Proofs.YtogdekjklbbbiaaGreatDoor
open Go.ChangeShapes Go.WideShapes Go.ChangeAt Go.RowKit
set_option linter.unusedSimpArgs false
set_option linter.unusedVariables false

theorem links_any (x : Nat) (w : World) :
    Calls Tryz.prog 198 #[.pointer (some ⟨x, 0, none⟩)] w fun e w' => e = .returned (.pointer (some ⟨x, 0, none⟩)) ∧ w' = w := by
  go_enter Tryz.func198, Tryz.ntmps198
  go_wp2
  go_ret
  exact ⟨rfl, rfl⟩
theorem empty_nil (hb ho : Nat) (w : World) (h : LAt w hb ho []) :
    Calls Tryz.prog 70 #[.pointer (some ⟨hb, ho, none⟩)] w fun e w' => e = .returned (.bool true) ∧ w' = w := by
  have h1 : w.cell? ⟨hb, ho, none⟩ = some (.pointer none) := h.1
  clear h
  go_enter Tryz.func70, Tryz.ntmps70
  go_wp2
  go_ret
  exact ⟨rfl, rfl⟩
theorem empty_cons (hb ho x : Nat) (r : List Nat) (w : World) (h : LAt w hb ho (x :: r)) :
    Calls Tryz.prog 70 #[.pointer (some ⟨hb, ho, none⟩)] w fun e w' => e = .returned (.bool false) ∧ w' = w := by
  have h1 : w.cell? ⟨hb, ho, none⟩ = some (.pointer (some ⟨x, 0, none⟩)) := h.1
  clear h
  go_enter Tryz.func70, Tryz.ntmps70
  go_wp2
  go_ret
  exact ⟨rfl, rfl⟩
theorem cset (w : World) (b o b' o' : Nat) (v : Value) (h : (w.cell? ⟨b, o, none⟩).isSome = true) : (w.setCell ⟨b, o, none⟩ v).cell? ⟨b', o', none⟩ = if b' = b ∧ o' = o then some v else w.cell? ⟨b', o', none⟩ := by
  split
  · rename_i e
    obtain ⟨rfl, rfl⟩ := e
    obtain ⟨u, hu⟩ := Option.isSome_iff_exists.1 h
    exact World.cell?_setCell_same w _ _ hu
  · rename_i e
    refine World.cell?_setCell_other w _ _ _ ?_
    intro q
    injection q with q1 q2
    exact e ⟨q1.symm, q2.symm⟩
theorem cdrew (w : World) (a : Addr) : w.drew.cell? a = w.cell? a := rfl

def pushS (hb ho x : Nat) (xs : List Nat) (b o : Nat) : Prop := (b = hb ∧ (o = ho ∨ o = ho + 1)) ∨ (b = x ∧ o < 2) ∨ (xs.getLast? = some b ∧ o = 1)

theorem push_nil_post (hb ho x : Nat) (w : World) (hL : LAt w hb ho []) (hxb : x ≠ hb) (v0 v1 : Value) (k0 : w.cell? ⟨x, 0, none⟩ = some v0) (k1 : w.cell? ⟨x, 1, none⟩ = some v1) :
    LAt ((((w.setCell ⟨x, 0, none⟩ (.pointer none)).setCell ⟨x, 1, none⟩ (.pointer none)).setCell ⟨hb, ho, none⟩ (.pointer (some ⟨x, 0, none⟩))).setCell ⟨hb, ho + 1, none⟩ (.pointer (some ⟨x, 0, none⟩))).drew hb ho [x] ∧
    Ch w ((((w.setCell ⟨x, 0, none⟩ (.pointer none)).setCell ⟨x, 1, none⟩ (.pointer none)).setCell ⟨hb, ho, none⟩ (.pointer (some ⟨x, 0, none⟩))).setCell ⟨hb, ho + 1, none⟩ (.pointer (some ⟨x, 0, none⟩))).drew (pushS hb ho x []) := by
  have h1 := hL.1
  have h2 := hL.2.1
  have hxb' : hb ≠ x := fun e => hxb e.symm
  refine ⟨⟨?_, ?_, ?_, ?_, trivial⟩, ?_⟩
  · simp [cset, ↓isSome_set, PV, h1, h2, k0, k1]
  · simp [cset, ↓isSome_set, PV, h1, h2, k0, k1]
  · simp [cset, ↓isSome_set, PV, hxb, h1, h2, k0, k1]
  · simp [cset, ↓isSome_set, PV, hxb, h1, h2, k0, k1]
  · exact ((((Ch.refl _ _).setCell (.inr (.inl ⟨rfl, by omega⟩)) _).setCell (.inr (.inl ⟨rfl, by omega⟩)) _).setCell (.inl ⟨rfl, .inl rfl⟩) _).setCell (.inl ⟨rfl, .inr rfl⟩) _ |>.drew

theorem push_cons_post (hb ho x y : Nat) (l : List Nat) (w : World) (hL : LAt w hb ho (l ++ [y])) (hd : (l ++ [y]).Nodup) (hx : x ∉ l ++ [y]) (hxb : x ≠ hb) (hyb : y ≠ hb) (hlb : ∀ z ∈ l, z ≠ hb)
    (v0 v1 : Value) (k0 : w.cell? ⟨x, 0, none⟩ = some v0) (k1 : w.cell? ⟨x, 1, none⟩ = some v1) :
    LAt ((((w.setCell ⟨x, 0, none⟩ (.pointer (some ⟨y, 0, none⟩))).setCell ⟨x, 1, none⟩ (.pointer none)).setCell ⟨y, 1, none⟩ (.pointer (some ⟨x, 0, none⟩))).setCell ⟨hb, ho + 1, none⟩ (.pointer (some ⟨x, 0, none⟩))).drew hb ho (l ++ [y] ++ [x]) ∧
    Ch w ((((w.setCell ⟨x, 0, none⟩ (.pointer (some ⟨y, 0, none⟩))).setCell ⟨x, 1, none⟩ (.pointer none)).setCell ⟨y, 1, none⟩ (.pointer (some ⟨x, 0, none⟩))).setCell ⟨hb, ho + 1, none⟩ (.pointer (some ⟨x, 0, none⟩))).drew (pushS hb ho x (l ++ [y])) := by
  obtain ⟨h1, h2, h3⟩ := hL
  have hxb' : hb ≠ x := fun e => hxb e.symm
  have hyb' : hb ≠ y := fun e => hyb e.symm
  have hxy : x ≠ y := fun e => hx (by simp [e])
  have hxl : ∀ z ∈ l, z ≠ x := fun z hz e => hx (by simp [← e, hz])
  have hyl : ∀ z ∈ l, z ≠ y := by
    intro z hz e
    simp [List.nodup_append] at hd
    exact hd.2 z hz e
  have hy1 : w.cell? ⟨y, 1, none⟩ = some (PV none) := ((seg_append _ l [y] none none).1 h3).2.2.1
  refine ⟨⟨?_, ?_, ?_⟩, ?_⟩
  · have e : (l ++ [y] ++ [x]).head? = (l ++ [y]).head? := by cases l <;> rfl
    simp [cset, ↓isSome_set, hxb', hyb', h1, h2, k0, k1, hy1, ← e]
  · simp [cset, ↓isSome_set, h2, k0, k1, hy1, PV]
  · refine seg_push (c := fun b o => w.cell? ⟨b, o, none⟩) (l ++ [y]) x h3 hd ?_ ?_ ?_ ?_ ?_
    · intro z hz
      have hzx : z ≠ x := fun e => hx (e ▸ hz)
      have hzb : z ≠ hb := by
        rcases List.mem_append.1 hz with h | h
        · exact hlb z h
        · simp at h; rw [h]; exact hyb
      simp [cset, ↓isSome_set, hzx, hzb, h2, k0, k1, hy1]
    · intro z hz hl
      have hzx : z ≠ x := fun e => hx (e ▸ hz)
      have hzb : z ≠ hb := by
        rcases List.mem_append.1 hz with h | h
        · exact hlb z h
        · simp at h; rw [h]; exact hyb
      have hzy : z ≠ y := fun e => hl (by simp [e])
      simp [cset, ↓isSome_set, hzx, hzb, hzy, h2, k0, k1, hy1]
    · intro z hz
      have e : z = y := by simpa using hz.symm
      subst e
      simp [cset, ↓isSome_set, hyb, h2, k0, k1, hy1, PV]
    · simp [cset, ↓isSome_set, hxb, hxy, h2, k0, k1, hy1, PV]
    · simp [cset, ↓isSome_set, hxb, hxy, h2, k0, k1, hy1, PV]
  · exact ((((Ch.refl _ _).setCell (.inr (.inl ⟨rfl, by omega⟩)) _).setCell (.inr (.inl ⟨rfl, by omega⟩)) _).setCell (.inr (.inr ⟨by simp, rfl⟩)) _).setCell (.inl ⟨rfl, .inr rfl⟩) _ |>.drew

set_option maxHeartbeats 1000000 in
theorem push_nil (hb ho x : Nat) (w : World) (hL : LAt w hb ho []) (hxb : x ≠ hb) (fb : ∀ o, w.frozen? ⟨hb, o, none⟩ = false) (fx : ∀ o, w.frozen? ⟨x, o, none⟩ = false)
    (v0 v1 : Value) (k0 : w.cell? ⟨x, 0, none⟩ = some v0) (k1 : w.cell? ⟨x, 1, none⟩ = some v1) :
    Calls Tryz.prog 156 #[.pointer (some ⟨hb, ho, none⟩), .pointer (some ⟨x, 0, none⟩)] w fun e w' => e = .returned (.tuple #[]) ∧ LAt w' hb ho [x] ∧ Ch w w' (pushS hb ho x []) := by
  have hpost := hide (push_nil_post hb ho x w hL hxb v0 v1 k0 k1)
  have h1 : w.cell? ⟨hb, ho, none⟩ = some (.pointer none) := hL.1
  have h2 : w.cell? ⟨hb, ho + 1, none⟩ = some (.pointer none) := hL.2.1
  have f1 := fb ho; have f2 := fb (ho + 1); have f3 := fx 0; have f4 := fx 1
  clear hL fb fx
  have hxb' : hb ≠ x := fun e => hxb e.symm
  go_enter Tryz.func156, Tryz.ntmps156
  go_wp2
  go_region_with (go_at_call 198; refine (links_any x _).mono ?_; rintro e w' ⟨rfl, rfl⟩)
  all_goals (go_wp2; go_end0; exact ⟨rfl, unhide hpost⟩)

set_option maxHeartbeats 1000000 in
theorem push_cons (hb ho x y : Nat) (l : List Nat) (w : World) (hL : LAt w hb ho (l ++ [y])) (hd : (l ++ [y]).Nodup) (hx : x ∉ l ++ [y]) (hxb : x ≠ hb) (hyb : y ≠ hb) (hlb : ∀ z ∈ l, z ≠ hb) (fb : ∀ o, w.frozen? ⟨hb, o, none⟩ = false) (fx : ∀ o, w.frozen? ⟨x, o, none⟩ = false) (fy : ∀ o, w.frozen? ⟨y, o, none⟩ = false)
    (v0 v1 : Value) (k0 : w.cell? ⟨x, 0, none⟩ = some v0) (k1 : w.cell? ⟨x, 1, none⟩ = some v1) :
    Calls Tryz.prog 156 #[.pointer (some ⟨hb, ho, none⟩), .pointer (some ⟨x, 0, none⟩)] w fun e w' => e = .returned (.tuple #[]) ∧ LAt w' hb ho (l ++ [y] ++ [x]) ∧ Ch w w' (pushS hb ho x (l ++ [y])) := by
  have hpost := hide (push_cons_post hb ho x y l w hL hd hx hxb hyb hlb v0 v1 k0 k1)
  obtain ⟨H1, H2, H3⟩ := hL
  obtain ⟨o1, hh1⟩ : ∃ o, PV (l ++ [y]).head? = .pointer o := ⟨_, rfl⟩
  have h1 : w.cell? ⟨hb, ho, none⟩ = some (.pointer o1) := by rw [H1, hh1]
  have h2 : w.cell? ⟨hb, ho + 1, none⟩ = some (.pointer (some ⟨y, 0, none⟩)) := by rw [H2]; simp [PV]
  have f1 := fb ho; have f2 := fb (ho + 1); have f3 := fx 0; have f4 := fx 1; have f5 := fy 1
  have hy1 : w.cell? ⟨y, 1, none⟩ = some (.pointer none) := ((seg_append _ l [y] none none).1 H3).2.2.1
  have hxy : x ≠ y := fun e => hx (by simp [e])
  have hxy' : y ≠ x := fun e => hxy e.symm
  have hxb' : hb ≠ x := fun e => hxb e.symm
  have hyb' : hb ≠ y := fun e => hyb e.symm
  clear fb fx fy H1 H2 H3 hd hx hlb hh1
  go_enter Tryz.func156, Tryz.ntmps156
  go_wp2
  go_region_with (go_at_call 198; refine (links_any x _).mono ?_; rintro e w' ⟨rfl, rfl⟩)
  all_goals (go_wp2; go_end0; exact ⟨rfl, unhide hpost⟩)

theorem push_any (hb ho x : Nat) (xs : List Nat) (w : World) (hL : LAt w hb ho xs) (hd : xs.Nodup) (hx : x ∉ xs) (hxb : x ≠ hb) (hlb : ∀ z ∈ xs, z ≠ hb) (fb : ∀ o, w.frozen? ⟨hb, o, none⟩ = false) (fx : ∀ o, w.frozen? ⟨x, o, none⟩ = false) (fy : ∀ z ∈ xs, ∀ o, w.frozen? ⟨z, o, none⟩ = false)
    (v0 v1 : Value) (k0 : w.cell? ⟨x, 0, none⟩ = some v0) (k1 : w.cell? ⟨x, 1, none⟩ = some v1) :
    Calls Tryz.prog 156 #[.pointer (some ⟨hb, ho, none⟩), .pointer (some ⟨x, 0, none⟩)] w fun e w' => e = .returned (.tuple #[]) ∧ LAt w' hb ho (xs ++ [x]) ∧ Ch w w' (pushS hb ho x xs) := by
  rcases List.eq_nil_or_concat xs with e | ⟨l, y, e⟩
  · subst e; exact push_nil hb ho x w hL hxb fb fx v0 v1 k0 k1
  · have e' : xs = l ++ [y] := by simpa using e
    subst e'
    exact push_cons hb ho x y l w hL hd hx hxb (hlb y (by simp)) (fun z hz => hlb z (by simp [hz])) fb fx (fy y (by simp)) v0 v1 k0 k1
end Go.Proofs.YtogdekjklbbbiaaGreatDoor
