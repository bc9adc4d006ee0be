import Derived.Test.YtogdekjklbbbiaaDoorSlot
import Derived.Test.YtogdekjklbbbiaaDoorPop
import Derived.Test.YtogdekjklbbbiaaDoorBits
namespace Go.Proofs.YtogdekjklbbbiaaDoor
open Go.ChangeShapes Go.WideShapes Go.ChangeAt Go.RowKit
set_option linter.unusedSimpArgs false
set_option linter.unusedVariables false

def upd {α : Type} (f : Nat → α) (p : Nat) (v : α) : Nat → α := fun q => if q = p then v else f q
theorem upd_same {α : Type} (f : Nat → α) (p : Nat) (v : α) : upd f p v p = v := by simp [upd]
theorem upd_other {α : Type} (f : Nat → α) {p q : Nat} (v : α) (h : q ≠ p) : upd f p v q = f q := by simp [upd, h]

/-- A wheel in memory: its block b, its map's block m, the blocks that are its own, its time, its lists (0: over; 1 + 64 l + s: slot s of level l), its masks. -/
structure WM (w : World) (b m : Nat) (O : Nat → Prop) (now : Nat) (ls : Nat → List Nat) (us : Nat → Nat) (ids ats : Nat → Nat) : Prop where
  olt : ∀ k, O k → k < w.heap.size
  ob : O b
  om : O m
  bm : b ≠ m
  ox : ∀ p, p < 705 → ∀ x ∈ ls p, O x ∧ x ≠ b ∧ x ≠ m
  nowlt : now < 9223372036854775808
  cnow : w.cell? ⟨b, 0, none⟩ = some (.int .i64 (now : Int))
  cmap : w.cell? ⟨b, 1, none⟩ = some (.map (some m))
  cl : ∀ p, p < 705 → LAt w b (2 + 2 * p) (ls p)
  cu : ∀ l, l < 11 → w.cell? ⟨b, 1412 + l, none⟩ = some (.int .u64 (us l : Int))
  fz : ∀ k, O k → ∀ o, w.frozen? ⟨k, o, none⟩ = false
  cw : ∀ p, p < 705 → ∀ x ∈ ls p, w.cell? ⟨x, 2, none⟩ = some (.int .i64 (ids x : Int)) ∧ w.cell? ⟨x, 3, none⟩ = some (.int .i64 (ats x : Int)) ∧ ids x < 9223372036854775808 ∧ ats x < 9223372036854775808
  nd : ∀ p, p < 705 → (ls p).Nodup
  dj : ∀ p q x, p < 705 → q < 705 → x ∈ ls p → x ∈ ls q → p = q

/-- Only the links and the header of list p have turned. -/
def ownS (b p : Nat) (xs : List Nat) (a o : Nat) : Prop := (a = b ∧ (o = 2 + 2 * p ∨ o = 2 + 2 * p + 1)) ∨ (a ∈ xs ∧ o < 2)

theorem WM.step {w w' : World} {b m : Nat} {O : Nat → Prop} {now : Nat} {ls : Nat → List Nat} {us ids ats : Nat → Nat} (h : WM w b m O now ls us ids ats) {p : Nat} (hp : p < 705) {xs ys : List Nat}
    (hc : Ch w w' (ownS b p xs)) (hL : LAt w' b (2 + 2 * p) ys) (hys : ys.Nodup) (hyx : ∀ y ∈ ys, y ∈ xs)
    (hxo : ∀ x ∈ xs, O x ∧ x ≠ b ∧ x ≠ m) (hxd : ∀ x ∈ xs, ∀ q, q < 705 → q ≠ p → x ∉ ls q)
    (hxw : ∀ x ∈ ys, w.cell? ⟨x, 2, none⟩ = some (.int .i64 (ids x : Int)) ∧ w.cell? ⟨x, 3, none⟩ = some (.int .i64 (ats x : Int)) ∧ ids x < 9223372036854775808 ∧ ats x < 9223372036854775808) :
    WM w' b m O now (upd ls p ys) us ids ats := by
  have hbx : b ∉ xs := fun e => (hxo b e).2.1 rfl
  refine ⟨fun k hk => by rw [hc.size]; exact h.olt k hk, h.ob, h.om, h.bm, ?_, h.nowlt, ?_, ?_, ?_, ?_, ?_, ?_, ?_, ?_⟩
  · intro q hq x hx
    by_cases e : q = p
    · subst e; rw [upd_same] at hx; exact hxo x (hyx x hx)
    · rw [upd_other _ _ e] at hx; exact h.ox q hq x hx
  · rw [hc.cell _ _ (by rintro (⟨_, e⟩ | ⟨e, _⟩); omega; exact hbx e)]; exact h.cnow
  · rw [hc.cell _ _ (by rintro (⟨_, e⟩ | ⟨e, _⟩); omega; exact hbx e)]; exact h.cmap
  · intro q hq
    by_cases e : q = p
    · subst e; rw [upd_same]; exact hL
    · rw [upd_other _ _ e]
      refine (h.cl q hq).congr (hc.cell _ _ (by rintro (⟨_, e'⟩ | ⟨e', _⟩); omega; exact hbx e')) (hc.cell _ _ (by rintro (⟨_, e'⟩ | ⟨e', _⟩); omega; exact hbx e')) ?_
      intro x hx
      have hxn : x ∉ xs := fun hx' => hxd x hx' q hq e hx
      have hxb : x ≠ b := (h.ox q hq x hx).2.1
      exact ⟨hc.cell _ _ (by rintro (⟨e', _⟩ | ⟨e', _⟩); exact hxb e'; exact hxn e'), hc.cell _ _ (by rintro (⟨e', _⟩ | ⟨e', _⟩); exact hxb e'; exact hxn e')⟩
  · intro l hl
    rw [hc.cell _ _ (by rintro (⟨_, e⟩ | ⟨e, _⟩); omega; exact hbx e)]; exact h.cu l hl
  · intro k hk o
    rw [hc.fz]; exact h.fz k hk o
  · intro q hq x hx
    have k : w.cell? ⟨x, 2, none⟩ = some (.int .i64 (ids x : Int)) ∧ w.cell? ⟨x, 3, none⟩ = some (.int .i64 (ats x : Int)) ∧ ids x < 9223372036854775808 ∧ ats x < 9223372036854775808 := by
      by_cases e : q = p
      · subst e; rw [upd_same] at hx; exact hxw x hx
      · rw [upd_other _ _ e] at hx; exact h.cw q hq x hx
    have hxb : x ≠ b := by
      by_cases e : q = p
      · subst e; rw [upd_same] at hx; exact (hxo x (hyx x hx)).2.1
      · rw [upd_other _ _ e] at hx; exact (h.ox q hq x hx).2.1
    refine ⟨?_, ?_, k.2.2⟩
    · rw [hc.cell _ _ (by rintro (⟨e, _⟩ | ⟨_, e⟩); exact hxb e; omega)]; exact k.1
    · rw [hc.cell _ _ (by rintro (⟨e, _⟩ | ⟨_, e⟩); exact hxb e; omega)]; exact k.2.1
  · intro q hq
    by_cases e : q = p
    · subst e; rw [upd_same]; exact hys
    · rw [upd_other _ _ e]; exact h.nd q hq
  · intro q r x hq hr hxq hxr
    by_cases e : q = p
    · by_cases e' : r = p
      · omega
      · subst e
        rw [upd_same] at hxq; rw [upd_other _ _ e'] at hxr
        exact (hxd x (hyx x hxq) r hr e' hxr).elim
    · by_cases e' : r = p
      · subst e'
        rw [upd_same] at hxr; rw [upd_other _ _ e] at hxq
        exact (hxd x (hyx x hxr) q hq e hxq).elim
      · rw [upd_other _ _ e] at hxq; rw [upd_other _ _ e'] at hxr
        exact h.dj q r x hq hr hxq hxr

/-- A cell of the wheel's own block that is no header and no map: its time, a mask. -/
theorem WM.setNow {w : World} {b m : Nat} {O : Nat → Prop} {now : Nat} {ls : Nat → List Nat} {us ids ats : Nat → Nat} (h : WM w b m O now ls us ids ats) (n : Nat) (hn : n < 9223372036854775808) :
    WM (w.setCell ⟨b, 0, none⟩ (.int .i64 (n : Int))) b m O n ls us ids ats := by
  have hc : Ch w (w.setCell ⟨b, 0, none⟩ (.int .i64 (n : Int))) (fun a o => a = b ∧ o = 0) := (Ch.refl _ _).setCell ⟨rfl, rfl⟩ _
  refine ⟨fun k hk => by rw [hc.size]; exact h.olt k hk, h.ob, h.om, h.bm, h.ox, hn, ?_, ?_, ?_, ?_, ?_, ?_, h.nd, h.dj⟩
  · rw [cset _ _ _ _ _ _ (by rw [h.cnow]; rfl), if_pos ⟨rfl, rfl⟩]
  · rw [hc.cell _ _ (by omega)]; exact h.cmap
  · intro q hq
    refine (h.cl q hq).congr (hc.cell _ _ (by omega)) (hc.cell _ _ (by omega)) ?_
    intro x hx
    have hxb : x ≠ b := (h.ox q hq x hx).2.1
    exact ⟨hc.cell _ _ (by omega), hc.cell _ _ (by omega)⟩
  · intro l hl
    rw [hc.cell _ _ (by omega)]; exact h.cu l hl
  · intro k hk o
    rw [hc.fz]; exact h.fz k hk o
  · intro q hq x hx
    have hxb : x ≠ b := (h.ox q hq x hx).2.1
    rw [hc.cell _ _ (by omega), hc.cell _ _ (by omega)]
    exact h.cw q hq x hx
theorem WM.setUsed {w : World} {b m : Nat} {O : Nat → Prop} {now : Nat} {ls : Nat → List Nat} {us ids ats : Nat → Nat} (h : WM w b m O now ls us ids ats) (l : Nat) (hl : l < 11) (n : Nat) :
    WM (w.setCell ⟨b, 1412 + l, none⟩ (.int .u64 (n : Int))) b m O now ls (upd us l n) ids ats := by
  have hc : Ch w (w.setCell ⟨b, 1412 + l, none⟩ (.int .u64 (n : Int))) (fun a o => a = b ∧ o = 1412 + l) := (Ch.refl _ _).setCell ⟨rfl, rfl⟩ _
  refine ⟨fun k hk => by rw [hc.size]; exact h.olt k hk, h.ob, h.om, h.bm, h.ox, h.nowlt, ?_, ?_, ?_, ?_, ?_, ?_, h.nd, h.dj⟩
  · rw [hc.cell _ _ (by omega)]; exact h.cnow
  · rw [hc.cell _ _ (by omega)]; exact h.cmap
  · intro q hq
    refine (h.cl q hq).congr (hc.cell _ _ (by omega)) (hc.cell _ _ (by omega)) ?_
    intro x hx
    have hxb : x ≠ b := (h.ox q hq x hx).2.1
    exact ⟨hc.cell _ _ (by omega), hc.cell _ _ (by omega)⟩
  · intro k hk
    by_cases e : k = l
    · subst e
      rw [upd_same, cset _ _ _ _ _ _ (by rw [h.cu k hk]; rfl), if_pos ⟨rfl, rfl⟩]
    · rw [upd_other _ _ e, hc.cell _ _ (by omega)]; exact h.cu k hk
  · intro k hk o
    rw [hc.fz]; exact h.fz k hk o
  · intro q hq x hx
    have hxb : x ≠ b := (h.ox q hq x hx).2.1
    rw [hc.cell _ _ (by omega), hc.cell _ _ (by omega)]
    exact h.cw q hq x hx
theorem WM.drewN {w : World} {b m : Nat} {O : Nat → Prop} {now : Nat} {ls : Nat → List Nat} {us ids ats : Nat → Nat} (h : WM w b m O now ls us ids ats) (n : Nat) : WM (w.drewN n) b m O now ls us ids ats :=
  ⟨h.olt, h.ob, h.om, h.bm, h.ox, h.nowlt, h.cnow, h.cmap, h.cl, h.cu, h.fz, h.cw, h.nd, h.dj⟩
theorem WM.drew {w : World} {b m : Nat} {O : Nat → Prop} {now : Nat} {ls : Nat → List Nat} {us ids ats : Nat → Nat} (h : WM w b m O now ls us ids ats) : WM w.drew b m O now ls us ids ats :=
  ⟨h.olt, h.ob, h.om, h.bm, h.ox, h.nowlt, h.cnow, h.cmap, h.cl, h.cu, h.fz, h.cw, h.nd, h.dj⟩
/-- A wheel hangs on its own blocks alone. -/
theorem WM.kept {w w' : World} {b m : Nat} {O : Nat → Prop} {now : Nat} {ls : Nat → List Nat} {us ids ats : Nat → Nat} (h : WM w b m O now ls us ids ats) (hs : w.heap.size ≤ w'.heap.size) (hk : ∀ k, O k → w'.heap[k]? = w.heap[k]?) : WM w' b m O now ls us ids ats := by
  have hcell : ∀ k, O k → ∀ o, w'.cell? ⟨k, o, none⟩ = w.cell? ⟨k, o, none⟩ := fun k hO o => World.cell?_of_block (w := w) (hk k hO)
  have hfz : ∀ k, O k → ∀ o, w'.frozen? ⟨k, o, none⟩ = w.frozen? ⟨k, o, none⟩ := fun k hO o => World.frozen?_of_block (w := w) (hk k hO)
  refine ⟨fun k hO => Nat.lt_of_lt_of_le (h.olt k hO) hs, h.ob, h.om, h.bm, h.ox, h.nowlt, by rw [hcell _ h.ob]; exact h.cnow, by rw [hcell _ h.ob]; exact h.cmap, ?_, ?_, ?_, ?_, h.nd, h.dj⟩
  · intro q hq
    exact (h.cl q hq).congr (hcell _ h.ob _) (hcell _ h.ob _) fun x hx => ⟨hcell _ (h.ox q hq x hx).1 _, hcell _ (h.ox q hq x hx).1 _⟩
  · intro l hl
    rw [hcell _ h.ob]; exact h.cu l hl
  · intro k hO o
    rw [hfz k hO]; exact h.fz k hO o
  · intro q hq x hx
    rw [hcell _ (h.ox q hq x hx).1, hcell _ (h.ox q hq x hx).1]; exact h.cw q hq x hx
/-- More blocks may be its own. -/
theorem WM.more {w : World} {b m : Nat} {O O' : Nat → Prop} {now : Nat} {ls : Nat → List Nat} {us ids ats : Nat → Nat} (h : WM w b m O now ls us ids ats) (hO : ∀ k, O k → O' k) (hlt : ∀ k, O' k → k < w.heap.size) (hf : ∀ k, O' k → ∀ o, w.frozen? ⟨k, o, none⟩ = false) : WM w b m O' now ls us ids ats :=
  ⟨hlt, hO _ h.ob, hO _ h.om, h.bm, fun p hp x hx => ⟨hO _ (h.ox p hp x hx).1, (h.ox p hp x hx).2⟩, h.nowlt, h.cnow, h.cmap, h.cl, h.cu, hf, h.cw, h.nd, h.dj⟩
end Go.Proofs.YtogdekjklbbbiaaDoor
