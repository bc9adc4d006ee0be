import Derived.Test.YtogdekjklbbbiaaGreatDoorRem
import Derived.Test.YtogdekjklbbbiaaGreatDoorZ03
set_option maxRecDepth 100000
namespace Go.Proofs.YtogdekjklbbbiaaGreatDoor
open Go.ChangeShapes Go.WideShapes Go.ChangeAt Go.RowKit
set_option linter.unusedSimpArgs false
set_option linter.unusedVariables false

theorem remove_any (hb ho x : Nat) (l r : List Nat) (w : World) (hL : LAt w hb ho (l ++ x :: r)) (hd : (l ++ x :: r).Nodup) (hlb : ∀ q ∈ l ++ x :: r, q ≠ hb) (fz : ∀ q ∈ hb :: (l ++ x :: r), ∀ o, w.frozen? ⟨q, o, none⟩ = false) :
    Calls Tryz.prog 115 #[.pointer (some ⟨hb, ho, none⟩), .pointer (some ⟨x, 0, none⟩)] w fun e w' => e = .returned (.tuple #[]) ∧ LAt w' hb ho (l ++ r) ∧ Ch w w' (remS hb ho x l r) := by
  rcases List.eq_nil_or_concat l with e | ⟨k, y, e⟩
  · subst e
    cases r with
    | nil => exact rem_nn hb ho x w hL hd hlb fz
    | cons z s => exact rem_nc hb ho x z s w hL hd hlb fz
  · have e' : l = k ++ [y] := by simpa using e
    subst e'
    cases r with
    | nil => exact rem_cn hb ho x y k w hL hd hlb fz
    | cons z s => exact rem_cc hb ho x y z k s w hL hd hlb fz

set_option maxHeartbeats 1000000 in
theorem pop_any (hb ho x : Nat) (r : List Nat) (w : World) (hL : LAt w hb ho (x :: r)) (hd : (x :: r).Nodup) (hlb : ∀ q ∈ x :: r, q ≠ hb) (fz : ∀ q ∈ hb :: (x :: r), ∀ o, w.frozen? ⟨q, o, none⟩ = false) :
    Calls Tryz.prog 141 #[.pointer (some ⟨hb, ho, none⟩)] w fun e w' => e = .returned (.pointer (some ⟨x, 0, none⟩)) ∧ LAt w' hb ho r ∧ Ch w w' (remS hb ho x [] r) := by
  have hc := hide (remove_any hb ho x [] r w hL hd hlb fz)
  have h1 : w.cell? ⟨hb, ho, none⟩ = some (.pointer (some ⟨x, 0, none⟩)) := hL.1
  clear hL hd hlb fz
  go_enter Tryz.func141, Tryz.ntmps141
  go_wp2_with fail
  refine (unhide hc).mono ?_
  rintro e w' ⟨rfl, h2, h3⟩
  have H2 := hide h2; have H3 := hide h3
  clear h2 h3
  go_wp2
  go_ret
  exact ⟨rfl, unhide H2, unhide H3⟩
end Go.Proofs.YtogdekjklbbbiaaGreatDoor

namespace Go.Proofs.YtogdekjklbbbiaaGreatDoor
open Go.ChangeShapes Go.WideShapes Go.ChangeAt Go.RowKit
set_option linter.unusedSimpArgs false
set_option linter.unusedVariables false

def upd {α : Type} (f : Nat → α) (p : Nat) (v : α) : Nat → α := fun q => if q = p then v else f q
theorem upd_same {α : Type} (f : Nat → α) (p : Nat) (v : α) : upd f p v p = v := by simp [upd]
theorem upd_other {α : Type} (f : Nat → α) {p q : Nat} (v : α) (h : q ≠ p) : upd f p v q = f q := by simp [upd, h]

/-- A wheel in memory: its block b, its map's block m, the blocks that are its own, its time, its lists (0: over; 1 + 64 l + s: slot s of level l), its masks. -/
structure WM (w : World) (b m : Nat) (O : Nat → Prop) (now : Nat) (ls : Nat → List Nat) (us : Nat → Nat) (ids ats : Nat → Nat) : Prop where
  olt : ∀ k, O k → k < w.heap.size
  ob : O b
  om : O m
  bm : b ≠ m
  ox : ∀ p, p < 705 → ∀ x ∈ ls p, O x ∧ x ≠ b ∧ x ≠ m
  nowlt : now < 9223372036854775808
  cnow : w.cell? ⟨b, 0, none⟩ = some (.int .i64 (now : Int))
  cmap : w.cell? ⟨b, 1, none⟩ = some (.map (some m))
  cl : ∀ p, p < 705 → LAt w b (2 + 2 * p) (ls p)
  cu : ∀ l, l < 11 → w.cell? ⟨b, 1412 + l, none⟩ = some (.int .u64 (us l : Int))
  fz : ∀ k, O k → ∀ o, w.frozen? ⟨k, o, none⟩ = false
  cw : ∀ p, p < 705 → ∀ x ∈ ls p, w.cell? ⟨x, 2, none⟩ = some (.int .i64 (ids x : Int)) ∧ w.cell? ⟨x, 3, none⟩ = some (.int .i64 (ats x : Int)) ∧ ids x < 9223372036854775808 ∧ ats x < 9223372036854775808
  nd : ∀ p, p < 705 → (ls p).Nodup
  dj : ∀ p q x, p < 705 → q < 705 → x ∈ ls p → x ∈ ls q → p = q

/-- Only the links and the header of list p have turned. -/
def ownS (b p : Nat) (xs : List Nat) (a o : Nat) : Prop := (a = b ∧ (o = 2 + 2 * p ∨ o = 2 + 2 * p + 1)) ∨ (a ∈ xs ∧ o < 2)

theorem WM.step {w w' : World} {b m : Nat} {O : Nat → Prop} {now : Nat} {ls : Nat → List Nat} {us ids ats : Nat → Nat} (h : WM w b m O now ls us ids ats) {p : Nat} (hp : p < 705) {xs ys : List Nat}
    (hc : Ch w w' (ownS b p xs)) (hL : LAt w' b (2 + 2 * p) ys) (hys : ys.Nodup) (hyx : ∀ y ∈ ys, y ∈ xs)
    (hxo : ∀ x ∈ xs, O x ∧ x ≠ b ∧ x ≠ m) (hxd : ∀ x ∈ xs, ∀ q, q < 705 → q ≠ p → x ∉ ls q)
    (hxw : ∀ x ∈ ys, w.cell? ⟨x, 2, none⟩ = some (.int .i64 (ids x : Int)) ∧ w.cell? ⟨x, 3, none⟩ = some (.int .i64 (ats x : Int)) ∧ ids x < 9223372036854775808 ∧ ats x < 9223372036854775808) :
    WM w' b m O now (upd ls p ys) us ids ats := by
  have hbx : b ∉ xs := fun e => (hxo b e).2.1 rfl
  refine ⟨fun k hk => by rw [hc.size]; exact h.olt k hk, h.ob, h.om, h.bm, ?_, h.nowlt, ?_, ?_, ?_, ?_, ?_, ?_, ?_, ?_⟩
  · intro q hq x hx
    by_cases e : q = p
    · subst e; rw [upd_same] at hx; exact hxo x (hyx x hx)
    · rw [upd_other _ _ e] at hx; exact h.ox q hq x hx
  · rw [hc.cell _ _ (by rintro (⟨_, e⟩ | ⟨e, _⟩); omega; exact hbx e)]; exact h.cnow
  · rw [hc.cell _ _ (by rintro (⟨_, e⟩ | ⟨e, _⟩); omega; exact hbx e)]; exact h.cmap
  · intro q hq
    by_cases e : q = p
    · subst e; rw [upd_same]; exact hL
    · rw [upd_other _ _ e]
      refine (h.cl q hq).congr (hc.cell _ _ (by rintro (⟨_, e'⟩ | ⟨e', _⟩); omega; exact hbx e')) (hc.cell _ _ (by rintro (⟨_, e'⟩ | ⟨e', _⟩); omega; exact hbx e')) ?_
      intro x hx
      have hxn : x ∉ xs := fun hx' => hxd x hx' q hq e hx
      have hxb : x ≠ b := (h.ox q hq x hx).2.1
      exact ⟨hc.cell _ _ (by rintro (⟨e', _⟩ | ⟨e', _⟩); exact hxb e'; exact hxn e'), hc.cell _ _ (by rintro (⟨e', _⟩ | ⟨e', _⟩); exact hxb e'; exact hxn e')⟩
  · intro l hl
    rw [hc.cell _ _ (by rintro (⟨_, e⟩ | ⟨e, _⟩); omega; exact hbx e)]; exact h.cu l hl
  · intro k hk o
    rw [hc.fz]; exact h.fz k hk o
  · intro q hq x hx
    have k : w.cell? ⟨x, 2, none⟩ = some (.int .i64 (ids x : Int)) ∧ w.cell? ⟨x, 3, none⟩ = some (.int .i64 (ats x : Int)) ∧ ids x < 9223372036854775808 ∧ ats x < 9223372036854775808 := by
      by_cases e : q = p
      · subst e; rw [upd_same] at hx; exact hxw x hx
      · rw [upd_other _ _ e] at hx; exact h.cw q hq x hx
    have hxb : x ≠ b := by
      by_cases e : q = p
      · subst e; rw [upd_same] at hx; exact (hxo x (hyx x hx)).2.1
      · rw [upd_other _ _ e] at hx; exact (h.ox q hq x hx).2.1
    refine ⟨?_, ?_, k.2.2⟩
    · rw [hc.cell _ _ (by rintro (⟨e, _⟩ | ⟨_, e⟩); exact hxb e; omega)]; exact k.1
    · rw [hc.cell _ _ (by rintro (⟨e, _⟩ | ⟨_, e⟩); exact hxb e; omega)]; exact k.2.1
  · intro q hq
    by_cases e : q = p
    · subst e; rw [upd_same]; exact hys
    · rw [upd_other _ _ e]; exact h.nd q hq
  · intro q r x hq hr hxq hxr
    by_cases e : q = p
    · by_cases e' : r = p
      · omega
      · subst e
        rw [upd_same] at hxq; rw [upd_other _ _ e'] at hxr
        exact (hxd x (hyx x hxq) r hr e' hxr).elim
    · by_cases e' : r = p
      · subst e'
        rw [upd_same] at hxr; rw [upd_other _ _ e] at hxq
        exact (hxd x (hyx x hxr) q hq e hxq).elim
      · rw [upd_other _ _ e] at hxq; rw [upd_other _ _ e'] at hxr
        exact h.dj q r x hq hr hxq hxr

/-- A cell of the wheel's own block that is no header and no map: its time, a mask. -/
theorem WM.setNow {w : World} {b m : Nat} {O : Nat → Prop} {now : Nat} {ls : Nat → List Nat} {us ids ats : Nat → Nat} (h : WM w b m O now ls us ids ats) (n : Nat) (hn : n < 9223372036854775808) :
    WM (w.setCell ⟨b, 0, none⟩ (.int .i64 (n : Int))) b m O n ls us ids ats := by
  have hc : Ch w (w.setCell ⟨b, 0, none⟩ (.int .i64 (n : Int))) (fun a o => a = b ∧ o = 0) := (Ch.refl _ _).setCell ⟨rfl, rfl⟩ _
  refine ⟨fun k hk => by rw [hc.size]; exact h.olt k hk, h.ob, h.om, h.bm, h.ox, hn, ?_, ?_, ?_, ?_, ?_, ?_, h.nd, h.dj⟩
  · rw [cset _ _ _ _ _ _ (by rw [h.cnow]; rfl), if_pos ⟨rfl, rfl⟩]
  · rw [hc.cell _ _ (by omega)]; exact h.cmap
  · intro q hq
    refine (h.cl q hq).congr (hc.cell _ _ (by omega)) (hc.cell _ _ (by omega)) ?_
    intro x hx
    have hxb : x ≠ b := (h.ox q hq x hx).2.1
    exact ⟨hc.cell _ _ (by omega), hc.cell _ _ (by omega)⟩
  · intro l hl
    rw [hc.cell _ _ (by omega)]; exact h.cu l hl
  · intro k hk o
    rw [hc.fz]; exact h.fz k hk o
  · intro q hq x hx
    have hxb : x ≠ b := (h.ox q hq x hx).2.1
    rw [hc.cell _ _ (by omega), hc.cell _ _ (by omega)]
    exact h.cw q hq x hx
theorem WM.setUsed {w : World} {b m : Nat} {O : Nat → Prop} {now : Nat} {ls : Nat → List Nat} {us ids ats : Nat → Nat} (h : WM w b m O now ls us ids ats) (l : Nat) (hl : l < 11) (n : Nat) :
    WM (w.setCell ⟨b, 1412 + l, none⟩ (.int .u64 (n : Int))) b m O now ls (upd us l n) ids ats := by
  have hc : Ch w (w.setCell ⟨b, 1412 + l, none⟩ (.int .u64 (n : Int))) (fun a o => a = b ∧ o = 1412 + l) := (Ch.refl _ _).setCell ⟨rfl, rfl⟩ _
  refine ⟨fun k hk => by rw [hc.size]; exact h.olt k hk, h.ob, h.om, h.bm, h.ox, h.nowlt, ?_, ?_, ?_, ?_, ?_, ?_, h.nd, h.dj⟩
  · rw [hc.cell _ _ (by omega)]; exact h.cnow
  · rw [hc.cell _ _ (by omega)]; exact h.cmap
  · intro q hq
    refine (h.cl q hq).congr (hc.cell _ _ (by omega)) (hc.cell _ _ (by omega)) ?_
    intro x hx
    have hxb : x ≠ b := (h.ox q hq x hx).2.1
    exact ⟨hc.cell _ _ (by omega), hc.cell _ _ (by omega)⟩
  · intro k hk
    by_cases e : k = l
    · subst e
      rw [upd_same, cset _ _ _ _ _ _ (by rw [h.cu k hk]; rfl), if_pos ⟨rfl, rfl⟩]
    · rw [upd_other _ _ e, hc.cell _ _ (by omega)]; exact h.cu k hk
  · intro k hk o
    rw [hc.fz]; exact h.fz k hk o
  · intro q hq x hx
    have hxb : x ≠ b := (h.ox q hq x hx).2.1
    rw [hc.cell _ _ (by omega), hc.cell _ _ (by omega)]
    exact h.cw q hq x hx
theorem WM.drewN {w : World} {b m : Nat} {O : Nat → Prop} {now : Nat} {ls : Nat → List Nat} {us ids ats : Nat → Nat} (h : WM w b m O now ls us ids ats) (n : Nat) : WM (w.drewN n) b m O now ls us ids ats :=
  ⟨h.olt, h.ob, h.om, h.bm, h.ox, h.nowlt, h.cnow, h.cmap, h.cl, h.cu, h.fz, h.cw, h.nd, h.dj⟩
theorem WM.drew {w : World} {b m : Nat} {O : Nat → Prop} {now : Nat} {ls : Nat → List Nat} {us ids ats : Nat → Nat} (h : WM w b m O now ls us ids ats) : WM w.drew b m O now ls us ids ats :=
  ⟨h.olt, h.ob, h.om, h.bm, h.ox, h.nowlt, h.cnow, h.cmap, h.cl, h.cu, h.fz, h.cw, h.nd, h.dj⟩
/-- A wheel hangs on its own blocks alone. -/
theorem WM.kept {w w' : World} {b m : Nat} {O : Nat → Prop} {now : Nat} {ls : Nat → List Nat} {us ids ats : Nat → Nat} (h : WM w b m O now ls us ids ats) (hs : w.heap.size ≤ w'.heap.size) (hk : ∀ k, O k → w'.heap[k]? = w.heap[k]?) : WM w' b m O now ls us ids ats := by
  have hcell : ∀ k, O k → ∀ o, w'.cell? ⟨k, o, none⟩ = w.cell? ⟨k, o, none⟩ := fun k hO o => World.cell?_of_block (w := w) (hk k hO)
  have hfz : ∀ k, O k → ∀ o, w'.frozen? ⟨k, o, none⟩ = w.frozen? ⟨k, o, none⟩ := fun k hO o => World.frozen?_of_block (w := w) (hk k hO)
  refine ⟨fun k hO => Nat.lt_of_lt_of_le (h.olt k hO) hs, h.ob, h.om, h.bm, h.ox, h.nowlt, by rw [hcell _ h.ob]; exact h.cnow, by rw [hcell _ h.ob]; exact h.cmap, ?_, ?_, ?_, ?_, h.nd, h.dj⟩
  · intro q hq
    exact (h.cl q hq).congr (hcell _ h.ob _) (hcell _ h.ob _) fun x hx => ⟨hcell _ (h.ox q hq x hx).1 _, hcell _ (h.ox q hq x hx).1 _⟩
  · intro l hl
    rw [hcell _ h.ob]; exact h.cu l hl
  · intro k hO o
    rw [hfz k hO]; exact h.fz k hO o
  · intro q hq x hx
    rw [hcell _ (h.ox q hq x hx).1, hcell _ (h.ox q hq x hx).1]; exact h.cw q hq x hx
/-- More blocks may be its own. -/
theorem WM.more {w : World} {b m : Nat} {O O' : Nat → Prop} {now : Nat} {ls : Nat → List Nat} {us ids ats : Nat → Nat} (h : WM w b m O now ls us ids ats) (hO : ∀ k, O k → O' k) (hlt : ∀ k, O' k → k < w.heap.size) (hf : ∀ k, O' k → ∀ o, w.frozen? ⟨k, o, none⟩ = false) : WM w b m O' now ls us ids ats :=
  ⟨hlt, hO _ h.ob, hO _ h.om, h.bm, fun p hp x hx => ⟨hO _ (h.ox p hp x hx).1, (h.ox p hp x hx).2⟩, h.nowlt, h.cnow, h.cmap, h.cl, h.cu, hf, h.cw, h.nd, h.dj⟩
end Go.Proofs.YtogdekjklbbbiaaGreatDoor

namespace Go.Proofs.YtogdekjklbbbiaaGreatDoor
open Go.ChangeShapes Go.WideShapes Go.ChangeAt Go.RowKit
set_option linter.unusedSimpArgs false
set_option linter.unusedVariables false

def home (now t : Nat) : Nat := if t ≤ now then 0 else 1 + 64 * lv now t + sl t (lv now t)
def putU (us : Nat → Nat) (now t : Nat) : Nat → Nat := if t ≤ now then us else upd us (lv now t) (us (lv now t) ||| 2 ^ sl t (lv now t))

theorem home_over {now t : Nat} (h : t ≤ now) : home now t = 0 := by simp [home, h]
theorem home_slot {now t : Nat} (h : now < t) : home now t = 1 + 64 * lv now t + sl t (lv now t) := by simp [home, Nat.not_le.2 h]
theorem sl_lt (t l : Nat) : sl t l < 64 := Nat.mod_lt _ (by decide)
theorem home_lt {now t : Nat} (h1 : now < 9223372036854775808) (h2 : t < 9223372036854775808) : home now t < 705 := by
  unfold home
  have := lv_le h1 h2
  have := sl_lt t (lv now t)
  split <;> omega

theorem or_u64 (a b : Nat) (ha : a < 18446744073709551616) (hb : b < 18446744073709551616) : bits .or .u64 (a : Int) (b : Int) = ((a ||| b : Nat) : Int) := u64_or_nat a b ha hb

theorem push_ch {w w' : World} {b p x : Nat} {xs : List Nat} (h : Ch w w' (pushS b (2 + 2 * p) x xs)) : Ch w w' (ownS b p (xs ++ [x])) := by
  refine h.mono ?_
  rintro a o (⟨e, e'⟩ | ⟨e, e'⟩ | ⟨e, e'⟩)
  · exact .inl ⟨e, e'⟩
  · exact .inr ⟨by simp [e], e'⟩
  · exact .inr ⟨by simp [List.mem_of_mem_getLast? e], by omega⟩

/-- Push onto list p of a wheel. -/
theorem pushAt {w : World} {b m : Nat} {O : Nat → Prop} {now : Nat} {ls : Nat → List Nat} {us ids ats : Nat → Nat} (h : WM w b m O now ls us ids ats) {x p : Nat} (hp : p < 705) (hx : O x ∧ x ≠ b ∧ x ≠ m) (hxn : ∀ q, q < 705 → x ∉ ls q)
    {v0 v1 : Value} (k0 : w.cell? ⟨x, 0, none⟩ = some v0) (k1 : w.cell? ⟨x, 1, none⟩ = some v1) (k2 : w.cell? ⟨x, 2, none⟩ = some (.int .i64 (ids x : Int))) (k3 : w.cell? ⟨x, 3, none⟩ = some (.int .i64 (ats x : Int))) (b2 : ids x < 9223372036854775808) (b3 : ats x < 9223372036854775808) :
    Calls Tryz.prog 156 #[.pointer (some ⟨b, 2 + 2 * p, none⟩), .pointer (some ⟨x, 0, none⟩)] w fun e w' => e = .returned (.tuple #[]) ∧ WM w' b m O now (upd ls p (ls p ++ [x])) us ids ats ∧ Ch w w' (fun a _ => O a ∧ a ≠ m) := by
  refine (push_any b (2 + 2 * p) x (ls p) w (h.cl p hp) (h.nd p hp) (hxn p hp) hx.2.1 (fun z hz => (h.ox p hp z hz).2.1) (h.fz b h.ob) (h.fz x hx.1) (fun z hz => h.fz z (h.ox p hp z hz).1) v0 v1 k0 k1).mono ?_
  rintro e w' ⟨rfl, hL, hc⟩
  have hc' := push_ch hc
  have hmem : ∀ z ∈ ls p ++ [x], O z ∧ z ≠ b ∧ z ≠ m := by
    intro z hz
    rcases List.mem_append.1 hz with hz | hz
    · exact h.ox p hp z hz
    · rw [List.mem_singleton.1 hz]; exact hx
  refine ⟨rfl, h.step hp hc' hL ?_ (fun _ hy => hy) hmem ?_ ?_, hc'.mono ?_⟩
  · rw [List.nodup_append]
    refine ⟨h.nd p hp, by simp, ?_⟩
    intro a ha c hc e
    rw [List.mem_singleton.1 hc] at e
    exact hxn p hp (e ▸ ha)
  · intro z hz q hq hqp hzq
    rcases List.mem_append.1 hz with hz | hz
    · exact hqp (h.dj q p z hq hp hzq hz)
    · rw [List.mem_singleton.1 hz] at hzq; exact hxn q hq hzq
  · intro z hz
    rcases List.mem_append.1 hz with hz | hz
    · exact h.cw p hp z hz
    · rw [List.mem_singleton.1 hz]; exact ⟨k2, k3, b2, b3⟩
  · rintro a o (⟨e, _⟩ | ⟨e, _⟩)
    · rw [e]; exact ⟨h.ob, h.bm⟩
    · exact ⟨(hmem a e).1, (hmem a e).2.2⟩

set_option maxHeartbeats 1000000 in
theorem place_over (b x now t : Nat) (w : World) (hn : w.cell? ⟨b, 0, none⟩ = some (.int .i64 now)) (ha : w.cell? ⟨x, 3, none⟩ = some (.int .i64 t)) (h1 : t ≤ now) (Post : World → Prop)
    (hpush : ∀ n, Calls Tryz.prog 156 #[.pointer (some ⟨b, 2, none⟩), .pointer (some ⟨x, 0, none⟩)] (w.drewN n) fun e w' => e = .returned (.tuple #[]) ∧ Post w') :
    Calls Tryz.prog 139 #[.pointer (some ⟨b, 0, none⟩), .pointer (some ⟨x, 0, none⟩)] w fun e w' => e = .returned (.tuple #[]) ∧ Post w' := by
  have HP := hide hpush; clear hpush
  have e1 : (t : Int) ≤ (now : Int) := by omega
  go_enter Tryz.func139, Tryz.ntmps139
  go_wp2
  go_quiet (fail)
  go_wp2_with fail
  refine (unhide HP _).mono ?_
  rintro e w1 ⟨rfl, hch⟩
  have HC := hide hch
  clear hch
  go_wp2
  go_returns
  exact ⟨rfl, unhide HC⟩

set_option maxHeartbeats 1000000 in
theorem place_slot (b x now t l s u : Nat) (w : World) (hn : w.cell? ⟨b, 0, none⟩ = some (.int .i64 now)) (ha : w.cell? ⟨x, 3, none⟩ = some (.int .i64 t)) (h1 : now < t) (h2 : t < 9223372036854775808)
    (hl : lv now t = l) (hs : sl t l = s) (hl10 : l ≤ 10) (hs64 : s < 64) (hu : u < 18446744073709551616) (Post : World → Prop)
    (hpush : ∀ w1, Ch w w1 (fun _ _ => False) → Calls Tryz.prog 156 #[.pointer (some ⟨b, 4 + l * 128 + s * 2, none⟩), .pointer (some ⟨x, 0, none⟩)] w1 fun e w' => e = .returned (.tuple #[]) ∧ w'.cell? ⟨b, 1412 + l, none⟩ = some (.int .u64 (u : Int)) ∧ w'.frozen? ⟨b, 1412 + l, none⟩ = false ∧ Post (w'.setCell ⟨b, 1412 + l, none⟩ (.int .u64 ((u ||| 2 ^ s : Nat) : Int))).drew) :
    Calls Tryz.prog 139 #[.pointer (some ⟨b, 0, none⟩), .pointer (some ⟨x, 0, none⟩)] w fun e w' => e = .returned (.tuple #[]) ∧ Post w' := by
  have HP := hide hpush; clear hpush
  have hc0 := slotOf_any b now t
  simp only [hl, hs] at hc0
  have hc := hide hc0
  clear hc0
  have e1 : (l : Int) < 11 := by omega
  have e2 : (s : Int) < 64 := by omega
  have e3 : ¬ (t : Int) ≤ (now : Int) := by omega
  have hps : (2 : Nat) ^ s < 18446744073709551616 := by
    have : (2 : Nat) ^ s < 2 ^ 64 := Nat.pow_lt_pow_right (by decide) hs64
    exact Nat.lt_of_lt_of_le this (by decide)
  have eor := or_u64 u (2 ^ s) hu hps
  have hc2 : ((2 ^ s : Nat) : Int) = (2 : Int) ^ s := by simp
  rw [hc2] at eor
  have hps2 : (2 : Int) ^ s < 18446744073709551616 := by rw [← hc2]; omega
  have hps3 : (0 : Int) < (2 : Int) ^ s := Int.pow_pos (by decide)
  obtain ⟨P, hP⟩ : ∃ P, (2 : Int) ^ s = P := ⟨_, rfl⟩
  rw [hP] at hps2 hps3 eor
  obtain ⟨R, hR⟩ : ∃ R, ((u ||| 2 ^ s : Nat) : Int) = R := ⟨_, rfl⟩
  rw [hR] at eor HP
  clear hc2 hps hR hl hs
  go_enter Tryz.func139, Tryz.ntmps139
  go_wp2
  go_quiet (fail)
  go_wp2_with fail
  refine (unhide hc _ (by assumption) h1 h2).mono ?_
  rintro e w1 ⟨rfl, hch⟩
  have hch2 : Ch w w1 (fun _ _ => False) := ⟨hch.os, hch.tape, hch.output, hch.size, hch.fz, hch.cell, hch.blk, hch.dom⟩
  have HC := hide hch2
  clear hch hch2
  go_wp2_with fail
  refine (unhide HP _ (unhide HC)).mono ?_
  rintro e w2 ⟨rfl, hcu, hfu, hpost⟩
  have HO := hide hpost
  clear hpost
  go_wp2
  go_region
  all_goals (go_wp2; go_end0; exact ⟨rfl, unhide HO⟩)

theorem place_any {w : World} {b m : Nat} {O : Nat → Prop} {now : Nat} {ls : Nat → List Nat} {us ids ats : Nat → Nat} (h : WM w b m O now ls us ids ats) (hu : ∀ l, l < 11 → us l < 18446744073709551616) {x : Nat} (hx : O x ∧ x ≠ b ∧ x ≠ m) (hxn : ∀ q, q < 705 → x ∉ ls q)
    {v0 v1 : Value} (k0 : w.cell? ⟨x, 0, none⟩ = some v0) (k1 : w.cell? ⟨x, 1, none⟩ = some v1) (k2 : w.cell? ⟨x, 2, none⟩ = some (.int .i64 (ids x : Int))) (k3 : w.cell? ⟨x, 3, none⟩ = some (.int .i64 (ats x : Int))) (b2 : ids x < 9223372036854775808) (b3 : ats x < 9223372036854775808) :
    Calls Tryz.prog 139 #[.pointer (some ⟨b, 0, none⟩), .pointer (some ⟨x, 0, none⟩)] w fun e w' => e = .returned (.tuple #[]) ∧
      WM w' b m O now (upd ls (home now (ats x)) (ls (home now (ats x)) ++ [x])) (putU us now (ats x)) ids ats ∧ Ch w w' (fun a _ => O a ∧ a ≠ m) := by
  by_cases h1 : ats x ≤ now
  · rw [home_over h1, show putU us now (ats x) = us by simp [putU, h1]]
    refine place_over b x now (ats x) w h.cnow k3 h1 _ fun n => ?_
    have hh := pushAt (h.drewN n) (p := 0) (by omega) hx hxn k0 k1 k2 k3 b2 b3
    refine hh.mono ?_
    rintro e w' ⟨rfl, h2, h3⟩
    exact ⟨rfl, h2, ⟨h3.os, h3.tape, h3.output, h3.size, h3.fz, h3.cell, h3.blk, h3.dom⟩⟩
  · have h1' : now < ats x := by omega
    have hl := lv_le h.nowlt b3
    have hs := sl_lt (ats x) (lv now (ats x))
    rw [home_slot h1', show putU us now (ats x) = upd us (lv now (ats x)) (us (lv now (ats x)) ||| 2 ^ sl (ats x) (lv now (ats x))) by simp [putU, h1]]
    refine place_slot b x now (ats x) _ _ (us (lv now (ats x))) w h.cnow k3 h1' b3 rfl rfl hl hs (hu _ (by omega)) _ fun w1 hc => ?_
    have hW : WM w1 b m O now ls us ids ats := h.kept (by rw [hc.size]; exact Nat.le_refl _) fun k _ => hc.blk k fun _ q => q
    have hcc : ∀ o, w1.cell? ⟨x, o, none⟩ = w.cell? ⟨x, o, none⟩ := fun o => hc.cell x o fun q => q
    have hh := pushAt hW (p := 1 + 64 * lv now (ats x) + sl (ats x) (lv now (ats x))) (by omega) hx hxn ((hcc 0).trans k0) ((hcc 1).trans k1) ((hcc 2).trans k2) ((hcc 3).trans k3) b2 b3
    rw [show 2 + 2 * (1 + 64 * lv now (ats x) + sl (ats x) (lv now (ats x))) = 4 + lv now (ats x) * 128 + sl (ats x) (lv now (ats x)) * 2 by omega] at hh
    refine hh.mono ?_
    rintro e w' ⟨rfl, h2, h3⟩
    refine ⟨rfl, h2.cu _ (by omega), h2.fz b h.ob _, (h2.setUsed _ (by omega) _).drew, ?_⟩
    exact (((hc.trans h3).mono fun a o q => q.elim False.elim id).setCell ⟨h.ob, h.bm⟩ _).drew

/-! ### displace -/
def clrU (us : Nat → Nat) (now t : Nat) (e : Bool) : Nat → Nat := if t ≤ now then us else if e then upd us (lv now t) (us (lv now t) &&& (18446744073709551615 - 2 ^ sl t (lv now t))) else us

theorem rem_ch {w w' : World} {b p x : Nat} {l r : List Nat} (h : Ch w w' (remS b (2 + 2 * p) x l r)) : Ch w w' (ownS b p (l ++ x :: r)) := by
  refine h.mono ?_
  rintro a o (⟨e, e'⟩ | ⟨e, e'⟩ | ⟨e, e'⟩ | ⟨e, e'⟩)
  · exact .inl ⟨e, e'⟩
  · exact .inr ⟨by simp [e], e'⟩
  · exact .inr ⟨by simp [List.mem_of_mem_getLast? e], by omega⟩
  · exact .inr ⟨by simp [List.mem_of_mem_head? e], by omega⟩

theorem WM.cut {w w' : World} {b m : Nat} {O : Nat → Prop} {now : Nat} {ls : Nat → List Nat} {us ids ats : Nat → Nat} (h : WM w b m O now ls us ids ats) {x p : Nat} {l r : List Nat} (hp : p < 705) (hls : ls p = l ++ x :: r)
    (hL : LAt w' b (2 + 2 * p) (l ++ r)) (hc : Ch w w' (remS b (2 + 2 * p) x l r)) : WM w' b m O now (upd ls p (l ++ r)) us ids ats ∧ Ch w w' (fun a _ => O a ∧ a ≠ m) := by
  have hc' := rem_ch hc
  rw [← hls] at hc'
  have hnd := h.nd p hp
  have hsub : ∀ z ∈ l ++ r, z ∈ ls p := by
    intro z hz
    rw [hls]
    rcases List.mem_append.1 hz with hz | hz <;> simp [hz]
  refine ⟨h.step hp hc' hL ?_ hsub (fun z hz => h.ox p hp z hz) ?_ (fun z hz => h.cw p hp z (hsub z hz)), hc'.mono ?_⟩
  · rw [hls, List.nodup_append] at hnd
    rw [List.nodup_append]
    exact ⟨hnd.1, (List.nodup_cons.1 hnd.2.1).2, fun a ha c hc => hnd.2.2 a ha c (by simp [hc])⟩
  · intro z hz q hq hqp hzq
    exact hqp (h.dj q p z hq hp hzq hz)
  · rintro a o (⟨e, _⟩ | ⟨e, _⟩)
    · rw [e]; exact ⟨h.ob, h.bm⟩
    · exact ⟨(h.ox p hp a e).1, (h.ox p hp a e).2.2⟩

theorem removeAt {w : World} {b m : Nat} {O : Nat → Prop} {now : Nat} {ls : Nat → List Nat} {us ids ats : Nat → Nat} (h : WM w b m O now ls us ids ats) {x p : Nat} {l r : List Nat} (hp : p < 705) (hls : ls p = l ++ x :: r) :
    Calls Tryz.prog 115 #[.pointer (some ⟨b, 2 + 2 * p, none⟩), .pointer (some ⟨x, 0, none⟩)] w fun e w' => e = .returned (.tuple #[]) ∧ WM w' b m O now (upd ls p (l ++ r)) us ids ats ∧ Ch w w' (fun a _ => O a ∧ a ≠ m) := by
  have hcl := h.cl p hp
  have hnd := h.nd p hp
  have hox := h.ox p hp
  rw [hls] at hcl hnd hox
  refine (remove_any b (2 + 2 * p) x l r w hcl hnd (fun q hq => (hox q hq).2.1) ?_).mono ?_
  · intro q hq
    rcases List.mem_cons.1 hq with e | e
    · rw [e]; exact h.fz b h.ob
    · exact h.fz q (hox q e).1
  · rintro e w' ⟨rfl, h2, h3⟩
    exact ⟨rfl, h.cut hp hls h2 h3⟩
theorem popAt {w : World} {b m : Nat} {O : Nat → Prop} {now : Nat} {ls : Nat → List Nat} {us ids ats : Nat → Nat} (h : WM w b m O now ls us ids ats) {x p : Nat} {r : List Nat} (hp : p < 705) (hls : ls p = x :: r) :
    Calls Tryz.prog 141 #[.pointer (some ⟨b, 2 + 2 * p, none⟩)] w fun e w' => e = .returned (.pointer (some ⟨x, 0, none⟩)) ∧ WM w' b m O now (upd ls p r) us ids ats ∧ Ch w w' (fun a _ => O a ∧ a ≠ m) ∧
      (∃ v, w'.cell? ⟨x, 0, none⟩ = some v) ∧ (∃ v, w'.cell? ⟨x, 1, none⟩ = some v) ∧ w'.cell? ⟨x, 2, none⟩ = w.cell? ⟨x, 2, none⟩ ∧ w'.cell? ⟨x, 3, none⟩ = w.cell? ⟨x, 3, none⟩ := by
  have hcl := h.cl p hp
  have hnd := h.nd p hp
  have hox := h.ox p hp
  rw [hls] at hcl hnd hox
  refine (pop_any b (2 + 2 * p) x r w hcl hnd (fun q hq => (hox q hq).2.1) ?_).mono ?_
  · intro q hq
    rcases List.mem_cons.1 hq with e | e
    · rw [e]; exact h.fz b h.ob
    · exact h.fz q (hox q e).1
  · rintro e w' ⟨rfl, h2, h3⟩
    have hxb := (hox x (by simp)).2.1
    have hrx : r.head? ≠ some x := fun q => (List.nodup_cons.1 hnd).1 (List.mem_of_mem_head? q)
    refine ⟨rfl, (h.cut (l := []) hp hls h2 h3).1, (h.cut (l := []) hp hls h2 h3).2, ?_, ?_, ?_, ?_⟩
    · have c0 : w.cell? ⟨x, 0, none⟩ = some _ := hcl.2.2.1
      exact Option.isSome_iff_exists.1 (by rw [h3.dom, c0]; rfl)
    · have c1 : w.cell? ⟨x, 1, none⟩ = some _ := hcl.2.2.2.1
      exact Option.isSome_iff_exists.1 (by rw [h3.dom, c1]; rfl)
    · exact h3.cell _ _ (by rintro (⟨e, _⟩ | ⟨_, e⟩ | ⟨e, _⟩ | ⟨_, e⟩); exact hxb e; omega; simp at e; omega)
    · exact h3.cell _ _ (by rintro (⟨e, _⟩ | ⟨_, e⟩ | ⟨e, _⟩ | ⟨_, e⟩); exact hxb e; omega; simp at e; omega)

set_option maxHeartbeats 1000000 in
theorem displace_over (b x now t : Nat) (w : World) (hn : w.cell? ⟨b, 0, none⟩ = some (.int .i64 now)) (ha : w.cell? ⟨x, 3, none⟩ = some (.int .i64 t)) (h1 : t ≤ now) (Post : World → Prop)
    (hpush : ∀ n, Calls Tryz.prog 115 #[.pointer (some ⟨b, 2, none⟩), .pointer (some ⟨x, 0, none⟩)] (w.drewN n) fun e w' => e = .returned (.tuple #[]) ∧ Post w') :
    Calls Tryz.prog 122 #[.pointer (some ⟨b, 0, none⟩), .pointer (some ⟨x, 0, none⟩)] w fun e w' => e = .returned (.tuple #[]) ∧ Post w' := by
  have HP := hide hpush; clear hpush
  have e1 : (t : Int) ≤ (now : Int) := by omega
  go_enter Tryz.func122, Tryz.ntmps122
  go_wp2
  go_quiet (fail)
  go_wp2_with fail
  refine (unhide HP _).mono ?_
  rintro e w1 ⟨rfl, hch⟩
  have HC := hide hch
  clear hch
  go_wp2
  go_returns
  exact ⟨rfl, unhide HC⟩

set_option maxHeartbeats 1000000 in
theorem displace_slot (b x now t l s u : Nat) (w : World) (hn : w.cell? ⟨b, 0, none⟩ = some (.int .i64 now)) (ha : w.cell? ⟨x, 3, none⟩ = some (.int .i64 t)) (h1 : now < t) (h2 : t < 9223372036854775808)
    (hl : lv now t = l) (hs : sl t l = s) (hl10 : l ≤ 10) (hs64 : s < 64) (hu : u < 18446744073709551616) (emp : Bool) (Post : World → Prop)
    (hpush : ∀ w1, Ch w w1 (fun _ _ => False) → Calls Tryz.prog 115 #[.pointer (some ⟨b, 4 + l * 128 + s * 2, none⟩), .pointer (some ⟨x, 0, none⟩)] w1 fun e w' => e = .returned (.tuple #[]) ∧ w'.cell? ⟨b, 1412 + l, none⟩ = some (.int .u64 (u : Int)) ∧ w'.frozen? ⟨b, 1412 + l, none⟩ = false ∧
      Calls Tryz.prog 70 #[.pointer (some ⟨b, 4 + l * 128 + s * 2, none⟩)] w' (fun e w'' => e = .returned (.bool emp) ∧ w'' = w') ∧ (emp = true → Post (w'.setCell ⟨b, 1412 + l, none⟩ (.int .u64 ((u &&& (18446744073709551615 - 2 ^ s) : Nat) : Int))).drew) ∧ (emp = false → Post w')) :
    Calls Tryz.prog 122 #[.pointer (some ⟨b, 0, none⟩), .pointer (some ⟨x, 0, none⟩)] w fun e w' => e = .returned (.tuple #[]) ∧ Post w' := by
  have HP := hide hpush; clear hpush
  have hc0 := slotOf_any b now t
  simp only [hl, hs] at hc0
  have hc := hide hc0
  clear hc0
  have e1 : (l : Int) < 11 := by omega
  have e2 : (s : Int) < 64 := by omega
  have e3 : ¬ (t : Int) ≤ (now : Int) := by omega
  have hps : (2 : Nat) ^ s < 18446744073709551616 := by
    have : (2 : Nat) ^ s < 2 ^ 64 := Nat.pow_lt_pow_right (by decide) hs64
    exact Nat.lt_of_lt_of_le this (by decide)
  have eor := u64_andNot_nat u (2 ^ s) hu hps
  have hc2 : ((2 ^ s : Nat) : Int) = (2 : Int) ^ s := by simp
  rw [hc2] at eor
  have hps2 : (2 : Int) ^ s < 18446744073709551616 := by rw [← hc2]; omega
  have hps3 : (0 : Int) < (2 : Int) ^ s := Int.pow_pos (by decide)
  obtain ⟨P, hP⟩ : ∃ P, (2 : Int) ^ s = P := ⟨_, rfl⟩
  rw [hP] at hps2 hps3 eor
  obtain ⟨R, hR⟩ : ∃ R, ((u &&& (18446744073709551615 - 2 ^ s) : Nat) : Int) = R := ⟨_, rfl⟩
  rw [hR] at eor HP
  clear hc2 hps hR hl hs
  go_enter Tryz.func122, Tryz.ntmps122
  go_wp2
  go_quiet (fail)
  go_wp2_with fail
  refine (unhide hc _ (by assumption) h1 h2).mono ?_
  rintro e w1 ⟨rfl, hch⟩
  have hch2 : Ch w w1 (fun _ _ => False) := ⟨hch.os, hch.tape, hch.output, hch.size, hch.fz, hch.cell, hch.blk, hch.dom⟩
  have HC := hide hch2
  clear hch hch2
  go_wp2_with fail
  refine (unhide HP _ (unhide HC)).mono ?_
  rintro e w2 ⟨rfl, hcu, hfu, hemp, hp1, hp2⟩
  have HE := hide hemp; have HO1 := hide hp1; have HO2 := hide hp2
  clear hemp hp1 hp2
  go_wp2_with fail
  refine (unhide HE).mono ?_
  rintro e w3 ⟨rfl, rfl⟩
  cases emp
  · have HO := hide (unhide HO2 rfl)
    go_wp2
    go_end0
    exact ⟨rfl, unhide HO⟩
  · have HO := hide (unhide HO1 rfl)
    go_wp2
    go_region
    all_goals (go_wp2; go_end0; exact ⟨rfl, unhide HO⟩)

theorem emptyAt {w : World} {b m : Nat} {O : Nat → Prop} {now : Nat} {ls : Nat → List Nat} {us ids ats : Nat → Nat} (h : WM w b m O now ls us ids ats) {p : Nat} (hp : p < 705) :
    Calls Tryz.prog 70 #[.pointer (some ⟨b, 2 + 2 * p, none⟩)] w fun e w' => e = .returned (.bool (ls p).isEmpty) ∧ w' = w := by
  have hcl := h.cl p hp
  cases hls : ls p with
  | nil => rw [hls] at hcl; exact empty_nil b _ w hcl
  | cons x r => rw [hls] at hcl; exact empty_cons b _ x r w hcl

theorem displace_any {w : World} {b m : Nat} {O : Nat → Prop} {now : Nat} {ls : Nat → List Nat} {us ids ats : Nat → Nat} (h : WM w b m O now ls us ids ats) (hu : ∀ l, l < 11 → us l < 18446744073709551616) {x : Nat} {l r : List Nat} (hls : ls (home now (ats x)) = l ++ x :: r) (b3 : ats x < 9223372036854775808) :
    Calls Tryz.prog 122 #[.pointer (some ⟨b, 0, none⟩), .pointer (some ⟨x, 0, none⟩)] w fun e w' => e = .returned (.tuple #[]) ∧
      WM w' b m O now (upd ls (home now (ats x)) (l ++ r)) (clrU us now (ats x) (l ++ r).isEmpty) ids ats ∧ Ch w w' (fun a _ => O a ∧ a ≠ m) := by
  have hp := home_lt h.nowlt b3
  have k3 := (h.cw _ hp x (by rw [hls]; simp)).2.1
  by_cases h1 : ats x ≤ now
  · rw [home_over h1] at hls ⊢
    rw [show clrU us now (ats x) (l ++ r).isEmpty = us by simp [clrU, h1]]
    refine displace_over b x now (ats x) w h.cnow k3 h1 _ fun n => ?_
    have hh := removeAt (h.drewN n) (p := 0) (by omega) hls
    refine hh.mono ?_
    rintro e w' ⟨rfl, h2, h3⟩
    exact ⟨rfl, h2, ⟨h3.os, h3.tape, h3.output, h3.size, h3.fz, h3.cell, h3.blk, h3.dom⟩⟩
  · have h1' : now < ats x := by omega
    have hl := lv_le h.nowlt b3
    have hs := sl_lt (ats x) (lv now (ats x))
    rw [home_slot h1'] at hls ⊢
    refine displace_slot b x now (ats x) _ _ (us (lv now (ats x))) w h.cnow k3 h1' b3 rfl rfl hl hs (hu _ (by omega)) (l ++ r).isEmpty _ fun w1 hc => ?_
    have hW : WM w1 b m O now ls us ids ats := h.kept (by rw [hc.size]; exact Nat.le_refl _) fun k _ => hc.blk k fun _ q => q
    have hh := removeAt hW (p := 1 + 64 * lv now (ats x) + sl (ats x) (lv now (ats x))) (by omega) hls
    have eo : 2 + 2 * (1 + 64 * lv now (ats x) + sl (ats x) (lv now (ats x))) = 4 + lv now (ats x) * 128 + sl (ats x) (lv now (ats x)) * 2 := by omega
    rw [eo] at hh
    refine hh.mono ?_
    rintro e w' ⟨rfl, h2, h3⟩
    have hem := emptyAt h2 (p := 1 + 64 * lv now (ats x) + sl (ats x) (lv now (ats x))) (by omega)
    rw [eo, upd_same] at hem
    have h3' : Ch w w' (fun a _ => O a ∧ a ≠ m) := (hc.trans h3).mono fun a o q => q.elim False.elim id
    refine ⟨rfl, h2.cu _ (by omega), h2.fz b h.ob _, hem, fun he => ?_, fun he => ?_⟩
    · rw [show clrU us now (ats x) (l ++ r).isEmpty = upd us (lv now (ats x)) (us (lv now (ats x)) &&& (18446744073709551615 - 2 ^ sl (ats x) (lv now (ats x)))) by rw [he]; simp [clrU, h1]]
      exact ⟨(h2.setUsed _ (by omega) _).drew, (h3'.setCell ⟨h.ob, h.bm⟩ _).drew⟩
    · rw [show clrU us now (ats x) (l ++ r).isEmpty = us by rw [he]; simp [clrU, h1]]
      exact ⟨h2, h3'⟩
end Go.Proofs.YtogdekjklbbbiaaGreatDoor
