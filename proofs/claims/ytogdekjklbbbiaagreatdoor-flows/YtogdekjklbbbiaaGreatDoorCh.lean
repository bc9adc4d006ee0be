import Derived.WalkKit
import Derived.ProofKit
import Derived.OpenShut
import Derived.Handy
import Derived.Deep.QuietTactic
import Derived.BigQuiet
import Derived.Deep.RegionWith
import Derived.BigRegion
namespace Go.Proofs.YtogdekjklbbbiaaGreatDoor
open Go.RowKit

theorem hide {p : Prop} (h : p) : Hid p := h
theorem unhide {p : Prop} (h : Hid p) : p := h

theorem isSome_set (w : World) (a b : Addr) (v : Value) : ((w.setCell a v).cell? b).isSome = (w.cell? b).isSome := by
  by_cases h : a = b
  · subst h
    unfold World.cell?
    simp only [World.setCell, Array.getElem?_modify]
    cases w.heap[a.block]? with
    | none => simp
    | some o =>
      cases o <;> simp
      cases hs : a.spot <;> simp [Array.getElem?_setIfInBounds]
      split <;> simp [*]
  · rw [World.cell?_setCell_other w a b v h]

/-- Only the cells of S have turned. -/
structure Ch (w w' : World) (S : Nat → Nat → Prop) : Prop where
  os : w'.os = w.os
  tape : w'.tape = w.tape
  output : w'.output = w.output
  size : w'.heap.size = w.heap.size
  fz : ∀ a, w'.frozen? a = w.frozen? a
  cell : ∀ b o, ¬ S b o → w'.cell? ⟨b, o, none⟩ = w.cell? ⟨b, o, none⟩
  blk : ∀ k, (∀ o, ¬ S k o) → w'.heap[k]? = w.heap[k]?
  dom : ∀ a, (w'.cell? a).isSome = (w.cell? a).isSome

theorem Ch.refl (w : World) (S : Nat → Nat → Prop) : Ch w w S := ⟨rfl, rfl, rfl, rfl, fun _ => rfl, fun _ _ _ => rfl, fun _ _ => rfl, fun _ => rfl⟩
theorem Ch.drew {w w' : World} {S : Nat → Nat → Prop} (h : Ch w w' S) : Ch w w'.drew S := ⟨h.os, h.tape, h.output, h.size, h.fz, h.cell, h.blk, h.dom⟩
theorem Ch.drewN {w w' : World} {S : Nat → Nat → Prop} (h : Ch w w' S) (n : Nat) : Ch w (w'.drewN n) S := ⟨h.os, h.tape, h.output, h.size, h.fz, h.cell, h.blk, h.dom⟩
theorem Ch.setCell {w w' : World} {S : Nat → Nat → Prop} (h : Ch w w' S) {b o : Nat} (hS : S b o) (v : Value) : Ch w (w'.setCell ⟨b, o, none⟩ v) S := by
  refine ⟨h.os, h.tape, h.output, by simpa using h.size, fun a => by rw [World.frozen?_setCell]; exact h.fz a, fun b' o' hn => ?_, fun k hk => ?_, fun a => (isSome_set _ _ _ _).trans (h.dom a)⟩
  · rw [World.cell?_setCell_other]
    · exact h.cell b' o' hn
    · intro e
      injection e with e1 e2
      subst e1 e2
      exact hn hS
  · rw [Below.heap_setCell]
    · exact h.blk k hk
    · intro e
      have e' : k = b := e
      subst e'
      exact hk o hS
theorem Ch.trans {a b c : World} {S T : Nat → Nat → Prop} (h : Ch a b S) (k : Ch b c T) : Ch a c (fun x o => S x o ∨ T x o) :=
  ⟨k.os.trans h.os, k.tape.trans h.tape, k.output.trans h.output, k.size.trans h.size, fun x => (k.fz x).trans (h.fz x),
    fun x o hn => (k.cell x o fun q => hn (.inr q)).trans (h.cell x o fun q => hn (.inl q)),
    fun x hn => (k.blk x fun o q => hn o (.inr q)).trans (h.blk x fun o q => hn o (.inl q)), fun x => (k.dom x).trans (h.dom x)⟩
theorem Ch.mono {a b : World} {S T : Nat → Nat → Prop} (h : Ch a b S) (hi : ∀ x o, S x o → T x o) : Ch a b T :=
  ⟨h.os, h.tape, h.output, h.size, h.fz, fun x o hn => h.cell x o fun q => hn (hi x o q), fun x hn => h.blk x fun o q => hn o (hi x o q), h.dom⟩
theorem Ch.below {a b : World} {S : Nat → Nat → Prop} {n : Nat} (h : Ch a b S) (hn : ∀ x o, S x o → n ≤ x) : Below n a b :=
  ⟨h.os, h.tape, h.output, by rw [h.size]; exact Nat.le_refl _, fun k hk => h.blk k fun o q => by have := hn k o q; omega⟩

/-- A pointer to a waiter, or none. -/
def PV (o : Option Nat) : Value := .pointer (o.map fun x => ⟨x, 0, none⟩)
theorem PV_none : PV none = .pointer none := rfl
theorem PV_some (x : Nat) : PV (some x) = .pointer (some ⟨x, 0, none⟩) := rfl

/-- A piece of a list, with what stands before it and behind it. -/
def Seg (c : Nat → Nat → Option Value) : Option Nat → List Nat → Option Nat → Prop
  | _, [], _ => True
  | p, x :: r, n => c x 0 = some (PV p) ∧ c x 1 = some (PV (r.head?.or n)) ∧ Seg c (some x) r n

theorem Seg.congr {c c' : Nat → Nat → Option Value} : ∀ (xs : List Nat) {p n : Option Nat}, Seg c p xs n → (∀ x ∈ xs, c' x 0 = c x 0 ∧ c' x 1 = c x 1) → Seg c' p xs n
  | [], _, _, _, _ => trivial
  | x :: r, _, _, h, hc => ⟨(hc x (by simp)).1.trans h.1, (hc x (by simp)).2.trans h.2.1, Seg.congr r h.2.2 fun y hy => hc y (by simp [hy])⟩

theorem seg_append (c : Nat → Nat → Option Value) : ∀ (xs ys : List Nat) (p n : Option Nat), Seg c p (xs ++ ys) n ↔ Seg c p xs (ys.head?.or n) ∧ Seg c (xs.getLast?.or p) ys n
  | [], ys, p, n => by simp [Seg]
  | [x], ys, p, n => by simp [Seg, and_assoc]
  | x :: y :: r, ys, p, n => by
    have ih := seg_append c (y :: r) ys (some x) n
    rw [List.cons_append, Seg, ih, Seg]
    have e : ((y :: r) ++ ys).head? = some y := rfl
    have e1 : (x :: y :: r).getLast?.or p = (y :: r).getLast?.or (some x) := by
      rw [List.getLast?_cons_cons]
      cases hh : (y :: r).getLast? with
      | none => simp at hh
      | some z => rfl
    rw [e1]
    simp [Seg, and_assoc]

/-- A list's header at (hb, ho), and its things. -/
def LAt (w : World) (hb ho : Nat) (xs : List Nat) : Prop :=
  w.cell? ⟨hb, ho, none⟩ = some (PV xs.head?) ∧ w.cell? ⟨hb, ho + 1, none⟩ = some (PV xs.getLast?) ∧ Seg (fun b o => w.cell? ⟨b, o, none⟩) none xs none

theorem LAt.congr {w w' : World} {hb ho : Nat} {xs : List Nat} (h : LAt w hb ho xs) (h1 : w'.cell? ⟨hb, ho, none⟩ = w.cell? ⟨hb, ho, none⟩) (h2 : w'.cell? ⟨hb, ho + 1, none⟩ = w.cell? ⟨hb, ho + 1, none⟩)
    (h3 : ∀ x ∈ xs, w'.cell? ⟨x, 0, none⟩ = w.cell? ⟨x, 0, none⟩ ∧ w'.cell? ⟨x, 1, none⟩ = w.cell? ⟨x, 1, none⟩) : LAt w' hb ho xs :=
  ⟨h1.trans h.1, h2.trans h.2.1, Seg.congr xs h.2.2 h3⟩

theorem seg_push {c c' : Nat → Nat → Option Value} (xs : List Nat) (x : Nat) (h : Seg c none xs none) (hd : xs.Nodup)
    (h0 : ∀ y ∈ xs, c' y 0 = c y 0) (h1 : ∀ y ∈ xs, xs.getLast? ≠ some y → c' y 1 = c y 1) (h2 : ∀ y, xs.getLast? = some y → c' y 1 = some (PV (some x)))
    (hx0 : c' x 0 = some (PV xs.getLast?)) (hx1 : c' x 1 = some (PV none)) : Seg c' none (xs ++ [x]) none := by
  rw [seg_append]
  refine ⟨?_, by simpa [Seg] using ⟨hx0, hx1⟩⟩
  rcases List.eq_nil_or_concat xs with e | ⟨l, y, e⟩
  · subst e; trivial
  · have e' : xs = l ++ [y] := by simpa using e
    subst e'
    rw [seg_append] at h ⊢
    have hl : (l ++ [y]).getLast? = some y := by simp
    refine ⟨?_, ?_⟩
    · refine Seg.congr l h.1 fun z hz => ⟨h0 z (by simp [hz]), h1 z (by simp [hz]) ?_⟩
      rw [hl]
      intro q
      injection q with q
      subst q
      simp [List.nodup_append] at hd
      exact hd.2 _ hz rfl
    · refine ⟨(h0 y (by simp)).trans h.2.1, ?_, trivial⟩
      simpa using h2 y hl
theorem seg_remove {c c' : Nat → Nat → Option Value} (l r : List Nat) (x : Nat) (h : Seg c none (l ++ x :: r) none) (hd : (l ++ x :: r).Nodup)
    (h0 : ∀ y ∈ l ++ r, r.head? ≠ some y → c' y 0 = c y 0) (h1 : ∀ y ∈ l ++ r, l.getLast? ≠ some y → c' y 1 = c y 1)
    (h2 : ∀ y, r.head? = some y → c' y 0 = some (PV l.getLast?)) (h3 : ∀ y, l.getLast? = some y → c' y 1 = some (PV r.head?)) : Seg c' none (l ++ r) none := by
  rw [seg_append] at h ⊢
  obtain ⟨ha, hb⟩ := h
  have hd1 := List.nodup_append.1 hd
  have hlr : ∀ y ∈ l, y ∉ r := fun y hy hr => hd1.2.2 y hy y (by simp [hr]) rfl
  refine ⟨?_, ?_⟩
  · rcases List.eq_nil_or_concat l with e | ⟨k, y, e⟩
    · subst e; trivial
    · have e' : l = k ++ [y] := by simpa using e
      subst e'
      rw [seg_append] at ha ⊢
      have hl : (k ++ [y]).getLast? = some y := by simp
      have hr' : ∀ z ∈ k ++ [y], r.head? ≠ some z := fun z hz q => hlr z hz (List.mem_of_mem_head? q)
      refine ⟨Seg.congr k ha.1 fun z hz => ⟨h0 z (by simp [hz]) (hr' z (by simp [hz])), h1 z (by simp [hz]) ?_⟩, ?_⟩
      · rw [hl]
        intro q
        injection q with q
        subst q
        have := hd1.1
        simp [List.nodup_append] at this
        exact this.2 _ hz rfl
      · refine ⟨(h0 y (by simp) (hr' y (by simp))).trans ha.2.1, ?_, trivial⟩
        have := h3 y hl
        simpa using this
  · cases r with
    | nil => trivial
    | cons y s =>
      have hb3 : Seg c (some x) (y :: s) none := hb.2.2
      have hl' : ∀ z ∈ y :: s, l.getLast? ≠ some z := fun z hz q => hlr z (List.mem_of_mem_getLast? q) hz
      have hys : (y :: s).Nodup := (List.nodup_cons.1 hd1.2.1).2
      refine ⟨?_, (h1 y (by simp) (hl' y (by simp))).trans hb3.2.1, Seg.congr s hb3.2.2 fun z hz => ⟨h0 z (by simp [hz]) ?_, h1 z (by simp [hz]) (hl' z (by simp [hz]))⟩⟩
      · have := h2 y rfl
        simpa using this
      · intro q
        have q' : y = z := by simpa using q
        subst q'
        exact (List.nodup_cons.1 hys).1 hz
end Go.Proofs.YtogdekjklbbbiaaGreatDoor
