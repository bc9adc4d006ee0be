import Derived.Test.YtogdekjklbbbiaaDoorPlace
import Derived.Maps.OwnSet
namespace Go.Proofs.YtogdekjklbbbiaaDoor
open Go.ChangeShapes Go.WideShapes Go.ChangeAt Go.RowKit
set_option linter.unusedSimpArgs false
set_option linter.unusedVariables false

/-- A frame: what is not of O, and was there, is as it was. -/
structure Fr (w w' : World) (O : Nat → Prop) : Prop where
  os : w'.os = w.os
  tape : w'.tape = w.tape
  output : w'.output = w.output
  size : w.heap.size ≤ w'.heap.size
  blk : ∀ k, k < w.heap.size → ¬ O k → w'.heap[k]? = w.heap[k]?
theorem Fr.refl (w : World) (O : Nat → Prop) : Fr w w O := ⟨rfl, rfl, rfl, Nat.le_refl _, fun _ _ _ => rfl⟩
theorem Ch.fr {w w' : World} {O : Nat → Prop} {m : Nat} (h : Ch w w' (fun a _ => O a ∧ a ≠ m)) : Fr w w' O := ⟨h.os, h.tape, h.output, by rw [h.size]; exact Nat.le_refl _, fun k _ hn => h.blk k fun _ q => hn q.1⟩
theorem Fr.trans {a b c : World} {O O' : Nat → Prop} (h : Fr a b O) (k : Fr b c O') (hO : ∀ x, x < a.heap.size → O' x → O x) : Fr a c O :=
  ⟨k.os.trans h.os, k.tape.trans h.tape, k.output.trans h.output, Nat.le_trans h.size k.size, fun x hx hn => (k.blk x (Nat.lt_of_lt_of_le hx h.size) fun q => hn (hO x hx q)).trans (h.blk x hx hn)⟩
theorem Fr.alloc {w w' : World} {O : Nat → Prop} (h : Fr w w' O) (o : Obj) : Fr w (w'.alloc o) O :=
  ⟨h.os, h.tape, h.output, Nat.le_trans h.size (by simp), fun k hk hn => by rw [Below.heap_alloc _ _ _ (Nat.lt_of_lt_of_le hk h.size)]; exact h.blk k hk hn⟩
theorem Fr.drew {w w' : World} {O : Nat → Prop} (h : Fr w w' O) : Fr w w'.drew O := ⟨h.os, h.tape, h.output, h.size, h.blk⟩
theorem Fr.drewN {w w' : World} {O : Nat → Prop} (h : Fr w w' O) (n : Nat) : Fr w (w'.drewN n) O := ⟨h.os, h.tape, h.output, h.size, h.blk⟩
theorem Fr.below {w w' : World} {O : Nat → Prop} {n : Nat} (h : Fr w w' O) (hn : ∀ k, O k → n ≤ k) (hw : n ≤ w.heap.size) : Below n w w' :=
  ⟨h.os, h.tape, h.output, h.size, fun k hk => h.blk k (by omega) fun q => by have := hn k q; omega⟩

def ptrElem : Value → Option (DataW Unit × List MemPlace)
  | .pointer none => some (.nil, [])
  | .pointer (some ⟨x, 0, none⟩) => some (.lit (.int .i64 (x : Int)), [])
  | _ => none
def ptrD (o : Option Nat) : DataW Unit := match o with | none => .nil | some x => .lit (.int .i64 (x : Int))
theorem ptrElem_PV (o : Option Nat) : ptrElem (PV o) = some (ptrD o, []) := by cases o <;> rfl
theorem ptrElem_inv {v : Value} {o : Option Nat} {ps : List MemPlace} (h : ptrElem v = some (ptrD o, ps)) : v = PV o := by
  unfold ptrElem at h
  split at h
  · cases o with
    | none => rfl
    | some x => simp [ptrD] at h
  · rename_i y
    cases o with
    | none => simp [ptrD] at h
    | some x =>
      simp [ptrD] at h
      obtain rfl : y = x := by omega
      rfl
  · simp at h

theorem key3 : Maps.Keyed Tryd.prog 3 := Maps.int_keyed Tryd.underlying3
theorem zero42 (w : World) : (zeroValue 78).run Tryd.prog w = .ok (.pointer none) w := by kernel_rfl

/-- The map's block: for the number i it has f i; it has n entries. -/
def MapOK (w : World) (m : Nat) (f : Int → Option Nat) (n : Nat) : Prop :=
  ∃ D : DataW Unit, w.ownsMap Tryd.prog 3 ptrElem m n D ∧ Maps.size D = n ∧ (∀ i : Int, D.atKey (.int .i64 i) .nil = ptrD (f i) ∧ Maps.has D (.int .i64 i) = (f i).isSome)

theorem MapOK.look {w : World} {m n : Nat} {f : Int → Option Nat} (h : MapOK w m f n) (i : Int) (hi : (Lit.int .i64 i).wf = true) :
    (Instr.lookup 77 (.map (some m)) (.int .i64 i) false).run Tryd.prog w = .ok (PV (f i)) w := by
  obtain ⟨D, h1, h2, h3⟩ := h
  obtain ⟨v, ps, hrun, hv⟩ := h1.lookup key3 Tryd.underlying77 (zero42 w) (ptrElem_PV none) (Maps.keyOf_int_mk Tryd.underlying3 hi)
  rw [hrun]
  have e : D.atKey (.int .i64 i) (ptrD none) = ptrD (f i) := (h3 i).1
  rw [e] at hv
  rw [ptrElem_inv hv]
theorem MapOK.len {w : World} {m n : Nat} {f : Int → Option Nat} (h : MapOK w m f n) (ty : TypeId) : (Builtin.len_ #[77] ty #[.map (some m)]).run Tryd.prog w = .ok (.int .i64 (n : Int)) w := by
  obtain ⟨D, h1, h2, h3⟩ := h
  rw [h1.len Tryd.underlying77 ty, h2]
theorem tight {w : World} {m n : Nat} {D : DataW Unit} (h : w.ownsMap Tryd.prog 3 ptrElem m n D) : w.ownsMap Tryd.prog 3 ptrElem m (Maps.size D) D := by
  obtain ⟨es, clock, hb, F, hs, rfl⟩ := h
  refine ⟨es, clock, hb, F, ?_, rfl⟩
  rw [Maps.size_eq, length_sorted]
  simp
theorem MapOK.put {w : World} {m n : Nat} {f : Int → Option Nat} (h : MapOK w m f n) (hn : n < maxLen) (i : Int) (hi : (Lit.int .i64 i).wf = true) (hf : f i = none) (x : Nat) :
    ∃ w', (Instr.mapUpdate 77 (.map (some m)) (.int .i64 i) (.pointer (some ⟨x, 0, none⟩))).run Tryd.prog w = .ok () w' ∧ MapOK w' m (fun j => if j = i then some x else f j) (n + 1) ∧ w.mapTurned w' m := by
  obtain ⟨D, h1, h2, h3⟩ := h
  obtain ⟨w', hrun, ho, ht⟩ := h1.store key3 Tryd.underlying77 hn (Maps.keyOf_int_mk Tryd.underlying3 hi) (ptrElem_PV (some x))
  have hk : WideAt.IsKeyLit (.int .i64 i) := trivial
  have htd := h1.tidy key3
  have hhas : Maps.has D (.int .i64 i) = false := by rw [(h3 i).2, hf]; rfl
  have hsz : Maps.size (D.put (.int .i64 i) (ptrD (some x))) = n + 1 := by rw [Maps.size_put htd, hhas, h2]; rfl
  refine ⟨w', hrun, ⟨_, by rw [← hsz]; exact tight ho, hsz, fun j => ?_⟩, ht⟩
  dsimp only
  by_cases e : j = i
  · subst e
    rw [if_pos rfl, Maps.atKey_put_same h1.isMap hk, Maps.has_put_same h1.isMap hk]
    exact ⟨rfl, rfl⟩
  · have hne : Lit.int .i64 j ≠ Lit.int .i64 i := fun q => e (by injection q)
    rw [if_neg e, Maps.atKey_put_other hne, Maps.has_put_other hne]
    exact h3 j
theorem MapOK.del {w : World} {m n : Nat} {f : Int → Option Nat} (h : MapOK w m f (n + 1)) (i : Int) (hi : (Lit.int .i64 i).wf = true) (hf : (f i).isSome = true) (ty : TypeId) :
    ∃ w', (Builtin.delete_ #[77, 3] ty #[.map (some m), .int .i64 i]).run Tryd.prog w = .ok (.tuple #[]) w' ∧ MapOK w' m (fun j => if j = i then none else f j) n ∧ w.mapTurned w' m := by
  obtain ⟨D, h1, h2, h3⟩ := h
  obtain ⟨w', hrun, ho, ht⟩ := h1.drop key3 Tryd.underlying77 (Maps.keyOf_int_mk Tryd.underlying3 hi) ty
  have htd := h1.tidy key3
  have hsz : Maps.size (D.del (.int .i64 i)) = n := by
    have := Maps.size_del (k := .int .i64 i) htd
    rw [(h3 i).2, hf, h2] at this
    simpa using this
  refine ⟨w', hrun, ⟨_, by rw [← hsz]; exact tight ho, hsz, fun j => ?_⟩, ht⟩
  dsimp only
  by_cases e : j = i
  · subst e
    rw [if_pos rfl, Maps.atKey_del_same, Maps.has_del_same]
    exact ⟨rfl, rfl⟩
  · have hne : Lit.int .i64 j ≠ Lit.int .i64 i := fun q => e (by injection q)
    rw [if_neg e, Maps.atKey_del_other hne, Maps.has_del_other hne]
    exact h3 j
theorem MapOK.kept {w w' : World} {m n : Nat} {f : Int → Option Nat} (h : MapOK w m f n) (hk : w'.heap[m]? = w.heap[m]?) : MapOK w' m f n := by
  obtain ⟨D, ⟨es, clock, hb, r⟩, h2, h3⟩ := h
  exact ⟨D, ⟨es, clock, by rw [hk]; exact hb, r⟩, h2, h3⟩
theorem MapOK.congr {w : World} {m n : Nat} {f g : Int → Option Nat} (h : MapOK w m f n) (hg : ∀ i, g i = f i) : MapOK w m g n := by
  obtain ⟨D, h1, h2, h3⟩ := h
  exact ⟨D, h1, h2, fun i => by rw [hg]; exact h3 i⟩
theorem MapOK.made (w : World) : MapOK (w.alloc (.map #[] 0)) w.heap.size (fun _ => none) 0 :=
  ⟨.map [], World.ownsMap_made w _ _ _, rfl, fun i => ⟨rfl, rfl⟩⟩

theorem turned_fr {w w' : World} {m : Nat} {O : Nat → Prop} (h : w.mapTurned w' m) (hm : O m) : Fr w w' O ∧ w'.heap.size = w.heap.size ∧ (∀ k, k ≠ m → w'.heap[k]? = w.heap[k]?) ∧ (∀ a, w'.frozen? a = w.frozen? a) := by
  have hf := h.frozen
  obtain ⟨es, clock, es', clock', hb, rfl⟩ := h
  refine ⟨⟨rfl, rfl, rfl, by simp [ChangeMaps.setBlock], fun k _ hn => ?_⟩, by simp [ChangeMaps.setBlock], fun k hk => ?_, hf⟩
  · exact ChangeMaps.heap_setBlock_other hb _ (fun e => hn (e ▸ hm))
  · exact ChangeMaps.heap_setBlock_other hb _ hk
theorem WM.kept2 {w w' : World} {b m : Nat} {O : Nat → Prop} {now : Nat} {ls : Nat → List Nat} {us ids ats : Nat → Nat} (h : WM w b m O now ls us ids ats) (hs : w.heap.size ≤ w'.heap.size) (hk : ∀ k, O k → k ≠ m → w'.heap[k]? = w.heap[k]?) (hf : ∀ k, O k → ∀ o, w'.frozen? ⟨k, o, none⟩ = false) : WM w' b m O now ls us ids ats := by
  have hcell : ∀ k, O k → k ≠ m → ∀ o, w'.cell? ⟨k, o, none⟩ = w.cell? ⟨k, o, none⟩ := fun k hO hm o => World.cell?_of_block (w := w) (hk k hO hm)
  refine ⟨fun k hO => Nat.lt_of_lt_of_le (h.olt k hO) hs, h.ob, h.om, h.bm, h.ox, h.nowlt, by rw [hcell _ h.ob h.bm]; exact h.cnow, by rw [hcell _ h.ob h.bm]; exact h.cmap, ?_, ?_, hf, ?_, h.nd, h.dj⟩
  · intro q hq
    exact (h.cl q hq).congr (hcell _ h.ob h.bm _) (hcell _ h.ob h.bm _) fun x hx => ⟨hcell _ (h.ox q hq x hx).1 (h.ox q hq x hx).2.2 _, hcell _ (h.ox q hq x hx).1 (h.ox q hq x hx).2.2 _⟩
  · intro l hl
    rw [hcell _ h.ob h.bm]; exact h.cu l hl
  · intro q hq x hx
    rw [hcell _ (h.ox q hq x hx).1 (h.ox q hq x hx).2.2, hcell _ (h.ox q hq x hx).1 (h.ox q hq x hx).2.2]; exact h.cw q hq x hx
end Go.Proofs.YtogdekjklbbbiaaDoor
