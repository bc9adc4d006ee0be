import Derived.Test.YtogdekjklbbbiaaDoorRows
import Derived.Test.YtogdekjklbbbiaaDoorCh
import Derived.LaidEqlPtr
namespace Go.Proofs.YtogdekjklbbbiaaDoor
open Go.ChangeShapes Go.WideShapes Go.ChangeAt Go.RowKit
set_option linter.unusedSimpArgs false
set_option linter.unusedVariables false
theorem cells_of {w : World} {x o : Nat} {v : Value} (h : w.cell? ⟨x, o, none⟩ = some v) : ∃ c e f, w.heap[x]? = some (.cells c e f) := by
  unfold World.cell? at h
  split at h
  · exact ⟨_, _, _, by assumption⟩
  · cases h
theorem sameAddr_ne {P : Program} {w : World} {x y : Nat} {u v : Value} (hxy : x ≠ y) (hx : w.cell? ⟨x, 0, none⟩ = some u) (hy : w.cell? ⟨y, 0, none⟩ = some v) (hf : ∀ o, w.frozen? ⟨x, o, none⟩ = false) (hf' : ∀ o, w.frozen? ⟨y, o, none⟩ = false) :
    (sameAddr ⟨x, 0, none⟩ ⟨y, 0, none⟩).run P w = .ok false w := by
  obtain ⟨c, e, f, hx⟩ := cells_of hx
  obtain ⟨c', e', f', hy⟩ := cells_of hy
  simp [sameAddr, hxy, hf, hf', hx, hy, noView, viewAt, World.shape?, mayBeOne, stringish]
theorem ptrinfo : (Tryd.prog.info? 134).map (fun i => i.size) = some 8 := by kernel_rfl
theorem eqp_ne {w : World} {x y : Nat} {u v : Value} (hxy : x ≠ y) (hx : w.cell? ⟨x, 0, none⟩ = some u) (hy : w.cell? ⟨y, 0, none⟩ = some v) (hf : ∀ o, w.frozen? ⟨x, o, none⟩ = false) (hf' : ∀ o, w.frozen? ⟨y, o, none⟩ = false) :
    (binOp .eql 132 (.pointer (some ⟨x, 0, none⟩)) (.pointer (some ⟨y, 0, none⟩))).run Tryd.prog w = .ok (.bool false) w := by
  obtain ⟨j, hj, hs⟩ : ∃ j, Tryd.prog.info? 134 = some j ∧ j.size = 8 := by
    have := ptrinfo
    cases h : Tryd.prog.info? 134 with
    | none => rw [h] at this; cases this
    | some j => rw [h] at this; exact ⟨j, rfl, by simpa using this⟩
  have hsa := sameAddr_ne (P := Tryd.prog) hxy hx hy hf hf'
  have h : ∀ d : Nat, (Op.equalIn (d + 1) 132 (.pointer (some ⟨x, 0, none⟩)) (.pointer (some ⟨y, 0, none⟩))).run Tryd.prog w = .ok false w := fun d => by
    simp [Op.equalIn, run_underlying Tryd.underlying132, sizeOf, typeInfo, hj, hs, hsa]
  simp only [binOp]
  simp [Op.equal, Op.maxDepth, h 9999]
theorem eqp_same (w : World) (x : Nat) : (binOp .eql 132 (.pointer (some ⟨x, 0, none⟩)) (.pointer (some ⟨x, 0, none⟩))).run Tryd.prog w = .ok (.bool true) w := by
  obtain ⟨j, hj, hs⟩ : ∃ j, Tryd.prog.info? 134 = some j ∧ j.size = 8 := by
    have := ptrinfo
    cases h : Tryd.prog.info? 134 with
    | none => rw [h] at this; cases this
    | some j => rw [h] at this; exact ⟨j, rfl, by simpa using this⟩
  exact run_eql_ptr_same w _ Tryd.underlying132 hj
end Go.Proofs.YtogdekjklbbbiaaDoor
