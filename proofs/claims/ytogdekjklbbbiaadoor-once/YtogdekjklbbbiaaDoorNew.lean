import Derived.Test.YtogdekjklbbbiaaDoorCan
set_option maxRecDepth 100000
namespace Go.Proofs.YtogdekjklbbbiaaDoor
open Go.ChangeShapes Go.WideShapes Go.ChangeAt Go.RowKit
set_option linter.unusedSimpArgs false
set_option linter.unusedVariables false
def zl : List Value := List.replicate 1410 (Value.pointer none) ++ List.replicate 11 (Value.int .u64 0)
def Z0 : Array Value := (Value.int .i64 0 :: Value.map none :: zl).toArray
theorem zero50 (w : World) : (zeroValue 86).run Tryd.prog w = .ok (.agg Z0) w := by kernel_rfl
theorem zl_length : zl.length = 1421 := by unfold zl; rw [List.length_append, List.length_replicate, List.length_replicate]
theorem Z0_size : Z0.size = 1423 := by unfold Z0; rw [List.size_toArray, List.length_cons, List.length_cons, zl_length]
theorem zl_lo (o : Nat) (h : o < 1410) : zl[o]? = some (.pointer none) := by
  unfold zl
  rw [List.getElem?_append_left (by rw [List.length_replicate]; exact h), List.getElem?_replicate, if_pos h]
theorem zl_hi (o : Nat) (h : 1410 ≤ o) (h' : o < 1421) : zl[o]? = some (.int .u64 0) := by
  unfold zl
  rw [List.getElem?_append_right (by rw [List.length_replicate]; exact h), List.length_replicate, List.getElem?_replicate, if_pos (by omega)]
theorem Z1_at (m o : Nat) : (Z0.setIfInBounds 1 (.map (some m)))[o]? = if o = 1 then some (.map (some m)) else if o = 0 then some (.int .i64 0) else zl[o - 2]? := by
  rw [Array.getElem?_setIfInBounds]
  by_cases h : 1 = o
  · rw [if_pos h, if_pos h.symm, if_pos (by rw [Z0_size]; omega)]
  · rw [if_neg h, if_neg (fun e => h e.symm)]
    unfold Z0
    rw [List.getElem?_toArray]
    match o with
    | 0 => rfl
    | 1 => omega
    | o + 2 => simp
set_option maxRecDepth 1000000 in
set_option maxHeartbeats 400000 in
theorem new_walk (w : World) :
    Calls Tryd.prog 9 #[] w fun e w' => e = .returned (.pointer (some ⟨w.heap.size + 1, 0, none⟩)) ∧ w' = (w.alloc (.map #[] 0)).alloc (.cells (Z0.setIfInBounds 1 (.map (some w.heap.size))) 86) := by
  have hmm := @run_makeMap Tryd.prog
  have hb := zero50
  have hz := Z0_size
  go_enter Tryd.func9, Tryd.ntmps9
  go_wp2_with fail
  go_ret
  exact ⟨rfl, rfl⟩
theorem new_any (w : World) :
    Calls Tryd.prog 9 #[] w fun e w' => e = .returned (.pointer (some ⟨w.heap.size + 1, 0, none⟩)) ∧ Fr w w' (fun _ => False) ∧ w'.heap.size = w.heap.size + 2 ∧
      WH w' (w.heap.size + 1) w.heap.size (fun k => w.heap.size ≤ k ∧ k < w.heap.size + 2) 0 [] (fun _ => []) (fun _ => 0) (fun _ => 0) (fun _ => 0) := by
  refine (new_walk w).mono ?_
  rintro e w' ⟨rfl, rfl⟩
  have hsz : (w.alloc (.map #[] 0)).heap.size = w.heap.size + 1 := by simp
  have hc : ∀ o, ((w.alloc (.map #[] 0)).alloc (.cells (Z0.setIfInBounds 1 (.map (some w.heap.size))) 86)).cell? ⟨w.heap.size + 1, o, none⟩ = (Z0.setIfInBounds 1 (.map (some w.heap.size)))[o]? := by
    intro o
    have := cellN (w.alloc (.map #[] 0)) (Z0.setIfInBounds 1 (.map (some w.heap.size))) 86 o
    rw [hsz] at this
    exact this
  have hm : ((w.alloc (.map #[] 0)).alloc (.cells (Z0.setIfInBounds 1 (.map (some w.heap.size))) 86)).heap[w.heap.size]? = (w.alloc (.map #[] 0)).heap[w.heap.size]? := Below.heap_alloc _ _ _ (by rw [hsz]; omega)
  refine ⟨rfl, ((Fr.refl w _).alloc _).alloc _, by simp, ⟨⟨?_, by omega, by omega, by omega, fun p _ x hx => by simp at hx, by omega, ?_, ?_, ?_, ?_, ?_, fun p _ x hx => by simp at hx, fun _ _ => List.nodup_nil, fun p q x _ _ hx => by simp at hx⟩, ?_, ?_, ?_⟩⟩
  · intro k hk
    simp
    omega
  · rw [hc, Z1_at]; rfl
  · rw [hc, Z1_at]; rfl
  · intro p hp
    refine ⟨?_, ?_, trivial⟩
    · rw [hc, Z1_at, if_neg (by omega), if_neg (by omega), zl_lo _ (by omega)]; rfl
    · rw [hc, Z1_at, if_neg (by omega), if_neg (by omega), zl_lo _ (by omega)]; rfl
  · intro l hl
    rw [hc, Z1_at, if_neg (by omega), if_neg (by omega), zl_hi _ (by omega) (by omega)]; rfl
  · intro k hk o
    rw [frozen?_alloc_cells]
    unfold World.frozen?
    by_cases e : k = w.heap.size
    · subst e
      have := (MapKept.heap_alloc w (.map #[] 0)).1
      simp only [this]
    · have : (w.alloc (.map #[] 0)).heap[k]? = none := by
        rw [Array.getElem?_eq_none_iff, hsz]; omega
      simp only [this]
  · exact (MapOK.made w).kept hm
  · intro l hl
    refine ⟨by show 0 < _; omega, fun s hs => ?_⟩
    simp
  · exact ⟨List.nodup_nil, fun x hx => by simp at hx, fun x hx => by simp at hx, fun p _ x hx => by simp at hx, fun x hx => by simp at hx⟩
end Go.Proofs.YtogdekjklbbbiaaDoor
