import Derived.Test.YtogdekjklbbbiaaDoorCh
import Derived.Test.YtogdekjklbbbiaaDoorRows
import Derived.Defers
import Derived.Laws.Pointers
import Derived.Laws.LoneSync
import Derived.Laws.NewBlocks
import Derived.RegionTactic
import Derived.RegionCalls
import Derived.Laws.Rows
import Derived.Deep.LoopGhost
import Derived.Test.YtogdekjklbbbiaaDoorPush
import Derived.Deep.RegionHeld3
set_option maxRecDepth 100000
namespace Go.Proofs.YtogdekjklbbbiaaDoor
open Go.ChangeShapes Go.WideShapes Go.ChangeAt Go.RowKit
set_option linter.unusedSimpArgs false
set_option linter.unusedVariables false

theorem race_disable (w : World) : (callFunc 111 #[]).run Tryd.prog w = .ok (.value (.tuple #[])) w := run_call_mark0 Tryd.func111 (by kernel_rfl) (by kernel_rfl) (by kernel_rfl) .disable (by kernel_rfl) w
theorem race_enable (w : World) : (callFunc 113 #[]).run Tryd.prog w = .ok (.value (.tuple #[])) w := run_call_mark0 Tryd.func113 (by kernel_rfl) (by kernel_rfl) (by kernel_rfl) .enable (by kernel_rfl) w
theorem race_acquire (a : Addr) (w : World) : (callFunc 114 #[.pointer (some a)]).run Tryd.prog w = .ok (.value (.tuple #[])) w := run_call_marked Tryd.func114 (by kernel_rfl) (by kernel_rfl) (by kernel_rfl) .acquire (by kernel_rfl) a w
theorem race_merge (a : Addr) (w : World) : (callFunc 116 #[.pointer (some a)]).run Tryd.prog w = .ok (.value (.tuple #[])) w := run_call_marked Tryd.func116 (by kernel_rfl) (by kernel_rfl) (by kernel_rfl) .releaseMerge (by kernel_rfl) a w
set_option maxHeartbeats 1600000 in
/-- Store(true), as a deferred call. -/
theorem store_deferred (a : Addr) (x : Value) (u : FrameMode) (w : World) (hc : w.cell? a = some x) (hz : w.frozen? a = false) :
    CallsD Tryd.prog 100 #[.pointer (some a), .bool true] u w fun e u' w' => u' = u ∧ (e = .returned (.tuple #[]) ∧ w' = w.drew.setCell a (.int .u32 1)) := by
  have hc' : w.drew.cell? a = some x := by go_simp
  have hz' : w.drew.frozen? a = false := by go_simp
  have hst := run_call_store (P := Tryd.prog) Tryd.func107 (by kernel_rfl) (by kernel_rfl) (by kernel_rfl) (by kernel_rfl) (k := .u32) (y := 1) hc' hz'
  go_enter_d Tryd.func100, Tryd.ntmps100
  go_wp2
  go_region_calls
  all_goals (go_end0; exact ⟨rfl, rfl⟩)
set_option maxHeartbeats 1600000 in
/-- Unlock, as a deferred call. -/
theorem unlock_deferred (a : Addr) (u : FrameMode) (w : World) (hc : w.cell? a = some (.int .i32 1)) (hz : w.frozen? a = false) :
    CallsD Tryd.prog 99 #[.pointer (some a)] u w fun e u' w' => u' = u ∧ (e = .returned (.tuple #[]) ∧ w' = w.setCell a (.int .i32 0)) := by
  have hd := race_disable
  have he := race_enable
  have hr := race_merge
  have hadd := run_call_add (P := Tryd.prog) Tryd.func117 (by kernel_rfl) (by kernel_rfl) (by kernel_rfl) .i32 (by kernel_rfl) (y := -1) (s := 0) hc hz (by simp [go_sem]; rfl)
  have hcv := run_convert_to_unsafe (P := Tryd.prog) (src := 193) (dst := 197) Tryd.underlying193 Tryd.underlying197 (by kernel_rfl) hc
  go_enter_d Tryd.func99, Tryd.ntmps99
  go_wp2
  go_end0
  all_goals (go_wp2)
  all_goals (go_end0; exact ⟨rfl, rfl⟩)
set_option maxHeartbeats 1600000 in
/-- Lock, the lock free. -/
theorem lock_free (a : Addr) (w : World) (hc : w.cell? a = some (.int .i32 0)) (hz : w.frozen? a = false) :
    Calls Tryd.prog 98 #[.pointer (some a)] w fun e w' => e = .returned (.tuple #[]) ∧ w' = w.setCell a (.int .i32 1) := by
  have hd := race_disable
  have he := race_enable
  have ha := race_acquire
  have hcas := run_call_cas_hit (P := Tryd.prog) Tryd.func112 (by kernel_rfl) (by kernel_rfl) (by kernel_rfl) .i32 (by kernel_rfl) (y := 1) hc hz
  have hc' : (w.setCell a (.int .i32 1)).cell? a = some (.int .i32 1) := World.cell?_setCell_same w a _ hc
  have hcv := run_convert_to_unsafe (P := Tryd.prog) (src := 193) (dst := 197) Tryd.underlying193 Tryd.underlying197 (by kernel_rfl) hc'
  go_enter Tryd.func98, Tryd.ntmps98
  go_wp2
  first | go_end0 | (simp only [Exit.inBlock, Exit.then]; refine bodyPost_ret (results_none rfl _ _ _) rfl ?_) | refine bodyPost_ret (results_none rfl _ _ _) rfl ?_
  all_goals (go_wp2)
  all_goals (go_end0; exact ⟨rfl, rfl⟩)
set_option maxHeartbeats 1600000 in
/-- Do, done already. -/
theorem do_done (a : Addr) (d : Int) (hd : ¬ d = 0) (fv : Value) (w : World) (h0 : w.cell? a = some (.int .u32 d)) :
    Calls Tryd.prog 61 #[.pointer (some a), fv] w fun e w' => e = .returned (.tuple #[]) ∧ w' = w := by
  have hl := run_call_load (P := Tryd.prog) Tryd.func97 (by kernel_rfl) (by kernel_rfl) (by kernel_rfl) .u32 (by kernel_rfl) h0
  have hnot : ∀ (x : Bool) (w : World), (Op.unary .not (.bool x)).run Tryd.prog w = .ok (.bool (!x)) w := fun _ _ => rfl
  have hd' : (d != 0) = true := by simp [hd]
  go_enter Tryd.func61, Tryd.ntmps61
  go_wp2
  go_end0
  exact ⟨rfl, rfl⟩
end Go.Proofs.YtogdekjklbbbiaaDoor

namespace Go.Proofs.YtogdekjklbbbiaaDoor
open Go.ChangeShapes Go.WideShapes Go.ChangeAt Go.RowKit
set_option linter.unusedSimpArgs false
set_option linter.unusedVariables false

set_option maxHeartbeats 1600000 in
/-- doSlow, not yet done and the lock free. -/
theorem slow_walk (b : Nat) (z1 z4 z5 : Addr) (w : World) (R : World → Prop) (h12 : w.cell? ⟨b, 12, none⟩ = some (.int .u32 0)) (h13 : w.cell? ⟨b, 13, none⟩ = some (.int .i32 0)) (f13 : w.frozen? ⟨b, 13, none⟩ = false)
    (hCl : Calls Tryd.prog 62 #[.pointer (some z1), .pointer (some z4), .pointer (some z5)] (w.setCell ⟨b, 13, none⟩ (.int .i32 1)) fun e w' => e = .returned (.tuple #[]) ∧ R w')
    (hR : ∀ w1, R w1 → w1.cell? ⟨b, 12, none⟩ = some (.int .u32 0) ∧ w1.frozen? ⟨b, 12, none⟩ = false ∧ w1.cell? ⟨b, 13, none⟩ = some (.int .i32 1) ∧ w1.frozen? ⟨b, 13, none⟩ = false) :
    Calls Tryd.prog 87 #[.pointer (some ⟨b, 12, none⟩), .func (.func 62) #[] #[.pointer (some z1), .pointer (some z4), .pointer (some z5)]] w fun e w' => e = .returned (.tuple #[]) ∧ ∃ w1, R w1 ∧ w' = (w1.drew.setCell ⟨b, 12, none⟩ (.int .u32 1)).setCell ⟨b, 13, none⟩ (.int .i32 0) := by
  have hl := run_call_load (P := Tryd.prog) Tryd.func97 (by kernel_rfl) (by kernel_rfl) (by kernel_rfl) .u32 (by kernel_rfl) (w := w.setCell ⟨b, 13, none⟩ (.int .i32 1)) (a := ⟨b, 12, none⟩) (x := 0) ((World.cell?_setCell_other _ ⟨b, 13, none⟩ ⟨b, 12, none⟩ _ (by simp)).trans h12)
  have hnot : ∀ (x : Bool) (w : World), (Op.unary .not (.bool x)).run Tryd.prog w = .ok (.bool (!x)) w := fun _ _ => rfl
  have HCl := hide hCl; have HR := hide hR
  clear hCl hR
  go_enter_defers Tryd.func87, Tryd.ntmps87
  go_wp2_with (first | (go_at_call 98; refine (lock_free ⟨b, 13, none⟩ _ (by first | exact h13 | go_simp) (by first | exact f13 | go_simp)).mono ?_; rintro e w' ⟨rfl, rfl⟩) | (go_at_call 86; go_in))
  refine (unhide HCl).mono ?_
  rintro e w1 ⟨rfl, hw1⟩
  obtain ⟨k12, g12, k13, g13⟩ := unhide HR w1 hw1
  have HW1 := hide hw1
  clear hw1
  go_wp2
  refine leaves_cons (f := 100) (args := #[.pointer (some ⟨b, 12, none⟩), .bool true]) (by simp) (by simp [go_sem]) ?_
  refine (store_deferred ⟨b, 12, none⟩ (.int .u32 0) .returning _ k12 g12).mono ?_
  rintro e u' w'' ⟨rfl, rfl, rfl⟩
  refine leaves_cons (f := 99) (args := #[.pointer (some ⟨b, 13, none⟩)]) (by simp [settle]) (by simp [go_sem]) ?_
  refine (unlock_deferred ⟨b, 13, none⟩ _ _ ?_ (by simp [g13])).mono ?_
  · refine (World.cell?_setCell_other _ ⟨b, 12, none⟩ ⟨b, 13, none⟩ _ (by simp)).trans ?_
    rw [World.cell?_drew]
    exact k13
  rintro e u' w'' ⟨rfl, rfl, rfl⟩
  simp [Leaves, settle, results, Tryd.results87]
  exact ⟨_, unhide HW1, rfl⟩
set_option maxHeartbeats 1600000 in
/-- Do, not yet done. -/
theorem do_walk (b : Nat) (z1 z4 z5 : Addr) (w : World) (Post : World → Prop) (h12 : w.cell? ⟨b, 12, none⟩ = some (.int .u32 0))
    (hS : Calls Tryd.prog 87 #[.pointer (some ⟨b, 12, none⟩), .func (.func 62) #[] #[.pointer (some z1), .pointer (some z4), .pointer (some z5)]] w fun e w' => e = .returned (.tuple #[]) ∧ Post w') :
    Calls Tryd.prog 61 #[.pointer (some ⟨b, 12, none⟩), .func (.func 62) #[] #[.pointer (some z1), .pointer (some z4), .pointer (some z5)]] w fun e w' => e = .returned (.tuple #[]) ∧ Post w' := by
  have hl := run_call_load (P := Tryd.prog) Tryd.func97 (by kernel_rfl) (by kernel_rfl) (by kernel_rfl) .u32 (by kernel_rfl) h12
  have hnot : ∀ (x : Bool) (w : World), (Op.unary .not (.bool x)).run Tryd.prog w = .ok (.bool (!x)) w := fun _ _ => rfl
  have HS := hide hS
  clear hS
  go_enter Tryd.func61, Tryd.ntmps61
  go_wp2_with (first | (go_at_call 87; refine (unhide HS).mono ?_; rintro e w1 ⟨rfl, hp⟩; have HP := hide hp; clear hp) | (go_at_call 86; go_in))
  go_end0
  exact ⟨rfl, unhide HP⟩
end Go.Proofs.YtogdekjklbbbiaaDoor

namespace Go.Proofs.YtogdekjklbbbiaaDoor
open Go.ChangeShapes Go.WideShapes Go.ChangeAt Go.RowKit
set_option linter.unusedSimpArgs false
set_option linter.unusedVariables false

set_option maxHeartbeats 1600000 in
/-- The function that Close hands to Do. -/
theorem clos_walk (b z1 z4 z5 : Nat) (x15 : Value) (w : World) (R : Value → World → Prop) (hz1 : w.cell? ⟨z1, 0, none⟩ = some (.pointer (some ⟨b, 0, none⟩))) (h15 : w.cell? ⟨b, 15, none⟩ = some x15) (f15 : w.frozen? ⟨b, 15, none⟩ = false) (hne : z1 ≠ b)
    (hD : Calls Tryd.prog 63 #[.pointer (some ⟨b, 0, none⟩)] (w.setCell ⟨b, 15, none⟩ (.bool true)) fun e w' => ∃ a n c, e = .returned (.slice a n c) ∧ R (.slice a n c) w')
    (hR : ∀ v w1, R v w1 → (∃ x, w1.cell? ⟨z4, 0, none⟩ = some x) ∧ w1.frozen? ⟨z4, 0, none⟩ = false ∧ (∃ x, w1.cell? ⟨z5, 0, none⟩ = some x) ∧ w1.frozen? ⟨z5, 0, none⟩ = false ∧ z4 ≠ z5) :
    Calls Tryd.prog 62 #[.pointer (some ⟨z1, 0, none⟩), .pointer (some ⟨z4, 0, none⟩), .pointer (some ⟨z5, 0, none⟩)] w fun e w' => e = .returned (.tuple #[]) ∧ ∃ v w1, R v w1 ∧ w' = (w1.setCell ⟨z4, 0, none⟩ v).setCell ⟨z5, 0, none⟩ (.int .i64 0) := by
  have HD := hide hD; have HR := hide hR
  clear hD hR
  have hz1' : (w.setCell ⟨b, 15, none⟩ (.bool true)).cell? ⟨z1, 0, none⟩ = some (.pointer (some ⟨b, 0, none⟩)) := (World.cell?_setCell_other _ ⟨b, 15, none⟩ ⟨z1, 0, none⟩ _ (fun e => hne (by injection e with e; exact e.symm))).trans hz1
  go_enter Tryd.func62, Tryd.ntmps62
  go_wp2_with (first | (go_at_call 63; refine (unhide HD).mono ?_; rintro e w1 ⟨a, n, c, rfl, hw1⟩; obtain ⟨⟨x4, k4⟩, g4, ⟨x5, k5⟩, g5, h45⟩ := unhide HR _ _ hw1; have HW1 := hide hw1; clear hw1))
  all_goals
    go_end0
    exact ⟨rfl, _, w1, unhide HW1, rfl⟩
set_option maxHeartbeats 1600000 in
/-- Close. -/
theorem close_walk (b : Nat) (w : World) (Post : Value → Value → World → Prop)
    (hD : Calls Tryd.prog 61 #[.pointer (some ⟨b, 12, none⟩), .func (.func 62) #[] #[.pointer (some ⟨w.heap.size, 0, none⟩), .pointer (some ⟨w.heap.size + 1, 0, none⟩), .pointer (some ⟨w.heap.size + 2, 0, none⟩)]] (((w.alloc (.cells #[.pointer (some ⟨b, 0, none⟩)] 51)).alloc (.cells #[.slice none 0 0] 63)).alloc (.cells #[.int .i64 9] 34)) fun e w' => e = .returned (.tuple #[]) ∧ ∃ a n c er, w'.cell? ⟨w.heap.size + 1, 0, none⟩ = some (.slice a n c) ∧ w'.cell? ⟨w.heap.size + 2, 0, none⟩ = some (.int .i64 er) ∧ Post (.slice a n c) (.int .i64 er) w') :
    Calls Tryd.prog 31 #[.pointer (some ⟨b, 0, none⟩)] w fun e w' => ∃ v er w1 m, e = .returned (.tuple #[v, er]) ∧ Post v er w1 ∧ w' = w1.drewN m := by
  have HD := hide hD
  clear hD
  have hmf : ∀ (fn : Fn) (first cap : Array Value) (w : World), (Instr.makeFunc fn first cap).run Tryd.prog w = .ok (.func fn first cap) w := fun _ _ _ _ => rfl
  go_enter Tryd.func31, Tryd.ntmps31
  go_wp2_with (first | (go_at_call 61; refine (unhide HD).mono ?_; rintro e w1 ⟨rfl, a, n, c, er, k1, k2, hp⟩; have HP := hide hp; clear hp))
  have k2' : w1.cell? ⟨w.heap.size + 1 + 1, 0, none⟩ = some (.int .i64 er) := k2
  go_quiet (fail)
  all_goals
    go_wp2_with fail
    go_ret2
    exact ⟨_, _, w1, _, rfl, unhide HP, rfl⟩
end Go.Proofs.YtogdekjklbbbiaaDoor

namespace Go.Proofs.YtogdekjklbbbiaaDoor
open Go.ChangeShapes Go.WideShapes Go.ChangeAt Go.RowKit
set_option linter.unusedSimpArgs false
set_option linter.unusedVariables false

set_option maxHeartbeats 1600000 in
/-- Counts. -/
theorem counts_walk (b : Nat) (c6 c7 c8 c9 c10 c11 : Int) (w : World) (h6 : w.cell? ⟨b, 6, none⟩ = some (.int .i64 c6)) (h7 : w.cell? ⟨b, 7, none⟩ = some (.int .i64 c7)) (h8 : w.cell? ⟨b, 8, none⟩ = some (.int .i64 c8)) (h9 : w.cell? ⟨b, 9, none⟩ = some (.int .i64 c9)) (h10 : w.cell? ⟨b, 10, none⟩ = some (.int .i64 c10)) (h11 : w.cell? ⟨b, 11, none⟩ = some (.int .i64 c11)) :
    Calls Tryd.prog 59 #[.pointer (some ⟨b, 0, none⟩)] w fun e w' => e = .returned (.agg #[.int .i64 c6, .int .i64 c7, .int .i64 c8, .int .i64 c9, .int .i64 c10, .int .i64 c11]) ∧ w' = w.alloc (.cells #[.int .i64 c6, .int .i64 c7, .int .i64 c8, .int .i64 c9, .int .i64 c10, .int .i64 c11] 116) := by
  have hb : b < w.heap.size := World.block_lt_of_cell? _ _ h6
  have old : ∀ (o : Obj) {j : Nat} {v : Value}, w.cell? ⟨b, j, none⟩ = some v → (w.alloc o).cell? ⟨b, j, none⟩ = some v := fun o j v h => World.grownBy.cell (World.grownBy_alloc w o none) h (by simp)
  have k6 := old (.cells #[.int .i64 0, .int .i64 0, .int .i64 0, .int .i64 0, .int .i64 0, .int .i64 0] 116) h6
  have k7 := old (.cells #[.int .i64 0, .int .i64 0, .int .i64 0, .int .i64 0, .int .i64 0, .int .i64 0] 116) h7
  have k8 := old (.cells #[.int .i64 0, .int .i64 0, .int .i64 0, .int .i64 0, .int .i64 0, .int .i64 0] 116) h8
  have k9 := old (.cells #[.int .i64 0, .int .i64 0, .int .i64 0, .int .i64 0, .int .i64 0, .int .i64 0] 116) h9
  have k10 := old (.cells #[.int .i64 0, .int .i64 0, .int .i64 0, .int .i64 0, .int .i64 0, .int .i64 0] 116) h10
  have k11 := old (.cells #[.int .i64 0, .int .i64 0, .int .i64 0, .int .i64 0, .int .i64 0, .int .i64 0] 116) h11
  go_enter Tryd.func59, Tryd.ntmps59
  go_wp2_with fail
  refine bodyPost_ret (v := .agg #[.int .i64 c6, .int .i64 c7, .int .i64 c8, .int .i64 c9, .int .i64 c10, .int .i64 c11]) ?_ rfl ⟨rfl, rfl⟩
  exact results_cell_row rfl _ _ w.heap.size 116 _ _ _ rfl (heap_alloc_new _ _) Tryd.underlying116 rfl (by kernel_rfl)
end Go.Proofs.YtogdekjklbbbiaaDoor

namespace Go.Proofs.YtogdekjklbbbiaaDoor
open Go.ChangeShapes Go.WideShapes Go.ChangeAt Go.RowKit
set_option linter.unusedSimpArgs false
set_option linter.unusedVariables false

/-- How dropAll ends. -/
def DropE (wr w' : World) (b dr n1 : Nat) : Prop := Ch wr w' (fun a o => a = b ∧ (o = 3 ∨ o = 4 ∨ o = 5 ∨ o = 9)) ∧ w'.cell? ⟨b, 9, none⟩ = some (.int .i64 ((dr + n1 : Nat) : Int)) ∧ w'.cell? ⟨b, 3, none⟩ = some (.slice none 0 0) ∧ w'.cell? ⟨b, 4, none⟩ = some (.slice none 0 0) ∧ w'.cell? ⟨b, 5, none⟩ = some (.pointer none)
set_option maxHeartbeats 2000000 in
/-- dropAll. -/
theorem drop_walk (b n dr : Nat) (a3 : Option Addr) (cap3 : Nat) (x : Nat → Nat) (num : Nat → Int) (av : Nat → Option Addr) (ln cv : Nat → Nat) (w : World) (R : Nat → Nat → World → Prop) (hn : n < 100) (hl8 : ∀ k, ln k ≤ 8) (hdr : dr < 9000000000000000000)
    (hN : Calls Tryd.prog 83 #[.pointer (some ⟨b, 0, none⟩)] w fun e w' => ∃ L, e = .returned (.pointer (some ⟨L, 0, none⟩)) ∧ R L 0 w')
    (h3 : ∀ L w1, R L 0 w1 → w1.cell? ⟨b, 3, none⟩ = some (.slice a3 n cap3))
    (hc : ∀ L k wr, R L k wr → k < n → ∃ g, a3 = some ⟨g, 0, none⟩ ∧ wr.cell? ⟨g, k, none⟩ = some (.pointer (some ⟨x k, 0, none⟩)) ∧ wr.cell? ⟨x k, 0, none⟩ = some (.int .i64 (num k)) ∧ wr.cell? ⟨x k, 5, none⟩ = some (.slice (av k) (ln k) (cv k)))
    (hz : ∀ L k wr, R L k wr → k < n → ln k = 0 → R L (k + 1) wr)
    (hA : ∀ L k wr, R L k wr → k < n → 0 < ln k → Calls Tryd.prog 88 #[.pointer (some ⟨L, 0, none⟩), .int .i64 (num k), .int .i64 (-1), .slice (av k) (ln k) (cv k)] (wr.drewN 1) fun e w' => e = .returned (.tuple #[]) ∧ R L (k + 1) w' ∧ w'.cell? ⟨x k, 0, none⟩ = some (.int .i64 (num k)) ∧ w'.cell? ⟨x k, 5, none⟩ = some (.slice (av k) (ln k) (cv k)))
    (hE : ∀ L wr, R L n wr → ∃ a0 n0 c0 a1 n1 c1, wr.cell? ⟨L, 0, none⟩ = some (.slice a0 n0 c0) ∧ wr.cell? ⟨L, 1, none⟩ = some (.slice a1 n1 c1) ∧ n1 ≤ 1000 ∧ wr.cell? ⟨b, 9, none⟩ = some (.int .i64 (dr : Int)) ∧ (∃ v, wr.cell? ⟨b, 3, none⟩ = some v) ∧ (∃ v, wr.cell? ⟨b, 4, none⟩ = some v) ∧ (∃ v, wr.cell? ⟨b, 5, none⟩ = some v) ∧ (∀ o, wr.frozen? ⟨b, o, none⟩ = false) ∧ b ≠ L) :
    Calls Tryd.prog 63 #[.pointer (some ⟨b, 0, none⟩)] w fun e w' => ∃ v, e = .returned v ∧ ∃ L wr n1 a1 c1, R L n wr ∧ wr.cell? ⟨L, 0, none⟩ = some v ∧ wr.cell? ⟨L, 1, none⟩ = some (.slice a1 n1 c1) ∧ DropE wr w' b dr n1 := by
  have HN := hide hN; have H3 := hide h3; have HC := hide hc; have HZ := hide hz; have HA := hide hA; have HE := hide hE
  clear hN h3 hc hz hA hE
  go_enter Tryd.func63, Tryd.ntmps63
  go_wp2_with fail
  refine (unhide HN).mono ?_
  rintro e w1 ⟨L, rfl, hw1⟩
  have hc3 := unhide H3 _ _ hw1
  have HW1 := hide hw1
  clear hw1
  go_wp2_with fail
  go_loopg [13] n (fun gk vi wr => ∃ k : Nat, vi = .int .i64 (k : Int) ∧ gk = n - k ∧ k ≤ n ∧ R L k wr)
  case atStart => exact ⟨0, rfl, rfl, Nat.zero_le _, unhide HW1⟩
  case round =>
    obtain ⟨k, hu, hgk, hkn, hRk⟩ := hrel
    rw [hu]
    clear hu
    have HG := hide hgk; have HRk := hide hRk
    clear hgk hRk
    by_cases hk : k < n
    · have hki : (k : Int) < (n : Int) := by omega
      have hk0 : (0 : Int) ≤ (k : Int) := by omega
      obtain ⟨g, rfl, e0, e1, e2⟩ := unhide HC _ _ _ (unhide HRk) hk
      have HCall := hide (unhide HA _ _ _ (unhide HRk) hk)
      have HZero := hide (unhide HZ _ _ _ (unhide HRk) hk)
      have hl := hl8 k
      generalize x k = xk at *
      generalize num k = nk at *
      generalize av k = ak at *
      generalize ln k = lk at *
      generalize cv k = ck at *
      by_cases hl0 : lk = 0
      · subst hl0
        have HR5 := hide (unhide HZero rfl)
        go_wp2_with fail
        go_roundg (n - (k + 1))
        case measure => rw [unhide HG]; omega
        case rel => exact ⟨k + 1, by go_num, rfl, by omega, unhide HR5⟩
      · have hlp : (0 : Int) < (lk : Int) := by omega
        have HCall1 := hide (unhide HCall (by omega))
        have hS0 : wr.cell? ⟨xk, 0, none⟩ = some (.int .i64 nk) ∧ wr.cell? ⟨xk, 5, none⟩ = some (.slice ak lk ck) := ⟨e1, e2⟩
        go_wp2_with fail
        go_region_held3 (fun W => W.cell? ⟨xk, 0, none⟩ = some (.int .i64 nk) ∧ W.cell? ⟨xk, 5, none⟩ = some (.slice ak lk ck)) (first | exact hS0 | exact hS1)
          (first | (go_at_call 88; refine (unhide HCall1).mono ?_; rintro e w5 ⟨rfl, hR5, hh5, hh6⟩; have HR5 := hide hR5; have hS1 := And.intro hh5 hh6; clear hR5 hh5 hh6))
        all_goals go_wp2_with fail
        all_goals
          go_roundg (n - (k + 1))
          case measure => rw [unhide HG]; omega
          case rel => exact ⟨k + 1, by go_num, rfl, by omega, unhide HR5⟩
    · have hki : ¬ (k : Int) < (n : Int) := by omega
      have hkn' : k = n := by omega
      obtain ⟨a0, n0, c0, a1, n1, c1, d0, d1, hn1, d9, ⟨v3, d3⟩, ⟨v4, d4⟩, ⟨v5, d5⟩, hfz, hbL⟩ := unhide HE L wr (by rw [← hkn']; exact unhide HRk)
      have HRn : Hid (R L n wr) := by rw [← hkn']; exact unhide HRk
      clear hkn'
      have f3 := hfz 3; have f4 := hfz 4; have f5 := hfz 5; have f9 := hfz 9
      go_wp2_with fail
      go_region
      all_goals
        have hset0 : ∀ (W : World) (o : Nat) (v : Value), W.cell? ⟨L, 0, none⟩ = some (.slice a0 n0 c0) → (W.setCell ⟨b, o, none⟩ v).cell? ⟨L, 0, none⟩ = some (.slice a0 n0 c0) := by
          intro W o v h
          rw [World.cell?_setCell_other]
          · exact h
          · intro q; injection q with q; exact hbL q
        go_wp2_with fail
        go_ret
        refine ⟨_, rfl, L, wr, n1, a1, c1, unhide HRn, d0, d1, ?_, ?_, ?_, ?_, ?_⟩
        · repeat (first | exact Ch.refl _ _ | refine Ch.drew ?_ | refine Ch.setCell ?_ ⟨rfl, by omega⟩ _)
        · simp [cset, ↓isSome_set, d3, d4, d5, d9]
        · simp [cset, ↓isSome_set, d3, d4, d5, d9]
        · simp [cset, ↓isSome_set, d3, d4, d5, d9]
        · simp [cset, ↓isSome_set, d3, d4, d5, d9]
end Go.Proofs.YtogdekjklbbbiaaDoor
