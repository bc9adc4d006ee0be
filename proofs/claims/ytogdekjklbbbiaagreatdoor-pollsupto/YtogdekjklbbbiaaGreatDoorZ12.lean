import Derived.Test.YtogdekjklbbbiaaGreatDoorZ11
import Derived.Deep.RegionLaw
import Derived.Deep.DrawnRows
import Derived.Test.YtogdekjklbbbiaaGreatDoorFf
set_option maxRecDepth 100000
namespace Go.Proofs.YtogdekjklbbbiaaGreatDoor
open Go.ChangeShapes Go.WideShapes Go.ChangeAt Go.RowKit
set_option linter.unusedSimpArgs false
set_option linter.unusedVariables false

set_option maxHeartbeats 1000000 in
theorem renqueue_ok (b : Nat) (f t l : Int) (w : World) (R : World → Prop) (hQ : Calls Tryz.prog 78 #[.pointer (some ⟨b, 0, none⟩), .int .i64 f, .int .i64 t, .int .i64 l] w fun e w' => e = .returned (.int .i64 0) ∧ R w')
    (hc : ∀ w', R w' → ∃ n : Nat, w'.cell? ⟨b, 7, none⟩ = some (.int .i64 (n : Int)) ∧ n < 1000000000000000000 ∧ w'.frozen? ⟨b, 7, none⟩ = false) :
    Calls Tryz.prog 32 #[.pointer (some ⟨b, 0, none⟩), .int .i64 f, .int .i64 t, .int .i64 l] w fun e w' => e = .returned (.int .i64 0) ∧ ∃ (n : Nat) (w1 : World), R w1 ∧ w1.cell? ⟨b, 7, none⟩ = some (.int .i64 (n : Int)) ∧ w' = w1.setCell ⟨b, 7, none⟩ (.int .i64 ((n + 1 : Nat) : Int)) := by
  have HQ := hide hQ; have HC := hide hc
  clear hQ hc
  go_enter Tryz.func32, Tryz.ntmps32
  go_wp2_with fail
  refine (unhide HQ).mono ?_
  rintro e w1 ⟨rfl, hR⟩
  obtain ⟨n, c7, hn, z7⟩ := unhide HC _ hR
  have HR := hide hR
  clear hR
  have hw : IntKind.i64.wrap ((n : Int) + 1) = (n : Int) + 1 := wrapI (by omega) (by omega)
  have C7 := hide c7
  go_wp2_with fail
  go_ret
  refine ⟨rfl, n, w1, unhide HR, unhide C7, ?_⟩
  first
    | rfl
    | (rw [show ((n + 1 : Nat) : Int) = (n : Int) + 1 by omega])
set_option maxHeartbeats 1000000 in
theorem renqueue_bad (b : Nat) (f t l r : Int) (hr : r ≠ 0) (w : World) (n : Nat) (hQ : Calls Tryz.prog 78 #[.pointer (some ⟨b, 0, none⟩), .int .i64 f, .int .i64 t, .int .i64 l] w fun e w' => e = .returned (.int .i64 r) ∧ w' = w)
    (c8 : w.cell? ⟨b, 8, none⟩ = some (.int .i64 (n : Int))) (hn : n < 1000000000000000000) (z8 : w.frozen? ⟨b, 8, none⟩ = false) :
    Calls Tryz.prog 32 #[.pointer (some ⟨b, 0, none⟩), .int .i64 f, .int .i64 t, .int .i64 l] w fun e w' => e = .returned (.int .i64 r) ∧ w' = w.setCell ⟨b, 8, none⟩ (.int .i64 ((n + 1 : Nat) : Int)) := by
  have HQ := hide hQ
  clear hQ
  have hr' : (r == 0) = false := by simp [hr]
  have hw : IntKind.i64.wrap ((n : Int) + 1) = (n : Int) + 1 := wrapI (by omega) (by omega)
  go_enter Tryz.func32, Tryz.ntmps32
  go_wp2_with fail
  refine (unhide HQ).mono ?_
  rintro e w1 ⟨rfl, hw1⟩
  rw [hw1]
  clear hw1
  go_wp2_with fail
  go_ret
  refine ⟨rfl, ?_⟩
  first
    | rfl
    | (rw [show ((n + 1 : Nat) : Int) = (n : Int) + 1 by omega])
set_option maxHeartbeats 1000000 in
theorem rset_none (b : Nat) (f r bu : Int) (w : World) (h1 : w.cell? ⟨b, 1, none⟩ = some (.bool false)) (hV : Calls Tryz.prog 76 #[.pointer (some ⟨b, 0, none⟩), .int .i64 f] w fun e w' => w' = w ∧ e = .returned (.pointer none)) :
    Calls Tryz.prog 30 #[.pointer (some ⟨b, 0, none⟩), .int .i64 f, .int .i64 r, .int .i64 bu] w fun e w' => e = .returned (.int .i64 5) ∧ w' = w := by
  have HV := hide hV
  clear hV
  go_enter Tryz.func30, Tryz.ntmps30
  go_wp2_with fail
  refine (unhide HV).mono ?_
  rintro e w0 ⟨hw0, rfl⟩
  rw [hw0]
  clear hw0
  go_wp2_with fail
  go_ret
  exact ⟨rfl, rfl⟩
set_option maxHeartbeats 1000000 in
theorem rset_rate (b x : Nat) (f r bu : Int) (w : World) (h1 : w.cell? ⟨b, 1, none⟩ = some (.bool false)) (hV : Calls Tryz.prog 76 #[.pointer (some ⟨b, 0, none⟩), .int .i64 f] w fun e w' => w' = w ∧ e = .returned (.pointer (some ⟨x, 0, none⟩))) (hal : ¬ Pace.allowed r bu) :
    Calls Tryz.prog 30 #[.pointer (some ⟨b, 0, none⟩), .int .i64 f, .int .i64 r, .int .i64 bu] w fun e w' => e = .returned (.int .i64 6) ∧ w' = w := by
  have hal' := good_walk r bu w
  rw [decide_eq_false hal] at hal'
  have HAl := hide hal'
  have HV := hide hV
  have hnil := eqp_nilR w x
  clear hV hal' hal
  go_enter Tryz.func30, Tryz.ntmps30
  go_wp2_with fail
  refine (unhide HV).mono ?_
  rintro e w0 ⟨hw0, rfl⟩
  rw [hw0]
  clear hw0
  go_wp2_with fail
  refine (unhide HAl).mono ?_
  rintro e w0 ⟨rfl, hw0⟩
  rw [hw0]
  clear hw0
  go_wp2_with fail
  go_ret
  exact ⟨rfl, rfl⟩
/-- What a Set of the document's leaves: one command more. -/
def RAskP (w w' : World) (b m : Nat) (cs : List Value) (cur : Array Value) (pv : Value) (px : List Value) : Prop :=
  ∃ pv' w2, w2.ownsRow 0 187 4 pv' (m + 1) (px ++ cs) ∧ Gr (w.alloc (.cells cur 187)) w2 pv pv' ∧ w' = w2.setCell ⟨b, 4, none⟩ pv'
set_option maxHeartbeats 2000000 in
theorem rset_good (b x m : Nat) (f r bu : Int) (pv : Value) (px : List Value) (w : World) (h1 : w.cell? ⟨b, 1, none⟩ = some (.bool false)) (hV : Calls Tryz.prog 76 #[.pointer (some ⟨b, 0, none⟩), .int .i64 f] w fun e w' => w' = w ∧ e = .returned (.pointer (some ⟨x, 0, none⟩))) (hal : Pace.allowed r bu) (hm : m < 2200000000000)
    (h4 : w.cell? ⟨b, 4, none⟩ = some pv) (hfb : ∀ o, w.frozen? ⟨b, o, none⟩ = false) (hrp : w.ownsRow 0 187 4 pv m px) (hpb : pv.ownBlock ≠ some b) :
    Calls Tryz.prog 30 #[.pointer (some ⟨b, 0, none⟩), .int .i64 f, .int .i64 r, .int .i64 bu] w fun e w' => e = .returned (.int .i64 0) ∧ RAskP w w' b m [.int .i64 2, .int .i64 f, .int .i64 r, .int .i64 bu] #[.int .i64 2, .int .i64 f, .int .i64 r, .int .i64 bu] pv px := by
  obtain ⟨i2, hj2, hz0, hz1, hz2⟩ := info_parts info187
  have hbl : b < w.heap.size := World.block_lt_of_cell? _ _ h4
  have hal' := good_walk r bu w
  rw [decide_eq_true hal] at hal'
  have HAl := hide hal'
  have HV := hide hV; have HRP := hide hrp; have HFB := hide hfb
  have hnil := eqp_nilR w x
  clear hV hrp hfb hal' hal
  have HP1 : Hid ((w.alloc (.cells #[.int .i64 2, .int .i64 f, .int .i64 r, .int .i64 bu] 187)).ownsRow 0 187 4 pv m px) := World.ownsRow.alloc (unhide HRP) _
  have HN2 : Hid (∀ j u, [Value.int .i64 2, .int .i64 f, .int .i64 r, .int .i64 bu][j]? = some u → (w.alloc (.cells #[.int .i64 2, .int .i64 f, .int .i64 r, .int .i64 bu] 187)).cell? ((⟨w.heap.size, 0, none⟩ : Addr).add j) = some u) := fun j u hu => cells_new (cur := #[.int .i64 2, .int .i64 f, .int .i64 r, .int .i64 bu]) j u hu
  have hB4 := old_cell h4 (.cells #[.int .i64 2, .int .i64 f, .int .i64 r, .int .i64 bu] 187)
  have hBz : (w.alloc (.cells #[.int .i64 2, .int .i64 f, .int .i64 r, .int .i64 bu] 187)).frozen? ⟨b, 4, none⟩ = false := by
    rw [frozen_of (Below.heap_alloc _ _ _ hbl) 4]; exact unhide HFB 4
  go_enter Tryz.func30, Tryz.ntmps30
  go_wp2_with fail
  refine (unhide HV).mono ?_
  rintro e w0 ⟨hw0, rfl⟩
  rw [hw0]
  clear hw0
  go_wp2_with fail
  refine (unhide HAl).mono ?_
  rintro e w0 ⟨rfl, hw0⟩
  rw [hw0]
  clear hw0
  go_wp2_with (first
    | (at_builtin; refine wpList_append2 rfl _ _ 89 rfl 0 187 i2 (.agg #[.int .i64 0, .int .i64 0, .int .i64 0, .int .i64 0]) 4 32 Tryz.underlying89 hj2 hz0 hz1 hz2 rfl (by decide) pv m px rfl (unhide HP1) ⟨w.heap.size, 0, none⟩ 1 1 [.int .i64 2, .int .i64 f, .int .i64 r, .int .i64 bu] rfl rfl (unhide HN2) (by simp [Value.oneCell']) (by unfold maxLen; omega) (by omega) (Nat.zero_le _) ?_; intro pv1 w4 hown4 hgr4; have HG4 := hide (show Gr (w.alloc (.cells #[.int .i64 2, .int .i64 f, .int .i64 r, .int .i64 bu] 187)) w4 pv pv1 from hgr4); obtain ⟨g4, cap4, hpv4, hg4a, hg4b, hg4c, hcap4, hcm4⟩ := row_shape hown4 (by omega); have HO4 := hide hown4; have HV4 := hide hpv4; have m4 := app_cell hgr4 hpb hB4; have hb4 := app_blk hgr4 (k := b) (by simp; omega) (fun e => absurd e hpb); have y4 := (frozen_of hb4 4).trans hBz; rw [hpv4]; clear hown4 hgr4 hpv4 hb4))
  go_ret
  refine ⟨rfl, pv1, w4, unhide HO4, unhide HG4, ?_⟩
  rw [unhide HV4]
end Go.Proofs.YtogdekjklbbbiaaGreatDoor

namespace Go.Proofs.YtogdekjklbbbiaaGreatDoor
open Go.ChangeShapes Go.WideShapes Go.ChangeAt Go.RowKit
set_option linter.unusedSimpArgs false
set_option linter.unusedVariables false

theorem rnew_bad (q : Int) (w : World) (hq : q < 1500 ∨ 1000000 < q) : Calls Tryz.prog 17 #[.int .i64 q] w fun e w' => e = .returned (.pointer none) ∧ w' = w := by
  rcases hq with hq | hq
  · go_enter Tryz.func17, Tryz.ntmps17
    go_wp2_with fail
    go_ret
    exact ⟨rfl, rfl⟩
  · have hq' : decide (q < 1500) = false := decide_eq_false (by omega)
    go_enter Tryz.func17, Tryz.ntmps17
    go_wp2_with fail
    go_ret
    exact ⟨rfl, rfl⟩
theorem rnew_good (q : Int) (w : World) (h1 : 1500 ≤ q) (h2 : q ≤ 1000000) : Calls Tryz.prog 17 #[.int .i64 q] w fun e w' => e = .returned (.pointer (some ⟨w.heap.size, 0, none⟩)) ∧
    w' = w.alloc (.cells #[.int .i64 q, .bool false, .int .i64 0, .slice none 0 0, .slice none 0 0, .int .i64 0, .int .i64 0, .int .i64 0, .int .i64 0, .int .i64 0, .int .i64 0, .int .i64 0, .int .i64 0] 92) := by
  have h1' : decide (q < 1500) = false := decide_eq_false (by omega)
  have h2' : decide (1000000 < q) = false := decide_eq_false (by omega)
  go_enter Tryz.func17, Tryz.ntmps17
  go_wp2_with fail
  go_ret
  exact ⟨rfl, rfl⟩
set_option maxHeartbeats 1000000 in
theorem radd_rate (b : Nat) (r bu : Int) (w : World) (h1 : w.cell? ⟨b, 1, none⟩ = some (.bool false)) (hal : ¬ Pace.allowed r bu) :
    Calls Tryz.prog 28 #[.pointer (some ⟨b, 0, none⟩), .int .i64 r, .int .i64 bu] w fun e w' => e = .returned (.tuple #[.int .i64 0, .int .i64 6]) ∧ w' = w := by
  have hal' := good_walk r bu w
  rw [decide_eq_false hal] at hal'
  have HAl := hide hal'
  clear hal' hal
  go_enter Tryz.func28, Tryz.ntmps28
  go_wp2_with fail
  refine (unhide HAl).mono ?_
  rintro e w0 ⟨rfl, hw0⟩
  rw [hw0]
  clear hw0
  go_wp2_with fail
  go_ret2
  exact ⟨rfl, rfl⟩
set_option maxHeartbeats 1000000 in
theorem radd_many (b : Nat) (r bu : Int) (a : Option Addr) (c : Nat) (w : World) (h1 : w.cell? ⟨b, 1, none⟩ = some (.bool false)) (h3 : w.cell? ⟨b, 3, none⟩ = some (.slice a 8 c)) (hal : Pace.allowed r bu) :
    Calls Tryz.prog 28 #[.pointer (some ⟨b, 0, none⟩), .int .i64 r, .int .i64 bu] w fun e w' => e = .returned (.tuple #[.int .i64 0, .int .i64 7]) ∧ w' = w := by
  have hal' := good_walk r bu w
  rw [decide_eq_true hal] at hal'
  have HAl := hide hal'
  clear hal' hal
  go_enter Tryz.func28, Tryz.ntmps28
  go_wp2_with fail
  refine (unhide HAl).mono ?_
  rintro e w0 ⟨rfl, hw0⟩
  rw [hw0]
  clear hw0
  go_wp2_with fail
  go_ret2
  exact ⟨rfl, rfl⟩
end Go.Proofs.YtogdekjklbbbiaaGreatDoor

namespace Go.Proofs.YtogdekjklbbbiaaGreatDoor
open Go.ChangeShapes Go.WideShapes Go.ChangeAt Go.RowKit
set_option linter.unusedSimpArgs false
set_option linter.unusedVariables false

/-- Memory has grown; of what was there only cells of x in S have turned. -/
structure GC (w w' : World) (x : Nat) (S : Nat → Prop) : Prop where
  os : w'.os = w.os
  tape : w'.tape = w.tape
  output : w'.output = w.output
  size : w.heap.size ≤ w'.heap.size
  blk : ∀ k, k < w.heap.size → k ≠ x → w'.heap[k]? = w.heap[k]?
  cell : ∀ o, ¬ S o → w'.cell? ⟨x, o, none⟩ = w.cell? ⟨x, o, none⟩
  fz : ∀ o, w'.frozen? ⟨x, o, none⟩ = w.frozen? ⟨x, o, none⟩
  dom : ∀ o, (w'.cell? ⟨x, o, none⟩).isSome = (w.cell? ⟨x, o, none⟩).isSome
theorem GC.refl (w : World) (x : Nat) (S : Nat → Prop) : GC w w x S := ⟨rfl, rfl, rfl, Nat.le_refl _, fun _ _ _ => rfl, fun _ _ => rfl, fun _ => rfl, fun _ => rfl⟩
theorem GC.drew {w w' : World} {x : Nat} {S : Nat → Prop} (h : GC w w' x S) : GC w w'.drew x S := ⟨h.os, h.tape, h.output, h.size, h.blk, h.cell, h.fz, h.dom⟩
theorem GC.drewN {w w' : World} {x : Nat} {S : Nat → Prop} (h : GC w w' x S) (n : Nat) : GC w (w'.drewN n) x S := ⟨h.os, h.tape, h.output, h.size, h.blk, h.cell, h.fz, h.dom⟩
theorem GC.alloc {w w' : World} {x : Nat} {S : Nat → Prop} (h : GC w w' x S) (hx : x < w'.heap.size) (o : Obj) : GC w (w'.alloc o) x S :=
  ⟨h.os, h.tape, h.output, Nat.le_trans h.size (by simp), fun k hk hn => (Below.heap_alloc _ _ _ (Nat.lt_of_lt_of_le hk h.size)).trans (h.blk k hk hn),
    fun q hq => (World.cell?_of_block (w := w') (a := ⟨x, q, none⟩) (Below.heap_alloc _ _ _ hx)).trans (h.cell q hq), fun q => (frozen_of (Below.heap_alloc _ _ _ hx) q).trans (h.fz q),
    fun q => (congrArg Option.isSome (World.cell?_of_block (w := w') (a := ⟨x, q, none⟩) (Below.heap_alloc _ _ _ hx))).trans (h.dom q)⟩
theorem GC.setCell {w w' : World} {x : Nat} {S : Nat → Prop} (h : GC w w' x S) {o : Nat} (hS : S o) (v : Value) : GC w (w'.setCell ⟨x, o, none⟩ v) x S := by
  refine ⟨h.os, h.tape, h.output, by simpa using h.size, fun k hk hn => (Below.heap_setCell _ _ _ _ hn).trans (h.blk k hk hn), fun q hq => ?_, fun q => (World.frozen?_setCell _ _ _ _).trans (h.fz q), fun q => (isSome_set _ _ _ _).trans (h.dom q)⟩
  rw [World.cell?_setCell_other]
  · exact h.cell q hq
  · intro e
    injection e with e1 e2
    subst e2
    exact hq hS
theorem GC.trans {a b c : World} {x : Nat} {S T : Nat → Prop} (h : GC a b x S) (k : GC b c x T) : GC a c x (fun o => S o ∨ T o) :=
  ⟨k.os.trans h.os, k.tape.trans h.tape, k.output.trans h.output, Nat.le_trans h.size k.size, fun n hn hx => (k.blk n (Nat.lt_of_lt_of_le hn h.size) hx).trans (h.blk n hn hx),
    fun o ho => (k.cell o fun q => ho (.inr q)).trans (h.cell o fun q => ho (.inl q)), fun o => (k.fz o).trans (h.fz o), fun o => (k.dom o).trans (h.dom o)⟩
theorem GC.mono {a b : World} {x : Nat} {S T : Nat → Prop} (h : GC a b x S) (hi : ∀ o, S o → T o) : GC a b x T := ⟨h.os, h.tape, h.output, h.size, h.blk, fun o ho => h.cell o fun q => ho (hi o q), h.fz, h.dom⟩

theorem sub_step {cr B pl B1 T cv : Nat} (h1 : cr - B * 1000000000 = cv) (h2 : B1 = B + pl) (h3 : B1 ≤ T) (h4 : T * 1000000000 ≤ cr) (h5 : cr ≤ 1000000000000000) : pl * 1000000000 ≤ cv ∧ cr - B1 * 1000000000 = cv - pl * 1000000000 ∧ cv ≤ 1000000000000000 := by omega
set_option maxHeartbeats 2000000 in
theorem send_walk (x L g n cap k : Nat) (num inst ck : Int) (cr adm : Nat) (pk : List (Int × Nat)) (w : World) (R R3 : World → Prop) (R4 : Value → World → Prop) (hpk : pk.length = k) (hkn : k ≤ n) (hk0 : 0 < k) (hn : n ≤ 8) (hnc : n ≤ cap) (hcm : cap ≤ 9223372036854775807) (hlens : ∀ p ∈ pk, p.2 ≤ 1500)
    (hcr : Pace.bytes pk * 1000000000 ≤ cr) (hcr2 : cr ≤ 1000000000000000) (hka : k ≤ adm) (ha8 : adm ≤ 8)
    (hA : Calls Tryz.prog 110 #[.pointer (some ⟨x, 0, none⟩), .int .i64 ck] w fun e w' => e = .returned (.tuple #[]) ∧ R w')
    (hR : ∀ w1, R w1 → w1.cell? ⟨x, 0, none⟩ = some (.int .i64 num) ∧ w1.cell? ⟨x, 3, none⟩ = some (.int .i64 (cr : Int)) ∧ w1.cell? ⟨x, 5, none⟩ = some (.slice (some ⟨g, 0, none⟩) n cap) ∧ w1.cell? ⟨x, 6, none⟩ = some (.int .i64 (adm : Int)) ∧ w1.cell? ⟨x, 7, none⟩ = some (.int .i64 (k : Int)) ∧
      (∀ o, w1.frozen? ⟨x, o, none⟩ = false) ∧ g ≠ x ∧ g < w1.heap.size ∧ ∀ j p, pk[j]? = some p → w1.cell? ⟨g, j * 2, none⟩ = some (.int .i64 p.1) ∧ w1.cell? ⟨g, j * 2 + 1, none⟩ = some (.int .i64 (p.2 : Int)))
    (hL : ∀ w1 w2, R w1 → GC w1 w2 x (fun o => o = 3) → w2.cell? ⟨x, 3, none⟩ = some (.int .i64 ((cr - Pace.bytes pk * 1000000000 : Nat) : Int)) → Calls Tryz.prog 116 #[.pointer (some ⟨L, 0, none⟩), .int .i64 num, .int .i64 inst, .slice (some ⟨g, 0, none⟩) k cap] w2 fun e w' => e = .returned (.tuple #[]) ∧ R3 w' ∧ w'.heap[x]? = w2.heap[x]?)
    (hD : ∀ w3 m, R3 w3 → Calls Tryz.prog 117 #[.slice (some ⟨g, 0, none⟩) n cap, .int .i64 0, .int .i64 (k : Int)] (w3.drewN m) fun e w' => ∃ a c, e = .returned (.slice a (n - k) c) ∧ R4 (.slice a (n - k) c) w' ∧ w'.heap[x]? = w3.heap[x]?) :
    Calls Tryz.prog 69 #[.pointer (some ⟨x, 0, none⟩), .int .i64 inst, .int .i64 ck, .pointer (some ⟨L, 0, none⟩)] w fun e w' => e = .returned (.tuple #[]) ∧ ∃ v' w4, R4 v' w4 ∧ Ch w4 w' (fun a o => a = x ∧ (o = 5 ∨ o = 6)) ∧ w'.cell? ⟨x, 5, none⟩ = some v' ∧ w'.cell? ⟨x, 6, none⟩ = some (.int .i64 ((adm - k : Nat) : Int)) := by
  have HA := hide hA; have HR := hide hR; have HL := hide hL; have HD := hide hD; have HLe := hide hlens; have HPK := hide hpk; have HCR := hide hcr
  clear hA hR hL hD hlens hpk hcr
  go_enter Tryz.func69, Tryz.ntmps69
  go_wp2_with fail
  refine (unhide HA).mono ?_
  rintro e w1 ⟨rfl, hw1⟩
  obtain ⟨h0, h3, h5, h6, h7, hf, hgx, hgs, hg⟩ := unhide HR w1 hw1
  have HW := hide hw1; have HG := hide hg; have HF := hide hf
  have hxs : x < w1.heap.size := World.block_lt_of_cell? _ _ h0
  clear hw1 hg hf
  have b1 : (k : Int) ≤ (cap : Int) := by omega
  have b2 : (0 : Int) ≤ (k : Int) := by omega
  have b3 : k ≤ cap := by omega
  go_wp2_with fail
  go_quiet (fail)
  go_wp2_with fail
  go_loopg [23] k (fun gk i wr => ∃ j : Nat, i = .int .i64 (j : Int) ∧ gk = k - j ∧ j ≤ k ∧ GC w1 wr x (fun o => o = 3) ∧ wr.cell? ⟨x, 3, none⟩ = some (.int .i64 ((cr - Pace.bytes (pk.take j) * 1000000000 : Nat) : Int)))
  case atStart => exact ⟨0, rfl, rfl, Nat.zero_le _, (GC.refl _ _ _).drewN _, by simpa [Pace.bytes] using h3⟩
  case round =>
    obtain ⟨j, hu, hgk, hjk, hC, hc3⟩ := hrel
    rw [hu]
    clear hu
    have HC := hide hC; have HGK := hide hgk
    have hxr : x < wr.heap.size := Nat.lt_of_lt_of_le hxs hC.size
    have c0 := (hC.cell 0 (by omega)).trans h0
    have c5 := (hC.cell 5 (by omega)).trans h5
    have c6 := (hC.cell 6 (by omega)).trans h6
    have c7 := (hC.cell 7 (by omega)).trans h7
    have fr := fun o => (hC.fz o).trans (unhide HF o)
    have hgb := hC.blk g hgs hgx
    clear hC hgk
    by_cases hj : j < k
    · have hji : (j : Int) < (k : Int) := by omega
      have hj0 : (0 : Int) ≤ (j : Int) := by omega
      have hjp : j < pk.length := by rw [unhide HPK]; exact hj
      obtain ⟨q1, q2⟩ := unhide HG j pk[j] (List.getElem?_eq_getElem hjp)
      have q1 := (World.cell?_of_block (w := w1) (a := ⟨g, j * 2, none⟩) hgb).trans q1
      have q2 := (World.cell?_of_block (w := w1) (a := ⟨g, j * 2 + 1, none⟩) hgb).trans q2
      have hpl := unhide HLe pk[j] (List.getElem_mem hjp)
      have hst : Pace.bytes (pk.take (j + 1)) = Pace.bytes (pk.take j) + pk[j].2 := by
        rw [List.take_add_one, List.getElem?_eq_getElem hjp, Pace.bytes_append]; simp [Pace.bytes]
      have hle : Pace.bytes (pk.take (j + 1)) ≤ Pace.bytes pk := by
        have := Pace.bytes_drop pk (j + 1); omega
      have hcr := unhide HCR
      generalize pk[j] = p at q1 q2 hpl hst
      obtain ⟨pt, pl⟩ := p
      simp only at q1 q2 hpl hst
      have HST := hide hst; have HLE := hide hle
      have f3 := fr 3
      have d3 := old_cell hc3 (.cells #[.int .i64 pt, .int .i64 (pl : Int)] 87)
      have e3 : (wr.alloc (.cells #[.int .i64 pt, .int .i64 (pl : Int)] 87)).frozen? ⟨x, 3, none⟩ = false := (frozen_of (Below.heap_alloc _ _ _ hxr) 3).trans f3
      have n1 : (wr.alloc (.cells #[.int .i64 pt, .int .i64 (pl : Int)] 87)).cell? ⟨wr.heap.size, 1, none⟩ = some (.int .i64 (pl : Int)) := by rw [heap_cell (heap_alloc_new _ _)]; rfl
      obtain ⟨cv, hcv⟩ : ∃ cv, cr - Pace.bytes (pk.take j) * 1000000000 = cv := ⟨_, rfl⟩
      rw [hcv] at hc3 d3
      have HCV := hide hcv
      obtain ⟨hcv1, hcv3, hcv2⟩ := sub_step hcv hst hle hcr hcr2
      have HCV3 := hide hcv3
      clear hcv3
      clear hcv hst hle hcr
      go_wp2_with fail
      go_region
      all_goals
        go_wp2_with fail
        go_roundg (k - (j + 1))
        case measure => rw [unhide HGK]; omega
        case rel =>
          refine ⟨j + 1, by go_num, rfl, by omega, ?_, ?_⟩
          · repeat (first | exact unhide HC | refine GC.drew ?_ | refine GC.setCell ?_ (by rfl) _ | refine GC.alloc ?_ (by simpa using hxr) _)
          · rw [unhide HCV3]
            first
              | (simp [cset, ↓isSome_set, hc3]; omega)
              | (refine old_cell ?_ _; simp [cset, ↓isSome_set, hc3]; omega)
    · have hjk' : j = k := by omega
      subst hjk'
      have hfin : pk.take j = pk := List.take_of_length_le (by rw [unhide HPK]; exact Nat.le_refl _)
      rw [hfin] at hc3
      have HL1 := hide (unhide HL w1 wr.drew (unhide HW) (unhide HC).drew hc3)
      have hS0 : wr.cell? ⟨x, 0, none⟩ = some (.int .i64 num) ∧ wr.cell? ⟨x, 5, none⟩ = some (.slice (some ⟨g, 0, none⟩) n cap) ∧ wr.cell? ⟨x, 7, none⟩ = some (.int .i64 (j : Int)) := ⟨c0, c5, c7⟩
      have HC5 := hide c5; have HC6 := hide c6; have HFR := hide fr
      go_wp2_with fail
      go_region_held3 (fun W => W.cell? ⟨x, 0, none⟩ = some (.int .i64 num) ∧ W.cell? ⟨x, 5, none⟩ = some (.slice (some ⟨g, 0, none⟩) n cap) ∧ W.cell? ⟨x, 7, none⟩ = some (.int .i64 (j : Int))) (first | exact hS0 | exact hS1)
        (first | (go_at_call 116; refine (unhide HL1).mono ?_; rintro e w3 ⟨rfl, hw3, hh3⟩; have HW3 := hide hw3; have HH3 := hide hh3; have hS1 := (And.intro ((World.cell?_of_block (w := wr.drew) (a := ⟨x, 0, none⟩) hh3).trans hS0.1) (And.intro ((World.cell?_of_block (w := wr.drew) (a := ⟨x, 5, none⟩) hh3).trans hS0.2.1) ((World.cell?_of_block (w := wr.drew) (a := ⟨x, 7, none⟩) hh3).trans hS0.2.2))); clear hw3 hh3))
      all_goals
        have hf3 := fun o => ((frozen_of (unhide HH3) o).trans (unhide HFR o))
        have d6 := (World.cell?_of_block (w := wr.drew) (a := ⟨x, 6, none⟩) (unhide HH3)).trans (unhide HC6)
        have d5 := hS1.2.1
        have d7 := hS1.2.2
        have HD1 := hide (unhide HD w3 1 (unhide HW3))
        clear hS1
        go_wp2_with fail
        go_region_with (first | (go_at_call 117; refine (unhide HD1).mono ?_; rintro e w4 ⟨a4, c4, rfl, hw4, hh4⟩; have HW4 := hide hw4; have HH4 := hide hh4; have k5 := (World.cell?_of_block (w := w3) (a := ⟨x, 5, none⟩) hh4).trans d5; have k6 := (World.cell?_of_block (w := w3) (a := ⟨x, 6, none⟩) hh4).trans d6; have k7 := (World.cell?_of_block (w := w3) (a := ⟨x, 7, none⟩) hh4).trans d7; have z5 := (frozen_of hh4 5).trans (hf3 5); have z6 := (frozen_of hh4 6).trans (hf3 6); clear hw4 hh4))
        all_goals
          go_wp2_with fail
          go_region
          all_goals
            go_wp2_with fail
            go_end0
            refine ⟨rfl, _, w4, unhide HW4, ?_, ?_, ?_⟩
            · repeat (first | exact Ch.refl _ _ | refine Ch.drew ?_ | refine Ch.setCell ?_ ⟨rfl, by omega⟩ _)
            · simp [cset, ↓isSome_set, k5, k6]
            · simp [cset, ↓isSome_set, k5, k6]; omega
end Go.Proofs.YtogdekjklbbbiaaGreatDoor
