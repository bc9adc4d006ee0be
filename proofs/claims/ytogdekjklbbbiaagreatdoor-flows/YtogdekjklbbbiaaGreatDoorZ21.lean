import Derived.Test.YtogdekjklbbbiaaGreatDoorZ10
import Derived.Test.YtogdekjklbbbiaaGreatDoorZ19
set_option maxRecDepth 100000
namespace Go.Proofs.YtogdekjklbbbiaaGreatDoor
open Go.ChangeShapes Go.WideShapes Go.ChangeAt Go.RowKit
set_option linter.unusedSimpArgs false
set_option linter.unusedVariables false

set_option maxHeartbeats 1000000 in
theorem clo55 (x f z : Nat) (v0 v2 v3 v4 : Int) (w : World) (hz : w.cell? ⟨z, 0, none⟩ = some (.pointer (some ⟨f, 0, none⟩))) (hx : (∃ v, w.cell? ⟨x, 0, none⟩ = some v) ∧ ∀ o, w.frozen? ⟨x, o, none⟩ = false) (hf : (∃ v, w.cell? ⟨f, 0, none⟩ = some v) ∧ ∀ o, w.frozen? ⟨f, o, none⟩ = false) :
    Calls Tryz.prog 82 #[.agg #[.int .i64 v0, .pointer (some ⟨x, 0, none⟩), .int .i64 v2, .int .i64 v3, .int .i64 v4], .pointer (some ⟨z, 0, none⟩)] w fun e w' => e = .returned (.bool (decide (x = f))) ∧ w' = w.alloc (.cells #[.int .i64 v0, .pointer (some ⟨x, 0, none⟩), .int .i64 v2, .int .i64 v3, .int .i64 v4] 161) := by
  obtain ⟨⟨vx, hvx⟩, hfx⟩ := hx
  obtain ⟨⟨vf, hvf⟩, hff⟩ := hf
  have hxl := World.block_lt_of_cell? _ _ hvx
  have hfl := World.block_lt_of_cell? _ _ hvf
  have hz1 := old_cell hz (.cells #[.int .i64 v0, .pointer (some ⟨x, 0, none⟩), .int .i64 v2, .int .i64 v3, .int .i64 v4] 161)
  by_cases h : x = f
  · subst h
    have hq := eqp_same (w.alloc (.cells #[.int .i64 v0, .pointer (some ⟨x, 0, none⟩), .int .i64 v2, .int .i64 v3, .int .i64 v4] 161)) x
    rw [show decide (x = x) = true by simp]
    clear hvx hvf hfx hff
    go_enter Tryz.func82, Tryz.ntmps82
    go_wp2_with fail
    go_ret
    exact ⟨rfl, rfl⟩
  · have hq := eqp_ne h (old_cell hvx (.cells #[.int .i64 v0, .pointer (some ⟨x, 0, none⟩), .int .i64 v2, .int .i64 v3, .int .i64 v4] 161)) (old_cell hvf _) (fun o => (frozen_of (Below.heap_alloc _ _ _ hxl) o).trans (hfx o)) (fun o => (frozen_of (Below.heap_alloc _ _ _ hfl) o).trans (hff o))
    rw [decide_eq_false h]
    clear hvx hvf hfx hff
    go_enter Tryz.func82, Tryz.ntmps82
    go_wp2_with fail
    go_ret
    exact ⟨rfl, rfl⟩
set_option maxHeartbeats 1000000 in
theorem clo78_other (x z y : Nat) (v0 v2 v3 v4 : Int) (w : World) (h0 : v0 ≠ 1) :
    Calls Tryz.prog 120 #[.agg #[.int .i64 v0, .pointer (some ⟨x, 0, none⟩), .int .i64 v2, .int .i64 v3, .int .i64 v4], .pointer (some ⟨z, 0, none⟩), .pointer (some ⟨y, 0, none⟩)] w fun e w' => e = .returned (.bool false) ∧ w' = w.alloc (.cells #[.int .i64 v0, .pointer (some ⟨x, 0, none⟩), .int .i64 v2, .int .i64 v3, .int .i64 v4] 161) := by
  have h0' : (v0 == 1) = false := by simpa using h0
  go_enter Tryz.func120, Tryz.ntmps120
  go_wp2_with fail
  go_ret
  exact ⟨rfl, rfl⟩
set_option maxHeartbeats 1000000 in
theorem clo78_ne (x f z y : Nat) (v2 v3 v4 : Int) (w : World) (h : x ≠ f) (hz : w.cell? ⟨z, 0, none⟩ = some (.pointer (some ⟨f, 0, none⟩))) (hx : (∃ v, w.cell? ⟨x, 0, none⟩ = some v) ∧ ∀ o, w.frozen? ⟨x, o, none⟩ = false) (hf : (∃ v, w.cell? ⟨f, 0, none⟩ = some v) ∧ ∀ o, w.frozen? ⟨f, o, none⟩ = false) :
    Calls Tryz.prog 120 #[.agg #[.int .i64 1, .pointer (some ⟨x, 0, none⟩), .int .i64 v2, .int .i64 v3, .int .i64 v4], .pointer (some ⟨z, 0, none⟩), .pointer (some ⟨y, 0, none⟩)] w fun e w' => e = .returned (.bool false) ∧ w' = w.alloc (.cells #[.int .i64 1, .pointer (some ⟨x, 0, none⟩), .int .i64 v2, .int .i64 v3, .int .i64 v4] 161) := by
  obtain ⟨⟨vx, hvx⟩, hfx⟩ := hx
  obtain ⟨⟨vf, hvf⟩, hff⟩ := hf
  have hxl := World.block_lt_of_cell? _ _ hvx
  have hfl := World.block_lt_of_cell? _ _ hvf
  have hz1 := old_cell hz (.cells #[.int .i64 1, .pointer (some ⟨x, 0, none⟩), .int .i64 v2, .int .i64 v3, .int .i64 v4] 161)
  have hq := eqp_ne h (old_cell hvx (.cells #[.int .i64 1, .pointer (some ⟨x, 0, none⟩), .int .i64 v2, .int .i64 v3, .int .i64 v4] 161)) (old_cell hvf _) (fun o => (frozen_of (Below.heap_alloc _ _ _ hxl) o).trans (hfx o)) (fun o => (frozen_of (Below.heap_alloc _ _ _ hfl) o).trans (hff o))
  clear hvx hvf hfx hff
  go_enter Tryz.func120, Tryz.ntmps120
  go_wp2_with fail
  go_ret
  exact ⟨rfl, rfl⟩
theorem fr_set (w : World) (y o : Nat) (v : Value) : Fr w (w.setCell ⟨y, o, none⟩ v) (fun k => k = y) := ⟨rfl, rfl, rfl, by simp, fun k _ hk => Below.heap_setCell _ _ _ _ hk⟩
def Cl78 (w w' : World) (y : Nat) (m : Int) : Prop := Fr w w' (fun k => k = y) ∧ w'.heap[y]? = (w.setCell ⟨y, 4, none⟩ (.int .i64 m)).heap[y]?
set_option maxHeartbeats 1000000 in
theorem clo78_eq (f z y : Nat) (v2 v3 v4 ls : Int) (w : World) (hz : w.cell? ⟨z, 0, none⟩ = some (.pointer (some ⟨f, 0, none⟩))) (hy : w.cell? ⟨y, 4, none⟩ = some (.int .i64 ls)) (hyf : w.frozen? ⟨y, 4, none⟩ = false) :
    Calls Tryz.prog 120 #[.agg #[.int .i64 1, .pointer (some ⟨f, 0, none⟩), .int .i64 v2, .int .i64 v3, .int .i64 v4], .pointer (some ⟨z, 0, none⟩), .pointer (some ⟨y, 0, none⟩)] w fun e w' => e = .returned (.bool true) ∧ Cl78 w w' y (min ls v4) := by
  have hyl := World.block_lt_of_cell? _ _ hy
  have hz1 := old_cell hz (.cells #[.int .i64 1, .pointer (some ⟨f, 0, none⟩), .int .i64 v2, .int .i64 v3, .int .i64 v4] 161)
  have hy1 := old_cell hy (.cells #[.int .i64 1, .pointer (some ⟨f, 0, none⟩), .int .i64 v2, .int .i64 v3, .int .i64 v4] 161)
  have hyf1 : (w.alloc (.cells #[.int .i64 1, .pointer (some ⟨f, 0, none⟩), .int .i64 v2, .int .i64 v3, .int .i64 v4] 161)).frozen? ⟨y, 4, none⟩ = false := (frozen_of (Below.heap_alloc _ _ _ hyl) 4).trans hyf
  have hn4 : (w.alloc (.cells #[.int .i64 1, .pointer (some ⟨f, 0, none⟩), .int .i64 v2, .int .i64 v3, .int .i64 v4] 161)).cell? ⟨w.heap.size, 4, none⟩ = some (.int .i64 v4) := (cells5 (heap_alloc_new _ _)).2.2
  have hq := eqp_same (w.alloc (.cells #[.int .i64 1, .pointer (some ⟨f, 0, none⟩), .int .i64 v2, .int .i64 v3, .int .i64 v4] 161)) f
  go_enter Tryz.func120, Tryz.ntmps120
  go_wp2_with fail
  all_goals
    go_ret
    refine ⟨rfl, ?_, ?_⟩
    · exact (fr_set _ _ _ _).alloc _
    · first
        | rw [show min ls v4 = v4 by omega]
        | rw [show min ls v4 = ls by omega]
      exact Below.heap_alloc _ _ _ (by simp; omega)
/-- Behind a pendSet. -/
def PSP (w' : World) (b x : Nat) (r bu ls : Int) (R : Value → World → Prop) : Prop :=
  ∃ v1 w1 n px v2 w3, R v1 w1 ∧ w1.ownsRow 0 161 5 v1 n px ∧ w3.ownsRow 0 161 5 v2 (n + 1) (px ++ [.int .i64 1, .pointer (some ⟨x, 0, none⟩), .int .i64 r, .int .i64 bu, .int .i64 ls]) ∧
    Gr ((w1.setCell ⟨b, 4, none⟩ v1).alloc (.cells #[.int .i64 1, .pointer (some ⟨x, 0, none⟩), .int .i64 r, .int .i64 bu, .int .i64 ls] 161)) w3 v1 v2 ∧ Ch w3 w' (fun a o => a = b ∧ o = 4) ∧ w'.cell? ⟨b, 4, none⟩ = some v2
theorem cells5all {W : World} {z : Nat} {v0 v1 v2 v3 v4 : Value} {t : TypeId} (h : W.heap[z]? = some (.cells #[v0, v1, v2, v3, v4] t)) :
    W.cell? ⟨z, 0, none⟩ = some v0 ∧ W.cell? ⟨z, 1, none⟩ = some v1 ∧ W.cell? ⟨z, 2, none⟩ = some v2 ∧ W.cell? ⟨z, 3, none⟩ = some v3 ∧ W.cell? ⟨z, 4, none⟩ = some v4 := by
  refine ⟨?_, ?_, ?_, ?_, ?_⟩ <;> simp [World.cell?, h]
set_option maxHeartbeats 2000000 in
theorem pend_walk (b x : Nat) (r bu ls : Int) (pv : Value) (w : World) (R : Value → World → Prop) (h4 : w.cell? ⟨b, 4, none⟩ = some pv)
    (hD : Calls Tryz.prog 81 #[pv, .func (.func 120) #[] #[.pointer (some ⟨w.heap.size, 0, none⟩), .pointer (some ⟨w.heap.size + 1, 0, none⟩)]] ((w.alloc (.cells #[.pointer (some ⟨x, 0, none⟩)] 159)).alloc (.cells #[.int .i64 1, .pointer (some ⟨x, 0, none⟩), .int .i64 r, .int .i64 bu, .int .i64 bu] 161)) fun e w' => ∃ v', e = .returned v' ∧ R v' w')
    (hR : ∀ v1 w1, R v1 w1 → ∃ n px, w1.ownsRow 0 161 5 v1 n px ∧ n < 1000 ∧ (∃ v, w1.cell? ⟨b, 4, none⟩ = some v) ∧ w1.frozen? ⟨b, 4, none⟩ = false ∧ w1.heap[w.heap.size + 1]? = some (.cells #[.int .i64 1, .pointer (some ⟨x, 0, none⟩), .int .i64 r, .int .i64 bu, .int .i64 ls] 161) ∧ v1.ownBlock ≠ some b ∧ b ≠ w.heap.size + 1) :
    Calls Tryz.prog 75 #[.pointer (some ⟨b, 0, none⟩), .pointer (some ⟨x, 0, none⟩), .int .i64 r, .int .i64 bu] w fun e w' => e = .returned (.tuple #[]) ∧ PSP w' b x r bu ls R := by
  obtain ⟨i2, hj2, hz0, hz1, hz2⟩ := info_parts info136
  have HD := hide hD; have HR := hide hR
  clear hD hR
  have h4' : ((w.alloc (.cells #[.pointer (some ⟨x, 0, none⟩)] 159)).alloc (.cells #[.int .i64 1, .pointer (some ⟨x, 0, none⟩), .int .i64 r, .int .i64 bu, .int .i64 bu] 161)).cell? ⟨b, 4, none⟩ = some pv := old_cell (old_cell h4 _) _
  go_enter Tryz.func75, Tryz.ntmps75
  go_wp2_with fail
  refine (unhide HD).mono ?_
  rintro e w1 ⟨v1, rfl, hR1⟩
  obtain ⟨n, px, hrow, hn, ⟨v4, hb4⟩, hz4, hy, hvb, hby⟩ := unhide HR _ _ hR1
  have HR1 := hide hR1; have HRow := hide hrow
  have hsl : ∃ af cf, v1 = .slice af n cf := by
    rcases hrow.2 with ⟨q, q2⟩ | ⟨g, cap, cur, q, _⟩
    · exact ⟨none, 0, by rw [q, q2]⟩
    · exact ⟨_, cap, q⟩
  obtain ⟨af, cf, hv1⟩ := hsl
  have HV1 := hide hv1
  clear hR1 hrow
  rw [hv1]
  have hyy : (w1.setCell ⟨b, 4, none⟩ (.slice af n cf)).heap[w.heap.size + 1]? = some (.cells #[.int .i64 1, .pointer (some ⟨x, 0, none⟩), .int .i64 r, .int .i64 bu, .int .i64 ls] 161) := (Below.heap_setCell _ _ _ _ (fun e => hby e.symm)).trans hy
  obtain ⟨y0, y1, y2, y3, y4⟩ := cells5all hyy
  have q4 : (w1.setCell ⟨b, 4, none⟩ (.slice af n cf)).cell? ⟨b, 4, none⟩ = some (.slice af n cf) := by simp [cset, hb4]
  have qz : (w1.setCell ⟨b, 4, none⟩ (.slice af n cf)).frozen? ⟨b, 4, none⟩ = false := by rw [World.frozen?_setCell]; exact hz4
  have HRq : Hid ((w1.setCell ⟨b, 4, none⟩ (.slice af n cf)).ownsRow 0 161 5 (.slice af n cf) n px) := by
    have h := unhide HRow
    rw [hv1] at h hvb
    exact row_kept0 h fun g hg => Below.heap_setCell _ _ _ _ (fun e => hvb (hg.trans (congrArg some e)))
  have hs1 : (w1.setCell ⟨b, 4, none⟩ (.slice af n cf)).heap.size = w1.heap.size := by simp
  have HE : Hid (∃ wq, wq = w1.setCell ⟨b, 4, none⟩ (.slice af n cf)) := ⟨_, rfl⟩
  clear HE
  go_upto_region 3 with fail
  generalize hwq : w1.setCell ⟨b, 4, none⟩ (.slice af n cf) = wq at *
  have HWQ := hide hwq
  have hqa4 := old_cell q4 (.cells #[.int .i64 1, .pointer (some ⟨x, 0, none⟩), .int .i64 r, .int .i64 bu, .int .i64 ls] 161)
  have hbq : b < wq.heap.size := World.block_lt_of_cell? _ _ q4
  have HB : Hid ((wq.alloc (.cells #[.int .i64 1, .pointer (some ⟨x, 0, none⟩), .int .i64 r, .int .i64 bu, .int .i64 ls] 161)).drew.ownsRow 0 161 5 (.slice af n cf) n px) := World.ownsRow.alloc (w := wq) (unhide HRq) _
  have HN : Hid (∀ j u, [Value.int .i64 1, .pointer (some ⟨x, 0, none⟩), .int .i64 r, .int .i64 bu, .int .i64 ls][j]? = some u → (wq.alloc (.cells #[.int .i64 1, .pointer (some ⟨x, 0, none⟩), .int .i64 r, .int .i64 bu, .int .i64 ls] 161)).drew.cell? ((⟨wq.heap.size, 0, none⟩ : Addr).add j) = some u) := fun j u hu => cells_new (w := wq) (cur := #[.int .i64 1, .pointer (some ⟨x, 0, none⟩), .int .i64 r, .int .i64 bu, .int .i64 ls]) j u hu
  have hvb' : (Value.slice af n cf).ownBlock ≠ some b := by rw [← unhide HV1]; exact hvb
  clear hwq hs1
  go_region_law (refine step_append2 rfl (.tmp 27) (.tmp 29) 52 rfl 0 161 i2 (.agg #[.int .i64 0, .pointer none, .int .i64 0, .int .i64 0, .int .i64 0]) 5 40 Tryz.underlying52 hj2 hz0 hz1 hz2 rfl (by decide) (.slice af n cf) n px (by simp [Act.eval, Act.put]) (unhide HB) ⟨wq.heap.size, 0, none⟩ 1 1 [.int .i64 1, .pointer (some ⟨x, 0, none⟩), .int .i64 r, .int .i64 bu, .int .i64 ls] (by simp [Act.eval, Act.put]) rfl (unhide HN) (by simp [Value.oneCell']) (by unfold maxLen; omega) (by omega) (Nat.zero_le _) ?_; intro v2 w3 hown3 hgr3; obtain ⟨g3, cap3, hv3, hg3a, hg3b, hg3c, hcap3, hcm3⟩ := row_shape hown3 (by omega); have HO3 := hide hown3; have HG3 := hide hgr3; have HV3 := hide hv3; have m4 := app_cell hgr3 hvb' hqa4; have hbk := app_blk hgr3 (k := b) (by show b < (wq.alloc _).heap.size; simp; omega) (fun e => absurd e hvb'); have y4z := (frozen_of hbk 4).trans ((frozen_of (Below.heap_alloc wq _ _ hbq) 4).trans qz); rw [hv3]; clear hown3 hgr3 hv3 hbk)
  all_goals
    go_wp2_with fail
    go_end0
    refine ⟨rfl, v1, w1, n, px, .slice (some ⟨g3, 0, none⟩) (n + 1) cap3, w3, unhide HR1, unhide HRow, by have h := unhide HO3; rw [unhide HV3] at h; exact h, ?_, ?_, ?_⟩
    · have h := unhide HG3
      rw [unhide HV1, unhide HWQ, ← unhide HV3]
      rcases h with ⟨q1, q2⟩ | ⟨q1, q2⟩
      · exact .inl ⟨q1, ⟨q2.os, q2.tape, q2.output, q2.size, q2.block⟩⟩
      · exact .inr ⟨q1, ⟨q2.os, q2.tape, q2.output, q2.size, q2.block⟩⟩
    · repeat (first | exact Ch.refl _ _ | refine Ch.drew ?_ | refine Ch.setCell ?_ ⟨rfl, rfl⟩ _)
    · simp [cset, m4]
end Go.Proofs.YtogdekjklbbbiaaGreatDoor

namespace Go.Proofs.YtogdekjklbbbiaaGreatDoor
open Go.ChangeShapes Go.WideShapes Go.ChangeAt Go.RowKit
set_option linter.unusedSimpArgs false
set_option linter.unusedVariables false

set_option maxHeartbeats 1000000 in
theorem remove_none (b : Nat) (f : Int) (w : World) (hV : Calls Tryz.prog 68 #[.pointer (some ⟨b, 0, none⟩), .int .i64 f] w fun e w' => w' = w ∧ e = .returned (liveV none)) :
    Calls Tryz.prog 33 #[.pointer (some ⟨b, 0, none⟩), .int .i64 f] w fun e w' => e = .returned (.tuple #[.slice none 0 0, .int .i64 5]) ∧ w' = w.alloc (.cells #[.pointer none] 159) := by
  have HV := hide hV
  clear hV
  go_enter Tryz.func33, Tryz.ntmps33
  go_wp2_with fail
  refine (unhide HV).mono ?_
  rintro e w0 ⟨hw0, rfl⟩
  rw [hw0]
  clear hw0
  unfold liveV
  go_wp2_with fail
  go_ret2
  exact ⟨rfl, rfl⟩
set_option maxHeartbeats 2000000 in
theorem remove_walk (b x wb k0 k dr : Nat) (f num : Int) (fv pv v : Value) (av : Option Addr) (cv : Nat) (w : World) (R1 R2 : Value → World → Prop) (R3 : World → Prop) (Post : Value → World → Prop) (hv : v = .slice av k cv) (hk : k ≤ 8) (hdr : dr < 9000000000000000000) (hk0 : k0 < 8)
    (hbx : b ≠ x) (hbl : b < w.heap.size) (h3 : w.cell? ⟨b, 3, none⟩ = some fv)
    (hV : Calls Tryz.prog 68 #[.pointer (some ⟨b, 0, none⟩), .int .i64 f] w fun e w' => w' = w ∧ e = .returned (liveV (some x)))
    (hI : Calls Tryz.prog 79 #[fv, .pointer (some ⟨x, 0, none⟩)] ((w.alloc (.cells #[.pointer (some ⟨x, 0, none⟩)] 159)).drewN 1) fun e w' => e = .returned (.int .i64 (k0 : Int)) ∧ w' = (w.alloc (.cells #[.pointer (some ⟨x, 0, none⟩)] 159)).drewN 1)
    (hD : Calls Tryz.prog 80 #[fv, .int .i64 (k0 : Int), .int .i64 ((k0 : Int) + 1)] ((w.alloc (.cells #[.pointer (some ⟨x, 0, none⟩)] 159)).drewN 1) fun e w' => ∃ v', e = .returned v' ∧ R1 v' w')
    (hR1 : ∀ v1 w1, R1 v1 w1 → (∃ a n c, v1 = .slice a n c) ∧ (∃ u, w1.cell? ⟨b, 3, none⟩ = some u) ∧ w1.frozen? ⟨b, 3, none⟩ = false ∧ w1.cell? ⟨b, 4, none⟩ = some pv)
    (hDF : ∀ v1 w1, R1 v1 w1 → Calls Tryz.prog 81 #[pv, .func (.func 82) #[] #[.pointer (some ⟨w.heap.size, 0, none⟩)]] (w1.setCell ⟨b, 3, none⟩ v1) fun e w' => ∃ p', e = .returned p' ∧ R2 p' w')
    (hR2 : ∀ p2 w2, R2 p2 w2 → (∃ a n c, p2 = .slice a n c) ∧ (∃ u, w2.cell? ⟨b, 4, none⟩ = some u) ∧ w2.frozen? ⟨b, 4, none⟩ = false ∧ w2.cell? ⟨b, 5, none⟩ = some (.pointer (some ⟨wb, 0, none⟩)) ∧ w2.cell? ⟨w.heap.size, 0, none⟩ = some (.pointer (some ⟨x, 0, none⟩)) ∧ w2.cell? ⟨x, 0, none⟩ = some (.int .i64 num))
    (hC : ∀ p2 w2, R2 p2 w2 → Calls Tryz.prog 83 #[.pointer (some ⟨wb, 0, none⟩), .int .i64 num] ((w2.setCell ⟨b, 4, none⟩ p2).drewN 1) fun e w' => ∃ u : Int, e = .returned (.int .i64 u) ∧ R3 w')
    (hR3 : ∀ w4, R3 w4 → w4.cell? ⟨b, 5, none⟩ = some (.pointer (some ⟨wb, 0, none⟩)) ∧ w4.cell? ⟨w.heap.size, 0, none⟩ = some (.pointer (some ⟨x, 0, none⟩)) ∧ w4.cell? ⟨x, 0, none⟩ = some (.int .i64 num) ∧ w4.cell? ⟨b, 9, none⟩ = some (.int .i64 (dr : Int)) ∧ w4.frozen? ⟨b, 9, none⟩ = false ∧ w4.cell? ⟨x, 5, none⟩ = some v)
    (hCl : ∀ w4, R3 w4 → Calls Tryz.prog 84 #[v] ((w4.setCell ⟨b, 9, none⟩ (.int .i64 ((dr : Int) + (k : Int)))).drewN 1) fun e w' => ∃ c, e = .returned c ∧ Post c w') :
    Calls Tryz.prog 33 #[.pointer (some ⟨b, 0, none⟩), .int .i64 f] w fun e w' => ∃ c, e = .returned (.tuple #[c, .int .i64 0]) ∧ Post c w' := by
  have HV := hide hV; have HI := hide hI; have HD := hide hD; have HR1 := hide hR1; have HDF := hide hDF; have HR2 := hide hR2; have HC := hide hC; have HR3 := hide hR3; have HCl := hide hCl
  clear hV hI hD hR1 hDF hR2 hC hR3 hCl
  have hz0 : (w.alloc (.cells #[.pointer (some ⟨x, 0, none⟩)] 159)).cell? ⟨w.heap.size, 0, none⟩ = some (.pointer (some ⟨x, 0, none⟩)) := by rw [heap_cell (heap_alloc_new _ _)]; rfl
  have hS0 : (w.alloc (.cells #[.pointer (some ⟨x, 0, none⟩)] 159)).cell? ⟨b, 3, none⟩ = some fv ∧ (w.alloc (.cells #[.pointer (some ⟨x, 0, none⟩)] 159)).cell? ⟨w.heap.size, 0, none⟩ = some (.pointer (some ⟨x, 0, none⟩)) := ⟨old_cell h3 _, hz0⟩
  have h3z := hS0.1
  go_enter Tryz.func33, Tryz.ntmps33
  go_wp2_with fail
  refine (unhide HV).mono ?_
  rintro e w0 ⟨hw0, rfl⟩
  rw [hw0]
  clear hw0
  unfold liveV
  go_wp2_with fail
  go_region_held3 (fun W => W.cell? ⟨b, 3, none⟩ = some fv ∧ W.cell? ⟨w.heap.size, 0, none⟩ = some (.pointer (some ⟨x, 0, none⟩))) (first | exact hS0)
    (first | (go_at_call 79; refine (unhide HI).mono ?_; rintro e wi ⟨rfl, hwi⟩; rw [hwi]; clear hwi))
  all_goals
    go_wp2_with fail
    refine (unhide HD).mono ?_
    rintro e w1 ⟨v1, rfl, hw1⟩
    obtain ⟨⟨a1, n1, c1, hv1⟩, ⟨u3, hb3⟩, hf3, hb4⟩ := unhide HR1 _ _ hw1
    have HDF1 := hide (unhide HDF _ _ hw1)
    clear hw1
    subst hv1
    have hb4' : (w1.setCell ⟨b, 3, none⟩ (.slice a1 n1 c1)).cell? ⟨b, 4, none⟩ = some pv := by simp [cset, hb3, hb4]
    go_wp2_with fail
    refine (unhide HDF1).mono ?_
    rintro e w2 ⟨p2, rfl, hw2⟩
    obtain ⟨⟨a2, n2, c2, hp2⟩, ⟨u4, hd4⟩, hf4, hd5, hdz, hdx⟩ := unhide HR2 _ _ hw2
    have HC1 := hide (unhide HC _ _ hw2)
    clear hw2
    subst hp2
    have hS1 : (w2.setCell ⟨b, 4, none⟩ (.slice a2 n2 c2)).cell? ⟨b, 5, none⟩ = some (.pointer (some ⟨wb, 0, none⟩)) ∧ (w2.setCell ⟨b, 4, none⟩ (.slice a2 n2 c2)).cell? ⟨w.heap.size, 0, none⟩ = some (.pointer (some ⟨x, 0, none⟩)) ∧ (w2.setCell ⟨b, 4, none⟩ (.slice a2 n2 c2)).cell? ⟨x, 0, none⟩ = some (.int .i64 num) := by
      refine ⟨by simp [cset, hd4, hd5], ?_, ?_⟩
      · rw [World.cell?_setCell_other _ _ _ _ (fun q => by injection q with q; omega)]; exact hdz
      · rw [World.cell?_setCell_other _ _ _ _ (fun q => by injection q with q; exact hbx q)]; exact hdx
    go_wp2_with fail
    go_region_held3 (fun W => W.cell? ⟨b, 5, none⟩ = some (.pointer (some ⟨wb, 0, none⟩)) ∧ W.cell? ⟨w.heap.size, 0, none⟩ = some (.pointer (some ⟨x, 0, none⟩)) ∧ W.cell? ⟨x, 0, none⟩ = some (.int .i64 num)) (first | exact hS1 | exact hS2)
      (first | (go_at_call 83; refine (unhide HC1).mono ?_; rintro e w4 ⟨u, rfl, hw4⟩; have HW4 := hide hw4; have hq := unhide HR3 _ hw4; have hS2 := (And.intro hq.1 (And.intro hq.2.1 hq.2.2.1)); clear hw4))
    all_goals
      obtain ⟨r5, rz, rx0, r9, rf9, rx5⟩ := unhide HR3 _ (unhide HW4)
      have HCl1 := hide (unhide HCl _ (unhide HW4))
      rw [hv] at rx5
      clear hq hS2
      have hcx : (w4.setCell ⟨b, 9, none⟩ (.int .i64 ((dr : Int) + (k : Int)))).cell? ⟨x, 5, none⟩ = some (.slice av k cv) := by
        rw [World.cell?_setCell_other _ _ _ _ (fun q => by injection q with q; exact hbx q)]; exact rx5
      have hcz : (w4.setCell ⟨b, 9, none⟩ (.int .i64 ((dr : Int) + (k : Int)))).cell? ⟨w.heap.size, 0, none⟩ = some (.pointer (some ⟨x, 0, none⟩)) := by
        rw [World.cell?_setCell_other _ _ _ _ (fun q => by injection q with q; omega)]; exact rz
      go_wp2_with fail
      go_region
      all_goals
        go_wp2_with fail
        rw [hv] at HCl1
        refine (unhide HCl1).mono ?_
        rintro e w6 ⟨c, rfl, hw6⟩
        have HW6 := hide hw6
        clear hw6
        go_wp2_with fail
        go_ret2
        exact ⟨c, rfl, unhide HW6⟩
end Go.Proofs.YtogdekjklbbbiaaGreatDoor
