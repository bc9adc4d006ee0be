import Derived.Test.YtogdekjklbbbiaaDoorFk
import Derived.Test.YtogdekjklbbbiaaDoorMap
set_option maxRecDepth 100000
namespace Go.Proofs.YtogdekjklbbbiaaDoor
open Go.ChangeShapes Go.WideShapes Go.ChangeAt Go.RowKit
set_option linter.unusedSimpArgs false
set_option linter.unusedVariables false

set_option maxHeartbeats 1000000 in
theorem clo55 (x f z : Nat) (v0 v2 v3 v4 : Int) (w : World) (hz : w.cell? ⟨z, 0, none⟩ = some (.pointer (some ⟨f, 0, none⟩))) (hx : (∃ v, w.cell? ⟨x, 0, none⟩ = some v) ∧ ∀ o, w.frozen? ⟨x, o, none⟩ = false) (hf : (∃ v, w.cell? ⟨f, 0, none⟩ = some v) ∧ ∀ o, w.frozen? ⟨f, o, none⟩ = false) :
    Calls Tryd.prog 55 #[.agg #[.int .i64 v0, .pointer (some ⟨x, 0, none⟩), .int .i64 v2, .int .i64 v3, .int .i64 v4], .pointer (some ⟨z, 0, none⟩)] w fun e w' => e = .returned (.bool (decide (x = f))) ∧ w' = w.alloc (.cells #[.int .i64 v0, .pointer (some ⟨x, 0, none⟩), .int .i64 v2, .int .i64 v3, .int .i64 v4] 136) := by
  obtain ⟨⟨vx, hvx⟩, hfx⟩ := hx
  obtain ⟨⟨vf, hvf⟩, hff⟩ := hf
  have hxl := World.block_lt_of_cell? _ _ hvx
  have hfl := World.block_lt_of_cell? _ _ hvf
  have hz1 := old_cell hz (.cells #[.int .i64 v0, .pointer (some ⟨x, 0, none⟩), .int .i64 v2, .int .i64 v3, .int .i64 v4] 136)
  by_cases h : x = f
  · subst h
    have hq := eqp_same (w.alloc (.cells #[.int .i64 v0, .pointer (some ⟨x, 0, none⟩), .int .i64 v2, .int .i64 v3, .int .i64 v4] 136)) x
    rw [show decide (x = x) = true by simp]
    clear hvx hvf hfx hff
    go_enter Tryd.func55, Tryd.ntmps55
    go_wp2_with fail
    go_ret
    exact ⟨rfl, rfl⟩
  · have hq := eqp_ne h (old_cell hvx (.cells #[.int .i64 v0, .pointer (some ⟨x, 0, none⟩), .int .i64 v2, .int .i64 v3, .int .i64 v4] 136)) (old_cell hvf _) (fun o => (frozen_of (Below.heap_alloc _ _ _ hxl) o).trans (hfx o)) (fun o => (frozen_of (Below.heap_alloc _ _ _ hfl) o).trans (hff o))
    rw [decide_eq_false h]
    clear hvx hvf hfx hff
    go_enter Tryd.func55, Tryd.ntmps55
    go_wp2_with fail
    go_ret
    exact ⟨rfl, rfl⟩
set_option maxHeartbeats 1000000 in
theorem clo78_other (x z y : Nat) (v0 v2 v3 v4 : Int) (w : World) (h0 : v0 ≠ 1) :
    Calls Tryd.prog 78 #[.agg #[.int .i64 v0, .pointer (some ⟨x, 0, none⟩), .int .i64 v2, .int .i64 v3, .int .i64 v4], .pointer (some ⟨z, 0, none⟩), .pointer (some ⟨y, 0, none⟩)] w fun e w' => e = .returned (.bool false) ∧ w' = w.alloc (.cells #[.int .i64 v0, .pointer (some ⟨x, 0, none⟩), .int .i64 v2, .int .i64 v3, .int .i64 v4] 136) := by
  have h0' : (v0 == 1) = false := by simpa using h0
  go_enter Tryd.func78, Tryd.ntmps78
  go_wp2_with fail
  go_ret
  exact ⟨rfl, rfl⟩
set_option maxHeartbeats 1000000 in
theorem clo78_ne (x f z y : Nat) (v2 v3 v4 : Int) (w : World) (h : x ≠ f) (hz : w.cell? ⟨z, 0, none⟩ = some (.pointer (some ⟨f, 0, none⟩))) (hx : (∃ v, w.cell? ⟨x, 0, none⟩ = some v) ∧ ∀ o, w.frozen? ⟨x, o, none⟩ = false) (hf : (∃ v, w.cell? ⟨f, 0, none⟩ = some v) ∧ ∀ o, w.frozen? ⟨f, o, none⟩ = false) :
    Calls Tryd.prog 78 #[.agg #[.int .i64 1, .pointer (some ⟨x, 0, none⟩), .int .i64 v2, .int .i64 v3, .int .i64 v4], .pointer (some ⟨z, 0, none⟩), .pointer (some ⟨y, 0, none⟩)] w fun e w' => e = .returned (.bool false) ∧ w' = w.alloc (.cells #[.int .i64 1, .pointer (some ⟨x, 0, none⟩), .int .i64 v2, .int .i64 v3, .int .i64 v4] 136) := by
  obtain ⟨⟨vx, hvx⟩, hfx⟩ := hx
  obtain ⟨⟨vf, hvf⟩, hff⟩ := hf
  have hxl := World.block_lt_of_cell? _ _ hvx
  have hfl := World.block_lt_of_cell? _ _ hvf
  have hz1 := old_cell hz (.cells #[.int .i64 1, .pointer (some ⟨x, 0, none⟩), .int .i64 v2, .int .i64 v3, .int .i64 v4] 136)
  have hq := eqp_ne h (old_cell hvx (.cells #[.int .i64 1, .pointer (some ⟨x, 0, none⟩), .int .i64 v2, .int .i64 v3, .int .i64 v4] 136)) (old_cell hvf _) (fun o => (frozen_of (Below.heap_alloc _ _ _ hxl) o).trans (hfx o)) (fun o => (frozen_of (Below.heap_alloc _ _ _ hfl) o).trans (hff o))
  clear hvx hvf hfx hff
  go_enter Tryd.func78, Tryd.ntmps78
  go_wp2_with fail
  go_ret
  exact ⟨rfl, rfl⟩
theorem fr_set (w : World) (y o : Nat) (v : Value) : Fr w (w.setCell ⟨y, o, none⟩ v) (fun k => k = y) := ⟨rfl, rfl, rfl, by simp, fun k _ hk => Below.heap_setCell _ _ _ _ hk⟩
def Cl78 (w w' : World) (y : Nat) (m : Int) : Prop := Fr w w' (fun k => k = y) ∧ w'.heap[y]? = (w.setCell ⟨y, 4, none⟩ (.int .i64 m)).heap[y]?
set_option maxHeartbeats 1000000 in
theorem clo78_eq (f z y : Nat) (v2 v3 v4 ls : Int) (w : World) (hz : w.cell? ⟨z, 0, none⟩ = some (.pointer (some ⟨f, 0, none⟩))) (hy : w.cell? ⟨y, 4, none⟩ = some (.int .i64 ls)) (hyf : w.frozen? ⟨y, 4, none⟩ = false) :
    Calls Tryd.prog 78 #[.agg #[.int .i64 1, .pointer (some ⟨f, 0, none⟩), .int .i64 v2, .int .i64 v3, .int .i64 v4], .pointer (some ⟨z, 0, none⟩), .pointer (some ⟨y, 0, none⟩)] w fun e w' => e = .returned (.bool true) ∧ Cl78 w w' y (min ls v4) := by
  have hyl := World.block_lt_of_cell? _ _ hy
  have hz1 := old_cell hz (.cells #[.int .i64 1, .pointer (some ⟨f, 0, none⟩), .int .i64 v2, .int .i64 v3, .int .i64 v4] 136)
  have hy1 := old_cell hy (.cells #[.int .i64 1, .pointer (some ⟨f, 0, none⟩), .int .i64 v2, .int .i64 v3, .int .i64 v4] 136)
  have hyf1 : (w.alloc (.cells #[.int .i64 1, .pointer (some ⟨f, 0, none⟩), .int .i64 v2, .int .i64 v3, .int .i64 v4] 136)).frozen? ⟨y, 4, none⟩ = false := (frozen_of (Below.heap_alloc _ _ _ hyl) 4).trans hyf
  have hn4 : (w.alloc (.cells #[.int .i64 1, .pointer (some ⟨f, 0, none⟩), .int .i64 v2, .int .i64 v3, .int .i64 v4] 136)).cell? ⟨w.heap.size, 4, none⟩ = some (.int .i64 v4) := (cells5 (heap_alloc_new _ _)).2.2
  have hq := eqp_same (w.alloc (.cells #[.int .i64 1, .pointer (some ⟨f, 0, none⟩), .int .i64 v2, .int .i64 v3, .int .i64 v4] 136)) f
  go_enter Tryd.func78, Tryd.ntmps78
  go_wp2_with fail
  all_goals
    go_ret
    refine ⟨rfl, ?_, ?_⟩
    · exact (fr_set _ _ _ _).alloc _
    · first
        | rw [show min ls v4 = v4 by omega]
        | rw [show min ls v4 = ls by omega]
      exact Below.heap_alloc _ _ _ (by simp; omega)
/-- Behind a pendSet. -/
def PSP (w' : World) (b x : Nat) (r bu ls : Int) (R : Value → World → Prop) : Prop :=
  ∃ v1 w1 n px v2 w3, R v1 w1 ∧ w1.ownsRow 0 136 5 v1 n px ∧ w3.ownsRow 0 136 5 v2 (n + 1) (px ++ [.int .i64 1, .pointer (some ⟨x, 0, none⟩), .int .i64 r, .int .i64 bu, .int .i64 ls]) ∧
    Gr ((w1.setCell ⟨b, 4, none⟩ v1).alloc (.cells #[.int .i64 1, .pointer (some ⟨x, 0, none⟩), .int .i64 r, .int .i64 bu, .int .i64 ls] 136)) w3 v1 v2 ∧ Ch w3 w' (fun a o => a = b ∧ o = 4) ∧ w'.cell? ⟨b, 4, none⟩ = some v2
theorem cells5all {W : World} {z : Nat} {v0 v1 v2 v3 v4 : Value} {t : TypeId} (h : W.heap[z]? = some (.cells #[v0, v1, v2, v3, v4] t)) :
    W.cell? ⟨z, 0, none⟩ = some v0 ∧ W.cell? ⟨z, 1, none⟩ = some v1 ∧ W.cell? ⟨z, 2, none⟩ = some v2 ∧ W.cell? ⟨z, 3, none⟩ = some v3 ∧ W.cell? ⟨z, 4, none⟩ = some v4 := by
  refine ⟨?_, ?_, ?_, ?_, ?_⟩ <;> simp [World.cell?, h]
set_option maxHeartbeats 2000000 in
theorem pend_walk (b x : Nat) (r bu ls : Int) (pv : Value) (w : World) (R : Value → World → Prop) (h4 : w.cell? ⟨b, 4, none⟩ = some pv)
    (hD : Calls Tryd.prog 54 #[pv, .func (.func 78) #[] #[.pointer (some ⟨w.heap.size, 0, none⟩), .pointer (some ⟨w.heap.size + 1, 0, none⟩)]] ((w.alloc (.cells #[.pointer (some ⟨x, 0, none⟩)] 132)).alloc (.cells #[.int .i64 1, .pointer (some ⟨x, 0, none⟩), .int .i64 r, .int .i64 bu, .int .i64 bu] 136)) fun e w' => ∃ v', e = .returned v' ∧ R v' w')
    (hR : ∀ v1 w1, R v1 w1 → ∃ n px, w1.ownsRow 0 136 5 v1 n px ∧ n < 1000 ∧ (∃ v, w1.cell? ⟨b, 4, none⟩ = some v) ∧ w1.frozen? ⟨b, 4, none⟩ = false ∧ w1.heap[w.heap.size + 1]? = some (.cells #[.int .i64 1, .pointer (some ⟨x, 0, none⟩), .int .i64 r, .int .i64 bu, .int .i64 ls] 136) ∧ v1.ownBlock ≠ some b ∧ b ≠ w.heap.size + 1) :
    Calls Tryd.prog 50 #[.pointer (some ⟨b, 0, none⟩), .pointer (some ⟨x, 0, none⟩), .int .i64 r, .int .i64 bu] w fun e w' => e = .returned (.tuple #[]) ∧ PSP w' b x r bu ls R := by
  obtain ⟨i2, hj2, hz0, hz1, hz2⟩ := info_parts info136
  have HD := hide hD; have HR := hide hR
  clear hD hR
  have h4' : ((w.alloc (.cells #[.pointer (some ⟨x, 0, none⟩)] 132)).alloc (.cells #[.int .i64 1, .pointer (some ⟨x, 0, none⟩), .int .i64 r, .int .i64 bu, .int .i64 bu] 136)).cell? ⟨b, 4, none⟩ = some pv := old_cell (old_cell h4 _) _
  go_enter Tryd.func50, Tryd.ntmps50
  go_wp2_with fail
  refine (unhide HD).mono ?_
  rintro e w1 ⟨v1, rfl, hR1⟩
  obtain ⟨n, px, hrow, hn, ⟨v4, hb4⟩, hz4, hy, hvb, hby⟩ := unhide HR _ _ hR1
  have HR1 := hide hR1; have HRow := hide hrow
  have hsl : ∃ af cf, v1 = .slice af n cf := by
    rcases hrow.2 with ⟨q, q2⟩ | ⟨g, cap, cur, q, _⟩
    · exact ⟨none, 0, by rw [q, q2]⟩
    · exact ⟨_, cap, q⟩
  obtain ⟨af, cf, hv1⟩ := hsl
  have HV1 := hide hv1
  clear hR1 hrow
  rw [hv1]
  have hyy : (w1.setCell ⟨b, 4, none⟩ (.slice af n cf)).heap[w.heap.size + 1]? = some (.cells #[.int .i64 1, .pointer (some ⟨x, 0, none⟩), .int .i64 r, .int .i64 bu, .int .i64 ls] 136) := (Below.heap_setCell _ _ _ _ (fun e => hby e.symm)).trans hy
  obtain ⟨y0, y1, y2, y3, y4⟩ := cells5all hyy
  have q4 : (w1.setCell ⟨b, 4, none⟩ (.slice af n cf)).cell? ⟨b, 4, none⟩ = some (.slice af n cf) := by simp [cset, hb4]
  have qz : (w1.setCell ⟨b, 4, none⟩ (.slice af n cf)).frozen? ⟨b, 4, none⟩ = false := by rw [World.frozen?_setCell]; exact hz4
  have HRq : Hid ((w1.setCell ⟨b, 4, none⟩ (.slice af n cf)).ownsRow 0 136 5 (.slice af n cf) n px) := by
    have h := unhide HRow
    rw [hv1] at h hvb
    exact row_kept0 h fun g hg => Below.heap_setCell _ _ _ _ (fun e => hvb (hg.trans (congrArg some e)))
  have hs1 : (w1.setCell ⟨b, 4, none⟩ (.slice af n cf)).heap.size = w1.heap.size := by simp
  have HE : Hid (∃ wq, wq = w1.setCell ⟨b, 4, none⟩ (.slice af n cf)) := ⟨_, rfl⟩
  clear HE
  go_upto_region 3 with fail
  generalize hwq : w1.setCell ⟨b, 4, none⟩ (.slice af n cf) = wq at *
  have HWQ := hide hwq
  have hqa4 := old_cell q4 (.cells #[.int .i64 1, .pointer (some ⟨x, 0, none⟩), .int .i64 r, .int .i64 bu, .int .i64 ls] 136)
  have hbq : b < wq.heap.size := World.block_lt_of_cell? _ _ q4
  have HB : Hid ((wq.alloc (.cells #[.int .i64 1, .pointer (some ⟨x, 0, none⟩), .int .i64 r, .int .i64 bu, .int .i64 ls] 136)).drew.ownsRow 0 136 5 (.slice af n cf) n px) := World.ownsRow.alloc (w := wq) (unhide HRq) _
  have HN : Hid (∀ j u, [Value.int .i64 1, .pointer (some ⟨x, 0, none⟩), .int .i64 r, .int .i64 bu, .int .i64 ls][j]? = some u → (wq.alloc (.cells #[.int .i64 1, .pointer (some ⟨x, 0, none⟩), .int .i64 r, .int .i64 bu, .int .i64 ls] 136)).drew.cell? ((⟨wq.heap.size, 0, none⟩ : Addr).add j) = some u) := fun j u hu => cells_new (w := wq) (cur := #[.int .i64 1, .pointer (some ⟨x, 0, none⟩), .int .i64 r, .int .i64 bu, .int .i64 ls]) j u hu
  have hvb' : (Value.slice af n cf).ownBlock ≠ some b := by rw [← unhide HV1]; exact hvb
  clear hwq hs1
  go_region_law (refine step_append2 rfl (.tmp 27) (.tmp 29) 114 rfl 0 136 i2 (.agg #[.int .i64 0, .pointer none, .int .i64 0, .int .i64 0, .int .i64 0]) 5 40 Tryd.underlying114 hj2 hz0 hz1 hz2 rfl (by decide) (.slice af n cf) n px (by simp [Act.eval, Act.put]) (unhide HB) ⟨wq.heap.size, 0, none⟩ 1 1 [.int .i64 1, .pointer (some ⟨x, 0, none⟩), .int .i64 r, .int .i64 bu, .int .i64 ls] (by simp [Act.eval, Act.put]) rfl (unhide HN) (by simp [Value.oneCell']) (by unfold maxLen; omega) (by omega) (Nat.zero_le _) ?_; intro v2 w3 hown3 hgr3; obtain ⟨g3, cap3, hv3, hg3a, hg3b, hg3c, hcap3, hcm3⟩ := row_shape hown3 (by omega); have HO3 := hide hown3; have HG3 := hide hgr3; have HV3 := hide hv3; have m4 := app_cell hgr3 hvb' hqa4; have hbk := app_blk hgr3 (k := b) (by show b < (wq.alloc _).heap.size; simp; omega) (fun e => absurd e hvb'); have y4z := (frozen_of hbk 4).trans ((frozen_of (Below.heap_alloc wq _ _ hbq) 4).trans qz); rw [hv3]; clear hown3 hgr3 hv3 hbk)
  all_goals
    go_wp2_with fail
    go_end0
    refine ⟨rfl, v1, w1, n, px, .slice (some ⟨g3, 0, none⟩) (n + 1) cap3, w3, unhide HR1, unhide HRow, by have h := unhide HO3; rw [unhide HV3] at h; exact h, ?_, ?_, ?_⟩
    · have h := unhide HG3
      rw [unhide HV1, unhide HWQ, ← unhide HV3]
      rcases h with ⟨q1, q2⟩ | ⟨q1, q2⟩
      · exact .inl ⟨q1, ⟨q2.os, q2.tape, q2.output, q2.size, q2.block⟩⟩
      · exact .inr ⟨q1, ⟨q2.os, q2.tape, q2.output, q2.size, q2.block⟩⟩
    · repeat (first | exact Ch.refl _ _ | refine Ch.drew ?_ | refine Ch.setCell ?_ ⟨rfl, rfl⟩ _)
    · simp [cset, m4]
end Go.Proofs.YtogdekjklbbbiaaDoor
