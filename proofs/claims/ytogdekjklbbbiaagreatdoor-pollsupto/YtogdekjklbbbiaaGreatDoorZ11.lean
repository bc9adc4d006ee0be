import Derived.Test.YtogdekjklbbbiaaGreatDoorZ06
import Derived.Test.YtogdekjklbbbiaaGreatDoorZ10
import Derived.Deep.QuietTactic
import Derived.Deep.RegionHeld3
set_option maxRecDepth 100000
namespace Go.Proofs.YtogdekjklbbbiaaGreatDoor
open Go.ChangeShapes Go.WideShapes Go.ChangeAt Go.RowKit
set_option linter.unusedSimpArgs false
set_option linter.unusedVariables false

theorem info196 : (Tryz.prog.info? 196).map (fun i => (i.zero, i.size, i.bytes)) = some (some (.agg #[.int .i64 0, .int .i64 0]), 2, 16) := by kernel_rfl
theorem info187 : (Tryz.prog.info? 187).map (fun i => (i.zero, i.size, i.bytes)) = some (some (.agg #[.int .i64 0, .int .i64 0, .int .i64 0, .int .i64 0]), 4, 32) := by kernel_rfl
theorem eqp_nilR (w : World) (x : Nat) : (binOp .eql 183 (.pointer (some ⟨x, 0, none⟩)) (.pointer none)).run Tryz.prog w = .ok (.bool false) w := by
  kernel_rfl

set_option maxHeartbeats 1000000 in
theorem renq_none (b : Nat) (f t l : Int) (w : World) (h1 : w.cell? ⟨b, 1, none⟩ = some (.bool false)) (hV : Calls Tryz.prog 76 #[.pointer (some ⟨b, 0, none⟩), .int .i64 f] w fun e w' => w' = w ∧ e = .returned (.pointer none)) :
    Calls Tryz.prog 78 #[.pointer (some ⟨b, 0, none⟩), .int .i64 f, .int .i64 t, .int .i64 l] w fun e w' => e = .returned (.int .i64 5) ∧ w' = w := by
  have HV := hide hV
  clear hV
  go_enter Tryz.func78, Tryz.ntmps78
  go_wp2_with fail
  refine (unhide HV).mono ?_
  rintro e w0 ⟨hw0, rfl⟩
  rw [hw0]
  clear hw0
  go_wp2_with fail
  go_ret
  exact ⟨rfl, rfl⟩
set_option maxHeartbeats 1000000 in
theorem renq_big (b x : Nat) (f t l : Int) (w : World) (h1 : w.cell? ⟨b, 1, none⟩ = some (.bool false)) (hV : Calls Tryz.prog 76 #[.pointer (some ⟨b, 0, none⟩), .int .i64 f] w fun e w' => w' = w ∧ e = .returned (.pointer (some ⟨x, 0, none⟩))) (hl : l < 1 ∨ 1500 < l) :
    Calls Tryz.prog 78 #[.pointer (some ⟨b, 0, none⟩), .int .i64 f, .int .i64 t, .int .i64 l] w fun e w' => e = .returned (.int .i64 2) ∧ w' = w := by
  have HV := hide hV
  have hnil := eqp_nilR w x
  clear hV
  rcases hl with hl | hl
  · go_enter Tryz.func78, Tryz.ntmps78
    go_wp2_with fail
    refine (unhide HV).mono ?_
    rintro e w0 ⟨hw0, rfl⟩
    rw [hw0]
    clear hw0
    go_wp2_with fail
    go_ret
    exact ⟨rfl, rfl⟩
  · have hl' : decide (l < 1) = false := decide_eq_false (by omega)
    go_enter Tryz.func78, Tryz.ntmps78
    go_wp2_with fail
    refine (unhide HV).mono ?_
    rintro e w0 ⟨hw0, rfl⟩
    rw [hw0]
    clear hw0
    go_wp2_with fail
    go_ret
    exact ⟨rfl, rfl⟩
set_option maxHeartbeats 1000000 in
theorem renq_full (b x : Nat) (f t l : Int) (a : Option Addr) (c : Nat) (w : World) (h1 : w.cell? ⟨b, 1, none⟩ = some (.bool false)) (hV : Calls Tryz.prog 76 #[.pointer (some ⟨b, 0, none⟩), .int .i64 f] w fun e w' => w' = w ∧ e = .returned (.pointer (some ⟨x, 0, none⟩))) (hl1 : 1 ≤ l) (hl2 : l ≤ 1500) (h4 : w.cell? ⟨x, 4, none⟩ = some (.slice a 8 c)) :
    Calls Tryz.prog 78 #[.pointer (some ⟨b, 0, none⟩), .int .i64 f, .int .i64 t, .int .i64 l] w fun e w' => e = .returned (.int .i64 8) ∧ w' = w := by
  have HV := hide hV
  have hnil := eqp_nilR w x
  clear hV
  have h1' : decide (l < 1) = false := decide_eq_false (by omega)
  have h2' : decide (1500 < l) = false := decide_eq_false (by omega)
  go_enter Tryz.func78, Tryz.ntmps78
  go_wp2_with fail
  refine (unhide HV).mono ?_
  rintro e w0 ⟨hw0, rfl⟩
  rw [hw0]
  clear hw0
  go_wp2_with fail
  go_ret
  exact ⟨rfl, rfl⟩
def RTakeP (w w' : World) (b x k m : Nat) (f t l : Int) (v pv : Value) (vx px : List Value) : Prop :=
  ∃ v' pv' w2 w4, w2.ownsRow 0 196 2 v' (k + 1) (vx ++ [.int .i64 t, .int .i64 l]) ∧ Gr (w.alloc (.cells #[.int .i64 t, .int .i64 l] 196)) w2 v v' ∧
    w4.ownsRow 0 187 4 pv' (m + 1) (px ++ [.int .i64 3, .int .i64 f, .int .i64 0, .int .i64 0]) ∧
    Gr ((w2.setCell ⟨x, 4, none⟩ v').alloc (.cells #[.int .i64 3, .int .i64 f, .int .i64 0, .int .i64 0] 187)) w4 pv pv' ∧ w' = w4.setCell ⟨b, 4, none⟩ pv'
set_option maxHeartbeats 2000000 in
theorem renq_good (b x k m : Nat) (f t l : Int) (v pv : Value) (vx px : List Value) (w : World) (h1 : w.cell? ⟨b, 1, none⟩ = some (.bool false)) (hV : Calls Tryz.prog 76 #[.pointer (some ⟨b, 0, none⟩), .int .i64 f] w fun e w' => w' = w ∧ e = .returned (.pointer (some ⟨x, 0, none⟩))) (hl1 : 1 ≤ l) (hl2 : l ≤ 1500) (hk : k < 8) (hm : m < 2200000000000)
    (h5 : w.cell? ⟨x, 4, none⟩ = some v) (h4 : w.cell? ⟨b, 4, none⟩ = some pv) (hfx : ∀ o, w.frozen? ⟨x, o, none⟩ = false) (hfb : ∀ o, w.frozen? ⟨b, o, none⟩ = false) (hxb : x ≠ b)
    (hrv : w.ownsRow 0 196 2 v k vx) (hrp : w.ownsRow 0 187 4 pv m px) (hvx : v.ownBlock ≠ some x) (hvb : v.ownBlock ≠ some b) (hpx : pv.ownBlock ≠ some x) (hpb : pv.ownBlock ≠ some b) (hvp : ∀ g, v.ownBlock = some g → pv.ownBlock ≠ some g) :
    Calls Tryz.prog 78 #[.pointer (some ⟨b, 0, none⟩), .int .i64 f, .int .i64 t, .int .i64 l] w fun e w' => e = .returned (.int .i64 0) ∧ RTakeP w w' b x k m f t l v pv vx px := by
  obtain ⟨i1, hj1, hy0, hy1, hy2⟩ := info_parts info196
  obtain ⟨i2, hj2, hz0, hz1, hz2⟩ := info_parts info187
  have hxl : x < w.heap.size := World.block_lt_of_cell? _ _ h5
  have hbl : b < w.heap.size := World.block_lt_of_cell? _ _ h4
  have hfs : ∃ af cf, v = .slice af k cf := by
    rcases hrv.2 with ⟨q, q2⟩ | ⟨g, cap, cur, q, _⟩
    · exact ⟨none, 0, by rw [q, q2]⟩
    · exact ⟨_, cap, q⟩
  obtain ⟨af, cf, hfv⟩ := hfs
  have HV := hide hV; have HFV := hide hfv; have HRV := hide hrv; have HRP := hide hrp; have HFX := hide hfx; have HFB := hide hfb; have HVP := hide hvp
  clear hV hrv hrp hfx hfb hvp
  have h1' : decide (l < 1) = false := decide_eq_false (by omega)
  have h2' : decide (1500 < l) = false := decide_eq_false (by omega)
  have hk8 : decide ((8 : Int) ≤ (k : Int)) = false := decide_eq_false (by omega)
  have hk8' : decide (8 ≤ k) = false := decide_eq_false (by omega)
  have hnil := eqp_nilR w x
  have h5' := h5
  rw [hfv] at h5'
  have HR1 : Hid ((w.alloc (.cells #[.int .i64 t, .int .i64 l] 196)).ownsRow 0 196 2 (.slice af k cf) k vx) := by
    refine World.ownsRow.alloc ?_ _
    rw [← hfv]; exact unhide HRV
  have HN1 : Hid (∀ j u, [Value.int .i64 t, .int .i64 l][j]? = some u → (w.alloc (.cells #[.int .i64 t, .int .i64 l] 196)).cell? ((⟨w.heap.size, 0, none⟩ : Addr).add j) = some u) := fun j u hu => cells_new (cur := #[.int .i64 t, .int .i64 l]) j u hu
  have hA5 := old_cell h5' (.cells #[.int .i64 t, .int .i64 l] 196)
  have hA4 := old_cell h4 (.cells #[.int .i64 t, .int .i64 l] 196)
  clear h5
  go_enter Tryz.func78, Tryz.ntmps78
  go_wp2_with fail
  refine (unhide HV).mono ?_
  rintro e w0 ⟨hw0, rfl⟩
  rw [hw0]
  clear hw0
  go_upto_region 11 with (first
    | (at_builtin; refine wpList_append2 rfl _ _ 101 rfl 0 196 i1 (.agg #[.int .i64 0, .int .i64 0]) 2 16 Tryz.underlying101 hj1 hy0 hy1 hy2 rfl (by decide) (.slice af k cf) k vx rfl (unhide HR1) ⟨w.heap.size, 0, none⟩ 1 1 [.int .i64 t, .int .i64 l] rfl rfl (unhide HN1) (by simp [Value.oneCell']) (by unfold maxLen; omega) (by omega) (Nat.zero_le _) ?_; intro v1 w2 hown2 hgr2; rw [← unhide HFV] at hgr2; have HG2 := hide (show Gr (w.alloc (.cells #[.int .i64 t, .int .i64 l] 196)) w2 v v1 from hgr2); obtain ⟨g2, cap2, hfv2, hg2a, hg2b, hg2c, hcap2, hcm2⟩ := row_shape hown2 (by omega); have HO2 := hide hown2; have HV2 := hide hfv2; have k5 := app_cell hgr2 hvx hA5; have k4 := app_cell hgr2 hvb hA4; have hx2 := app_blk hgr2 (k := x) (by simp; omega) (fun e => absurd e hvx); have hb2 := app_blk hgr2 (k := b) (by simp; omega) (fun e => absurd e hvb); have z5 := ((frozen_of hx2 4).trans (frozen_of (Below.heap_alloc _ _ _ hxl) 4)).trans (unhide HFX 4); have z4 := ((frozen_of hb2 4).trans (frozen_of (Below.heap_alloc _ _ _ hbl) 4)).trans (unhide HFB 4); have hsz2 := (app_size hgr2).2.2.2; rw [hfv2]; clear hown2 hgr2 hfv2 hb2 hx2))
  simp only [World.size_alloc] at hsz2
  have HP1 : Hid (((w2.setCell ⟨x, 4, none⟩ (.slice (some ⟨g2, 0, none⟩) (k + 1) cap2)).alloc (.cells #[.int .i64 3, .int .i64 f, .int .i64 0, .int .i64 0] 187)).ownsRow 0 187 4 pv m px) := by
    refine World.ownsRow.alloc ?_ _
    refine row_kept0 (unhide HRP) fun g hg => ?_
    have hgx : g ≠ x := fun e => hpx (hg.trans (congrArg some e))
    have hgl := ((unhide HRP).lt g hg).2
    rw [Below.heap_setCell _ _ _ _ hgx, app_blk (unhide HG2) (by simp; omega) (fun e => absurd hg (unhide HVP g e)), Below.heap_alloc _ _ _ hgl]
  have HN2 : Hid (∀ j u, [Value.int .i64 3, .int .i64 f, .int .i64 0, .int .i64 0][j]? = some u → ((w2.setCell ⟨x, 4, none⟩ (.slice (some ⟨g2, 0, none⟩) (k + 1) cap2)).alloc (.cells #[.int .i64 3, .int .i64 f, .int .i64 0, .int .i64 0] 187)).cell? ((⟨w2.heap.size, 0, none⟩ : Addr).add j) = some u) := by
    intro j u hu
    have := cells_new (w := w2.setCell ⟨x, 4, none⟩ (.slice (some ⟨g2, 0, none⟩) (k + 1) cap2)) (cur := #[.int .i64 3, .int .i64 f, .int .i64 0, .int .i64 0]) (t := 187) j u hu
    simpa using this
  have hB4 : ((w2.setCell ⟨x, 4, none⟩ (.slice (some ⟨g2, 0, none⟩) (k + 1) cap2)).alloc (.cells #[.int .i64 3, .int .i64 f, .int .i64 0, .int .i64 0] 187)).cell? ⟨b, 4, none⟩ = some pv := by
    refine old_cell ?_ _
    rw [World.cell?_setCell_other]
    · exact k4
    · intro q; injection q with q; exact hxb q
  have hbl2 : b < w2.heap.size := World.block_lt_of_cell? _ _ k4
  have hBz : ((w2.setCell ⟨x, 4, none⟩ (.slice (some ⟨g2, 0, none⟩) (k + 1) cap2)).alloc (.cells #[.int .i64 3, .int .i64 f, .int .i64 0, .int .i64 0] 187)).frozen? ⟨b, 4, none⟩ = false := by
    rw [frozen_of (Below.heap_alloc _ _ _ (by simp; omega)) 4, World.frozen?_setCell]
    exact z4
  go_wp2_with (first
    | (at_builtin; refine wpList_append2 rfl _ _ 89 rfl 0 187 i2 (.agg #[.int .i64 0, .int .i64 0, .int .i64 0, .int .i64 0]) 4 32 Tryz.underlying89 hj2 hz0 hz1 hz2 rfl (by decide) pv m px rfl (unhide HP1) ⟨w2.heap.size, 0, none⟩ 1 1 [.int .i64 3, .int .i64 f, .int .i64 0, .int .i64 0] rfl rfl (unhide HN2) (by simp [Value.oneCell']) (by unfold maxLen; omega) (by omega) (Nat.zero_le _) ?_; intro pv1 w4 hown4 hgr4; have HG4 := hide (show Gr ((w2.setCell ⟨x, 4, none⟩ (.slice (some ⟨g2, 0, none⟩) (k + 1) cap2)).alloc (.cells #[.int .i64 3, .int .i64 f, .int .i64 0, .int .i64 0] 187)) w4 pv pv1 from hgr4); obtain ⟨g4, cap4, hpv4, hg4a, hg4b, hg4c, hcap4, hcm4⟩ := row_shape hown4 (by omega); have HO4 := hide hown4; have HV4 := hide hpv4; have m4 := app_cell hgr4 hpb hB4; have hb4 := app_blk hgr4 (k := b) (by simp; omega) (fun e => absurd e hpb); have y4 := (frozen_of hb4 4).trans hBz; rw [hpv4]; clear hown4 hgr4 hpv4 hb4))
  go_ret
  refine ⟨rfl, v1, pv1, w2, w4, unhide HO2, unhide HG2, unhide HO4, ?_, ?_⟩
  · have := unhide HG4
    rw [← unhide HV2] at this
    exact this
  · rw [unhide HV4]
end Go.Proofs.YtogdekjklbbbiaaGreatDoor

namespace Go.Proofs.YtogdekjklbbbiaaGreatDoor
open Go.ChangeShapes Go.WideShapes Go.ChangeAt Go.RowKit
set_option linter.unusedSimpArgs false
set_option linter.unusedVariables false

def askO (k f r bu : Int) : Obj := .cells #[.int .i64 k, .int .i64 f, .int .i64 r, .int .i64 bu] 187
theorem cells4 {W : World} {z : Nat} {v0 v1 v2 v3 : Value} {t : TypeId} (h : W.heap[z]? = some (.cells #[v0, v1, v2, v3] t)) :
    W.cell? ⟨z, 0, none⟩ = some v0 ∧ W.cell? ⟨z, 1, none⟩ = some v1 ∧ W.cell? ⟨z, 2, none⟩ = some v2 ∧ W.cell? ⟨z, 3, none⟩ = some v3 := by
  refine ⟨?_, ?_, ?_, ?_⟩ <;> simp [World.cell?, h]
set_option maxHeartbeats 400000 in
theorem radmit_add (b x : Nat) (n r bu ck : Int) (v1 v2 v3 v6 v7 : Value) (w : World) (hb : 0 ≤ bu ∧ bu ≤ 1000000) (hxb : x ≠ b)
    (c1 : w.cell? ⟨x, 1, none⟩ = some v1) (c2 : w.cell? ⟨x, 2, none⟩ = some v2) (c3 : w.cell? ⟨x, 3, none⟩ = some v3) (c6 : w.cell? ⟨x, 6, none⟩ = some v6) (c7 : w.cell? ⟨x, 7, none⟩ = some v7) (d2 : w.cell? ⟨b, 2, none⟩ = some (.int .i64 ck)) (hfx : ∀ o, w.frozen? ⟨x, o, none⟩ = false)
    (hV : Calls Tryz.prog 76 #[.pointer (some ⟨b, 0, none⟩), .int .i64 n] (w.alloc (askO 1 n r bu)) fun e w' => w' = w.alloc (askO 1 n r bu) ∧ e = .returned (.pointer (some ⟨x, 0, none⟩))) :
    Calls Tryz.prog 85 #[.pointer (some ⟨b, 0, none⟩), .agg #[.int .i64 1, .int .i64 n, .int .i64 r, .int .i64 bu]] w fun e w' => e = .returned (.tuple #[]) ∧
      w' = (((((w.alloc (askO 1 n r bu)).setCell ⟨x, 3, none⟩ (.bool true)).setCell ⟨x, 1, none⟩ (.int .i64 r)).setCell ⟨x, 2, none⟩ (.int .i64 bu)).setCell ⟨x, 6, none⟩ (.int .i64 (bu * 1000000000))).setCell ⟨x, 7, none⟩ (.int .i64 ck) := by
  have hxl : x < w.heap.size := World.block_lt_of_cell? _ _ c1
  have hbl : b < w.heap.size := World.block_lt_of_cell? _ _ d2
  obtain ⟨z0, z1, z2, z3⟩ := cells4 (heap_alloc_new w (askO 1 n r bu))
  have e1 := old_cell c1 (askO 1 n r bu)
  have e2 := old_cell c2 (askO 1 n r bu)
  have e3 := old_cell c3 (askO 1 n r bu)
  have e6 := old_cell c6 (askO 1 n r bu)
  have e7 := old_cell c7 (askO 1 n r bu)
  have f2 := old_cell d2 (askO 1 n r bu)
  have hf : ∀ o, (w.alloc (askO 1 n r bu)).frozen? ⟨x, o, none⟩ = false := fun o => by rw [frozen_of (Below.heap_alloc _ _ _ hxl) o]; exact hfx o
  have y1 := hf 1; have y2 := hf 2; have y3 := hf 3; have y6 := hf 6; have y7 := hf 7
  have hsz : (w.alloc (askO 1 n r bu)).heap.size = w.heap.size + 1 := by simp
  have hw : IntKind.i64.wrap (bu * 1000000000) = bu * 1000000000 := wrapI (by omega) (by omega)
  have HV := hide hV
  clear hV hfx hf c1 c2 c3 c6 c7 d2
  have hz : w.heap.size ≠ x := by omega
  have hz2 : x ≠ w.heap.size := by omega
  have hbx : b ≠ x := fun e => hxb e.symm
  go_enter Tryz.func85, Tryz.ntmps85
  simp only [askO] at *
  go_wp2_with fail
  refine (unhide HV).mono ?_
  rintro e w0 ⟨hw0, rfl⟩
  rw [hw0]
  clear hw0
  clear hsz HV hxl hbl
  generalize hwa : w.alloc (.cells #[.int .i64 1, .int .i64 n, .int .i64 r, .int .i64 bu] 187) = wa at *
  have HWA := hide hwa
  clear hwa
  generalize w.heap.size = z at *
  go_wp2_with fail
  go_end0
  exact ⟨rfl, by rw [unhide HWA]⟩
/-- What a Set's admission writes. -/
def SSet (x : Nat) (a o : Nat) : Prop := a = x ∧ (o = 1 ∨ o = 2 ∨ o = 6)
set_option maxHeartbeats 2000000 in
theorem radmit_set (b x : Nat) (n r : Int) (bu cr : Nat) (w : World) (R1 : World → Prop) (Post : World → Prop) (hb : bu ≤ 1000000) (hcr : cr ≤ 1000000000000000)
    (hV : Calls Tryz.prog 76 #[.pointer (some ⟨b, 0, none⟩), .int .i64 n] (w.alloc (askO 2 n r (bu : Int))) fun e w' => w' = w.alloc (askO 2 n r (bu : Int)) ∧ e = .returned (.pointer (some ⟨x, 0, none⟩)))
    (hA : Calls Tryz.prog 123 #[.pointer (some ⟨b, 0, none⟩), .pointer (some ⟨x, 0, none⟩)] (w.alloc (askO 2 n r (bu : Int))) fun e w' => e = .returned (.tuple #[]) ∧ R1 w')
    (hR : ∀ w1, R1 w1 → w1.heap[w.heap.size]? = some (askO 2 n r (bu : Int)) ∧ (∃ v, w1.cell? ⟨x, 1, none⟩ = some v) ∧ (∃ v, w1.cell? ⟨x, 2, none⟩ = some v) ∧ w1.cell? ⟨x, 6, none⟩ = some (.int .i64 (cr : Int)) ∧ (∀ o, w1.frozen? ⟨x, o, none⟩ = false) ∧ x ≠ w.heap.size)
    (hP : ∀ w1, R1 w1 → ∀ w2, Ch w1 w2 (SSet x) → w2.cell? ⟨x, 1, none⟩ = some (.int .i64 r) → w2.cell? ⟨x, 2, none⟩ = some (.int .i64 (bu : Int)) → w2.cell? ⟨x, 6, none⟩ = some (.int .i64 ((min cr (bu * 1000000000) : Nat) : Int)) →
      Calls Tryz.prog 124 #[.pointer (some ⟨b, 0, none⟩), .pointer (some ⟨x, 0, none⟩)] w2 fun e w' => e = .returned (.tuple #[]) ∧ Post w') :
    Calls Tryz.prog 85 #[.pointer (some ⟨b, 0, none⟩), .agg #[.int .i64 2, .int .i64 n, .int .i64 r, .int .i64 (bu : Int)]] w fun e w' => e = .returned (.tuple #[]) ∧ Post w' := by
  obtain ⟨z0, z1, z2, z3⟩ := cells4 (heap_alloc_new w (askO 2 n r (bu : Int)))
  have hw : IntKind.i64.wrap ((bu : Int) * 1000000000) = (bu : Int) * 1000000000 := wrapI (by omega) (by omega)
  have HV := hide hV; have HA := hide hA; have HR := hide hR; have HP := hide hP
  clear hV hA hR hP
  simp only [askO] at HV HA z0 z1 z2 z3
  go_enter Tryz.func85, Tryz.ntmps85
  go_wp2_with fail
  refine (unhide HV).mono ?_
  rintro e w0 ⟨hw0, rfl⟩
  rw [hw0]
  clear hw0
  go_wp2_with fail
  refine (unhide HA).mono ?_
  rintro e w1 ⟨rfl, hR1⟩
  obtain ⟨hz, ⟨v1, c1⟩, ⟨v2, c2⟩, c6, hfx, hxz⟩ := unhide HR w1 hR1
  obtain ⟨t0, t1, t2, t3⟩ := cells4 hz
  have y1 := hfx 1; have y2 := hfx 2; have y6 := hfx 6
  have HR1 := hide hR1
  have hzx : w.heap.size ≠ x := fun e => hxz e.symm
  clear hR1 hz hfx z0 z1 z2 z3 HV HA
  generalize w.heap.size = z at *
  by_cases hlt : bu * 1000000000 < cr
  · have hli : (bu : Int) * 1000000000 < (cr : Int) := by omega
    have hch0 : Ch w1 ((w1.setCell ⟨x, 1, none⟩ (.int .i64 r)).setCell ⟨x, 2, none⟩ (.int .i64 (bu : Int))) (SSet x) := (((Ch.refl w1 (SSet x)).setCell ⟨rfl, .inl rfl⟩ _).setCell ⟨rfl, .inr (.inl rfl)⟩ _)
    have HCl : Hid (∀ m, Calls Tryz.prog 124 #[.pointer (some ⟨b, 0, none⟩), .pointer (some ⟨x, 0, none⟩)] ((((w1.setCell ⟨x, 1, none⟩ (.int .i64 r)).setCell ⟨x, 2, none⟩ (.int .i64 (bu : Int))).drewN m).setCell ⟨x, 6, none⟩ (.int .i64 ((bu : Int) * 1000000000))) fun e w' => e = .returned (.tuple #[]) ∧ Post w') := by
      intro m
      have hch : Ch w1 (((w1.setCell ⟨x, 1, none⟩ (.int .i64 r)).setCell ⟨x, 2, none⟩ (.int .i64 (bu : Int))).drewN m) (SSet x) := hch0.drewN m
      refine unhide HP w1 (unhide HR1) _ (hch.setCell ⟨rfl, .inr (.inr rfl)⟩ _) ?_ ?_ ?_
      · rw [World.cell?_setCell_other _ _ _ _ (by intro q; injection q with _ q; cases q)]
        show ((w1.setCell _ _).setCell _ _).cell? _ = _
        rw [World.cell?_setCell_other _ _ _ _ (by intro q; injection q with _ q; cases q)]
        exact World.cell?_setCell_same' _ _ _ (by rw [c1]; rfl)
      · rw [World.cell?_setCell_other _ _ _ _ (by intro q; injection q with _ q; cases q)]
        show ((w1.setCell _ _).setCell _ _).cell? _ = _
        refine World.cell?_setCell_same' _ _ _ ?_
        rw [World.cell?_setCell_other _ _ _ _ (by intro q; injection q with _ q; cases q), c2]; rfl
      · rw [show ((min cr (bu * 1000000000) : Nat) : Int) = (bu : Int) * 1000000000 by omega]
        refine World.cell?_setCell_same' _ _ _ ?_
        rw [hch.dom, c6]; rfl
    clear hch0
    go_wp2_with fail
    go_quiet (fail)
    go_wp2_with fail
    refine (unhide HCl _).mono ?_
    rintro e w5 ⟨rfl, hp⟩
    have HPo := hide hp
    clear hp
    go_wp2_with fail
    go_end0
    exact ⟨rfl, unhide HPo⟩
  · have hli : decide ((bu : Int) * 1000000000 < (cr : Int)) = false := decide_eq_false (by omega)
    have hch0 : Ch w1 ((w1.setCell ⟨x, 1, none⟩ (.int .i64 r)).setCell ⟨x, 2, none⟩ (.int .i64 (bu : Int))) (SSet x) := (((Ch.refl w1 (SSet x)).setCell ⟨rfl, .inl rfl⟩ _).setCell ⟨rfl, .inr (.inl rfl)⟩ _)
    have HCl : Hid (∀ m, Calls Tryz.prog 124 #[.pointer (some ⟨b, 0, none⟩), .pointer (some ⟨x, 0, none⟩)] (((w1.setCell ⟨x, 1, none⟩ (.int .i64 r)).setCell ⟨x, 2, none⟩ (.int .i64 (bu : Int))).drewN m) fun e w' => e = .returned (.tuple #[]) ∧ Post w') := by
      intro m
      have hch : Ch w1 (((w1.setCell ⟨x, 1, none⟩ (.int .i64 r)).setCell ⟨x, 2, none⟩ (.int .i64 (bu : Int))).drewN m) (SSet x) := hch0.drewN m
      refine unhide HP w1 (unhide HR1) _ hch ?_ ?_ ?_
      · show ((w1.setCell _ _).setCell _ _).cell? _ = _
        rw [World.cell?_setCell_other _ _ _ _ (by intro q; injection q with _ q; cases q)]
        exact World.cell?_setCell_same' _ _ _ (by rw [c1]; rfl)
      · show ((w1.setCell _ _).setCell _ _).cell? _ = _
        refine World.cell?_setCell_same' _ _ _ ?_
        rw [World.cell?_setCell_other _ _ _ _ (by intro q; injection q with _ q; cases q), c2]; rfl
      · rw [show ((min cr (bu * 1000000000) : Nat) : Int) = (cr : Int) by omega]
        show ((w1.setCell _ _).setCell _ _).cell? _ = _
        rw [World.cell?_setCell_other _ _ _ _ (by intro q; injection q with _ q; cases q), World.cell?_setCell_other _ _ _ _ (by intro q; injection q with _ q; cases q)]
        exact c6
    clear hch0
    go_wp2_with fail
    go_quiet (fail)
    go_wp2_with fail
    refine (unhide HCl _).mono ?_
    rintro e w5 ⟨rfl, hp⟩
    have HPo := hide hp
    clear hp
    go_wp2_with fail
    go_end0
    exact ⟨rfl, unhide HPo⟩
set_option maxHeartbeats 2000000 in
theorem radmit_enq (b x : Nat) (n : Int) (ad : Nat) (w : World) (R1 : World → Prop) (Post : World → Prop) (had : ad < 1000000) (c5 : w.cell? ⟨x, 5, none⟩ = some (.int .i64 (ad : Int))) (hfx : ∀ o, w.frozen? ⟨x, o, none⟩ = false)
    (hV : Calls Tryz.prog 76 #[.pointer (some ⟨b, 0, none⟩), .int .i64 n] (w.alloc (askO 3 n 0 0)) fun e w' => w' = w.alloc (askO 3 n 0 0) ∧ e = .returned (.pointer (some ⟨x, 0, none⟩)))
    (hA : ad = 0 → Calls Tryz.prog 123 #[.pointer (some ⟨b, 0, none⟩), .pointer (some ⟨x, 0, none⟩)] ((w.alloc (askO 3 n 0 0)).setCell ⟨x, 5, none⟩ (.int .i64 ((ad : Int) + 1))) fun e w' => e = .returned (.tuple #[]) ∧ R1 w')
    (hP : ∀ w1, R1 w1 → Calls Tryz.prog 124 #[.pointer (some ⟨b, 0, none⟩), .pointer (some ⟨x, 0, none⟩)] w1 fun e w' => e = .returned (.tuple #[]) ∧ Post w') (hN : ad ≠ 0 → Post ((w.alloc (askO 3 n 0 0)).setCell ⟨x, 5, none⟩ (.int .i64 ((ad : Int) + 1)))) :
    Calls Tryz.prog 85 #[.pointer (some ⟨b, 0, none⟩), .agg #[.int .i64 3, .int .i64 n, .int .i64 0, .int .i64 0]] w fun e w' => e = .returned (.tuple #[]) ∧ Post w' := by
  obtain ⟨z0, z1, z2, z3⟩ := cells4 (heap_alloc_new w (askO 3 n 0 0))
  have hxl : x < w.heap.size := World.block_lt_of_cell? _ _ c5
  have e5 := old_cell c5 (askO 3 n 0 0)
  have y5 : (w.alloc (askO 3 n 0 0)).frozen? ⟨x, 5, none⟩ = false := by rw [frozen_of (Below.heap_alloc _ _ _ hxl) 5]; exact hfx 5
  have hw : IntKind.i64.wrap ((ad : Int) + 1) = (ad : Int) + 1 := wrapI (by omega) (by omega)
  have HV := hide hV; have HA := hide hA; have HP := hide hP; have HN := hide hN
  clear hV hA hP hN hfx c5
  simp only [askO] at HV HA HN z0 z1 z2 z3 e5 y5
  by_cases h0 : ad = 0
  · have h1 : ((ad : Int) + 1 == 1) = true := by rw [h0]; rfl
    have HA2 := hide (unhide HA h0)
    clear HA h0
    go_enter Tryz.func85, Tryz.ntmps85
    go_wp2_with fail
    refine (unhide HV).mono ?_
    rintro e w0 ⟨hw0, rfl⟩
    rw [hw0]
    clear hw0
    have hzx : w.heap.size ≠ x := by omega
    have hxz : x ≠ w.heap.size := by omega
    clear HV hxl
    generalize w.alloc (.cells #[.int .i64 3, .int .i64 n, .int .i64 0, .int .i64 0] 187) = wa at *
    generalize w.heap.size = z at *
    go_wp2_with fail
    refine (unhide HA2).mono ?_
    rintro e w1 ⟨rfl, hR1⟩
    have HR1 := hide hR1
    clear hR1
    go_wp2_with fail
    refine (unhide HP _ (unhide HR1)).mono ?_
    rintro e w5 ⟨rfl, hp⟩
    have HPo := hide hp
    clear hp
    go_wp2_with fail
    go_end0
    exact ⟨rfl, unhide HPo⟩
  · have h1 : ((ad : Int) + 1 == 1) = false := by simp; omega
    have HN2 := hide (unhide HN h0)
    clear HA HN h0
    go_enter Tryz.func85, Tryz.ntmps85
    go_wp2_with fail
    refine (unhide HV).mono ?_
    rintro e w0 ⟨hw0, rfl⟩
    rw [hw0]
    clear hw0
    have hzx : w.heap.size ≠ x := by omega
    have hxz : x ≠ w.heap.size := by omega
    clear HV hxl
    generalize w.alloc (.cells #[.int .i64 3, .int .i64 n, .int .i64 0, .int .i64 0] 187) = wa at *
    generalize w.heap.size = z at *
    go_wp2_with fail
    go_end0
    exact ⟨rfl, unhide HN2⟩
end Go.Proofs.YtogdekjklbbbiaaGreatDoor
