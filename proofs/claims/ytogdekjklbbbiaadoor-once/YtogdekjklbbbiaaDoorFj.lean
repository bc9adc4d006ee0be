import Derived.Test.YtogdekjklbbbiaaDoorFi
import Derived.Deep.Cut
set_option maxRecDepth 100000
namespace Go.Proofs.YtogdekjklbbbiaaDoor
open Go.ChangeShapes Go.WideShapes Go.ChangeAt Go.RowKit
set_option linter.unusedSimpArgs false
set_option linter.unusedVariables false

/-- Behind an append. -/
def Gr (w w' : World) (v v' : Value) : Prop := (v'.ownBlock = v.ownBlock ∧ w.grownBy w' v.ownBlock) ∨ (v'.ownBlock = some w.heap.size ∧ w.grownBy w' none)
def newFl (n : Int) : Obj := .cells #[.int .i64 n, .int .i64 0, .int .i64 0, .int .i64 0, .int .i64 0, .slice none 0 0, .int .i64 0, .int .i64 0] 134
def AddP (w w' : World) (b n m : Nat) (nw r bu : Int) (fv pv : Value) (fx px : List Value) : Prop :=
  ∃ fv' pv' w2 w4, w2.ownsRow 0 132 1 fv' (n + 1) (fx ++ [.pointer (some ⟨w.heap.size, 0, none⟩)]) ∧
    Gr (((w.setCell ⟨b, 2, none⟩ (.int .i64 (nw + 1))).alloc (newFl (nw + 1))).alloc (.cells #[.pointer (some ⟨w.heap.size, 0, none⟩)] 132)) w2 fv fv' ∧
    w4.ownsRow 0 136 5 pv' (m + 1) (px ++ [.int .i64 0, .pointer (some ⟨w.heap.size, 0, none⟩), .int .i64 r, .int .i64 bu, .int .i64 0]) ∧
    Gr ((w2.setCell ⟨b, 3, none⟩ fv').alloc (.cells #[.int .i64 0, .pointer (some ⟨w.heap.size, 0, none⟩), .int .i64 r, .int .i64 bu, .int .i64 0] 136)) w4 pv pv' ∧
    w' = w4.setCell ⟨b, 4, none⟩ pv'
theorem cells_new {w : World} {cur : Array Value} {t : TypeId} (j : Nat) (u : Value) (hu : cur.toList[j]? = some u) : (w.alloc (.cells cur t)).cell? ((⟨w.heap.size, 0, none⟩ : Addr).add j) = some u := by
  rw [add_lit, heap_cell (heap_alloc_new _ _), ← hu]
  simp
set_option maxHeartbeats 2000000 in
theorem add_good (b n m : Nat) (nw r bu : Int) (fv pv : Value) (fx px : List Value) (w : World) (hn : n < 8) (hm : m < 1000) (hnw : 0 ≤ nw ∧ nw < 9000000000000000000)
    (h2 : w.cell? ⟨b, 2, none⟩ = some (.int .i64 nw)) (h3 : w.cell? ⟨b, 3, none⟩ = some fv) (h4 : w.cell? ⟨b, 4, none⟩ = some pv) (h15 : w.cell? ⟨b, 15, none⟩ = some (.bool false)) (hf : ∀ o, w.frozen? ⟨b, o, none⟩ = false)
    (hal : Pace.allowed r bu) (hrf : w.ownsRow 0 132 1 fv n fx) (hrp : w.ownsRow 0 136 5 pv m px) (hfb : fv.ownBlock ≠ some b) (hpb : pv.ownBlock ≠ some b) (hfp : ∀ g, fv.ownBlock = some g → pv.ownBlock ≠ some g) :
    Calls Tryd.prog 21 #[.pointer (some ⟨b, 0, none⟩), .int .i64 r, .int .i64 bu] w fun e w' => e = .returned (.tuple #[.int .i64 (nw + 1), .int .i64 0]) ∧ AddP w w' b n m nw r bu fv pv fx px := by
  obtain ⟨i1, hj1, hy0, hy1, hy2⟩ := info_parts info132
  obtain ⟨i2, hj2, hz0, hz1, hz2⟩ := info_parts info136
  obtain ⟨hnw0, hnw1⟩ := hnw
  have hbl : b < w.heap.size := World.block_lt_of_cell? _ _ h2
  have hal' := allowed_walk r bu w
  rw [decide_eq_true hal] at hal'
  have HAl := hide hal'
  have hfs : ∃ af cf, fv = .slice af n cf := by
    rcases hrf.2 with ⟨q, q2⟩ | ⟨g, cap, cur, q, _⟩
    · exact ⟨none, 0, by rw [q, q2]⟩
    · exact ⟨_, cap, q⟩
  obtain ⟨af, cf, hfv⟩ := hfs
  have HFV := hide hfv; have HRF := hide hrf; have HRP := hide hrp; have HF := hide hf; have HFP := hide hfp
  have f2 := hf 2
  clear hal' hrf hrp hf hfp hal
  rw [hfv] at h3
  have hn8 : ((n : Int) == 8) = false := by simp; omega
  have hn8' : (n == 8) = false := by simp; omega
  go_enter Tryd.func21, Tryd.ntmps21
  go_wp2_with fail
  refine (unhide HAl).mono ?_
  rintro e w0 ⟨rfl, hw0⟩
  rw [hw0]
  clear hw0
  -- the flow's block, and the row of flows
  have hA3 : (((w.setCell ⟨b, 2, none⟩ (.int .i64 (nw + 1))).alloc (newFl (nw + 1))).alloc (.cells #[.pointer (some ⟨w.heap.size, 0, none⟩)] 132)).cell? ⟨b, 3, none⟩ = some fv := by
    refine old_cell (old_cell ?_ _) _
    rw [unhide HFV]; simp [cset, h2, h3]
  have HRF1 : Hid ((((w.setCell ⟨b, 2, none⟩ (.int .i64 (nw + 1))).alloc (newFl (nw + 1))).alloc (.cells #[.pointer (some ⟨w.heap.size, 0, none⟩)] 132)).ownsRow 0 132 1 (.slice af n cf) n fx) := by
    refine World.ownsRow.alloc (World.ownsRow.alloc ?_ _) _
    rw [← unhide HFV]
    refine row_kept0 (unhide HRF) fun g hg => Below.heap_setCell _ _ _ _ ?_
    intro e; exact hfb (hg.trans (congrArg some e))
  have HN1 : Hid (∀ j u, [Value.pointer (some ⟨w.heap.size, 0, none⟩)][j]? = some u → (((w.setCell ⟨b, 2, none⟩ (.int .i64 (nw + 1))).alloc (newFl (nw + 1))).alloc (.cells #[.pointer (some ⟨w.heap.size, 0, none⟩)] 132)).cell? ((⟨w.heap.size + 1, 0, none⟩ : Addr).add j) = some u) := by
    intro j u hu
    have := cells_new (w := (w.setCell ⟨b, 2, none⟩ (.int .i64 (nw + 1))).alloc (newFl (nw + 1))) (cur := #[.pointer (some ⟨w.heap.size, 0, none⟩)]) (t := 132) j u hu
    simpa using this
  have hA4 : (((w.setCell ⟨b, 2, none⟩ (.int .i64 (nw + 1))).alloc (newFl (nw + 1))).alloc (.cells #[.pointer (some ⟨w.heap.size, 0, none⟩)] 132)).cell? ⟨b, 4, none⟩ = some pv := by
    refine old_cell (old_cell ?_ _) _
    simp [cset, h2, h4]
  have hAF : (((w.setCell ⟨b, 2, none⟩ (.int .i64 (nw + 1))).alloc (newFl (nw + 1))).alloc (.cells #[.pointer (some ⟨w.heap.size, 0, none⟩)] 132)).cell? ⟨w.heap.size, 0, none⟩ = some (.int .i64 (nw + 1)) := by
    refine old_cell ?_ _
    have := heap_cell (heap_alloc_new (w.setCell ⟨b, 2, none⟩ (.int .i64 (nw + 1))) (newFl (nw + 1))) 0
    simpa using this
  have hAz : ∀ o, (((w.setCell ⟨b, 2, none⟩ (.int .i64 (nw + 1))).alloc (newFl (nw + 1))).alloc (.cells #[.pointer (some ⟨w.heap.size, 0, none⟩)] 132)).frozen? ⟨b, o, none⟩ = false := fun o => by
    rw [frozen_of (Below.heap_alloc _ _ _ (by simp; omega)) o, frozen_of (Below.heap_alloc _ _ _ (by simp; omega)) o, World.frozen?_setCell]
    exact unhide HF o
  have hfF : fv.ownBlock ≠ some w.heap.size := fun e => by have := ((unhide HRF).lt _ e).2; omega
  have hpF : pv.ownBlock ≠ some w.heap.size := fun e => by have := ((unhide HRP).lt _ e).2; omega
  have HAz := hide hAz
  clear hAz
  go_upto_region 10 with (first
    | (at_builtin; refine wpList_append2 rfl _ _ 113 rfl 0 132 i1 (.pointer none) 1 8 Tryd.underlying113 hj1 hy0 hy1 hy2 rfl (by decide) (.slice af n cf) n fx rfl (unhide HRF1) ⟨w.heap.size + 1, 0, none⟩ 1 1 [.pointer (some ⟨w.heap.size, 0, none⟩)] rfl rfl (unhide HN1) (by simp [Value.oneCell']) (by unfold maxLen; omega) (by omega) (Nat.zero_le _) ?_; intro fv1 w2 hown2 hgr2; rw [← unhide HFV] at hgr2; have HG2 := hide (show Gr (((w.setCell ⟨b, 2, none⟩ (.int .i64 (nw + 1))).alloc (newFl (nw + 1))).alloc (.cells #[.pointer (some ⟨w.heap.size, 0, none⟩)] 132)) w2 fv fv1 from hgr2); obtain ⟨g2, cap2, hfv2, hg2a, hg2b, hg2c, hcap2, hcm2⟩ := row_shape hown2 (by omega); have HO2 := hide hown2; have HV2 := hide hfv2; have k3 := app_cell hgr2 hfb hA3; have k4 := app_cell hgr2 hfb hA4; have kF := app_cell hgr2 hfF hAF; have hb2 := app_blk hgr2 (k := b) (by simp; omega) (fun e => absurd e hfb); have z3 := (frozen_of hb2 3).trans (unhide HAz 3); have HZ := hide (fun o => (frozen_of hb2 o).trans (unhide HAz o)); have hsz2 := (app_size hgr2).2.2.2; rw [hfv2]; clear hown2 hgr2 hfv2 hb2))
  have HP1 : Hid (((w2.setCell ⟨b, 3, none⟩ (.slice (some ⟨g2, 0, none⟩) (n + 1) cap2)).alloc (.cells #[.int .i64 0, .pointer (some ⟨w.heap.size, 0, none⟩), .int .i64 r, .int .i64 bu, .int .i64 0] 136)).ownsRow 0 136 5 pv m px) := by
    refine World.ownsRow.alloc ?_ _
    refine row_kept0 (unhide HRP) fun g hg => ?_
    have hgb : g ≠ b := fun e => hpb (hg.trans (congrArg some e))
    have hgl := ((unhide HRP).lt g hg).2
    rw [Below.heap_setCell _ _ _ _ hgb, app_blk (unhide HG2) (by simp; omega) (fun e => absurd hg (unhide HFP g e)), Below.heap_alloc _ _ _ (by simp; omega), Below.heap_alloc _ _ _ (by simp; omega), Below.heap_setCell _ _ _ _ hgb]
  have HN2 : Hid (∀ j u, [Value.int .i64 0, .pointer (some ⟨w.heap.size, 0, none⟩), .int .i64 r, .int .i64 bu, .int .i64 0][j]? = some u → ((w2.setCell ⟨b, 3, none⟩ (.slice (some ⟨g2, 0, none⟩) (n + 1) cap2)).alloc (.cells #[.int .i64 0, .pointer (some ⟨w.heap.size, 0, none⟩), .int .i64 r, .int .i64 bu, .int .i64 0] 136)).cell? ((⟨w2.heap.size, 0, none⟩ : Addr).add j) = some u) := by
    intro j u hu
    have := cells_new (w := w2.setCell ⟨b, 3, none⟩ (.slice (some ⟨g2, 0, none⟩) (n + 1) cap2)) (cur := #[.int .i64 0, .pointer (some ⟨w.heap.size, 0, none⟩), .int .i64 r, .int .i64 bu, .int .i64 0]) (t := 136) j u hu
    simpa using this
  have hB4 : ((w2.setCell ⟨b, 3, none⟩ (.slice (some ⟨g2, 0, none⟩) (n + 1) cap2)).alloc (.cells #[.int .i64 0, .pointer (some ⟨w.heap.size, 0, none⟩), .int .i64 r, .int .i64 bu, .int .i64 0] 136)).cell? ⟨b, 4, none⟩ = some pv := by
    refine old_cell ?_ _
    simp [cset, k3, k4]
  have hb2l : b < w2.heap.size := World.block_lt_of_cell? _ _ k3
  have hbF : b ≠ w.heap.size := by omega
  have hBF : ((w2.setCell ⟨b, 3, none⟩ (.slice (some ⟨g2, 0, none⟩) (n + 1) cap2)).alloc (.cells #[.int .i64 0, .pointer (some ⟨w.heap.size, 0, none⟩), .int .i64 r, .int .i64 bu, .int .i64 0] 136)).cell? ⟨w.heap.size, 0, none⟩ = some (.int .i64 (nw + 1)) := by
    refine old_cell ?_ _
    rw [World.cell?_setCell_other]
    · exact kF
    · intro q; injection q with q; exact hbF q
  have hBz : ((w2.setCell ⟨b, 3, none⟩ (.slice (some ⟨g2, 0, none⟩) (n + 1) cap2)).alloc (.cells #[.int .i64 0, .pointer (some ⟨w.heap.size, 0, none⟩), .int .i64 r, .int .i64 bu, .int .i64 0] 136)).frozen? ⟨b, 4, none⟩ = false := by
    rw [frozen_of (Below.heap_alloc _ _ _ (by simp; omega)) 4, World.frozen?_setCell]
    exact unhide HZ 4
  go_wp2_with (first
    | (at_builtin; refine wpList_append2 rfl _ _ 114 rfl 0 136 i2 (.agg #[.int .i64 0, .pointer none, .int .i64 0, .int .i64 0, .int .i64 0]) 5 40 Tryd.underlying114 hj2 hz0 hz1 hz2 rfl (by decide) pv m px rfl (unhide HP1) ⟨w2.heap.size, 0, none⟩ 1 1 [.int .i64 0, .pointer (some ⟨w.heap.size, 0, none⟩), .int .i64 r, .int .i64 bu, .int .i64 0] rfl rfl (unhide HN2) (by simp [Value.oneCell']) (by unfold maxLen; omega) (by omega) (Nat.zero_le _) ?_; intro pv1 w4 hown4 hgr4; have HG4 := hide (show Gr ((w2.setCell ⟨b, 3, none⟩ (.slice (some ⟨g2, 0, none⟩) (n + 1) cap2)).alloc (.cells #[.int .i64 0, .pointer (some ⟨w.heap.size, 0, none⟩), .int .i64 r, .int .i64 bu, .int .i64 0] 136)) w4 pv pv1 from hgr4); obtain ⟨g4, cap4, hpv4, hg4a, hg4b, hg4c, hcap4, hcm4⟩ := row_shape hown4 (by omega); have HO4 := hide hown4; have HV4 := hide hpv4; have m4 := app_cell hgr4 hpb hB4; have mF := app_cell hgr4 hpF hBF; have hb4 := app_blk hgr4 (k := b) (by simp; omega) (fun e => absurd e hpb); have z4 := (frozen_of hb4 4).trans hBz; have mF2 : (w4.setCell ⟨b, 4, none⟩ (.slice (some ⟨g4, 0, none⟩) (m + 1) cap4)).cell? ⟨w.heap.size, 0, none⟩ = some (.int .i64 (nw + 1)) := (World.cell?_setCell_other _ _ _ _ (fun q => by injection q with q; exact hbF q)).trans mF; rw [hpv4]; clear hown4 hgr4 hpv4 hb4))
  go_ret2
  refine ⟨rfl, fv1, pv1, w2, w4, unhide HO2, unhide HG2, unhide HO4, ?_, ?_⟩
  · have := unhide HG4
    rw [← unhide HV2] at this
    exact this
  · rw [unhide HV4]
end Go.Proofs.YtogdekjklbbbiaaDoor
