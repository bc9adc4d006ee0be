import Derived.Test.YtogdekjklbbbiaaGreatDoorZ41
import Derived.Deep.RegionLaw
import Derived.Deep.DrawnRows
set_option maxRecDepth 100000
namespace Go.Proofs.YtogdekjklbbbiaaGreatDoor
open Go.ChangeShapes Go.WideShapes Go.ChangeAt Go.RowKit
set_option linter.unusedSimpArgs false
set_option linter.unusedVariables false
attribute [local go_sem ↓] Go.wp_at_zero Go.wp_at_succ

theorem info183 : (Tryz.prog.info? 183).map (fun i => (i.zero, i.size, i.bytes)) = some (some (.pointer none), 1, 8) := by kernel_rfl
def newFlR (n : Int) : Obj := .cells #[.int .i64 n, .int .i64 0, .int .i64 0, .bool false, .slice none 0 0, .int .i64 0, .int .i64 0, .int .i64 0, .int .i64 0, .int .i64 0, .int .i64 0] 185
def RAddP (w w' : World) (b n m : Nat) (nw r bu : Int) (fv pv : Value) (fx px : List Value) : Prop :=
  ∃ fv' pv' w2 w4, w2.ownsRow 0 183 1 fv' (n + 1) (fx ++ [.pointer (some ⟨w.heap.size, 0, none⟩)]) ∧
    Gr (((w.setCell ⟨b, 5, none⟩ (.int .i64 (nw + 1))).alloc (newFlR (nw + 1))).alloc (.cells #[.pointer (some ⟨w.heap.size, 0, none⟩)] 183)) w2 fv fv' ∧
    w4.ownsRow 0 187 4 pv' (m + 1) (px ++ [.int .i64 1, .int .i64 (nw + 1), .int .i64 r, .int .i64 bu]) ∧
    Gr ((w2.setCell ⟨b, 3, none⟩ fv').alloc (.cells #[.int .i64 1, .int .i64 (nw + 1), .int .i64 r, .int .i64 bu] 187)) w4 pv pv' ∧
    w' = w4.setCell ⟨b, 4, none⟩ pv'
theorem Gr.undrew {w w' : World} {v v' : Value} (h : Gr w.drew w' v v') : Gr w w' v v' := by
  rcases h with ⟨q1, q2⟩ | ⟨q1, q2⟩
  · exact .inl ⟨q1, ⟨q2.os, q2.tape, q2.output, q2.size, q2.block⟩⟩
  · exact .inr ⟨q1, ⟨q2.os, q2.tape, q2.output, q2.size, q2.block⟩⟩
set_option maxHeartbeats 6000000 in
theorem radd_good (b n m : Nat) (nw r bu : Int) (fv pv : Value) (fx px : List Value) (w : World) (hn : n < 8) (hm : m < 2200000000000) (hnw : 0 ≤ nw ∧ nw < 1000000000000000000)
    (h1 : w.cell? ⟨b, 1, none⟩ = some (.bool false)) (h3 : w.cell? ⟨b, 3, none⟩ = some fv) (h4 : w.cell? ⟨b, 4, none⟩ = some pv) (h5 : w.cell? ⟨b, 5, none⟩ = some (.int .i64 nw)) (hfz : ∀ o, w.frozen? ⟨b, o, none⟩ = false) (hal : Pace.allowed r bu)
    (hrf : w.ownsRow 0 183 1 fv n fx) (hrp : w.ownsRow 0 187 4 pv m px) (hfb : fv.ownBlock ≠ some b) (hpb : pv.ownBlock ≠ some b) (hfp : ∀ g, fv.ownBlock = some g → pv.ownBlock ≠ some g) :
    Calls Tryz.prog 28 #[.pointer (some ⟨b, 0, none⟩), .int .i64 r, .int .i64 bu] w fun e w' => e = .returned (.tuple #[.int .i64 (nw + 1), .int .i64 0]) ∧ RAddP w w' b n m nw r bu fv pv fx px := by
  obtain ⟨i1, hj1, hx0, hx1, hx2⟩ := info_parts info183
  obtain ⟨i2, hj2, hz0, hz1, hz2⟩ := info_parts info187
  have hbl : b < w.heap.size := World.block_lt_of_cell? _ _ h3
  have hal' := good_walk r bu w
  rw [decide_eq_true hal] at hal'
  have HAl := hide hal'
  obtain ⟨af, cf, hfv⟩ := row_len hrf
  obtain ⟨ap, cp, hpv⟩ := row_len hrp
  have HFV := hide hfv; have HPV := hide hpv
  have hch : Ch w (w.setCell ⟨b, 5, none⟩ (.int .i64 (nw + 1))) (fun a o => a = b ∧ o = 5) := (Ch.refl w _).setCell ⟨rfl, rfl⟩ _
  have q1 := (hch.cell b 1 (by omega)).trans h1
  have q3 := (hch.cell b 3 (by omega)).trans h3
  have q4 := (hch.cell b 4 (by omega)).trans h4
  have q5 : (w.setCell ⟨b, 5, none⟩ (.int .i64 (nw + 1))).cell? ⟨b, 5, none⟩ = some (.int .i64 (nw + 1)) := World.cell?_setCell_same' _ _ _ (by rw [h5]; rfl)
  have y3 := (hch.fz ⟨b, 3, none⟩).trans (hfz 3)
  have y4 := (hch.fz ⟨b, 4, none⟩).trans (hfz 4)
  have y5 := hfz 5
  have hqs := hch.size
  have HRF : Hid ((w.setCell ⟨b, 5, none⟩ (.int .i64 (nw + 1))).ownsRow 0 183 1 fv n fx) := row_kept0 hrf fun g hg => hch.blk g fun o q => hfb (by rw [hg, q.1])
  have HRP : Hid ((w.setCell ⟨b, 5, none⟩ (.int .i64 (nw + 1))).ownsRow 0 187 4 pv m px) := row_kept0 hrp fun g hg => hch.blk g fun o q => hpb (by rw [hg, q.1])
  have hw : IntKind.i64.wrap (nw + 1) = nw + 1 := wrapI (by omega) (by omega)
  have hn8 : decide ((8 : Int) ≤ (n : Int)) = false := decide_eq_false (by omega)
  have hn8' : decide (8 ≤ n) = false := decide_eq_false (by omega)
  have HFP := hide hfp
  rw [hfv] at h3 q3 HRF hfb
  clear hal' hal hrf hrp hfp hfz hch h4 q1
  go_enter Tryz.func28, Tryz.ntmps28
  go_wp2_with fail
  refine (unhide HAl).mono ?_
  rintro e w0 ⟨rfl, hw0⟩
  rw [hw0]
  clear hw0
  go_upto_region 9 with fail
  generalize hwq : w.setCell ⟨b, 5, none⟩ (.int .i64 (nw + 1)) = wq at *
  have HWQ := hide hwq
  have a3 := old_cell (old_cell q3 (newFlR (nw + 1))) (.cells #[.pointer (some ⟨w.heap.size, 0, none⟩)] 183)
  have a4 := old_cell (old_cell q4 (newFlR (nw + 1))) (.cells #[.pointer (some ⟨w.heap.size, 0, none⟩)] 183)
  have a5 := old_cell (old_cell q5 (newFlR (nw + 1))) (.cells #[.pointer (some ⟨w.heap.size, 0, none⟩)] 183)
  have b5 := old_cell q5 (newFlR (nw + 1))
  have b3 := old_cell q3 (newFlR (nw + 1))
  have HB : Hid (((wq.alloc (newFlR (nw + 1))).alloc (.cells #[.pointer (some ⟨w.heap.size, 0, none⟩)] 183)).drew.ownsRow 0 183 1 (.slice af n cf) n fx) := World.ownsRow.alloc (w := wq.alloc (newFlR (nw + 1))) (World.ownsRow.alloc (w := wq) (unhide HRF) _) _
  have HN : Hid (∀ j u, [Value.pointer (some ⟨w.heap.size, 0, none⟩)][j]? = some u → ((wq.alloc (newFlR (nw + 1))).alloc (.cells #[.pointer (some ⟨w.heap.size, 0, none⟩)] 183)).drew.cell? ((⟨w.heap.size + 1, 0, none⟩ : Addr).add j) = some u) := by
    intro j u hu
    have := cells_new (w := wq.alloc (newFlR (nw + 1))) (cur := #[.pointer (some ⟨w.heap.size, 0, none⟩)]) (t := 183) j u hu
    simpa [hqs] using this
  have hsA : ((wq.alloc (newFlR (nw + 1))).alloc (.cells #[.pointer (some ⟨w.heap.size, 0, none⟩)] 183)).heap.size = w.heap.size + 2 := by simp [hqs]
  clear hwq h1 h3 h5 y5
  simp only [newFlR] at a3 a4 a5 b5 b3 HB HN hsA
  go_region_law (refine step_append2 rfl (.tmp 35) (.tmp 42) 88 rfl 0 183 i1 (.pointer none) 1 8 Tryz.underlying88 hj1 hx0 hx1 hx2 rfl (by decide) (.slice af n cf) n fx (by simp [Act.eval, Act.put]) (unhide HB) ⟨w.heap.size + 1, 0, none⟩ 1 1 [.pointer (some ⟨w.heap.size, 0, none⟩)] (by simp [Act.eval, Act.put]) rfl (unhide HN) (by simp [Value.oneCell']) (by unfold maxLen; omega) (by omega) (Nat.zero_le _) ?_; intro v2 w3 hown3 hgr3; obtain ⟨g3, cap3, hv3, hg3a, hg3b, hg3c, hcap3, hcm3⟩ := row_shape hown3 (by omega); have HO3 := hide hown3; have HG3 := hide hgr3; have HV3 := hide hv3; have m3 := app_cell hgr3 hfb a3; have m4 := app_cell hgr3 hfb a4; have m5 := app_cell hgr3 hfb a5; have hbk := app_blk hgr3 (k := b) (by show b < ((wq.alloc _).alloc _).heap.size; omega) (fun e => absurd e hfb); have k3 := frozen_of hbk 3; have k4 := frozen_of hbk 4; rw [hv3]; clear hown3 hgr3 hv3 hbk)
  all_goals
      have hb3 : b < w3.heap.size := World.block_lt_of_cell? _ _ m3
      have hch3 : Ch w3 (w3.setCell ⟨b, 3, none⟩ (.slice (some ⟨g3, 0, none⟩) (n + 1) cap3)) (fun a o => a = b ∧ o = 3) := (Ch.refl w3 _).setCell ⟨rfl, rfl⟩ _
      have p4 := (hch3.cell b 4 (by omega)).trans m4
      have p5 := (hch3.cell b 5 (by omega)).trans m5
      have z4 : (w3.setCell ⟨b, 3, none⟩ (.slice (some ⟨g3, 0, none⟩) (n + 1) cap3)).frozen? ⟨b, 4, none⟩ = false := by
        rw [hch3.fz, k4]
        show ((wq.alloc _).alloc _).frozen? _ = _
        rw [frozen_of (Below.heap_alloc _ _ _ (by simp; omega)) 4, frozen_of (Below.heap_alloc _ _ _ (by omega)) 4]
        exact y4
      have z3 : w3.frozen? ⟨b, 3, none⟩ = false := by
        rw [k3]
        show ((wq.alloc _).alloc _).frozen? _ = _
        rw [frozen_of (Below.heap_alloc _ _ _ (by simp; omega)) 3, frozen_of (Below.heap_alloc _ _ _ (by omega)) 3]
        exact y3
      have HRP3 : Hid ((w3.setCell ⟨b, 3, none⟩ (.slice (some ⟨g3, 0, none⟩) (n + 1) cap3)).ownsRow 0 187 4 (.slice ap m cp) m px) := by
        have h := unhide HRP
        have hfp := unhide HFP
        rw [unhide HFV] at hfp
        rw [unhide HPV] at h hpb hfp
        refine row_kept0 h fun g hg => ?_
        have hgl := (h.lt g hg).2
        rw [hch3.blk g fun o q => hpb (by rw [hg, q.1]), app_blk (unhide HG3) (k := g) (by show g < ((wq.alloc _).alloc _).heap.size; omega) (fun e => absurd hg (hfp g e))]
        show ((wq.alloc _).alloc _).heap[g]? = _
        rw [Below.heap_alloc _ _ _ (by simp; omega), Below.heap_alloc _ _ _ hgl]
      have hpb' : (Value.slice ap m cp).ownBlock ≠ some b := by rw [← unhide HPV]; exact hpb
      rw [unhide HPV] at p4
      have hs3 := hch3.size
      clear hch3 k3 k4 y3 y4 m4 m5 q3 q4 q5 a3 a4 a5 b5 b3 HB HN
      go_upto_region 10 with fail
      generalize hwp : w3.setCell ⟨b, 3, none⟩ (.slice (some ⟨g3, 0, none⟩) (n + 1) cap3) = wp at *
      have HWP := hide hwp
      have a4 := old_cell p4 (.cells #[.int .i64 1, .int .i64 (nw + 1), .int .i64 r, .int .i64 bu] 187)
      have a5 := old_cell p5 (.cells #[.int .i64 1, .int .i64 (nw + 1), .int .i64 r, .int .i64 bu] 187)
      have HB : Hid ((wp.alloc (.cells #[.int .i64 1, .int .i64 (nw + 1), .int .i64 r, .int .i64 bu] 187)).drew.ownsRow 0 187 4 (.slice ap m cp) m px) := World.ownsRow.alloc (w := wp) (unhide HRP3) _
      have HN : Hid (∀ j u, [Value.int .i64 1, .int .i64 (nw + 1), .int .i64 r, .int .i64 bu][j]? = some u → (wp.alloc (.cells #[.int .i64 1, .int .i64 (nw + 1), .int .i64 r, .int .i64 bu] 187)).drew.cell? ((⟨w3.heap.size, 0, none⟩ : Addr).add j) = some u) := by
        intro j u hu
        have := cells_new (w := wp) (cur := #[.int .i64 1, .int .i64 (nw + 1), .int .i64 r, .int .i64 bu]) (t := 187) j u hu
        rw [hs3] at this
        exact this
      clear hwp
      go_region_law (refine step_append2 rfl (.tmp 50) (.tmp 58) 89 rfl 0 187 i2 (.agg #[.int .i64 0, .int .i64 0, .int .i64 0, .int .i64 0]) 4 32 Tryz.underlying89 hj2 hz0 hz1 hz2 rfl (by decide) (.slice ap m cp) m px (by simp [Act.eval, Act.put]) (unhide HB) ⟨w3.heap.size, 0, none⟩ 1 1 [.int .i64 1, .int .i64 (nw + 1), .int .i64 r, .int .i64 bu] (by simp [Act.eval, Act.put]) rfl (unhide HN) (by simp [Value.oneCell']) (by unfold maxLen; omega) (by omega) (Nat.zero_le _) ?_; intro v6 w6 hown6 hgr6; obtain ⟨g6, cap6, hv6, hg6a, hg6b, hg6c, hcap6, hcm6⟩ := row_shape hown6 (by omega); have HO6 := hide hown6; have HG6 := hide hgr6; have HV6 := hide hv6; have m4 := app_cell hgr6 hpb' a4; have m5 := app_cell hgr6 hpb' a5; have hbk := app_blk hgr6 (k := b) (by show b < (wp.alloc _).heap.size; simp; omega) (fun e => absurd e hpb'); have k4 := (frozen_of hbk 4).trans ((frozen_of (Below.heap_alloc wp _ _ (by omega)) 4).trans z4); rw [hv6]; clear hown6 hgr6 hv6 hbk)
      all_goals
        go_wp2_with fail
        go_ret2
        refine ⟨rfl, v2, v6, w3, w6, unhide HO3, ?_, unhide HO6, ?_, ?_⟩
        · rw [unhide HFV, unhide HWQ]
          rcases unhide HG3 with ⟨q1, q2⟩ | ⟨q1, q2⟩
          · exact .inl ⟨q1, ⟨q2.os, q2.tape, q2.output, q2.size, q2.block⟩⟩
          · exact .inr ⟨q1, ⟨q2.os, q2.tape, q2.output, q2.size, q2.block⟩⟩
        · rw [unhide HPV, unhide HV3, unhide HWP]
          rcases unhide HG6 with ⟨q1, q2⟩ | ⟨q1, q2⟩
          · exact .inl ⟨q1, ⟨q2.os, q2.tape, q2.output, q2.size, q2.block⟩⟩
          · exact .inr ⟨q1, ⟨q2.os, q2.tape, q2.output, q2.size, q2.block⟩⟩
        · rw [unhide HV6]
end Go.Proofs.YtogdekjklbbbiaaGreatDoor
