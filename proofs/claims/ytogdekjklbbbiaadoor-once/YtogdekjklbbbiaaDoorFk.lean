import Derived.Test.YtogdekjklbbbiaaDoorFj
set_option maxRecDepth 100000
namespace Go.Proofs.YtogdekjklbbbiaaDoor
open Go.ChangeShapes Go.WideShapes Go.ChangeAt Go.RowKit
set_option linter.unusedSimpArgs false
set_option linter.unusedVariables false

set_option maxHeartbeats 1000000 in
theorem add_rate (b : Nat) (r bu : Int) (w : World) (h15 : w.cell? ⟨b, 15, none⟩ = some (.bool false)) (hal : ¬ Pace.allowed r bu) :
    Calls Tryd.prog 21 #[.pointer (some ⟨b, 0, none⟩), .int .i64 r, .int .i64 bu] w fun e w' => e = .returned (.tuple #[.int .i64 0, .int .i64 6]) ∧ w' = w := by
  have hal' := allowed_walk r bu w
  rw [decide_eq_false hal] at hal'
  have HAl := hide hal'
  clear hal' hal
  go_enter Tryd.func21, Tryd.ntmps21
  go_wp2_with fail
  refine (unhide HAl).mono ?_
  rintro e w0 ⟨rfl, hw0⟩
  rw [hw0]
  clear hw0
  go_wp2_with fail
  go_ret2
  exact ⟨rfl, rfl⟩
set_option maxHeartbeats 1000000 in
theorem add_many (b : Nat) (r bu : Int) (a : Option Addr) (c : Nat) (w : World) (h15 : w.cell? ⟨b, 15, none⟩ = some (.bool false)) (h3 : w.cell? ⟨b, 3, none⟩ = some (.slice a 8 c)) (hal : Pace.allowed r bu) :
    Calls Tryd.prog 21 #[.pointer (some ⟨b, 0, none⟩), .int .i64 r, .int .i64 bu] w fun e w' => e = .returned (.tuple #[.int .i64 0, .int .i64 7]) ∧ w' = w := by
  have hal' := allowed_walk r bu w
  rw [decide_eq_true hal] at hal'
  have HAl := hide hal'
  clear hal' hal
  go_enter Tryd.func21, Tryd.ntmps21
  go_wp2_with fail
  refine (unhide HAl).mono ?_
  rintro e w0 ⟨rfl, hw0⟩
  rw [hw0]
  clear hw0
  go_wp2_with fail
  go_ret2
  exact ⟨rfl, rfl⟩
set_option maxHeartbeats 1000000 in
theorem set_none (b : Nat) (f r bu : Int) (w : World) (hV : Calls Tryd.prog 49 #[.pointer (some ⟨b, 0, none⟩), .int .i64 f] w fun e w' => w' = w ∧ e = .returned (liveV none)) :
    Calls Tryd.prog 22 #[.pointer (some ⟨b, 0, none⟩), .int .i64 f, .int .i64 r, .int .i64 bu] w fun e w' => e = .returned (.int .i64 5) ∧ w' = w := by
  have HV := hide hV
  clear hV
  go_enter Tryd.func22, Tryd.ntmps22
  go_wp2_with fail
  refine (unhide HV).mono ?_
  rintro e w0 ⟨hw0, rfl⟩
  rw [hw0]
  clear hw0
  unfold liveV
  go_wp2_with fail
  go_ret
  exact ⟨rfl, rfl⟩
set_option maxHeartbeats 1000000 in
theorem set_rate (b x : Nat) (f r bu : Int) (w : World) (hV : Calls Tryd.prog 49 #[.pointer (some ⟨b, 0, none⟩), .int .i64 f] w fun e w' => w' = w ∧ e = .returned (liveV (some x))) (hal : ¬ Pace.allowed r bu) :
    Calls Tryd.prog 22 #[.pointer (some ⟨b, 0, none⟩), .int .i64 f, .int .i64 r, .int .i64 bu] w fun e w' => e = .returned (.int .i64 6) ∧ w' = w := by
  have hal' := allowed_walk r bu w
  rw [decide_eq_false hal] at hal'
  have HAl := hide hal'
  have HV := hide hV
  clear hV hal' hal
  go_enter Tryd.func22, Tryd.ntmps22
  go_wp2_with fail
  refine (unhide HV).mono ?_
  rintro e w0 ⟨hw0, rfl⟩
  rw [hw0]
  clear hw0
  unfold liveV
  go_wp2_with fail
  refine (unhide HAl).mono ?_
  rintro e w0 ⟨rfl, hw0⟩
  rw [hw0]
  clear hw0
  go_wp2_with fail
  go_ret
  exact ⟨rfl, rfl⟩
set_option maxHeartbeats 1000000 in
theorem set_good (b x : Nat) (f r bu : Int) (w : World) (Post : World → Prop) (hV : Calls Tryd.prog 49 #[.pointer (some ⟨b, 0, none⟩), .int .i64 f] w fun e w' => w' = w ∧ e = .returned (liveV (some x))) (hal : Pace.allowed r bu)
    (hP : Calls Tryd.prog 50 #[.pointer (some ⟨b, 0, none⟩), .pointer (some ⟨x, 0, none⟩), .int .i64 r, .int .i64 bu] w fun e w' => e = .returned (.tuple #[]) ∧ Post w') :
    Calls Tryd.prog 22 #[.pointer (some ⟨b, 0, none⟩), .int .i64 f, .int .i64 r, .int .i64 bu] w fun e w' => e = .returned (.int .i64 0) ∧ Post w' := by
  have hal' := allowed_walk r bu w
  rw [decide_eq_true hal] at hal'
  have HAl := hide hal'
  have HV := hide hV; have HP := hide hP
  clear hV hal' hal hP
  go_enter Tryd.func22, Tryd.ntmps22
  go_wp2_with fail
  refine (unhide HV).mono ?_
  rintro e w0 ⟨hw0, rfl⟩
  rw [hw0]
  clear hw0
  unfold liveV
  go_wp2_with fail
  refine (unhide HAl).mono ?_
  rintro e w0 ⟨rfl, hw0⟩
  rw [hw0]
  clear hw0
  go_wp2_with fail
  refine (unhide HP).mono ?_
  rintro e w1 ⟨rfl, hw1⟩
  have HW1 := hide hw1
  clear hw1
  go_wp2_with fail
  go_ret
  exact ⟨rfl, unhide HW1⟩
set_option maxHeartbeats 1000000 in
theorem take_none (b : Nat) (f t l : Int) (w : World) (hV : Calls Tryd.prog 49 #[.pointer (some ⟨b, 0, none⟩), .int .i64 f] w fun e w' => w' = w ∧ e = .returned (liveV none)) :
    Calls Tryd.prog 51 #[.pointer (some ⟨b, 0, none⟩), .int .i64 f, .int .i64 t, .int .i64 l] w fun e w' => e = .returned (.int .i64 5) ∧ w' = w := by
  have HV := hide hV
  clear hV
  go_enter Tryd.func51, Tryd.ntmps51
  go_wp2_with fail
  refine (unhide HV).mono ?_
  rintro e w0 ⟨hw0, rfl⟩
  rw [hw0]
  clear hw0
  unfold liveV
  go_wp2_with fail
  go_ret
  exact ⟨rfl, rfl⟩
set_option maxHeartbeats 1000000 in
theorem take_big (b x : Nat) (f t l : Int) (w : World) (hV : Calls Tryd.prog 49 #[.pointer (some ⟨b, 0, none⟩), .int .i64 f] w fun e w' => w' = w ∧ e = .returned (liveV (some x))) (hl : l < 1 ∨ 1500 < l) :
    Calls Tryd.prog 51 #[.pointer (some ⟨b, 0, none⟩), .int .i64 f, .int .i64 t, .int .i64 l] w fun e w' => e = .returned (.int .i64 2) ∧ w' = w := by
  have HV := hide hV
  clear hV
  by_cases h1 : l < 1
  · go_enter Tryd.func51, Tryd.ntmps51
    go_wp2_with fail
    refine (unhide HV).mono ?_
    rintro e w0 ⟨hw0, rfl⟩
    rw [hw0]
    clear hw0
    unfold liveV
    go_wp2_with fail
    go_ret
    exact ⟨rfl, rfl⟩
  · have h1' : decide (l < 1) = false := decide_eq_false h1
    have h2 : 1500 < l := by omega
    go_enter Tryd.func51, Tryd.ntmps51
    go_wp2_with fail
    refine (unhide HV).mono ?_
    rintro e w0 ⟨hw0, rfl⟩
    rw [hw0]
    clear hw0
    unfold liveV
    go_wp2_with fail
    go_ret
    exact ⟨rfl, rfl⟩
set_option maxHeartbeats 1000000 in
theorem take_full (b x : Nat) (f t l : Int) (a : Option Addr) (c : Nat) (w : World) (hV : Calls Tryd.prog 49 #[.pointer (some ⟨b, 0, none⟩), .int .i64 f] w fun e w' => w' = w ∧ e = .returned (liveV (some x))) (hl1 : 1 ≤ l) (hl2 : l ≤ 1500) (h5 : w.cell? ⟨x, 5, none⟩ = some (.slice a 8 c)) :
    Calls Tryd.prog 51 #[.pointer (some ⟨b, 0, none⟩), .int .i64 f, .int .i64 t, .int .i64 l] w fun e w' => e = .returned (.int .i64 8) ∧ w' = w := by
  have HV := hide hV
  clear hV
  have h1' : decide (l < 1) = false := decide_eq_false (by omega)
  have h2' : decide (1500 < l) = false := decide_eq_false (by omega)
  go_enter Tryd.func51, Tryd.ntmps51
  go_wp2_with fail
  refine (unhide HV).mono ?_
  rintro e w0 ⟨hw0, rfl⟩
  rw [hw0]
  clear hw0
  unfold liveV
  go_wp2_with fail
  go_ret
  exact ⟨rfl, rfl⟩
def TakeP (w w' : World) (b x k m : Nat) (t l : Int) (v pv : Value) (vx px : List Value) : Prop :=
  ∃ v' pv' w2 w4, w2.ownsRow 0 102 2 v' (k + 1) (vx ++ [.int .i64 t, .int .i64 l]) ∧ Gr (w.alloc (.cells #[.int .i64 t, .int .i64 l] 102)) w2 v v' ∧
    w4.ownsRow 0 136 5 pv' (m + 1) (px ++ [.int .i64 2, .pointer (some ⟨x, 0, none⟩), .int .i64 0, .int .i64 0, .int .i64 0]) ∧
    Gr ((w2.setCell ⟨x, 5, none⟩ v').alloc (.cells #[.int .i64 2, .pointer (some ⟨x, 0, none⟩), .int .i64 0, .int .i64 0, .int .i64 0] 136)) w4 pv pv' ∧ w' = w4.setCell ⟨b, 4, none⟩ pv'
set_option maxHeartbeats 2000000 in
theorem take_good (b x k m : Nat) (f t l : Int) (v pv : Value) (vx px : List Value) (w : World) (hV : Calls Tryd.prog 49 #[.pointer (some ⟨b, 0, none⟩), .int .i64 f] w fun e w' => w' = w ∧ e = .returned (liveV (some x))) (hl1 : 1 ≤ l) (hl2 : l ≤ 1500) (hk : k < 8) (hm : m < 1000)
    (h5 : w.cell? ⟨x, 5, none⟩ = some v) (h4 : w.cell? ⟨b, 4, none⟩ = some pv) (hfx : ∀ o, w.frozen? ⟨x, o, none⟩ = false) (hfb : ∀ o, w.frozen? ⟨b, o, none⟩ = false) (hxb : x ≠ b)
    (hrv : w.ownsRow 0 102 2 v k vx) (hrp : w.ownsRow 0 136 5 pv m px) (hvx : v.ownBlock ≠ some x) (hvb : v.ownBlock ≠ some b) (hpx : pv.ownBlock ≠ some x) (hpb : pv.ownBlock ≠ some b) (hvp : ∀ g, v.ownBlock = some g → pv.ownBlock ≠ some g) :
    Calls Tryd.prog 51 #[.pointer (some ⟨b, 0, none⟩), .int .i64 f, .int .i64 t, .int .i64 l] w fun e w' => e = .returned (.int .i64 0) ∧ TakeP w w' b x k m t l v pv vx px := by
  obtain ⟨i1, hj1, hy0, hy1, hy2⟩ := info_parts info102
  obtain ⟨i2, hj2, hz0, hz1, hz2⟩ := info_parts info136
  have hxl : x < w.heap.size := World.block_lt_of_cell? _ _ h5
  have hbl : b < w.heap.size := World.block_lt_of_cell? _ _ h4
  have hfs : ∃ af cf, v = .slice af k cf := by
    rcases hrv.2 with ⟨q, q2⟩ | ⟨g, cap, cur, q, _⟩
    · exact ⟨none, 0, by rw [q, q2]⟩
    · exact ⟨_, cap, q⟩
  obtain ⟨af, cf, hfv⟩ := hfs
  have HV := hide hV; have HFV := hide hfv; have HRV := hide hrv; have HRP := hide hrp; have HFX := hide hfx; have HFB := hide hfb; have HVP := hide hvp
  clear hV hrv hrp hfx hfb hvp
  have h1' : decide (l < 1) = false := decide_eq_false (by omega)
  have h2' : decide (1500 < l) = false := decide_eq_false (by omega)
  have hk8 : ((k : Int) == 8) = false := by simp; omega
  have hk8' : (k == 8) = false := by simp; omega
  have h5' := h5
  rw [hfv] at h5'
  have HR1 : Hid ((w.alloc (.cells #[.int .i64 t, .int .i64 l] 102)).ownsRow 0 102 2 (.slice af k cf) k vx) := by
    refine World.ownsRow.alloc ?_ _
    rw [← hfv]; exact unhide HRV
  have HN1 : Hid (∀ j u, [Value.int .i64 t, .int .i64 l][j]? = some u → (w.alloc (.cells #[.int .i64 t, .int .i64 l] 102)).cell? ((⟨w.heap.size, 0, none⟩ : Addr).add j) = some u) := fun j u hu => cells_new (cur := #[.int .i64 t, .int .i64 l]) j u hu
  have hA5 := old_cell h5' (.cells #[.int .i64 t, .int .i64 l] 102)
  have hA4 := old_cell h4 (.cells #[.int .i64 t, .int .i64 l] 102)
  clear h5
  go_enter Tryd.func51, Tryd.ntmps51
  go_wp2_with fail
  refine (unhide HV).mono ?_
  rintro e w0 ⟨hw0, rfl⟩
  rw [hw0]
  clear hw0
  unfold liveV
  go_upto_region 9 with (first
    | (at_builtin; refine wpList_append2 rfl _ _ 60 rfl 0 102 i1 (.agg #[.int .i64 0, .int .i64 0]) 2 16 Tryd.underlying60 hj1 hy0 hy1 hy2 rfl (by decide) (.slice af k cf) k vx rfl (unhide HR1) ⟨w.heap.size, 0, none⟩ 1 1 [.int .i64 t, .int .i64 l] rfl rfl (unhide HN1) (by simp [Value.oneCell']) (by unfold maxLen; omega) (by omega) (Nat.zero_le _) ?_; intro v1 w2 hown2 hgr2; rw [← unhide HFV] at hgr2; have HG2 := hide (show Gr (w.alloc (.cells #[.int .i64 t, .int .i64 l] 102)) w2 v v1 from hgr2); obtain ⟨g2, cap2, hfv2, hg2a, hg2b, hg2c, hcap2, hcm2⟩ := row_shape hown2 (by omega); have HO2 := hide hown2; have HV2 := hide hfv2; have k5 := app_cell hgr2 hvx hA5; have k4 := app_cell hgr2 hvb hA4; have hx2 := app_blk hgr2 (k := x) (by simp; omega) (fun e => absurd e hvx); have hb2 := app_blk hgr2 (k := b) (by simp; omega) (fun e => absurd e hvb); have z5 := ((frozen_of hx2 5).trans (frozen_of (Below.heap_alloc _ _ _ hxl) 5)).trans (unhide HFX 5); have z4 := ((frozen_of hb2 4).trans (frozen_of (Below.heap_alloc _ _ _ hbl) 4)).trans (unhide HFB 4); have hsz2 := (app_size hgr2).2.2.2; rw [hfv2]; clear hown2 hgr2 hfv2 hb2 hx2))
  simp only [World.size_alloc] at hsz2
  have HP1 : Hid (((w2.setCell ⟨x, 5, none⟩ (.slice (some ⟨g2, 0, none⟩) (k + 1) cap2)).alloc (.cells #[.int .i64 2, .pointer (some ⟨x, 0, none⟩), .int .i64 0, .int .i64 0, .int .i64 0] 136)).ownsRow 0 136 5 pv m px) := by
    refine World.ownsRow.alloc ?_ _
    refine row_kept0 (unhide HRP) fun g hg => ?_
    have hgx : g ≠ x := fun e => hpx (hg.trans (congrArg some e))
    have hgl := ((unhide HRP).lt g hg).2
    rw [Below.heap_setCell _ _ _ _ hgx, app_blk (unhide HG2) (by simp; omega) (fun e => absurd hg (unhide HVP g e)), Below.heap_alloc _ _ _ hgl]
  have HN2 : Hid (∀ j u, [Value.int .i64 2, .pointer (some ⟨x, 0, none⟩), .int .i64 0, .int .i64 0, .int .i64 0][j]? = some u → ((w2.setCell ⟨x, 5, none⟩ (.slice (some ⟨g2, 0, none⟩) (k + 1) cap2)).alloc (.cells #[.int .i64 2, .pointer (some ⟨x, 0, none⟩), .int .i64 0, .int .i64 0, .int .i64 0] 136)).cell? ((⟨w2.heap.size, 0, none⟩ : Addr).add j) = some u) := by
    intro j u hu
    have := cells_new (w := w2.setCell ⟨x, 5, none⟩ (.slice (some ⟨g2, 0, none⟩) (k + 1) cap2)) (cur := #[.int .i64 2, .pointer (some ⟨x, 0, none⟩), .int .i64 0, .int .i64 0, .int .i64 0]) (t := 136) j u hu
    simpa using this
  have hB4 : ((w2.setCell ⟨x, 5, none⟩ (.slice (some ⟨g2, 0, none⟩) (k + 1) cap2)).alloc (.cells #[.int .i64 2, .pointer (some ⟨x, 0, none⟩), .int .i64 0, .int .i64 0, .int .i64 0] 136)).cell? ⟨b, 4, none⟩ = some pv := by
    refine old_cell ?_ _
    rw [World.cell?_setCell_other]
    · exact k4
    · intro q; injection q with q; exact hxb q
  have hbl2 : b < w2.heap.size := World.block_lt_of_cell? _ _ k4
  have hBz : ((w2.setCell ⟨x, 5, none⟩ (.slice (some ⟨g2, 0, none⟩) (k + 1) cap2)).alloc (.cells #[.int .i64 2, .pointer (some ⟨x, 0, none⟩), .int .i64 0, .int .i64 0, .int .i64 0] 136)).frozen? ⟨b, 4, none⟩ = false := by
    rw [frozen_of (Below.heap_alloc _ _ _ (by simp; omega)) 4, World.frozen?_setCell]
    exact z4
  go_wp2_with (first
    | (at_builtin; refine wpList_append2 rfl _ _ 114 rfl 0 136 i2 (.agg #[.int .i64 0, .pointer none, .int .i64 0, .int .i64 0, .int .i64 0]) 5 40 Tryd.underlying114 hj2 hz0 hz1 hz2 rfl (by decide) pv m px rfl (unhide HP1) ⟨w2.heap.size, 0, none⟩ 1 1 [.int .i64 2, .pointer (some ⟨x, 0, none⟩), .int .i64 0, .int .i64 0, .int .i64 0] rfl rfl (unhide HN2) (by simp [Value.oneCell']) (by unfold maxLen; omega) (by omega) (Nat.zero_le _) ?_; intro pv1 w4 hown4 hgr4; have HG4 := hide (show Gr ((w2.setCell ⟨x, 5, none⟩ (.slice (some ⟨g2, 0, none⟩) (k + 1) cap2)).alloc (.cells #[.int .i64 2, .pointer (some ⟨x, 0, none⟩), .int .i64 0, .int .i64 0, .int .i64 0] 136)) w4 pv pv1 from hgr4); obtain ⟨g4, cap4, hpv4, hg4a, hg4b, hg4c, hcap4, hcm4⟩ := row_shape hown4 (by omega); have HO4 := hide hown4; have HV4 := hide hpv4; have m4 := app_cell hgr4 hpb hB4; have hb4 := app_blk hgr4 (k := b) (by simp; omega) (fun e => absurd e hpb); have y4 := (frozen_of hb4 4).trans hBz; rw [hpv4]; clear hown4 hgr4 hpv4 hb4))
  go_ret
  refine ⟨rfl, v1, pv1, w2, w4, unhide HO2, unhide HG2, unhide HO4, ?_, ?_⟩
  · have := unhide HG4
    rw [← unhide HV2] at this
    exact this
  · rw [unhide HV4]
end Go.Proofs.YtogdekjklbbbiaaDoor
