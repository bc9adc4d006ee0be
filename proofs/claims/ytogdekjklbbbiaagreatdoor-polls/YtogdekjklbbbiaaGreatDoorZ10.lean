import Derived.Test.YtogdekjklbbbiaaGreatDoorDel
import Derived.Deep.Cut
set_option maxRecDepth 100000
namespace Go.Proofs.YtogdekjklbbbiaaGreatDoor
open Go.ChangeShapes Go.WideShapes Go.ChangeAt Go.RowKit
set_option linter.unusedSimpArgs false
set_option linter.unusedVariables false

theorem info136 : (Tryz.prog.info? 161).map (fun i => (i.zero, i.size, i.bytes)) = some (some (.agg #[.int .i64 0, .pointer none, .int .i64 0, .int .i64 0, .int .i64 0]), 5, 40) := by kernel_rfl
set_option maxHeartbeats 1000000 in
theorem allowed_walk (r bu : Int) (w : World) : Calls Tryz.prog 73 #[.int .i64 r, .int .i64 bu] w fun e w' => e = .returned (.bool (decide (Pace.allowed r bu))) ∧ w' = w := by
  by_cases h1 : 0 ≤ r
  · by_cases h2 : r ≤ 1000000000
    · by_cases h3 : 1500 ≤ bu
      · by_cases h4 : bu ≤ 1000000
        · rw [show decide (Pace.allowed r bu) = true from decide_eq_true ⟨h1, h2, h3, h4⟩]
          go_enter Tryz.func73, Tryz.ntmps73
          go_wp2_with fail
          go_ret
          exact ⟨rfl, rfl⟩
        · rw [show decide (Pace.allowed r bu) = false from decide_eq_false fun q => h4 q.2.2.2]
          have h4' : decide (bu ≤ 1000000) = false := decide_eq_false h4
          go_enter Tryz.func73, Tryz.ntmps73
          go_wp2_with fail
          go_ret
          exact ⟨rfl, rfl⟩
      · rw [show decide (Pace.allowed r bu) = false from decide_eq_false fun q => h3 q.2.2.1]
        have h3' : decide (1500 ≤ bu) = false := decide_eq_false h3
        go_enter Tryz.func73, Tryz.ntmps73
        go_wp2_with fail
        go_ret
        exact ⟨rfl, rfl⟩
    · rw [show decide (Pace.allowed r bu) = false from decide_eq_false fun q => h2 q.2.1]
      have h2' : decide (r ≤ 1000000000) = false := decide_eq_false h2
      go_enter Tryz.func73, Tryz.ntmps73
      go_wp2_with fail
      go_ret
      exact ⟨rfl, rfl⟩
  · rw [show decide (Pace.allowed r bu) = false from decide_eq_false fun q => h1 q.1]
    have h1' : decide (0 ≤ r) = false := decide_eq_false h1
    go_enter Tryz.func73, Tryz.ntmps73
    go_wp2_with fail
    go_ret
    exact ⟨rfl, rfl⟩
set_option maxHeartbeats 1000000 in
theorem new_bad (q : Int) (w : World) (h : q < 1500 ∨ 1000000 < q) : Calls Tryz.prog 9 #[.int .i64 q] w fun e w' => e = .returned (.tuple #[.pointer none, .int .i64 1]) ∧ w' = w := by
  by_cases h1 : q < 1500
  · go_enter Tryz.func9, Tryz.ntmps9
    go_wp2_with fail
    go_ret2
    exact ⟨rfl, rfl⟩
  · have h1' : decide (q < 1500) = false := decide_eq_false h1
    have h2 : 1000000 < q := by omega
    go_enter Tryz.func9, Tryz.ntmps9
    go_wp2_with fail
    go_ret2
    exact ⟨rfl, rfl⟩
set_option maxHeartbeats 1000000 in
theorem new_good (q : Int) (w : World) (R : Nat → World → Prop) (h1 : 1500 ≤ q) (h2 : q ≤ 1000000) (hN : Calls Tryz.prog 19 #[] w fun e w' => ∃ wb, e = .returned (.pointer (some ⟨wb, 0, none⟩)) ∧ R wb w') :
    Calls Tryz.prog 9 #[.int .i64 q] w fun e w' => ∃ wb w1, R wb w1 ∧ e = .returned (.tuple #[.pointer (some ⟨w1.heap.size, 0, none⟩), .int .i64 0]) ∧ w' = w1.alloc (.cells #[.int .i64 q, .int .i64 0, .int .i64 0, .slice none 0 0, .slice none 0 0, .pointer (some ⟨wb, 0, none⟩), .int .i64 0, .int .i64 0, .int .i64 0, .int .i64 0, .int .i64 0, .int .i64 0, .int .u32 0, .int .i32 0, .int .u32 0, .bool false] 66) := by
  have HN := hide hN
  clear hN
  have h1' : decide (q < 1500) = false := decide_eq_false (by omega)
  have h2' : decide (1000000 < q) = false := decide_eq_false (by omega)
  go_enter Tryz.func9, Tryz.ntmps9
  go_wp2_with fail
  refine (unhide HN).mono ?_
  rintro e w1 ⟨wb, rfl, hw1⟩
  have HW1 := hide hw1
  clear hw1
  go_wp2_with fail
  go_ret2
  exact ⟨wb, w1, unhide HW1, rfl, rfl⟩
set_option maxHeartbeats 1000000 in
theorem next_pend (b : Nat) (ck : Int) (a : Option Addr) (n c : Nat) (w : World) (h15 : w.cell? ⟨b, 15, none⟩ = some (.bool false)) (h4 : w.cell? ⟨b, 4, none⟩ = some (.slice a n c)) (hn : 0 < n) (h1 : w.cell? ⟨b, 1, none⟩ = some (.int .i64 ck)) :
    Calls Tryz.prog 15 #[.pointer (some ⟨b, 0, none⟩)] w fun e w' => e = .returned (.int .i64 ck) ∧ w' = w := by
  have hn' : (0 : Int) < (n : Int) := by omega
  go_enter Tryz.func15, Tryz.ntmps15
  go_wp2_with fail
  go_ret
  exact ⟨rfl, rfl⟩
set_option maxHeartbeats 1000000 in
theorem next_wheel (b wb : Nat) (a : Option Addr) (c : Nat) (w : World) (Post : Int → World → Prop) (h15 : w.cell? ⟨b, 15, none⟩ = some (.bool false)) (h4 : w.cell? ⟨b, 4, none⟩ = some (.slice a 0 c)) (h5 : w.cell? ⟨b, 5, none⟩ = some (.pointer (some ⟨wb, 0, none⟩)))
    (hW : Calls Tryz.prog 26 #[.pointer (some ⟨wb, 0, none⟩)] w fun e w' => ∃ v : Int, e = .returned (.int .i64 v) ∧ Post v w') :
    Calls Tryz.prog 15 #[.pointer (some ⟨b, 0, none⟩)] w fun e w' => ∃ v : Int, e = .returned (.int .i64 v) ∧ Post v w' := by
  have HW := hide hW
  clear hW
  go_enter Tryz.func15, Tryz.ntmps15
  go_wp2_with fail
  refine (unhide HW).mono ?_
  rintro e w1 ⟨v, rfl, hw1⟩
  have HW1 := hide hw1
  clear hw1
  go_wp2_with fail
  go_ret
  exact ⟨v, rfl, unhide HW1⟩
set_option maxHeartbeats 1000000 in
theorem next_closed (b : Nat) (w : World) (h15 : w.cell? ⟨b, 15, none⟩ = some (.bool true)) :
    Calls Tryz.prog 15 #[.pointer (some ⟨b, 0, none⟩)] w fun e w' => e = .returned (.int .i64 (-1)) ∧ w' = w := by
  go_enter Tryz.func15, Tryz.ntmps15
  go_wp2_with fail
  go_ret
  exact ⟨rfl, rfl⟩
set_option maxHeartbeats 1000000 in
theorem poll_bad (b : Nat) (now bud : Int) (w : World) (h15 : w.cell? ⟨b, 15, none⟩ = some (.bool false)) (hn : 4000000000000000000 < now) :
    Calls Tryz.prog 14 #[.pointer (some ⟨b, 0, none⟩), .int .i64 now, .int .i64 bud] w fun e w' => e = .returned (.tuple #[.slice none 0 0, .int .i64 1]) ∧ w' = w := by
  go_enter Tryz.func14, Tryz.ntmps14
  go_wp2_with fail
  go_ret2
  exact ⟨rfl, rfl⟩
set_option maxHeartbeats 1000000 in
theorem poll_good (b : Nat) (now bud ck : Int) (w : World) (R : World → Prop) (Post : Value → World → Prop) (h15 : w.cell? ⟨b, 15, none⟩ = some (.bool false)) (h1 : w.cell? ⟨b, 1, none⟩ = some (.int .i64 ck)) (hf : w.frozen? ⟨b, 1, none⟩ = false) (hn : now ≤ 4000000000000000000)
    (hA : Calls Tryz.prog 24 #[.pointer (some ⟨b, 0, none⟩)] (w.setCell ⟨b, 1, none⟩ (.int .i64 (max ck now))) fun e w' => e = .returned (.tuple #[]) ∧ R w')
    (hR : ∀ w1, R w1 → Calls Tryz.prog 25 #[.pointer (some ⟨b, 0, none⟩), .int .i64 bud] w1 fun e w' => ∃ v, e = .returned v ∧ Post v w') :
    Calls Tryz.prog 14 #[.pointer (some ⟨b, 0, none⟩), .int .i64 now, .int .i64 bud] w fun e w' => ∃ v, e = .returned (.tuple #[v, .int .i64 0]) ∧ Post v w' := by
  have hn' : decide (4000000000000000000 < now) = false := decide_eq_false (by omega)
  have HA := hide hA; have HR := hide hR
  clear hA hR
  go_enter Tryz.func14, Tryz.ntmps14
  by_cases hm : ck ≤ now
  · have hmx : max ck now = now := by omega
    have HA1 := unhide HA
    rw [hmx] at HA1
    have HA2 := hide HA1
    clear HA1 hmx
    go_wp2_with fail
    all_goals
      first
        | refine (unhide HA2).mono ?_
        | (obtain rfl : ck = now := by omega
           refine (unhide HA2).mono ?_)
      rintro e w1 ⟨rfl, hw1⟩
      have HR1 := hide (unhide HR _ hw1)
      clear hw1
      go_wp2_with fail
      refine (unhide HR1).mono ?_
      rintro e w2 ⟨v, rfl, hw2⟩
      have HW2 := hide hw2
      clear hw2
      go_wp2_with fail
      go_ret2
      exact ⟨v, rfl, unhide HW2⟩
  · have hmx : max ck now = ck := by omega
    have HA1 := unhide HA
    rw [hmx] at HA1
    have HA2 := hide HA1
    clear HA1 hmx
    go_wp2_with fail
    all_goals
      refine (unhide HA2).mono ?_
      rintro e w1 ⟨rfl, hw1⟩
      have HR1 := hide (unhide HR _ hw1)
      clear hw1
      go_wp2_with fail
      refine (unhide HR1).mono ?_
      rintro e w2 ⟨v, rfl, hw2⟩
      have HW2 := hide hw2
      clear hw2
      go_wp2_with fail
      go_ret2
      exact ⟨v, rfl, unhide HW2⟩
set_option maxHeartbeats 1000000 in
theorem enq_good (b : Nat) (f t l : Int) (tk : Nat) (w : World) (R : World → Prop) (hT : Calls Tryz.prog 77 #[.pointer (some ⟨b, 0, none⟩), .int .i64 f, .int .i64 t, .int .i64 l] w fun e w' => e = .returned (.int .i64 0) ∧ R w')
    (hR : ∀ w1, R w1 → w1.cell? ⟨b, 6, none⟩ = some (.int .i64 (tk : Int)) ∧ w1.frozen? ⟨b, 6, none⟩ = false) (htk : tk < 9000000000000000000) :
    Calls Tryz.prog 31 #[.pointer (some ⟨b, 0, none⟩), .int .i64 f, .int .i64 t, .int .i64 l] w fun e w' => e = .returned (.int .i64 0) ∧ ∃ w1, R w1 ∧ w' = w1.setCell ⟨b, 6, none⟩ (.int .i64 ((tk : Int) + 1)) := by
  have HT := hide hT; have HR := hide hR
  clear hT hR
  go_enter Tryz.func31, Tryz.ntmps31
  go_wp2_with fail
  refine (unhide HT).mono ?_
  rintro e w1 ⟨rfl, hw1⟩
  obtain ⟨h6, hf⟩ := unhide HR _ hw1
  have HW := hide hw1
  clear hw1
  go_wp2_with fail
  all_goals
    go_ret
    exact ⟨rfl, w1, unhide HW, rfl⟩
set_option maxHeartbeats 1000000 in
theorem enq_bad (b : Nat) (f t l : Int) (er : Int) (rf : Nat) (w : World) (her : er ≠ 0) (hT : Calls Tryz.prog 77 #[.pointer (some ⟨b, 0, none⟩), .int .i64 f, .int .i64 t, .int .i64 l] w fun e w' => e = .returned (.int .i64 er) ∧ w' = w)
    (h7 : w.cell? ⟨b, 7, none⟩ = some (.int .i64 (rf : Int))) (hf : w.frozen? ⟨b, 7, none⟩ = false) (hrf : rf < 9000000000000000000) :
    Calls Tryz.prog 31 #[.pointer (some ⟨b, 0, none⟩), .int .i64 f, .int .i64 t, .int .i64 l] w fun e w' => e = .returned (.int .i64 er) ∧ w' = w.setCell ⟨b, 7, none⟩ (.int .i64 ((rf : Int) + 1)) := by
  have HT := hide hT
  clear hT
  go_enter Tryz.func31, Tryz.ntmps31
  go_wp2_with fail
  refine (unhide HT).mono ?_
  rintro e w1 ⟨rfl, hw1⟩
  rw [hw1]
  clear hw1
  go_wp2_with fail
  all_goals
    go_ret
    exact ⟨rfl, rfl⟩
end Go.Proofs.YtogdekjklbbbiaaGreatDoor

namespace Go.Proofs.YtogdekjklbbbiaaGreatDoor
open Go.ChangeShapes Go.WideShapes Go.ChangeAt Go.RowKit
set_option linter.unusedSimpArgs false
set_option linter.unusedVariables false

/-- Behind an append. -/
def Gr (w w' : World) (v v' : Value) : Prop := (v'.ownBlock = v.ownBlock ∧ w.grownBy w' v.ownBlock) ∨ (v'.ownBlock = some w.heap.size ∧ w.grownBy w' none)
def newFl (n : Int) : Obj := .cells #[.int .i64 n, .int .i64 0, .int .i64 0, .int .i64 0, .int .i64 0, .slice none 0 0, .int .i64 0, .int .i64 0] 166
def AddP (w w' : World) (b n m : Nat) (nw r bu : Int) (fv pv : Value) (fx px : List Value) : Prop :=
  ∃ fv' pv' w2 w4, w2.ownsRow 0 159 1 fv' (n + 1) (fx ++ [.pointer (some ⟨w.heap.size, 0, none⟩)]) ∧
    Gr (((w.setCell ⟨b, 2, none⟩ (.int .i64 (nw + 1))).alloc (newFl (nw + 1))).alloc (.cells #[.pointer (some ⟨w.heap.size, 0, none⟩)] 159)) w2 fv fv' ∧
    w4.ownsRow 0 161 5 pv' (m + 1) (px ++ [.int .i64 0, .pointer (some ⟨w.heap.size, 0, none⟩), .int .i64 r, .int .i64 bu, .int .i64 0]) ∧
    Gr ((w2.setCell ⟨b, 3, none⟩ fv').alloc (.cells #[.int .i64 0, .pointer (some ⟨w.heap.size, 0, none⟩), .int .i64 r, .int .i64 bu, .int .i64 0] 161)) w4 pv pv' ∧
    w' = w4.setCell ⟨b, 4, none⟩ pv'
theorem cells_new {w : World} {cur : Array Value} {t : TypeId} (j : Nat) (u : Value) (hu : cur.toList[j]? = some u) : (w.alloc (.cells cur t)).cell? ((⟨w.heap.size, 0, none⟩ : Addr).add j) = some u := by
  rw [add_lit, heap_cell (heap_alloc_new _ _), ← hu]
  simp
set_option maxHeartbeats 2000000 in
theorem add_good (b n m : Nat) (nw r bu : Int) (fv pv : Value) (fx px : List Value) (w : World) (hn : n < 8) (hm : m < 1000) (hnw : 0 ≤ nw ∧ nw < 9000000000000000000)
    (h2 : w.cell? ⟨b, 2, none⟩ = some (.int .i64 nw)) (h3 : w.cell? ⟨b, 3, none⟩ = some fv) (h4 : w.cell? ⟨b, 4, none⟩ = some pv) (h15 : w.cell? ⟨b, 15, none⟩ = some (.bool false)) (hf : ∀ o, w.frozen? ⟨b, o, none⟩ = false)
    (hal : Pace.allowed r bu) (hrf : w.ownsRow 0 159 1 fv n fx) (hrp : w.ownsRow 0 161 5 pv m px) (hfb : fv.ownBlock ≠ some b) (hpb : pv.ownBlock ≠ some b) (hfp : ∀ g, fv.ownBlock = some g → pv.ownBlock ≠ some g) :
    Calls Tryz.prog 27 #[.pointer (some ⟨b, 0, none⟩), .int .i64 r, .int .i64 bu] w fun e w' => e = .returned (.tuple #[.int .i64 (nw + 1), .int .i64 0]) ∧ AddP w w' b n m nw r bu fv pv fx px := by
  obtain ⟨i1, hj1, hy0, hy1, hy2⟩ := info_parts info132
  obtain ⟨i2, hj2, hz0, hz1, hz2⟩ := info_parts info136
  obtain ⟨hnw0, hnw1⟩ := hnw
  have hbl : b < w.heap.size := World.block_lt_of_cell? _ _ h2
  have hal' := allowed_walk r bu w
  rw [decide_eq_true hal] at hal'
  have HAl := hide hal'
  have hfs : ∃ af cf, fv = .slice af n cf := by
    rcases hrf.2 with ⟨q, q2⟩ | ⟨g, cap, cur, q, _⟩
    · exact ⟨none, 0, by rw [q, q2]⟩
    · exact ⟨_, cap, q⟩
  obtain ⟨af, cf, hfv⟩ := hfs
  have HFV := hide hfv; have HRF := hide hrf; have HRP := hide hrp; have HF := hide hf; have HFP := hide hfp
  have f2 := hf 2
  clear hal' hrf hrp hf hfp hal
  rw [hfv] at h3
  have hn8 : ((n : Int) == 8) = false := by simp; omega
  have hn8' : (n == 8) = false := by simp; omega
  go_enter Tryz.func27, Tryz.ntmps27
  go_wp2_with fail
  refine (unhide HAl).mono ?_
  rintro e w0 ⟨rfl, hw0⟩
  rw [hw0]
  clear hw0
  -- the flow's block, and the row of flows
  have hA3 : (((w.setCell ⟨b, 2, none⟩ (.int .i64 (nw + 1))).alloc (newFl (nw + 1))).alloc (.cells #[.pointer (some ⟨w.heap.size, 0, none⟩)] 159)).cell? ⟨b, 3, none⟩ = some fv := by
    refine old_cell (old_cell ?_ _) _
    rw [unhide HFV]; simp [cset, h2, h3]
  have HRF1 : Hid ((((w.setCell ⟨b, 2, none⟩ (.int .i64 (nw + 1))).alloc (newFl (nw + 1))).alloc (.cells #[.pointer (some ⟨w.heap.size, 0, none⟩)] 159)).ownsRow 0 159 1 (.slice af n cf) n fx) := by
    refine World.ownsRow.alloc (World.ownsRow.alloc ?_ _) _
    rw [← unhide HFV]
    refine row_kept0 (unhide HRF) fun g hg => Below.heap_setCell _ _ _ _ ?_
    intro e; exact hfb (hg.trans (congrArg some e))
  have HN1 : Hid (∀ j u, [Value.pointer (some ⟨w.heap.size, 0, none⟩)][j]? = some u → (((w.setCell ⟨b, 2, none⟩ (.int .i64 (nw + 1))).alloc (newFl (nw + 1))).alloc (.cells #[.pointer (some ⟨w.heap.size, 0, none⟩)] 159)).cell? ((⟨w.heap.size + 1, 0, none⟩ : Addr).add j) = some u) := by
    intro j u hu
    have := cells_new (w := (w.setCell ⟨b, 2, none⟩ (.int .i64 (nw + 1))).alloc (newFl (nw + 1))) (cur := #[.pointer (some ⟨w.heap.size, 0, none⟩)]) (t := 159) j u hu
    simpa using this
  have hA4 : (((w.setCell ⟨b, 2, none⟩ (.int .i64 (nw + 1))).alloc (newFl (nw + 1))).alloc (.cells #[.pointer (some ⟨w.heap.size, 0, none⟩)] 159)).cell? ⟨b, 4, none⟩ = some pv := by
    refine old_cell (old_cell ?_ _) _
    simp [cset, h2, h4]
  have hAF : (((w.setCell ⟨b, 2, none⟩ (.int .i64 (nw + 1))).alloc (newFl (nw + 1))).alloc (.cells #[.pointer (some ⟨w.heap.size, 0, none⟩)] 159)).cell? ⟨w.heap.size, 0, none⟩ = some (.int .i64 (nw + 1)) := by
    refine old_cell ?_ _
    have := heap_cell (heap_alloc_new (w.setCell ⟨b, 2, none⟩ (.int .i64 (nw + 1))) (newFl (nw + 1))) 0
    simpa using this
  have hAz : ∀ o, (((w.setCell ⟨b, 2, none⟩ (.int .i64 (nw + 1))).alloc (newFl (nw + 1))).alloc (.cells #[.pointer (some ⟨w.heap.size, 0, none⟩)] 159)).frozen? ⟨b, o, none⟩ = false := fun o => by
    rw [frozen_of (Below.heap_alloc _ _ _ (by simp; omega)) o, frozen_of (Below.heap_alloc _ _ _ (by simp; omega)) o, World.frozen?_setCell]
    exact unhide HF o
  have hfF : fv.ownBlock ≠ some w.heap.size := fun e => by have := ((unhide HRF).lt _ e).2; omega
  have hpF : pv.ownBlock ≠ some w.heap.size := fun e => by have := ((unhide HRP).lt _ e).2; omega
  have HAz := hide hAz
  clear hAz
  go_upto_region 10 with (first
    | (at_builtin; refine wpList_append2 rfl _ _ 51 rfl 0 159 i1 (.pointer none) 1 8 Tryz.underlying51 hj1 hy0 hy1 hy2 rfl (by decide) (.slice af n cf) n fx rfl (unhide HRF1) ⟨w.heap.size + 1, 0, none⟩ 1 1 [.pointer (some ⟨w.heap.size, 0, none⟩)] rfl rfl (unhide HN1) (by simp [Value.oneCell']) (by unfold maxLen; omega) (by omega) (Nat.zero_le _) ?_; intro fv1 w2 hown2 hgr2; rw [← unhide HFV] at hgr2; have HG2 := hide (show Gr (((w.setCell ⟨b, 2, none⟩ (.int .i64 (nw + 1))).alloc (newFl (nw + 1))).alloc (.cells #[.pointer (some ⟨w.heap.size, 0, none⟩)] 159)) w2 fv fv1 from hgr2); obtain ⟨g2, cap2, hfv2, hg2a, hg2b, hg2c, hcap2, hcm2⟩ := row_shape hown2 (by omega); have HO2 := hide hown2; have HV2 := hide hfv2; have k3 := app_cell hgr2 hfb hA3; have k4 := app_cell hgr2 hfb hA4; have kF := app_cell hgr2 hfF hAF; have hb2 := app_blk hgr2 (k := b) (by simp; omega) (fun e => absurd e hfb); have z3 := (frozen_of hb2 3).trans (unhide HAz 3); have HZ := hide (fun o => (frozen_of hb2 o).trans (unhide HAz o)); have hsz2 := (app_size hgr2).2.2.2; rw [hfv2]; clear hown2 hgr2 hfv2 hb2))
  have HP1 : Hid (((w2.setCell ⟨b, 3, none⟩ (.slice (some ⟨g2, 0, none⟩) (n + 1) cap2)).alloc (.cells #[.int .i64 0, .pointer (some ⟨w.heap.size, 0, none⟩), .int .i64 r, .int .i64 bu, .int .i64 0] 161)).ownsRow 0 161 5 pv m px) := by
    refine World.ownsRow.alloc ?_ _
    refine row_kept0 (unhide HRP) fun g hg => ?_
    have hgb : g ≠ b := fun e => hpb (hg.trans (congrArg some e))
    have hgl := ((unhide HRP).lt g hg).2
    rw [Below.heap_setCell _ _ _ _ hgb, app_blk (unhide HG2) (by simp; omega) (fun e => absurd hg (unhide HFP g e)), Below.heap_alloc _ _ _ (by simp; omega), Below.heap_alloc _ _ _ (by simp; omega), Below.heap_setCell _ _ _ _ hgb]
  have HN2 : Hid (∀ j u, [Value.int .i64 0, .pointer (some ⟨w.heap.size, 0, none⟩), .int .i64 r, .int .i64 bu, .int .i64 0][j]? = some u → ((w2.setCell ⟨b, 3, none⟩ (.slice (some ⟨g2, 0, none⟩) (n + 1) cap2)).alloc (.cells #[.int .i64 0, .pointer (some ⟨w.heap.size, 0, none⟩), .int .i64 r, .int .i64 bu, .int .i64 0] 161)).cell? ((⟨w2.heap.size, 0, none⟩ : Addr).add j) = some u) := by
    intro j u hu
    have := cells_new (w := w2.setCell ⟨b, 3, none⟩ (.slice (some ⟨g2, 0, none⟩) (n + 1) cap2)) (cur := #[.int .i64 0, .pointer (some ⟨w.heap.size, 0, none⟩), .int .i64 r, .int .i64 bu, .int .i64 0]) (t := 161) j u hu
    simpa using this
  have hB4 : ((w2.setCell ⟨b, 3, none⟩ (.slice (some ⟨g2, 0, none⟩) (n + 1) cap2)).alloc (.cells #[.int .i64 0, .pointer (some ⟨w.heap.size, 0, none⟩), .int .i64 r, .int .i64 bu, .int .i64 0] 161)).cell? ⟨b, 4, none⟩ = some pv := by
    refine old_cell ?_ _
    simp [cset, k3, k4]
  have hb2l : b < w2.heap.size := World.block_lt_of_cell? _ _ k3
  have hbF : b ≠ w.heap.size := by omega
  have hBF : ((w2.setCell ⟨b, 3, none⟩ (.slice (some ⟨g2, 0, none⟩) (n + 1) cap2)).alloc (.cells #[.int .i64 0, .pointer (some ⟨w.heap.size, 0, none⟩), .int .i64 r, .int .i64 bu, .int .i64 0] 161)).cell? ⟨w.heap.size, 0, none⟩ = some (.int .i64 (nw + 1)) := by
    refine old_cell ?_ _
    rw [World.cell?_setCell_other]
    · exact kF
    · intro q; injection q with q; exact hbF q
  have hBz : ((w2.setCell ⟨b, 3, none⟩ (.slice (some ⟨g2, 0, none⟩) (n + 1) cap2)).alloc (.cells #[.int .i64 0, .pointer (some ⟨w.heap.size, 0, none⟩), .int .i64 r, .int .i64 bu, .int .i64 0] 161)).frozen? ⟨b, 4, none⟩ = false := by
    rw [frozen_of (Below.heap_alloc _ _ _ (by simp; omega)) 4, World.frozen?_setCell]
    exact unhide HZ 4
  go_wp2_with (first
    | (at_builtin; refine wpList_append2 rfl _ _ 52 rfl 0 161 i2 (.agg #[.int .i64 0, .pointer none, .int .i64 0, .int .i64 0, .int .i64 0]) 5 40 Tryz.underlying52 hj2 hz0 hz1 hz2 rfl (by decide) pv m px rfl (unhide HP1) ⟨w2.heap.size, 0, none⟩ 1 1 [.int .i64 0, .pointer (some ⟨w.heap.size, 0, none⟩), .int .i64 r, .int .i64 bu, .int .i64 0] rfl rfl (unhide HN2) (by simp [Value.oneCell']) (by unfold maxLen; omega) (by omega) (Nat.zero_le _) ?_; intro pv1 w4 hown4 hgr4; have HG4 := hide (show Gr ((w2.setCell ⟨b, 3, none⟩ (.slice (some ⟨g2, 0, none⟩) (n + 1) cap2)).alloc (.cells #[.int .i64 0, .pointer (some ⟨w.heap.size, 0, none⟩), .int .i64 r, .int .i64 bu, .int .i64 0] 161)) w4 pv pv1 from hgr4); obtain ⟨g4, cap4, hpv4, hg4a, hg4b, hg4c, hcap4, hcm4⟩ := row_shape hown4 (by omega); have HO4 := hide hown4; have HV4 := hide hpv4; have m4 := app_cell hgr4 hpb hB4; have mF := app_cell hgr4 hpF hBF; have hb4 := app_blk hgr4 (k := b) (by simp; omega) (fun e => absurd e hpb); have z4 := (frozen_of hb4 4).trans hBz; have mF2 : (w4.setCell ⟨b, 4, none⟩ (.slice (some ⟨g4, 0, none⟩) (m + 1) cap4)).cell? ⟨w.heap.size, 0, none⟩ = some (.int .i64 (nw + 1)) := (World.cell?_setCell_other _ _ _ _ (fun q => by injection q with q; exact hbF q)).trans mF; rw [hpv4]; clear hown4 hgr4 hpv4 hb4))
  go_ret2
  refine ⟨rfl, fv1, pv1, w2, w4, unhide HO2, unhide HG2, unhide HO4, ?_, ?_⟩
  · have := unhide HG4
    rw [← unhide HV2] at this
    exact this
  · rw [unhide HV4]
end Go.Proofs.YtogdekjklbbbiaaGreatDoor

namespace Go.Proofs.YtogdekjklbbbiaaGreatDoor
open Go.ChangeShapes Go.WideShapes Go.ChangeAt Go.RowKit
set_option linter.unusedSimpArgs false
set_option linter.unusedVariables false

set_option maxHeartbeats 1000000 in
theorem add_rate (b : Nat) (r bu : Int) (w : World) (h15 : w.cell? ⟨b, 15, none⟩ = some (.bool false)) (hal : ¬ Pace.allowed r bu) :
    Calls Tryz.prog 27 #[.pointer (some ⟨b, 0, none⟩), .int .i64 r, .int .i64 bu] w fun e w' => e = .returned (.tuple #[.int .i64 0, .int .i64 6]) ∧ w' = w := by
  have hal' := allowed_walk r bu w
  rw [decide_eq_false hal] at hal'
  have HAl := hide hal'
  clear hal' hal
  go_enter Tryz.func27, Tryz.ntmps27
  go_wp2_with fail
  refine (unhide HAl).mono ?_
  rintro e w0 ⟨rfl, hw0⟩
  rw [hw0]
  clear hw0
  go_wp2_with fail
  go_ret2
  exact ⟨rfl, rfl⟩
set_option maxHeartbeats 1000000 in
theorem add_many (b : Nat) (r bu : Int) (a : Option Addr) (c : Nat) (w : World) (h15 : w.cell? ⟨b, 15, none⟩ = some (.bool false)) (h3 : w.cell? ⟨b, 3, none⟩ = some (.slice a 8 c)) (hal : Pace.allowed r bu) :
    Calls Tryz.prog 27 #[.pointer (some ⟨b, 0, none⟩), .int .i64 r, .int .i64 bu] w fun e w' => e = .returned (.tuple #[.int .i64 0, .int .i64 7]) ∧ w' = w := by
  have hal' := allowed_walk r bu w
  rw [decide_eq_true hal] at hal'
  have HAl := hide hal'
  clear hal' hal
  go_enter Tryz.func27, Tryz.ntmps27
  go_wp2_with fail
  refine (unhide HAl).mono ?_
  rintro e w0 ⟨rfl, hw0⟩
  rw [hw0]
  clear hw0
  go_wp2_with fail
  go_ret2
  exact ⟨rfl, rfl⟩
set_option maxHeartbeats 1000000 in
theorem set_none (b : Nat) (f r bu : Int) (w : World) (hV : Calls Tryz.prog 68 #[.pointer (some ⟨b, 0, none⟩), .int .i64 f] w fun e w' => w' = w ∧ e = .returned (liveV none)) :
    Calls Tryz.prog 29 #[.pointer (some ⟨b, 0, none⟩), .int .i64 f, .int .i64 r, .int .i64 bu] w fun e w' => e = .returned (.int .i64 5) ∧ w' = w := by
  have HV := hide hV
  clear hV
  go_enter Tryz.func29, Tryz.ntmps29
  go_wp2_with fail
  refine (unhide HV).mono ?_
  rintro e w0 ⟨hw0, rfl⟩
  rw [hw0]
  clear hw0
  unfold liveV
  go_wp2_with fail
  go_ret
  exact ⟨rfl, rfl⟩
set_option maxHeartbeats 1000000 in
theorem set_rate (b x : Nat) (f r bu : Int) (w : World) (hV : Calls Tryz.prog 68 #[.pointer (some ⟨b, 0, none⟩), .int .i64 f] w fun e w' => w' = w ∧ e = .returned (liveV (some x))) (hal : ¬ Pace.allowed r bu) :
    Calls Tryz.prog 29 #[.pointer (some ⟨b, 0, none⟩), .int .i64 f, .int .i64 r, .int .i64 bu] w fun e w' => e = .returned (.int .i64 6) ∧ w' = w := by
  have hal' := allowed_walk r bu w
  rw [decide_eq_false hal] at hal'
  have HAl := hide hal'
  have HV := hide hV
  clear hV hal' hal
  go_enter Tryz.func29, Tryz.ntmps29
  go_wp2_with fail
  refine (unhide HV).mono ?_
  rintro e w0 ⟨hw0, rfl⟩
  rw [hw0]
  clear hw0
  unfold liveV
  go_wp2_with fail
  refine (unhide HAl).mono ?_
  rintro e w0 ⟨rfl, hw0⟩
  rw [hw0]
  clear hw0
  go_wp2_with fail
  go_ret
  exact ⟨rfl, rfl⟩
set_option maxHeartbeats 1000000 in
theorem set_good (b x : Nat) (f r bu : Int) (w : World) (Post : World → Prop) (hV : Calls Tryz.prog 68 #[.pointer (some ⟨b, 0, none⟩), .int .i64 f] w fun e w' => w' = w ∧ e = .returned (liveV (some x))) (hal : Pace.allowed r bu)
    (hP : Calls Tryz.prog 75 #[.pointer (some ⟨b, 0, none⟩), .pointer (some ⟨x, 0, none⟩), .int .i64 r, .int .i64 bu] w fun e w' => e = .returned (.tuple #[]) ∧ Post w') :
    Calls Tryz.prog 29 #[.pointer (some ⟨b, 0, none⟩), .int .i64 f, .int .i64 r, .int .i64 bu] w fun e w' => e = .returned (.int .i64 0) ∧ Post w' := by
  have hal' := allowed_walk r bu w
  rw [decide_eq_true hal] at hal'
  have HAl := hide hal'
  have HV := hide hV; have HP := hide hP
  clear hV hal' hal hP
  go_enter Tryz.func29, Tryz.ntmps29
  go_wp2_with fail
  refine (unhide HV).mono ?_
  rintro e w0 ⟨hw0, rfl⟩
  rw [hw0]
  clear hw0
  unfold liveV
  go_wp2_with fail
  refine (unhide HAl).mono ?_
  rintro e w0 ⟨rfl, hw0⟩
  rw [hw0]
  clear hw0
  go_wp2_with fail
  refine (unhide HP).mono ?_
  rintro e w1 ⟨rfl, hw1⟩
  have HW1 := hide hw1
  clear hw1
  go_wp2_with fail
  go_ret
  exact ⟨rfl, unhide HW1⟩
set_option maxHeartbeats 1000000 in
theorem take_none (b : Nat) (f t l : Int) (w : World) (hV : Calls Tryz.prog 68 #[.pointer (some ⟨b, 0, none⟩), .int .i64 f] w fun e w' => w' = w ∧ e = .returned (liveV none)) :
    Calls Tryz.prog 77 #[.pointer (some ⟨b, 0, none⟩), .int .i64 f, .int .i64 t, .int .i64 l] w fun e w' => e = .returned (.int .i64 5) ∧ w' = w := by
  have HV := hide hV
  clear hV
  go_enter Tryz.func77, Tryz.ntmps77
  go_wp2_with fail
  refine (unhide HV).mono ?_
  rintro e w0 ⟨hw0, rfl⟩
  rw [hw0]
  clear hw0
  unfold liveV
  go_wp2_with fail
  go_ret
  exact ⟨rfl, rfl⟩
set_option maxHeartbeats 1000000 in
theorem take_big (b x : Nat) (f t l : Int) (w : World) (hV : Calls Tryz.prog 68 #[.pointer (some ⟨b, 0, none⟩), .int .i64 f] w fun e w' => w' = w ∧ e = .returned (liveV (some x))) (hl : l < 1 ∨ 1500 < l) :
    Calls Tryz.prog 77 #[.pointer (some ⟨b, 0, none⟩), .int .i64 f, .int .i64 t, .int .i64 l] w fun e w' => e = .returned (.int .i64 2) ∧ w' = w := by
  have HV := hide hV
  clear hV
  by_cases h1 : l < 1
  · go_enter Tryz.func77, Tryz.ntmps77
    go_wp2_with fail
    refine (unhide HV).mono ?_
    rintro e w0 ⟨hw0, rfl⟩
    rw [hw0]
    clear hw0
    unfold liveV
    go_wp2_with fail
    go_ret
    exact ⟨rfl, rfl⟩
  · have h1' : decide (l < 1) = false := decide_eq_false h1
    have h2 : 1500 < l := by omega
    go_enter Tryz.func77, Tryz.ntmps77
    go_wp2_with fail
    refine (unhide HV).mono ?_
    rintro e w0 ⟨hw0, rfl⟩
    rw [hw0]
    clear hw0
    unfold liveV
    go_wp2_with fail
    go_ret
    exact ⟨rfl, rfl⟩
set_option maxHeartbeats 1000000 in
theorem take_full (b x : Nat) (f t l : Int) (a : Option Addr) (c : Nat) (w : World) (hV : Calls Tryz.prog 68 #[.pointer (some ⟨b, 0, none⟩), .int .i64 f] w fun e w' => w' = w ∧ e = .returned (liveV (some x))) (hl1 : 1 ≤ l) (hl2 : l ≤ 1500) (h5 : w.cell? ⟨x, 5, none⟩ = some (.slice a 8 c)) :
    Calls Tryz.prog 77 #[.pointer (some ⟨b, 0, none⟩), .int .i64 f, .int .i64 t, .int .i64 l] w fun e w' => e = .returned (.int .i64 8) ∧ w' = w := by
  have HV := hide hV
  clear hV
  have h1' : decide (l < 1) = false := decide_eq_false (by omega)
  have h2' : decide (1500 < l) = false := decide_eq_false (by omega)
  go_enter Tryz.func77, Tryz.ntmps77
  go_wp2_with fail
  refine (unhide HV).mono ?_
  rintro e w0 ⟨hw0, rfl⟩
  rw [hw0]
  clear hw0
  unfold liveV
  go_wp2_with fail
  go_ret
  exact ⟨rfl, rfl⟩
def TakeP (w w' : World) (b x k m : Nat) (t l : Int) (v pv : Value) (vx px : List Value) : Prop :=
  ∃ v' pv' w2 w4, w2.ownsRow 0 87 2 v' (k + 1) (vx ++ [.int .i64 t, .int .i64 l]) ∧ Gr (w.alloc (.cells #[.int .i64 t, .int .i64 l] 87)) w2 v v' ∧
    w4.ownsRow 0 161 5 pv' (m + 1) (px ++ [.int .i64 2, .pointer (some ⟨x, 0, none⟩), .int .i64 0, .int .i64 0, .int .i64 0]) ∧
    Gr ((w2.setCell ⟨x, 5, none⟩ v').alloc (.cells #[.int .i64 2, .pointer (some ⟨x, 0, none⟩), .int .i64 0, .int .i64 0, .int .i64 0] 161)) w4 pv pv' ∧ w' = w4.setCell ⟨b, 4, none⟩ pv'
set_option maxHeartbeats 2000000 in
theorem take_good (b x k m : Nat) (f t l : Int) (v pv : Value) (vx px : List Value) (w : World) (hV : Calls Tryz.prog 68 #[.pointer (some ⟨b, 0, none⟩), .int .i64 f] w fun e w' => w' = w ∧ e = .returned (liveV (some x))) (hl1 : 1 ≤ l) (hl2 : l ≤ 1500) (hk : k < 8) (hm : m < 1000)
    (h5 : w.cell? ⟨x, 5, none⟩ = some v) (h4 : w.cell? ⟨b, 4, none⟩ = some pv) (hfx : ∀ o, w.frozen? ⟨x, o, none⟩ = false) (hfb : ∀ o, w.frozen? ⟨b, o, none⟩ = false) (hxb : x ≠ b)
    (hrv : w.ownsRow 0 87 2 v k vx) (hrp : w.ownsRow 0 161 5 pv m px) (hvx : v.ownBlock ≠ some x) (hvb : v.ownBlock ≠ some b) (hpx : pv.ownBlock ≠ some x) (hpb : pv.ownBlock ≠ some b) (hvp : ∀ g, v.ownBlock = some g → pv.ownBlock ≠ some g) :
    Calls Tryz.prog 77 #[.pointer (some ⟨b, 0, none⟩), .int .i64 f, .int .i64 t, .int .i64 l] w fun e w' => e = .returned (.int .i64 0) ∧ TakeP w w' b x k m t l v pv vx px := by
  obtain ⟨i1, hj1, hy0, hy1, hy2⟩ := info_parts info102
  obtain ⟨i2, hj2, hz0, hz1, hz2⟩ := info_parts info136
  have hxl : x < w.heap.size := World.block_lt_of_cell? _ _ h5
  have hbl : b < w.heap.size := World.block_lt_of_cell? _ _ h4
  have hfs : ∃ af cf, v = .slice af k cf := by
    rcases hrv.2 with ⟨q, q2⟩ | ⟨g, cap, cur, q, _⟩
    · exact ⟨none, 0, by rw [q, q2]⟩
    · exact ⟨_, cap, q⟩
  obtain ⟨af, cf, hfv⟩ := hfs
  have HV := hide hV; have HFV := hide hfv; have HRV := hide hrv; have HRP := hide hrp; have HFX := hide hfx; have HFB := hide hfb; have HVP := hide hvp
  clear hV hrv hrp hfx hfb hvp
  have h1' : decide (l < 1) = false := decide_eq_false (by omega)
  have h2' : decide (1500 < l) = false := decide_eq_false (by omega)
  have hk8 : ((k : Int) == 8) = false := by simp; omega
  have hk8' : (k == 8) = false := by simp; omega
  have h5' := h5
  rw [hfv] at h5'
  have HR1 : Hid ((w.alloc (.cells #[.int .i64 t, .int .i64 l] 87)).ownsRow 0 87 2 (.slice af k cf) k vx) := by
    refine World.ownsRow.alloc ?_ _
    rw [← hfv]; exact unhide HRV
  have HN1 : Hid (∀ j u, [Value.int .i64 t, .int .i64 l][j]? = some u → (w.alloc (.cells #[.int .i64 t, .int .i64 l] 87)).cell? ((⟨w.heap.size, 0, none⟩ : Addr).add j) = some u) := fun j u hu => cells_new (cur := #[.int .i64 t, .int .i64 l]) j u hu
  have hA5 := old_cell h5' (.cells #[.int .i64 t, .int .i64 l] 87)
  have hA4 := old_cell h4 (.cells #[.int .i64 t, .int .i64 l] 87)
  clear h5
  go_enter Tryz.func77, Tryz.ntmps77
  go_wp2_with fail
  refine (unhide HV).mono ?_
  rintro e w0 ⟨hw0, rfl⟩
  rw [hw0]
  clear hw0
  unfold liveV
  go_upto_region 9 with (first
    | (at_builtin; refine wpList_append2 rfl _ _ 83 rfl 0 87 i1 (.agg #[.int .i64 0, .int .i64 0]) 2 16 Tryz.underlying83 hj1 hy0 hy1 hy2 rfl (by decide) (.slice af k cf) k vx rfl (unhide HR1) ⟨w.heap.size, 0, none⟩ 1 1 [.int .i64 t, .int .i64 l] rfl rfl (unhide HN1) (by simp [Value.oneCell']) (by unfold maxLen; omega) (by omega) (Nat.zero_le _) ?_; intro v1 w2 hown2 hgr2; rw [← unhide HFV] at hgr2; have HG2 := hide (show Gr (w.alloc (.cells #[.int .i64 t, .int .i64 l] 87)) w2 v v1 from hgr2); obtain ⟨g2, cap2, hfv2, hg2a, hg2b, hg2c, hcap2, hcm2⟩ := row_shape hown2 (by omega); have HO2 := hide hown2; have HV2 := hide hfv2; have k5 := app_cell hgr2 hvx hA5; have k4 := app_cell hgr2 hvb hA4; have hx2 := app_blk hgr2 (k := x) (by simp; omega) (fun e => absurd e hvx); have hb2 := app_blk hgr2 (k := b) (by simp; omega) (fun e => absurd e hvb); have z5 := ((frozen_of hx2 5).trans (frozen_of (Below.heap_alloc _ _ _ hxl) 5)).trans (unhide HFX 5); have z4 := ((frozen_of hb2 4).trans (frozen_of (Below.heap_alloc _ _ _ hbl) 4)).trans (unhide HFB 4); have hsz2 := (app_size hgr2).2.2.2; rw [hfv2]; clear hown2 hgr2 hfv2 hb2 hx2))
  simp only [World.size_alloc] at hsz2
  have HP1 : Hid (((w2.setCell ⟨x, 5, none⟩ (.slice (some ⟨g2, 0, none⟩) (k + 1) cap2)).alloc (.cells #[.int .i64 2, .pointer (some ⟨x, 0, none⟩), .int .i64 0, .int .i64 0, .int .i64 0] 161)).ownsRow 0 161 5 pv m px) := by
    refine World.ownsRow.alloc ?_ _
    refine row_kept0 (unhide HRP) fun g hg => ?_
    have hgx : g ≠ x := fun e => hpx (hg.trans (congrArg some e))
    have hgl := ((unhide HRP).lt g hg).2
    rw [Below.heap_setCell _ _ _ _ hgx, app_blk (unhide HG2) (by simp; omega) (fun e => absurd hg (unhide HVP g e)), Below.heap_alloc _ _ _ hgl]
  have HN2 : Hid (∀ j u, [Value.int .i64 2, .pointer (some ⟨x, 0, none⟩), .int .i64 0, .int .i64 0, .int .i64 0][j]? = some u → ((w2.setCell ⟨x, 5, none⟩ (.slice (some ⟨g2, 0, none⟩) (k + 1) cap2)).alloc (.cells #[.int .i64 2, .pointer (some ⟨x, 0, none⟩), .int .i64 0, .int .i64 0, .int .i64 0] 161)).cell? ((⟨w2.heap.size, 0, none⟩ : Addr).add j) = some u) := by
    intro j u hu
    have := cells_new (w := w2.setCell ⟨x, 5, none⟩ (.slice (some ⟨g2, 0, none⟩) (k + 1) cap2)) (cur := #[.int .i64 2, .pointer (some ⟨x, 0, none⟩), .int .i64 0, .int .i64 0, .int .i64 0]) (t := 161) j u hu
    simpa using this
  have hB4 : ((w2.setCell ⟨x, 5, none⟩ (.slice (some ⟨g2, 0, none⟩) (k + 1) cap2)).alloc (.cells #[.int .i64 2, .pointer (some ⟨x, 0, none⟩), .int .i64 0, .int .i64 0, .int .i64 0] 161)).cell? ⟨b, 4, none⟩ = some pv := by
    refine old_cell ?_ _
    rw [World.cell?_setCell_other]
    · exact k4
    · intro q; injection q with q; exact hxb q
  have hbl2 : b < w2.heap.size := World.block_lt_of_cell? _ _ k4
  have hBz : ((w2.setCell ⟨x, 5, none⟩ (.slice (some ⟨g2, 0, none⟩) (k + 1) cap2)).alloc (.cells #[.int .i64 2, .pointer (some ⟨x, 0, none⟩), .int .i64 0, .int .i64 0, .int .i64 0] 161)).frozen? ⟨b, 4, none⟩ = false := by
    rw [frozen_of (Below.heap_alloc _ _ _ (by simp; omega)) 4, World.frozen?_setCell]
    exact z4
  go_wp2_with (first
    | (at_builtin; refine wpList_append2 rfl _ _ 52 rfl 0 161 i2 (.agg #[.int .i64 0, .pointer none, .int .i64 0, .int .i64 0, .int .i64 0]) 5 40 Tryz.underlying52 hj2 hz0 hz1 hz2 rfl (by decide) pv m px rfl (unhide HP1) ⟨w2.heap.size, 0, none⟩ 1 1 [.int .i64 2, .pointer (some ⟨x, 0, none⟩), .int .i64 0, .int .i64 0, .int .i64 0] rfl rfl (unhide HN2) (by simp [Value.oneCell']) (by unfold maxLen; omega) (by omega) (Nat.zero_le _) ?_; intro pv1 w4 hown4 hgr4; have HG4 := hide (show Gr ((w2.setCell ⟨x, 5, none⟩ (.slice (some ⟨g2, 0, none⟩) (k + 1) cap2)).alloc (.cells #[.int .i64 2, .pointer (some ⟨x, 0, none⟩), .int .i64 0, .int .i64 0, .int .i64 0] 161)) w4 pv pv1 from hgr4); obtain ⟨g4, cap4, hpv4, hg4a, hg4b, hg4c, hcap4, hcm4⟩ := row_shape hown4 (by omega); have HO4 := hide hown4; have HV4 := hide hpv4; have m4 := app_cell hgr4 hpb hB4; have hb4 := app_blk hgr4 (k := b) (by simp; omega) (fun e => absurd e hpb); have y4 := (frozen_of hb4 4).trans hBz; rw [hpv4]; clear hown4 hgr4 hpv4 hb4))
  go_ret
  refine ⟨rfl, v1, pv1, w2, w4, unhide HO2, unhide HG2, unhide HO4, ?_, ?_⟩
  · have := unhide HG4
    rw [← unhide HV2] at this
    exact this
  · rw [unhide HV4]
end Go.Proofs.YtogdekjklbbbiaaGreatDoor
