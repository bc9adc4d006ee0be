import Derived.Test.YtogdekjklbbbiaaGreatDoorZ07
import Derived.Test.YtogdekjklbbbiaaGreatDoorZ02
set_option maxRecDepth 100000
namespace Go.Proofs.YtogdekjklbbbiaaGreatDoor
open Go.ChangeShapes Go.WideShapes Go.ChangeAt Go.RowKit
set_option linter.unusedSimpArgs false
set_option linter.unusedVariables false

theorem info102 : (Tryz.prog.info? 87).map (fun i => (i.zero, i.size, i.bytes)) = some (some (.agg #[.int .i64 0, .int .i64 0]), 2, 16) := by kernel_rfl
theorem info67 : (Tryz.prog.info? 85).map (fun i => (i.zero, i.size, i.bytes)) = some (some (.agg #[.int .i64 0, .int .i64 0, .slice none 0 0]), 3, 40) := by kernel_rfl

set_option maxHeartbeats 1000000 in
theorem newload_walk (b : Nat) (xs : List Nat) (len : Nat → Nat) (w : World) (a3 : Option Addr) (cap3 : Nat)
    (h3 : w.cell? ⟨b, 3, none⟩ = some (.slice a3 xs.length cap3)) (hlen : xs.length ≤ 8) (hl8 : ∀ x ∈ xs, len x ≤ 8)
    (hrow : ∀ k x, xs[k]? = some x → ∃ g, a3 = some ⟨g, 0, none⟩ ∧ w.cell? ⟨g, k, none⟩ = some (.pointer (some ⟨x, 0, none⟩))) (hnum : ∀ x ∈ xs, ∃ a c, w.cell? ⟨x, 5, none⟩ = some (.slice a (len x) c)) :
    Calls Tryz.prog 66 #[.pointer (some ⟨b, 0, none⟩)] w fun e w' => ∃ L pv, e = .returned (.pointer (some ⟨L, 0, none⟩)) ∧ w.grownBy w' none ∧ w.heap.size ≤ L ∧ w'.heap[L]? = some (.cells #[.slice none 0 0, pv] 170) ∧ w'.ownsRow w.heap.size 87 2 pv 0 [] ∧ pv.ownBlock ≠ some L := by
  have HRD := hide hrow; have HN := hide hnum; have HL8 := hide hl8
  clear hrow hnum hl8
  obtain ⟨i1, hj, hy0, hy1, hy2⟩ := info_parts info102
  go_enter Tryz.func66, Tryz.ntmps66
  go_wp2_with fail
  go_loopg [3, 11] xs.length (fun gk s i wr => wr = w ∧ ∃ (k : Nat) (t : Nat), i = .int .i64 (k : Int) ∧ s = .int .i64 (t : Int) ∧ gk = xs.length - k ∧ k ≤ xs.length ∧ t ≤ 8 * k)
  case atStart => exact ⟨rfl, 0, 0, rfl, rfl, rfl, Nat.zero_le _, Nat.le_refl _⟩
  case round =>
    obtain ⟨hwr, k, t, hu, hs, hgk, hkl, ht⟩ := hrel
    rw [hu, hs, hwr]
    clear hu hs hwr
    by_cases hk : k < xs.length
    · obtain ⟨g', ha3, hg3⟩ := unhide HRD k xs[k] (List.getElem?_eq_getElem hk)
      have hki : (k : Int) < (xs.length : Int) := by omega
      have hk0 : (0 : Int) ≤ (k : Int) := by omega
      obtain ⟨a5, c5, hnx⟩ := unhide HN xs[k] (List.getElem_mem hk)
      have h8 := unhide HL8 xs[k] (List.getElem_mem hk)
      generalize hx : xs[k] = x at hg3 hnx h8
      have HGK := hide hgk
      clear hx hgk
      subst ha3
      go_wp2_with fail
      go_roundg (xs.length - (k + 1))
      case measure => rw [unhide HGK]; omega
      case rel => exact ⟨rfl, k + 1, t + len x, by go_num, by go_num, rfl, by omega, by omega⟩
    · have hki : (k : Int) = (xs.length : Int) := by omega
      go_wp2_with (first | (at_make; refine wpList_make_own _ rfl _ _ 83 rfl w.heap.size 87 i1 (.agg #[.int .i64 0, .int .i64 0]) 2 Tryz.underlying83 hj hy0 hy1 .i64 .i64 _ t rfl rfl rfl (by rw [hy2]; omega) (by unfold maxLen; omega) (Nat.le_refl _) ?_; intro w4 hown4 hgrow4))
      go_ret
      exact ⟨w4.heap.size, _, rfl, World.grownBy.trans hgrow4 (World.grownBy_alloc _ _ _), hgrow4.size, heap_alloc_new _ _, hown4.alloc _, fun e => by have := hown4.lt _ e; omega⟩

theorem frozen_of {w w' : World} {k : Nat} (h : w'.heap[k]? = w.heap[k]?) (o : Nat) : w'.frozen? ⟨k, o, none⟩ = w.frozen? ⟨k, o, none⟩ := World.frozen?_of_block (w := w) (a := ⟨k, o, none⟩) h
theorem row_shape {w : World} {n0 e sz n : Nat} {v : Value} {xs : List Value} (h : w.ownsRow n0 e sz v n xs) (hn : 0 < n) : ∃ g cap, v = .slice (some ⟨g, 0, none⟩) n cap ∧ n0 ≤ g ∧ g < w.heap.size ∧ v.ownBlock = some g ∧ n ≤ cap ∧ cap ≤ maxLen := by
  rcases h.2 with ⟨_, q⟩ | ⟨g, cap, cur, q, h1, h2, h3, h4, _⟩
  · omega
  · exact ⟨g, cap, q, h1, (Array.getElem?_eq_some_iff.1 h2).1, by rw [q]; rfl, h3, h4⟩
theorem heap_cell {W : World} {z : Nat} {cur : Array Value} {t : TypeId} (h : W.heap[z]? = some (.cells cur t)) (o : Nat) : W.cell? ⟨z, o, none⟩ = cur[o]? := by simp [World.cell?, h]
theorem row_kept0 {w w' : World} {n0 e sz n : Nat} {v : Value} {xs : List Value} (h : w.ownsRow n0 e sz v n xs) (hk : ∀ g, v.ownBlock = some g → w'.heap[g]? = w.heap[g]?) : w'.ownsRow n0 e sz v n xs := by
  refine ⟨h.1, ?_⟩
  rcases h.2 with q | ⟨g, cap, cur, h1, h2, h3, h4⟩
  · exact .inl q
  · exact .inr ⟨g, cap, cur, h1, h2, by rw [hk g (by rw [h1]; rfl)]; exact h3, h4⟩
theorem app_cell {w w' : World} {v v' : Value} (h : (v'.ownBlock = v.ownBlock ∧ w.grownBy w' v.ownBlock) ∨ (v'.ownBlock = some w.heap.size ∧ w.grownBy w' none)) {k o : Nat} {u : Value} (hv : v.ownBlock ≠ some k) (hc : w.cell? ⟨k, o, none⟩ = some u) : w'.cell? ⟨k, o, none⟩ = some u := by
  rcases h with ⟨_, h⟩ | ⟨_, h⟩
  · exact h.cell hc fun e => hv e.symm
  · exact h.cell hc (by simp)
theorem app_blk {w w' : World} {v v' : Value} (h : (v'.ownBlock = v.ownBlock ∧ w.grownBy w' v.ownBlock) ∨ (v'.ownBlock = some w.heap.size ∧ w.grownBy w' none)) {k : Nat} (hk : k < w.heap.size) (hv : v.ownBlock = some k → v'.ownBlock ≠ some k) : w'.heap[k]? = w.heap[k]? := by
  rcases h with ⟨h1, h⟩ | ⟨_, h⟩
  · refine h.block k hk fun e => ?_
    exact hv e.symm (h1.trans e.symm)
  · exact h.block k hk (by simp)
theorem app_size {w w' : World} {v v' : Value} (h : (v'.ownBlock = v.ownBlock ∧ w.grownBy w' v.ownBlock) ∨ (v'.ownBlock = some w.heap.size ∧ w.grownBy w' none)) : w'.os = w.os ∧ w'.tape = w.tape ∧ w'.output = w.output ∧ w.heap.size ≤ w'.heap.size := by
  rcases h with ⟨_, h⟩ | ⟨_, h⟩ <;> exact ⟨h.os, h.tape, h.output, h.size⟩

/-- An element by its cells. -/
theorem add_lit (g o j : Nat) : (⟨g, o, none⟩ : Addr).add j = ⟨g, o + j, none⟩ := by unfold Addr.add; split <;> simp_all
/-- What a load is behind an add. -/
def LP (w w' : World) (L n0 nb np m : Nat) (flow stamp : Int) (bv pv : Value) (bx px news : List Value) : Prop :=
      ∃ bv' pv' g, w'.cell? ⟨L, 0, none⟩ = some bv' ∧ w'.cell? ⟨L, 1, none⟩ = some pv' ∧ pv'.ownBlock = some g ∧ w'.ownsRow n0 85 3 bv' (nb + 1) (bx ++ [.int .i64 flow, .int .i64 stamp, .slice (some ⟨g, np * 2, none⟩) m m]) ∧ w'.ownsRow n0 87 2 pv' (np + m) (px ++ news) ∧
        (pv'.ownBlock = pv.ownBlock ∨ w.heap.size ≤ g) ∧ (bv'.ownBlock = bv.ownBlock ∨ ∀ k, bv'.ownBlock = some k → w.heap.size ≤ k) ∧ (∀ k, bv'.ownBlock = some k → pv'.ownBlock ≠ some k) ∧ bv'.ownBlock ≠ some L ∧ pv'.ownBlock ≠ some L ∧
        w'.os = w.os ∧ w'.tape = w.tape ∧ w'.output = w.output ∧ w.heap.size ≤ w'.heap.size ∧ (∀ o, w'.frozen? ⟨L, o, none⟩ = false) ∧
        ∀ k, k < w.heap.size → k ≠ L → bv.ownBlock ≠ some k → (pv.ownBlock = some k → pv'.ownBlock ≠ some k) → w'.heap[k]? = w.heap[k]?
set_option maxHeartbeats 1000000 in
theorem ladd_walk (L n0 nb np m c : Nat) (flow stamp : Int) (bv pv : Value) (bx px news : List Value) (ad : Addr) (w : World) (h0 : w.cell? ⟨L, 0, none⟩ = some bv) (h1 : w.cell? ⟨L, 1, none⟩ = some pv) (hf : ∀ o, w.frozen? ⟨L, o, none⟩ = false)
    (hb : w.ownsRow n0 85 3 bv nb bx) (hp : w.ownsRow n0 87 2 pv np px) (hLn : n0 ≤ w.heap.size) (hbp : ∀ g, bv.ownBlock = some g → pv.ownBlock ≠ some g) (hbL : bv.ownBlock ≠ some L) (hpL : pv.ownBlock ≠ some L) (hnb : nb ≤ 100) (hnp : np ≤ 1000) (hm0 : 0 < m) (hm : m ≤ 8)
    (hl : news.length = m * 2) (hnews : ∀ j u, news[j]? = some u → w.cell? (ad.add j) = some u) (hone : ∀ u ∈ news, u.oneCell' = true) :
    Calls Tryz.prog 116 #[.pointer (some ⟨L, 0, none⟩), .int .i64 flow, .int .i64 stamp, .slice (some ad) m c] w fun e w' => e = .returned (.tuple #[]) ∧
      LP w w' L n0 nb np m flow stamp bv pv bx px news := by
  obtain ⟨i1, hj, hy0, hy1, hy2⟩ := info_parts info102
  obtain ⟨i2, hk, hz0, hz1, hz2⟩ := info_parts info67
  have f0 := hf 0; have f1 := hf 1
  have HF := hide hf; have HB := hide hb; have HP := hide hp; have HNe := hide hnews; have HOne := hide hone
  clear hf hb hp hnews hone
  have hpl : ∃ ap cp, pv = .slice ap np cp := by
    rcases (unhide HP).2 with ⟨q, q2⟩ | ⟨g, cap, cur, q, _⟩
    · exact ⟨none, 0, by rw [q, q2]⟩
    · exact ⟨_, cap, q⟩
  obtain ⟨ap, cp, hpv⟩ := hpl
  have HPV := hide hpv
  rw [hpv] at h1
  go_enter Tryz.func116, Tryz.ntmps116
  go_wp2_with (first | (at_builtin; refine wpList_append2 rfl _ _ 83 rfl n0 87 i1 (.agg #[.int .i64 0, .int .i64 0]) 2 16 Tryz.underlying83 hj hy0 hy1 hy2 rfl (by decide) (.slice ap np cp) np px rfl (by rw [← unhide HPV]; exact unhide HP) ad m c news rfl hl (unhide HNe) (unhide HOne) (by unfold maxLen; omega) (by omega) hLn ?_; intro pv1 w1 hown1 hgr1; rw [← unhide HPV] at hgr1; obtain ⟨g1, cap1, hpv1, hg1a, hg1b, hg1c, hcap1, hcm1⟩ := row_shape hown1 (by omega); have HOwn1 := hide hown1; have HGr1 := hide hgr1; have HP1 := hide hpv1; have hL0 := app_cell hgr1 hpL h0; have hL1 := app_cell hgr1 hpL h1; have hLlt := World.block_lt_of_cell? _ _ h0; have hfz1 := (frozen_of (app_blk hgr1 hLlt (fun e => absurd e hpL)) 1).trans f1; have hfz0 := (frozen_of (app_blk hgr1 hLlt (fun e => absurd e hpL)) 0).trans f0; rw [hpv1]; clear hown1 hgr1 hpv1))
  have hq0 : (w1.setCell ⟨L, 1, none⟩ (.slice (some ⟨g1, 0, none⟩) (np + m) cap1)).cell? ⟨L, 0, none⟩ = some bv := by simp [cset, hL1, hL0]
  have hq1 : (w1.setCell ⟨L, 1, none⟩ (.slice (some ⟨g1, 0, none⟩) (np + m) cap1)).cell? ⟨L, 1, none⟩ = some (.slice (some ⟨g1, 0, none⟩) (np + m) cap1) := by simp [cset, hL1]
  have hqf : (w1.setCell ⟨L, 1, none⟩ (.slice (some ⟨g1, 0, none⟩) (np + m) cap1)).frozen? ⟨L, 0, none⟩ = false := by rw [World.frozen?_setCell]; exact hfz0
  have hqk : Hid (∀ k, k ≠ L → (w1.setCell ⟨L, 1, none⟩ (.slice (some ⟨g1, 0, none⟩) (np + m) cap1)).heap[k]? = w1.heap[k]?) := fun k hk => Below.heap_setCell _ _ _ _ hk
  have hqs : (w1.setCell ⟨L, 1, none⟩ (.slice (some ⟨g1, 0, none⟩) (np + m) cap1)).heap.size = w1.heap.size := by simp
  have hqo : Hid ((w1.setCell ⟨L, 1, none⟩ (.slice (some ⟨g1, 0, none⟩) (np + m) cap1)).os = w1.os ∧ (w1.setCell ⟨L, 1, none⟩ (.slice (some ⟨g1, 0, none⟩) (np + m) cap1)).tape = w1.tape ∧ (w1.setCell ⟨L, 1, none⟩ (.slice (some ⟨g1, 0, none⟩) (np + m) cap1)).output = w1.output) := ⟨rfl, rfl, rfl⟩
  have hqz : Hid (∀ o, (w1.setCell ⟨L, 1, none⟩ (.slice (some ⟨g1, 0, none⟩) (np + m) cap1)).frozen? ⟨L, o, none⟩ = w1.frozen? ⟨L, o, none⟩) := fun o => World.frozen?_setCell _ _ _ _
  generalize (w1.setCell ⟨L, 1, none⟩ (.slice (some ⟨g1, 0, none⟩) (np + m) cap1)) = wq at *
  have hc1 : (np : Int) + (m : Int) ≤ (cap1 : Int) := by omega
  have hc2 : (cap1 : Int) ≤ 9223372036854775807 := by unfold maxLen at hcm1; omega
  have hc3 : (0 : Int) ≤ (np : Int) := by omega
  have hc4 : (np : Int) ≤ (np : Int) + (m : Int) := by omega
  have ht1 : ((np : Int) + (m : Int)).toNat = np + m := by omega
  have ht2 : (np + m = np) = False := by simp; omega
  have ht3 : np + m - np = m := by omega
  have ht4 : (m = 0) = False := by simp; omega
  have HQS := hide hqs
  clear hqs
  have hLlt1 : L < w1.heap.size := World.block_lt_of_cell? _ _ hL0
  have hbg1 : ∀ g, bv.ownBlock = some g → g < w.heap.size ∧ g ≠ g1 ∧ g ≠ L := fun g hg => by
    have h1 := ((unhide HB).lt g hg).2
    refine ⟨h1, fun e => ?_, fun e => hbL (by rw [hg, e])⟩
    rcases unhide HGr1 with ⟨q, _⟩ | ⟨q, _⟩
    · exact hbp g hg (by rw [← q, unhide HP1, e]; rfl)
    · rw [unhide HP1] at q
      simp [Value.ownBlock] at q
      omega
  have HBG := hide hbg1
  have HBq : Hid ((wq.alloc (.cells #[.int .i64 flow, .int .i64 stamp, .slice (some ⟨g1, np * 2, none⟩) m m] 85)).drew.ownsRow n0 85 3 bv nb bx) := by
    refine World.ownsRow.alloc (w := wq) ?_ _
    refine row_kept0 (unhide HB) fun g hg => ?_
    obtain ⟨q1, q2, q3⟩ := hbg1 g hg
    rw [unhide hqk g q3]
    exact app_blk (unhide HGr1) q1 fun e _ => hbp g hg e
  have HNq : Hid (∀ j u, [Value.int .i64 flow, .int .i64 stamp, .slice (some ⟨g1, np * 2, none⟩) m m][j]? = some u → (wq.alloc (.cells #[.int .i64 flow, .int .i64 stamp, .slice (some ⟨g1, np * 2, none⟩) m m] 85)).drew.cell? ((⟨wq.heap.size, 0, none⟩ : Addr).add j) = some u) := by
    intro j u hu
    have hc := heap_alloc_new wq (.cells #[.int .i64 flow, .int .i64 stamp, .slice (some ⟨g1, np * 2, none⟩) m m] 85)
    rw [add_lit, cdrew, heap_cell hc, ← hu]
    simp
  have hsz : n0 ≤ (wq.alloc (.cells #[.int .i64 flow, .int .i64 stamp, .slice (some ⟨g1, np * 2, none⟩) m m] 85)).drew.heap.size := by
    have := unhide HQS
    have := app_size (unhide HGr1)
    show n0 ≤ (wq.alloc _).heap.size
    simp
    omega
  have HSq := hide hsz
  have hqa0 := old_cell hq0 (.cells #[.int .i64 flow, .int .i64 stamp, .slice (some ⟨g1, np * 2, none⟩) m m] 85)
  clear hbg1 hsz
  go_region_law (refine step_append2 rfl (.tmp 33) (.tmp 45) 38 rfl n0 85 i2 (.agg #[.int .i64 0, .int .i64 0, .slice none 0 0]) 3 40 Tryz.underlying38 hk hz0 hz1 hz2 rfl (by decide) bv nb bx (by simp [Act.eval, Act.put]) (unhide HBq) ⟨wq.heap.size, 0, none⟩ 1 1 [.int .i64 flow, .int .i64 stamp, .slice (some ⟨g1, np * 2, none⟩) m m] (by simp [Act.eval, Act.put]) rfl (unhide HNq) (by simp [Value.oneCell']) (by unfold maxLen; omega) (by omega) (unhide HSq) ?_; intro bv1 w3 hown3 hgr3; obtain ⟨g3, cap3, hbv3, hg3a, hg3b, hg3c, hcap3, hcm3⟩ := row_shape hown3 (by omega); have HOwn3 := hide hown3; have HGr3 := hide hgr3; have HB3 := hide hbv3; have hM0 := app_cell hgr3 hbL (old_cell hq0 _); have hLq := World.block_lt_of_cell? _ _ (old_cell hq0 (.cells #[.int .i64 flow, .int .i64 stamp, .slice (some ⟨g1, np * 2, none⟩) m m] 85)); have hbk := app_blk hgr3 hLq (fun e => absurd e hbL); have hfz3 := (frozen_of hbk 0).trans (World.frozen?_alloc_old _ _ _ (Nat.ne_of_lt (World.block_lt_of_cell? _ _ hq0))); rw [hqf] at hfz3; rw [hbv3]; clear hown3 hgr3 hbv3 hbk hLq)
  all_goals
    go_wp2_with fail
    go_end0
    obtain ⟨o1, o2, o3, o4⟩ := app_size (unhide HGr1)
    obtain ⟨q1, q2, q3⟩ := unhide hqo
    obtain ⟨r1, r2, r3, r4⟩ := app_size (unhide HGr3)
    have hqs := unhide HQS
    have hBG := unhide HBG
    have hnq : (wq.alloc (.cells #[.int .i64 flow, .int .i64 stamp, .slice (some ⟨g1, np * 2, none⟩) m m] 85)).drew.heap.size = wq.heap.size + 1 := by show (wq.alloc _).heap.size = _; simp
    have hg3 : (bv1.ownBlock = bv.ownBlock ∧ g3 < w.heap.size ∧ g3 ≠ g1 ∧ g3 ≠ L) ∨ g3 = wq.heap.size + 1 := by
      rcases unhide HGr3 with ⟨q, _⟩ | ⟨q, _⟩
      · exact .inl ⟨q, hBG g3 (q.symm.trans hg3c)⟩
      · right; rw [hg3c, hnq] at q; injection q
    have hblk : ∀ k, k < w.heap.size → k ≠ L → bv.ownBlock ≠ some k → w3.heap[k]? = w1.heap[k]? := fun k hk hkL hb => by
      refine (app_blk (unhide HGr3) (by rw [hnq]; omega) (fun e => absurd e hb)).trans ?_
      show (wq.alloc _).heap[k]? = _
      rw [Below.heap_alloc _ _ _ (by omega)]
      exact unhide hqk k hkL
    have hgL : g1 ≠ L := fun e => by
      rcases unhide HGr1 with ⟨q, _⟩ | ⟨q, _⟩
      · exact hpL (by rw [← q, unhide HP1, ← e]; rfl)
      · rw [unhide HP1] at q
        simp [Value.ownBlock] at q
        have := World.block_lt_of_cell? _ _ h0
        simp at this
        omega
    have hg1blk : w3.heap[g1]? = w1.heap[g1]? := by
      refine (app_blk (unhide HGr3) (by rw [hnq]; omega) (fun e => absurd rfl ((hBG g1 e).2.1))).trans ?_
      show (wq.alloc _).heap[g1]? = _
      rw [Below.heap_alloc _ _ _ (by omega)]
      exact unhide hqk g1 hgL
    have hg3L : g3 ≠ L := by
      rcases hg3 with ⟨_, _, _, q⟩ | q
      · exact q
      · omega
    have hg31 : g3 ≠ g1 := by
      rcases hg3 with ⟨_, _, q, _⟩ | q
      · exact q
      · omega
    have hL3 : w3.heap[L]? = wq.heap[L]? := by
      refine (app_blk (unhide HGr3) (by rw [hnq]; omega) (fun e => absurd e hbL)).trans ?_
      show (wq.alloc _).heap[L]? = _
      rw [Below.heap_alloc _ _ _ (by omega)]
    have hset : ∀ k, k ≠ L → (w3.setCell ⟨L, 0, none⟩ (.slice (some ⟨g3, 0, none⟩) (nb + 1) cap3)).heap[k]? = w3.heap[k]? := fun k hk => Below.heap_setCell _ _ _ _ hk
    refine ⟨rfl, .slice (some ⟨g3, 0, none⟩) (nb + 1) cap3, .slice (some ⟨g1, 0, none⟩) (np + m) cap1, g1, ?_, ?_, rfl, ?_, ?_, ?_, ?_, ?_, ?_, ?_, ?_, ?_, ?_, ?_, ?_, ?_⟩
    · simp [cset, hM0]
    · rw [show (w3.setCell ⟨L, 0, none⟩ (.slice (some ⟨g3, 0, none⟩) (nb + 1) cap3)).cell? ⟨L, 1, none⟩ = w3.cell? ⟨L, 1, none⟩ from by simp [cset, hM0]]
      exact (World.cell?_of_block (w := wq) (a := ⟨L, 1, none⟩) hL3).trans hq1
    · have hrow3 := unhide HOwn3
      rw [unhide HB3] at hrow3
      refine row_kept0 hrow3 fun g hg => hset g ?_
      simp [Value.ownBlock] at hg
      rw [← hg]; exact hg3L
    · have hrow1 := unhide HOwn1
      rw [unhide HP1] at hrow1
      refine row_kept0 hrow1 fun g hg => ?_
      simp [Value.ownBlock] at hg
      rw [← hg, hset g1 hgL]
      exact hg1blk
    · rcases unhide HGr1 with ⟨q, _⟩ | ⟨q, _⟩
      · left; rw [← unhide HPV, ← q, unhide HP1]
      · right; rw [hg1c] at q; injection q with q; omega
    · rcases hg3 with ⟨q, _⟩ | q
      · left; rw [← q, unhide HB3]
      · right; intro k hk; simp [Value.ownBlock] at hk; omega
    · intro k hk
      simp [Value.ownBlock] at hk ⊢
      omega
    · simp [Value.ownBlock]; exact hg3L
    · simp [Value.ownBlock]; exact hgL
    · show w3.os = w.os
      rw [r1]; exact q1.trans o1
    · show w3.tape = w.tape
      rw [r2]; exact q2.trans o2
    · show w3.output = w.output
      rw [r3]; exact q3.trans o3
    · rw [hnq] at r4
      simp
      omega
    · intro o
      rw [World.frozen?_setCell, frozen_of hL3 o, unhide hqz o]
      exact (frozen_of (app_blk (unhide HGr1) hLlt (fun e => absurd e hpL)) o).trans (unhide HF o)
    · intro k hk hkL hbk hpk
      rw [hset k hkL, hblk k hk hkL hbk]
      refine app_blk (unhide HGr1) hk fun e => ?_
      have := hpk (by rw [← unhide HPV]; exact e)
      rw [unhide HP1]
      exact this
end Go.Proofs.YtogdekjklbbbiaaGreatDoor
