import Derived.Test.YtogdekjklbbbiaaGreatDoorSc
import Derived.Deep.RegionLaw
import Derived.Deep.DrawnRows
set_option maxRecDepth 100000
namespace Go.Proofs.YtogdekjklbbbiaaGreatDoor
open Go.ChangeShapes Go.WideShapes Go.ChangeAt Go.RowKit
set_option linter.unusedSimpArgs false
set_option linter.unusedVariables false
attribute [local go_sem ↓] Go.wp_at_zero Go.wp_at_succ

theorem rremove_none (b : Nat) (f : Int) (w : World) (h1 : w.cell? ⟨b, 1, none⟩ = some (.bool false)) (hV : Calls Tryz.prog 76 #[.pointer (some ⟨b, 0, none⟩), .int .i64 f] w fun e w' => w' = w ∧ e = .returned (.pointer none)) :
    Calls Tryz.prog 34 #[.pointer (some ⟨b, 0, none⟩), .int .i64 f] w fun e w' => e = .returned (.tuple #[.slice none 0 0, .int .i64 5]) ∧ w' = w := by
  have HV := hide hV
  clear hV
  go_enter Tryz.func34, Tryz.ntmps34
  go_wp2_with fail
  refine (unhide HV).mono ?_
  rintro e w0 ⟨hw0, rfl⟩
  rw [hw0]
  clear hw0
  go_wp2_with fail
  go_ret2
  exact ⟨rfl, rfl⟩
/-- A row that is put together anew, of what is kept of another. -/
structure KR (W wr : World) (e sz : Nat) (q : Value) (n : Nat) (xs : List Value) : Prop where
  fr : Fr W wr (fun _ => False)
  row : wr.ownsRow 0 e sz q n xs
  qn : ∀ g, q.ownBlock = some g → W.heap.size ≤ g
theorem KR.nil (W : World) (e sz : Nat) : KR W W e sz (.slice none 0 0) 0 [] := ⟨Fr.refl _ _, World.ownsRow_nil _ _ _ _, fun g hg => by cases hg⟩
theorem KR.step {W wr w3 : World} {e sz n : Nat} {q v2 : Value} {xs ys : List Value} {o : Obj} (h : KR W wr e sz q n xs) (hown : w3.ownsRow 0 e sz v2 (n + 1) (xs ++ ys)) (hg : Gr (wr.alloc o) w3 q v2) : KR W w3 e sz v2 (n + 1) (xs ++ ys) := by
  have hsz := h.fr.size
  have hgs := hg.fr.size
  have hsa : (wr.alloc o).heap.size = wr.heap.size + 1 := by simp
  refine ⟨⟨hg.fr.os.trans h.fr.os, hg.fr.tape.trans h.fr.tape, hg.fr.output.trans h.fr.output, by omega, fun k hk hn => ?_⟩, hown, fun g e => ?_⟩
  · rw [hg.fr.blk k (by omega) (fun e => by have := h.qn k e; omega), Below.heap_alloc _ _ _ (by omega)]
    exact h.fr.blk k hk hn
  · rcases hg.new e with q | q
    · exact h.qn g q
    · omega
/-- What Remove leaves. -/
structure RRm (w w' : World) (b x : Nat) (fv' pv' : Value) (nf np : Nat) (fx px : List Value) (dr n : Nat) : Prop where
  fr : Fr w w' (fun k => k = b)
  cb : ∀ o, o ≠ 3 → o ≠ 4 → o ≠ 10 → w'.cell? ⟨b, o, none⟩ = w.cell? ⟨b, o, none⟩
  c3 : w'.cell? ⟨b, 3, none⟩ = some fv'
  c4 : w'.cell? ⟨b, 4, none⟩ = some pv'
  c10 : w'.cell? ⟨b, 10, none⟩ = some (.int .i64 ((dr : Int) + (n : Int)))
  fz : ∀ o, w'.frozen? ⟨b, o, none⟩ = w.frozen? ⟨b, o, none⟩
  rf : w'.ownsRow 0 183 1 fv' nf fx
  rp : w'.ownsRow 0 187 4 pv' np px
  fn : ∀ g, fv'.ownBlock = some g → w.heap.size ≤ g
  pn : ∀ g, pv'.ownBlock = some g → w.heap.size ≤ g ∧ fv'.ownBlock ≠ some g
def keepF (f : Int) (num : Nat → Int) (xs : List Nat) : List Nat := xs.filter fun x => decide (num x ≠ f)
theorem keepF_step {f : Int} {num : Nat → Int} {xs : List Nat} {i x : Nat} (h : xs[i]? = some x) : keepF f num (xs.take (i + 1)) = keepF f num (xs.take i) ++ (if num x ≠ f then [x] else []) := by
  rw [List.take_add_one, h]
  unfold keepF
  rw [List.filter_append]
  congr 1
  by_cases q : num x ≠ f
  · rw [if_pos q]; simp [q]
  · rw [if_neg q]
    simp only [Option.toList_some]
    rw [List.filter_cons, if_neg (by simpa using q)]; rfl
def keepA (f : Int) (P : List Pace.Cmd) : List Pace.Cmd := P.filter fun c => decide ((c.flow : Int) ≠ f)
theorem ask_filter_step {f : Int} {P : List Pace.Cmd} {i : Nat} {c : Pace.Cmd} (h : P[i]? = some c) : keepA f (P.take (i + 1)) = keepA f (P.take i) ++ (if (c.flow : Int) ≠ f then [c] else []) := by
  unfold keepA
  rw [List.take_add_one, h, List.filter_append]
  congr 1
  by_cases q : (c.flow : Int) ≠ f
  · rw [if_pos q]; simp [q]
  · rw [if_neg q]
    simp only [Option.toList_some]
    rw [List.filter_cons, if_neg (by simpa using q)]; rfl
theorem rrm_mk {w wr1 wr2 W : World} {b x : Nat} {q1 q2 : Value} {nf np : Nat} {fx px : List Value} {dr n : Nat} (hbl : b < w.heap.size) (h1 : KR w wr1 183 1 q1 nf fx) (h2 : KR (wr1.setCell ⟨b, 3, none⟩ q1) wr2 187 4 q2 np px) (c3 : ∃ v, w.cell? ⟨b, 3, none⟩ = some v) (hC : Ch wr2 W (fun a o => a = b ∧ (o = 4 ∨ o = 10))) (d4 : W.cell? ⟨b, 4, none⟩ = some q2) (d10 : W.cell? ⟨b, 10, none⟩ = some (.int .i64 ((dr : Int) + (n : Int)))) : RRm w W b x q1 q2 nf np fx px dr n := by
  have hs1 := h1.fr.size
  have hs2 := h2.fr.size
  have hs3 : (wr1.setCell ⟨b, 3, none⟩ q1).heap.size = wr1.heap.size := by simp
  have hs4 := hC.size
  have hch : Ch wr1 (wr1.setCell ⟨b, 3, none⟩ q1) (fun a o => a = b ∧ o = 3) := (Ch.refl wr1 _).setCell ⟨rfl, rfl⟩ _
  have hb2 : wr2.heap[b]? = (wr1.setCell ⟨b, 3, none⟩ q1).heap[b]? := h2.fr.blk b (by omega) fun q => q
  have hb1 : wr1.heap[b]? = w.heap[b]? := h1.fr.blk b hbl fun q => q
  have hc2 : ∀ o, wr2.cell? ⟨b, o, none⟩ = (wr1.setCell ⟨b, 3, none⟩ q1).cell? ⟨b, o, none⟩ := fun o => World.cell?_of_block (w := wr1.setCell ⟨b, 3, none⟩ q1) (a := ⟨b, o, none⟩) hb2
  have hc1 : ∀ o, wr1.cell? ⟨b, o, none⟩ = w.cell? ⟨b, o, none⟩ := fun o => World.cell?_of_block (w := w) (a := ⟨b, o, none⟩) hb1
  refine ⟨⟨?_, ?_, ?_, by omega, fun k hk hn => ?_⟩, fun o o1 o2 o3 => ?_, ?_, d4, d10, fun o => ?_, ?_, ?_, h1.qn, fun g hg => ?_⟩
  · rw [hC.os, h2.fr.os, hch.os, h1.fr.os]
  · rw [hC.tape, h2.fr.tape, hch.tape, h1.fr.tape]
  · rw [hC.output, h2.fr.output, hch.output, h1.fr.output]
  · rw [hC.blk k fun o q => hn q.1, h2.fr.blk k (by omega) fun q => q, hch.blk k fun o q => hn q.1, h1.fr.blk k hk fun q => q]
  · rw [hC.cell b o (by omega), hc2, hch.cell b o (by omega), hc1]
  · rw [hC.cell b 3 (by omega), hc2]
    refine World.cell?_setCell_same' _ _ _ ?_
    obtain ⟨v, hv⟩ := c3
    rw [hc1, hv]; rfl
  · rw [hC.fz, frozen_of hb2, hch.fz, frozen_of hb1]
  · refine row_kept0 h1.row fun g hg => ?_
    have h3 := h1.qn g hg
    have h4 := (h1.row.lt g hg).2
    have hgb : g ≠ b := by omega
    rw [hC.blk g fun o q => hgb q.1, h2.fr.blk g (by omega) fun q => q, hch.blk g fun o q => hgb q.1]
  · refine row_kept0 h2.row fun g hg => ?_
    have h3 := h2.qn g hg
    exact hC.blk g fun o q => by have := q.1; omega
  · have h3 := h2.qn g hg
    refine ⟨by omega, fun e => ?_⟩
    have := (h1.row.lt g e).2
    omega
set_option maxHeartbeats 4000000 in
theorem rremove_good (b x g : Nat) (cap : Nat) (xs : List Nat) (num : Nat → Int) (f : Int) (a4 : Option Addr) (c4 dr nq cq : Nat) (aq : Option Addr) (P : List Pace.Cmd) (w : World) (h1 : w.cell? ⟨b, 1, none⟩ = some (.bool false)) (h3 : w.cell? ⟨b, 3, none⟩ = some (.slice (some ⟨g, 0, none⟩) xs.length cap)) (h4 : w.cell? ⟨b, 4, none⟩ = some (.slice a4 P.length c4)) (h10 : w.cell? ⟨b, 10, none⟩ = some (.int .i64 (dr : Int))) (hx4 : w.cell? ⟨x, 4, none⟩ = some (.slice aq nq cq)) (hfz : ∀ o, w.frozen? ⟨b, o, none⟩ = false) (hxb : x ≠ b) (hgb : g ≠ b) (ha4 : ∀ g', a4 = some ⟨g', 0, none⟩ → g' ≠ b) (hnb : ∀ z ∈ xs, z ≠ b)
    (hV : Calls Tryz.prog 76 #[.pointer (some ⟨b, 0, none⟩), .int .i64 f] w fun e w' => w' = w ∧ e = .returned (.pointer (some ⟨x, 0, none⟩))) (hlen : xs.length ≤ 8) (hP : P.length < 2200000000000) (hdr : dr < 1000000000000000000) (hnq : nq < 1000)
    (hrow : ∀ k z, xs[k]? = some z → w.cell? ⟨g, k, none⟩ = some (.pointer (some ⟨z, 0, none⟩))) (hnum : ∀ z ∈ xs, w.cell? ⟨z, 0, none⟩ = some (.int .i64 (num z)))
    (hask : ∀ k c, P[k]? = some c → ∃ g', a4 = some ⟨g', 0, none⟩ ∧ ∀ j v, (askC c)[j]? = some v → w.cell? ⟨g', k * 4 + j, none⟩ = some v) :
    Calls Tryz.prog 34 #[.pointer (some ⟨b, 0, none⟩), .int .i64 f] w fun e w' => e = .returned (.tuple #[.slice aq nq cq, .int .i64 0]) ∧ ∃ fv' pv', RRm w w' b x fv' pv' (keepF f num xs).length (keepA f P).length ((keepF f num xs).map fun z => Value.pointer (some ⟨z, 0, none⟩)) (asksC (keepA f P)) dr nq := by
  obtain ⟨i1, hj1, hx0, hx1, hx2⟩ := info_parts info183
  obtain ⟨i2, hj2, hz0, hz1, hz2⟩ := info_parts info187
  have HV := hide hV; have HRow := hide hrow; have HNum := hide hnum; have HAsk := hide hask; have HFZ := hide hfz; have HA4 := hide ha4; have HNb := hide hnb; have H4 := hide h4; have H10 := hide h10; have HX4 := hide hx4
  have hnil := eqp_nilR w x
  have hbl : b < w.heap.size := World.block_lt_of_cell? _ _ h1
  have hgl : ∀ k z, xs[k]? = some z → g < w.heap.size := fun k z hz => World.block_lt_of_cell? _ _ (hrow k z hz)
  have HGl := hide hgl
  clear hV hrow hnum hask hfz ha4 hnb hgl h4 h10 hx4
  go_enter Tryz.func34, Tryz.ntmps34
  go_wp2_with fail
  refine (unhide HV).mono ?_
  rintro e w0 ⟨hw0, rfl⟩
  rw [hw0]
  clear hw0
  go_wp2_with fail
  go_loopg [7, 8] xs.length (fun gk vq vi wr => ∃ (k : Nat) (q : Value), vq = q ∧ vi = .int .i64 (k : Int) ∧ gk = xs.length - k ∧ k ≤ xs.length ∧ KR w wr 183 1 q (keepF f num (xs.take k)).length ((keepF f num (xs.take k)).map fun z => Value.pointer (some ⟨z, 0, none⟩)))
  case atStart => exact ⟨0, _, rfl, rfl, rfl, Nat.zero_le _, KR.nil _ _ _⟩
  case round =>
    obtain ⟨k, q, hq, hu, hgk, hkl, hK⟩ := hrel
    rw [hq, hu]
    clear hq hu
    have HG := hide hgk; have HK := hide hK
    have hcell : ∀ a o v, w.cell? ⟨a, o, none⟩ = some v → wr.cell? ⟨a, o, none⟩ = some v := fun a o v hv => (World.cell?_of_block (w := w) (a := ⟨a, o, none⟩) (hK.fr.blk a (World.block_lt_of_cell? _ _ hv) fun q => q)).trans hv
    have t3 := hcell b 3 _ h3
    have HCell := hide hcell
    clear hgk
    by_cases hk : k < xs.length
    · have hxk := List.getElem?_eq_getElem hk
      have e0 := hcell _ _ _ (unhide HRow k _ hxk)
      have e1 := hcell _ _ _ (unhide HNum _ (List.getElem_mem hk))
      have hst := keepF_step (f := f) (num := num) hxk
      generalize xs[k] = z at e0 e1 hst
      have HST := hide hst
      have hki : (k : Int) < (xs.length : Int) := by omega
      have hk0 : (0 : Int) ≤ (k : Int) := by omega
      obtain ⟨aq', cq', hqv⟩ := row_len hK.row
      have hHK := hK.row
      clear hK hst hxk hcell
      by_cases he : num z = f
      · have hne : (num z != f) = false := by simp [he]
        clear hHK
        go_wp2_with fail
        go_roundg (xs.length - (k + 1))
        case measure => rw [unhide HG]; omega
        case rel => exact ⟨k + 1, q, rfl, by go_num, rfl, by omega, by rw [unhide HST, if_neg (by simpa using he), List.append_nil]; exact unhide HK⟩
      · have hne : (num z != f) = true := by simp [he]
        have HQV := hide hqv
        rw [hqv] at hHK ⊢
        have hkl8 : (keepF f num (xs.take k)).length ≤ 8 := by
          have h1 := List.length_filter_le (fun x => decide (num x ≠ f)) (xs.take k)
          rw [List.length_take] at h1
          unfold keepF
          omega
        have HB1 : Hid ((wr.alloc (.cells #[.pointer (some ⟨z, 0, none⟩)] 183)).ownsRow 0 183 1 (.slice aq' (keepF f num (xs.take k)).length cq') (keepF f num (xs.take k)).length ((keepF f num (xs.take k)).map fun z => Value.pointer (some ⟨z, 0, none⟩))) := World.ownsRow.alloc (w := wr) hHK _
        have HN1 : Hid (∀ j u, [Value.pointer (some ⟨z, 0, none⟩)][j]? = some u → (wr.alloc (.cells #[.pointer (some ⟨z, 0, none⟩)] 183)).cell? ((⟨wr.heap.size, 0, none⟩ : Addr).add j) = some u) := fun j u hu => cells_new (w := wr) (cur := #[.pointer (some ⟨z, 0, none⟩)]) j u hu
        clear hHK hqv
        go_wp2_with (first
          | (at_builtin; refine wpList_append2 rfl _ _ 88 rfl 0 183 i1 (.pointer none) 1 8 Tryz.underlying88 hj1 hx0 hx1 hx2 rfl (by decide) (.slice aq' (keepF f num (xs.take k)).length cq') _ _ rfl (unhide HB1) ⟨wr.heap.size, 0, none⟩ 1 1 [.pointer (some ⟨z, 0, none⟩)] rfl rfl (unhide HN1) (by simp [Value.oneCell']) (by unfold maxLen; omega) (by omega) (Nat.zero_le _) ?_; intro v2 w3 hown3 hgr3; have HS3 := hide ((unhide HK).step (o := .cells #[.pointer (some ⟨z, 0, none⟩)] 183) hown3 (by rw [unhide HQV]; exact hgr3)); clear hown3 hgr3))
        go_roundg (xs.length - (k + 1))
        case measure => rw [unhide HG]; omega
        case rel =>
          refine ⟨k + 1, _, rfl, by go_num, rfl, by omega, ?_⟩
          rw [unhide HST, if_pos (by simpa using he), List.length_append, List.map_append]
          exact unhide HS3
    · have hki : ¬ ((k : Int) < (xs.length : Int)) := by omega
      have hke : k = xs.length := by omega
      have HK1 : Hid (KR w wr 183 1 q (keepF f num xs).length ((keepF f num xs).map fun z => Value.pointer (some ⟨z, 0, none⟩))) := by
        have h := unhide HK
        rw [hke, List.take_length] at h
        exact h
      have z3 : wr.frozen? ⟨b, 3, none⟩ = false := (frozen_of (hK.fr.blk b hbl fun q => q) 3).trans (unhide HFZ 3)
      have hs1 : (wr.setCell ⟨b, 3, none⟩ q).heap.size = wr.heap.size := by simp
      have hsz := hK.fr.size
      have hch3 : Ch wr (wr.setCell ⟨b, 3, none⟩ q) (fun a o => a = b ∧ o = 3) := (Ch.refl wr _).setCell ⟨rfl, rfl⟩ _
      have HC3 := hide hch3
      have HBase : Hid (∀ a o v, w.cell? ⟨a, o, none⟩ = some v → ¬ (a = b ∧ o = 3) → (wr.setCell ⟨b, 3, none⟩ q).cell? ⟨a, o, none⟩ = some v) := fun a o v hv hn => (hch3.cell a o hn).trans (unhide HCell a o v hv)
      have HFz3 : Hid (∀ o, (wr.setCell ⟨b, 3, none⟩ q).frozen? ⟨b, o, none⟩ = false) := fun o => (hch3.fz _).trans ((frozen_of (hK.fr.blk b hbl fun q => q) o).trans (unhide HFZ o))
      have HSz : Hid (w.heap.size ≤ (wr.setCell ⟨b, 3, none⟩ q).heap.size) := by unfold Hid; omega
      obtain ⟨aq', cq', hqv⟩ := row_len hK.row
      have HQV := hide hqv
      clear hK hcell hch3 hke HG hqv hs1 hsz
      rw [unhide HQV] at HC3 HBase HFz3 HSz ⊢
      obtain ⟨kk, hkk⟩ : ∃ kk, (keepF f num (xs.take k)).length = kk := ⟨_, rfl⟩
      have HKK := hide hkk
      rw [hkk] at HC3 HBase HFz3 HSz ⊢
      clear hkk
      go_wp2_with fail
      generalize hW2 : wr.setCell ⟨b, 3, none⟩ (.slice aq' kk cq') = W2 at *
      have HW2 := hide hW2
      clear hW2 z3 t3
      go_loopg [9, 10] P.length (fun gk vq vi wt => ∃ (i : Nat) (p : Value), vq = p ∧ vi = .int .i64 (i : Int) ∧ gk = P.length - i ∧ i ≤ P.length ∧ KR W2 wt 187 4 p (keepA f (P.take i)).length (asksC (keepA f (P.take i))))
      case atStart => exact ⟨0, _, rfl, rfl, rfl, Nat.zero_le _, KR.nil _ _ _⟩
      case round =>
        obtain ⟨i, p, hp, hu, hgk, hil, hL⟩ := hrel
        rw [hp, hu]
        clear hp hu
        have HG := hide hgk; have HL := hide hL
        have hcell : ∀ a o v, w.cell? ⟨a, o, none⟩ = some v → ¬ (a = b ∧ o = 3) → wr.cell? ⟨a, o, none⟩ = some v := fun a o v hv hn => by
          have hv2 := unhide HBase a o v hv hn
          exact (World.cell?_of_block (w := W2) (a := ⟨a, o, none⟩) (hL.fr.blk a (World.block_lt_of_cell? _ _ hv2) fun q => q)).trans hv2
        have t4 := hcell b 4 _ (unhide H4) (by omega)
        have HCell2 := hide hcell
        clear hgk
        by_cases hi : i < P.length
        · have hpi := List.getElem?_eq_getElem hi
          obtain ⟨g', ha4, hcs⟩ := unhide HAsk i _ hpi
          have hst := ask_filter_step (f := f) hpi
          generalize P[i] = cm at hcs hst hpi
          have hg'b := unhide HA4 g' ha4
          have hcm := askC_eq cm
          have e0 := hcell _ _ _ (hcs 0 _ (by rw [hcm]; rfl)) (fun q => hg'b q.1)
          have e1 := hcell _ _ _ (hcs 1 _ (by rw [hcm]; rfl)) (fun q => hg'b q.1)
          have e2 := hcell _ _ _ (hcs 2 _ (by rw [hcm]; rfl)) (fun q => hg'b q.1)
          have e3 := hcell _ _ _ (hcs 3 _ (by rw [hcm]; rfl)) (fun q => hg'b q.1)
          rw [Nat.add_zero] at e0
          have HST := hide hst; have HCM := hide hcm
          have hii : (i : Int) < (P.length : Int) := by omega
          have hi0 : (0 : Int) ≤ (i : Int) := by omega
          obtain ⟨ap, cp, hpv⟩ := row_len hL.row
          have hHL := hL.row
          subst ha4
          clear hL hst hcm hcs hpi hcell
          by_cases he : (cm.flow : Int) = f
          · have hne : ((cm.flow : Int) != f) = false := by simp [he]
            clear hHL hpv
            go_wp2_with fail
            go_roundg (P.length - (i + 1))
            case measure => rw [unhide HG]; omega
            case rel => exact ⟨i + 1, p, rfl, by go_num, rfl, by omega, by rw [unhide HST, if_neg (by simpa using he), List.append_nil]; exact unhide HL⟩
          · have hne : ((cm.flow : Int) != f) = true := by simp [he]
            have HPV := hide hpv
            rw [hpv] at hHL ⊢
            have hfl8 : (keepA f (P.take i)).length ≤ P.length := by
              have h1 := List.length_filter_le (fun c : Pace.Cmd => decide ((c.flow : Int) ≠ f)) (P.take i)
              rw [List.length_take] at h1
              unfold keepA
              omega
            generalize hfn : (keepA f (P.take i)).length = fn at hHL hfl8 ⊢
            generalize hkd : kdR cm = kd at e0
            generalize hr : rR cm = r at e2
            generalize hbu : buR cm = bu at e3
            generalize hfc : (cm.flow : Int) = fc at e1 hne
            have HLf : Hid (KR W2 wr 187 4 p fn (asksC (keepA f (P.take i)))) := by
              have h := unhide HL
              rw [hfn] at h
              exact h
            have HFN := hide hfn; have HKD := hide (And.intro hkd (And.intro hr (And.intro hbu hfc)))
            clear hfn hkd hr hbu hfc
            have HB1 : Hid ((wr.alloc (.cells #[.int .i64 kd, .int .i64 fc, .int .i64 r, .int .i64 bu] 187)).ownsRow 0 187 4 (.slice ap fn cp) fn (asksC (keepA f (P.take i)))) := World.ownsRow.alloc (w := wr) hHL _
            have HN1 : Hid (∀ j u, [Value.int .i64 kd, .int .i64 fc, .int .i64 r, .int .i64 bu][j]? = some u → (wr.alloc (.cells #[.int .i64 kd, .int .i64 fc, .int .i64 r, .int .i64 bu] 187)).cell? ((⟨wr.heap.size, 0, none⟩ : Addr).add j) = some u) := fun j u hu => cells_new (w := wr) (cur := #[.int .i64 kd, .int .i64 fc, .int .i64 r, .int .i64 bu]) j u hu
            clear hHL hpv
            go_wp2_with (first
              | (at_builtin; refine wpList_append2 rfl _ _ 89 rfl 0 187 i2 (.agg #[.int .i64 0, .int .i64 0, .int .i64 0, .int .i64 0]) 4 32 Tryz.underlying89 hj2 hz0 hz1 hz2 rfl (by decide) (.slice ap fn cp) fn (asksC (keepA f (P.take i))) rfl (unhide HB1) ⟨wr.heap.size, 0, none⟩ 1 1 [.int .i64 kd, .int .i64 fc, .int .i64 r, .int .i64 bu] rfl rfl (unhide HN1) (by simp [Value.oneCell']) (by unfold maxLen; omega) (by omega) (Nat.zero_le _) ?_; intro v2 w3 hown3 hgr3; have HS3 := hide ((unhide HLf).step (o := .cells #[.int .i64 kd, .int .i64 fc, .int .i64 r, .int .i64 bu] 187) hown3 (by rw [unhide HPV, unhide HFN]; exact hgr3)); clear hown3 hgr3))
            go_roundg (P.length - (i + 1))
            case measure => rw [unhide HG]; omega
            case rel =>
              refine ⟨i + 1, _, rfl, by go_num, rfl, by omega, ?_⟩
              obtain ⟨q1, q2, q3, q4⟩ := unhide HKD
              rw [unhide HST, if_pos (by rw [q4]; simpa using hne), List.length_append, List.length_singleton, asksC_snoc, askC_eq cm, q1, q2, q3, q4, unhide HFN]
              exact unhide HS3
        · have hii : ¬ ((i : Int) < (P.length : Int)) := by omega
          have hie : i = P.length := by omega
          have HL1 : Hid (KR W2 wr 187 4 p (keepA f P).length (asksC (keepA f P))) := by
            have h := unhide HL
            rw [hie, List.take_length] at h
            exact h
          have hbw : b < W2.heap.size := Nat.lt_of_lt_of_le hbl (unhide HSz)
          have hfz2 : ∀ o, wr.frozen? ⟨b, o, none⟩ = false := fun o => (frozen_of (hL.fr.blk b hbw fun q => q) o).trans (unhide HFz3 o)
          have z4 := hfz2 4
          have hch4 : Ch wr (wr.setCell ⟨b, 4, none⟩ p) (fun a o => a = b ∧ o = 4) := (Ch.refl wr _).setCell ⟨rfl, rfl⟩ _
          have u10 := (hch4.cell b 10 (by omega)).trans (hcell b 10 _ (unhide H10) (by omega))
          have ux4 := (hch4.cell x 4 (fun q => hxb q.1)).trans (hcell x 4 _ (unhide HX4) (fun q => hxb q.1))
          have u4 : (wr.setCell ⟨b, 4, none⟩ p).cell? ⟨b, 4, none⟩ = some p := World.cell?_setCell_same' _ _ _ (by rw [t4]; rfl)
          have z10 := (hch4.fz ⟨b, 10, none⟩).trans (hfz2 10)
          have hw10 : IntKind.i64.wrap ((dr : Int) + (nq : Int)) = (dr : Int) + (nq : Int) := wrapI (by omega) (by omega)
          have hbx : b ≠ x := fun e => hxb e.symm
          have HC4 := hide hch4; have HU4 := hide u4
          obtain ⟨ap, cp, hpv⟩ := row_len hL.row
          have HPV := hide hpv
          clear hL hcell hch4 hfz2 hpv u4 HG hie
          generalize hfn : (keepA f (P.take i)).length = fn at HPV
          rw [unhide HPV] at HC4 HU4 u10 ux4 z10 ⊢
          clear hfn
          go_upto_region 20 with fail
          generalize wr.setCell ⟨b, 4, none⟩ (.slice ap fn cp) = wb at *
          have hc5 : Ch wb (wb.setCell ⟨b, 10, none⟩ (.int .i64 ((dr : Int) + (nq : Int)))) (fun a o => a = b ∧ o = 10) := (Ch.refl wb _).setCell ⟨rfl, rfl⟩ _
          have vx4 := (hc5.cell x 4 (fun q => hxb q.1)).trans ux4
          have HEnd : Hid (∀ W : World, Ch (wb.setCell ⟨b, 10, none⟩ (.int .i64 ((dr : Int) + (nq : Int)))) W (fun _ _ => False) → ∃ fv' pv', RRm w W b x fv' pv' (keepF f num xs).length (keepA f P).length ((keepF f num xs).map fun z => Value.pointer (some ⟨z, 0, none⟩)) (asksC (keepA f P)) dr nq) := by
            intro W hW
            refine ⟨_, _, rrm_mk hbl (unhide HK1) (q2 := p) (wr2 := wr) ?_ ⟨_, h3⟩ (W := W) ?_ ?_ ?_⟩
            · rw [unhide HQV, unhide HKK, unhide HW2]; exact unhide HL1
            · exact (((unhide HC4).trans hc5).trans hW).mono fun a o q => by
                rcases q with (q | q) | q
                · exact ⟨q.1, .inl q.2⟩
                · exact ⟨q.1, .inr q.2⟩
                · exact q.elim
            · rw [hW.cell _ _ (fun q => q), hc5.cell b 4 (by omega), unhide HPV]
              exact unhide HU4
            · rw [hW.cell _ _ (fun q => q)]
              exact World.cell?_setCell_same' _ _ _ (by rw [u10]; rfl)
          clear hc5 t4 z4
          go_region_law (fail)
          all_goals
            go_wp2_with fail
            go_ret2
            exact ⟨rfl, unhide HEnd _ (by first | exact (Ch.refl _ _).drew | exact Ch.refl _ _ | exact (Ch.refl _ _).drewN _)⟩
end Go.Proofs.YtogdekjklbbbiaaGreatDoor
