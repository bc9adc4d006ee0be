import Derived.Test.YtogdekjklbbbiaaDoorRef4
import Derived.Deep.LoopGhost
set_option maxRecDepth 100000
namespace Go.Proofs.YtogdekjklbbbiaaDoor
open Go.ChangeShapes Go.WideShapes Go.ChangeAt Go.RowKit
set_option linter.unusedSimpArgs false
set_option linter.unusedVariables false

set_option maxHeartbeats 2000000 in
theorem adv16_walk (b now N B : Nat) (t : Int) (w : World) (A : List (Nat × Nat)) (S : List (Nat × Nat) → List (Nat × Nat) → Value → World → Prop)
    (hc : w.cell? ⟨b, 0, none⟩ = some (.int .i64 (now : Int))) (hfz : w.frozen? ⟨b, 0, none⟩ = false)
    (h0 : S A [] (.slice none 0 0) (if (now : Int) < t then w.setCell ⟨b, 0, none⟩ (.int .i64 t) else w))
    (hFi : ∀ C D vl wr, S C D vl wr → Calls Tryd.prog 67 #[.pointer (some ⟨b, 0, none⟩)] wr fun e w' => ∃ r, e = .returned (.int .i64 r) ∧ FirstIx C C.length r ∧ S C D vl w')
    (hOu : ∀ C D vl wr (i : Nat) p, S C D vl wr → C[i]? = some p → (∀ j q, j < i → C[j]? = some q → p.2 < q.2) → (∀ j q, j < C.length → C[j]? = some q → p.2 ≤ q.2) → p.2 ≤ N →
      ∀ vl' w2, wr.grownBy w2 vl.ownBlock → w2.ownsRow B 3 1 vl' (D.length + 1) (D.map (fun p => Value.int .i64 (p.1 : Int)) ++ [.int .i64 (p.1 : Int)]) → (vl'.ownBlock = vl.ownBlock ∨ ∃ g, vl'.ownBlock = some g ∧ wr.heap.size ≤ g) →
      Calls Tryd.prog 66 #[.pointer (some ⟨b, 0, none⟩), .int .i64 (i : Int)] w2 fun e w' => e = .returned (.tuple #[]) ∧ S (C.eraseIdx i) (D ++ [p]) vl' w')
    (hRd : ∀ C D vl wr, S C D vl wr → wr.cell? ⟨b, 0, none⟩ = some (.int .i64 (N : Int)) ∧ ∃ a n cap, wr.cell? ⟨b, 1, none⟩ = some (.slice a n cap) ∧ n = C.length ∧ PR wr a C ∧ B ≤ wr.heap.size ∧ wr.ownsRow B 3 1 vl D.length (D.map fun p => Value.int .i64 (p.1 : Int)) ∧ D.length + C.length < 8796093022208)
    (hDw : ∀ C D vl wr n, S C D vl wr → S C D vl (wr.drewN n)) :
    Calls Tryd.prog 35 #[.pointer (some ⟨b, 0, none⟩), .int .i64 t] w fun e w' => ∃ v C D, e = .returned v ∧ S C D v w' ∧ ∀ c ∈ C, N < c.2 := by
  obtain ⟨i1, hj', hy0, hy1, hy2⟩ := info_parts info3
  have HFi := hide hFi; have HOu := hide hOu; have HRd := hide hRd; have HDw := hide hDw
  clear hFi hOu hRd hDw
  by_cases hlt : (now : Int) < t
  · rw [if_pos hlt] at h0
    have HS0 := hide h0
    clear h0
    go_enter Tryd.func35, Tryd.ntmps35
    go_wp2_with fail
    refine (unhide HFi _ _ _ _ (unhide HS0)).mono ?_
    rintro e w1 ⟨r, rfl, hF1, hS1⟩
    have HF1 := hide hF1; have HS1 := hide hS1
    clear hF1 hS1
    go_wp2_with fail
    go_loopg [5, 6] (A.length + 1) (fun gk vl vr wr => ∃ (C D : List (Nat × Nat)) (r : Int), vr = .int .i64 r ∧ gk = C.length + 1 ∧ FirstIx C C.length r ∧ S C D vl wr)
    case atStart => exact ⟨A, [], r, rfl, rfl, unhide HF1, unhide HS1⟩
    case round =>
      obtain ⟨C, D, r, hu, hgk, hF, hS⟩ := hrel
      rw [hu]
      clear hu HF1 HS1
      have HG := hide hgk; have HS := hide hS
      obtain ⟨hc0, a, n, cap, hc1, hnC, hcells, hB, hrow, hDn⟩ := unhide HRd C D u5 wr hS
      have HCe := hide hcells; have HRow := hide hrow; have HB := hide hB
      clear hS hgk hcells hrow hB
      rcases hF with ⟨rfl, hC0⟩ | ⟨i, p, rfl, hin, hip, hlo, hle⟩
      · have HC0 := hide hC0
        clear hC0
        go_wp2_with fail
        go_quiet (fail)
        go_wp2_with fail
        go_ret
        refine ⟨u5, C, D, rfl, unhide HDw _ _ _ _ _ (unhide HS), fun c hc => ?_⟩
        have := List.eq_nil_of_length_eq_zero (unhide HC0)
        rw [this] at hc; simp at hc
      · obtain ⟨g, ha, h1, h2⟩ := unhide HCe i p hip
        subst ha
        have hi0 : (0 : Int) ≤ (i : Int) := by omega
        have hii : (i : Int) < (n : Int) := by omega
        have HL := hide hle; have HI := hide hip; have HLo := hide hlo
        clear hlo hle hip
        by_cases hpN : (p.2 : Int) ≤ (N : Int)
        · go_wp2_with fail
          go_quiet (fail)
          have hra : Hid (((wr.drewN nq).alloc (.cells #[.int .i64 (p.1 : Int)] 3)).ownsRow B 3 1 u5 D.length (D.map fun p => Value.int .i64 (p.1 : Int))) := by
            refine World.ownsRow.alloc ?_ _
            exact row_kept (unhide HRow) fun _ _ _ => rfl
          have hba : Hid (B ≤ ((wr.drewN nq).alloc (.cells #[.int .i64 (p.1 : Int)] 3)).heap.size) := by
            have := unhide HB
            simp [Hid]
            exact Nat.le_trans this (Nat.le_succ _)
          have hsD : Hid (S C D u5 (wr.drewN nq)) := unhide HDw _ _ _ _ _ (unhide HS)
          generalize hWW : wr.drewN nq = W at hra hba hsD ⊢
          have hc1W : W.cell? ⟨b, 1, none⟩ = some (.slice (some ⟨g, 0, none⟩) n cap) := by rw [← hWW]; exact hc1
          have h1W : W.cell? ⟨g, i * 2, none⟩ = some (.int .i64 (p.1 : Int)) := by rw [← hWW]; exact h1
          clear hWW HRow HB HS HCe hc0 hc1 h1 h2
          go_wp2_with (first | (at_builtin; refine wpList_append_own_at _ rfl _ _ 33 rfl B 3 i1 (.int .i64 0) 1 8 Tryd.underlying33 hj' hy0 hy1 hy2 rfl (by decide) _ _ _ rfl (unhide hra) ⟨W.heap.size, 0, none⟩ 1 1 [.int .i64 (p.1 : Int)] rfl rfl (cell_one_new _ _ _) (by simp [Value.oneCell']) (by unfold maxLen; omega) (by omega) (unhide hba) ?_; intro v7 w7 hown7 hgrow7 _ hblk7; have HO7 := hide hown7; have HG7 := hide hgrow7; have HB7 := hide hblk7; clear hown7 hgrow7 hblk7))
          have hgr : Hid (W.grownBy w7 u5.ownBlock) := ⟨(unhide HG7).os, (unhide HG7).tape, (unhide HG7).output, Nat.le_trans (by simp) (unhide HG7).size, fun k hk hne => ((unhide HG7).block k (by simp; omega) hne).trans (Below.heap_alloc W _ k hk)⟩
          have hbk : Hid (v7.ownBlock = u5.ownBlock ∨ ∃ g, v7.ownBlock = some g ∧ W.heap.size ≤ g) := by
            rcases unhide HB7 with q | q
            · exact .inl q
            · exact .inr ⟨_, q, by simp⟩
          refine (unhide HOu C D u5 W i p (unhide hsD) (unhide HI) (unhide HLo) (unhide HL) (by omega) v7 w7 (unhide hgr) (unhide HO7) (unhide hbk)).mono ?_
          rintro e w8 ⟨rfl, hS8⟩
          have HS8 := hide hS8
          clear hS8 HO7 HG7 HB7 hgr hbk hra hba hsD
          go_wp2_with fail
          refine (unhide HFi _ _ _ _ (unhide HS8)).mono ?_
          rintro e w9 ⟨r9, rfl, hF9, hS9⟩
          have HF9 := hide hF9; have HS9 := hide hS9
          clear hF9 hS9
          go_wp2_with fail
          go_roundg ((C.eraseIdx i).length + 1)
          case measure =>
            rw [unhide HG, List.length_eraseIdx_of_lt hin]
            omega
          case rel => exact ⟨_, _, r9, rfl, rfl, unhide HF9, unhide HS9⟩
        · have hpN' : decide ((p.2 : Int) ≤ (N : Int)) = false := decide_eq_false hpN
          go_wp2_with fail
          go_quiet (fail)
          go_wp2_with fail
          go_ret
          refine ⟨u5, C, D, rfl, unhide HDw _ _ _ _ _ (unhide HS), fun c hc => ?_⟩
          obtain ⟨j, hj⟩ := List.getElem?_of_mem hc
          have := unhide HL j c (List.getElem?_eq_some_iff.1 hj).1 hj
          omega
  · rw [if_neg hlt] at h0
    have HS0 := hide h0
    clear h0
    have hlt' : decide ((now : Int) < t) = false := decide_eq_false hlt
    go_enter Tryd.func35, Tryd.ntmps35
    go_wp2_with fail
    refine (unhide HFi _ _ _ _ (unhide HS0)).mono ?_
    rintro e w1 ⟨r, rfl, hF1, hS1⟩
    have HF1 := hide hF1; have HS1 := hide hS1
    clear hF1 hS1
    go_wp2_with fail
    go_loopg [5, 6] (A.length + 1) (fun gk vl vr wr => ∃ (C D : List (Nat × Nat)) (r : Int), vr = .int .i64 r ∧ gk = C.length + 1 ∧ FirstIx C C.length r ∧ S C D vl wr)
    case atStart => exact ⟨A, [], r, rfl, rfl, unhide HF1, unhide HS1⟩
    case round =>
      obtain ⟨C, D, r, hu, hgk, hF, hS⟩ := hrel
      rw [hu]
      clear hu HF1 HS1
      have HG := hide hgk; have HS := hide hS
      obtain ⟨hc0, a, n, cap, hc1, hnC, hcells, hB, hrow, hDn⟩ := unhide HRd C D u5 wr hS
      have HCe := hide hcells; have HRow := hide hrow; have HB := hide hB
      clear hS hgk hcells hrow hB
      rcases hF with ⟨rfl, hC0⟩ | ⟨i, p, rfl, hin, hip, hlo, hle⟩
      · have HC0 := hide hC0
        clear hC0
        go_wp2_with fail
        go_quiet (fail)
        go_wp2_with fail
        go_ret
        refine ⟨u5, C, D, rfl, unhide HDw _ _ _ _ _ (unhide HS), fun c hc => ?_⟩
        have := List.eq_nil_of_length_eq_zero (unhide HC0)
        rw [this] at hc; simp at hc
      · obtain ⟨g, ha, h1, h2⟩ := unhide HCe i p hip
        subst ha
        have hi0 : (0 : Int) ≤ (i : Int) := by omega
        have hii : (i : Int) < (n : Int) := by omega
        have HL := hide hle; have HI := hide hip; have HLo := hide hlo
        clear hlo hle hip
        by_cases hpN : (p.2 : Int) ≤ (N : Int)
        · go_wp2_with fail
          go_quiet (fail)
          have hra : Hid (((wr.drewN nq).alloc (.cells #[.int .i64 (p.1 : Int)] 3)).ownsRow B 3 1 u5 D.length (D.map fun p => Value.int .i64 (p.1 : Int))) := by
            refine World.ownsRow.alloc ?_ _
            exact row_kept (unhide HRow) fun _ _ _ => rfl
          have hba : Hid (B ≤ ((wr.drewN nq).alloc (.cells #[.int .i64 (p.1 : Int)] 3)).heap.size) := by
            have := unhide HB
            simp [Hid]
            exact Nat.le_trans this (Nat.le_succ _)
          have hsD : Hid (S C D u5 (wr.drewN nq)) := unhide HDw _ _ _ _ _ (unhide HS)
          generalize hWW : wr.drewN nq = W at hra hba hsD ⊢
          have hc1W : W.cell? ⟨b, 1, none⟩ = some (.slice (some ⟨g, 0, none⟩) n cap) := by rw [← hWW]; exact hc1
          have h1W : W.cell? ⟨g, i * 2, none⟩ = some (.int .i64 (p.1 : Int)) := by rw [← hWW]; exact h1
          clear hWW HRow HB HS HCe hc0 hc1 h1 h2
          go_wp2_with (first | (at_builtin; refine wpList_append_own_at _ rfl _ _ 33 rfl B 3 i1 (.int .i64 0) 1 8 Tryd.underlying33 hj' hy0 hy1 hy2 rfl (by decide) _ _ _ rfl (unhide hra) ⟨W.heap.size, 0, none⟩ 1 1 [.int .i64 (p.1 : Int)] rfl rfl (cell_one_new _ _ _) (by simp [Value.oneCell']) (by unfold maxLen; omega) (by omega) (unhide hba) ?_; intro v7 w7 hown7 hgrow7 _ hblk7; have HO7 := hide hown7; have HG7 := hide hgrow7; have HB7 := hide hblk7; clear hown7 hgrow7 hblk7))
          have hgr : Hid (W.grownBy w7 u5.ownBlock) := ⟨(unhide HG7).os, (unhide HG7).tape, (unhide HG7).output, Nat.le_trans (by simp) (unhide HG7).size, fun k hk hne => ((unhide HG7).block k (by simp; omega) hne).trans (Below.heap_alloc W _ k hk)⟩
          have hbk : Hid (v7.ownBlock = u5.ownBlock ∨ ∃ g, v7.ownBlock = some g ∧ W.heap.size ≤ g) := by
            rcases unhide HB7 with q | q
            · exact .inl q
            · exact .inr ⟨_, q, by simp⟩
          refine (unhide HOu C D u5 W i p (unhide hsD) (unhide HI) (unhide HLo) (unhide HL) (by omega) v7 w7 (unhide hgr) (unhide HO7) (unhide hbk)).mono ?_
          rintro e w8 ⟨rfl, hS8⟩
          have HS8 := hide hS8
          clear hS8 HO7 HG7 HB7 hgr hbk hra hba hsD
          go_wp2_with fail
          refine (unhide HFi _ _ _ _ (unhide HS8)).mono ?_
          rintro e w9 ⟨r9, rfl, hF9, hS9⟩
          have HF9 := hide hF9; have HS9 := hide hS9
          clear hF9 hS9
          go_wp2_with fail
          go_roundg ((C.eraseIdx i).length + 1)
          case measure =>
            rw [unhide HG, List.length_eraseIdx_of_lt hin]
            omega
          case rel => exact ⟨_, _, r9, rfl, rfl, unhide HF9, unhide HS9⟩
        · have hpN' : decide ((p.2 : Int) ≤ (N : Int)) = false := decide_eq_false hpN
          go_wp2_with fail
          go_quiet (fail)
          go_wp2_with fail
          go_ret
          refine ⟨u5, C, D, rfl, unhide HDw _ _ _ _ _ (unhide HS), fun c hc => ?_⟩
          obtain ⟨j, hj⟩ := List.getElem?_of_mem hc
          have := unhide HL j c (List.getElem?_eq_some_iff.1 hj).1 hj
          omega

structure SR (w : World) (b N : Nat) (O : Nat → Prop) (A : List (Nat × Nat)) (C D : List (Nat × Nat)) (vl : Value) (O' : Nat → Prop) (wr : World) : Prop where
  ra : RA wr b O' N C
  fr : Fr w wr O
  oo : ∀ k, O' k → O k ∨ w.heap.size ≤ k
  row : wr.ownsRow w.heap.size 3 1 vl D.length (D.map fun p => Value.int .i64 (p.1 : Int))
  ap : ∀ g, vl.ownBlock = some g → ¬ O' g
  inv : AdvI A N D C

theorem RA.quiet {w w' : World} {b : Nat} {O : Nat → Prop} {now : Nat} {A : List (Nat × Nat)} (h : RA w b O now A) (hc : Ch w w' (fun _ _ => False)) : RA w' b O now A := by
  obtain ⟨v, h⟩ := h
  exact ⟨v, h.quiet hc⟩
theorem ra_advance {w : World} {b : Nat} {O : Nat → Prop} {now : Nat} {A : List (Nat × Nat)} (h : RA w b O now A) (hl : A.length < 8796093022208) (t : Int) (N : Nat) (hN : (N : Int) = max (now : Int) t) :
    Calls Tryd.prog 35 #[.pointer (some ⟨b, 0, none⟩), .int .i64 t] w fun e w' => ∃ v D, e = .returned v ∧ SortOf (upTo N A) D ∧ Fr w w' O ∧ w'.ownsRow w.heap.size 3 1 v D.length (D.map fun p => Value.int .i64 (p.1 : Int)) ∧
      ∃ O' : Nat → Prop, RA w' b O' N (beyond N A) ∧ (∀ k, O' k → O k ∨ w.heap.size ≤ k) ∧ ∀ g, v.ownBlock = some g → ¬ O' g := by
  have hA := h
  obtain ⟨v0, hv⟩ := h
  refine (adv16_walk b now N w.heap.size t w A (fun C D vl wr => ∃ O', SR w b N O A C D vl O' wr) hv.c0 (hv.fz 0) ?_ ?_ ?_ ?_ ?_).mono ?_
  · by_cases hlt : (now : Int) < t
    · rw [if_pos hlt]
      have hch : Ch w (w.setCell ⟨b, 0, none⟩ (.int .i64 t)) (fun a o => a = b ∧ o = 0) := (Ch.refl w _).setCell (b := b) (o := 0) ⟨rfl, rfl⟩ _
      refine ⟨O, ⟨v0, ?_, ?_, ?_, ?_, hv.og, hv.ob, fun k q => by rw [hch.size]; exact hv.olt k q⟩, ⟨hch.os, hch.tape, hch.output, by rw [hch.size]; exact Nat.le_refl _, fun k hk hn => hch.blk k fun o q => hn (by rw [q.1]; exact hv.ob)⟩, fun k q => .inl q, World.ownsRow_nil _ _ _ _, fun g hg => (by cases hg), AdvI.start A N⟩
      · rw [cset _ _ _ _ _ _ (by rw [hv.c0]; rfl), if_pos ⟨rfl, rfl⟩]
        congr 2
        omega
      · rw [hch.cell b 1 (by omega)]; exact hv.c1
      · intro o; rw [hch.fz]; exact hv.fz o
      · exact row_blk hv.row fun g hg => hch.blk g fun o q => (hv.og g hg).2 q.1
    · rw [if_neg hlt]
      have e : N = now := by omega
      rw [e]
      exact ⟨O, hA, Fr.refl _ _, fun k q => .inl q, World.ownsRow_nil _ _ _ _, fun g hg => (by cases hg), AdvI.start A now⟩
  · rintro C D vl wr ⟨O', hS⟩
    have hlen := hS.inv.len
    refine (ra_first hS.ra (by omega)).mono ?_
    rintro e w' ⟨r, rfl, hF, hC, hR⟩
    refine ⟨r, rfl, hF, O', hR, ch_fr hS.fr hC (fun k o q _ => q.elim), hS.oo, row_blk hS.row fun g _ => hC.blk g fun _ q => q, hS.ap, hS.inv⟩
  · rintro C D vl wr i p ⟨O', hS⟩ hi hlo hle hpN vl' w2 hg hrow hblk
    have hlen := hS.inv.len
    have hf2 : Fr wr w2 (fun k => vl.ownBlock = some k) := ⟨hg.os, hg.tape, hg.output, hg.size, fun k hk hn => hg.block k hk fun q => hn q.symm⟩
    have hra2 : RA w2 b O' N C := hS.ra.kept hf2 fun k q q' => hS.ap k q' q
    have hap : ∀ g, vl'.ownBlock = some g → ¬ O' g ∧ g < w2.heap.size := by
      intro g hgv
      refine ⟨?_, (hrow.lt g hgv).2⟩
      rcases hblk with q | ⟨g', q, q'⟩
      · rw [q] at hgv; exact hS.ap g hgv
      · rw [q] at hgv
        cases hgv
        intro q2
        have := hS.ra.olt q2
        omega
    refine (ra_out hra2 (by omega) i).mono ?_
    rintro e w' ⟨rfl, hf, O2, hR2, ho2⟩
    have hlow : ∀ k, vl.ownBlock = some k → w.heap.size ≤ k := fun k q => (hS.row.lt k q).1
    have hfr2 : Fr w w2 O := Fr.trans hS.fr hf2 (fun x hx q => by have := hlow x q; omega)
    refine ⟨rfl, O2, hR2, Fr.trans hfr2 hf (fun x hx q => (hS.oo x q).elim id fun q' => by omega), ?_, ?_, ?_, ?_⟩
    · intro k hk
      rcases ho2 k hk with q | q
      · exact hS.oo k q
      · exact .inr (Nat.le_trans hfr2.size q)
    · rw [List.length_append, List.map_append]
      exact row_blk hrow fun g hgv => hf.blk g (hap g hgv).2 (hap g hgv).1
    · intro g hgv q
      rcases ho2 g q with q' | q'
      · exact (hap g hgv).1 q'
      · have := (hap g hgv).2; omega
    · exact hS.inv.step hi hlo hle hpN
  · rintro C D vl wr ⟨O', hS⟩
    have hlen := hS.inv.len
    obtain ⟨v, hR⟩ := hS.ra
    obtain ⟨a, cap, rfl, hp, _⟩ := row_pr hR.row
    exact ⟨hR.c0, a, C.length, cap, hR.c1, rfl, hp, hS.fr.size, hS.row, by omega⟩
  · rintro C D vl wr n ⟨O', hS⟩
    have hC : Ch wr (wr.drewN n) (fun _ _ => False) := (Ch.refl wr _).drewN n
    exact ⟨O', hS.ra.quiet hC, ch_fr hS.fr hC (fun k o q _ => q.elim), hS.oo, row_blk hS.row fun g _ => hC.blk g fun _ q => q, hS.ap, hS.inv⟩
  · rintro e w' ⟨v, C, D, rfl, ⟨O', hS⟩, hgt⟩
    obtain ⟨h1, h2⟩ := hS.inv.done hgt
    rw [← h2]
    exact ⟨v, D, rfl, h1, hS.fr, hS.row, O', hS.ra, hS.oo, hS.ap⟩
end Go.Proofs.YtogdekjklbbbiaaDoor
