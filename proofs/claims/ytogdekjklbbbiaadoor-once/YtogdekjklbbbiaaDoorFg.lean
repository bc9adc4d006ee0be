import Derived.Test.YtogdekjklbbbiaaDoorFf
set_option maxRecDepth 100000
namespace Go.Proofs.YtogdekjklbbbiaaDoor
open Go.ChangeShapes Go.WideShapes Go.ChangeAt Go.RowKit
set_option linter.unusedSimpArgs false
set_option linter.unusedVariables false

/-- Memory has grown; of what was there only cells of x in S have turned. -/
structure GC (w w' : World) (x : Nat) (S : Nat → Prop) : Prop where
  os : w'.os = w.os
  tape : w'.tape = w.tape
  output : w'.output = w.output
  size : w.heap.size ≤ w'.heap.size
  blk : ∀ k, k < w.heap.size → k ≠ x → w'.heap[k]? = w.heap[k]?
  cell : ∀ o, ¬ S o → w'.cell? ⟨x, o, none⟩ = w.cell? ⟨x, o, none⟩
  fz : ∀ o, w'.frozen? ⟨x, o, none⟩ = w.frozen? ⟨x, o, none⟩
  dom : ∀ o, (w'.cell? ⟨x, o, none⟩).isSome = (w.cell? ⟨x, o, none⟩).isSome
theorem GC.refl (w : World) (x : Nat) (S : Nat → Prop) : GC w w x S := ⟨rfl, rfl, rfl, Nat.le_refl _, fun _ _ _ => rfl, fun _ _ => rfl, fun _ => rfl, fun _ => rfl⟩
theorem GC.drew {w w' : World} {x : Nat} {S : Nat → Prop} (h : GC w w' x S) : GC w w'.drew x S := ⟨h.os, h.tape, h.output, h.size, h.blk, h.cell, h.fz, h.dom⟩
theorem GC.drewN {w w' : World} {x : Nat} {S : Nat → Prop} (h : GC w w' x S) (n : Nat) : GC w (w'.drewN n) x S := ⟨h.os, h.tape, h.output, h.size, h.blk, h.cell, h.fz, h.dom⟩
theorem GC.alloc {w w' : World} {x : Nat} {S : Nat → Prop} (h : GC w w' x S) (hx : x < w'.heap.size) (o : Obj) : GC w (w'.alloc o) x S :=
  ⟨h.os, h.tape, h.output, Nat.le_trans h.size (by simp), fun k hk hn => (Below.heap_alloc _ _ _ (Nat.lt_of_lt_of_le hk h.size)).trans (h.blk k hk hn),
    fun q hq => (World.cell?_of_block (w := w') (a := ⟨x, q, none⟩) (Below.heap_alloc _ _ _ hx)).trans (h.cell q hq), fun q => (frozen_of (Below.heap_alloc _ _ _ hx) q).trans (h.fz q),
    fun q => (congrArg Option.isSome (World.cell?_of_block (w := w') (a := ⟨x, q, none⟩) (Below.heap_alloc _ _ _ hx))).trans (h.dom q)⟩
theorem GC.setCell {w w' : World} {x : Nat} {S : Nat → Prop} (h : GC w w' x S) {o : Nat} (hS : S o) (v : Value) : GC w (w'.setCell ⟨x, o, none⟩ v) x S := by
  refine ⟨h.os, h.tape, h.output, by simpa using h.size, fun k hk hn => (Below.heap_setCell _ _ _ _ hn).trans (h.blk k hk hn), fun q hq => ?_, fun q => (World.frozen?_setCell _ _ _ _).trans (h.fz q), fun q => (isSome_set _ _ _ _).trans (h.dom q)⟩
  rw [World.cell?_setCell_other]
  · exact h.cell q hq
  · intro e
    injection e with e1 e2
    subst e2
    exact hq hS
theorem GC.trans {a b c : World} {x : Nat} {S T : Nat → Prop} (h : GC a b x S) (k : GC b c x T) : GC a c x (fun o => S o ∨ T o) :=
  ⟨k.os.trans h.os, k.tape.trans h.tape, k.output.trans h.output, Nat.le_trans h.size k.size, fun n hn hx => (k.blk n (Nat.lt_of_lt_of_le hn h.size) hx).trans (h.blk n hn hx),
    fun o ho => (k.cell o fun q => ho (.inr q)).trans (h.cell o fun q => ho (.inl q)), fun o => (k.fz o).trans (h.fz o), fun o => (k.dom o).trans (h.dom o)⟩
theorem GC.mono {a b : World} {x : Nat} {S T : Nat → Prop} (h : GC a b x S) (hi : ∀ o, S o → T o) : GC a b x T := ⟨h.os, h.tape, h.output, h.size, h.blk, fun o ho => h.cell o fun q => ho (hi o q), h.fz, h.dom⟩

theorem sub_step {cr B pl B1 T cv : Nat} (h1 : cr - B * 1000000000 = cv) (h2 : B1 = B + pl) (h3 : B1 ≤ T) (h4 : T * 1000000000 ≤ cr) (h5 : cr ≤ 1000000000000000) : pl * 1000000000 ≤ cv ∧ cr - B1 * 1000000000 = cv - pl * 1000000000 ∧ cv ≤ 1000000000000000 := by omega
set_option maxHeartbeats 2000000 in
theorem send_walk (x L g n cap k : Nat) (num inst ck : Int) (cr adm : Nat) (pk : List (Int × Nat)) (w : World) (R R3 : World → Prop) (R4 : Value → World → Prop) (hpk : pk.length = k) (hkn : k ≤ n) (hk0 : 0 < k) (hn : n ≤ 8) (hnc : n ≤ cap) (hcm : cap ≤ 9223372036854775807) (hlens : ∀ p ∈ pk, p.2 ≤ 1500)
    (hcr : Pace.bytes pk * 1000000000 ≤ cr) (hcr2 : cr ≤ 1000000000000000) (hka : k ≤ adm) (ha8 : adm ≤ 8)
    (hA : Calls Tryd.prog 94 #[.pointer (some ⟨x, 0, none⟩), .int .i64 ck] w fun e w' => e = .returned (.tuple #[]) ∧ R w')
    (hR : ∀ w1, R w1 → w1.cell? ⟨x, 0, none⟩ = some (.int .i64 num) ∧ w1.cell? ⟨x, 3, none⟩ = some (.int .i64 (cr : Int)) ∧ w1.cell? ⟨x, 5, none⟩ = some (.slice (some ⟨g, 0, none⟩) n cap) ∧ w1.cell? ⟨x, 6, none⟩ = some (.int .i64 (adm : Int)) ∧ w1.cell? ⟨x, 7, none⟩ = some (.int .i64 (k : Int)) ∧
      (∀ o, w1.frozen? ⟨x, o, none⟩ = false) ∧ g ≠ x ∧ g < w1.heap.size ∧ ∀ j p, pk[j]? = some p → w1.cell? ⟨g, j * 2, none⟩ = some (.int .i64 p.1) ∧ w1.cell? ⟨g, j * 2 + 1, none⟩ = some (.int .i64 (p.2 : Int)))
    (hL : ∀ w1 w2, R w1 → GC w1 w2 x (fun o => o = 3) → w2.cell? ⟨x, 3, none⟩ = some (.int .i64 ((cr - Pace.bytes pk * 1000000000 : Nat) : Int)) → Calls Tryd.prog 88 #[.pointer (some ⟨L, 0, none⟩), .int .i64 num, .int .i64 inst, .slice (some ⟨g, 0, none⟩) k cap] w2 fun e w' => e = .returned (.tuple #[]) ∧ R3 w' ∧ w'.heap[x]? = w2.heap[x]?)
    (hD : ∀ w3 m, R3 w3 → Calls Tryd.prog 96 #[.slice (some ⟨g, 0, none⟩) n cap, .int .i64 0, .int .i64 (k : Int)] (w3.drewN m) fun e w' => ∃ a c, e = .returned (.slice a (n - k) c) ∧ R4 (.slice a (n - k) c) w' ∧ w'.heap[x]? = w3.heap[x]?) :
    Calls Tryd.prog 85 #[.pointer (some ⟨x, 0, none⟩), .int .i64 inst, .int .i64 ck, .pointer (some ⟨L, 0, none⟩)] w fun e w' => e = .returned (.tuple #[]) ∧ ∃ v' w4, R4 v' w4 ∧ Ch w4 w' (fun a o => a = x ∧ (o = 5 ∨ o = 6)) ∧ w'.cell? ⟨x, 5, none⟩ = some v' ∧ w'.cell? ⟨x, 6, none⟩ = some (.int .i64 ((adm - k : Nat) : Int)) := by
  have HA := hide hA; have HR := hide hR; have HL := hide hL; have HD := hide hD; have HLe := hide hlens; have HPK := hide hpk; have HCR := hide hcr
  clear hA hR hL hD hlens hpk hcr
  go_enter Tryd.func85, Tryd.ntmps85
  go_wp2_with fail
  refine (unhide HA).mono ?_
  rintro e w1 ⟨rfl, hw1⟩
  obtain ⟨h0, h3, h5, h6, h7, hf, hgx, hgs, hg⟩ := unhide HR w1 hw1
  have HW := hide hw1; have HG := hide hg; have HF := hide hf
  have hxs : x < w1.heap.size := World.block_lt_of_cell? _ _ h0
  clear hw1 hg hf
  have b1 : (k : Int) ≤ (cap : Int) := by omega
  have b2 : (0 : Int) ≤ (k : Int) := by omega
  have b3 : k ≤ cap := by omega
  go_wp2_with fail
  go_quiet (fail)
  go_wp2_with fail
  go_loopg [23] k (fun gk i wr => ∃ j : Nat, i = .int .i64 (j : Int) ∧ gk = k - j ∧ j ≤ k ∧ GC w1 wr x (fun o => o = 3) ∧ wr.cell? ⟨x, 3, none⟩ = some (.int .i64 ((cr - Pace.bytes (pk.take j) * 1000000000 : Nat) : Int)))
  case atStart => exact ⟨0, rfl, rfl, Nat.zero_le _, (GC.refl _ _ _).drewN _, by simpa [Pace.bytes] using h3⟩
  case round =>
    obtain ⟨j, hu, hgk, hjk, hC, hc3⟩ := hrel
    rw [hu]
    clear hu
    have HC := hide hC; have HGK := hide hgk
    have hxr : x < wr.heap.size := Nat.lt_of_lt_of_le hxs hC.size
    have c0 := (hC.cell 0 (by omega)).trans h0
    have c5 := (hC.cell 5 (by omega)).trans h5
    have c6 := (hC.cell 6 (by omega)).trans h6
    have c7 := (hC.cell 7 (by omega)).trans h7
    have fr := fun o => (hC.fz o).trans (unhide HF o)
    have hgb := hC.blk g hgs hgx
    clear hC hgk
    by_cases hj : j < k
    · have hji : (j : Int) < (k : Int) := by omega
      have hj0 : (0 : Int) ≤ (j : Int) := by omega
      have hjp : j < pk.length := by rw [unhide HPK]; exact hj
      obtain ⟨q1, q2⟩ := unhide HG j pk[j] (List.getElem?_eq_getElem hjp)
      have q1 := (World.cell?_of_block (w := w1) (a := ⟨g, j * 2, none⟩) hgb).trans q1
      have q2 := (World.cell?_of_block (w := w1) (a := ⟨g, j * 2 + 1, none⟩) hgb).trans q2
      have hpl := unhide HLe pk[j] (List.getElem_mem hjp)
      have hst : Pace.bytes (pk.take (j + 1)) = Pace.bytes (pk.take j) + pk[j].2 := by
        rw [List.take_add_one, List.getElem?_eq_getElem hjp, Pace.bytes_append]; simp [Pace.bytes]
      have hle : Pace.bytes (pk.take (j + 1)) ≤ Pace.bytes pk := by
        have := Pace.bytes_drop pk (j + 1); omega
      have hcr := unhide HCR
      generalize pk[j] = p at q1 q2 hpl hst
      obtain ⟨pt, pl⟩ := p
      simp only at q1 q2 hpl hst
      have HST := hide hst; have HLE := hide hle
      have f3 := fr 3
      have d3 := old_cell hc3 (.cells #[.int .i64 pt, .int .i64 (pl : Int)] 102)
      have e3 : (wr.alloc (.cells #[.int .i64 pt, .int .i64 (pl : Int)] 102)).frozen? ⟨x, 3, none⟩ = false := (frozen_of (Below.heap_alloc _ _ _ hxr) 3).trans f3
      have n1 : (wr.alloc (.cells #[.int .i64 pt, .int .i64 (pl : Int)] 102)).cell? ⟨wr.heap.size, 1, none⟩ = some (.int .i64 (pl : Int)) := by rw [heap_cell (heap_alloc_new _ _)]; rfl
      obtain ⟨cv, hcv⟩ : ∃ cv, cr - Pace.bytes (pk.take j) * 1000000000 = cv := ⟨_, rfl⟩
      rw [hcv] at hc3 d3
      have HCV := hide hcv
      obtain ⟨hcv1, hcv3, hcv2⟩ := sub_step hcv hst hle hcr hcr2
      have HCV3 := hide hcv3
      clear hcv3
      clear hcv hst hle hcr
      go_wp2_with fail
      go_region
      all_goals
        go_wp2_with fail
        go_roundg (k - (j + 1))
        case measure => rw [unhide HGK]; omega
        case rel =>
          refine ⟨j + 1, by go_num, rfl, by omega, ?_, ?_⟩
          · repeat (first | exact unhide HC | refine GC.drew ?_ | refine GC.setCell ?_ (by rfl) _ | refine GC.alloc ?_ (by simpa using hxr) _)
          · rw [unhide HCV3]
            first
              | (simp [cset, ↓isSome_set, hc3]; omega)
              | (refine old_cell ?_ _; simp [cset, ↓isSome_set, hc3]; omega)
    · have hjk' : j = k := by omega
      subst hjk'
      have hfin : pk.take j = pk := List.take_of_length_le (by rw [unhide HPK]; exact Nat.le_refl _)
      rw [hfin] at hc3
      have HL1 := hide (unhide HL w1 wr.drew (unhide HW) (unhide HC).drew hc3)
      have hS0 : wr.cell? ⟨x, 0, none⟩ = some (.int .i64 num) ∧ wr.cell? ⟨x, 5, none⟩ = some (.slice (some ⟨g, 0, none⟩) n cap) ∧ wr.cell? ⟨x, 7, none⟩ = some (.int .i64 (j : Int)) := ⟨c0, c5, c7⟩
      have HC5 := hide c5; have HC6 := hide c6; have HFR := hide fr
      go_wp2_with fail
      go_region_held3 (fun W => W.cell? ⟨x, 0, none⟩ = some (.int .i64 num) ∧ W.cell? ⟨x, 5, none⟩ = some (.slice (some ⟨g, 0, none⟩) n cap) ∧ W.cell? ⟨x, 7, none⟩ = some (.int .i64 (j : Int))) (first | exact hS0 | exact hS1)
        (first | (go_at_call 88; refine (unhide HL1).mono ?_; rintro e w3 ⟨rfl, hw3, hh3⟩; have HW3 := hide hw3; have HH3 := hide hh3; have hS1 := (And.intro ((World.cell?_of_block (w := wr.drew) (a := ⟨x, 0, none⟩) hh3).trans hS0.1) (And.intro ((World.cell?_of_block (w := wr.drew) (a := ⟨x, 5, none⟩) hh3).trans hS0.2.1) ((World.cell?_of_block (w := wr.drew) (a := ⟨x, 7, none⟩) hh3).trans hS0.2.2))); clear hw3 hh3))
      all_goals
        have hf3 := fun o => ((frozen_of (unhide HH3) o).trans (unhide HFR o))
        have d6 := (World.cell?_of_block (w := wr.drew) (a := ⟨x, 6, none⟩) (unhide HH3)).trans (unhide HC6)
        have d5 := hS1.2.1
        have d7 := hS1.2.2
        have HD1 := hide (unhide HD w3 1 (unhide HW3))
        clear hS1
        go_wp2_with fail
        go_region_with (first | (go_at_call 96; refine (unhide HD1).mono ?_; rintro e w4 ⟨a4, c4, rfl, hw4, hh4⟩; have HW4 := hide hw4; have HH4 := hide hh4; have k5 := (World.cell?_of_block (w := w3) (a := ⟨x, 5, none⟩) hh4).trans d5; have k6 := (World.cell?_of_block (w := w3) (a := ⟨x, 6, none⟩) hh4).trans d6; have k7 := (World.cell?_of_block (w := w3) (a := ⟨x, 7, none⟩) hh4).trans d7; have z5 := (frozen_of hh4 5).trans (hf3 5); have z6 := (frozen_of hh4 6).trans (hf3 6); clear hw4 hh4))
        all_goals
          go_wp2_with fail
          go_region
          all_goals
            go_wp2_with fail
            go_end0
            refine ⟨rfl, _, w4, unhide HW4, ?_, ?_, ?_⟩
            · repeat (first | exact Ch.refl _ _ | refine Ch.drew ?_ | refine Ch.setCell ?_ ⟨rfl, by omega⟩ _)
            · simp [cset, ↓isSome_set, k5, k6]
            · simp [cset, ↓isSome_set, k5, k6]; omega
end Go.Proofs.YtogdekjklbbbiaaDoor
