import Derived.Test.YtogdekjklbbbiaaDoorRef2
set_option maxRecDepth 100000
namespace Go.Proofs.YtogdekjklbbbiaaDoor
open Go.ChangeShapes Go.WideShapes Go.ChangeAt Go.RowKit
set_option linter.unusedSimpArgs false
set_option linter.unusedVariables false

/-- The document's wheel in memory, by what waits. -/
structure RV (w : World) (b : Nat) (O : Nat → Prop) (now : Nat) (A : List (Nat × Nat)) (v : Value) : Prop where
  c0 : w.cell? ⟨b, 0, none⟩ = some (.int .i64 (now : Int))
  c1 : w.cell? ⟨b, 1, none⟩ = some v
  fz : ∀ o, w.frozen? ⟨b, o, none⟩ = false
  row : w.ownsRow 0 150 2 v A.length (flat A)
  og : ∀ g, v.ownBlock = some g → O g ∧ g ≠ b
  ob : O b
  olt : ∀ k, O k → k < w.heap.size
def RA (w : World) (b : Nat) (O : Nat → Prop) (now : Nat) (A : List (Nat × Nat)) : Prop := ∃ v, RV w b O now A v

theorem row_pr {w : World} {n0 : Nat} {v : Value} {A : List (Nat × Nat)} (h : w.ownsRow n0 150 2 v A.length (flat A)) : ∃ a cap, v = .slice a A.length cap ∧ PR w a A ∧ ∀ g, a = some ⟨g, 0, none⟩ → v.ownBlock = some g := by
  rcases h.2 with ⟨rfl, hn⟩ | ⟨g, cap, cur, rfl, h1, h2, h3, h4, h5, h6⟩
  · have hD : A = [] := List.eq_nil_of_length_eq_zero hn
    subst hD
    exact ⟨none, 0, rfl, fun i p hp => by simp at hp, fun g hg => by cases hg⟩
  · refine ⟨_, cap, rfl, fun i p hp => ⟨g, rfl, ?_, ?_⟩, fun g' hg => by cases hg; rfl⟩
    · have hi := (List.getElem?_eq_some_iff.1 hp).1
      rw [h.cellAt (i * 2) (by omega)]
      exact (flat_at A i p hp).1
    · have hi := (List.getElem?_eq_some_iff.1 hp).1
      rw [h.cellAt (i * 2 + 1) (by omega)]
      exact (flat_at A i p hp).2
theorem row_base {w : World} {n0 e sz n : Nat} {v : Value} {xs : List Value} (h : w.ownsRow n0 e sz v n xs) : w.ownsRow 0 e sz v n xs := ⟨h.1, h.2.imp (fun q => q) fun ⟨g, cap, cur, q1, q2, q3, q4⟩ => ⟨g, cap, cur, q1, Nat.zero_le _, q3, q4⟩⟩
theorem row_blk {w w' : World} {n0 e sz n : Nat} {v : Value} {xs : List Value} (h : w.ownsRow n0 e sz v n xs) (hk : ∀ g, v.ownBlock = some g → w'.heap[g]? = w.heap[g]?) : w'.ownsRow n0 e sz v n xs := by
  refine ⟨h.1, ?_⟩
  rcases h.2 with q | ⟨g, cap, cur, h1, h2, h3, h4⟩
  · exact .inl q
  · exact .inr ⟨g, cap, cur, h1, h2, by rw [hk g (by rw [h1]; rfl)]; exact h3, h4⟩
theorem RA.olt {w : World} {b : Nat} {O : Nat → Prop} {now : Nat} {A : List (Nat × Nat)} (h : RA w b O now A) {k : Nat} (hk : O k) : k < w.heap.size := by
  obtain ⟨v, h⟩ := h
  exact h.olt k hk
theorem RV.kept {w w' : World} {b : Nat} {O : Nat → Prop} {now : Nat} {A : List (Nat × Nat)} {v : Value} (h : RV w b O now A v) (hs : w.heap.size ≤ w'.heap.size) (hk : ∀ k, O k → w'.heap[k]? = w.heap[k]?) : RV w' b O now A v :=
  ⟨(World.cell?_of_block (a := ⟨b, 0, none⟩) (hk b h.ob)).trans h.c0, (World.cell?_of_block (a := ⟨b, 1, none⟩) (hk b h.ob)).trans h.c1, fun o => (World.frozen?_of_block (a := ⟨b, o, none⟩) (hk b h.ob)).trans (h.fz o), row_blk h.row fun g hg => hk g (h.og g hg).1, h.og, h.ob, fun k q => Nat.lt_of_lt_of_le (h.olt k q) hs⟩
theorem RA.kept {w w' : World} {b : Nat} {O O' : Nat → Prop} {now : Nat} {A : List (Nat × Nat)} (h : RA w b O now A) (hf : Fr w w' O') (hd : ∀ k, O k → ¬ O' k) : RA w' b O now A := by
  obtain ⟨v, h⟩ := h
  exact ⟨v, h.kept hf.size fun k hO => hf.blk k (h.olt k hO) (hd k hO)⟩
theorem RV.quiet {w w' : World} {b : Nat} {O : Nat → Prop} {now : Nat} {A : List (Nat × Nat)} {v : Value} (h : RV w b O now A v) (hc : Ch w w' (fun _ _ => False)) : RV w' b O now A v := h.kept (by rw [hc.size]; exact Nat.le_refl _) fun k _ => hc.blk k fun _ q => q

theorem ra_find {w : World} {b : Nat} {O : Nat → Prop} {now : Nat} {A : List (Nat × Nat)} (h : RA w b O now A) (hl : A.length < 8796093022208) (id : Int) :
    Calls Tryd.prog 64 #[.pointer (some ⟨b, 0, none⟩), .int .i64 id] w fun e w' => ∃ r, e = .returned (.int .i64 r) ∧ FindAt A id r ∧ w' = w := by
  obtain ⟨v, h⟩ := h
  obtain ⟨a, cap, rfl, hp, _⟩ := row_pr h.row
  exact find_walk b cap a A _ id w rfl (by omega) h.c1 hp
theorem ra_first {w : World} {b : Nat} {O : Nat → Prop} {now : Nat} {A : List (Nat × Nat)} (h : RA w b O now A) (hl : A.length < 8796093022208) :
    Calls Tryd.prog 67 #[.pointer (some ⟨b, 0, none⟩)] w fun e w' => ∃ r, e = .returned (.int .i64 r) ∧ FirstIx A A.length r ∧ Ch w w' (fun _ _ => False) ∧ RA w' b O now A := by
  obtain ⟨v, h⟩ := h
  obtain ⟨a, cap, hv, hp, _⟩ := row_pr h.row
  have hc1 := h.c1
  rw [hv] at hc1
  refine (first_walk b cap a A _ w rfl (by omega) hc1 hp).mono ?_
  rintro e w' ⟨r, rfl, hF, hC⟩
  exact ⟨r, rfl, hF, hC, v, h.quiet hC⟩
theorem ra_out {w : World} {b : Nat} {O : Nat → Prop} {now : Nat} {A : List (Nat × Nat)} (h : RA w b O now A) (hl : A.length < 8796093022208) (i : Nat) :
    Calls Tryd.prog 66 #[.pointer (some ⟨b, 0, none⟩), .int .i64 (i : Int)] w fun e w' => e = .returned (.tuple #[]) ∧ Fr w w' O ∧ ∃ O' : Nat → Prop, RA w' b O' now (A.eraseIdx i) ∧ ∀ k, O' k → O k ∨ w.heap.size ≤ k := by
  obtain ⟨v, h⟩ := h
  obtain ⟨a, cap, hv, hp, hg⟩ := row_pr h.row
  have hc1 := h.c1
  rw [hv] at hc1
  have hbs := h.olt b h.ob
  refine (out_walk b cap i _ a A w rfl hl hbs hc1 (h.fz 1) hp (fun g hga => h.olt g (h.og g (hg g hga)).1)).mono ?_
  rintro e w' ⟨rfl, v', wr, rfl, hB, hrow⟩
  have hcb : ∀ o, wr.cell? ⟨b, o, none⟩ = w.cell? ⟨b, o, none⟩ := fun o => hB.cell (p := ⟨b, o, none⟩) hbs
  have hsz : (wr.setCell ⟨b, 1, none⟩ v').heap.size = wr.heap.size := by
    have := (Ch.refl wr (fun a o => a = b ∧ o = 1)).setCell (b := b) (o := 1) ⟨rfl, rfl⟩ v'
    exact this.size
  have hch : Ch wr (wr.setCell ⟨b, 1, none⟩ v') (fun a o => a = b ∧ o = 1) := (Ch.refl wr _).setCell (b := b) (o := 1) ⟨rfl, rfl⟩ v'
  refine ⟨rfl, ⟨hch.os.trans hB.os, hch.tape.trans hB.tape, hch.output.trans hB.output, by rw [hsz]; exact hB.size, fun k hk hn => (hch.blk k fun o q => hn (by rw [q.1]; exact h.ob)).trans (hB.block k hk)⟩, (fun k => k = b ∨ v'.ownBlock = some k), ⟨v', ?_, ?_, ?_, ?_, ?_, .inl rfl, ?_⟩, ?_⟩
  · rw [hch.cell b 0 (by omega), hcb]; exact h.c0
  · rw [cset _ _ _ _ _ _ (by rw [hcb, h.c1]; rfl), if_pos ⟨rfl, rfl⟩]
  · intro o
    rw [hch.fz]
    exact (hB.frozen (p := ⟨b, o, none⟩) hbs).trans (h.fz o)
  · refine row_base (row_blk hrow fun g hg' => hch.blk g fun o q => ?_)
    have := (hrow.lt g hg').1
    omega
  · intro g hg'
    have := (hrow.lt g hg').1
    exact ⟨.inr hg', by omega⟩
  · intro k hk
    rw [hsz]
    rcases hk with rfl | q
    · exact Nat.lt_of_lt_of_le hbs hB.size
    · exact (hrow.lt k q).2
  · intro k hk
    rcases hk with rfl | q
    · exact .inl h.ob
    · exact .inr (hrow.lt k q).1

set_option maxHeartbeats 1000000 in
theorem insert13_bad (b : Nat) (id t : Int) (w : World) (h : id < 0 ∨ t < 0) :
    Calls Tryd.prog 32 #[.pointer (some ⟨b, 0, none⟩), .int .i64 id, .int .i64 t] w fun e w' => e = .returned (.int .i64 1) ∧ w' = w := by
  by_cases h1 : id < 0
  · go_enter Tryd.func32, Tryd.ntmps32
    go_wp2
    go_ret
    exact ⟨rfl, rfl⟩
  · have h1' : decide (id < 0) = false := decide_eq_false h1
    have h2 : t < 0 := by omega
    clear h
    go_enter Tryd.func32, Tryd.ntmps32
    go_wp2
    go_ret
    exact ⟨rfl, rfl⟩
set_option maxHeartbeats 1000000 in
theorem insert13_twice (b : Nat) (id t : Int) (w : World) (h1 : 0 ≤ id) (h2 : 0 ≤ t) (hf : Calls Tryd.prog 64 #[.pointer (some ⟨b, 0, none⟩), .int .i64 id] w fun e w' => ∃ k : Nat, e = .returned (.int .i64 (k : Int)) ∧ w' = w) :
    Calls Tryd.prog 32 #[.pointer (some ⟨b, 0, none⟩), .int .i64 id, .int .i64 t] w fun e w' => e = .returned (.int .i64 4) ∧ w' = w := by
  have h1' : decide (id < 0) = false := decide_eq_false (by omega)
  have h2' : decide (t < 0) = false := decide_eq_false (by omega)
  have HF := hide hf
  clear hf
  go_enter Tryd.func32, Tryd.ntmps32
  go_wp2_with fail
  refine (unhide HF).mono ?_
  rintro e w1 ⟨k, rfl, hw⟩
  have hk : (0 : Int) ≤ (k : Int) := by omega
  rw [hw]
  clear hw
  go_wp2_with fail
  go_ret
  exact ⟨rfl, rfl⟩
set_option maxHeartbeats 1000000 in
theorem insert13_new (b : Nat) (id t : Int) (w : World) (v : Value) (n : Nat) (xs : List Value) (h1 : 0 ≤ id) (h2 : 0 ≤ t) (hf : Calls Tryd.prog 64 #[.pointer (some ⟨b, 0, none⟩), .int .i64 id] w fun e w' => e = .returned (.int .i64 (-1)) ∧ w' = w)
    (hbs : b < w.heap.size) (hc : w.cell? ⟨b, 1, none⟩ = some v) (hfz : w.frozen? ⟨b, 1, none⟩ = false) (hrow : w.ownsRow 0 150 2 v n xs) (hvb : v.ownBlock ≠ some b) (hn : n < 8796093022208) :
    Calls Tryd.prog 32 #[.pointer (some ⟨b, 0, none⟩), .int .i64 id, .int .i64 t] w fun e w' => e = .returned (.int .i64 0) ∧ ∃ v' wr, w' = wr.setCell ⟨b, 1, none⟩ v' ∧ w.grownBy wr v.ownBlock ∧ wr.ownsRow 0 150 2 v' (n + 1) (xs ++ [.int .i64 id, .int .i64 t]) ∧ (v'.ownBlock = v.ownBlock ∨ ∃ g, v'.ownBlock = some g ∧ w.heap.size ≤ g) := by
  have h1' : decide (id < 0) = false := decide_eq_false (by omega)
  have h2' : decide (t < 0) = false := decide_eq_false (by omega)
  have HF := hide hf
  have HR := hide hrow
  have HV := hide hvb
  clear hf hrow hvb
  obtain ⟨i0, hj, hz0, hz1, hz2⟩ := info_parts info67
  go_enter Tryd.func32, Tryd.ntmps32
  go_wp2_with fail
  refine (unhide HF).mono ?_
  rintro e w1 ⟨rfl, hw⟩
  rw [hw]
  clear hw
  have hra : Hid ((w.alloc (.cells #[.int .i64 id, .int .i64 t] 150)).ownsRow 0 150 2 v n xs) := (unhide HR).alloc _
  go_wp2_with (first | (at_builtin; refine wpList_append_own_at _ rfl _ _ 26 rfl 0 150 i0 (.agg #[.int .i64 0, .int .i64 0]) 2 16 Tryd.underlying26 hj hz0 hz1 hz2 rfl (by decide) _ _ _ rfl (unhide hra) ⟨w.heap.size, 0, none⟩ 1 1 [.int .i64 id, .int .i64 t] rfl rfl (cell_two_new _ _ _ _) (by simp [Value.oneCell']) (by unfold maxLen; omega) (by omega) (Nat.zero_le _) ?_; intro v7 w7 hown7 hgrow7 _ hblk7; obtain ⟨sa, sn, sc, rfl⟩ : ∃ sa sn sc, v7 = .slice sa sn sc := (by (rcases hown7.2 with ⟨q, _⟩ | ⟨g, cp, cur, q, _⟩); exact ⟨_, _, _, q⟩; exact ⟨_, _, _, q⟩); have hc7 : w7.cell? ⟨b, 1, none⟩ = some v := hgrow7.cell ((World.grownBy_alloc w _ none).cell hc (by simp)) (fun q => unhide HV q.symm); have hf7 : w7.frozen? ⟨b, 1, none⟩ = false := (World.frozen?_of_block (a := ⟨b, 1, none⟩) ((hgrow7.block b (by simp; omega) (fun q => unhide HV q.symm)).trans (Below.heap_alloc w _ b hbs))).trans hfz; have HO7 := hide hown7; have HG7 := hide hgrow7; have HB7 := hide hblk7; clear hown7 hgrow7 hblk7))
  go_ret
  refine ⟨rfl, _, w7, rfl, ?_, unhide HO7, ?_⟩
  · exact ⟨(unhide HG7).os, (unhide HG7).tape, (unhide HG7).output, Nat.le_trans (by simp) (unhide HG7).size, fun k hk hne => ((unhide HG7).block k (by simp; omega) hne).trans (Below.heap_alloc w _ k hk)⟩
  · rcases unhide HB7 with q | q
    · exact .inl q
    · exact .inr ⟨_, q, by simp⟩

theorem findAt_has {A : List (Nat × Nat)} {id r : Int} (h : FindAt A id r) (hh : hasId A id) : ∃ (i : Nat) (p : Nat × Nat), r = (i : Int) ∧ A[i]? = some p ∧ (p.1 : Int) = id := by
  rcases h with ⟨_, q⟩ | q
  · obtain ⟨p, hp, he⟩ := hh
    exact (q p hp he).elim
  · exact q
theorem findAt_not {A : List (Nat × Nat)} {id r : Int} (h : FindAt A id r) (hh : ¬ hasId A id) : r = -1 := by
  rcases h with ⟨q, _⟩ | ⟨i, p, _, h1, h2⟩
  · exact q
  · exact (hh ⟨p, List.mem_of_getElem? h1, h2⟩).elim

theorem ra_insert {w : World} {b : Nat} {O : Nat → Prop} {now : Nat} {A : List (Nat × Nat)} (h : RA w b O now A) (hl : A.length < 8796093022208) (id t : Int) :
    Calls Tryd.prog 32 #[.pointer (some ⟨b, 0, none⟩), .int .i64 id, .int .i64 t] w fun e w' => e = .returned (.int .i64 (insE A id t)) ∧ Fr w w' O ∧ ∃ O' : Nat → Prop, RA w' b O' now (insA A id t) ∧ ∀ k, O' k → O k ∨ w.heap.size ≤ k := by
  by_cases hneg : id < 0 ∨ t < 0
  · refine (insert13_bad b id t w hneg).mono ?_
    rintro e w' ⟨rfl, rfl⟩
    exact ⟨by rw [insE, if_pos hneg], Fr.refl _ _, O, by rw [insA, if_pos hneg]; exact h, fun k q => .inl q⟩
  · by_cases hh : hasId A id
    · refine (insert13_twice b id t w (by omega) (by omega) ((ra_find h hl id).mono ?_)).mono ?_
      · rintro e w' ⟨r, rfl, hF, rfl⟩
        obtain ⟨i, p, rfl, _⟩ := findAt_has hF hh
        exact ⟨i, rfl, rfl⟩
      · rintro e w' ⟨rfl, rfl⟩
        exact ⟨by rw [insE, if_neg hneg, if_pos hh], Fr.refl _ _, O, by rw [insA, if_neg hneg, if_pos hh]; exact h, fun k q => .inl q⟩
    · have hfd := ra_find h hl id
      obtain ⟨v, hv⟩ := h
      have hbs := hv.olt b hv.ob
      refine (insert13_new b id t w v _ _ (by omega) (by omega) (hfd.mono ?_) hbs hv.c1 (hv.fz 1) hv.row (fun q => (hv.og b q).2 rfl) hl).mono ?_
      · rintro e w' ⟨r, rfl, hF, rfl⟩
        exact ⟨by rw [findAt_not hF hh], rfl⟩
      · rintro e w' ⟨rfl, v', wr, rfl, hg, hrow, hblk⟩
        have hch : Ch wr (wr.setCell ⟨b, 1, none⟩ v') (fun a o => a = b ∧ o = 1) := (Ch.refl wr _).setCell (b := b) (o := 1) ⟨rfl, rfl⟩ v'
        have hbk : wr.heap[b]? = w.heap[b]? := hg.block b hbs (fun q => (hv.og b q.symm).2 rfl)
        have hcb : ∀ o, wr.cell? ⟨b, o, none⟩ = w.cell? ⟨b, o, none⟩ := fun o => World.cell?_of_block (a := ⟨b, o, none⟩) hbk
        have hvb : ∀ g, v'.ownBlock = some g → (O g ∨ w.heap.size ≤ g) ∧ g ≠ b := by
          intro g hg'
          rcases hblk with q | ⟨g', q, q'⟩
          · rw [q] at hg'; exact ⟨.inl (hv.og g hg').1, (hv.og g hg').2⟩
          · rw [q] at hg'
            cases hg'
            exact ⟨.inr q', by omega⟩
        refine ⟨by rw [insE, if_neg hneg, if_neg hh], ⟨hch.os.trans hg.os, hch.tape.trans hg.tape, hch.output.trans hg.output, by rw [hch.size]; exact hg.size, fun k hk hn => (hch.blk k fun o q => hn (by rw [q.1]; exact hv.ob)).trans (hg.block k hk fun q => hn (hv.og k q.symm).1)⟩, (fun k => k = b ∨ v'.ownBlock = some k), ⟨v', ?_, ?_, ?_, ?_, ?_, .inl rfl, ?_⟩, ?_⟩
        · rw [hch.cell b 0 (by omega), hcb]; exact hv.c0
        · rw [cset _ _ _ _ _ _ (by rw [hcb, hv.c1]; rfl), if_pos ⟨rfl, rfl⟩]
        · intro o
          rw [hch.fz, World.frozen?_of_block (a := ⟨b, o, none⟩) hbk]
          exact hv.fz o
        · refine row_blk ?_ fun g hg' => hch.blk g fun o q => (hvb g hg').2 q.1
          rw [insA, if_neg hneg, if_neg hh, flat_append, List.length_append]
          obtain ⟨idn, rfl⟩ := Int.eq_ofNat_of_zero_le (show 0 ≤ id by omega)
          obtain ⟨tn, rfl⟩ := Int.eq_ofNat_of_zero_le (show 0 ≤ t by omega)
          exact hrow
        · intro g hg'
          exact ⟨.inr hg', (hvb g hg').2⟩
        · intro k hk
          rw [hch.size]
          rcases hk with rfl | q
          · exact Nat.lt_of_lt_of_le hbs hg.size
          · exact (hrow.lt k q).2
        · intro k hk
          rcases hk with rfl | q
          · exact .inl hv.ob
          · exact (hvb k q).1

set_option maxHeartbeats 1000000 in
theorem cancel15_none (b : Nat) (id : Int) (w : World) (hf : Calls Tryd.prog 64 #[.pointer (some ⟨b, 0, none⟩), .int .i64 id] w fun e w' => e = .returned (.int .i64 (-1)) ∧ w' = w) :
    Calls Tryd.prog 34 #[.pointer (some ⟨b, 0, none⟩), .int .i64 id] w fun e w' => e = .returned (.int .i64 5) ∧ w' = w := by
  have HF := hide hf
  clear hf
  go_enter Tryd.func34, Tryd.ntmps34
  go_wp2_with fail
  refine (unhide HF).mono ?_
  rintro e w1 ⟨rfl, hw⟩
  rw [hw]
  clear hw
  go_wp2_with fail
  go_ret
  exact ⟨rfl, rfl⟩
set_option maxHeartbeats 1000000 in
theorem cancel15_some (b : Nat) (id : Int) (w : World) (I : Nat → Prop) (Post : World → Prop) (hf : Calls Tryd.prog 64 #[.pointer (some ⟨b, 0, none⟩), .int .i64 id] w fun e w' => ∃ k : Nat, e = .returned (.int .i64 (k : Int)) ∧ I k ∧ w' = w)
    (ho : ∀ k, I k → Calls Tryd.prog 66 #[.pointer (some ⟨b, 0, none⟩), .int .i64 (k : Int)] w fun e w' => e = .returned (.tuple #[]) ∧ Post w') :
    Calls Tryd.prog 34 #[.pointer (some ⟨b, 0, none⟩), .int .i64 id] w fun e w' => e = .returned (.int .i64 0) ∧ Post w' := by
  have HF := hide hf; have HO := hide ho
  clear hf ho
  go_enter Tryd.func34, Tryd.ntmps34
  go_wp2_with fail
  refine (unhide HF).mono ?_
  rintro e w1 ⟨k, rfl, hI, hw⟩
  rw [hw]
  have HI := hide hI
  have hk : ¬ (k : Int) < 0 := by omega
  clear hw hI
  go_wp2_with fail
  refine (unhide HO k (unhide HI)).mono ?_
  rintro e w2 ⟨rfl, hp⟩
  have HP := hide hp
  clear hp
  go_wp2_with fail
  go_ret
  exact ⟨rfl, unhide HP⟩

theorem erase_filter {A : List (Nat × Nat)} (hnd : (A.map Prod.fst).Nodup) {i : Nat} {p : Nat × Nat} (h : A[i]? = some p) : A.eraseIdx i = canA A (p.1 : Int) := by
  unfold canA
  induction A generalizing i with
  | nil => simp at h
  | cons q r ih =>
    rw [List.map_cons, List.nodup_cons] at hnd
    cases i with
    | zero =>
      simp at h
      subst h
      rw [List.filter_cons, if_neg (by simp)]
      rw [List.eraseIdx_cons_zero]
      symm
      apply List.filter_eq_self.2
      intro z hz
      simp
      intro e
      exact hnd.1 (List.mem_map.2 ⟨z, hz, by omega⟩)
    | succ i =>
      have h' : r[i]? = some p := by simpa using h
      have hne : (q.1 : Int) ≠ (p.1 : Int) := fun e => hnd.1 (List.mem_map.2 ⟨p, List.mem_of_getElem? h', by omega⟩)
      rw [List.filter_cons, if_pos (by simpa using hne), List.eraseIdx_cons_succ, ih hnd.2 h']
theorem ra_cancel {w : World} {b : Nat} {O : Nat → Prop} {now : Nat} {A : List (Nat × Nat)} (h : RA w b O now A) (hl : A.length < 8796093022208) (hnd : (A.map Prod.fst).Nodup) (id : Int) :
    Calls Tryd.prog 34 #[.pointer (some ⟨b, 0, none⟩), .int .i64 id] w fun e w' => e = .returned (.int .i64 (canE A id)) ∧ Fr w w' O ∧ ∃ O' : Nat → Prop, RA w' b O' now (canA A id) ∧ ∀ k, O' k → O k ∨ w.heap.size ≤ k := by
  by_cases hh : hasId A id
  · refine (cancel15_some b id w (fun k => A.eraseIdx k = canA A id) (fun w' => Fr w w' O ∧ ∃ O' : Nat → Prop, RA w' b O' now (canA A id) ∧ ∀ k, O' k → O k ∨ w.heap.size ≤ k) ((ra_find h hl id).mono ?_) fun k hk => (ra_out h hl k).mono ?_).mono ?_
    · rintro e w' ⟨r, rfl, hF, rfl⟩
      obtain ⟨i, p, rfl, h1, h2⟩ := findAt_has hF hh
      exact ⟨i, rfl, by rw [← h2]; exact erase_filter hnd h1, rfl⟩
    · rintro e w' ⟨rfl, h1, h2⟩
      rw [hk] at h2
      exact ⟨rfl, h1, h2⟩
    · rintro e w' ⟨rfl, h1⟩
      exact ⟨by rw [canE, if_pos hh], h1⟩
  · refine (cancel15_none b id w ((ra_find h hl id).mono ?_)).mono ?_
    · rintro e w' ⟨r, rfl, hF, rfl⟩
      exact ⟨by rw [findAt_not hF hh], rfl⟩
    · rintro e w' ⟨rfl, rfl⟩
      refine ⟨by rw [canE, if_neg hh], Fr.refl _ _, O, ?_, fun k q => .inl q⟩
      have : canA A id = A := by
        unfold canA
        apply List.filter_eq_self.2
        intro p hp
        simp
        exact fun e => hh ⟨p, hp, e⟩
      rw [this]; exact h
end Go.Proofs.YtogdekjklbbbiaaDoor
