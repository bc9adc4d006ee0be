import Derived.Test.YtogdekjklbbbiaaDoorInts
import Derived.Test.YtogdekjklbbbiaaDoorTake
import Derived.Deep.LoopGhost
import Derived.Maps.AppendAt
set_option maxRecDepth 100000
namespace Go.Proofs.YtogdekjklbbbiaaDoor
open Go.ChangeShapes Go.WideShapes Go.ChangeAt Go.RowKit
set_option linter.unusedSimpArgs false
set_option linter.unusedVariables false

def At (w : World) (a : Option Addr) (k : Nat) (x : Int) : Prop := ∀ g o, a = some ⟨g, o, none⟩ → w.cell? ⟨g, o + k, none⟩ = some (.int .i64 x)

set_option maxRecDepth 100000 in
set_option maxHeartbeats 4000000 in
theorem steps_walk (ia aa ta : Option Addr) (n1 n2 n3 c1 c2 c3 : Nat) (w : World) (hb1 : n1 < 17592186044416) (hb2 : n2 < 17592186044416) (hb3 : n3 < 17592186044416) (hia : 0 < n1 → ∃ g o, ia = some ⟨g, o, none⟩) (haa : 0 < n2 → ∃ g o, aa = some ⟨g, o, none⟩) (hta : 0 < n3 → ∃ g o, ta = some ⟨g, o, none⟩)
    (R0 : Nat → World → Prop) (R1 : Nat → Nat → Nat → Nat → World → Prop) (R1b : Nat → Nat → Nat → Nat → Int → Int → Int → World → Prop) (Post : World → Prop)
    (hN1 : Calls Tryd.prog 9 #[] w fun e w' => ∃ b, e = .returned (.pointer (some ⟨b, 0, none⟩)) ∧ R0 b w')
    (hN2 : ∀ b wr, R0 b wr → Calls Tryd.prog 9 #[] wr fun e w' => ∃ b', e = .returned (.pointer (some ⟨b', 0, none⟩)) ∧ R1 b b' 0 0 w')
    (hI1 : ∀ b b' k n wr, R1 b b' k n wr → k < n1 → k < n2 → ∃ id t, At wr ia k id ∧ At wr aa k t ∧ Calls Tryd.prog 11 #[.pointer (some ⟨b, 0, none⟩), .int .i64 id, .int .i64 t] wr.drew fun e w' => ∃ er, e = .returned (.int .i64 er) ∧ At w' ia k id ∧ At w' aa k t ∧ R1b b b' k n id t er w')
    (hI2 : ∀ b b' k n id t er wr, R1b b b' k n id t er wr → Calls Tryd.prog 11 #[.pointer (some ⟨b', 0, none⟩), .int .i64 id, .int .i64 t] wr.drew fun e w' => e = .returned (.int .i64 er) ∧ At w' ia k id ∧ At w' aa k t ∧ (er = 0 → 0 ≤ id ∧ 0 ≤ t) ∧ R1 b b' (k + 1) (if er = 0 then n + 1 else n) w')
    (R2 : Nat → Nat → Nat → Nat → Nat → Int → List Int → World → Prop) (R3 : Nat → Nat → Nat → Nat → Int → List Int → List Int → World → Prop) (R4 : Nat → Nat → Nat → Nat → Int → List Int → List Int → List Int → World → Prop)
    (h2 : ∀ b b' k n wr, R1 b b' k n wr → (k = n1 ∨ k = n2) → (Calls Tryd.prog 13 #[.pointer (some ⟨b, 0, none⟩)] wr fun e w' => e = .returned (.int .i64 (n : Int)) ∧ w' = wr) ∧ R2 b b' wr.heap.size n 0 0 [] wr)
    (h2s : ∀ b b' B n k most l wr, R2 b b' B n k most l wr → B ≤ wr.heap.size ∧ l.length ≤ n)
    (h2G : ∀ b b' B n k most l wr w' row, R2 b b' B n k most l wr → wr.grownBy w' row → (∀ j, row = some j → B ≤ j) → R2 b b' B n k most l w')
    (h2A : ∀ b b' B n k most l wr, R2 b b' B n k most l wr → k < n3 → ∃ t, At wr ta k t ∧ Calls Tryd.prog 14 #[.pointer (some ⟨b, 0, none⟩), .int .i64 t] wr fun e w' => ∃ v xs, e = .returned v ∧
      w'.ownsRow wr.heap.size 3 1 v xs.length (xs.map fun x => Value.int .i64 x) ∧ (∀ j, B ≤ j → j < wr.heap.size → w'.heap[j]? = wr.heap[j]?) ∧ R2 b b' B n (k + 1) (if t > most then t else most) (l ++ xs) w')
    (h3 : ∀ b b' B n most l wr, R2 b b' B n n3 most l wr → Calls Tryd.prog 14 #[.pointer (some ⟨b', 0, none⟩), .int .i64 most] wr fun e w' => ∃ v ms, e = .returned v ∧
      w'.ownsRow wr.heap.size 3 1 v ms.length (ms.map fun x => Value.int .i64 x) ∧ (∀ j, B ≤ j → j < wr.heap.size → w'.heap[j]? = wr.heap[j]?) ∧ R3 b b' B n most l ms w')
    (h4 : ∀ b b' B n most l ms wr, R3 b b' B n most l ms wr → Calls Tryd.prog 14 #[.pointer (some ⟨b, 0, none⟩), .int .i64 0] wr fun e w' => ∃ v xs, e = .returned v ∧
      w'.ownsRow wr.heap.size 3 1 v xs.length (xs.map fun x => Value.int .i64 x) ∧ (∀ j, B ≤ j → j < wr.heap.size → w'.heap[j]? = wr.heap[j]?) ∧ R4 b b' B n most l ms xs w')
    (h5 : ∀ b b' B n most l ms xs wr, R4 b b' B n most l ms xs wr → B ≤ wr.heap.size ∧ l.length ≤ n ∧ l.length + xs.length ≤ n ∧ (l = ms ∨ (l.length ≠ ms.length ∧ n3 = 0)))
    (h5s : ∀ b b' B n most l ms xs wr w', R4 b b' B n most l ms xs wr → Below wr.heap.size wr w' → R4 b b' B n most l ms xs w')
    (h6 : ∀ b b' B n most l ms xs wr, R4 b b' B n most l ms xs wr → ∃ next : Int, (Calls Tryd.prog 13 #[.pointer (some ⟨b, 0, none⟩)] wr fun e w' => e = .returned (.int .i64 ((n : Int) - (l.length : Int) - (xs.length : Int))) ∧ w' = wr) ∧
      (Calls Tryd.prog 16 #[.pointer (some ⟨b, 0, none⟩)] wr fun e w' => e = .returned (.int .i64 next) ∧ Post w') ∧ ((n : Int) - (l.length : Int) - (xs.length : Int) = 0 → next = -1) ∧ ((n : Int) - (l.length : Int) - (xs.length : Int) ≠ 0 → most < next)) :
    Calls Tryd.prog 4 #[.slice ia n1 c1, .slice aa n2 c2, .slice ta n3 c3] w fun e w' => e = .returned (.bool true) ∧ Post w' := by
  have HN1 := hide hN1; have HN2 := hide hN2; have HI1 := hide hI1; have HI2 := hide hI2; have HIA := hide hia; have HAA := hide haa; have HTA := hide hta
  have H2 := hide h2; have H2s := hide h2s; have H2G := hide h2G; have H2A := hide h2A; have H3 := hide h3; have H4 := hide h4; have H5 := hide h5; have H5s := hide h5s; have H6 := hide h6
  clear h2 h2s h2G h2A h3 h4 h5 h5s h6
  obtain ⟨i1, hj', hy0, hy1, hy2⟩ := info_parts info3
  clear hN1 hN2 hI1 hI2 hia haa hta
  go_enter Tryd.func4, Tryd.ntmps4
  go_wp2_with fail
  refine (unhide HN1).mono ?_
  rintro e w1 ⟨b, rfl, hR0⟩
  have HR0 := hide hR0
  clear hR0
  go_wp2_with fail
  refine (unhide HN2 _ _ (unhide HR0)).mono ?_
  rintro e w2 ⟨b', rfl, hR1⟩
  have HR1 := hide hR1
  clear hR1 HR0
  go_wp2_with fail
  go_slots
  go_loopg [9, 10] n1 (fun gk v i wr => ∃ k n : Nat, v = .int .i64 (n : Int) ∧ i = .int .i64 (k : Int) ∧ gk = n1 - k ∧ n ≤ k ∧ k ≤ n1 ∧ k ≤ n2 ∧ R1 b b' k n wr)
  case atStart => exact ⟨0, 0, rfl, rfl, rfl, Nat.le_refl _, Nat.zero_le _, Nat.zero_le _, unhide HR1⟩
  case round =>
    obtain ⟨k, n, hu, hu', hgk, hnk, hkn, hkn2, hR⟩ := hrel
    rw [hu, hu']
    clear hu hu' HR1
    have HR := hide hR; have HG := hide hgk
    clear hR hgk
    by_cases hk1 : k < n1
    · have hk1i : (k : Int) < (n1 : Int) := by omega
      by_cases hk2 : k < n2
      · have hk2i : (k : Int) < (n2 : Int) := by omega
        obtain ⟨id, t, hc1, hc2, hcall⟩ := unhide HI1 _ _ _ _ _ (unhide HR) hk1 hk2
        obtain ⟨g, o, hia⟩ := unhide HIA (by omega)
        obtain ⟨g', o', haa⟩ := unhide HAA (by omega)
        have HC := hide hcall
        clear hcall
        subst hia haa
        have hc1 := hc1 g o rfl
        have hc2 := hc2 g' o' rfl
        go_wp2_with fail
        go_region_with (go_at_call 11; refine (unhide HC).mono ?_; rintro e w3 ⟨er, rfl, hc3, hc4, hRb⟩; have HRb := hide hRb; have HC2 := hide (unhide HI2 _ _ _ _ _ _ _ _ hRb); clear hRb; have hc3 := hc3 g o rfl; have hc4 := hc4 g' o' rfl)
        all_goals
          clear hc1 hc2
          go_wp2_with fail
          go_region_with (go_at_call 11; refine (unhide HC2).mono ?_; rintro e w4 ⟨rfl, hc5, hc6, her, hR5⟩; have HR5 := hide hR5; have HER := hide her; clear hR5 her; have hc5 := hc5 g o rfl; have hc6 := hc6 g' o' rfl)
        all_goals
          clear hc3 hc4
          have hee : (er != er) = false := by simp
          by_cases h0 : er = 0
          · subst h0
            obtain ⟨p1, p2⟩ := unhide HER rfl
            have p1' : decide (id < 0) = false := decide_eq_false (by omega)
            have p2' : decide (t < 0) = false := decide_eq_false (by omega)
            go_wp2_with (first | (go_at_call 12; refine (num_any _ _).mono ?_; rintro e w8 ⟨rfl, rfl⟩))
            go_roundg (n1 - (k + 1))
            case measure => rw [unhide HG]; omega
            case rel => exact ⟨k + 1, n + 1, by simp, by simp, rfl, by omega, by omega, by omega, by have := unhide HR5; simpa using this⟩
          · have h0' : (er == 0) = false := by rw [beq_eq_false_iff_ne]; exact h0
            go_wp2_with (first | (go_at_call 12; refine (num_any _ _).mono ?_; rintro e w8 ⟨rfl, rfl⟩))
            go_roundg (n1 - (k + 1))
            case measure => rw [unhide HG]; omega
            case rel => exact ⟨k + 1, n, rfl, by simp, rfl, by omega, by omega, by omega, by have := unhide HR5; simpa [h0] using this⟩
      · have hk2i : decide ((k : Int) < (n2 : Int)) = false := decide_eq_false (by omega)
        obtain ⟨hlen, hR2⟩ := unhide H2 _ _ _ _ _ (unhide HR) (.inr (by omega))
        obtain ⟨B, hB⟩ : ∃ B, wr.heap.size = B := ⟨_, rfl⟩
        rw [hB] at hR2
        have HLen := hide hlen; have HR2 := hide hR2
        have hn10 : n < 17592186044416 := by omega
        clear hlen hR2 HG HR hkn hkn2 hB
        go_wp2_with fail
        refine (unhide HLen).mono ?_
        rintro e w3 ⟨rfl, hw3⟩
        rw [hw3]
        clear hw3 w3
        have hnn : ((n : Int) != (n : Int)) = false := by simp
        go_wp2_with fail
        go_slots
        go_loopg [14, 15, 16] n3 (fun gk vm vl vi W => ∃ (k : Nat) (most : Int) (l : List Int), vm = .int .i64 most ∧ vi = .int .i64 (k : Int) ∧ gk = n3 - k ∧ k ≤ n3 ∧ W.ownsRow B 3 1 vl l.length (l.map fun x => Value.int .i64 x) ∧ R2 b b' B n k most l W)
        case atStart => exact ⟨0, 0, [], rfl, rfl, rfl, Nat.zero_le _, World.ownsRow_nil _ _ _ _, unhide HR2⟩
        case round =>
          obtain ⟨k2, most, l, hu, hu', hgk, hkn, hown, hR⟩ := hrel
          rw [hu, hu']
          clear hu hu' HR2
          have HR := hide hR; have HG := hide hgk; have HO := hide hown
          have hll := (unhide H2s _ _ _ _ _ _ _ _ hR).2
          clear hR hgk hown
          by_cases hk3 : k2 < n3
          · have hk3i : (k2 : Int) < (n3 : Int) := by omega
            have hk30 : (0 : Int) ≤ (k2 : Int) := by omega
            obtain ⟨t, hct, hadv⟩ := unhide H2A _ _ _ _ _ _ _ _ (unhide HR) hk3
            obtain ⟨g, o, hta⟩ := unhide HTA (by omega)
            subst hta
            have hct := hct g o rfl
            have HAdv := hide hadv
            clear hadv
            obtain ⟨most', hmo⟩ : ∃ m, (if t > most then t else most) = m := ⟨_, rfl⟩
            have HMo := hide hmo
            clear hmo
            by_cases hm : most < t
            · have HVM : Hid (t = most') := by rw [← unhide HMo, if_pos hm]; rfl
              go_wp2_with fail
              refine (unhide HAdv).mono ?_
              rintro e w5 ⟨v5, xs, rfl, hown5, hkeep5, hR5⟩
              rw [unhide HMo] at hR5
              have hrl : w5.ownsRow B 3 1 u15 l.length (l.map fun x => Value.int .i64 x) := row_kept (unhide HO) fun j hj hlt => hkeep5 j hj hlt
              have hsep : Hid (∀ gl, u15.ownBlock = some gl → gl < wr.heap.size) := fun gl hgl => ((unhide HO).lt gl hgl).2
              obtain ⟨xa, xcap, hv5, hx5, hg5⟩ : ∃ xa xcap, v5 = .slice xa xs.length xcap ∧ Hid (∀ i x, xs[i]? = some x → ∃ g, xa = some ⟨g, 0, none⟩ ∧ g < w5.heap.size ∧ w5.cell? ⟨g, i, none⟩ = some (.int .i64 x)) ∧ Hid (∀ g, xa = some ⟨g, 0, none⟩ → wr.heap.size ≤ g ∧ g < w5.heap.size) := by
                rcases hown5.2 with ⟨rfl, hn⟩ | ⟨g, cap, cur, rfl, q1, q2, q3, q4, q5, q6⟩
                · have hD : xs = [] := List.eq_nil_of_length_eq_zero hn
                  subst hD
                  exact ⟨none, 0, rfl, fun i x hx => by simp at hx, fun g hg => by cases hg⟩
                · refine ⟨_, cap, rfl, fun i x hx => ⟨g, rfl, (Array.getElem?_eq_some_iff.1 q2).1, ?_⟩, fun g' hg' => by cases hg'; exact ⟨q1, (Array.getElem?_eq_some_iff.1 q2).1⟩⟩
                  have hi := (List.getElem?_eq_some_iff.1 hx).1
                  rw [hown5.cellAt i (by omega)]
                  simp [hx]
              have HR5 := hide hR5; have HRL := hide hrl
              have hlx := (unhide H2s _ _ _ _ _ _ _ _ hR5).2
              have hB5 := (unhide H2s _ _ _ _ _ _ _ _ hR5).1
              rw [List.length_append] at hlx
              have HB5 := hide hB5
              clear hown5 hkeep5 hR5 hrl HO HR HAdv hct hB5
              rw [hv5]
              clear hv5 v5
              go_wp2_with fail
              go_loopg [15, 18] xs.length (fun gk vl vi W => ∃ j : Nat, vi = .int .i64 (j : Int) ∧ gk = xs.length - j ∧ j ≤ xs.length ∧ B ≤ W.heap.size ∧ W.ownsRow B 3 1 vl (l.length + j) ((l ++ xs.take j).map fun x => Value.int .i64 x) ∧ R2 b b' B n (k2 + 1) most' (l ++ xs) W ∧
                (∀ i x, xs[i]? = some x → ∃ g, xa = some ⟨g, 0, none⟩ ∧ g < W.heap.size ∧ W.cell? ⟨g, i, none⟩ = some (.int .i64 x)) ∧ (∀ g, xa = some ⟨g, 0, none⟩ → g < W.heap.size ∧ ∀ gl, vl.ownBlock = some gl → g ≠ gl))
              case atStart =>
                refine ⟨0, rfl, rfl, Nat.zero_le _, unhide HB5, by simpa using unhide HRL, unhide HR5, unhide hx5, fun g hg => ⟨(unhide hg5 g hg).2, fun gl hgl => ?_⟩⟩
                have q1 := (unhide hg5 g hg).1
                have q2 := unhide hsep gl hgl
                omega
              case round =>
                obtain ⟨j, hu, hgk, hjl, hBW, hrow, hRW, hxW, hsW⟩ := hrel
                rw [hu]
                clear hu HR5 HRL hx5 hg5 hsep HB5
                have HG6 := hide hgk; have HRow := hide hrow; have HRW := hide hRW; have HXW := hide hxW; have HSW := hide hsW; have HBW := hide hBW
                clear hgk hrow hRW hBW
                by_cases hj : j < xs.length
                · have hji : (j : Int) < (xs.length : Int) := by omega
                  have hj0 : (0 : Int) ≤ (j : Int) := by omega
                  obtain ⟨gx, hxa, hgx, hcx⟩ := hxW j xs[j] (List.getElem?_eq_getElem hj)
                  generalize hxe : xs[j] = x at hcx
                  have hxj : Hid (xs[j]? = some x) := by rw [← hxe]; exact List.getElem?_eq_getElem hj
                  clear hxW hsW hxe
                  subst hxa
                  rename_i W _ _
                  have hrowa : Hid ((wr.alloc (.cells #[.int .i64 x] 3)).ownsRow B 3 1 u15 (l.length + j) ((l ++ xs.take j).map fun x => Value.int .i64 x)) := (unhide HRow).alloc _
                  have hba : Hid (B ≤ (wr.alloc (.cells #[.int .i64 x] 3)).heap.size) := by have := unhide HBW; simp [Hid]; omega
                  go_wp2_with (first | (at_builtin; refine wpList_append_own_at _ rfl _ _ 33 rfl B 3 i1 (.int .i64 0) 1 8 Tryd.underlying33 hj' hy0 hy1 hy2 rfl (by decide) _ _ _ rfl (unhide hrowa) ⟨wr.heap.size, 0, none⟩ 1 1 [.int .i64 x] rfl rfl (cell_one_new _ _ _) (by simp [Value.oneCell']) (by unfold maxLen; omega) (by omega) (unhide hba) ?_; intro v7 w7 hown7 hgrow7 _ hblk7))
                  go_roundg (xs.length - (j + 1))
                  case measure => rw [unhide HG6]; omega
                  case rel =>
                    refine ⟨j + 1, by simp, rfl, by omega, Nat.le_trans (unhide hba) hgrow7.size, ?_, ?_, ?_, ?_⟩
                    · rw [List.take_add_one, unhide hxj, ← List.append_assoc, List.map_append (l₁ := l ++ xs.take j)]
                      exact hown7
                    · exact unhide H2G _ _ _ _ _ _ _ _ _ _ (unhide H2G _ _ _ _ _ _ _ _ _ none (unhide HRW) (World.grownBy_alloc wr _ none) (fun j q => by cases q)) hgrow7 (fun j q => ((unhide hrowa).lt j q).1)
                    · intro i y hy
                      obtain ⟨g9, r1, r2, r3⟩ := unhide HXW i y hy
                      refine ⟨g9, r1, Nat.lt_of_lt_of_le r2 (Nat.le_trans (by simp) hgrow7.size), hgrow7.cell ((World.grownBy_alloc wr _ none).cell r3 (by simp)) ?_⟩
                      intro q
                      exact (unhide HSW g9 r1).2 g9 q.symm rfl
                    · intro g9 hg9
                      obtain ⟨r1, r2⟩ := unhide HSW g9 hg9
                      refine ⟨Nat.lt_of_lt_of_le r1 (Nat.le_trans (by simp) hgrow7.size), fun gl hgl => ?_⟩
                      rcases hblk7 with q | q
                      · rw [q] at hgl; exact r2 gl hgl
                      · rw [q] at hgl
                        simp at hgl
                        omega
                · have hji : ¬ (j : Int) < (xs.length : Int) := by omega
                  have hjx : j = xs.length := by omega
                  have HJX := hide hjx
                  clear hjx hj hxW hsW HXW HSW
                  go_wp2_with fail
                  go_roundg (n3 - (k2 + 1))
                  case measure => rw [unhide HG]; omega
                  case rel =>
                    refine ⟨k2 + 1, most', l ++ xs, by rw [unhide HVM], by simp, rfl, by omega, ?_, unhide HRW⟩
                    have := unhide HRow
                    rw [unhide HJX, List.take_length] at this
                    rw [List.length_append]
                    exact this
            · have hm' : decide (most < t) = false := decide_eq_false hm
              have HVM : Hid (most = most') := by rw [← unhide HMo, if_neg hm]; rfl
              go_wp2_with fail
              refine (unhide HAdv).mono ?_
              rintro e w5 ⟨v5, xs, rfl, hown5, hkeep5, hR5⟩
              rw [unhide HMo] at hR5
              have hrl : w5.ownsRow B 3 1 u15 l.length (l.map fun x => Value.int .i64 x) := row_kept (unhide HO) fun j hj hlt => hkeep5 j hj hlt
              have hsep : Hid (∀ gl, u15.ownBlock = some gl → gl < wr.heap.size) := fun gl hgl => ((unhide HO).lt gl hgl).2
              obtain ⟨xa, xcap, hv5, hx5, hg5⟩ : ∃ xa xcap, v5 = .slice xa xs.length xcap ∧ Hid (∀ i x, xs[i]? = some x → ∃ g, xa = some ⟨g, 0, none⟩ ∧ g < w5.heap.size ∧ w5.cell? ⟨g, i, none⟩ = some (.int .i64 x)) ∧ Hid (∀ g, xa = some ⟨g, 0, none⟩ → wr.heap.size ≤ g ∧ g < w5.heap.size) := by
                rcases hown5.2 with ⟨rfl, hn⟩ | ⟨g, cap, cur, rfl, q1, q2, q3, q4, q5, q6⟩
                · have hD : xs = [] := List.eq_nil_of_length_eq_zero hn
                  subst hD
                  exact ⟨none, 0, rfl, fun i x hx => by simp at hx, fun g hg => by cases hg⟩
                · refine ⟨_, cap, rfl, fun i x hx => ⟨g, rfl, (Array.getElem?_eq_some_iff.1 q2).1, ?_⟩, fun g' hg' => by cases hg'; exact ⟨q1, (Array.getElem?_eq_some_iff.1 q2).1⟩⟩
                  have hi := (List.getElem?_eq_some_iff.1 hx).1
                  rw [hown5.cellAt i (by omega)]
                  simp [hx]
              have HR5 := hide hR5; have HRL := hide hrl
              have hlx := (unhide H2s _ _ _ _ _ _ _ _ hR5).2
              have hB5 := (unhide H2s _ _ _ _ _ _ _ _ hR5).1
              rw [List.length_append] at hlx
              have HB5 := hide hB5
              clear hown5 hkeep5 hR5 hrl HO HR HAdv hct hB5
              rw [hv5]
              clear hv5 v5
              go_wp2_with fail
              go_loopg [15, 18] xs.length (fun gk vl vi W => ∃ j : Nat, vi = .int .i64 (j : Int) ∧ gk = xs.length - j ∧ j ≤ xs.length ∧ B ≤ W.heap.size ∧ W.ownsRow B 3 1 vl (l.length + j) ((l ++ xs.take j).map fun x => Value.int .i64 x) ∧ R2 b b' B n (k2 + 1) most' (l ++ xs) W ∧
                (∀ i x, xs[i]? = some x → ∃ g, xa = some ⟨g, 0, none⟩ ∧ g < W.heap.size ∧ W.cell? ⟨g, i, none⟩ = some (.int .i64 x)) ∧ (∀ g, xa = some ⟨g, 0, none⟩ → g < W.heap.size ∧ ∀ gl, vl.ownBlock = some gl → g ≠ gl))
              case atStart =>
                refine ⟨0, rfl, rfl, Nat.zero_le _, unhide HB5, by simpa using unhide HRL, unhide HR5, unhide hx5, fun g hg => ⟨(unhide hg5 g hg).2, fun gl hgl => ?_⟩⟩
                have q1 := (unhide hg5 g hg).1
                have q2 := unhide hsep gl hgl
                omega
              case round =>
                obtain ⟨j, hu, hgk, hjl, hBW, hrow, hRW, hxW, hsW⟩ := hrel
                rw [hu]
                clear hu HR5 HRL hx5 hg5 hsep HB5
                have HG6 := hide hgk; have HRow := hide hrow; have HRW := hide hRW; have HXW := hide hxW; have HSW := hide hsW; have HBW := hide hBW
                clear hgk hrow hRW hBW
                by_cases hj : j < xs.length
                · have hji : (j : Int) < (xs.length : Int) := by omega
                  have hj0 : (0 : Int) ≤ (j : Int) := by omega
                  obtain ⟨gx, hxa, hgx, hcx⟩ := hxW j xs[j] (List.getElem?_eq_getElem hj)
                  generalize hxe : xs[j] = x at hcx
                  have hxj : Hid (xs[j]? = some x) := by rw [← hxe]; exact List.getElem?_eq_getElem hj
                  clear hxW hsW hxe
                  subst hxa
                  rename_i W _ _
                  have hrowa : Hid ((wr.alloc (.cells #[.int .i64 x] 3)).ownsRow B 3 1 u15 (l.length + j) ((l ++ xs.take j).map fun x => Value.int .i64 x)) := (unhide HRow).alloc _
                  have hba : Hid (B ≤ (wr.alloc (.cells #[.int .i64 x] 3)).heap.size) := by have := unhide HBW; simp [Hid]; omega
                  go_wp2_with (first | (at_builtin; refine wpList_append_own_at _ rfl _ _ 33 rfl B 3 i1 (.int .i64 0) 1 8 Tryd.underlying33 hj' hy0 hy1 hy2 rfl (by decide) _ _ _ rfl (unhide hrowa) ⟨wr.heap.size, 0, none⟩ 1 1 [.int .i64 x] rfl rfl (cell_one_new _ _ _) (by simp [Value.oneCell']) (by unfold maxLen; omega) (by omega) (unhide hba) ?_; intro v7 w7 hown7 hgrow7 _ hblk7))
                  go_roundg (xs.length - (j + 1))
                  case measure => rw [unhide HG6]; omega
                  case rel =>
                    refine ⟨j + 1, by simp, rfl, by omega, Nat.le_trans (unhide hba) hgrow7.size, ?_, ?_, ?_, ?_⟩
                    · rw [List.take_add_one, unhide hxj, ← List.append_assoc, List.map_append (l₁ := l ++ xs.take j)]
                      exact hown7
                    · exact unhide H2G _ _ _ _ _ _ _ _ _ _ (unhide H2G _ _ _ _ _ _ _ _ _ none (unhide HRW) (World.grownBy_alloc wr _ none) (fun j q => by cases q)) hgrow7 (fun j q => ((unhide hrowa).lt j q).1)
                    · intro i y hy
                      obtain ⟨g9, r1, r2, r3⟩ := unhide HXW i y hy
                      refine ⟨g9, r1, Nat.lt_of_lt_of_le r2 (Nat.le_trans (by simp) hgrow7.size), hgrow7.cell ((World.grownBy_alloc wr _ none).cell r3 (by simp)) ?_⟩
                      intro q
                      exact (unhide HSW g9 r1).2 g9 q.symm rfl
                    · intro g9 hg9
                      obtain ⟨r1, r2⟩ := unhide HSW g9 hg9
                      refine ⟨Nat.lt_of_lt_of_le r1 (Nat.le_trans (by simp) hgrow7.size), fun gl hgl => ?_⟩
                      rcases hblk7 with q | q
                      · rw [q] at hgl; exact r2 gl hgl
                      · rw [q] at hgl
                        simp at hgl
                        omega
                · have hji : ¬ (j : Int) < (xs.length : Int) := by omega
                  have hjx : j = xs.length := by omega
                  have HJX := hide hjx
                  clear hjx hj hxW hsW HXW HSW
                  go_wp2_with fail
                  go_roundg (n3 - (k2 + 1))
                  case measure => rw [unhide HG]; omega
                  case rel =>
                    refine ⟨k2 + 1, most', l ++ xs, by rw [unhide HVM], by simp, rfl, by omega, ?_, unhide HRW⟩
                    have := unhide HRow
                    rw [unhide HJX, List.take_length] at this
                    rw [List.length_append]
                    exact this
          · have hk3i : ¬ (k2 : Int) < (n3 : Int) := by omega
            have hk2e : k2 = n3 := by omega
            have HRn : Hid (R2 b b' B n n3 most l wr) := by rw [← hk2e]; exact unhide HR
            have hB1 := (unhide H2s _ _ _ _ _ _ _ _ (unhide HRn)).1
            have HB1 := hide hB1
            clear hk2e HR HG hB1 hll
            go_wp2_with fail
            refine (unhide H3 _ _ _ _ _ _ _ (unhide HRn)).mono ?_
            rintro e w5 ⟨v5, ms, rfl, hown5, hkeep5, hR5⟩
            have HL5 : Hid (w5.ownsRow B 3 1 u15 l.length (l.map fun x => Value.int .i64 x)) := row_kept (unhide HO) fun j hj hlt => hkeep5 j hj hlt
            have HR5 := hide hR5; have HO5 := hide hown5
            clear hown5 hkeep5 hR5 HO HRn
            go_wp2_with fail
            refine (unhide H4 _ _ _ _ _ _ _ _ (unhide HR5)).mono ?_
            rintro e w6 ⟨v6, xs, rfl, hown6, hkeep6, hR6⟩
            obtain ⟨la, lcap, hul, hirl⟩ := ir_of_row (row_kept (unhide HL5) fun j hj hlt => hkeep6 j hj hlt)
            obtain ⟨ma, mcap, hum, hirm⟩ := ir_of_row (row_kept (unhide HO5) fun j hj hlt => hkeep6 j (Nat.le_trans (unhide HB1) hj) hlt)
            obtain ⟨xa, xcap, hux, hirx⟩ := ir_of_row hown6
            obtain ⟨hB6, hln, hlx, hcase⟩ := unhide H5 _ _ _ _ _ _ _ _ _ hR6
            subst hul hum hux
            have HR6 := hide hR6; have HIL := hide hirl; have HIM := hide hirm
            clear hR6 hirl hirm hirx hown6 hkeep6 HR5 HO5 HL5 hB6 HB1
            rcases hcase with rfl | ⟨hne, hn3⟩
            · go_wp2_with fail
              refine (ints_eq la ma l l.length lcap mcap w6 rfl (by omega) (unhide HIL) (unhide HIM)).mono ?_
              rintro e w7 ⟨rfl, hB7⟩
              have hR7 := unhide H5s _ _ _ _ _ _ _ _ _ _ (unhide HR6) hB7
              obtain ⟨next, hlen, hnext, hn1, hn2⟩ := unhide H6 _ _ _ _ _ _ _ _ _ hR7
              have HLen := hide hlen; have HNext := hide hnext; have HN1 := hide hn1; have HN2 := hide hn2
              clear hlen hnext hn1 hn2 hR7 hB7 HR6 HIL HIM
              go_wp2_with fail
              refine (unhide HLen).mono ?_
              rintro e w8 ⟨rfl, hw8⟩
              rw [hw8]
              clear hw8 w8 HLen
              go_wp2_with fail
              refine (unhide HNext).mono ?_
              rintro e w9 ⟨rfl, hpost⟩
              have HPost := hide hpost
              clear hpost HNext
              obtain ⟨lf, hlf⟩ : ∃ lf : Nat, (n : Int) - (l.length : Int) - (xs.length : Int) = (lf : Int) := ⟨n - l.length - xs.length, by omega⟩
              rw [hlf] at HN1 HN2 ⊢
              have hwr1 : wrap64 ((n : Int) - (l.length : Int)) = (n : Int) - (l.length : Int) := by unfold wrap64; omega
              have hwr2 : wrap64 ((n : Int) - (l.length : Int) - (xs.length : Int)) = (lf : Int) := by rw [hlf]; unfold wrap64; omega
              have hll2 : ((lf : Int) != (lf : Int)) = false := by simp
              by_cases hz : (lf : Int) = 0
              · have hnx := unhide HN1 hz
                have hz' : ((lf : Int) == 0) = true := by rw [beq_iff_eq]; exact hz
                clear HN1 HN2
                go_wp2_with fail
                go_ret
                exact ⟨rfl, unhide HPost⟩
              · have hnx := unhide HN2 hz
                have hz' : ((lf : Int) == 0) = false := by rw [beq_eq_false_iff_ne]; exact hz
                clear HN1 HN2
                go_wp2_with fail
                go_ret
                exact ⟨rfl, unhide HPost⟩
            · subst hn3
              go_wp2_with fail
              refine (ints_len la ma l.length ms.length lcap mcap w6 hne).mono ?_
              rintro e w7 ⟨rfl, hw7⟩
              rw [hw7]
              have hR7 := unhide HR6
              obtain ⟨next, hlen, hnext, hn1, hn2⟩ := unhide H6 _ _ _ _ _ _ _ _ _ hR7
              have HLen := hide hlen; have HNext := hide hnext; have HN1 := hide hn1; have HN2 := hide hn2
              clear hlen hnext hn1 hn2 hR7 hw7 HR6 HIL HIM
              go_wp2_with fail
              refine (unhide HLen).mono ?_
              rintro e w8 ⟨rfl, hw8⟩
              rw [hw8]
              clear hw8 w8 HLen
              go_wp2_with fail
              refine (unhide HNext).mono ?_
              rintro e w9 ⟨rfl, hpost⟩
              have HPost := hide hpost
              clear hpost HNext
              obtain ⟨lf, hlf⟩ : ∃ lf : Nat, (n : Int) - (l.length : Int) - (xs.length : Int) = (lf : Int) := ⟨n - l.length - xs.length, by omega⟩
              rw [hlf] at HN1 HN2 ⊢
              have hwr1 : wrap64 ((n : Int) - (l.length : Int)) = (n : Int) - (l.length : Int) := by unfold wrap64; omega
              have hwr2 : wrap64 ((n : Int) - (l.length : Int) - (xs.length : Int)) = (lf : Int) := by rw [hlf]; unfold wrap64; omega
              have hll2 : ((lf : Int) != (lf : Int)) = false := by simp
              by_cases hz : (lf : Int) = 0
              · have hnx := unhide HN1 hz
                have hz' : ((lf : Int) == 0) = true := by rw [beq_iff_eq]; exact hz
                clear HN1 HN2
                go_wp2_with fail
                go_ret
                exact ⟨rfl, unhide HPost⟩
              · have hnx := unhide HN2 hz
                have hz' : ((lf : Int) == 0) = false := by rw [beq_eq_false_iff_ne]; exact hz
                clear HN1 HN2
                go_wp2_with fail
                go_ret
                exact ⟨rfl, unhide HPost⟩
    · have hk1i : decide ((k : Int) < (n1 : Int)) = false := decide_eq_false (by omega)
      obtain ⟨hlen, hR2⟩ := unhide H2 _ _ _ _ _ (unhide HR) (.inl (by omega))
      obtain ⟨B, hB⟩ : ∃ B, wr.heap.size = B := ⟨_, rfl⟩
      rw [hB] at hR2
      have HLen := hide hlen; have HR2 := hide hR2
      have hn10 : n < 17592186044416 := by omega
      clear hlen hR2 HG HR hkn hkn2 hB
      go_wp2_with fail
      refine (unhide HLen).mono ?_
      rintro e w3 ⟨rfl, hw3⟩
      rw [hw3]
      clear hw3 w3
      have hnn : ((n : Int) != (n : Int)) = false := by simp
      go_wp2_with fail
      go_slots
      go_loopg [14, 15, 16] n3 (fun gk vm vl vi W => ∃ (k : Nat) (most : Int) (l : List Int), vm = .int .i64 most ∧ vi = .int .i64 (k : Int) ∧ gk = n3 - k ∧ k ≤ n3 ∧ W.ownsRow B 3 1 vl l.length (l.map fun x => Value.int .i64 x) ∧ R2 b b' B n k most l W)
      case atStart => exact ⟨0, 0, [], rfl, rfl, rfl, Nat.zero_le _, World.ownsRow_nil _ _ _ _, unhide HR2⟩
      case round =>
        obtain ⟨k2, most, l, hu, hu', hgk, hkn, hown, hR⟩ := hrel
        rw [hu, hu']
        clear hu hu' HR2
        have HR := hide hR; have HG := hide hgk; have HO := hide hown
        have hll := (unhide H2s _ _ _ _ _ _ _ _ hR).2
        clear hR hgk hown
        by_cases hk3 : k2 < n3
        · have hk3i : (k2 : Int) < (n3 : Int) := by omega
          have hk30 : (0 : Int) ≤ (k2 : Int) := by omega
          obtain ⟨t, hct, hadv⟩ := unhide H2A _ _ _ _ _ _ _ _ (unhide HR) hk3
          obtain ⟨g, o, hta⟩ := unhide HTA (by omega)
          subst hta
          have hct := hct g o rfl
          have HAdv := hide hadv
          clear hadv
          obtain ⟨most', hmo⟩ : ∃ m, (if t > most then t else most) = m := ⟨_, rfl⟩
          have HMo := hide hmo
          clear hmo
          by_cases hm : most < t
          · have HVM : Hid (t = most') := by rw [← unhide HMo, if_pos hm]; rfl
            go_wp2_with fail
            refine (unhide HAdv).mono ?_
            rintro e w5 ⟨v5, xs, rfl, hown5, hkeep5, hR5⟩
            rw [unhide HMo] at hR5
            have hrl : w5.ownsRow B 3 1 u15 l.length (l.map fun x => Value.int .i64 x) := row_kept (unhide HO) fun j hj hlt => hkeep5 j hj hlt
            have hsep : Hid (∀ gl, u15.ownBlock = some gl → gl < wr.heap.size) := fun gl hgl => ((unhide HO).lt gl hgl).2
            obtain ⟨xa, xcap, hv5, hx5, hg5⟩ : ∃ xa xcap, v5 = .slice xa xs.length xcap ∧ Hid (∀ i x, xs[i]? = some x → ∃ g, xa = some ⟨g, 0, none⟩ ∧ g < w5.heap.size ∧ w5.cell? ⟨g, i, none⟩ = some (.int .i64 x)) ∧ Hid (∀ g, xa = some ⟨g, 0, none⟩ → wr.heap.size ≤ g ∧ g < w5.heap.size) := by
              rcases hown5.2 with ⟨rfl, hn⟩ | ⟨g, cap, cur, rfl, q1, q2, q3, q4, q5, q6⟩
              · have hD : xs = [] := List.eq_nil_of_length_eq_zero hn
                subst hD
                exact ⟨none, 0, rfl, fun i x hx => by simp at hx, fun g hg => by cases hg⟩
              · refine ⟨_, cap, rfl, fun i x hx => ⟨g, rfl, (Array.getElem?_eq_some_iff.1 q2).1, ?_⟩, fun g' hg' => by cases hg'; exact ⟨q1, (Array.getElem?_eq_some_iff.1 q2).1⟩⟩
                have hi := (List.getElem?_eq_some_iff.1 hx).1
                rw [hown5.cellAt i (by omega)]
                simp [hx]
            have HR5 := hide hR5; have HRL := hide hrl
            have hlx := (unhide H2s _ _ _ _ _ _ _ _ hR5).2
            have hB5 := (unhide H2s _ _ _ _ _ _ _ _ hR5).1
            rw [List.length_append] at hlx
            have HB5 := hide hB5
            clear hown5 hkeep5 hR5 hrl HO HR HAdv hct hB5
            rw [hv5]
            clear hv5 v5
            go_wp2_with fail
            go_loopg [15, 18] xs.length (fun gk vl vi W => ∃ j : Nat, vi = .int .i64 (j : Int) ∧ gk = xs.length - j ∧ j ≤ xs.length ∧ B ≤ W.heap.size ∧ W.ownsRow B 3 1 vl (l.length + j) ((l ++ xs.take j).map fun x => Value.int .i64 x) ∧ R2 b b' B n (k2 + 1) most' (l ++ xs) W ∧
              (∀ i x, xs[i]? = some x → ∃ g, xa = some ⟨g, 0, none⟩ ∧ g < W.heap.size ∧ W.cell? ⟨g, i, none⟩ = some (.int .i64 x)) ∧ (∀ g, xa = some ⟨g, 0, none⟩ → g < W.heap.size ∧ ∀ gl, vl.ownBlock = some gl → g ≠ gl))
            case atStart =>
              refine ⟨0, rfl, rfl, Nat.zero_le _, unhide HB5, by simpa using unhide HRL, unhide HR5, unhide hx5, fun g hg => ⟨(unhide hg5 g hg).2, fun gl hgl => ?_⟩⟩
              have q1 := (unhide hg5 g hg).1
              have q2 := unhide hsep gl hgl
              omega
            case round =>
              obtain ⟨j, hu, hgk, hjl, hBW, hrow, hRW, hxW, hsW⟩ := hrel
              rw [hu]
              clear hu HR5 HRL hx5 hg5 hsep HB5
              have HG6 := hide hgk; have HRow := hide hrow; have HRW := hide hRW; have HXW := hide hxW; have HSW := hide hsW; have HBW := hide hBW
              clear hgk hrow hRW hBW
              by_cases hj : j < xs.length
              · have hji : (j : Int) < (xs.length : Int) := by omega
                have hj0 : (0 : Int) ≤ (j : Int) := by omega
                obtain ⟨gx, hxa, hgx, hcx⟩ := hxW j xs[j] (List.getElem?_eq_getElem hj)
                generalize hxe : xs[j] = x at hcx
                have hxj : Hid (xs[j]? = some x) := by rw [← hxe]; exact List.getElem?_eq_getElem hj
                clear hxW hsW hxe
                subst hxa
                rename_i W _ _
                have hrowa : Hid ((wr.alloc (.cells #[.int .i64 x] 3)).ownsRow B 3 1 u15 (l.length + j) ((l ++ xs.take j).map fun x => Value.int .i64 x)) := (unhide HRow).alloc _
                have hba : Hid (B ≤ (wr.alloc (.cells #[.int .i64 x] 3)).heap.size) := by have := unhide HBW; simp [Hid]; omega
                go_wp2_with (first | (at_builtin; refine wpList_append_own_at _ rfl _ _ 33 rfl B 3 i1 (.int .i64 0) 1 8 Tryd.underlying33 hj' hy0 hy1 hy2 rfl (by decide) _ _ _ rfl (unhide hrowa) ⟨wr.heap.size, 0, none⟩ 1 1 [.int .i64 x] rfl rfl (cell_one_new _ _ _) (by simp [Value.oneCell']) (by unfold maxLen; omega) (by omega) (unhide hba) ?_; intro v7 w7 hown7 hgrow7 _ hblk7))
                go_roundg (xs.length - (j + 1))
                case measure => rw [unhide HG6]; omega
                case rel =>
                  refine ⟨j + 1, by simp, rfl, by omega, Nat.le_trans (unhide hba) hgrow7.size, ?_, ?_, ?_, ?_⟩
                  · rw [List.take_add_one, unhide hxj, ← List.append_assoc, List.map_append (l₁ := l ++ xs.take j)]
                    exact hown7
                  · exact unhide H2G _ _ _ _ _ _ _ _ _ _ (unhide H2G _ _ _ _ _ _ _ _ _ none (unhide HRW) (World.grownBy_alloc wr _ none) (fun j q => by cases q)) hgrow7 (fun j q => ((unhide hrowa).lt j q).1)
                  · intro i y hy
                    obtain ⟨g9, r1, r2, r3⟩ := unhide HXW i y hy
                    refine ⟨g9, r1, Nat.lt_of_lt_of_le r2 (Nat.le_trans (by simp) hgrow7.size), hgrow7.cell ((World.grownBy_alloc wr _ none).cell r3 (by simp)) ?_⟩
                    intro q
                    exact (unhide HSW g9 r1).2 g9 q.symm rfl
                  · intro g9 hg9
                    obtain ⟨r1, r2⟩ := unhide HSW g9 hg9
                    refine ⟨Nat.lt_of_lt_of_le r1 (Nat.le_trans (by simp) hgrow7.size), fun gl hgl => ?_⟩
                    rcases hblk7 with q | q
                    · rw [q] at hgl; exact r2 gl hgl
                    · rw [q] at hgl
                      simp at hgl
                      omega
              · have hji : ¬ (j : Int) < (xs.length : Int) := by omega
                have hjx : j = xs.length := by omega
                have HJX := hide hjx
                clear hjx hj hxW hsW HXW HSW
                go_wp2_with fail
                go_roundg (n3 - (k2 + 1))
                case measure => rw [unhide HG]; omega
                case rel =>
                  refine ⟨k2 + 1, most', l ++ xs, by rw [unhide HVM], by simp, rfl, by omega, ?_, unhide HRW⟩
                  have := unhide HRow
                  rw [unhide HJX, List.take_length] at this
                  rw [List.length_append]
                  exact this
          · have hm' : decide (most < t) = false := decide_eq_false hm
            have HVM : Hid (most = most') := by rw [← unhide HMo, if_neg hm]; rfl
            go_wp2_with fail
            refine (unhide HAdv).mono ?_
            rintro e w5 ⟨v5, xs, rfl, hown5, hkeep5, hR5⟩
            rw [unhide HMo] at hR5
            have hrl : w5.ownsRow B 3 1 u15 l.length (l.map fun x => Value.int .i64 x) := row_kept (unhide HO) fun j hj hlt => hkeep5 j hj hlt
            have hsep : Hid (∀ gl, u15.ownBlock = some gl → gl < wr.heap.size) := fun gl hgl => ((unhide HO).lt gl hgl).2
            obtain ⟨xa, xcap, hv5, hx5, hg5⟩ : ∃ xa xcap, v5 = .slice xa xs.length xcap ∧ Hid (∀ i x, xs[i]? = some x → ∃ g, xa = some ⟨g, 0, none⟩ ∧ g < w5.heap.size ∧ w5.cell? ⟨g, i, none⟩ = some (.int .i64 x)) ∧ Hid (∀ g, xa = some ⟨g, 0, none⟩ → wr.heap.size ≤ g ∧ g < w5.heap.size) := by
              rcases hown5.2 with ⟨rfl, hn⟩ | ⟨g, cap, cur, rfl, q1, q2, q3, q4, q5, q6⟩
              · have hD : xs = [] := List.eq_nil_of_length_eq_zero hn
                subst hD
                exact ⟨none, 0, rfl, fun i x hx => by simp at hx, fun g hg => by cases hg⟩
              · refine ⟨_, cap, rfl, fun i x hx => ⟨g, rfl, (Array.getElem?_eq_some_iff.1 q2).1, ?_⟩, fun g' hg' => by cases hg'; exact ⟨q1, (Array.getElem?_eq_some_iff.1 q2).1⟩⟩
                have hi := (List.getElem?_eq_some_iff.1 hx).1
                rw [hown5.cellAt i (by omega)]
                simp [hx]
            have HR5 := hide hR5; have HRL := hide hrl
            have hlx := (unhide H2s _ _ _ _ _ _ _ _ hR5).2
            have hB5 := (unhide H2s _ _ _ _ _ _ _ _ hR5).1
            rw [List.length_append] at hlx
            have HB5 := hide hB5
            clear hown5 hkeep5 hR5 hrl HO HR HAdv hct hB5
            rw [hv5]
            clear hv5 v5
            go_wp2_with fail
            go_loopg [15, 18] xs.length (fun gk vl vi W => ∃ j : Nat, vi = .int .i64 (j : Int) ∧ gk = xs.length - j ∧ j ≤ xs.length ∧ B ≤ W.heap.size ∧ W.ownsRow B 3 1 vl (l.length + j) ((l ++ xs.take j).map fun x => Value.int .i64 x) ∧ R2 b b' B n (k2 + 1) most' (l ++ xs) W ∧
              (∀ i x, xs[i]? = some x → ∃ g, xa = some ⟨g, 0, none⟩ ∧ g < W.heap.size ∧ W.cell? ⟨g, i, none⟩ = some (.int .i64 x)) ∧ (∀ g, xa = some ⟨g, 0, none⟩ → g < W.heap.size ∧ ∀ gl, vl.ownBlock = some gl → g ≠ gl))
            case atStart =>
              refine ⟨0, rfl, rfl, Nat.zero_le _, unhide HB5, by simpa using unhide HRL, unhide HR5, unhide hx5, fun g hg => ⟨(unhide hg5 g hg).2, fun gl hgl => ?_⟩⟩
              have q1 := (unhide hg5 g hg).1
              have q2 := unhide hsep gl hgl
              omega
            case round =>
              obtain ⟨j, hu, hgk, hjl, hBW, hrow, hRW, hxW, hsW⟩ := hrel
              rw [hu]
              clear hu HR5 HRL hx5 hg5 hsep HB5
              have HG6 := hide hgk; have HRow := hide hrow; have HRW := hide hRW; have HXW := hide hxW; have HSW := hide hsW; have HBW := hide hBW
              clear hgk hrow hRW hBW
              by_cases hj : j < xs.length
              · have hji : (j : Int) < (xs.length : Int) := by omega
                have hj0 : (0 : Int) ≤ (j : Int) := by omega
                obtain ⟨gx, hxa, hgx, hcx⟩ := hxW j xs[j] (List.getElem?_eq_getElem hj)
                generalize hxe : xs[j] = x at hcx
                have hxj : Hid (xs[j]? = some x) := by rw [← hxe]; exact List.getElem?_eq_getElem hj
                clear hxW hsW hxe
                subst hxa
                rename_i W _ _
                have hrowa : Hid ((wr.alloc (.cells #[.int .i64 x] 3)).ownsRow B 3 1 u15 (l.length + j) ((l ++ xs.take j).map fun x => Value.int .i64 x)) := (unhide HRow).alloc _
                have hba : Hid (B ≤ (wr.alloc (.cells #[.int .i64 x] 3)).heap.size) := by have := unhide HBW; simp [Hid]; omega
                go_wp2_with (first | (at_builtin; refine wpList_append_own_at _ rfl _ _ 33 rfl B 3 i1 (.int .i64 0) 1 8 Tryd.underlying33 hj' hy0 hy1 hy2 rfl (by decide) _ _ _ rfl (unhide hrowa) ⟨wr.heap.size, 0, none⟩ 1 1 [.int .i64 x] rfl rfl (cell_one_new _ _ _) (by simp [Value.oneCell']) (by unfold maxLen; omega) (by omega) (unhide hba) ?_; intro v7 w7 hown7 hgrow7 _ hblk7))
                go_roundg (xs.length - (j + 1))
                case measure => rw [unhide HG6]; omega
                case rel =>
                  refine ⟨j + 1, by simp, rfl, by omega, Nat.le_trans (unhide hba) hgrow7.size, ?_, ?_, ?_, ?_⟩
                  · rw [List.take_add_one, unhide hxj, ← List.append_assoc, List.map_append (l₁ := l ++ xs.take j)]
                    exact hown7
                  · exact unhide H2G _ _ _ _ _ _ _ _ _ _ (unhide H2G _ _ _ _ _ _ _ _ _ none (unhide HRW) (World.grownBy_alloc wr _ none) (fun j q => by cases q)) hgrow7 (fun j q => ((unhide hrowa).lt j q).1)
                  · intro i y hy
                    obtain ⟨g9, r1, r2, r3⟩ := unhide HXW i y hy
                    refine ⟨g9, r1, Nat.lt_of_lt_of_le r2 (Nat.le_trans (by simp) hgrow7.size), hgrow7.cell ((World.grownBy_alloc wr _ none).cell r3 (by simp)) ?_⟩
                    intro q
                    exact (unhide HSW g9 r1).2 g9 q.symm rfl
                  · intro g9 hg9
                    obtain ⟨r1, r2⟩ := unhide HSW g9 hg9
                    refine ⟨Nat.lt_of_lt_of_le r1 (Nat.le_trans (by simp) hgrow7.size), fun gl hgl => ?_⟩
                    rcases hblk7 with q | q
                    · rw [q] at hgl; exact r2 gl hgl
                    · rw [q] at hgl
                      simp at hgl
                      omega
              · have hji : ¬ (j : Int) < (xs.length : Int) := by omega
                have hjx : j = xs.length := by omega
                have HJX := hide hjx
                clear hjx hj hxW hsW HXW HSW
                go_wp2_with fail
                go_roundg (n3 - (k2 + 1))
                case measure => rw [unhide HG]; omega
                case rel =>
                  refine ⟨k2 + 1, most', l ++ xs, by rw [unhide HVM], by simp, rfl, by omega, ?_, unhide HRW⟩
                  have := unhide HRow
                  rw [unhide HJX, List.take_length] at this
                  rw [List.length_append]
                  exact this
        · have hk3i : ¬ (k2 : Int) < (n3 : Int) := by omega
          have hk2e : k2 = n3 := by omega
          have HRn : Hid (R2 b b' B n n3 most l wr) := by rw [← hk2e]; exact unhide HR
          have hB1 := (unhide H2s _ _ _ _ _ _ _ _ (unhide HRn)).1
          have HB1 := hide hB1
          clear hk2e HR HG hB1 hll
          go_wp2_with fail
          refine (unhide H3 _ _ _ _ _ _ _ (unhide HRn)).mono ?_
          rintro e w5 ⟨v5, ms, rfl, hown5, hkeep5, hR5⟩
          have HL5 : Hid (w5.ownsRow B 3 1 u15 l.length (l.map fun x => Value.int .i64 x)) := row_kept (unhide HO) fun j hj hlt => hkeep5 j hj hlt
          have HR5 := hide hR5; have HO5 := hide hown5
          clear hown5 hkeep5 hR5 HO HRn
          go_wp2_with fail
          refine (unhide H4 _ _ _ _ _ _ _ _ (unhide HR5)).mono ?_
          rintro e w6 ⟨v6, xs, rfl, hown6, hkeep6, hR6⟩
          obtain ⟨la, lcap, hul, hirl⟩ := ir_of_row (row_kept (unhide HL5) fun j hj hlt => hkeep6 j hj hlt)
          obtain ⟨ma, mcap, hum, hirm⟩ := ir_of_row (row_kept (unhide HO5) fun j hj hlt => hkeep6 j (Nat.le_trans (unhide HB1) hj) hlt)
          obtain ⟨xa, xcap, hux, hirx⟩ := ir_of_row hown6
          obtain ⟨hB6, hln, hlx, hcase⟩ := unhide H5 _ _ _ _ _ _ _ _ _ hR6
          subst hul hum hux
          have HR6 := hide hR6; have HIL := hide hirl; have HIM := hide hirm
          clear hR6 hirl hirm hirx hown6 hkeep6 HR5 HO5 HL5 hB6 HB1
          rcases hcase with rfl | ⟨hne, hn3⟩
          · go_wp2_with fail
            refine (ints_eq la ma l l.length lcap mcap w6 rfl (by omega) (unhide HIL) (unhide HIM)).mono ?_
            rintro e w7 ⟨rfl, hB7⟩
            have hR7 := unhide H5s _ _ _ _ _ _ _ _ _ _ (unhide HR6) hB7
            obtain ⟨next, hlen, hnext, hn1, hn2⟩ := unhide H6 _ _ _ _ _ _ _ _ _ hR7
            have HLen := hide hlen; have HNext := hide hnext; have HN1 := hide hn1; have HN2 := hide hn2
            clear hlen hnext hn1 hn2 hR7 hB7 HR6 HIL HIM
            go_wp2_with fail
            refine (unhide HLen).mono ?_
            rintro e w8 ⟨rfl, hw8⟩
            rw [hw8]
            clear hw8 w8 HLen
            go_wp2_with fail
            refine (unhide HNext).mono ?_
            rintro e w9 ⟨rfl, hpost⟩
            have HPost := hide hpost
            clear hpost HNext
            obtain ⟨lf, hlf⟩ : ∃ lf : Nat, (n : Int) - (l.length : Int) - (xs.length : Int) = (lf : Int) := ⟨n - l.length - xs.length, by omega⟩
            rw [hlf] at HN1 HN2 ⊢
            have hwr1 : wrap64 ((n : Int) - (l.length : Int)) = (n : Int) - (l.length : Int) := by unfold wrap64; omega
            have hwr2 : wrap64 ((n : Int) - (l.length : Int) - (xs.length : Int)) = (lf : Int) := by rw [hlf]; unfold wrap64; omega
            have hll2 : ((lf : Int) != (lf : Int)) = false := by simp
            by_cases hz : (lf : Int) = 0
            · have hnx := unhide HN1 hz
              have hz' : ((lf : Int) == 0) = true := by rw [beq_iff_eq]; exact hz
              clear HN1 HN2
              go_wp2_with fail
              go_ret
              exact ⟨rfl, unhide HPost⟩
            · have hnx := unhide HN2 hz
              have hz' : ((lf : Int) == 0) = false := by rw [beq_eq_false_iff_ne]; exact hz
              clear HN1 HN2
              go_wp2_with fail
              go_ret
              exact ⟨rfl, unhide HPost⟩
          · subst hn3
            go_wp2_with fail
            refine (ints_len la ma l.length ms.length lcap mcap w6 hne).mono ?_
            rintro e w7 ⟨rfl, hw7⟩
            rw [hw7]
            have hR7 := unhide HR6
            obtain ⟨next, hlen, hnext, hn1, hn2⟩ := unhide H6 _ _ _ _ _ _ _ _ _ hR7
            have HLen := hide hlen; have HNext := hide hnext; have HN1 := hide hn1; have HN2 := hide hn2
            clear hlen hnext hn1 hn2 hR7 hw7 HR6 HIL HIM
            go_wp2_with fail
            refine (unhide HLen).mono ?_
            rintro e w8 ⟨rfl, hw8⟩
            rw [hw8]
            clear hw8 w8 HLen
            go_wp2_with fail
            refine (unhide HNext).mono ?_
            rintro e w9 ⟨rfl, hpost⟩
            have HPost := hide hpost
            clear hpost HNext
            obtain ⟨lf, hlf⟩ : ∃ lf : Nat, (n : Int) - (l.length : Int) - (xs.length : Int) = (lf : Int) := ⟨n - l.length - xs.length, by omega⟩
            rw [hlf] at HN1 HN2 ⊢
            have hwr1 : wrap64 ((n : Int) - (l.length : Int)) = (n : Int) - (l.length : Int) := by unfold wrap64; omega
            have hwr2 : wrap64 ((n : Int) - (l.length : Int) - (xs.length : Int)) = (lf : Int) := by rw [hlf]; unfold wrap64; omega
            have hll2 : ((lf : Int) != (lf : Int)) = false := by simp
            by_cases hz : (lf : Int) = 0
            · have hnx := unhide HN1 hz
              have hz' : ((lf : Int) == 0) = true := by rw [beq_iff_eq]; exact hz
              clear HN1 HN2
              go_wp2_with fail
              go_ret
              exact ⟨rfl, unhide HPost⟩
            · have hnx := unhide HN2 hz
              have hz' : ((lf : Int) == 0) = false := by rw [beq_eq_false_iff_ne]; exact hz
              clear HN1 HN2
              go_wp2_with fail
              go_ret
              exact ⟨rfl, unhide HPost⟩
end Go.Proofs.YtogdekjklbbbiaaDoor
