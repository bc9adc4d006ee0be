import Derived.Test.YtogdekjklbbbiaaDoorFl
set_option maxRecDepth 100000
namespace Go.Proofs.YtogdekjklbbbiaaDoor
open Go.ChangeShapes Go.WideShapes Go.ChangeAt Go.RowKit
set_option linter.unusedSimpArgs false
set_option linter.unusedVariables false

set_option maxHeartbeats 1000000 in
theorem remove_none (b : Nat) (f : Int) (w : World) (hV : Calls Tryd.prog 49 #[.pointer (some ⟨b, 0, none⟩), .int .i64 f] w fun e w' => w' = w ∧ e = .returned (liveV none)) :
    Calls Tryd.prog 24 #[.pointer (some ⟨b, 0, none⟩), .int .i64 f] w fun e w' => e = .returned (.tuple #[.slice none 0 0, .int .i64 5]) ∧ w' = w.alloc (.cells #[.pointer none] 132) := by
  have HV := hide hV
  clear hV
  go_enter Tryd.func24, Tryd.ntmps24
  go_wp2_with fail
  refine (unhide HV).mono ?_
  rintro e w0 ⟨hw0, rfl⟩
  rw [hw0]
  clear hw0
  unfold liveV
  go_wp2_with fail
  go_ret2
  exact ⟨rfl, rfl⟩
set_option maxHeartbeats 2000000 in
theorem remove_walk (b x wb k0 k dr : Nat) (f num : Int) (fv pv v : Value) (av : Option Addr) (cv : Nat) (w : World) (R1 R2 : Value → World → Prop) (R3 : World → Prop) (Post : Value → World → Prop) (hv : v = .slice av k cv) (hk : k ≤ 8) (hdr : dr < 9000000000000000000) (hk0 : k0 < 8)
    (hbx : b ≠ x) (hbl : b < w.heap.size) (h3 : w.cell? ⟨b, 3, none⟩ = some fv)
    (hV : Calls Tryd.prog 49 #[.pointer (some ⟨b, 0, none⟩), .int .i64 f] w fun e w' => w' = w ∧ e = .returned (liveV (some x)))
    (hI : Calls Tryd.prog 52 #[fv, .pointer (some ⟨x, 0, none⟩)] ((w.alloc (.cells #[.pointer (some ⟨x, 0, none⟩)] 132)).drewN 1) fun e w' => e = .returned (.int .i64 (k0 : Int)) ∧ w' = (w.alloc (.cells #[.pointer (some ⟨x, 0, none⟩)] 132)).drewN 1)
    (hD : Calls Tryd.prog 53 #[fv, .int .i64 (k0 : Int), .int .i64 ((k0 : Int) + 1)] ((w.alloc (.cells #[.pointer (some ⟨x, 0, none⟩)] 132)).drewN 1) fun e w' => ∃ v', e = .returned v' ∧ R1 v' w')
    (hR1 : ∀ v1 w1, R1 v1 w1 → (∃ a n c, v1 = .slice a n c) ∧ (∃ u, w1.cell? ⟨b, 3, none⟩ = some u) ∧ w1.frozen? ⟨b, 3, none⟩ = false ∧ w1.cell? ⟨b, 4, none⟩ = some pv)
    (hDF : ∀ v1 w1, R1 v1 w1 → Calls Tryd.prog 54 #[pv, .func (.func 55) #[] #[.pointer (some ⟨w.heap.size, 0, none⟩)]] (w1.setCell ⟨b, 3, none⟩ v1) fun e w' => ∃ p', e = .returned p' ∧ R2 p' w')
    (hR2 : ∀ p2 w2, R2 p2 w2 → (∃ a n c, p2 = .slice a n c) ∧ (∃ u, w2.cell? ⟨b, 4, none⟩ = some u) ∧ w2.frozen? ⟨b, 4, none⟩ = false ∧ w2.cell? ⟨b, 5, none⟩ = some (.pointer (some ⟨wb, 0, none⟩)) ∧ w2.cell? ⟨w.heap.size, 0, none⟩ = some (.pointer (some ⟨x, 0, none⟩)) ∧ w2.cell? ⟨x, 0, none⟩ = some (.int .i64 num))
    (hC : ∀ p2 w2, R2 p2 w2 → Calls Tryd.prog 33 #[.pointer (some ⟨wb, 0, none⟩), .int .i64 num] ((w2.setCell ⟨b, 4, none⟩ p2).drewN 1) fun e w' => ∃ u : Int, e = .returned (.int .i64 u) ∧ R3 w')
    (hR3 : ∀ w4, R3 w4 → w4.cell? ⟨b, 5, none⟩ = some (.pointer (some ⟨wb, 0, none⟩)) ∧ w4.cell? ⟨w.heap.size, 0, none⟩ = some (.pointer (some ⟨x, 0, none⟩)) ∧ w4.cell? ⟨x, 0, none⟩ = some (.int .i64 num) ∧ w4.cell? ⟨b, 9, none⟩ = some (.int .i64 (dr : Int)) ∧ w4.frozen? ⟨b, 9, none⟩ = false ∧ w4.cell? ⟨x, 5, none⟩ = some v)
    (hCl : ∀ w4, R3 w4 → Calls Tryd.prog 56 #[v] ((w4.setCell ⟨b, 9, none⟩ (.int .i64 ((dr : Int) + (k : Int)))).drewN 1) fun e w' => ∃ c, e = .returned c ∧ Post c w') :
    Calls Tryd.prog 24 #[.pointer (some ⟨b, 0, none⟩), .int .i64 f] w fun e w' => ∃ c, e = .returned (.tuple #[c, .int .i64 0]) ∧ Post c w' := by
  have HV := hide hV; have HI := hide hI; have HD := hide hD; have HR1 := hide hR1; have HDF := hide hDF; have HR2 := hide hR2; have HC := hide hC; have HR3 := hide hR3; have HCl := hide hCl
  clear hV hI hD hR1 hDF hR2 hC hR3 hCl
  have hz0 : (w.alloc (.cells #[.pointer (some ⟨x, 0, none⟩)] 132)).cell? ⟨w.heap.size, 0, none⟩ = some (.pointer (some ⟨x, 0, none⟩)) := by rw [heap_cell (heap_alloc_new _ _)]; rfl
  have hS0 : (w.alloc (.cells #[.pointer (some ⟨x, 0, none⟩)] 132)).cell? ⟨b, 3, none⟩ = some fv ∧ (w.alloc (.cells #[.pointer (some ⟨x, 0, none⟩)] 132)).cell? ⟨w.heap.size, 0, none⟩ = some (.pointer (some ⟨x, 0, none⟩)) := ⟨old_cell h3 _, hz0⟩
  have h3z := hS0.1
  go_enter Tryd.func24, Tryd.ntmps24
  go_wp2_with fail
  refine (unhide HV).mono ?_
  rintro e w0 ⟨hw0, rfl⟩
  rw [hw0]
  clear hw0
  unfold liveV
  go_wp2_with fail
  go_region_held3 (fun W => W.cell? ⟨b, 3, none⟩ = some fv ∧ W.cell? ⟨w.heap.size, 0, none⟩ = some (.pointer (some ⟨x, 0, none⟩))) (first | exact hS0)
    (first | (go_at_call 52; refine (unhide HI).mono ?_; rintro e wi ⟨rfl, hwi⟩; rw [hwi]; clear hwi))
  all_goals
    go_wp2_with fail
    refine (unhide HD).mono ?_
    rintro e w1 ⟨v1, rfl, hw1⟩
    obtain ⟨⟨a1, n1, c1, hv1⟩, ⟨u3, hb3⟩, hf3, hb4⟩ := unhide HR1 _ _ hw1
    have HDF1 := hide (unhide HDF _ _ hw1)
    clear hw1
    subst hv1
    have hb4' : (w1.setCell ⟨b, 3, none⟩ (.slice a1 n1 c1)).cell? ⟨b, 4, none⟩ = some pv := by simp [cset, hb3, hb4]
    go_wp2_with fail
    refine (unhide HDF1).mono ?_
    rintro e w2 ⟨p2, rfl, hw2⟩
    obtain ⟨⟨a2, n2, c2, hp2⟩, ⟨u4, hd4⟩, hf4, hd5, hdz, hdx⟩ := unhide HR2 _ _ hw2
    have HC1 := hide (unhide HC _ _ hw2)
    clear hw2
    subst hp2
    have hS1 : (w2.setCell ⟨b, 4, none⟩ (.slice a2 n2 c2)).cell? ⟨b, 5, none⟩ = some (.pointer (some ⟨wb, 0, none⟩)) ∧ (w2.setCell ⟨b, 4, none⟩ (.slice a2 n2 c2)).cell? ⟨w.heap.size, 0, none⟩ = some (.pointer (some ⟨x, 0, none⟩)) ∧ (w2.setCell ⟨b, 4, none⟩ (.slice a2 n2 c2)).cell? ⟨x, 0, none⟩ = some (.int .i64 num) := by
      refine ⟨by simp [cset, hd4, hd5], ?_, ?_⟩
      · rw [World.cell?_setCell_other _ _ _ _ (fun q => by injection q with q; omega)]; exact hdz
      · rw [World.cell?_setCell_other _ _ _ _ (fun q => by injection q with q; exact hbx q)]; exact hdx
    go_wp2_with fail
    go_region_held3 (fun W => W.cell? ⟨b, 5, none⟩ = some (.pointer (some ⟨wb, 0, none⟩)) ∧ W.cell? ⟨w.heap.size, 0, none⟩ = some (.pointer (some ⟨x, 0, none⟩)) ∧ W.cell? ⟨x, 0, none⟩ = some (.int .i64 num)) (first | exact hS1 | exact hS2)
      (first | (go_at_call 33; refine (unhide HC1).mono ?_; rintro e w4 ⟨u, rfl, hw4⟩; have HW4 := hide hw4; have hq := unhide HR3 _ hw4; have hS2 := (And.intro hq.1 (And.intro hq.2.1 hq.2.2.1)); clear hw4))
    all_goals
      obtain ⟨r5, rz, rx0, r9, rf9, rx5⟩ := unhide HR3 _ (unhide HW4)
      have HCl1 := hide (unhide HCl _ (unhide HW4))
      rw [hv] at rx5
      clear hq hS2
      have hcx : (w4.setCell ⟨b, 9, none⟩ (.int .i64 ((dr : Int) + (k : Int)))).cell? ⟨x, 5, none⟩ = some (.slice av k cv) := by
        rw [World.cell?_setCell_other _ _ _ _ (fun q => by injection q with q; exact hbx q)]; exact rx5
      have hcz : (w4.setCell ⟨b, 9, none⟩ (.int .i64 ((dr : Int) + (k : Int)))).cell? ⟨w.heap.size, 0, none⟩ = some (.pointer (some ⟨x, 0, none⟩)) := by
        rw [World.cell?_setCell_other _ _ _ _ (fun q => by injection q with q; omega)]; exact rz
      go_wp2_with fail
      go_region
      all_goals
        go_wp2_with fail
        rw [hv] at HCl1
        refine (unhide HCl1).mono ?_
        rintro e w6 ⟨c, rfl, hw6⟩
        have HW6 := hide hw6
        clear hw6
        go_wp2_with fail
        go_ret2
        exact ⟨c, rfl, unhide HW6⟩
end Go.Proofs.YtogdekjklbbbiaaDoor
