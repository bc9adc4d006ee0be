import Derived.Test.YtogdekjklbbbiaaDoorFd
set_option maxRecDepth 100000
namespace Go.Proofs.YtogdekjklbbbiaaDoor
open Go.ChangeShapes Go.WideShapes Go.ChangeAt Go.RowKit
set_option linter.unusedSimpArgs false
set_option linter.unusedVariables false

theorem cells5 {W : World} {z : Nat} {v0 v1 v2 v3 v4 : Value} {t : TypeId} (h : W.heap[z]? = some (.cells #[v0, v1, v2, v3, v4] t)) :
    W.cell? ⟨z, 2, none⟩ = some v2 ∧ W.cell? ⟨z, 3, none⟩ = some v3 ∧ W.cell? ⟨z, 4, none⟩ = some v4 := by
  refine ⟨?_, ?_, ?_⟩ <;> simp [World.cell?, h]
theorem old_cell {w : World} {a : Addr} {v : Value} (h : w.cell? a = some v) (o : Obj) : (w.alloc o).cell? a = some v := World.grownBy.cell (World.grownBy_alloc w o none) h (by simp)
set_option maxHeartbeats 1000000 in
theorem admit_walk (b n : Nat) (ck : Int) (pv : Value) (w : World) (kd r bu l : Nat → Int) (x : Nat → Nat) (R R1 : Nat → World → Prop) (hn : n < 9000000000000000000)
    (h0 : R 0 w) (h4 : w.cell? ⟨b, 4, none⟩ = some pv) (a3 : Option Addr) (cap3 : Nat) (hpv : pv = .slice a3 n cap3)
    (hcell : ∀ k wr, R k wr → k < n → ∃ g, a3 = some ⟨g, 0, none⟩ ∧ wr.cell? ⟨g, k * 5, none⟩ = some (.int .i64 (kd k)) ∧ wr.cell? ⟨g, k * 5 + 1, none⟩ = some (.pointer (some ⟨x k, 0, none⟩)) ∧ wr.cell? ⟨g, k * 5 + 2, none⟩ = some (.int .i64 (r k)) ∧
      wr.cell? ⟨g, k * 5 + 3, none⟩ = some (.int .i64 (bu k)) ∧ wr.cell? ⟨g, k * 5 + 4, none⟩ = some (.int .i64 (l k)))
    (hck : ∀ k wr, R k wr → wr.cell? ⟨b, 1, none⟩ = some (.int .i64 ck))
    (hkd : ∀ k, k < n → kd k = 0 ∨ kd k = 1 ∨ kd k = 2)
    (hAdd : ∀ k wr o m, R k wr → k < n → kd k = 0 → Calls Tryd.prog 80 #[.pointer (some ⟨x k, 0, none⟩), .int .i64 (r k), .int .i64 (bu k), .int .i64 ck] ((wr.alloc o).drewN m) fun e w' => e = .returned (.tuple #[]) ∧ R (k + 1) w' ∧ w'.heap[wr.heap.size]? = some o)
    (hSet : ∀ k wr o m, R k wr → k < n → kd k = 1 → Calls Tryd.prog 81 #[.pointer (some ⟨x k, 0, none⟩), .int .i64 (r k), .int .i64 (bu k), .int .i64 (l k), .int .i64 ck] ((wr.alloc o).drewN m) fun e w' => e = .returned (.tuple #[]) ∧ R1 k w' ∧ w'.cell? ⟨b, 1, none⟩ = some (.int .i64 ck) ∧ w'.heap[wr.heap.size]? = some o)
    (hArm : ∀ k wr, R1 k wr → k < n → Calls Tryd.prog 82 #[.pointer (some ⟨b, 0, none⟩), .pointer (some ⟨x k, 0, none⟩)] wr fun e w' => e = .returned (.tuple #[]) ∧ R (k + 1) w')
    (hEnq : ∀ k wr o, R k wr → k < n → kd k = 2 → ∃ a : Nat, a < 100 ∧ (wr.alloc o).cell? ⟨x k, 6, none⟩ = some (.int .i64 (a : Int)) ∧ (wr.alloc o).frozen? ⟨x k, 6, none⟩ = false ∧
      (a = 0 → Calls Tryd.prog 82 #[.pointer (some ⟨b, 0, none⟩), .pointer (some ⟨x k, 0, none⟩)] ((wr.alloc o).setCell ⟨x k, 6, none⟩ (.int .i64 ((a : Int) + 1))) fun e w' => e = .returned (.tuple #[]) ∧ R (k + 1) w') ∧
      (a ≠ 0 → R (k + 1) ((wr.alloc o).setCell ⟨x k, 6, none⟩ (.int .i64 ((a : Int) + 1)))))
    (hEnd : ∀ wr, R n wr → (∃ v, wr.cell? ⟨b, 4, none⟩ = some v) ∧ wr.frozen? ⟨b, 4, none⟩ = false) :
    Calls Tryd.prog 57 #[.pointer (some ⟨b, 0, none⟩)] w fun e w' => e = .returned (.tuple #[]) ∧ ∃ wr, R n wr ∧ w' = wr.setCell ⟨b, 4, none⟩ (.slice none 0 0) := by
  have H0 := hide h0; have HCe := hide hcell; have HCk := hide hck; have HKd := hide hkd; have HAdd := hide hAdd; have HSet := hide hSet; have HArm := hide hArm; have HEnq := hide hEnq; have HEnd := hide hEnd
  clear h0 hcell hck hkd hAdd hSet hArm hEnq hEnd
  rw [hpv] at h4
  go_enter Tryd.func57, Tryd.ntmps57
  go_wp2_with fail
  go_loopg [10] n (fun gk i wr => ∃ k : Nat, i = .int .i64 (k : Int) ∧ gk = n - k ∧ k ≤ n ∧ R k wr)
  case atStart => exact ⟨0, rfl, rfl, Nat.zero_le _, unhide H0⟩
  case round =>
    obtain ⟨k, hu, hgk, hkn, hR⟩ := hrel
    rw [hu]
    clear hu
    have HR := hide hR; have HGK := hide hgk
    clear hR hgk
    by_cases hk : k < n
    · have hki : (k : Int) < (n : Int) := by omega
      have hk0 : (0 : Int) ≤ (k : Int) := by omega
      obtain ⟨g, ha3, c0, c1, c2, c3, c4⟩ := unhide HCe k wr (unhide HR) hk
      have hck := unhide HCk k wr (unhide HR)
      generalize hkd : kd k = kdk at c0
      generalize hrk : r k = rk at c2
      generalize hbk : bu k = bk at c3
      generalize hlk : l k = lk at c4
      generalize hxk : x k = xk at c1
      subst ha3
      have hcases : kdk = 0 ∨ kdk = 1 ∨ kdk = 2 := by rw [← hkd]; exact unhide HKd k hk
      have HE := hide (And.intro hkd (And.intro hrk (And.intro hbk (And.intro hlk hxk))))
      clear hkd hrk hbk hlk hxk
      rcases hcases with rfl | rfl | rfl
      · have HC := hide (show Calls Tryd.prog 80 #[.pointer (some ⟨xk, 0, none⟩), .int .i64 rk, .int .i64 bk, .int .i64 ck] ((wr.alloc (.cells #[.int .i64 0, .pointer (some ⟨xk, 0, none⟩), .int .i64 rk, .int .i64 bk, .int .i64 lk] 136)).drewN 1) (fun e w' => e = .returned (.tuple #[]) ∧ R (k + 1) w' ∧ w'.heap[wr.heap.size]? = some (.cells #[.int .i64 0, .pointer (some ⟨xk, 0, none⟩), .int .i64 rk, .int .i64 bk, .int .i64 lk] 136)) by
          obtain ⟨e1, e2, e3, e4, e5⟩ := unhide HE
          have := unhide HAdd k wr (.cells #[.int .i64 0, .pointer (some ⟨xk, 0, none⟩), .int .i64 rk, .int .i64 bk, .int .i64 lk] 136) 1 (unhide HR) hk e1
          rw [e5, e2, e3] at this
          exact this)
        have hS0 : (wr.alloc (.cells #[.int .i64 0, .pointer (some ⟨xk, 0, none⟩), .int .i64 rk, .int .i64 bk, .int .i64 lk] 136)).cell? ⟨wr.heap.size, 2, none⟩ = some (.int .i64 rk) ∧ (wr.alloc (.cells #[.int .i64 0, .pointer (some ⟨xk, 0, none⟩), .int .i64 rk, .int .i64 bk, .int .i64 lk] 136)).cell? ⟨wr.heap.size, 3, none⟩ = some (.int .i64 bk) ∧ (wr.alloc (.cells #[.int .i64 0, .pointer (some ⟨xk, 0, none⟩), .int .i64 rk, .int .i64 bk, .int .i64 lk] 136)).cell? ⟨b, 1, none⟩ = some (.int .i64 ck) :=
          ⟨(cells5 (heap_alloc_new _ _)).1, (cells5 (heap_alloc_new _ _)).2.1, old_cell hck _⟩
        go_wp2_with fail
        go_region_held3 (fun W => W.cell? ⟨wr.heap.size, 2, none⟩ = some (.int .i64 rk) ∧ W.cell? ⟨wr.heap.size, 3, none⟩ = some (.int .i64 bk) ∧ W.cell? ⟨b, 1, none⟩ = some (.int .i64 ck)) (first | exact hS0 | exact hS1)
          (first | (go_at_call 80; refine (unhide HC).mono ?_; rintro e w1 ⟨rfl, hw1, hh1⟩; have HW1 := hide hw1; have hS1 := (And.intro (cells5 hh1).1 (And.intro (cells5 hh1).2.1 (unhide HCk _ _ hw1))); clear hw1 hh1))
        all_goals go_wp2_with fail
        all_goals
          go_roundg (n - (k + 1))
          case measure => rw [unhide HGK]; omega
          case rel => exact ⟨k + 1, by go_num, rfl, by omega, unhide HW1⟩
      · have HC := hide (show Calls Tryd.prog 81 #[.pointer (some ⟨xk, 0, none⟩), .int .i64 rk, .int .i64 bk, .int .i64 lk, .int .i64 ck] ((wr.alloc (.cells #[.int .i64 1, .pointer (some ⟨xk, 0, none⟩), .int .i64 rk, .int .i64 bk, .int .i64 lk] 136)).drewN 1) (fun e w' => e = .returned (.tuple #[]) ∧ R1 k w' ∧ w'.cell? ⟨b, 1, none⟩ = some (.int .i64 ck) ∧ w'.heap[wr.heap.size]? = some (.cells #[.int .i64 1, .pointer (some ⟨xk, 0, none⟩), .int .i64 rk, .int .i64 bk, .int .i64 lk] 136)) by
          obtain ⟨e1, e2, e3, e4, e5⟩ := unhide HE
          have := unhide HSet k wr (.cells #[.int .i64 1, .pointer (some ⟨xk, 0, none⟩), .int .i64 rk, .int .i64 bk, .int .i64 lk] 136) 1 (unhide HR) hk e1
          rw [e5, e2, e3, e4] at this
          exact this)
        have HAr := hide (show ∀ W, R1 k W → Calls Tryd.prog 82 #[.pointer (some ⟨b, 0, none⟩), .pointer (some ⟨xk, 0, none⟩)] W (fun e w' => e = .returned (.tuple #[]) ∧ R (k + 1) w') by
          intro W hW
          have := unhide HArm k W hW hk
          rw [(unhide HE).2.2.2.2] at this
          exact this)
        have hS0 : (wr.alloc (.cells #[.int .i64 1, .pointer (some ⟨xk, 0, none⟩), .int .i64 rk, .int .i64 bk, .int .i64 lk] 136)).cell? ⟨wr.heap.size, 2, none⟩ = some (.int .i64 rk) ∧ (wr.alloc (.cells #[.int .i64 1, .pointer (some ⟨xk, 0, none⟩), .int .i64 rk, .int .i64 bk, .int .i64 lk] 136)).cell? ⟨wr.heap.size, 3, none⟩ = some (.int .i64 bk) ∧ (wr.alloc (.cells #[.int .i64 1, .pointer (some ⟨xk, 0, none⟩), .int .i64 rk, .int .i64 bk, .int .i64 lk] 136)).cell? ⟨wr.heap.size, 4, none⟩ = some (.int .i64 lk) ∧ (wr.alloc (.cells #[.int .i64 1, .pointer (some ⟨xk, 0, none⟩), .int .i64 rk, .int .i64 bk, .int .i64 lk] 136)).cell? ⟨b, 1, none⟩ = some (.int .i64 ck) :=
          ⟨(cells5 (heap_alloc_new _ _)).1, (cells5 (heap_alloc_new _ _)).2.1, (cells5 (heap_alloc_new _ _)).2.2, old_cell hck _⟩
        go_wp2_with fail
        go_region_held3 (fun W => W.cell? ⟨wr.heap.size, 2, none⟩ = some (.int .i64 rk) ∧ W.cell? ⟨wr.heap.size, 3, none⟩ = some (.int .i64 bk) ∧ W.cell? ⟨wr.heap.size, 4, none⟩ = some (.int .i64 lk) ∧ W.cell? ⟨b, 1, none⟩ = some (.int .i64 ck)) (first | exact hS0 | exact hS1)
          (first | (go_at_call 81; refine (unhide HC).mono ?_; rintro e w1 ⟨rfl, hw1, hb1, hh1⟩; have HW1 := hide hw1; have hS1 := (And.intro (cells5 hh1).1 (And.intro (cells5 hh1).2.1 (And.intro (cells5 hh1).2.2 hb1))); clear hw1 hh1))
        all_goals go_wp2_with fail
        all_goals
          refine (unhide HAr _ (unhide HW1)).mono ?_
          rintro e w2 ⟨rfl, hw2⟩
          have HW2 := hide hw2
          clear hw2
          go_wp2_with fail
          go_roundg (n - (k + 1))
          case measure => rw [unhide HGK]; omega
          case rel => exact ⟨k + 1, by go_num, rfl, by omega, unhide HW2⟩
      · obtain ⟨a, ha, hca, hfa, hz, hnz⟩ := unhide HEnq k wr (.cells #[.int .i64 2, .pointer (some ⟨xk, 0, none⟩), .int .i64 rk, .int .i64 bk, .int .i64 lk] 136) (unhide HR) hk (unhide HE).1
        rw [(unhide HE).2.2.2.2] at hca hfa hz hnz
        have HZ := hide hz; have HNZ := hide hnz
        clear hz hnz
        by_cases h0 : a = 0
        · have ha1 : (a : Int) + 1 = 1 := by omega
          have hz1 := unhide HZ h0
          rw [ha1] at hz1
          have HZ1 := hide hz1
          clear hz1
          go_wp2_with fail
          all_goals
            refine (unhide HZ1).mono ?_
            rintro e w2 ⟨rfl, hw2⟩
            have HW2 := hide hw2
            clear hw2
            go_wp2_with fail
            go_roundg (n - (k + 1))
            case measure => rw [unhide HGK]; omega
            case rel => exact ⟨k + 1, by go_num, rfl, by omega, unhide HW2⟩
        · have ha1 : ((a : Int) + 1 == 1) = false := by simp; omega
          have HNZ1 := hide (unhide HNZ h0)
          go_wp2_with fail
          all_goals
            go_roundg (n - (k + 1))
            case measure => rw [unhide HGK]; omega
            case rel => exact ⟨k + 1, by go_num, rfl, by omega, unhide HNZ1⟩
    · have hki : (k : Int) = (n : Int) := by omega
      obtain ⟨⟨v, hv⟩, hf⟩ := unhide HEnd wr (by have := unhide HR; rwa [show k = n by omega] at this)
      go_wp2_with fail
      go_end0
      exact ⟨rfl, wr, by have := unhide HR; rwa [show k = n by omega] at this, rfl⟩
end Go.Proofs.YtogdekjklbbbiaaDoor
