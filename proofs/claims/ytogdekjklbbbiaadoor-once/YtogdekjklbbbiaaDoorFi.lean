import Derived.Test.YtogdekjklbbbiaaDoorDel
set_option maxRecDepth 100000
namespace Go.Proofs.YtogdekjklbbbiaaDoor
open Go.ChangeShapes Go.WideShapes Go.ChangeAt Go.RowKit
set_option linter.unusedSimpArgs false
set_option linter.unusedVariables false

theorem info136 : (Tryd.prog.info? 136).map (fun i => (i.zero, i.size, i.bytes)) = some (some (.agg #[.int .i64 0, .pointer none, .int .i64 0, .int .i64 0, .int .i64 0]), 5, 40) := by kernel_rfl
set_option maxHeartbeats 1000000 in
theorem allowed_walk (r bu : Int) (w : World) : Calls Tryd.prog 48 #[.int .i64 r, .int .i64 bu] w fun e w' => e = .returned (.bool (decide (Pace.allowed r bu))) ∧ w' = w := by
  by_cases h1 : 0 ≤ r
  · by_cases h2 : r ≤ 1000000000
    · by_cases h3 : 1500 ≤ bu
      · by_cases h4 : bu ≤ 1000000
        · rw [show decide (Pace.allowed r bu) = true from decide_eq_true ⟨h1, h2, h3, h4⟩]
          go_enter Tryd.func48, Tryd.ntmps48
          go_wp2_with fail
          go_ret
          exact ⟨rfl, rfl⟩
        · rw [show decide (Pace.allowed r bu) = false from decide_eq_false fun q => h4 q.2.2.2]
          have h4' : decide (bu ≤ 1000000) = false := decide_eq_false h4
          go_enter Tryd.func48, Tryd.ntmps48
          go_wp2_with fail
          go_ret
          exact ⟨rfl, rfl⟩
      · rw [show decide (Pace.allowed r bu) = false from decide_eq_false fun q => h3 q.2.2.1]
        have h3' : decide (1500 ≤ bu) = false := decide_eq_false h3
        go_enter Tryd.func48, Tryd.ntmps48
        go_wp2_with fail
        go_ret
        exact ⟨rfl, rfl⟩
    · rw [show decide (Pace.allowed r bu) = false from decide_eq_false fun q => h2 q.2.1]
      have h2' : decide (r ≤ 1000000000) = false := decide_eq_false h2
      go_enter Tryd.func48, Tryd.ntmps48
      go_wp2_with fail
      go_ret
      exact ⟨rfl, rfl⟩
  · rw [show decide (Pace.allowed r bu) = false from decide_eq_false fun q => h1 q.1]
    have h1' : decide (0 ≤ r) = false := decide_eq_false h1
    go_enter Tryd.func48, Tryd.ntmps48
    go_wp2_with fail
    go_ret
    exact ⟨rfl, rfl⟩
set_option maxHeartbeats 1000000 in
theorem new_bad (q : Int) (w : World) (h : q < 1500 ∨ 1000000 < q) : Calls Tryd.prog 20 #[.int .i64 q] w fun e w' => e = .returned (.tuple #[.pointer none, .int .i64 1]) ∧ w' = w := by
  by_cases h1 : q < 1500
  · go_enter Tryd.func20, Tryd.ntmps20
    go_wp2_with fail
    go_ret2
    exact ⟨rfl, rfl⟩
  · have h1' : decide (q < 1500) = false := decide_eq_false h1
    have h2 : 1000000 < q := by omega
    go_enter Tryd.func20, Tryd.ntmps20
    go_wp2_with fail
    go_ret2
    exact ⟨rfl, rfl⟩
set_option maxHeartbeats 1000000 in
theorem new_good (q : Int) (w : World) (R : Nat → World → Prop) (h1 : 1500 ≤ q) (h2 : q ≤ 1000000) (hN : Calls Tryd.prog 9 #[] w fun e w' => ∃ wb, e = .returned (.pointer (some ⟨wb, 0, none⟩)) ∧ R wb w') :
    Calls Tryd.prog 20 #[.int .i64 q] w fun e w' => ∃ wb w1, R wb w1 ∧ e = .returned (.tuple #[.pointer (some ⟨w1.heap.size, 0, none⟩), .int .i64 0]) ∧ w' = w1.alloc (.cells #[.int .i64 q, .int .i64 0, .int .i64 0, .slice none 0 0, .slice none 0 0, .pointer (some ⟨wb, 0, none⟩), .int .i64 0, .int .i64 0, .int .i64 0, .int .i64 0, .int .i64 0, .int .i64 0, .int .u32 0, .int .i32 0, .int .u32 0, .bool false] 130) := by
  have HN := hide hN
  clear hN
  have h1' : decide (q < 1500) = false := decide_eq_false (by omega)
  have h2' : decide (1000000 < q) = false := decide_eq_false (by omega)
  go_enter Tryd.func20, Tryd.ntmps20
  go_wp2_with fail
  refine (unhide HN).mono ?_
  rintro e w1 ⟨wb, rfl, hw1⟩
  have HW1 := hide hw1
  clear hw1
  go_wp2_with fail
  go_ret2
  exact ⟨wb, w1, unhide HW1, rfl, rfl⟩
set_option maxHeartbeats 1000000 in
theorem next_pend (b : Nat) (ck : Int) (a : Option Addr) (n c : Nat) (w : World) (h15 : w.cell? ⟨b, 15, none⟩ = some (.bool false)) (h4 : w.cell? ⟨b, 4, none⟩ = some (.slice a n c)) (hn : 0 < n) (h1 : w.cell? ⟨b, 1, none⟩ = some (.int .i64 ck)) :
    Calls Tryd.prog 26 #[.pointer (some ⟨b, 0, none⟩)] w fun e w' => e = .returned (.int .i64 ck) ∧ w' = w := by
  have hn' : (0 : Int) < (n : Int) := by omega
  go_enter Tryd.func26, Tryd.ntmps26
  go_wp2_with fail
  go_ret
  exact ⟨rfl, rfl⟩
set_option maxHeartbeats 1000000 in
theorem next_wheel (b wb : Nat) (a : Option Addr) (c : Nat) (w : World) (Post : Int → World → Prop) (h15 : w.cell? ⟨b, 15, none⟩ = some (.bool false)) (h4 : w.cell? ⟨b, 4, none⟩ = some (.slice a 0 c)) (h5 : w.cell? ⟨b, 5, none⟩ = some (.pointer (some ⟨wb, 0, none⟩)))
    (hW : Calls Tryd.prog 16 #[.pointer (some ⟨wb, 0, none⟩)] w fun e w' => ∃ v : Int, e = .returned (.int .i64 v) ∧ Post v w') :
    Calls Tryd.prog 26 #[.pointer (some ⟨b, 0, none⟩)] w fun e w' => ∃ v : Int, e = .returned (.int .i64 v) ∧ Post v w' := by
  have HW := hide hW
  clear hW
  go_enter Tryd.func26, Tryd.ntmps26
  go_wp2_with fail
  refine (unhide HW).mono ?_
  rintro e w1 ⟨v, rfl, hw1⟩
  have HW1 := hide hw1
  clear hw1
  go_wp2_with fail
  go_ret
  exact ⟨v, rfl, unhide HW1⟩
set_option maxHeartbeats 1000000 in
theorem next_closed (b : Nat) (w : World) (h15 : w.cell? ⟨b, 15, none⟩ = some (.bool true)) :
    Calls Tryd.prog 26 #[.pointer (some ⟨b, 0, none⟩)] w fun e w' => e = .returned (.int .i64 (-1)) ∧ w' = w := by
  go_enter Tryd.func26, Tryd.ntmps26
  go_wp2_with fail
  go_ret
  exact ⟨rfl, rfl⟩
set_option maxHeartbeats 1000000 in
theorem poll_bad (b : Nat) (now bud : Int) (w : World) (h15 : w.cell? ⟨b, 15, none⟩ = some (.bool false)) (hn : 4000000000000000000 < now) :
    Calls Tryd.prog 25 #[.pointer (some ⟨b, 0, none⟩), .int .i64 now, .int .i64 bud] w fun e w' => e = .returned (.tuple #[.slice none 0 0, .int .i64 1]) ∧ w' = w := by
  go_enter Tryd.func25, Tryd.ntmps25
  go_wp2_with fail
  go_ret2
  exact ⟨rfl, rfl⟩
set_option maxHeartbeats 1000000 in
theorem poll_good (b : Nat) (now bud ck : Int) (w : World) (R : World → Prop) (Post : Value → World → Prop) (h15 : w.cell? ⟨b, 15, none⟩ = some (.bool false)) (h1 : w.cell? ⟨b, 1, none⟩ = some (.int .i64 ck)) (hf : w.frozen? ⟨b, 1, none⟩ = false) (hn : now ≤ 4000000000000000000)
    (hA : Calls Tryd.prog 57 #[.pointer (some ⟨b, 0, none⟩)] (w.setCell ⟨b, 1, none⟩ (.int .i64 (max ck now))) fun e w' => e = .returned (.tuple #[]) ∧ R w')
    (hR : ∀ w1, R w1 → Calls Tryd.prog 58 #[.pointer (some ⟨b, 0, none⟩), .int .i64 bud] w1 fun e w' => ∃ v, e = .returned v ∧ Post v w') :
    Calls Tryd.prog 25 #[.pointer (some ⟨b, 0, none⟩), .int .i64 now, .int .i64 bud] w fun e w' => ∃ v, e = .returned (.tuple #[v, .int .i64 0]) ∧ Post v w' := by
  have hn' : decide (4000000000000000000 < now) = false := decide_eq_false (by omega)
  have HA := hide hA; have HR := hide hR
  clear hA hR
  go_enter Tryd.func25, Tryd.ntmps25
  by_cases hm : ck ≤ now
  · have hmx : max ck now = now := by omega
    have HA1 := unhide HA
    rw [hmx] at HA1
    have HA2 := hide HA1
    clear HA1 hmx
    go_wp2_with fail
    all_goals
      first
        | refine (unhide HA2).mono ?_
        | (obtain rfl : ck = now := by omega
           refine (unhide HA2).mono ?_)
      rintro e w1 ⟨rfl, hw1⟩
      have HR1 := hide (unhide HR _ hw1)
      clear hw1
      go_wp2_with fail
      refine (unhide HR1).mono ?_
      rintro e w2 ⟨v, rfl, hw2⟩
      have HW2 := hide hw2
      clear hw2
      go_wp2_with fail
      go_ret2
      exact ⟨v, rfl, unhide HW2⟩
  · have hmx : max ck now = ck := by omega
    have HA1 := unhide HA
    rw [hmx] at HA1
    have HA2 := hide HA1
    clear HA1 hmx
    go_wp2_with fail
    all_goals
      refine (unhide HA2).mono ?_
      rintro e w1 ⟨rfl, hw1⟩
      have HR1 := hide (unhide HR _ hw1)
      clear hw1
      go_wp2_with fail
      refine (unhide HR1).mono ?_
      rintro e w2 ⟨v, rfl, hw2⟩
      have HW2 := hide hw2
      clear hw2
      go_wp2_with fail
      go_ret2
      exact ⟨v, rfl, unhide HW2⟩
set_option maxHeartbeats 1000000 in
theorem enq_good (b : Nat) (f t l : Int) (tk : Nat) (w : World) (R : World → Prop) (hT : Calls Tryd.prog 51 #[.pointer (some ⟨b, 0, none⟩), .int .i64 f, .int .i64 t, .int .i64 l] w fun e w' => e = .returned (.int .i64 0) ∧ R w')
    (hR : ∀ w1, R w1 → w1.cell? ⟨b, 6, none⟩ = some (.int .i64 (tk : Int)) ∧ w1.frozen? ⟨b, 6, none⟩ = false) (htk : tk < 9000000000000000000) :
    Calls Tryd.prog 23 #[.pointer (some ⟨b, 0, none⟩), .int .i64 f, .int .i64 t, .int .i64 l] w fun e w' => e = .returned (.int .i64 0) ∧ ∃ w1, R w1 ∧ w' = w1.setCell ⟨b, 6, none⟩ (.int .i64 ((tk : Int) + 1)) := by
  have HT := hide hT; have HR := hide hR
  clear hT hR
  go_enter Tryd.func23, Tryd.ntmps23
  go_wp2_with fail
  refine (unhide HT).mono ?_
  rintro e w1 ⟨rfl, hw1⟩
  obtain ⟨h6, hf⟩ := unhide HR _ hw1
  have HW := hide hw1
  clear hw1
  go_wp2_with fail
  all_goals
    go_ret
    exact ⟨rfl, w1, unhide HW, rfl⟩
set_option maxHeartbeats 1000000 in
theorem enq_bad (b : Nat) (f t l : Int) (er : Int) (rf : Nat) (w : World) (her : er ≠ 0) (hT : Calls Tryd.prog 51 #[.pointer (some ⟨b, 0, none⟩), .int .i64 f, .int .i64 t, .int .i64 l] w fun e w' => e = .returned (.int .i64 er) ∧ w' = w)
    (h7 : w.cell? ⟨b, 7, none⟩ = some (.int .i64 (rf : Int))) (hf : w.frozen? ⟨b, 7, none⟩ = false) (hrf : rf < 9000000000000000000) :
    Calls Tryd.prog 23 #[.pointer (some ⟨b, 0, none⟩), .int .i64 f, .int .i64 t, .int .i64 l] w fun e w' => e = .returned (.int .i64 er) ∧ w' = w.setCell ⟨b, 7, none⟩ (.int .i64 ((rf : Int) + 1)) := by
  have HT := hide hT
  clear hT
  go_enter Tryd.func23, Tryd.ntmps23
  go_wp2_with fail
  refine (unhide HT).mono ?_
  rintro e w1 ⟨rfl, hw1⟩
  rw [hw1]
  clear hw1
  go_wp2_with fail
  all_goals
    go_ret
    exact ⟨rfl, rfl⟩
end Go.Proofs.YtogdekjklbbbiaaDoor
