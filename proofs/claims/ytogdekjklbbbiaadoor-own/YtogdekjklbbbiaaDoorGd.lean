import Derived.Test.YtogdekjklbbbiaaDoorLb
set_option maxRecDepth 100000
namespace Go.Proofs.YtogdekjklbbbiaaDoor
open Go.ChangeShapes Go.WideShapes Go.ChangeAt Go.RowKit
set_option linter.unusedSimpArgs false
set_option linter.unusedVariables false

set_option maxHeartbeats 4000000 in
theorem own_walk (q : Int) (sa : Option Addr) (n cp : Nat) (w : World) (hb : n < 8796093022208) (hsa : 0 < n → ∃ g o, sa = some ⟨g, o, none⟩) (op : Nat → OpV)
    (Ra Rb : World → Prop) (Rn : Nat → World → Prop) (R Rm : Nat → Nat → Nat → World → Prop) (R4 R5 : Nat → Nat → Nat → Value → World → Prop) (G4 G5 : Nat → Nat → Nat → Value → Value → World → Prop) (RC : Nat → Nat → Value → World → Prop) (RD : Nat → Nat → Value → Value → World → Prop) (Post : World → Prop)
    (hAl : Calls Tryd.prog 17 #[] w fun e w' => e = .returned (.bool true) ∧ Ra w')
    (hN : ∀ w1, Ra w1 → Calls Tryd.prog 20 #[.int .i64 q] w1 fun e w' => (e = .returned (.tuple #[.pointer none, .int .i64 1]) ∧ (q < 1500 ∨ 1000000 < q) ∧ Rb w') ∨ ∃ a, e = .returned (.tuple #[.pointer (some ⟨a, 0, none⟩), .int .i64 0]) ∧ Rn a w')
    (hN1 : ∀ w1, Rb w1 → Calls Tryd.prog 20 #[.int .i64 q] w1 fun e w' => e = .returned (.tuple #[.pointer none, .int .i64 1]) ∧ Post w')
    (hN2 : ∀ a w1, Rn a w1 → Calls Tryd.prog 20 #[.int .i64 q] w1 fun e w' => ∃ b, e = .returned (.tuple #[.pointer (some ⟨b, 0, none⟩), .int .i64 0]) ∧ R a b 0 w')
    (hC : ∀ a b k wr, R a b k wr → k < n → ∀ g o, sa = some ⟨g, o, none⟩ → wr.cell? ⟨g, o + k * 6, none⟩ = some (.int .i64 (op k).k) ∧ wr.cell? ⟨g, o + k * 6 + 1, none⟩ = some (.int .i64 (op k).a) ∧ wr.cell? ⟨g, o + k * 6 + 2, none⟩ = some (.int .i64 (op k).b) ∧ wr.cell? ⟨g, o + k * 6 + 3, none⟩ = some (.int .i64 (op k).c) ∧ wr.cell? ⟨g, o + k * 6 + 4, none⟩ = some (.int .i64 (op k).w) ∧ wr.cell? ⟨g, o + k * 6 + 5, none⟩ = some (.slice (op k).sa (op k).sn (op k).sc))
    (hA : ∀ a b k wr, R a b k wr → k < n → (op k).k = 1 → Calls Tryd.prog 21 #[.pointer (some ⟨a, 0, none⟩), .int .i64 (op k).a, .int .i64 (op k).b] (wr.alloc (op k).obj) fun e w' => ∃ v1 v2 : Int, e = .returned (.tuple #[.int .i64 v1, .int .i64 v2]) ∧ Rm a b k w' ∧ w'.heap[wr.heap.size]? = some (op k).obj)
    (hA2 : ∀ a b k wr, Rm a b k wr → k < n → (op k).k = 1 → Calls Tryd.prog 21 #[.pointer (some ⟨b, 0, none⟩), .int .i64 (op k).a, .int .i64 (op k).b] wr fun e w' => ∃ v1 v2 : Int, e = .returned (.tuple #[.int .i64 v1, .int .i64 v2]) ∧ R a b (k + 1) w')
    (hS : ∀ a b k wr, R a b k wr → k < n → (op k).k = 2 → Calls Tryd.prog 22 #[.pointer (some ⟨a, 0, none⟩), .int .i64 (op k).a, .int .i64 (op k).b, .int .i64 (op k).c] (wr.alloc (op k).obj) fun e w' => ∃ v2 : Int, e = .returned (.int .i64 v2) ∧ Rm a b k w' ∧ w'.heap[wr.heap.size]? = some (op k).obj)
    (hS2 : ∀ a b k wr, Rm a b k wr → k < n → (op k).k = 2 → Calls Tryd.prog 22 #[.pointer (some ⟨b, 0, none⟩), .int .i64 (op k).a, .int .i64 (op k).b, .int .i64 (op k).c] wr fun e w' => ∃ v2 : Int, e = .returned (.int .i64 v2) ∧ R a b (k + 1) w')
    (hQ : ∀ a b k wr, R a b k wr → k < n → (op k).k = 3 → Calls Tryd.prog 23 #[.pointer (some ⟨a, 0, none⟩), .int .i64 (op k).a, .int .i64 (op k).b, .int .i64 (op k).c] (wr.alloc (op k).obj) fun e w' => ∃ v2 : Int, e = .returned (.int .i64 v2) ∧ Rm a b k w' ∧ w'.heap[wr.heap.size]? = some (op k).obj)
    (hQ2 : ∀ a b k wr, Rm a b k wr → k < n → (op k).k = 3 → Calls Tryd.prog 23 #[.pointer (some ⟨b, 0, none⟩), .int .i64 (op k).a, .int .i64 (op k).b, .int .i64 (op k).c] wr fun e w' => ∃ v2 : Int, e = .returned (.int .i64 v2) ∧ R a b (k + 1) w')
    (hM : ∀ a b k wr, R a b k wr → k < n → (op k).k = 4 → Calls Tryd.prog 24 #[.pointer (some ⟨a, 0, none⟩), .int .i64 (op k).a] (wr.alloc (op k).obj) fun e w' => ∃ v v2, e = .returned (.tuple #[v, .int .i64 v2]) ∧ R4 a b k v w' ∧ w'.heap[wr.heap.size]? = some (op k).obj)
    (hM2 : ∀ a b k v wr, R4 a b k v wr → k < n → (op k).k = 4 → Calls Tryd.prog 24 #[.pointer (some ⟨b, 0, none⟩), .int .i64 (op k).a] wr fun e w' => ∃ u v2, e = .returned (.tuple #[u, .int .i64 v2]) ∧ G4 a b k v u w')
    (hMs : ∀ a b k v u wr, G4 a b k v u wr → (∃ x y z, v = .slice x y z) ∧ (∃ x y z, u = .slice x y z))
    (hMG : ∀ a b k v u wr, G4 a b k v u wr → k < n → Calls Tryd.prog 30 #[.slice (some ⟨wr.heap.size, 0, none⟩) 1 1, .slice (some ⟨wr.heap.size + 1, 0, none⟩) 1 1] ((wr.alloc (.cells #[.int .i64 0, .int .i64 0, v] 67)).alloc (.cells #[.int .i64 0, .int .i64 0, u] 67)) fun e w' => e = .returned (.bool true) ∧ R a b (k + 1) w')
    (hP : ∀ a b k wr, R a b k wr → k < n → (op k).k = 5 → Calls Tryd.prog 25 #[.pointer (some ⟨a, 0, none⟩), .int .i64 (op k).a, .int .i64 (op k).b] (wr.alloc (op k).obj) fun e w' => ∃ v v2, e = .returned (.tuple #[v, .int .i64 v2]) ∧ R5 a b k v w' ∧ w'.heap[wr.heap.size]? = some (op k).obj)
    (hP2 : ∀ a b k v wr, R5 a b k v wr → k < n → (op k).k = 5 → Calls Tryd.prog 25 #[.pointer (some ⟨b, 0, none⟩), .int .i64 (op k).a, .int .i64 (op k).b] wr fun e w' => ∃ u v2, e = .returned (.tuple #[u, .int .i64 v2]) ∧ G5 a b k v u w')
    (hPG : ∀ a b k v u wr, G5 a b k v u wr → k < n → Calls Tryd.prog 30 #[v, u] wr fun e w' => e = .returned (.bool true) ∧ R a b (k + 1) w')
    (hOth : ∀ a b k wr, R a b k wr → k < n → R a b (k + 1) (wr.alloc (op k).obj))
    (hCl : ∀ a b wr, R a b n wr → Calls Tryd.prog 31 #[.pointer (some ⟨a, 0, none⟩)] wr fun e w' => ∃ v, e = .returned (.tuple #[v, .int .i64 0]) ∧ RC a b v w')
    (hCl2 : ∀ a b v wr, RC a b v wr → Calls Tryd.prog 31 #[.pointer (some ⟨b, 0, none⟩)] wr fun e w' => ∃ u, e = .returned (.tuple #[u, .int .i64 0]) ∧ RD a b v u w')
    (hClG : ∀ a b v u wr, RD a b v u wr → Calls Tryd.prog 30 #[v, u] wr fun e w' => e = .returned (.bool true) ∧ Post w') :
    Calls Tryd.prog 8 #[.int .i64 q, .slice sa n cp] w fun e w' => e = .returned (.bool true) ∧ Post w' := by
  have HAl := hide hAl; have HN := hide hN; have HN1 := hide hN1; have HN2 := hide hN2; have HC := hide hC; have HA := hide hA; have HA2 := hide hA2; have HS := hide hS; have HS2 := hide hS2; have HQ := hide hQ; have HQ2 := hide hQ2; have HM := hide hM; have HM2 := hide hM2; have HMs := hide hMs; have HMG := hide hMG; have HP := hide hP; have HP2 := hide hP2; have HPG := hide hPG; have HOth := hide hOth; have HCl := hide hCl; have HCl2 := hide hCl2; have HClG := hide hClG; have HSA := hide hsa
  clear hAl hN hN1 hN2 hC hA hA2 hS hS2 hQ hQ2 hM hM2 hMs hMG hP hP2 hPG hOth hCl hCl2 hClG hsa
  go_enter Tryd.func8, Tryd.ntmps8
  go_wp2_with fail
  refine (unhide HAl).mono ?_
  rintro e w1 ⟨rfl, hw1⟩
  have HW1 := hide hw1
  clear hw1
  go_wp2_with fail
  refine (unhide HN _ (unhide HW1)).mono ?_
  rintro e w2 (⟨rfl, hq, hp⟩ | ⟨a, rfl, hR⟩)
  · have HP1 := hide hp
    clear hp
    go_wp2_with fail
    refine (unhide HN1 _ (unhide HP1)).mono ?_
    rintro e w3 ⟨rfl, hp⟩
    have HPo := hide hp
    clear hp
    rcases hq with hq | hq
    · go_wp2_with (first | (go_at_call 12; refine (num_any _ _).mono ?_; rintro e w8 ⟨rfl, rfl⟩))
      all_goals
        go_ret
        exact ⟨rfl, unhide HPo⟩
    · have hq' : decide (q < 1500) = false := decide_eq_false (by omega)
      go_wp2_with (first | (go_at_call 12; refine (num_any _ _).mono ?_; rintro e w8 ⟨rfl, rfl⟩))
      all_goals
        go_ret
        exact ⟨rfl, unhide HPo⟩
  · have HRn := hide hR
    clear hR
    go_wp2_with fail
    refine (unhide HN2 _ _ (unhide HRn)).mono ?_
    rintro e w3 ⟨b, rfl, hR⟩
    have HR := hide hR
    have hnila := eqp_nil w3 a
    have hnilb := eqp_nil w3 b
    clear hR
    go_wp2_with (first | (go_at_call 12; refine (num_any _ _).mono ?_; rintro e w8 ⟨rfl, rfl⟩))
    go_loopg [9] n (fun gk vi wr => ∃ k : Nat, vi = .int .i64 (k : Int) ∧ gk = n - k ∧ k ≤ n ∧ R a b k wr)
    case atStart => exact ⟨0, rfl, rfl, Nat.zero_le _, unhide HR⟩
    case round =>
      obtain ⟨k, hvi, hgk, hkn, hRk⟩ := hrel
      rw [hvi]
      clear hvi HR hnila hnilb
      have HG := hide hgk; have HRk := hide hRk
      clear hgk hRk
      by_cases hk : k < n
      · have hki : (k : Int) < (n : Int) := by omega
        have hk0 : (0 : Int) ≤ (k : Int) := by omega
        have hcs := unhide HC _ _ _ _ (unhide HRk) hk
        obtain ⟨g, o, rfl⟩ := unhide HSA (by omega)
        obtain ⟨e0, e1, e2, e3, e4, e5⟩ := hcs g o rfl
        have HOp := hide (And.intro (unhide HA a b k wr (unhide HRk) hk) (And.intro (unhide HS a b k wr (unhide HRk) hk) (And.intro (unhide HQ a b k wr (unhide HRk) hk) (And.intro (unhide HM a b k wr (unhide HRk) hk) (And.intro (unhide HP a b k wr (unhide HRk) hk) (unhide HOth a b k wr (unhide HRk) hk))))))
        have HOp2 := hide (And.intro (fun w' h => unhide HA2 a b k w' h hk) (And.intro (fun w' h => unhide HS2 a b k w' h hk) (And.intro (fun w' h => unhide HQ2 a b k w' h hk) (And.intro (fun v w' h => unhide HM2 a b k v w' h hk) (fun v w' h => unhide HP2 a b k v w' h hk)))))
        have HOb : Hid ((op k).obj = .cells #[.int .i64 (op k).k, .int .i64 (op k).a, .int .i64 (op k).b, .int .i64 (op k).c, .int .i64 (op k).w, .slice (op k).sa (op k).sn (op k).sc] 56) := rfl
        generalize (op k).obj = ob at HOp HOb
        generalize (op k).k = kk at HOp HOp2 HOb e0
        generalize (op k).a = xa at HOp HOp2 HOb e1
        generalize (op k).b = xb at HOp HOp2 HOb e2
        generalize (op k).c = xc at HOp HOp2 HOb e3
        generalize (op k).w = xw at HOp HOb e4
        generalize (op k).sa = s1 at HOp HOb e5
        generalize (op k).sn = s2 at HOp HOb e5
        generalize (op k).sc = s3 at HOp HOb e5
        obtain rfl := unhide HOb
        clear hcs HOb
        by_cases k1 : kk = 1
        · have HCall := hide ((unhide HOp).1 k1)
          have HCall2 := hide (fun w' h => (unhide HOp2).1 w' h k1)
          subst k1
          clear HOp HOp2
          go_wp2_with fail
          refine (unhide HCall).mono ?_
          rintro e w5 ⟨v1, v2, rfl, hR5, hh5⟩
          have HR5 := hide hR5
          obtain ⟨d1, d2, d3⟩ := cells6 hh5
          clear hR5
          go_wp2_with fail
          refine (unhide HCall2 _ (unhide HR5)).mono ?_
          rintro e w6 ⟨v3, v4, rfl, hR6⟩
          have HR6 := hide hR6
          clear hR6 d1 d2 d3 hh5
          go_wp2_with fail
          go_roundg (n - (k + 1))
          case measure => rw [unhide HG]; omega
          case rel => exact ⟨k + 1, by go_num, rfl, by omega, unhide HR6⟩
        have j1 : (kk == 1) = false := by simp [k1]
        by_cases k2 : kk = 2
        · have HCall := hide ((unhide HOp).2.1 k2)
          have HCall2 := hide (fun w' h => (unhide HOp2).2.1 w' h k2)
          subst k2
          clear HOp HOp2
          go_wp2_with fail
          refine (unhide HCall).mono ?_
          rintro e w5 ⟨v2, rfl, hR5, hh5⟩
          have HR5 := hide hR5
          obtain ⟨d1, d2, d3⟩ := cells6 hh5
          clear hR5
          go_wp2_with fail
          refine (unhide HCall2 _ (unhide HR5)).mono ?_
          rintro e w6 ⟨v4, rfl, hR6⟩
          have HR6 := hide hR6
          clear hR6 d1 d2 d3 hh5
          go_wp2_with fail
          go_roundg (n - (k + 1))
          case measure => rw [unhide HG]; omega
          case rel => exact ⟨k + 1, by go_num, rfl, by omega, unhide HR6⟩
        have j2 : (kk == 2) = false := by simp [k2]
        by_cases k3 : kk = 3
        · have HCall := hide ((unhide HOp).2.2.1 k3)
          have HCall2 := hide (fun w' h => (unhide HOp2).2.2.1 w' h k3)
          subst k3
          clear HOp HOp2
          go_wp2_with fail
          refine (unhide HCall).mono ?_
          rintro e w5 ⟨v2, rfl, hR5, hh5⟩
          have HR5 := hide hR5
          obtain ⟨d1, d2, d3⟩ := cells6 hh5
          clear hR5
          go_wp2_with fail
          refine (unhide HCall2 _ (unhide HR5)).mono ?_
          rintro e w6 ⟨v4, rfl, hR6⟩
          have HR6 := hide hR6
          clear hR6 d1 d2 d3 hh5
          go_wp2_with fail
          go_roundg (n - (k + 1))
          case measure => rw [unhide HG]; omega
          case rel => exact ⟨k + 1, by go_num, rfl, by omega, unhide HR6⟩
        have j3 : (kk == 3) = false := by simp [k3]
        by_cases k4 : kk = 4
        · have HCall := hide ((unhide HOp).2.2.2.1 k4)
          have HCall2 := hide (fun v w' h => (unhide HOp2).2.2.2.1 v w' h k4)
          subst k4
          clear HOp HOp2
          go_wp2_with fail
          refine (unhide HCall).mono ?_
          rintro e w5 ⟨v1, v2, rfl, hR5, hh5⟩
          have HR5 := hide hR5
          obtain ⟨d1, d2, d3⟩ := cells6 hh5
          clear hR5
          go_wp2_with fail
          refine (unhide HCall2 _ _ (unhide HR5)).mono ?_
          rintro e w6 ⟨u, v4, rfl, hR6⟩
          obtain ⟨⟨x1, y1, z1, rfl⟩, ⟨x2, y2, z2, rfl⟩⟩ := unhide HMs _ _ _ _ _ _ hR6
          have HGr := hide (unhide HMG _ _ _ _ _ _ hR6 hk)
          clear hR6 d1 d2 d3 hh5 HR5
          go_wp2_with fail
          refine (unhide HGr).mono ?_
          rintro e w7 ⟨rfl, hR7⟩
          have HR7 := hide hR7
          clear hR7
          go_wp2_with fail
          go_roundg (n - (k + 1))
          case measure => rw [unhide HG]; omega
          case rel => exact ⟨k + 1, by go_num, rfl, by omega, unhide HR7⟩
        have j4 : (kk == 4) = false := by simp [k4]
        by_cases k5 : kk = 5
        · have HCall := hide ((unhide HOp).2.2.2.2.1 k5)
          have HCall2 := hide (fun v w' h => (unhide HOp2).2.2.2.2 v w' h k5)
          subst k5
          clear HOp HOp2
          go_wp2_with fail
          refine (unhide HCall).mono ?_
          rintro e w5 ⟨v1, v2, rfl, hR5, hh5⟩
          have HR5 := hide hR5
          obtain ⟨d1, d2, d3⟩ := cells6 hh5
          clear hR5
          go_wp2_with fail
          refine (unhide HCall2 _ _ (unhide HR5)).mono ?_
          rintro e w6 ⟨u, v4, rfl, hR6⟩
          have HGr := hide (unhide HPG _ _ _ _ _ _ hR6 hk)
          clear hR6 d1 d2 d3 hh5 HR5
          go_wp2_with fail
          refine (unhide HGr).mono ?_
          rintro e w7 ⟨rfl, hR7⟩
          have HR7 := hide hR7
          clear hR7
          go_wp2_with fail
          go_roundg (n - (k + 1))
          case measure => rw [unhide HG]; omega
          case rel => exact ⟨k + 1, by go_num, rfl, by omega, unhide HR7⟩
        have j5 : (kk == 5) = false := by simp [k5]
        have HR5 := hide ((unhide HOp).2.2.2.2.2)
        clear HOp HOp2
        go_wp2_with fail
        go_roundg (n - (k + 1))
        case measure => rw [unhide HG]; omega
        case rel => exact ⟨k + 1, by go_num, rfl, by omega, unhide HR5⟩
      · have hki : ¬ (k : Int) < (n : Int) := by omega
        have hkn' : k = n := by omega
        have HRn2 : Hid (R a b n wr) := by rw [← hkn']; exact unhide HRk
        clear hkn'
        go_wp2_with fail
        refine (unhide HCl _ _ _ (unhide HRn2)).mono ?_
        rintro e w5 ⟨v, rfl, hR5⟩
        have HR5 := hide hR5
        clear hR5
        go_wp2_with fail
        refine (unhide HCl2 _ _ _ _ (unhide HR5)).mono ?_
        rintro e w6 ⟨u, rfl, hR6⟩
        have HR6 := hide hR6
        clear hR6
        go_wp2_with fail
        refine (unhide HClG _ _ _ _ _ (unhide HR6)).mono ?_
        rintro e w7 ⟨rfl, hp⟩
        have HPo := hide hp
        clear hp
        go_wp2_with (first | (go_at_call 12; refine (num_any _ _).mono ?_; rintro e w8 ⟨rfl, rfl⟩))
        all_goals
          go_ret
          exact ⟨rfl, unhide HPo⟩
end Go.Proofs.YtogdekjklbbbiaaDoor
