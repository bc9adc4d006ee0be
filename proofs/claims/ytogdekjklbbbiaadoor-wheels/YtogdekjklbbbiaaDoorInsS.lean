import Derived.Test.YtogdekjklbbbiaaDoorSym2
namespace Go.Proofs.YtogdekjklbbbiaaDoor
open Go.ChangeShapes Go.WideShapes Go.ChangeAt Go.RowKit
set_option linter.unusedSimpArgs false
set_option linter.unusedVariables false

/-- What a stable sort of X is. -/
structure Sorted (ats : Nat → Nat) (X M : List Nat) : Prop where
  len : M.length = X.length
  srt : Srt ats M
  fibs : ∀ t, fib ats M t = fib ats X t
theorem Sorted.mem {ats : Nat → Nat} {X M : List Nat} (h : Sorted ats X M) {x : Nat} (hx : x ∈ M) : x ∈ X := by
  have : x ∈ fib ats M (ats x) := by unfold fib; simp [hx]
  rw [h.fibs] at this
  exact (List.mem_filter.1 this).1
theorem Sorted.snoc {ats : Nat → Nat} {X S1 S2 : List Nat} {x : Nat} (h : Sorted ats X (S1 ++ S2)) (h1 : ∀ z, S1.getLast? = some z → ats z ≤ ats x) (h2 : ∀ z ∈ S2, ats x < ats z) : Sorted ats (X ++ [x]) (S1 ++ x :: S2) := by
  have hs := srt_append.1 h.srt
  have h1' : ∀ z ∈ S1, ats z ≤ ats x := by
    intro z hz
    rcases List.eq_nil_or_concat S1 with e | ⟨r, y, e⟩
    · rw [e] at hz; simp at hz
    · have e' : S1 = r ++ [y] := by simpa using e
      have hy := h1 y (by rw [e']; simp)
      rw [e'] at hz hs
      rcases List.mem_append.1 hz with q | q
      · have := (srt_append.1 hs.1).2.2 z q y (by simp)
        omega
      · rw [List.mem_singleton.1 q]; exact hy
  have hm := merged_right ats x S1 S2 h.srt h1' h2
  refine ⟨by have := hm.len; have := h.len; simp at *; omega, hm.srt, fun t => ?_⟩
  rw [hm.fibs, h.fibs, fib_append]

set_option maxRecDepth 100000 in
set_option maxHeartbeats 4000000 in
theorem ins_any (g cap a b len : Nat) (P X Q : List Nat) (ats : Nat → Nat) (w : World) (hD : RowL w g (P ++ X ++ Q)) (hlen : len = (P ++ X ++ Q).length) (ha : a = P.length) (hb : b = P.length + X.length) (hl : len < 2305843009213693952) (hK : Keys w g ats X) (fz : ∀ o, w.frozen? ⟨g, o, none⟩ = false) :
    Calls Tryd.prog 101 #[.slice (some ⟨g, 0, none⟩) len cap, .int .i64 (a : Int), .int .i64 (b : Int), .func (.func 74) #[] #[]] w fun e w' => e = .returned (.tuple #[]) ∧ ∃ M, Sorted ats X M ∧ SW w w' g (P ++ M ++ Q) := by
  have hbl : b ≤ len := by simp at hlen; omega
  have hab : a ≤ b := by omega
  have HA := hide ha; have HB := hide hb; have HL := hide hlen; have HK := hide hK; have HF := hide fz; have HD := hide hD
  clear ha hb hlen hK fz hD
  go_enter Tryd.func101, Tryd.ntmps101
  go_wp2
  go_loopw [8] (fun i wr => ∃ I : Nat, i = .int .i64 (I : Int) ∧ a + 1 ≤ I ∧ I ≤ len + 1 ∧ ∃ X1 X2 S, X = X1 ++ X2 ∧ ((b = a ∧ X2 = []) ∨ (X1.length = I - a ∧ I ≤ b)) ∧ Sorted ats X1 S ∧ SW w wr g (P ++ S ++ X2 ++ Q)) (fun i _ => (len + 2 : Nat) - (intOf i).toNat)
  case atStart =>
    have hd := unhide HD
    have h1 := unhide HA; have h2 := unhide HB
    cases hX : X with
    | nil =>
      rw [hX] at hd h2
      simp at h2
      exact ⟨a + 1, by go_num, Nat.le_refl _, by omega, [], [], [], rfl, .inl ⟨by omega, rfl⟩, ⟨rfl, List.Pairwise.nil, fun t => rfl⟩, Ch.refl _ _, by simpa using hd⟩
    | cons x r =>
      rw [hX] at h2 hd
      simp at h2
      exact ⟨a + 1, by go_num, Nat.le_refl _, by omega, [x], r, [x], rfl, .inr ⟨by simp, by omega⟩, ⟨rfl, List.pairwise_singleton _ _, fun t => rfl⟩, Ch.refl _ _, by simpa using hd⟩
  case round =>
    obtain ⟨I, rfl, h1, h1', X1, X2, S, eX, hX1, hS, hSW⟩ := hrel
    have haa := unhide HA; have hbb := unhide HB; have hll := unhide HL
    have lX := congrArg List.length eX
    simp only [List.length_append] at lX
    by_cases hlt : I < b
    · have hX1' : X1.length = I - a := by
        rcases hX1 with q | q
        · omega
        · exact q.1
      obtain ⟨x, X2', rfl⟩ : ∃ x r, X2 = x :: r := by
        cases X2 with
        | nil => simp at lX; omega
        | cons x r => exact ⟨x, r, rfl⟩
      have lS := hS.len
      have HS := hide hS
      have HE := hide eX; have HX1 := hide hX1'; have hSW0 := hide hSW
      have ll : len = P.length + X.length + Q.length := by rw [hll]; simp; omega
      simp only [List.length_cons] at lX
      have LL := hide (And.intro ll (And.intro lX lS))
      clear eX hX1 hX1' hSW hS haa hbb hll lX lS ll
      go_wp2
      go_loopw [9] (fun j wr => ∃ J : Nat, j = .int .i64 (J : Int) ∧ a ≤ J ∧ J ≤ I ∧ ∃ S1 S2, S = S1 ++ S2 ∧ S1.length = J - a ∧ (∀ z ∈ S2, ats x < ats z) ∧ SW w wr g (P ++ S1 ++ x :: (S2 ++ X2' ++ Q))) (fun j _ => (intOf j).toNat)
      case atStart =>
        have q1 := unhide LL; have q2 := unhide HX1
        exact ⟨I, rfl, by omega, Nat.le_refl _, S, [], by simp, by omega, by simp, by simpa using unhide hSW0⟩
      case round =>
        obtain ⟨J, rfl, k1, k2, S1, S2, eS, hS1, hgt, hC, hR⟩ := hrel
        have q1 := unhide LL; have q2 := unhide HX1; have haa := unhide HA; have hE := unhide HE
        have lSS := congrArg List.length eS
        simp only [List.length_append] at lSS
        have hcel3 : ∀ z ∈ X, wr.cell? ⟨z, 3, none⟩ = some (.int .i64 (ats z : Int)) := fun z hz => ((unhide HK).sw hC z hz).2
        have hkx := hcel3 x (by rw [hE]; simp)
        by_cases hj : a < J
        · obtain ⟨J', rfl⟩ : ∃ J', J = J' + 1 := ⟨J - 1, by omega⟩
          rw [show ((J' + 1 : Nat) : Int) = (J' : Int) + 1 by omega]
          obtain ⟨S1', y, rfl⟩ : ∃ r y, S1 = r ++ [y] := by
            rcases List.eq_nil_or_concat S1 with e | ⟨r, y, e⟩
            · rw [e] at hS1; simp at hS1; omega
            · exact ⟨r, y, by simpa using e⟩
          simp only [List.length_append, List.length_cons, List.length_nil] at hS1 lSS
          have hky := hcel3 y (by rw [hE]; have := (unhide HS).mem (x := y) (by rw [eS]; simp); simp [this])
          have hR' : RowL wr g ((P ++ S1') ++ y :: ([] ++ x :: (S2 ++ X2' ++ Q))) := by simpa using hR
          have hR2 : RowL wr g ((P ++ S1' ++ [y]) ++ x :: (S2 ++ X2' ++ Q)) := by simpa using hR
          have i1 : J' = (P ++ S1').length := by simp; omega
          have cy := hR'.at i1
          have cx := hR2.at (i := J' + 1) (by simp; omega)
          have f1 : wr.frozen? ⟨g, J', none⟩ = false := by rw [hC.fz]; exact unhide HF _
          have f2 : wr.frozen? ⟨g, J' + 1, none⟩ = false := by rw [hC.fz]; exact unhide HF _
          have c1 : (J' : Int) + 1 < (len : Int) := by omega
          have c0 : (a : Int) < (J' : Int) + 1 := by omega
          have hpost := hide (hR'.exch' (i := J') (j := J' + 1) i1 (by simp; omega))
          have HC := hide hC; have HEs := hide eS; have HS1 := hide hS1; have HG := hide hgt; have HR := hide hR
          clear hR hR' hR2 hC eS hS1 hgt q1 q2 haa hE lSS hcel3 i1
          by_cases hxy : ats x < ats y
          · have hcm := lt_cmp hxy
            go_wp2
            go_quiet (first | (go_at_call 74; refine Calls.quiet_of (less_any x y (ats x) (ats y) _ hkx hky)))
            go_wp2
            go_region
            all_goals
              go_wp2
              go_roundw
              case rel =>
                have := unhide HS1
                refine ⟨J', by go_num, by omega, by omega, S1', y :: S2, by rw [unhide HEs]; simp, by omega, ?_, (((unhide HC).drewN _).setCell rfl _).setCell rfl _, ?_⟩
                · intro z hz
                  rcases List.mem_cons.1 hz with q | q
                  · rw [q]; exact hxy
                  · exact unhide HG z q
                · intro o z hz
                  exact unhide hpost o z (by simpa using hz)
              case measure => simp only [intOf]; omega
          · have hcm := ge_cmp hxy
            have hcm2 : decide (cmpI (ats x) (ats y) < 0) = false := by simp; exact hcm
            have HP := hide (show Sorted ats (X1 ++ [x]) (S1' ++ [y] ++ x :: S2) from (show Sorted ats X1 ((S1' ++ [y]) ++ S2) from unhide HEs ▸ unhide HS).snoc (fun z hz => by simp at hz; rw [← hz]; omega) (unhide HG))
            go_wp2
            go_quiet (first | (go_at_call 74; refine Calls.quiet_of (less_any x y (ats x) (ats y) _ hkx hky)))
            go_wp2
            go_roundw
            case rel => exact ⟨I + 1, by go_num, by omega, by omega, X1 ++ [x], X2', _, by rw [unhide HE]; simp, .inr ⟨by have := unhide HX1; simp; omega, by omega⟩, unhide HP, (unhide HC).drewN _, by have := unhide HR; intro o z hz; exact this o z (by simpa using hz)⟩
            case measure => simp only [intOf]; omega
        · have hS1n : S1 = [] := List.eq_nil_of_length_eq_zero (by omega)
          subst hS1n
          have hg : decide ((a : Int) < (J : Int)) = false := by simp; omega
          have HP := hide (show Sorted ats (X1 ++ [x]) ([] ++ x :: S2) from (show Sorted ats X1 ([] ++ S2) from eS ▸ unhide HS).snoc (fun z hz => by simp at hz) hgt)
          have HC := hide hC; have HR := hide hR
          clear hR hC eS hS1 hgt q1 q2 haa hE lSS hcel3 hkx
          go_wp2
          go_quiet (fail)
          go_wp2
          go_roundw
          case rel => exact ⟨I + 1, by go_num, by omega, by omega, X1 ++ [x], X2', _, by rw [unhide HE]; simp, .inr ⟨by have := unhide HX1; simp; omega, by omega⟩, unhide HP, (unhide HC).drewN _, by have := unhide HR; intro o z hz; exact this o z (by simpa using hz)⟩
          case measure => simp only [intOf]; omega
    · have hX2 : X2 = [] := by
        rcases hX1 with q | q
        · exact q.2
        · exact List.eq_nil_of_length_eq_zero (by omega)
      subst hX2
      simp at eX
      subst eX
      have HP := hide (show ∃ M, Sorted ats X M ∧ SW w wr g (P ++ M ++ Q) from ⟨S, hS, hSW.1, by simpa using hSW.2⟩)
      clear hX1 hS hSW haa hbb hll lX
      go_wp2
      go_end0
      exact ⟨rfl, by simpa using unhide HP⟩
end Go.Proofs.YtogdekjklbbbiaaDoor
