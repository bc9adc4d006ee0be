import Derived.Test.YtogdekjklbbbiaaDoorSym1
namespace Go.Proofs.YtogdekjklbbbiaaDoor
open Go.ChangeShapes Go.WideShapes Go.ChangeAt Go.RowKit
set_option linter.unusedSimpArgs false
set_option linter.unusedVariables false

theorem RowL.exch' {w : World} {g : Nat} {L1 L2 L3 : List Nat} {x y i j : Nat} (h : RowL w g (L1 ++ x :: (L2 ++ y :: L3))) (hi : i = L1.length) (hj : j = L1.length + 1 + L2.length) :
    RowL ((w.setCell ⟨g, j, none⟩ (.pointer (some ⟨x, 0, none⟩))).setCell ⟨g, i, none⟩ (.pointer (some ⟨y, 0, none⟩))).drew g (L1 ++ y :: (L2 ++ x :: L3)) := by
  have e : L1 ++ x :: (L2 ++ y :: L3) = (L1 ++ x :: L2) ++ y :: L3 := by simp
  rw [e] at h
  have hl : j = (L1 ++ x :: L2).length := by simp [hj]; omega
  have h1 := h.set j x (by simp [hl])
  rw [hl, set_mid] at h1
  have e2 : (L1 ++ x :: L2) ++ x :: L3 = L1 ++ x :: (L2 ++ x :: L3) := by simp
  rw [e2] at h1
  have h2 := h1.set i y (by simp [hi])
  rw [hi, set_mid] at h2
  rw [hi, hl]
  exact fun q z hz => h2 q z hz

set_option maxRecDepth 100000 in
set_option maxHeartbeats 2000000 in
theorem sym_last (g cap a m b len x : Nat) (P A Q : List Nat) (ats : Nat → Nat) (w : World) (hD : RowL w g (P ++ A ++ x :: Q)) (hlen : len = (P ++ A ++ x :: Q).length) (ha : a = P.length) (hm : m = P.length + A.length) (hb : b = P.length + A.length + 1) (hA1 : A.length ≠ 1) (hl : len < 4611686018427387904) (hsB : Srt ats A) (hK : Keys w g ats (x :: A)) (fz : ∀ o, w.frozen? ⟨g, o, none⟩ = false) :
    Calls Tryd.prog 102 #[.slice (some ⟨g, 0, none⟩) len cap, .int .i64 (a : Int), .int .i64 (m : Int), .int .i64 (b : Int), .func (.func 74) #[] #[]] w fun e w' => e = .returned (.tuple #[]) ∧ ∃ M, Merged ats A [x] M ∧ SW w w' g (P ++ M ++ Q) := by
  have hm1 : ((m : Int) - (a : Int) == 1) = false := by rw [beq_eq_false_iff_ne]; omega
  have hm2 : ((b : Int) - (m : Int) == 1) = true := by rw [beq_iff_eq]; omega
  have hbl : b ≤ len := by simp at hlen; omega
  have ham : a ≤ m := by omega
  have hmb : m < b := by omega
  have hcx : w.cell? ⟨g, m, none⟩ = some (.pointer (some ⟨x, 0, none⟩)) := hD.at (by simp; omega)
  have hkx := (hK x (by simp)).2
  have HM := hide hm; have HA := hide ha; have HB := hide hb; have HL := hide hlen; have HS := hide hsB; have HK := hide hK; have HF := hide fz; have HD := hide hD
  clear hm ha hb hlen hsB hK fz hD hA1
  go_enter Tryd.func102, Tryd.ntmps102
  go_wp2
  go_loopw [14, 15] (fun i j wr => ∃ I J : Nat, i = .int .i64 (I : Int) ∧ j = .int .i64 (J : Int) ∧ a ≤ I ∧ I ≤ J ∧ J ≤ m ∧ (∀ q z, A[q]? = some z → (q < I - a → ats z ≤ ats x) ∧ (J - a ≤ q → ats x < ats z)) ∧ Ch w wr (fun _ _ => False)) (fun i j _ => (intOf j - intOf i).toNat)
  case atStart =>
    refine ⟨a, m, rfl, rfl, Nat.le_refl _, ham, Nat.le_refl _, fun q z hq => ⟨fun h => by omega, fun h => ?_⟩, Ch.refl _ _⟩
    have := (List.getElem?_eq_some_iff.1 hq).1
    have := unhide HA; have := unhide HM
    omega
  case round =>
    obtain ⟨I, J, rfl, rfl, h1, h2, h3, hinv, hCh⟩ := hrel
    have HI := hide hinv; clear hinv
    have hcel : ∀ b o, wr.cell? ⟨b, o, none⟩ = w.cell? ⟨b, o, none⟩ := fun b o => hCh.cell b o fun q => q
    have hcx' := (hcel g m).trans hcx
    have hkx' := (hcel x 3).trans hkx
    have HCh := hide hCh; have Hcel := hide hcel
    clear hCh hcel
    by_cases hlt : I < J
    · obtain ⟨h, hh⟩ : ∃ h, (I + J) / 2 = h := ⟨_, rfl⟩
      have c1 : ((I : Int) + (J : Int)) / 2 = (h : Int) := by omega
      have c2 : (h : Int) < (len : Int) := by omega
      have c2' : (m : Int) < (len : Int) := by omega
      have c3 : I ≤ h ∧ h < J := by omega
      obtain ⟨c4, c5⟩ := c3
      have haa := unhide HA; have hmm := unhide HM
      have hzlt : h - a < A.length := by omega
      have hz : A[h - a]? = some A[h - a] := List.getElem?_eq_getElem hzlt
      obtain ⟨z, hzz⟩ : ∃ z, A[h - a] = z := ⟨_, rfl⟩
      rw [hzz] at hz
      have hcz : w.cell? ⟨g, h, none⟩ = some (.pointer (some ⟨z, 0, none⟩)) := by
        refine unhide HD h z ?_
        rw [List.append_assoc, List.getElem?_append_right (by omega), show h - P.length = h - a by omega, List.getElem?_append_left hzlt]
        exact hz
      have hkz := (unhide HK z (by rw [List.mem_cons]; exact .inr (List.mem_of_getElem? hz))).2
      have hcz' := (unhide Hcel g h).trans hcz
      have hkz' := (unhide Hcel z 3).trans hkz
      have HZ := hide hz
      clear hz hzz hcz hkz hzlt haa hmm hh
      by_cases hlz : ats x < ats z
      · have hcm := lt_cmp hlz
        go_wp2
        go_quiet (first | (go_at_call 74; refine Calls.quiet_of (less_any x z (ats x) (ats z) _ hkx' hkz')))
        go_wp2
        refine ⟨⟨I, h, rfl, rfl, h1, by omega, by omega, fun q y hq => ⟨(unhide HI q y hq).1, fun hq' => ?_⟩, (unhide HCh).drewN _⟩, ?_⟩
        · have := (unhide HS).at (unhide HZ) hq (by omega)
          omega
        · simp only [intOf]; omega
      · have hcm := ge_cmp hlz
        have hcm2 : decide (cmpI (ats x) (ats z) < 0) = false := by simp; exact hcm
        go_wp2
        go_quiet (first | (go_at_call 74; refine Calls.quiet_of (less_any x z (ats x) (ats z) _ hkx' hkz')))
        go_wp2
        go_roundw
        case rel =>
          refine ⟨h + 1, J, by go_num, rfl, by omega, by omega, h3, fun q y hq => ⟨fun hq' => ?_, (unhide HI q y hq).2⟩, (unhide HCh).drewN _⟩
          have := (unhide HS).at hq (unhide HZ) (by omega)
          omega
        case measure => simp only [intOf]; omega
    · obtain rfl : I = J := by omega
      have hbb := unhide HB; have hmm := unhide HM; have haa := unhide HA; have hll := unhide HL
      obtain ⟨A1, A2, eA, hA1⟩ : ∃ A1 A2, A = A1 ++ A2 ∧ A1.length = I - a := ⟨A.take (I - a), A.drop (I - a), by simp, by simp; omega⟩
      have q1 : ∀ z ∈ A1, ats z ≤ ats x := by
        intro z hz
        obtain ⟨q, hq, rfl⟩ := List.mem_iff_getElem.1 hz
        exact (unhide HI q _ (by rw [eA, List.getElem?_append_left hq]; exact List.getElem?_eq_getElem hq)).1 (by omega)
      have q2 : ∀ z ∈ A2, ats x < ats z := by
        intro z hz
        obtain ⟨q, hq, rfl⟩ := List.mem_iff_getElem.1 hz
        exact (unhide HI (A1.length + q) _ (by rw [eA, List.getElem?_append_right (by omega), Nat.add_sub_cancel_left]; exact List.getElem?_eq_getElem hq)).2 (by omega)
      have hmer := hide (merged_right ats x A1 A2 (eA ▸ unhide HS) q1 q2)
      have HE := hide eA; have HA1 := hide hA1
      have hD0 := hide (show SW w wr g (P ++ A1 ++ A2 ++ x :: Q) from ⟨(unhide HCh).mono fun _ _ q => q.elim, fun o z hz => by rw [unhide Hcel]; have := unhide HD; rw [eA, ← List.append_assoc] at this; exact this o z hz⟩)
      clear eA hA1 q1 q2 hbb hmm haa hll hcx hkx hcx' hkx' hlt
      go_wp2
      go_loopw [17] (fun k wr => ∃ kk : Nat, k = .int .i64 (kk : Int) ∧ I ≤ kk ∧ kk ≤ m ∧ ∃ Aa Ab, A2 = Aa ++ Ab ∧ Aa.length = kk - I ∧ SW w wr g (P ++ A1 ++ Aa ++ x :: (Ab ++ Q))) (fun k _ => (intOf k).toNat)
      case atStart =>
        have b1 := unhide HM; have b2 := unhide HA; have b3 := unhide HE; have b4 := unhide HA1
        rw [b3] at b1
        simp only [List.length_append] at b1
        exact ⟨m, rfl, h3, Nat.le_refl _, A2, [], by simp, by omega, by simpa using unhide hD0⟩
      case round =>
        obtain ⟨kk, rfl, k1, k2, Aa, Ab, eAA, hAa, hC, hR⟩ := hrel
        have hmm := unhide HM; have haa := unhide HA; have hll := unhide HL; have hA1 := unhide HA1; have hEE := unhide HE
        by_cases hk : I < kk
        · obtain ⟨k', rfl⟩ : ∃ k', kk = k' + 1 := ⟨kk - 1, by omega⟩
          rw [show ((k' + 1 : Nat) : Int) = (k' : Int) + 1 by omega]
          obtain ⟨Aa', y, rfl⟩ : ∃ r y, Aa = r ++ [y] := by
            rcases List.eq_nil_or_concat Aa with e | ⟨r, y, e⟩
            · rw [e] at hAa; simp at hAa; omega
            · exact ⟨r, y, by simpa using e⟩
          simp only [List.length_append, List.length_cons, List.length_nil] at hAa
          have hR' : RowL wr g ((P ++ A1 ++ Aa') ++ y :: ([] ++ x :: (Ab ++ Q))) := by simpa using hR
          have hR2 : RowL wr g ((P ++ A1 ++ Aa' ++ [y]) ++ x :: (Ab ++ Q)) := by simpa using hR
          have i1 : k' = (P ++ A1 ++ Aa').length := by simp; omega
          have cy := hR'.at i1
          have cx := hR2.at (i := k' + 1) (by simp; omega)
          have hpost := hide (hR'.exch' (i := k') (j := k' + 1) i1 (by simp; omega))
          have f1 : wr.frozen? ⟨g, k', none⟩ = false := by rw [hC.fz]; exact unhide HF _
          have f2 : wr.frozen? ⟨g, k' + 1, none⟩ = false := by rw [hC.fz]; exact unhide HF _
          have c1 : (k' : Int) + 1 < (len : Int) := by omega
          have HC := hide hC; have HAA := hide eAA; have HAa := hide hAa
          clear hR hR' hR2 hC eAA hAa hmm haa hll hA1 hEE i1
          go_wp2
          go_region
          all_goals
            go_wp2
            go_roundw
            case rel =>
              have := unhide HAa
              exact ⟨k', by go_num, by omega, by omega, Aa', y :: Ab, by rw [unhide HAA]; simp, by omega, (((unhide HC).setCell rfl _).setCell rfl _).drew, by simpa using unhide hpost⟩
            case measure => simp only [intOf]; omega
        · have hAn : Aa = [] := List.eq_nil_of_length_eq_zero (by omega)
          subst hAn
          simp at eAA
          subst eAA
          have hk' : ¬ (I : Int) < (kk : Int) := by omega
          have HP := hide (show ∃ M, Merged ats A [x] M ∧ SW w wr g (P ++ M ++ Q) from ⟨A1 ++ x :: A2, by have := unhide HE; rw [this]; exact unhide hmer, hC, by simpa using hR⟩)
          clear hR hC hmm haa hll hA1 hEE hAa
          go_wp2
          go_returns
          exact ⟨rfl, by simpa using unhide HP⟩
end Go.Proofs.YtogdekjklbbbiaaDoor
