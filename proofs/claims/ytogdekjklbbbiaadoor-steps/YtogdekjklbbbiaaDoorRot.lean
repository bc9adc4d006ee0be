import Derived.Test.YtogdekjklbbbiaaDoorSort
namespace Go.Proofs.YtogdekjklbbbiaaDoor
open Go.ChangeShapes Go.WideShapes Go.ChangeAt Go.RowKit
set_option linter.unusedSimpArgs false
set_option linter.unusedVariables false

set_option maxHeartbeats 1000000 in
theorem rotate_any (g cap a m b len : Nat) (P A B Q : List Nat) (w : World) (v : Value) (hD : RowL w g (P ++ A ++ B ++ Q)) (hlen : len = (P ++ A ++ B ++ Q).length) (ha : a = P.length) (hm : m = P.length + A.length) (hb : b = P.length + A.length + B.length) (hA0 : 0 < A.length) (hB0 : 0 < B.length) (hl : len < 9223372036854775808) (fz : ∀ o, w.frozen? ⟨g, o, none⟩ = false) :
    Calls Tryd.prog 109 #[.slice (some ⟨g, 0, none⟩) len cap, .int .i64 (a : Int), .int .i64 (m : Int), .int .i64 (b : Int), v] w fun e w' => e = .returned (.tuple #[]) ∧ SW w w' g (P ++ B ++ A ++ Q) := by
  have l1 : a ≤ m ∧ m ≤ b ∧ b ≤ len := by simp at hlen; omega
  obtain ⟨l1, l2, l3⟩ := l1
  have HL := hide hlen; have HA := hide ha; have HM := hide hm; have HB := hide hb; have HF := hide fz
  have HA0 := hide hA0; have HB0 := hide hB0
  have hAl := hide (show A.length = m - a by omega); have hBl := hide (show B.length = b - m by omega)
  clear hlen ha hm hb fz hA0 hB0
  obtain ⟨I0, hI0⟩ : ∃ I0 : Nat, m - a = I0 := ⟨_, rfl⟩
  obtain ⟨J0, hJ0⟩ : ∃ J0 : Nat, b - m = J0 := ⟨_, rfl⟩
  have e1 : (m : Int) - (a : Int) = (I0 : Int) := by omega
  have e2 : (b : Int) - (m : Int) = (J0 : Int) := by omega
  rw [hI0] at hAl; rw [hJ0] at hBl
  clear hI0 hJ0
  go_enter Tryd.func109, Tryd.ntmps109
  go_wp2
  go_loopw [10, 11] (fun i j wr => ∃ I J : Nat, i = .int .i64 (I : Int) ∧ j = .int .i64 (J : Int) ∧ 0 < I ∧ 0 < J ∧ ∃ P' U V Q', U.length = I ∧ V.length = J ∧ P'.length + I = m ∧ P' ++ V ++ U ++ Q' = P ++ B ++ A ++ Q ∧ (P' ++ U ++ V ++ Q').length = len ∧ (I + J) ≤ len ∧ SW w wr g (P' ++ U ++ V ++ Q')) (fun i j _ => (intOf i + intOf j).toNat)
  case atStart =>
    have := unhide HL; have q1 := unhide HA0; have q2 := unhide HB0; have h2 := unhide HA; have h3 := unhide HM; have h4 := unhide hAl; have h5 := unhide hBl
    exact ⟨I0, J0, rfl, rfl, by omega, by omega, P, A, B, Q, h4, h5, by omega, rfl, this.symm, by simp at this; omega, Ch.refl _ _, hD⟩
  case round =>
    obtain ⟨I, J, rfl, rfl, hI0, hJ0, P', U, V, Q', hU, hV, hPm, hT, hLn, hIJ, hSW⟩ := hrel
    obtain ⟨hC, hR⟩ := hSW
    have fz : ∀ o, wr.frozen? ⟨g, o, none⟩ = false := fun o => by rw [hC.fz]; exact unhide HF o
    simp only [List.length_append] at hLn
    have s1 : (m : Int) - (I : Int) = ((m - I : Nat) : Int) := by omega
    by_cases hij : I = J
    · have hb1 : ((I : Int) != (J : Int)) = false := by rw [bne_eq_false_iff_eq]; omega
      have hsw := hide (swap_any g cap (m - I) m I len P' U [] V Q' wr v (by simpa using hR) (by simp; omega) (by omega) hU (by omega) (by simp; omega) hl fz)
      have HC := hide hC; have HT := hide hT
      clear hR hC fz hT hLn hU hV hij
      go_wp2_with fail
      refine (unhide hsw).mono ?_
      rintro e w2 ⟨rfl, h2, h3⟩
      have HP := hide (show SW w w2 g (P ++ B ++ A ++ Q) from ⟨((unhide HC).trans h2).mono fun a o q => q.elim id id, by have := unhide HT; rw [← this]; simpa using h3⟩)
      clear h2 h3
      go_wp2
      go_end0
      exact ⟨rfl, unhide HP⟩
    · have hb1 : ((I : Int) != (J : Int)) = true := by rw [bne_iff_ne]; omega
      by_cases hgt : J < I
      · have hg' : (J : Int) < (I : Int) := by omega
        obtain ⟨U1, U2, rfl, hU1⟩ : ∃ U1 U2, U = U1 ++ U2 ∧ U1.length = J := ⟨U.take J, U.drop J, by simp, by simp; omega⟩
        simp only [List.length_append] at hU hLn
        have hsw := hide (swap_any g cap (m - I) m J len P' U1 U2 V Q' wr v (by simpa using hR) (by simp; omega) (by omega) hU1 hV (by omega) hl fz)
        have HC := hide hC
        have HT := hide hT
        have K1 := hide (show P'.length + J + (I - J) = m by omega)
        have K2 := hide (show U2.length = I - J by omega)
        have K3 := hide (show (P' ++ V ++ U2 ++ U1 ++ Q').length = len by simp; omega)
        have HU1 := hide hU1; have HV := hide hV
        have K4 : (I : Int) - (J : Int) = ((I - J : Nat) : Int) := by omega
        clear hR hC fz hT hLn hU hV hij hU1
        go_wp2_with fail
        refine (unhide hsw).mono ?_
        rintro e w2 ⟨rfl, h2, h3⟩
        have HP := hide (show SW w w2 g ((P' ++ V) ++ U2 ++ U1 ++ Q') from ⟨((unhide HC).trans h2).mono fun a o q => q.elim id id, by simpa using h3⟩)
        clear h2 h3
        go_wp2
        go_roundw
        case rel =>
          have a1 := unhide K1; have a2 := unhide HV
          exact ⟨I - J, J, rfl, rfl, by omega, hJ0, P' ++ V, U2, U1, Q', unhide K2, unhide HU1, by simp; omega, by rw [← unhide HT]; simp, by simpa using unhide K3, by omega, unhide HP⟩
        case measure => simp [intOf]; omega
      · have hg' : ¬ (J : Int) < (I : Int) := by omega
        obtain ⟨V1, V2, rfl, hV2⟩ : ∃ V1 V2, V = V1 ++ V2 ∧ V2.length = I := ⟨V.take (J - I), V.drop (J - I), by simp, by simp; omega⟩
        simp only [List.length_append] at hV hLn
        have s2 : (m : Int) + (J : Int) - (I : Int) = ((m + J - I : Nat) : Int) := by omega
        have hsw := hide (swap_any g cap (m - I) (m + J - I) I len P' U V1 V2 Q' wr v (by simpa using hR) (by simp; omega) (by omega) hU hV2 (by omega) hl fz)
        have HC := hide hC
        have HT := hide hT
        have mJ : m + J ≤ len := by omega
        have hIJ2 : I < J := by omega
        have K2 := hide (show V1.length = J - I by omega)
        have K3 := hide (show (P' ++ V2 ++ V1 ++ U ++ Q').length = len by simp; omega)
        have HU := hide hU; have HV2 := hide hV2; have HPm := hide hPm
        have K4 : (J : Int) - (I : Int) = ((J - I : Nat) : Int) := by omega
        clear hR hC fz hT hLn hU hV hij hV2
        go_wp2_with fail
        refine (unhide hsw).mono ?_
        rintro e w2 ⟨rfl, h2, h3⟩
        have HP := hide (show SW w w2 g (P' ++ V2 ++ V1 ++ (U ++ Q')) from ⟨((unhide HC).trans h2).mono fun a o q => q.elim id id, by simpa using h3⟩)
        clear h2 h3
        go_wp2
        go_roundw
        case rel =>
          exact ⟨I, J - I, rfl, rfl, hI0, by omega, P', V2, V1, U ++ Q', unhide HV2, unhide K2, unhide HPm, by rw [← unhide HT]; simp, by simpa using unhide K3, by omega, unhide HP⟩
        case measure => clear s1 s2 K4 e1 e2; simp only [intOf]; omega
end Go.Proofs.YtogdekjklbbbiaaDoor
