import Derived.Test.YtogdekjklbbbiaaDoorRef5
import Derived.Test.YtogdekjklbbbiaaDoorStepsA
set_option maxRecDepth 100000
namespace Go.Proofs.YtogdekjklbbbiaaDoor
open Go.ChangeShapes Go.WideShapes Go.ChangeAt Go.RowKit
set_option linter.unusedSimpArgs false
set_option linter.unusedVariables false

def turnV (k x y z : Int) : Value := .agg #[.int .i64 k, .int .i64 x, .int .i64 y, .int .i64 z]
def turnO (k x y z : Int) : Obj := .cells #[.int .i64 k, .int .i64 x, .int .i64 y, .int .i64 z] 30

set_option maxRecDepth 100000 in
set_option maxHeartbeats 2000000 in
theorem turned1 (b d : Nat) (x y z er : Int) (w : World) (R Post : World → Prop)
    (hI : Calls Tryd.prog 11 #[.pointer (some ⟨b, 0, none⟩), .int .i64 x, .int .i64 y] (w.alloc (.cells #[.int .i64 1, .int .i64 x, .int .i64 y, .int .i64 z] 30)) fun e w' => e = .returned (.int .i64 er) ∧ w'.cell? ⟨w.heap.size, 1, none⟩ = some (.int .i64 x) ∧ w'.cell? ⟨w.heap.size, 2, none⟩ = some (.int .i64 y) ∧ R w')
    (hJ : ∀ w', R w' → Calls Tryd.prog 32 #[.pointer (some ⟨d, 0, none⟩), .int .i64 x, .int .i64 y] w' fun e w'' => e = .returned (.int .i64 er) ∧ Post w'') :
    Calls Tryd.prog 10 #[.pointer (some ⟨b, 0, none⟩), .pointer (some ⟨d, 0, none⟩), .agg #[.int .i64 1, .int .i64 x, .int .i64 y, .int .i64 z]] w fun e w' => e = .returned (.bool true) ∧ Post w' := by
  have HI := hide hI; have HJ := hide hJ
  clear hI hJ
  go_enter Tryd.func10, Tryd.ntmps10
  go_wp2_with fail
  refine (unhide HI).mono ?_
  rintro e w1 ⟨rfl, h1, h2, hR⟩
  have HR := hide hR
  clear hR
  go_wp2_with fail
  refine (unhide HJ _ (unhide HR)).mono ?_
  rintro e w2 ⟨rfl, hP⟩
  have HP := hide hP
  clear hP h1 h2
  have hee : (er == er) = true := by simp
  go_wp2_with (first | (go_at_call 12; refine (num_any _ _).mono ?_; rintro e w8 ⟨rfl, rfl⟩))
  go_ret
  exact ⟨rfl, unhide HP⟩
set_option maxRecDepth 100000 in
set_option maxHeartbeats 2000000 in
theorem turned2 (b d : Nat) (x y z er : Int) (w : World) (R Post : World → Prop)
    (hI : Calls Tryd.prog 33 #[.pointer (some ⟨b, 0, none⟩), .int .i64 x] (w.alloc (.cells #[.int .i64 2, .int .i64 x, .int .i64 y, .int .i64 z] 30)) fun e w' => e = .returned (.int .i64 er) ∧ w'.cell? ⟨w.heap.size, 1, none⟩ = some (.int .i64 x) ∧ R w')
    (hJ : ∀ w', R w' → Calls Tryd.prog 34 #[.pointer (some ⟨d, 0, none⟩), .int .i64 x] w' fun e w'' => e = .returned (.int .i64 er) ∧ Post w'') :
    Calls Tryd.prog 10 #[.pointer (some ⟨b, 0, none⟩), .pointer (some ⟨d, 0, none⟩), .agg #[.int .i64 2, .int .i64 x, .int .i64 y, .int .i64 z]] w fun e w' => e = .returned (.bool true) ∧ Post w' := by
  have HI := hide hI; have HJ := hide hJ
  clear hI hJ
  go_enter Tryd.func10, Tryd.ntmps10
  go_wp2_with fail
  refine (unhide HI).mono ?_
  rintro e w1 ⟨rfl, h1, hR⟩
  have HR := hide hR
  clear hR
  go_wp2_with fail
  refine (unhide HJ _ (unhide HR)).mono ?_
  rintro e w2 ⟨rfl, hP⟩
  have HP := hide hP
  clear hP h1
  have hee : (er == er) = true := by simp
  go_wp2_with (first | (go_at_call 12; refine (num_any _ _).mono ?_; rintro e w8 ⟨rfl, rfl⟩))
  go_ret
  exact ⟨rfl, unhide HP⟩
set_option maxRecDepth 100000 in
set_option maxHeartbeats 2000000 in
theorem turned4 (b d n cap : Nat) (a : Option Addr) (k x y z : Int) (w : World) (V : Int → Prop) (R R2 Post : World → Prop) (k1 : (k == 1) = false) (k2 : (k == 2) = false) (k3 : (k == 3) = false) (hV : ∀ v v', V v → V v' → v = v')
    (hI : Calls Tryd.prog 16 #[.pointer (some ⟨b, 0, none⟩)] (w.alloc (.cells #[.int .i64 k, .int .i64 x, .int .i64 y, .int .i64 z] 30)) fun e w' => ∃ v, e = .returned (.int .i64 v) ∧ V v ∧ R w')
    (hJ : ∀ w', R w' → Calls Tryd.prog 36 #[.pointer (some ⟨d, 0, none⟩)] w' fun e w'' => ∃ v, e = .returned (.int .i64 v) ∧ V v ∧ R2 w'')
    (hK : ∀ w', R2 w' → (Calls Tryd.prog 13 #[.pointer (some ⟨b, 0, none⟩)] w' fun e w'' => e = .returned (.int .i64 (n : Int)) ∧ w'' = w') ∧ w'.cell? ⟨d, 1, none⟩ = some (.slice a n cap) ∧ Post w') :
    Calls Tryd.prog 10 #[.pointer (some ⟨b, 0, none⟩), .pointer (some ⟨d, 0, none⟩), .agg #[.int .i64 k, .int .i64 x, .int .i64 y, .int .i64 z]] w fun e w' => e = .returned (.bool true) ∧ Post w' := by
  have HI := hide hI; have HJ := hide hJ; have HK := hide hK; have HV := hide hV
  clear hI hJ hK hV
  go_enter Tryd.func10, Tryd.ntmps10
  go_wp2_with fail
  refine (unhide HI).mono ?_
  rintro e w1 ⟨v, rfl, hv, hR⟩
  have HR := hide hR; have Hv := hide hv
  clear hR hv
  go_wp2_with fail
  refine (unhide HJ _ (unhide HR)).mono ?_
  rintro e w2 ⟨v', rfl, hv', hR2⟩
  obtain rfl : v = v' := unhide HV v v' (unhide Hv) hv'
  obtain ⟨hlen, hc, hP⟩ := unhide HK _ hR2
  have HL := hide hlen; have HP := hide hP
  clear hv' hR2 hlen hP
  go_wp2_with fail
  refine (unhide HL).mono ?_
  rintro e w3 ⟨rfl, hw3⟩
  rw [hw3]
  clear hw3 w3
  have hvv : (v == v) = true := by simp
  have hnn : ((n : Int) == (n : Int)) = true := by simp
  go_wp2_with fail
  go_ret
  exact ⟨rfl, unhide HP⟩

set_option maxRecDepth 100000 in
set_option maxHeartbeats 2000000 in
theorem turned3 (b d : Nat) (x y z : Int) (w : World) (R1 : Value → World → Prop) (R2 R3 : Value → Nat → World → Prop) (R4 : Value → Option Addr → Nat → World → Prop) (R5 : Value → Value → World → Prop) (Post : World → Prop)
    (hA : Calls Tryd.prog 14 #[.pointer (some ⟨b, 0, none⟩), .int .i64 x] (w.alloc (.cells #[.int .i64 3, .int .i64 x, .int .i64 y, .int .i64 z] 30)) fun e w' => ∃ v, e = .returned v ∧ R1 v w')
    (hN : ∀ v w', R1 v w' → Calls Tryd.prog 9 #[] w' fun e w'' => ∃ o, e = .returned (.pointer (some ⟨o, 0, none⟩)) ∧ R2 v o w'')
    (hI : ∀ v o w', R2 v o w' → Calls Tryd.prog 11 #[.pointer (some ⟨o, 0, none⟩), .int .i64 7, .int .i64 1] w' fun e w'' => ∃ er, e = .returned (.int .i64 er) ∧ R3 v o w'')
    (hZ : ∀ v o w', R3 v o w' → Calls Tryd.prog 14 #[.pointer (some ⟨o, 0, none⟩), .int .i64 1] w' fun e w'' => ∃ za m zc, e = .returned (.slice za m zc) ∧ m < 1000 ∧ R4 v za m w'')
    (hS : ∀ v za m wr i, R4 v za m wr → i < m → ∃ g, za = some ⟨g, 0, none⟩ ∧ (∃ u, wr.cell? ⟨g, i, none⟩ = some u) ∧ wr.frozen? ⟨g, i, none⟩ = false ∧ R4 v za m (wr.setCell ⟨g, i, none⟩ (.int .i64 (-9))))
    (hM : ∀ v za m wr, R4 v za m wr → wr.cell? ⟨w.heap.size, 1, none⟩ = some (.int .i64 x) ∧ Calls Tryd.prog 35 #[.pointer (some ⟨d, 0, none⟩), .int .i64 x] wr fun e w'' => ∃ mv, e = .returned mv ∧ R5 v mv w'')
    (hE : ∀ v mv wr, R5 v mv wr → Calls Tryd.prog 15 #[v, mv] wr fun e w'' => e = .returned (.bool true) ∧ Post w'') :
    Calls Tryd.prog 10 #[.pointer (some ⟨b, 0, none⟩), .pointer (some ⟨d, 0, none⟩), .agg #[.int .i64 3, .int .i64 x, .int .i64 y, .int .i64 z]] w fun e w' => e = .returned (.bool true) ∧ Post w' := by
  have HA := hide hA; have HN := hide hN; have HI := hide hI; have HZ := hide hZ; have HS := hide hS; have HM := hide hM; have HE := hide hE
  clear hA hN hI hZ hS hM hE
  go_enter Tryd.func10, Tryd.ntmps10
  go_wp2_with fail
  refine (unhide HA).mono ?_
  rintro e w1 ⟨v, rfl, h1⟩
  have H1 := hide h1
  clear h1
  go_wp2_with fail
  refine (unhide HN _ _ (unhide H1)).mono ?_
  rintro e w2 ⟨o, rfl, h2⟩
  have H2 := hide h2
  clear h2
  go_wp2_with fail
  refine (unhide HI _ _ _ (unhide H2)).mono ?_
  rintro e w3 ⟨er, rfl, h3⟩
  have H3 := hide h3
  clear h3
  go_wp2_with fail
  refine (unhide HZ _ _ _ (unhide H3)).mono ?_
  rintro e w4 ⟨za, m, zc, rfl, hm, h4⟩
  have H4 := hide h4
  clear h4
  go_wp2_with fail
  go_loopg [14] m (fun gk vi wr => ∃ i : Nat, vi = .int .i64 (i : Int) ∧ gk = m - i ∧ i ≤ m ∧ R4 v za m wr)
  case atStart => exact ⟨0, rfl, rfl, Nat.zero_le _, unhide H4⟩
  case round =>
    obtain ⟨i, hu, hgk, him, hR⟩ := hrel
    rw [hu]
    clear hu
    have HR := hide hR; have HG := hide hgk
    clear hR hgk H4
    by_cases hi : i < m
    · have hii : (i : Int) < (m : Int) := by omega
      have hi0 : (0 : Int) ≤ (i : Int) := by omega
      obtain ⟨g, rfl, ⟨u, hcu⟩, hfu, hR'⟩ := unhide HS _ _ _ _ _ (unhide HR) hi
      have HR' := hide hR'
      clear hR'
      go_wp2_with fail
      go_roundg (m - (i + 1))
      case measure => rw [unhide HG]; omega
      case rel => exact ⟨i + 1, by simp, rfl, by omega, unhide HR'⟩
    · have hii : ¬ (i : Int) < (m : Int) := by omega
      obtain ⟨hbx, hcall⟩ := unhide HM _ _ _ _ (unhide HR)
      have HC := hide hcall
      clear hcall
      go_wp2_with fail
      refine (unhide HC).mono ?_
      rintro e w5 ⟨mv, rfl, h5⟩
      have H5 := hide h5
      clear h5
      go_wp2_with fail
      refine (unhide HE _ _ _ (unhide H5)).mono ?_
      rintro e w6 ⟨rfl, hp⟩
      have HP := hide hp
      clear hp
      go_wp2_with fail
      go_ret
      exact ⟨rfl, unhide HP⟩
end Go.Proofs.YtogdekjklbbbiaaDoor
