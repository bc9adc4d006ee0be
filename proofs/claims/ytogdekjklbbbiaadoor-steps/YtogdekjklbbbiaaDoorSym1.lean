import Derived.Test.YtogdekjklbbbiaaDoorRot
namespace Go.Proofs.YtogdekjklbbbiaaDoor
open Go.ChangeShapes Go.WideShapes Go.ChangeAt Go.RowKit
set_option linter.unusedSimpArgs false
set_option linter.unusedVariables false

def Srt (ats : Nat → Nat) (L : List Nat) : Prop := L.Pairwise fun x y => ats x ≤ ats y
def fib (ats : Nat → Nat) (L : List Nat) (t : Nat) : List Nat := L.filter fun x => decide (ats x = t)
theorem fib_append (ats : Nat → Nat) (A B : List Nat) (t : Nat) : fib ats (A ++ B) t = fib ats A t ++ fib ats B t := List.filter_append ..
theorem fib_nil_of {ats : Nat → Nat} {L : List Nat} {t : Nat} (h : ∀ x ∈ L, ats x ≠ t) : fib ats L t = [] := by
  unfold fib
  rw [List.filter_eq_nil_iff]
  intro x hx
  simpa using h x hx
theorem Srt.at {ats : Nat → Nat} {L : List Nat} (h : Srt ats L) {i j u v : Nat} (hi : L[i]? = some u) (hj : L[j]? = some v) (hij : i ≤ j) : ats u ≤ ats v := by
  by_cases e : i = j
  · subst e; rw [hi] at hj; injection hj with hj; rw [hj]; exact Nat.le_refl _
  · unfold Srt at h
    rw [List.pairwise_iff_getElem] at h
    obtain ⟨h1, rfl⟩ := List.getElem?_eq_some_iff.1 hi
    obtain ⟨h2, rfl⟩ := List.getElem?_eq_some_iff.1 hj
    exact h i j h1 h2 (by omega)
theorem srt_append {ats : Nat → Nat} {A B : List Nat} : Srt ats (A ++ B) ↔ Srt ats A ∧ Srt ats B ∧ ∀ x ∈ A, ∀ y ∈ B, ats x ≤ ats y := List.pairwise_append

/-- What a merge of A and B is: sorted, and stable. -/
structure Merged (ats : Nat → Nat) (A B M : List Nat) : Prop where
  len : M.length = A.length + B.length
  srt : Srt ats M
  fibs : ∀ t, fib ats M t = fib ats A t ++ fib ats B t

theorem merged_left (ats : Nat → Nat) (x : Nat) (B1 B2 : List Nat) (hB : Srt ats (B1 ++ B2)) (h1 : ∀ z ∈ B1, ats z < ats x) (h2 : ∀ z ∈ B2, ats x ≤ ats z) : Merged ats [x] (B1 ++ B2) (B1 ++ x :: B2) := by
  rw [srt_append] at hB
  refine ⟨by simp; omega, ?_, fun t => ?_⟩
  · rw [srt_append]
    refine ⟨hB.1, List.pairwise_cons.2 ⟨h2, hB.2.1⟩, fun z hz y hy => ?_⟩
    have := h1 z hz
    rcases List.mem_cons.1 hy with e | e
    · rw [e]; omega
    · exact hB.2.2 z hz y e
  · rw [fib_append, fib_append, show x :: B2 = [x] ++ B2 from rfl, fib_append]
    by_cases e : ats x = t
    · rw [fib_nil_of (L := B1) (fun z hz => by have := h1 z hz; omega)]; simp
    · rw [fib_nil_of (L := [x]) (fun z hz => by rw [List.mem_singleton.1 hz]; exact e)]; simp
theorem merged_right (ats : Nat → Nat) (x : Nat) (A1 A2 : List Nat) (hA : Srt ats (A1 ++ A2)) (h1 : ∀ z ∈ A1, ats z ≤ ats x) (h2 : ∀ z ∈ A2, ats x < ats z) : Merged ats (A1 ++ A2) [x] (A1 ++ x :: A2) := by
  rw [srt_append] at hA
  refine ⟨by simp; omega, ?_, fun t => ?_⟩
  · rw [srt_append]
    refine ⟨hA.1, List.pairwise_cons.2 ⟨fun z hz => Nat.le_of_lt (h2 z hz), hA.2.1⟩, fun z hz y hy => ?_⟩
    rcases List.mem_cons.1 hy with e | e
    · rw [e]; exact h1 z hz
    · exact hA.2.2 z hz y e
  · rw [fib_append, fib_append, show x :: A2 = [x] ++ A2 from rfl, fib_append]
    by_cases e : ats x = t
    · rw [fib_nil_of (L := A2) (fun z hz => by have := h2 z hz; omega)]; simp
    · rw [fib_nil_of (L := [x]) (fun z hz => by rw [List.mem_singleton.1 hz]; exact e)]; simp

/-- The keys of what is sorted can be read. -/
def Keys (w : World) (g : Nat) (ats : Nat → Nat) (L : List Nat) : Prop := ∀ z ∈ L, z ≠ g ∧ w.cell? ⟨z, 3, none⟩ = some (.int .i64 (ats z : Int))
theorem Keys.sw {w w' : World} {g : Nat} {ats : Nat → Nat} {L : List Nat} (h : Keys w g ats L) (hc : Ch w w' (fun a _ => a = g)) : Keys w' g ats L := fun z hz => ⟨(h z hz).1, by rw [hc.cell _ _ (h z hz).1]; exact (h z hz).2⟩

theorem lt_cmp {a b : Nat} (h : a < b) : cmpI a b = -1 := by simp [cmpI, h]
theorem ge_cmp {a b : Nat} (h : ¬ a < b) : 0 ≤ cmpI a b := by unfold cmpI; rw [if_neg h]; split <;> omega

set_option maxRecDepth 100000 in
set_option maxHeartbeats 2000000 in
theorem sym_one (g cap a m b len x : Nat) (P B Q : List Nat) (ats : Nat → Nat) (w : World) (hD : RowL w g (P ++ x :: (B ++ Q))) (hlen : len = (P ++ x :: (B ++ Q)).length) (ha : a = P.length) (hm : m = P.length + 1) (hb : b = P.length + 1 + B.length) (hl : len < 4611686018427387904) (hsB : Srt ats B) (hK : Keys w g ats (x :: B)) (fz : ∀ o, w.frozen? ⟨g, o, none⟩ = false) :
    Calls Tryd.prog 102 #[.slice (some ⟨g, 0, none⟩) len cap, .int .i64 (a : Int), .int .i64 (m : Int), .int .i64 (b : Int), .func (.func 74) #[] #[]] w fun e w' => e = .returned (.tuple #[]) ∧ ∃ M, Merged ats [x] B M ∧ SW w w' g (P ++ M ++ Q) := by
  have hm1 : ((m : Int) - (a : Int) == 1) = true := by rw [beq_iff_eq]; omega
  have hbl : b ≤ len := by simp at hlen; omega
  have ham : a < m := by omega
  have hmb : m ≤ b := by omega
  have hcx : w.cell? ⟨g, a, none⟩ = some (.pointer (some ⟨x, 0, none⟩)) := hD.at ha
  have hkx := (hK x (by simp)).2
  have HM := hide hm; have HA := hide ha; have HB := hide hb; have HL := hide hlen; have HS := hide hsB; have HK := hide hK; have HF := hide fz; have HD := hide hD
  clear hm ha hb hlen hsB hK fz hD
  go_enter Tryd.func102, Tryd.ntmps102
  go_wp2
  go_loopw [10, 11] (fun i j wr => ∃ I J : Nat, i = .int .i64 (I : Int) ∧ j = .int .i64 (J : Int) ∧ m ≤ I ∧ I ≤ J ∧ J ≤ b ∧ (∀ q z, B[q]? = some z → (q < I - m → ats z < ats x) ∧ (J - m ≤ q → ats x ≤ ats z)) ∧ Ch w wr (fun _ _ => False)) (fun i j _ => (intOf j - intOf i).toNat)
  case atStart =>
    refine ⟨m, b, rfl, rfl, Nat.le_refl _, hmb, Nat.le_refl _, fun q z hq => ⟨fun h => by omega, fun h => ?_⟩, Ch.refl _ _⟩
    have := (List.getElem?_eq_some_iff.1 hq).1
    have := unhide HB; have := unhide HM
    omega
  case round =>
    obtain ⟨I, J, rfl, rfl, h1, h2, h3, hinv, hCh⟩ := hrel
    have HI := hide hinv; clear hinv
    have hcel : ∀ b o, wr.cell? ⟨b, o, none⟩ = w.cell? ⟨b, o, none⟩ := fun b o => hCh.cell b o fun q => q
    have hcx' := (hcel g a).trans hcx
    have hkx' := (hcel x 3).trans hkx
    have HCh := hide hCh; have Hcel := hide hcel
    clear hCh hcel
    by_cases hlt : I < J
    · obtain ⟨h, hh⟩ : ∃ h, (I + J) / 2 = h := ⟨_, rfl⟩
      have c1 : ((I : Int) + (J : Int)) / 2 = (h : Int) := by omega
      have c2 : (h : Int) < (len : Int) := by omega
      have c2' : (a : Int) < (len : Int) := by omega
      have c3 : I ≤ h ∧ h < J := by omega
      obtain ⟨c4, c5⟩ := c3
      have hbb := unhide HB; have hmm := unhide HM
      have hzlt : h - m < B.length := by omega
      have hz : B[h - m]? = some B[h - m] := List.getElem?_eq_getElem hzlt
      obtain ⟨z, hzz⟩ : ∃ z, B[h - m] = z := ⟨_, rfl⟩
      rw [hzz] at hz
      have hcz : w.cell? ⟨g, h, none⟩ = some (.pointer (some ⟨z, 0, none⟩)) := by
        refine unhide HD h z ?_
        rw [List.getElem?_append_right (by omega), show h - P.length = (h - m) + 1 by omega, List.getElem?_cons_succ, List.getElem?_append_left hzlt]
        exact hz
      have hkz := (unhide HK z (by rw [List.mem_cons]; exact .inr (List.mem_of_getElem? hz))).2
      have hcz' := (unhide Hcel g h).trans hcz
      have hkz' := (unhide Hcel z 3).trans hkz
      have HZ := hide hz
      clear hz hzz hcz hkz hzlt hbb hmm hh
      by_cases hlz : ats z < ats x
      · have hcm := lt_cmp hlz
        go_wp2
        go_quiet (first | (go_at_call 74; refine Calls.quiet_of (less_any z x (ats z) (ats x) _ hkz' hkx')))
        go_wp2
        go_roundw
        case rel =>
          refine ⟨h + 1, J, by go_num, rfl, by omega, by omega, h3, fun q y hq => ⟨fun hq' => ?_, (unhide HI q y hq).2⟩, (unhide HCh).drewN _⟩
          have := (unhide HS).at hq (unhide HZ) (by omega)
          omega
        case measure => simp only [intOf]; omega
      · have hcm := ge_cmp hlz
        go_wp2
        go_quiet (first | (go_at_call 74; refine Calls.quiet_of (less_any z x (ats z) (ats x) _ hkz' hkx')))
        go_wp2
        go_roundw
        case rel =>
          refine ⟨I, h, rfl, rfl, h1, by omega, by omega, fun q y hq => ⟨(unhide HI q y hq).1, fun hq' => ?_⟩, (unhide HCh).drewN _⟩
          have := (unhide HS).at (unhide HZ) hq (by omega)
          omega
        case measure => simp only [intOf]; omega
    · obtain rfl : I = J := by omega
      have hbb := unhide HB; have hmm := unhide HM; have haa := unhide HA; have hll := unhide HL
      obtain ⟨B1, B2, eB, hB1⟩ : ∃ B1 B2, B = B1 ++ B2 ∧ B1.length = I - m := ⟨B.take (I - m), B.drop (I - m), by simp, by simp; omega⟩
      have q1 : ∀ z ∈ B1, ats z < ats x := by
        intro z hz
        obtain ⟨q, hq, rfl⟩ := List.mem_iff_getElem.1 hz
        exact (unhide HI q _ (by rw [eB, List.getElem?_append_left hq]; exact List.getElem?_eq_getElem hq)).1 (by omega)
      have q2 : ∀ z ∈ B2, ats x ≤ ats z := by
        intro z hz
        obtain ⟨q, hq, rfl⟩ := List.mem_iff_getElem.1 hz
        exact (unhide HI (B1.length + q) _ (by rw [eB, List.getElem?_append_right (by omega), Nat.add_sub_cancel_left]; exact List.getElem?_eq_getElem hq)).2 (by omega)
      have hmer := hide (merged_left ats x B1 B2 (eB ▸ unhide HS) q1 q2)
      have HE := hide eB; have HB1 := hide hB1
      have hD0 := hide (show SW w wr g (P ++ x :: (B1 ++ B2 ++ Q)) from ⟨(unhide HCh).mono fun _ _ q => q.elim, fun o z hz => by rw [unhide Hcel]; have := unhide HD; rw [eB] at this; exact this o z hz⟩)
      clear eB hB1 q1 q2 hbb hmm haa hll hcx hkx hcx' hkx' hlt
      have e2 : (I : Int) - 1 = ((I - 1 : Nat) : Int) := by omega
      go_wp2
      go_loopw [13] (fun k wr => ∃ kk : Nat, k = .int .i64 (kk : Int) ∧ a ≤ kk ∧ kk ≤ I - 1 ∧ ∃ Ba Bb, B1 = Ba ++ Bb ∧ Ba.length = kk - a ∧ SW w wr g (P ++ Ba ++ x :: (Bb ++ B2 ++ Q))) (fun k _ => (I : Nat) - (intOf k).toNat)
      case atStart => exact ⟨a, rfl, Nat.le_refl _, by omega, [], B1, rfl, by simp, by simpa using unhide hD0⟩
      case round =>
        obtain ⟨kk, rfl, k1, k2, Ba, Bb, eBB, hBa, hC, hR⟩ := hrel
        have hmm := unhide HM; have haa := unhide HA; have hll := unhide HL; have hB1 := unhide HB1; have hEE := unhide HE
        rw [eBB] at hB1 hEE
        simp only [List.length_append] at hB1
        by_cases hk : kk < I - 1
        · obtain ⟨y, Bb', rfl⟩ : ∃ y r, Bb = y :: r := by
            cases Bb with
            | nil => simp at hB1; omega
            | cons y r => exact ⟨y, r, rfl⟩
          simp only [List.length_cons] at hB1
          have hR' : RowL wr g ((P ++ Ba) ++ x :: ([] ++ y :: (Bb' ++ B2 ++ Q))) := by simpa using hR
          have hR2 : RowL wr g (((P ++ Ba) ++ [x]) ++ y :: (Bb' ++ B2 ++ Q)) := by simpa using hR
          have i1 : kk = (P ++ Ba).length := by simp; omega
          have cx := hR'.at i1
          have cy := hR2.at (i := kk + 1) (by simp; omega)
          have hpost := hide (hR'.exch (i := kk) (j := kk + 1) i1 (by simp; omega))
          have f1 : wr.frozen? ⟨g, kk, none⟩ = false := by rw [hC.fz]; exact unhide HF _
          have f2 : wr.frozen? ⟨g, kk + 1, none⟩ = false := by rw [hC.fz]; exact unhide HF _
          have c1 : kk + 1 < len := by omega
          have HC := hide hC; have HBB := hide eBB; have HBa := hide hBa
          clear hR hR' hR2 hC eBB hBa hmm haa hll hB1 hEE i1
          go_wp2
          go_region
          all_goals
            go_wp2
            go_roundw
            case rel =>
              have := unhide HBa
              exact ⟨kk + 1, by go_num, by omega, by omega, Ba ++ [y], Bb', by rw [unhide HBB]; simp, by simp; omega, (((unhide HC).setCell rfl _).setCell rfl _).drew, by simpa using unhide hpost⟩
            case measure => simp only [intOf]; omega
        · have hBb : Bb = [] := List.eq_nil_of_length_eq_zero (by omega)
          subst hBb
          simp at eBB
          subst eBB
          have HP := hide (show ∃ M, Merged ats [x] B M ∧ SW w wr g (P ++ M ++ Q) from ⟨B1 ++ x :: B2, by have := unhide HE; rw [this]; exact unhide hmer, hC, by simpa using hR⟩)
          clear hR hC hmm haa hll hB1 hEE hBa
          go_wp2
          go_returns
          exact ⟨rfl, unhide HP⟩
end Go.Proofs.YtogdekjklbbbiaaDoor
