import Derived.Test.YtogdekjklbbbiaaDoorSym2
namespace Go.Proofs.YtogdekjklbbbiaaDoor
open Go.ChangeShapes Go.WideShapes Go.ChangeAt Go.RowKit
set_option linter.unusedSimpArgs false
set_option linter.unusedVariables false

theorem Merged.mem {ats : Nat → Nat} {A B M : List Nat} (h : Merged ats A B M) {x : Nat} (hx : x ∈ M) : x ∈ A ∨ x ∈ B := by
  have : x ∈ fib ats M (ats x) := by unfold fib; simp [hx]
  rw [h.fibs] at this
  rcases List.mem_append.1 this with q | q
  · exact .inl (List.mem_filter.1 q).1
  · exact .inr (List.mem_filter.1 q).1
theorem merged_nil_left (ats : Nat → Nat) (B : List Nat) (hB : Srt ats B) : Merged ats [] B B := ⟨by simp, hB, fun t => by simp [fib]⟩
theorem merged_nil_right (ats : Nat → Nat) (A : List Nat) (hA : Srt ats A) : Merged ats A [] A := ⟨by simp, hA, fun t => by simp [fib]⟩
theorem Merged.join {ats : Nat → Nat} {A1 A2 B1 B2 M1 M2 : List Nat} (h1 : Merged ats A1 B1 M1) (h2 : Merged ats A2 B2 M2) (hA : Srt ats (A1 ++ A2)) (hB : Srt ats (B1 ++ B2)) (F1 : ∀ x ∈ A1, ∀ y ∈ B2, ats x ≤ ats y) (F2 : ∀ y ∈ B1, ∀ x ∈ A2, ats y < ats x) :
    Merged ats (A1 ++ A2) (B1 ++ B2) (M1 ++ M2) := by
  have hA' := srt_append.1 hA
  have hB' := srt_append.1 hB
  refine ⟨by simp [h1.len, h2.len]; omega, srt_append.2 ⟨h1.srt, h2.srt, fun x hx y hy => ?_⟩, fun t => ?_⟩
  · rcases h1.mem hx with hx | hx <;> rcases h2.mem hy with hy | hy
    · exact hA'.2.2 x hx y hy
    · exact F1 x hx y hy
    · exact Nat.le_of_lt (F2 x hx y hy)
    · exact hB'.2.2 x hx y hy
  · rw [fib_append, h1.fibs, h2.fibs, fib_append, fib_append]
    by_cases e : fib ats B1 t = []
    · rw [e]; simp
    · have e2 : fib ats A2 t = [] := by
        apply fib_nil_of
        intro x hx q
        obtain ⟨y, hy⟩ := List.exists_mem_of_ne_nil _ e
        obtain ⟨hy1, hy2⟩ := List.mem_filter.1 hy
        have := F2 y hy1 x hx
        simp at hy2
        omega
      rw [e2]; simp

/-- A merge by halves: what is found by the search. -/
structure Found (ats : Nat → Nat) (a m b mid s e : Nat) (A B A1 A2 B1 B2 : List Nat) : Prop where
  eA : A = A1 ++ A2
  eB : B = B1 ++ B2
  la : a + A1.length = s
  lb : m + B1.length = e
  lm : s + e = mid + m
  F1 : ∀ x ∈ A1, ∀ y ∈ B2, ats x ≤ ats y
  F2 : ∀ y ∈ B1, ∀ x ∈ A2, ats y < ats x

theorem found_of {ats : Nat → Nat} {a m b mid s S0 R0 : Nat} {A B : List Nat} (hA : Srt ats A) (hB : Srt ats B) (lA : a + A.length = m) (lB : m + B.length = b) (hmid : mid = (a + b) / 2)
    (hS : (mid < m ∧ S0 = mid + m - b ∧ R0 = mid) ∨ (m ≤ mid ∧ S0 = a ∧ R0 = m)) (h1 : S0 ≤ s) (h2 : s ≤ R0)
    (i1 : ∀ c u v, S0 ≤ c → c < s → A[c - a]? = some u → B[mid + m - 1 - c - m]? = some v → ats u ≤ ats v)
    (i2 : ∀ c u v, s ≤ c → c < R0 → A[c - a]? = some u → B[mid + m - 1 - c - m]? = some v → ats v < ats u) :
    ∃ A1 A2 B1 B2, Found ats a m b mid s (mid + m - s) A B A1 A2 B1 B2 := by
  have hsa : a ≤ s := by omega
  have hsm : s ≤ m := by omega
  have hem : m ≤ mid + m - s := by omega
  have heb : mid + m - s ≤ b := by omega
  refine ⟨A.take (s - a), A.drop (s - a), B.take (mid - s), B.drop (mid - s), ⟨by simp, by simp, by simp; omega, by simp; omega, by omega, ?_, ?_⟩⟩
  · intro x hx y hy
    obtain ⟨i, hi, rfl⟩ := List.mem_iff_getElem.1 hx
    obtain ⟨j, hj, rfl⟩ := List.mem_iff_getElem.1 hy
    rw [List.length_take] at hi
    rw [List.length_drop] at hj
    rw [List.getElem_take, List.getElem_drop]
    have hu : A[s - 1 - a]? = some A[s - 1 - a] := List.getElem?_eq_getElem (by omega)
    have hv : B[mid - s]? = some B[mid - s] := List.getElem?_eq_getElem (by omega)
    have q1 := i1 (s - 1) _ _ (by omega) (by omega) hu (by rw [show mid + m - 1 - (s - 1) - m = mid - s by omega]; exact hv)
    have q2 := hA.at (List.getElem?_eq_getElem (show i < A.length by omega)) hu (by omega)
    have q3 := hB.at hv (List.getElem?_eq_getElem (show mid - s + j < B.length by omega)) (by omega)
    omega
  · intro y hy x hx
    obtain ⟨i, hi, rfl⟩ := List.mem_iff_getElem.1 hx
    obtain ⟨j, hj, rfl⟩ := List.mem_iff_getElem.1 hy
    rw [List.length_drop] at hi
    rw [List.length_take] at hj
    rw [List.getElem_take, List.getElem_drop]
    have hu : A[s - a]? = some A[s - a] := List.getElem?_eq_getElem (by omega)
    have hv : B[mid - s - 1]? = some B[mid - s - 1] := List.getElem?_eq_getElem (by omega)
    have q1 := i2 s _ _ (by omega) (by omega) hu (by rw [show mid + m - 1 - s - m = mid - s - 1 by omega]; exact hv)
    have q2 := hA.at hu (List.getElem?_eq_getElem (show s - a + i < A.length by omega)) (by omega)
    have q3 := hB.at (List.getElem?_eq_getElem (show j < B.length by omega)) hv (by omega)
    omega

/-- The contract of the merge, for all rows of at most k things to merge. -/
def SymC (g cap len : Nat) (ats : Nat → Nat) (k : Nat) : Prop :=
  ∀ (a m b : Nat) (P A B Q : List Nat) (w : World), RowL w g (P ++ A ++ B ++ Q) → len = (P ++ A ++ B ++ Q).length → a = P.length → m = P.length + A.length → b = P.length + A.length + B.length → 0 < A.length → 0 < B.length → A.length + B.length ≤ k → Srt ats A → Srt ats B → Keys w g ats (A ++ B) → (∀ o, w.frozen? ⟨g, o, none⟩ = false) →
    Calls Tryd.prog 102 #[.slice (some ⟨g, 0, none⟩) len cap, .int .i64 (a : Int), .int .i64 (m : Int), .int .i64 (b : Int), .func (.func 74) #[] #[]] w fun e w' => e = .returned (.tuple #[]) ∧ ∃ M, Merged ats A B M ∧ SW w w' g (P ++ M ++ Q)

/-- The steps behind the search, one lemma each. -/
theorem rot_yes {w wr : World} {g cap len s m e : Nat} {P A1 A2 B1 B2 Q : List Nat} (v : Value) (hl : len < 9223372036854775808) (hD : SW w wr g (P ++ A1 ++ A2 ++ B1 ++ B2 ++ Q)) (hlen : len = (P ++ A1 ++ A2 ++ B1 ++ B2 ++ Q).length) (hs : s = P.length + A1.length) (hm : m = P.length + A1.length + A2.length) (he : e = P.length + A1.length + A2.length + B1.length) (hA : 0 < A2.length) (hB : 0 < B1.length) (fz : ∀ o, w.frozen? ⟨g, o, none⟩ = false) :
    Calls Tryd.prog 109 #[.slice (some ⟨g, 0, none⟩) len cap, .int .i64 (s : Int), .int .i64 (m : Int), .int .i64 (e : Int), v] wr fun e w' => e = .returned (.tuple #[]) ∧ SW w w' g (P ++ A1 ++ B1 ++ (A2 ++ B2 ++ Q)) := by
  refine (rotate_any g cap s m e len (P ++ A1) A2 B1 (B2 ++ Q) wr v (by simpa using hD.2) (by rw [hlen]; simp) (by simp; omega) (by simp; omega) (by simp; omega) hA hB hl (fun o => by rw [hD.1.fz]; exact fz o)).mono ?_
  rintro e w' ⟨rfl, h1, h2⟩
  exact ⟨rfl, (hD.1.trans h1).mono fun a o q => q.elim id id, by simpa using h2⟩
theorem mrg_yes {w w2 : World} {g cap len a s b k : Nat} {ats : Nat → Nat} {P A B Q : List Nat} (IH : SymC g cap len ats k) (hD : SW w w2 g (P ++ A ++ B ++ Q)) (hlen : len = (P ++ A ++ B ++ Q).length) (ha : a = P.length) (hs : s = P.length + A.length) (hb : b = P.length + A.length + B.length) (hA : 0 < A.length) (hB : 0 < B.length) (hk : A.length + B.length ≤ k) (sA : Srt ats A) (sB : Srt ats B) (hK : Keys w g ats (A ++ B)) (fz : ∀ o, w.frozen? ⟨g, o, none⟩ = false) :
    Calls Tryd.prog 102 #[.slice (some ⟨g, 0, none⟩) len cap, .int .i64 (a : Int), .int .i64 (s : Int), .int .i64 (b : Int), .func (.func 74) #[] #[]] w2 fun e w' => e = .returned (.tuple #[]) ∧ ∃ M, Merged ats A B M ∧ SW w w' g (P ++ M ++ Q) := by
  refine (IH a s b P A B Q w2 hD.2 hlen ha hs hb hA hB hk sA sB (hK.sw hD.1) (fun o => by rw [hD.1.fz]; exact fz o)).mono ?_
  rintro e w' ⟨rfl, M, hM, h1, h2⟩
  exact ⟨rfl, M, hM, (hD.1.trans h1).mono fun a o q => q.elim id id, h2⟩

set_option maxRecDepth 100000 in
set_option maxHeartbeats 20000000 in
theorem sym_gen (g cap a m b len k : Nat) (P A B Q : List Nat) (ats : Nat → Nat) (w : World) (hD : RowL w g (P ++ A ++ B ++ Q)) (hlen : len = (P ++ A ++ B ++ Q).length) (ha : a = P.length) (hm : m = P.length + A.length) (hb : b = P.length + A.length + B.length) (hA2 : 2 ≤ A.length) (hB2 : 2 ≤ B.length) (hk : A.length + B.length ≤ k + 1)
    (hl : len < 2305843009213693952) (hsA : Srt ats A) (hsB : Srt ats B) (hK : Keys w g ats (A ++ B)) (fz : ∀ o, w.frozen? ⟨g, o, none⟩ = false) (IH : SymC g cap len ats k) :
    Calls Tryd.prog 102 #[.slice (some ⟨g, 0, none⟩) len cap, .int .i64 (a : Int), .int .i64 (m : Int), .int .i64 (b : Int), .func (.func 74) #[] #[]] w fun e w' => e = .returned (.tuple #[]) ∧ ∃ M, Merged ats A B M ∧ SW w w' g (P ++ M ++ Q) := by
  have hm1 : ((m : Int) - (a : Int) == 1) = false := by rw [beq_eq_false_iff_ne]; omega
  have hm2 : ((b : Int) - (m : Int) == 1) = false := by rw [beq_eq_false_iff_ne]; omega
  have hbl : b ≤ len := by simp at hlen; omega
  have ham : a + 2 ≤ m := by omega
  have hmb : m + 2 ≤ b := by omega
  obtain ⟨mid, hmid⟩ : ∃ mid, (a + b) / 2 = mid := ⟨_, rfl⟩
  have e1 : ((a : Int) + (b : Int)) / 2 = (mid : Int) := by omega
  have hmd1 : a < mid ∧ mid < b := by omega
  obtain ⟨hmd2, hmd3⟩ := hmd1
  obtain ⟨S0, R0, hSR⟩ : ∃ S0 R0, (mid < m ∧ S0 = mid + m - b ∧ R0 = mid) ∨ (m ≤ mid ∧ S0 = a ∧ R0 = m) := by
    by_cases h : mid < m
    · exact ⟨_, _, .inl ⟨h, rfl, rfl⟩⟩
    · exact ⟨_, _, .inr ⟨by omega, rfl, rfl⟩⟩
  have hSR1 : a ≤ S0 ∧ S0 ≤ R0 ∧ R0 ≤ m := by omega
  obtain ⟨hS1, hS2, hS3⟩ := hSR1
  obtain ⟨pp, hpp⟩ : ∃ pp, mid + m - 1 = pp := ⟨_, rfl⟩
  have e4 : (mid : Int) + (m : Int) - 1 = (pp : Int) := by omega
  have hppb : pp < 2 * len ∧ mid + m = pp + 1 := by omega
  obtain ⟨hpb, hpm⟩ := hppb
  have HSR := hide hSR
  clear hpp
  have HMid := hide hmid.symm
  have HM := hide hm; have HA := hide ha; have HB := hide hb; have HL := hide hlen; have HSA := hide hsA; have HSB := hide hsB; have HK := hide hK; have HF := hide fz; have HD := hide hD; have HIH := hide IH; have HKK := hide hk
  have HA2 := hide hA2; have HB2 := hide hB2
  clear hm ha hb hlen hsA hsB hK fz hD IH hA2 hB2 hmid hk
  rcases hSR with ⟨hc, hs0, hr0⟩ | ⟨hc, hs0, hr0⟩
  · have e2 : (mid : Int) + (m : Int) - (b : Int) = (S0 : Int) := by omega
    have hc' : (mid : Int) < (m : Int) := by omega
    have HR0 := hide hr0
    clear hs0 hc hr0
    go_enter Tryd.func102, Tryd.ntmps102
    go_wp2
    go_loopw [20, 21] (fun i j wr => ∃ I J : Nat, i = .int .i64 (I : Int) ∧ j = .int .i64 (J : Int) ∧ S0 ≤ I ∧ I ≤ J ∧ J ≤ R0 ∧ (∀ c u v, S0 ≤ c → c < I → A[c - a]? = some u → B[mid + m - 1 - c - m]? = some v → ats u ≤ ats v) ∧ (∀ c u v, J ≤ c → c < R0 → A[c - a]? = some u → B[mid + m - 1 - c - m]? = some v → ats v < ats u) ∧ Ch w wr (fun _ _ => False)) (fun i j _ => (intOf j - intOf i).toNat)
    case atStart => exact ⟨S0, R0, rfl, by rw [unhide HR0], Nat.le_refl _, hS2, Nat.le_refl _, fun c u v h1 h2 => by omega, fun c u v h1 h2 => by omega, Ch.refl _ _⟩
    case round =>
      obtain ⟨I, J, rfl, rfl, h1, h2, h3, hv1, hv2, hCh⟩ := hrel
      have HV1 := hide hv1; have HV2 := hide hv2; clear hv1 hv2
      have hcel : ∀ b o, wr.cell? ⟨b, o, none⟩ = w.cell? ⟨b, o, none⟩ := fun b o => hCh.cell b o fun q => q
      have HCh := hide hCh; have Hcel := hide hcel
      clear hCh hcel
      by_cases hlt : I < J
      · obtain ⟨h, hh⟩ : ∃ h, (I + J) / 2 = h := ⟨_, rfl⟩
        have c1 : ((I : Int) + (J : Int)) / 2 = (h : Int) := by omega
        have c3 : I ≤ h ∧ h < J := by omega
        obtain ⟨c4, c5⟩ := c3
        obtain ⟨d, hd⟩ : ∃ d, pp - h = d := ⟨_, rfl⟩
        have haa := unhide HA; have hmm := unhide HM; have hbb := unhide HB; have hsr := unhide HSR; have hmidd := unhide HMid
        have c6 : (pp : Int) - (h : Int) = (d : Int) := by omega
        have c7 : m ≤ d ∧ d < b := by omega
        have c2 : (h : Int) < (len : Int) := by omega
        have c2' : (d : Int) < (len : Int) := by omega
        have hult : h - a < A.length := by omega
        have hvlt : d - m < B.length := by omega
        have hu : A[h - a]? = some A[h - a] := List.getElem?_eq_getElem hult
        have hv : B[d - m]? = some B[d - m] := List.getElem?_eq_getElem hvlt
        obtain ⟨u, hue⟩ : ∃ u, A[h - a] = u := ⟨_, rfl⟩
        obtain ⟨v, hve⟩ : ∃ v, B[d - m] = v := ⟨_, rfl⟩
        rw [hue] at hu
        rw [hve] at hv
        have hcu : w.cell? ⟨g, h, none⟩ = some (.pointer (some ⟨u, 0, none⟩)) := by
          refine unhide HD h u ?_
          rw [List.append_assoc, List.append_assoc, List.getElem?_append_right (by omega), show h - P.length = h - a by omega, List.getElem?_append_left hult]
          exact hu
        have hcv : w.cell? ⟨g, d, none⟩ = some (.pointer (some ⟨v, 0, none⟩)) := by
          refine unhide HD d v ?_
          rw [List.append_assoc, List.getElem?_append_right (by simp; omega), show d - (P ++ A).length = d - m by simp; omega, List.getElem?_append_left hvlt]
          exact hv
        have hku := (unhide HK u (by rw [List.mem_append]; exact .inl (List.mem_of_getElem? hu))).2
        have hkv := (unhide HK v (by rw [List.mem_append]; exact .inr (List.mem_of_getElem? hv))).2
        have hcu' := (unhide Hcel g h).trans hcu
        have hcv' := (unhide Hcel g d).trans hcv
        have hku' := (unhide Hcel u 3).trans hku
        have hkv' := (unhide Hcel v 3).trans hkv
        have HU := hide hu; have HV := hide hv; have HDD := hide (And.intro hd (And.intro c7.1 c7.2))
        clear hu hv hue hve hcu hcv hku hkv hult hvlt haa hmm hbb hsr hmidd hh hd c7
        by_cases hlz : ats v < ats u
        · have hcm := lt_cmp hlz
          go_wp2
          go_quiet (first | (go_at_call 74; refine Calls.quiet_of (less_any v u (ats v) (ats u) _ hkv' hku')))
          go_wp2
          refine ⟨⟨I, h, rfl, rfl, h1, by omega, by omega, unhide HV1, fun c x y q1 q2 q3 q4 => ?_, (unhide HCh).drewN _⟩, by simp only [intOf]; omega⟩
          have haa := unhide HA; have hmm := unhide HM; have hdd := unhide HDD
          have a1 := (unhide HSA).at (unhide HU) q3 (by omega)
          have a2 := (unhide HSB).at q4 (unhide HV) (by omega)
          omega
        · have hcm := ge_cmp hlz
          have hcm2 : decide (cmpI (ats v) (ats u) < 0) = false := by simp; exact hcm
          go_wp2
          go_quiet (first | (go_at_call 74; refine Calls.quiet_of (less_any v u (ats v) (ats u) _ hkv' hku')))
          go_wp2
          go_roundw
          case rel =>
            refine ⟨h + 1, J, by go_num, rfl, by omega, by omega, h3, fun c x y q1 q2 q3 q4 => ?_, unhide HV2, (unhide HCh).drewN _⟩
            have haa := unhide HA; have hmm := unhide HM; have hdd := unhide HDD
            have a1 := (unhide HSA).at q3 (unhide HU) (by omega)
            have a2 := (unhide HSB).at (unhide HV) q4 (by omega)
            omega
          case measure => simp only [intOf]; omega
      · obtain rfl : I = J := by omega
        have haa := unhide HA; have hmm := unhide HM; have hbb := unhide HB; have hll := unhide HL
        obtain ⟨A1, A2, B1, B2, F⟩ := found_of (unhide HSA) (unhide HSB) (show a + A.length = m by omega) (show m + B.length = b by omega) (unhide HMid) (unhide HSR) h1 h3 (unhide HV1) (unhide HV2)
        obtain ⟨s, hs⟩ : ∃ s, I = s := ⟨_, rfl⟩
        subst hs
        obtain ⟨ee, hee⟩ : ∃ ee, mid + m - I = ee := ⟨_, rfl⟩
        rw [hee] at F
        have eA := F.eA; have eB := F.eB; have la := F.la; have lb := F.lb; have lm := F.lm
        have e5 : (mid : Int) + (m : Int) - (I : Int) = (ee : Int) := by omega
        have D0 := hide (show SW w wr g (P ++ A1 ++ A2 ++ B1 ++ B2 ++ Q) from ⟨(unhide HCh).mono fun _ _ q => q.elim, fun o z hz => by rw [unhide Hcel]; have := unhide HD; rw [eA, eB] at this; exact this o z (by simpa using hz)⟩)
        have FJ := hide (show ∀ M1 M2, Merged ats A1 B1 M1 → Merged ats A2 B2 M2 → Merged ats A B (M1 ++ M2) from fun M1 M2 q1 q2 => by rw [eA, eB]; exact q1.join q2 (eA ▸ unhide HSA) (eB ▸ unhide HSB) F.F1 F.F2)
        have SA := hide (srt_append.1 (eA ▸ unhide HSA)); have SB := hide (srt_append.1 (eB ▸ unhide HSB))
        have HK1 := hide (show Keys w g ats (A1 ++ B1) from fun z hz => unhide HK z (by rw [eA, eB]; rcases List.mem_append.1 hz with q | q <;> simp [q]))
        have HK2 := hide (show Keys w g ats (A2 ++ B2) from fun z hz => unhide HK z (by rw [eA, eB]; rcases List.mem_append.1 hz with q | q <;> simp [q]))
        have ll1 : len = P.length + (A1.length + A2.length) + (B1.length + B2.length) + Q.length := by rw [hll, eA, eB]; simp; omega
        have lA : A.length = A1.length + A2.length := by rw [eA]; simp
        have lB : B.length = B1.length + B2.length := by rw [eB]; simp
        have lP : a = P.length ∧ m = P.length + A.length ∧ b = P.length + A.length + B.length ∧ a < mid ∧ mid < b := ⟨haa, hmm, hbb, hmd2, hmd3⟩
        clear eA eB F haa hmm hbb hll hee hlt
        by_cases b1 : I < m
        · by_cases b2 : I < mid
          · by_cases b3 : a < I
            · by_cases b6 : ee < b
              · have T1 : (I : Int) < (m : Int) := by omega
                have T2 : (m : Int) < (ee : Int) := by omega
                have T3 : (a : Int) < (I : Int) := by omega
                have T4 : (I : Int) < (mid : Int) := by omega
                have T5 : (mid : Int) < (ee : Int) := by omega
                have T6 : (ee : Int) < (b : Int) := by omega
                have nA1 : 0 < A1.length := by omega
                have nA2 : 0 < A2.length := by omega
                have nB1 : 0 < B1.length := by omega
                have nB2 : 0 < B2.length := by omega
                have ROT := hide (rot_yes (w := w) (wr := wr) (g := g) (cap := cap) (len := len) (s := I) (m := m) (e := ee) (P := P) (A1 := A1) (A2 := A2) (B1 := B1) (B2 := B2) (Q := Q) (.func (.func 74) #[] #[]) (by omega) (unhide D0) (by simp; omega) (show I = _ by omega) (show m = _ by omega) (show ee = _ by omega) nA2 nB1 (unhide HF))
                have NN := hide (And.intro nA1 (And.intro nA2 (And.intro nB1 (And.intro nB2 (And.intro la (And.intro lb (And.intro lm (And.intro ll1 (And.intro lA (And.intro lB lP))))))))))
                clear nA1 nA2 nB1 nB2 la lb lm ll1 lA lB lP
                go_wp2_with fail
                refine (unhide ROT).mono ?_
                rintro e' w2 ⟨rfl, hsw2⟩
                have D1 := hide hsw2
                clear hsw2
                have CL := hide (by obtain ⟨nA1, nA2, nB1, nB2, la, lb, lm, ll1, lA, lB, lP⟩ := unhide NN; exact mrg_yes (w := w) (g := g) (cap := cap) (len := len) (ats := ats) (k := k) (P := P) (A := A1) (B := B1) (Q := A2 ++ B2 ++ Q) (a := a) (s := I) (b := mid) (unhide HIH) (unhide D1) (by simp; omega) (by omega) (by omega) (by omega) nA1 nB1 (by have := unhide HKK; omega) (unhide SA).1 (unhide SB).1 (unhide HK1) (unhide HF))
                go_wp2_with fail
                refine (unhide CL).mono ?_
                rintro e' w3 ⟨rfl, M1, hM1, hsw3⟩
                have HM1 := hide hM1
                have D2 := hide hsw3
                clear hM1 hsw3
                have CR := hide (by obtain ⟨nA1, nA2, nB1, nB2, la, lb, lm, ll1, lA, lB, lP⟩ := unhide NN; have q1 := (unhide HM1).len; exact mrg_yes (w := w) (g := g) (cap := cap) (len := len) (ats := ats) (k := k) (P := P ++ M1) (A := A2) (B := B2) (Q := Q) (a := mid) (s := ee) (b := b) (unhide HIH) ⟨(unhide D2).1, by simpa using (unhide D2).2⟩ (by simp at q1 ⊢; omega) (by simp at q1 ⊢; omega) (by simp at q1 ⊢; omega) (by simp at q1 ⊢; omega) nA2 nB2 (by have := unhide HKK; omega) (unhide SA).2.1 (unhide SB).2.1 (unhide HK2) (unhide HF))
                go_wp2_with fail
                refine (unhide CR).mono ?_
                rintro e' w4 ⟨rfl, M2, hM2, hsw4⟩
                have HM2 := hide hM2
                have D3 := hide hsw4
                clear hM2 hsw4
                have HP := hide (show ∃ M, Merged ats A B M ∧ SW w w4 g (P ++ M ++ Q) from ⟨M1 ++ M2, (unhide FJ) _ _ (unhide HM1) (unhide HM2), (unhide D3).1, by simpa using (unhide D3).2⟩)
                go_wp2
                go_end0
                exact ⟨rfl, by simpa using unhide HP⟩
              · have T1 : (I : Int) < (m : Int) := by omega
                have T2 : (m : Int) < (ee : Int) := by omega
                have T3 : (a : Int) < (I : Int) := by omega
                have T4 : (I : Int) < (mid : Int) := by omega
                have T5 : (mid : Int) < (ee : Int) := by omega
                have T6 : ¬ (ee : Int) < (b : Int) := by omega
                have nA1 : 0 < A1.length := by omega
                have nA2 : 0 < A2.length := by omega
                have nB1 : 0 < B1.length := by omega
                have nB2 : B2 = [] := List.eq_nil_of_length_eq_zero (by omega)
                have ROT := hide (rot_yes (w := w) (wr := wr) (g := g) (cap := cap) (len := len) (s := I) (m := m) (e := ee) (P := P) (A1 := A1) (A2 := A2) (B1 := B1) (B2 := B2) (Q := Q) (.func (.func 74) #[] #[]) (by omega) (unhide D0) (by simp; omega) (show I = _ by omega) (show m = _ by omega) (show ee = _ by omega) nA2 nB1 (unhide HF))
                have NN := hide (And.intro nA1 (And.intro nA2 (And.intro nB1 (And.intro nB2 (And.intro la (And.intro lb (And.intro lm (And.intro ll1 (And.intro lA (And.intro lB lP))))))))))
                clear nA1 nA2 nB1 nB2 la lb lm ll1 lA lB lP
                go_wp2_with fail
                refine (unhide ROT).mono ?_
                rintro e' w2 ⟨rfl, hsw2⟩
                have D1 := hide hsw2
                clear hsw2
                have CL := hide (by obtain ⟨nA1, nA2, nB1, nB2, la, lb, lm, ll1, lA, lB, lP⟩ := unhide NN; exact mrg_yes (w := w) (g := g) (cap := cap) (len := len) (ats := ats) (k := k) (P := P) (A := A1) (B := B1) (Q := A2 ++ B2 ++ Q) (a := a) (s := I) (b := mid) (unhide HIH) (unhide D1) (by simp; omega) (by omega) (by omega) (by omega) nA1 nB1 (by have := unhide HKK; omega) (unhide SA).1 (unhide SB).1 (unhide HK1) (unhide HF))
                go_wp2_with fail
                refine (unhide CL).mono ?_
                rintro e' w3 ⟨rfl, M1, hM1, hsw3⟩
                have HM1 := hide hM1
                have D2 := hide hsw3
                clear hM1 hsw3
                have HM2 : Hid (Merged ats A2 B2 (A2 ++ B2)) := by
                  obtain ⟨nA1, nA2, nB1, nB2, la, lb, lm, ll1, lA, lB, lP⟩ := unhide NN
                  show Merged _ _ _ _
                  rw [nB2, List.append_nil]
                  exact merged_nil_right ats A2 (unhide SA).2.1
                have HP := hide (show ∃ M, Merged ats A B M ∧ SW w w3 g (P ++ M ++ Q) from ⟨M1 ++ (A2 ++ B2), (unhide FJ) _ _ (unhide HM1) (unhide HM2), (unhide D2).1, by simpa using (unhide D2).2⟩)
                go_wp2
                go_end0
                exact ⟨rfl, by simpa using unhide HP⟩
            · by_cases b6 : ee < b
              · have T1 : (I : Int) < (m : Int) := by omega
                have T2 : (m : Int) < (ee : Int) := by omega
                have T3 : ¬ (a : Int) < (I : Int) := by omega
                have T4 : (I : Int) < (mid : Int) := by omega
                have T5 : (mid : Int) < (ee : Int) := by omega
                have T6 : (ee : Int) < (b : Int) := by omega
                have nA1 : A1 = [] := List.eq_nil_of_length_eq_zero (by omega)
                have nA2 : 0 < A2.length := by omega
                have nB1 : 0 < B1.length := by omega
                have nB2 : 0 < B2.length := by omega
                have ROT := hide (rot_yes (w := w) (wr := wr) (g := g) (cap := cap) (len := len) (s := I) (m := m) (e := ee) (P := P) (A1 := A1) (A2 := A2) (B1 := B1) (B2 := B2) (Q := Q) (.func (.func 74) #[] #[]) (by omega) (unhide D0) (by simp; omega) (show I = _ by omega) (show m = _ by omega) (show ee = _ by omega) nA2 nB1 (unhide HF))
                have NN := hide (And.intro nA1 (And.intro nA2 (And.intro nB1 (And.intro nB2 (And.intro la (And.intro lb (And.intro lm (And.intro ll1 (And.intro lA (And.intro lB lP))))))))))
                clear nA1 nA2 nB1 nB2 la lb lm ll1 lA lB lP
                go_wp2_with fail
                refine (unhide ROT).mono ?_
                rintro e' w2 ⟨rfl, hsw2⟩
                have D1 := hide hsw2
                clear hsw2
                have HM1 : Hid (Merged ats A1 B1 (A1 ++ B1)) := by
                  obtain ⟨nA1, nA2, nB1, nB2, la, lb, lm, ll1, lA, lB, lP⟩ := unhide NN
                  show Merged _ _ _ _
                  rw [nA1]
                  exact merged_nil_left ats B1 (unhide SB).1
                have D2 := hide (show SW w w2 g (P ++ (A1 ++ B1) ++ (A2 ++ B2 ++ Q)) from ⟨(unhide D1).1, by simpa using (unhide D1).2⟩)
                have CR := hide (by obtain ⟨nA1, nA2, nB1, nB2, la, lb, lm, ll1, lA, lB, lP⟩ := unhide NN; have q1 := (unhide HM1).len; exact mrg_yes (w := w) (g := g) (cap := cap) (len := len) (ats := ats) (k := k) (P := P ++ (A1 ++ B1)) (A := A2) (B := B2) (Q := Q) (a := mid) (s := ee) (b := b) (unhide HIH) ⟨(unhide D2).1, by simpa using (unhide D2).2⟩ (by simp at q1 ⊢; omega) (by simp at q1 ⊢; omega) (by simp at q1 ⊢; omega) (by simp at q1 ⊢; omega) nA2 nB2 (by have := unhide HKK; omega) (unhide SA).2.1 (unhide SB).2.1 (unhide HK2) (unhide HF))
                go_wp2_with fail
                refine (unhide CR).mono ?_
                rintro e' w4 ⟨rfl, M2, hM2, hsw4⟩
                have HM2 := hide hM2
                have D3 := hide hsw4
                clear hM2 hsw4
                have HP := hide (show ∃ M, Merged ats A B M ∧ SW w w4 g (P ++ M ++ Q) from ⟨(A1 ++ B1) ++ M2, (unhide FJ) _ _ (unhide HM1) (unhide HM2), (unhide D3).1, by simpa using (unhide D3).2⟩)
                go_wp2
                go_end0
                exact ⟨rfl, by simpa using unhide HP⟩
              · have T1 : (I : Int) < (m : Int) := by omega
                have T2 : (m : Int) < (ee : Int) := by omega
                have T3 : ¬ (a : Int) < (I : Int) := by omega
                have T4 : (I : Int) < (mid : Int) := by omega
                have T5 : (mid : Int) < (ee : Int) := by omega
                have T6 : ¬ (ee : Int) < (b : Int) := by omega
                have nA1 : A1 = [] := List.eq_nil_of_length_eq_zero (by omega)
                have nA2 : 0 < A2.length := by omega
                have nB1 : 0 < B1.length := by omega
                have nB2 : B2 = [] := List.eq_nil_of_length_eq_zero (by omega)
                have ROT := hide (rot_yes (w := w) (wr := wr) (g := g) (cap := cap) (len := len) (s := I) (m := m) (e := ee) (P := P) (A1 := A1) (A2 := A2) (B1 := B1) (B2 := B2) (Q := Q) (.func (.func 74) #[] #[]) (by omega) (unhide D0) (by simp; omega) (show I = _ by omega) (show m = _ by omega) (show ee = _ by omega) nA2 nB1 (unhide HF))
                have NN := hide (And.intro nA1 (And.intro nA2 (And.intro nB1 (And.intro nB2 (And.intro la (And.intro lb (And.intro lm (And.intro ll1 (And.intro lA (And.intro lB lP))))))))))
                clear nA1 nA2 nB1 nB2 la lb lm ll1 lA lB lP
                go_wp2_with fail
                refine (unhide ROT).mono ?_
                rintro e' w2 ⟨rfl, hsw2⟩
                have D1 := hide hsw2
                clear hsw2
                have HM1 : Hid (Merged ats A1 B1 (A1 ++ B1)) := by
                  obtain ⟨nA1, nA2, nB1, nB2, la, lb, lm, ll1, lA, lB, lP⟩ := unhide NN
                  show Merged _ _ _ _
                  rw [nA1]
                  exact merged_nil_left ats B1 (unhide SB).1
                have D2 := hide (show SW w w2 g (P ++ (A1 ++ B1) ++ (A2 ++ B2 ++ Q)) from ⟨(unhide D1).1, by simpa using (unhide D1).2⟩)
                have HM2 : Hid (Merged ats A2 B2 (A2 ++ B2)) := by
                  obtain ⟨nA1, nA2, nB1, nB2, la, lb, lm, ll1, lA, lB, lP⟩ := unhide NN
                  show Merged _ _ _ _
                  rw [nB2, List.append_nil]
                  exact merged_nil_right ats A2 (unhide SA).2.1
                have HP := hide (show ∃ M, Merged ats A B M ∧ SW w w2 g (P ++ M ++ Q) from ⟨(A1 ++ B1) ++ (A2 ++ B2), (unhide FJ) _ _ (unhide HM1) (unhide HM2), (unhide D2).1, by simpa using (unhide D2).2⟩)
                go_wp2
                go_end0
                exact ⟨rfl, by simpa using unhide HP⟩
          · by_cases b6 : ee < b
            · have T1 : (I : Int) < (m : Int) := by omega
              have T2 : ¬ (m : Int) < (ee : Int) := by omega
              have T3 : (a : Int) < (I : Int) := by omega
              have T4 : ¬ (I : Int) < (mid : Int) := by omega
              have T5 : (mid : Int) < (ee : Int) := by omega
              have T6 : (ee : Int) < (b : Int) := by omega
              have nA1 : 0 < A1.length := by omega
              have nA2 : 0 < A2.length := by omega
              have nB1 : B1 = [] := List.eq_nil_of_length_eq_zero (by omega)
              have nB2 : 0 < B2.length := by omega
              have D1 := hide (show SW w wr g (P ++ A1 ++ B1 ++ (A2 ++ B2 ++ Q)) from ⟨(unhide D0).1, by have := (unhide D0).2; rw [nB1] at this ⊢; simpa using this⟩)
              have NN := hide (And.intro nA1 (And.intro nA2 (And.intro nB1 (And.intro nB2 (And.intro la (And.intro lb (And.intro lm (And.intro ll1 (And.intro lA (And.intro lB lP))))))))))
              clear nA1 nA2 nB1 nB2 la lb lm ll1 lA lB lP
              have HM1 : Hid (Merged ats A1 B1 (A1 ++ B1)) := by
                obtain ⟨nA1, nA2, nB1, nB2, la, lb, lm, ll1, lA, lB, lP⟩ := unhide NN
                show Merged _ _ _ _
                rw [nB1, List.append_nil]
                exact merged_nil_right ats A1 (unhide SA).1
              have D2 := hide (show SW w wr g (P ++ (A1 ++ B1) ++ (A2 ++ B2 ++ Q)) from ⟨(unhide D1).1, by simpa using (unhide D1).2⟩)
              have CR := hide (by obtain ⟨nA1, nA2, nB1, nB2, la, lb, lm, ll1, lA, lB, lP⟩ := unhide NN; have q1 := (unhide HM1).len; exact mrg_yes (w := w) (g := g) (cap := cap) (len := len) (ats := ats) (k := k) (P := P ++ (A1 ++ B1)) (A := A2) (B := B2) (Q := Q) (a := mid) (s := ee) (b := b) (unhide HIH) ⟨(unhide D2).1, by simpa using (unhide D2).2⟩ (by simp at q1 ⊢; omega) (by simp at q1 ⊢; omega) (by simp at q1 ⊢; omega) (by simp at q1 ⊢; omega) nA2 nB2 (by have := unhide HKK; omega) (unhide SA).2.1 (unhide SB).2.1 (unhide HK2) (unhide HF))
              go_wp2_with fail
              refine (unhide CR).mono ?_
              rintro e' w4 ⟨rfl, M2, hM2, hsw4⟩
              have HM2 := hide hM2
              have D3 := hide hsw4
              clear hM2 hsw4
              have HP := hide (show ∃ M, Merged ats A B M ∧ SW w w4 g (P ++ M ++ Q) from ⟨(A1 ++ B1) ++ M2, (unhide FJ) _ _ (unhide HM1) (unhide HM2), (unhide D3).1, by simpa using (unhide D3).2⟩)
              go_wp2
              go_end0
              exact ⟨rfl, by simpa using unhide HP⟩
            · have T1 : (I : Int) < (m : Int) := by omega
              have T2 : ¬ (m : Int) < (ee : Int) := by omega
              have T3 : (a : Int) < (I : Int) := by omega
              have T4 : ¬ (I : Int) < (mid : Int) := by omega
              have T5 : (mid : Int) < (ee : Int) := by omega
              have T6 : ¬ (ee : Int) < (b : Int) := by omega
              have nA1 : 0 < A1.length := by omega
              have nA2 : 0 < A2.length := by omega
              have nB1 : B1 = [] := List.eq_nil_of_length_eq_zero (by omega)
              have nB2 : B2 = [] := List.eq_nil_of_length_eq_zero (by omega)
              have D1 := hide (show SW w wr g (P ++ A1 ++ B1 ++ (A2 ++ B2 ++ Q)) from ⟨(unhide D0).1, by have := (unhide D0).2; rw [nB1] at this ⊢; simpa using this⟩)
              have NN := hide (And.intro nA1 (And.intro nA2 (And.intro nB1 (And.intro nB2 (And.intro la (And.intro lb (And.intro lm (And.intro ll1 (And.intro lA (And.intro lB lP))))))))))
              clear nA1 nA2 nB1 nB2 la lb lm ll1 lA lB lP
              have HM1 : Hid (Merged ats A1 B1 (A1 ++ B1)) := by
                obtain ⟨nA1, nA2, nB1, nB2, la, lb, lm, ll1, lA, lB, lP⟩ := unhide NN
                show Merged _ _ _ _
                rw [nB1, List.append_nil]
                exact merged_nil_right ats A1 (unhide SA).1
              have D2 := hide (show SW w wr g (P ++ (A1 ++ B1) ++ (A2 ++ B2 ++ Q)) from ⟨(unhide D1).1, by simpa using (unhide D1).2⟩)
              have HM2 : Hid (Merged ats A2 B2 (A2 ++ B2)) := by
                obtain ⟨nA1, nA2, nB1, nB2, la, lb, lm, ll1, lA, lB, lP⟩ := unhide NN
                show Merged _ _ _ _
                rw [nB2, List.append_nil]
                exact merged_nil_right ats A2 (unhide SA).2.1
              have HP := hide (show ∃ M, Merged ats A B M ∧ SW w wr g (P ++ M ++ Q) from ⟨(A1 ++ B1) ++ (A2 ++ B2), (unhide FJ) _ _ (unhide HM1) (unhide HM2), (unhide D2).1, by simpa using (unhide D2).2⟩)
              go_wp2
              go_end0
              exact ⟨rfl, by simpa using unhide HP⟩
        · exfalso
          have := unhide HR0
          have := unhide HSR
          omega
  · have hc' : ¬ (mid : Int) < (m : Int) := by omega
    have HR0 := hide hr0
    have HS0 := hide hs0
    clear hc hr0 hs0
    go_enter Tryd.func102, Tryd.ntmps102
    go_wp2
    go_loopw [20, 21] (fun i j wr => ∃ I J : Nat, i = .int .i64 (I : Int) ∧ j = .int .i64 (J : Int) ∧ S0 ≤ I ∧ I ≤ J ∧ J ≤ R0 ∧ (∀ c u v, S0 ≤ c → c < I → A[c - a]? = some u → B[mid + m - 1 - c - m]? = some v → ats u ≤ ats v) ∧ (∀ c u v, J ≤ c → c < R0 → A[c - a]? = some u → B[mid + m - 1 - c - m]? = some v → ats v < ats u) ∧ Ch w wr (fun _ _ => False)) (fun i j _ => (intOf j - intOf i).toNat)
    case atStart => exact ⟨S0, R0, by rw [unhide HS0], by rw [unhide HR0], Nat.le_refl _, hS2, Nat.le_refl _, fun c u v h1 h2 => by omega, fun c u v h1 h2 => by omega, Ch.refl _ _⟩
    case round =>
      obtain ⟨I, J, rfl, rfl, h1, h2, h3, hv1, hv2, hCh⟩ := hrel
      have HV1 := hide hv1; have HV2 := hide hv2; clear hv1 hv2
      have hcel : ∀ b o, wr.cell? ⟨b, o, none⟩ = w.cell? ⟨b, o, none⟩ := fun b o => hCh.cell b o fun q => q
      have HCh := hide hCh; have Hcel := hide hcel
      clear hCh hcel
      by_cases hlt : I < J
      · obtain ⟨h, hh⟩ : ∃ h, (I + J) / 2 = h := ⟨_, rfl⟩
        have c1 : ((I : Int) + (J : Int)) / 2 = (h : Int) := by omega
        have c3 : I ≤ h ∧ h < J := by omega
        obtain ⟨c4, c5⟩ := c3
        obtain ⟨d, hd⟩ : ∃ d, pp - h = d := ⟨_, rfl⟩
        have haa := unhide HA; have hmm := unhide HM; have hbb := unhide HB; have hsr := unhide HSR; have hmidd := unhide HMid
        have c6 : (pp : Int) - (h : Int) = (d : Int) := by omega
        have c7 : m ≤ d ∧ d < b := by omega
        have c2 : (h : Int) < (len : Int) := by omega
        have c2' : (d : Int) < (len : Int) := by omega
        have hult : h - a < A.length := by omega
        have hvlt : d - m < B.length := by omega
        have hu : A[h - a]? = some A[h - a] := List.getElem?_eq_getElem hult
        have hv : B[d - m]? = some B[d - m] := List.getElem?_eq_getElem hvlt
        obtain ⟨u, hue⟩ : ∃ u, A[h - a] = u := ⟨_, rfl⟩
        obtain ⟨v, hve⟩ : ∃ v, B[d - m] = v := ⟨_, rfl⟩
        rw [hue] at hu
        rw [hve] at hv
        have hcu : w.cell? ⟨g, h, none⟩ = some (.pointer (some ⟨u, 0, none⟩)) := by
          refine unhide HD h u ?_
          rw [List.append_assoc, List.append_assoc, List.getElem?_append_right (by omega), show h - P.length = h - a by omega, List.getElem?_append_left hult]
          exact hu
        have hcv : w.cell? ⟨g, d, none⟩ = some (.pointer (some ⟨v, 0, none⟩)) := by
          refine unhide HD d v ?_
          rw [List.append_assoc, List.getElem?_append_right (by simp; omega), show d - (P ++ A).length = d - m by simp; omega, List.getElem?_append_left hvlt]
          exact hv
        have hku := (unhide HK u (by rw [List.mem_append]; exact .inl (List.mem_of_getElem? hu))).2
        have hkv := (unhide HK v (by rw [List.mem_append]; exact .inr (List.mem_of_getElem? hv))).2
        have hcu' := (unhide Hcel g h).trans hcu
        have hcv' := (unhide Hcel g d).trans hcv
        have hku' := (unhide Hcel u 3).trans hku
        have hkv' := (unhide Hcel v 3).trans hkv
        have HU := hide hu; have HV := hide hv; have HDD := hide (And.intro hd (And.intro c7.1 c7.2))
        clear hu hv hue hve hcu hcv hku hkv hult hvlt haa hmm hbb hsr hmidd hh hd c7
        by_cases hlz : ats v < ats u
        · have hcm := lt_cmp hlz
          go_wp2
          go_quiet (first | (go_at_call 74; refine Calls.quiet_of (less_any v u (ats v) (ats u) _ hkv' hku')))
          go_wp2
          refine ⟨⟨I, h, rfl, rfl, h1, by omega, by omega, unhide HV1, fun c x y q1 q2 q3 q4 => ?_, (unhide HCh).drewN _⟩, by simp only [intOf]; omega⟩
          have haa := unhide HA; have hmm := unhide HM; have hdd := unhide HDD
          have a1 := (unhide HSA).at (unhide HU) q3 (by omega)
          have a2 := (unhide HSB).at q4 (unhide HV) (by omega)
          omega
        · have hcm := ge_cmp hlz
          have hcm2 : decide (cmpI (ats v) (ats u) < 0) = false := by simp; exact hcm
          go_wp2
          go_quiet (first | (go_at_call 74; refine Calls.quiet_of (less_any v u (ats v) (ats u) _ hkv' hku')))
          go_wp2
          go_roundw
          case rel =>
            refine ⟨h + 1, J, by go_num, rfl, by omega, by omega, h3, fun c x y q1 q2 q3 q4 => ?_, unhide HV2, (unhide HCh).drewN _⟩
            have haa := unhide HA; have hmm := unhide HM; have hdd := unhide HDD
            have a1 := (unhide HSA).at q3 (unhide HU) (by omega)
            have a2 := (unhide HSB).at (unhide HV) q4 (by omega)
            omega
          case measure => simp only [intOf]; omega
      · obtain rfl : I = J := by omega
        have haa := unhide HA; have hmm := unhide HM; have hbb := unhide HB; have hll := unhide HL
        obtain ⟨A1, A2, B1, B2, F⟩ := found_of (unhide HSA) (unhide HSB) (show a + A.length = m by omega) (show m + B.length = b by omega) (unhide HMid) (unhide HSR) h1 h3 (unhide HV1) (unhide HV2)
        obtain ⟨s, hs⟩ : ∃ s, I = s := ⟨_, rfl⟩
        subst hs
        obtain ⟨ee, hee⟩ : ∃ ee, mid + m - I = ee := ⟨_, rfl⟩
        rw [hee] at F
        have eA := F.eA; have eB := F.eB; have la := F.la; have lb := F.lb; have lm := F.lm
        have e5 : (mid : Int) + (m : Int) - (I : Int) = (ee : Int) := by omega
        have D0 := hide (show SW w wr g (P ++ A1 ++ A2 ++ B1 ++ B2 ++ Q) from ⟨(unhide HCh).mono fun _ _ q => q.elim, fun o z hz => by rw [unhide Hcel]; have := unhide HD; rw [eA, eB] at this; exact this o z (by simpa using hz)⟩)
        have FJ := hide (show ∀ M1 M2, Merged ats A1 B1 M1 → Merged ats A2 B2 M2 → Merged ats A B (M1 ++ M2) from fun M1 M2 q1 q2 => by rw [eA, eB]; exact q1.join q2 (eA ▸ unhide HSA) (eB ▸ unhide HSB) F.F1 F.F2)
        have SA := hide (srt_append.1 (eA ▸ unhide HSA)); have SB := hide (srt_append.1 (eB ▸ unhide HSB))
        have HK1 := hide (show Keys w g ats (A1 ++ B1) from fun z hz => unhide HK z (by rw [eA, eB]; rcases List.mem_append.1 hz with q | q <;> simp [q]))
        have HK2 := hide (show Keys w g ats (A2 ++ B2) from fun z hz => unhide HK z (by rw [eA, eB]; rcases List.mem_append.1 hz with q | q <;> simp [q]))
        have ll1 : len = P.length + (A1.length + A2.length) + (B1.length + B2.length) + Q.length := by rw [hll, eA, eB]; simp; omega
        have lA : A.length = A1.length + A2.length := by rw [eA]; simp
        have lB : B.length = B1.length + B2.length := by rw [eB]; simp
        have lP : a = P.length ∧ m = P.length + A.length ∧ b = P.length + A.length + B.length ∧ a < mid ∧ mid < b := ⟨haa, hmm, hbb, hmd2, hmd3⟩
        clear eA eB F haa hmm hbb hll hee hlt
        by_cases b1 : I < m
        · by_cases b2 : I < mid
          · by_cases b3 : a < I
            · by_cases b6 : ee < b
              · have T1 : (I : Int) < (m : Int) := by omega
                have T2 : (m : Int) < (ee : Int) := by omega
                have T3 : (a : Int) < (I : Int) := by omega
                have T4 : (I : Int) < (mid : Int) := by omega
                have T5 : (mid : Int) < (ee : Int) := by omega
                have T6 : (ee : Int) < (b : Int) := by omega
                have nA1 : 0 < A1.length := by omega
                have nA2 : 0 < A2.length := by omega
                have nB1 : 0 < B1.length := by omega
                have nB2 : 0 < B2.length := by omega
                have ROT := hide (rot_yes (w := w) (wr := wr) (g := g) (cap := cap) (len := len) (s := I) (m := m) (e := ee) (P := P) (A1 := A1) (A2 := A2) (B1 := B1) (B2 := B2) (Q := Q) (.func (.func 74) #[] #[]) (by omega) (unhide D0) (by simp; omega) (show I = _ by omega) (show m = _ by omega) (show ee = _ by omega) nA2 nB1 (unhide HF))
                have NN := hide (And.intro nA1 (And.intro nA2 (And.intro nB1 (And.intro nB2 (And.intro la (And.intro lb (And.intro lm (And.intro ll1 (And.intro lA (And.intro lB lP))))))))))
                clear nA1 nA2 nB1 nB2 la lb lm ll1 lA lB lP
                go_wp2_with fail
                refine (unhide ROT).mono ?_
                rintro e' w2 ⟨rfl, hsw2⟩
                have D1 := hide hsw2
                clear hsw2
                have CL := hide (by obtain ⟨nA1, nA2, nB1, nB2, la, lb, lm, ll1, lA, lB, lP⟩ := unhide NN; exact mrg_yes (w := w) (g := g) (cap := cap) (len := len) (ats := ats) (k := k) (P := P) (A := A1) (B := B1) (Q := A2 ++ B2 ++ Q) (a := a) (s := I) (b := mid) (unhide HIH) (unhide D1) (by simp; omega) (by omega) (by omega) (by omega) nA1 nB1 (by have := unhide HKK; omega) (unhide SA).1 (unhide SB).1 (unhide HK1) (unhide HF))
                go_wp2_with fail
                refine (unhide CL).mono ?_
                rintro e' w3 ⟨rfl, M1, hM1, hsw3⟩
                have HM1 := hide hM1
                have D2 := hide hsw3
                clear hM1 hsw3
                have CR := hide (by obtain ⟨nA1, nA2, nB1, nB2, la, lb, lm, ll1, lA, lB, lP⟩ := unhide NN; have q1 := (unhide HM1).len; exact mrg_yes (w := w) (g := g) (cap := cap) (len := len) (ats := ats) (k := k) (P := P ++ M1) (A := A2) (B := B2) (Q := Q) (a := mid) (s := ee) (b := b) (unhide HIH) ⟨(unhide D2).1, by simpa using (unhide D2).2⟩ (by simp at q1 ⊢; omega) (by simp at q1 ⊢; omega) (by simp at q1 ⊢; omega) (by simp at q1 ⊢; omega) nA2 nB2 (by have := unhide HKK; omega) (unhide SA).2.1 (unhide SB).2.1 (unhide HK2) (unhide HF))
                go_wp2_with fail
                refine (unhide CR).mono ?_
                rintro e' w4 ⟨rfl, M2, hM2, hsw4⟩
                have HM2 := hide hM2
                have D3 := hide hsw4
                clear hM2 hsw4
                have HP := hide (show ∃ M, Merged ats A B M ∧ SW w w4 g (P ++ M ++ Q) from ⟨M1 ++ M2, (unhide FJ) _ _ (unhide HM1) (unhide HM2), (unhide D3).1, by simpa using (unhide D3).2⟩)
                go_wp2
                go_end0
                exact ⟨rfl, by simpa using unhide HP⟩
              · have T1 : (I : Int) < (m : Int) := by omega
                have T2 : (m : Int) < (ee : Int) := by omega
                have T3 : (a : Int) < (I : Int) := by omega
                have T4 : (I : Int) < (mid : Int) := by omega
                have T5 : (mid : Int) < (ee : Int) := by omega
                have T6 : ¬ (ee : Int) < (b : Int) := by omega
                have nA1 : 0 < A1.length := by omega
                have nA2 : 0 < A2.length := by omega
                have nB1 : 0 < B1.length := by omega
                have nB2 : B2 = [] := List.eq_nil_of_length_eq_zero (by omega)
                have ROT := hide (rot_yes (w := w) (wr := wr) (g := g) (cap := cap) (len := len) (s := I) (m := m) (e := ee) (P := P) (A1 := A1) (A2 := A2) (B1 := B1) (B2 := B2) (Q := Q) (.func (.func 74) #[] #[]) (by omega) (unhide D0) (by simp; omega) (show I = _ by omega) (show m = _ by omega) (show ee = _ by omega) nA2 nB1 (unhide HF))
                have NN := hide (And.intro nA1 (And.intro nA2 (And.intro nB1 (And.intro nB2 (And.intro la (And.intro lb (And.intro lm (And.intro ll1 (And.intro lA (And.intro lB lP))))))))))
                clear nA1 nA2 nB1 nB2 la lb lm ll1 lA lB lP
                go_wp2_with fail
                refine (unhide ROT).mono ?_
                rintro e' w2 ⟨rfl, hsw2⟩
                have D1 := hide hsw2
                clear hsw2
                have CL := hide (by obtain ⟨nA1, nA2, nB1, nB2, la, lb, lm, ll1, lA, lB, lP⟩ := unhide NN; exact mrg_yes (w := w) (g := g) (cap := cap) (len := len) (ats := ats) (k := k) (P := P) (A := A1) (B := B1) (Q := A2 ++ B2 ++ Q) (a := a) (s := I) (b := mid) (unhide HIH) (unhide D1) (by simp; omega) (by omega) (by omega) (by omega) nA1 nB1 (by have := unhide HKK; omega) (unhide SA).1 (unhide SB).1 (unhide HK1) (unhide HF))
                go_wp2_with fail
                refine (unhide CL).mono ?_
                rintro e' w3 ⟨rfl, M1, hM1, hsw3⟩
                have HM1 := hide hM1
                have D2 := hide hsw3
                clear hM1 hsw3
                have HM2 : Hid (Merged ats A2 B2 (A2 ++ B2)) := by
                  obtain ⟨nA1, nA2, nB1, nB2, la, lb, lm, ll1, lA, lB, lP⟩ := unhide NN
                  show Merged _ _ _ _
                  rw [nB2, List.append_nil]
                  exact merged_nil_right ats A2 (unhide SA).2.1
                have HP := hide (show ∃ M, Merged ats A B M ∧ SW w w3 g (P ++ M ++ Q) from ⟨M1 ++ (A2 ++ B2), (unhide FJ) _ _ (unhide HM1) (unhide HM2), (unhide D2).1, by simpa using (unhide D2).2⟩)
                go_wp2
                go_end0
                exact ⟨rfl, by simpa using unhide HP⟩
            · by_cases b6 : ee < b
              · have T1 : (I : Int) < (m : Int) := by omega
                have T2 : (m : Int) < (ee : Int) := by omega
                have T3 : ¬ (a : Int) < (I : Int) := by omega
                have T4 : (I : Int) < (mid : Int) := by omega
                have T5 : (mid : Int) < (ee : Int) := by omega
                have T6 : (ee : Int) < (b : Int) := by omega
                have nA1 : A1 = [] := List.eq_nil_of_length_eq_zero (by omega)
                have nA2 : 0 < A2.length := by omega
                have nB1 : 0 < B1.length := by omega
                have nB2 : 0 < B2.length := by omega
                have ROT := hide (rot_yes (w := w) (wr := wr) (g := g) (cap := cap) (len := len) (s := I) (m := m) (e := ee) (P := P) (A1 := A1) (A2 := A2) (B1 := B1) (B2 := B2) (Q := Q) (.func (.func 74) #[] #[]) (by omega) (unhide D0) (by simp; omega) (show I = _ by omega) (show m = _ by omega) (show ee = _ by omega) nA2 nB1 (unhide HF))
                have NN := hide (And.intro nA1 (And.intro nA2 (And.intro nB1 (And.intro nB2 (And.intro la (And.intro lb (And.intro lm (And.intro ll1 (And.intro lA (And.intro lB lP))))))))))
                clear nA1 nA2 nB1 nB2 la lb lm ll1 lA lB lP
                go_wp2_with fail
                refine (unhide ROT).mono ?_
                rintro e' w2 ⟨rfl, hsw2⟩
                have D1 := hide hsw2
                clear hsw2
                have HM1 : Hid (Merged ats A1 B1 (A1 ++ B1)) := by
                  obtain ⟨nA1, nA2, nB1, nB2, la, lb, lm, ll1, lA, lB, lP⟩ := unhide NN
                  show Merged _ _ _ _
                  rw [nA1]
                  exact merged_nil_left ats B1 (unhide SB).1
                have D2 := hide (show SW w w2 g (P ++ (A1 ++ B1) ++ (A2 ++ B2 ++ Q)) from ⟨(unhide D1).1, by simpa using (unhide D1).2⟩)
                have CR := hide (by obtain ⟨nA1, nA2, nB1, nB2, la, lb, lm, ll1, lA, lB, lP⟩ := unhide NN; have q1 := (unhide HM1).len; exact mrg_yes (w := w) (g := g) (cap := cap) (len := len) (ats := ats) (k := k) (P := P ++ (A1 ++ B1)) (A := A2) (B := B2) (Q := Q) (a := mid) (s := ee) (b := b) (unhide HIH) ⟨(unhide D2).1, by simpa using (unhide D2).2⟩ (by simp at q1 ⊢; omega) (by simp at q1 ⊢; omega) (by simp at q1 ⊢; omega) (by simp at q1 ⊢; omega) nA2 nB2 (by have := unhide HKK; omega) (unhide SA).2.1 (unhide SB).2.1 (unhide HK2) (unhide HF))
                go_wp2_with fail
                refine (unhide CR).mono ?_
                rintro e' w4 ⟨rfl, M2, hM2, hsw4⟩
                have HM2 := hide hM2
                have D3 := hide hsw4
                clear hM2 hsw4
                have HP := hide (show ∃ M, Merged ats A B M ∧ SW w w4 g (P ++ M ++ Q) from ⟨(A1 ++ B1) ++ M2, (unhide FJ) _ _ (unhide HM1) (unhide HM2), (unhide D3).1, by simpa using (unhide D3).2⟩)
                go_wp2
                go_end0
                exact ⟨rfl, by simpa using unhide HP⟩
              · have T1 : (I : Int) < (m : Int) := by omega
                have T2 : (m : Int) < (ee : Int) := by omega
                have T3 : ¬ (a : Int) < (I : Int) := by omega
                have T4 : (I : Int) < (mid : Int) := by omega
                have T5 : (mid : Int) < (ee : Int) := by omega
                have T6 : ¬ (ee : Int) < (b : Int) := by omega
                have nA1 : A1 = [] := List.eq_nil_of_length_eq_zero (by omega)
                have nA2 : 0 < A2.length := by omega
                have nB1 : 0 < B1.length := by omega
                have nB2 : B2 = [] := List.eq_nil_of_length_eq_zero (by omega)
                have ROT := hide (rot_yes (w := w) (wr := wr) (g := g) (cap := cap) (len := len) (s := I) (m := m) (e := ee) (P := P) (A1 := A1) (A2 := A2) (B1 := B1) (B2 := B2) (Q := Q) (.func (.func 74) #[] #[]) (by omega) (unhide D0) (by simp; omega) (show I = _ by omega) (show m = _ by omega) (show ee = _ by omega) nA2 nB1 (unhide HF))
                have NN := hide (And.intro nA1 (And.intro nA2 (And.intro nB1 (And.intro nB2 (And.intro la (And.intro lb (And.intro lm (And.intro ll1 (And.intro lA (And.intro lB lP))))))))))
                clear nA1 nA2 nB1 nB2 la lb lm ll1 lA lB lP
                go_wp2_with fail
                refine (unhide ROT).mono ?_
                rintro e' w2 ⟨rfl, hsw2⟩
                have D1 := hide hsw2
                clear hsw2
                have HM1 : Hid (Merged ats A1 B1 (A1 ++ B1)) := by
                  obtain ⟨nA1, nA2, nB1, nB2, la, lb, lm, ll1, lA, lB, lP⟩ := unhide NN
                  show Merged _ _ _ _
                  rw [nA1]
                  exact merged_nil_left ats B1 (unhide SB).1
                have D2 := hide (show SW w w2 g (P ++ (A1 ++ B1) ++ (A2 ++ B2 ++ Q)) from ⟨(unhide D1).1, by simpa using (unhide D1).2⟩)
                have HM2 : Hid (Merged ats A2 B2 (A2 ++ B2)) := by
                  obtain ⟨nA1, nA2, nB1, nB2, la, lb, lm, ll1, lA, lB, lP⟩ := unhide NN
                  show Merged _ _ _ _
                  rw [nB2, List.append_nil]
                  exact merged_nil_right ats A2 (unhide SA).2.1
                have HP := hide (show ∃ M, Merged ats A B M ∧ SW w w2 g (P ++ M ++ Q) from ⟨(A1 ++ B1) ++ (A2 ++ B2), (unhide FJ) _ _ (unhide HM1) (unhide HM2), (unhide D2).1, by simpa using (unhide D2).2⟩)
                go_wp2
                go_end0
                exact ⟨rfl, by simpa using unhide HP⟩
          · exfalso
            have := unhide HR0
            have := unhide HSR
            omega
        · by_cases b2 : I < mid
          · by_cases b6 : ee < b
            · have T1 : ¬ (I : Int) < (m : Int) := by omega
              have T2 : (m : Int) < (ee : Int) := by omega
              have T3 : (a : Int) < (I : Int) := by omega
              have T4 : (I : Int) < (mid : Int) := by omega
              have T5 : ¬ (mid : Int) < (ee : Int) := by omega
              have T6 : (ee : Int) < (b : Int) := by omega
              have nA1 : 0 < A1.length := by omega
              have nA2 : A2 = [] := List.eq_nil_of_length_eq_zero (by omega)
              have nB1 : 0 < B1.length := by omega
              have nB2 : 0 < B2.length := by omega
              have D1 := hide (show SW w wr g (P ++ A1 ++ B1 ++ (A2 ++ B2 ++ Q)) from ⟨(unhide D0).1, by have := (unhide D0).2; rw [nA2] at this ⊢; simpa using this⟩)
              have NN := hide (And.intro nA1 (And.intro nA2 (And.intro nB1 (And.intro nB2 (And.intro la (And.intro lb (And.intro lm (And.intro ll1 (And.intro lA (And.intro lB lP))))))))))
              clear nA1 nA2 nB1 nB2 la lb lm ll1 lA lB lP
              have CL := hide (by obtain ⟨nA1, nA2, nB1, nB2, la, lb, lm, ll1, lA, lB, lP⟩ := unhide NN; exact mrg_yes (w := w) (g := g) (cap := cap) (len := len) (ats := ats) (k := k) (P := P) (A := A1) (B := B1) (Q := A2 ++ B2 ++ Q) (a := a) (s := I) (b := mid) (unhide HIH) (unhide D1) (by simp; omega) (by omega) (by omega) (by omega) nA1 nB1 (by have := unhide HKK; omega) (unhide SA).1 (unhide SB).1 (unhide HK1) (unhide HF))
              go_wp2_with fail
              refine (unhide CL).mono ?_
              rintro e' w3 ⟨rfl, M1, hM1, hsw3⟩
              have HM1 := hide hM1
              have D2 := hide hsw3
              clear hM1 hsw3
              have HM2 : Hid (Merged ats A2 B2 (A2 ++ B2)) := by
                obtain ⟨nA1, nA2, nB1, nB2, la, lb, lm, ll1, lA, lB, lP⟩ := unhide NN
                show Merged _ _ _ _
                rw [nA2]
                exact merged_nil_left ats B2 (unhide SB).2.1
              have HP := hide (show ∃ M, Merged ats A B M ∧ SW w w3 g (P ++ M ++ Q) from ⟨M1 ++ (A2 ++ B2), (unhide FJ) _ _ (unhide HM1) (unhide HM2), (unhide D2).1, by simpa using (unhide D2).2⟩)
              go_wp2
              go_end0
              exact ⟨rfl, by simpa using unhide HP⟩
            · exfalso
              have := unhide HR0
              omega
          · by_cases b6 : ee < b
            · have T1 : ¬ (I : Int) < (m : Int) := by omega
              have T2 : ¬ (m : Int) < (ee : Int) := by omega
              have T3 : (a : Int) < (I : Int) := by omega
              have T4 : ¬ (I : Int) < (mid : Int) := by omega
              have T5 : ¬ (mid : Int) < (ee : Int) := by omega
              have T6 : (ee : Int) < (b : Int) := by omega
              have nA1 : 0 < A1.length := by omega
              have nA2 : A2 = [] := List.eq_nil_of_length_eq_zero (by omega)
              have nB1 : B1 = [] := List.eq_nil_of_length_eq_zero (by omega)
              have nB2 : 0 < B2.length := by omega
              have D1 := hide (show SW w wr g (P ++ A1 ++ B1 ++ (A2 ++ B2 ++ Q)) from ⟨(unhide D0).1, by have := (unhide D0).2; rw [nA2] at this ⊢; simpa using this⟩)
              have NN := hide (And.intro nA1 (And.intro nA2 (And.intro nB1 (And.intro nB2 (And.intro la (And.intro lb (And.intro lm (And.intro ll1 (And.intro lA (And.intro lB lP))))))))))
              clear nA1 nA2 nB1 nB2 la lb lm ll1 lA lB lP
              have HM1 : Hid (Merged ats A1 B1 (A1 ++ B1)) := by
                obtain ⟨nA1, nA2, nB1, nB2, la, lb, lm, ll1, lA, lB, lP⟩ := unhide NN
                show Merged _ _ _ _
                rw [nB1, List.append_nil]
                exact merged_nil_right ats A1 (unhide SA).1
              have D2 := hide (show SW w wr g (P ++ (A1 ++ B1) ++ (A2 ++ B2 ++ Q)) from ⟨(unhide D1).1, by simpa using (unhide D1).2⟩)
              have HM2 : Hid (Merged ats A2 B2 (A2 ++ B2)) := by
                obtain ⟨nA1, nA2, nB1, nB2, la, lb, lm, ll1, lA, lB, lP⟩ := unhide NN
                show Merged _ _ _ _
                rw [nA2]
                exact merged_nil_left ats B2 (unhide SB).2.1
              have HP := hide (show ∃ M, Merged ats A B M ∧ SW w wr g (P ++ M ++ Q) from ⟨(A1 ++ B1) ++ (A2 ++ B2), (unhide FJ) _ _ (unhide HM1) (unhide HM2), (unhide D2).1, by simpa using (unhide D2).2⟩)
              go_wp2
              go_end0
              exact ⟨rfl, by simpa using unhide HP⟩
            · exfalso
              have := unhide HR0
              omega
end Go.Proofs.YtogdekjklbbbiaaDoor
