import Derived.Test.YtogdekjklbbbiaaDoorBlk
namespace Go.Proofs.YtogdekjklbbbiaaDoor
open Go.ChangeShapes Go.WideShapes Go.ChangeAt Go.RowKit
set_option linter.unusedSimpArgs false
set_option linter.unusedVariables false

/-- The contract of the merge, for all rows of at most k things to merge. -/
def SymD (g cap len : Nat) (ats : Nat → Nat) : Prop :=
  ∀ (a m b : Nat) (P A B Q : List Nat) (w : World), RowL w g (P ++ A ++ B ++ Q) → len = (P ++ A ++ B ++ Q).length → a = P.length → m = P.length + A.length → b = P.length + A.length + B.length → 0 < A.length → 0 < B.length → Srt ats A → Srt ats B → Keys w g ats (A ++ B) → (∀ o, w.frozen? ⟨g, o, none⟩ = false) →
    Calls Tryd.prog 102 #[.slice (some ⟨g, 0, none⟩) len cap, .int .i64 (a : Int), .int .i64 (m : Int), .int .i64 (b : Int), .func (.func 74) #[] #[]] w fun e w' => e = .returned (.tuple #[]) ∧ ∃ M, Merged ats A B M ∧ SW w w' g (P ++ M ++ Q)

def Mult (k s : Nat) : Prop := ∃ i, s = i * k
theorem mult_half {k s : Nat} (h : Mult (2 * k) s) : Mult k s ∧ Mult k (s + k) ∧ Mult (2 * k) (s + 2 * k) := by
  obtain ⟨i, rfl⟩ := h
  exact ⟨⟨2 * i, by grind⟩, ⟨2 * i + 1, by grind⟩, ⟨i + 1, by grind⟩⟩
theorem mult_step {k s a : Nat} (hk : 0 < k) (h : Mult k s) (ha : Mult k a) (hs : s < a + k) : s < a ∨ s = a := by
  obtain ⟨i, rfl⟩ := h
  obtain ⟨j, rfl⟩ := ha
  have : i < j + 1 := by
    by_cases q : i < j + 1
    · exact q
    · exfalso
      have : (j + 1) * k ≤ i * k := Nat.mul_le_mul_right k (by omega)
      rw [Nat.add_mul, Nat.one_mul] at this
      omega
  by_cases e : i = j
  · exact .inr (by rw [e])
  · left
    have : (i + 1) * k ≤ j * k := Nat.mul_le_mul_right k (by omega)
    rw [Nat.add_mul, Nat.one_mul] at this
    omega
theorem mult_far {k s a : Nat} (hk : 0 < k) (h : Mult k s) (ha : Mult k a) (hs : a < s) : a + k ≤ s := by
  rcases mult_step hk ha h (show a < s + k by omega) with q | q
  · obtain ⟨i, rfl⟩ := h
    obtain ⟨j, rfl⟩ := ha
    have : j < i := by
      by_cases q' : j < i
      · exact q'
      · exfalso
        have : i * k ≤ j * k := Nat.mul_le_mul_right k (by omega)
        omega
    have : (j + 1) * k ≤ i * k := Nat.mul_le_mul_right k (by omega)
    rw [Nat.add_mul, Nat.one_mul] at this
    omega
  · omega

theorem Blk.mem {ats : Nat → Nat} {D0 D : List Nat} (h : Blk ats D0 D) {x : Nat} (hx : x ∈ D) : x ∈ D0 := by
  have : x ∈ fib ats D (ats x) := by unfold fib; simp [hx]
  rw [h.fibs] at this
  exact (List.mem_filter.1 this).1

/-- One call of the insertion sort, on a piece of the row. -/
theorem ins_at {w wr : World} {g cap len a b : Nat} {ats : Nat → Nat} {D0 D : List Nat} (hl : len < 2305843009213693952) (hB : Blk ats D0 D) (hS : SW w wr g D) (hlen : len = D0.length) (hab : a ≤ b) (hbl : b ≤ len) (hK : Keys w g ats D0) (fz : ∀ o, w.frozen? ⟨g, o, none⟩ = false) :
    Calls Tryd.prog 101 #[.slice (some ⟨g, 0, none⟩) len cap, .int .i64 (a : Int), .int .i64 (b : Int), .func (.func 74) #[] #[]] wr fun e w' => e = .returned (.tuple #[]) ∧
      ∃ D', Blk ats D0 D' ∧ SW w w' g D' ∧ Run ats D' a b ∧ ∀ s e, Run ats D s e → e ≤ a ∨ b ≤ s → Run ats D' s e := by
  have hc := cut3 D a b hab
  have l1 : (D.take a).length = a := by rw [List.length_take, hB.len]; omega
  have l2 : ((D.drop a).take (b - a)).length = b - a := by rw [List.length_take, List.length_drop, hB.len]; omega
  generalize D.take a = P at *
  generalize (D.drop a).take (b - a) = X at *
  generalize D.drop b = Q at *
  subst hc
  refine (ins_any g cap a b len P X Q ats wr hS.2 (by rw [hlen, hB.len]) l1.symm (by omega) hl (fun z hz => (hK.sw hS.1) z (hB.mem (by simp [hz]))) (fun o => by rw [hS.1.fz]; exact fz o)).mono ?_
  rintro e w' ⟨rfl, M, hM, h1, h2⟩
  refine ⟨rfl, P ++ M ++ Q, hB.sub hM.len hM.fibs, ⟨(hS.1.trans h1).mono fun a o q => q.elim id id, h2⟩, ?_, fun s e h q => run_kept hM.len h (by omega)⟩
  have := run_new (P := P) (Q := Q) hM.srt
  rw [l1, hM.len, l2, show a + (b - a) = b by omega] at this
  exact this
theorem sym_at {w wr : World} {g cap len a m b : Nat} {ats : Nat → Nat} {D0 D : List Nat} (HS : SymD g cap len ats) (hB : Blk ats D0 D) (hS : SW w wr g D) (hlen : len = D0.length) (ham : a < m) (hmb : m < b) (hbl : b ≤ len) (r1 : Run ats D a m) (r2 : Run ats D m b) (hK : Keys w g ats D0) (fz : ∀ o, w.frozen? ⟨g, o, none⟩ = false) :
    Calls Tryd.prog 102 #[.slice (some ⟨g, 0, none⟩) len cap, .int .i64 (a : Int), .int .i64 (m : Int), .int .i64 (b : Int), .func (.func 74) #[] #[]] wr fun e w' => e = .returned (.tuple #[]) ∧
      ∃ D', Blk ats D0 D' ∧ SW w w' g D' ∧ Run ats D' a b ∧ ∀ s e, Run ats D s e → e ≤ a ∨ b ≤ s → Run ats D' s e := by
  have hc := cut3 D a b (by omega)
  have hc2 : (D.drop a).take (b - a) = (D.drop a).take (m - a) ++ (D.drop m).take (b - m) := by
    rw [show b - a = (m - a) + (b - m) by omega, List.take_add, List.drop_drop]
    congr 3
    omega
  have l1 : (D.take a).length = a := by rw [List.length_take, hB.len]; omega
  have l2 : ((D.drop a).take (m - a)).length = m - a := by rw [List.length_take, List.length_drop, hB.len]; omega
  have l3 : ((D.drop m).take (b - m)).length = b - m := by rw [List.length_take, List.length_drop, hB.len]; omega
  rw [hc2] at hc
  unfold Run at r1 r2
  generalize D.take a = P at *
  generalize (D.drop a).take (m - a) = A at *
  generalize (D.drop m).take (b - m) = B at *
  generalize D.drop b = Q at *
  clear hc2
  subst hc
  refine (HS a m b P A B Q wr (by simpa using hS.2) (by rw [hlen, ← hB.len]; simp) l1.symm (by omega) (by omega) (by omega) (by omega) r1 r2 (fun z hz => (hK.sw hS.1) z (hB.mem (by rcases List.mem_append.1 hz with q | q <;> simp [q]))) (fun o => by rw [hS.1.fz]; exact fz o)).mono ?_
  rintro e w' ⟨rfl, M, hM, h1, h2⟩
  have hMl : M.length = (A ++ B).length := by rw [hM.len]; simp
  refine ⟨rfl, P ++ M ++ Q, hB.sub hMl (fun t => by rw [hM.fibs, fib_append]), ⟨(hS.1.trans h1).mono fun a o q => q.elim id id, h2⟩, ?_, fun s e h q => run_kept hMl h (by simp; omega)⟩
  have := run_new (P := P) (Q := Q) hM.srt
  rw [l1, hM.len, l2, l3, show a + (m - a + (b - m)) = b by omega] at this
  exact this

set_option maxHeartbeats 4000000 in
theorem stable_any (g cap len : Nat) (D0 : List Nat) (ats : Nat → Nat) (w : World) (hD : RowL w g D0) (hlen : len = D0.length) (hl : len < 1152921504606846976) (hK : Keys w g ats D0) (fz : ∀ o, w.frozen? ⟨g, o, none⟩ = false) (HS : SymD g cap len ats) :
    Calls Tryd.prog 91 #[.slice (some ⟨g, 0, none⟩) len cap, .int .i64 (len : Int), .func (.func 74) #[] #[]] w fun e w' => e = .returned (.tuple #[]) ∧ ∃ D, Sorted ats D0 D ∧ SW w w' g D := by
  have HI := hide (fun wr a b D => @ins_at w wr g cap len a b ats D0 D (by omega))
  have HM := hide (fun wr a m b D => @sym_at w wr g cap len a m b ats D0 D HS)
  have HL := hide hlen; have HK := hide hK; have HF := hide fz; have HD := hide hD
  clear hlen hK fz hD HS
  go_enter Tryd.func91, Tryd.ntmps91
  go_wp2
  go_loopw [7, 8] (fun va vb wr => ∃ a D, va = .int .i64 ((a : Nat) : Int) ∧ vb = .int .i64 ((a : Int) + 20) ∧ a ≤ len ∧ Mult 20 a ∧ Blk ats D0 D ∧ SW w wr g D ∧ ∀ s, Mult 20 s → s < a → Run ats D s (s + 20)) (fun va _ _ => (len + 1 : Nat) - (intOf va).toNat)
  case atStart => exact ⟨0, D0, rfl, rfl, Nat.zero_le _, ⟨0, rfl⟩, ⟨rfl, fun _ => rfl⟩, ⟨Ch.refl _ _, unhide HD⟩, fun s _ h => by omega⟩
  case round =>
    obtain ⟨a, D, rfl, rfl, h1, hm, hB, hS, hR⟩ := hrel
    have HB := hide hB; have HSW := hide hS; have HR := hide hR; have HMu := hide hm
    clear hB hS hR hm
    by_cases hle : a + 20 ≤ len
    · have c1 : (a : Int) + 20 ≤ (len : Int) := by omega
      have hc := hide (unhide HI wr a (a + 20) D (unhide HB) (unhide HSW) (unhide HL) (by omega) hle (unhide HK) (unhide HF))
      rw [show ((a + 20 : Nat) : Int) = (a : Int) + 20 by omega] at hc
      go_wp2_with fail
      refine (unhide hc).mono ?_
      rintro e w2 ⟨rfl, D', k1, k2, k3, k4⟩
      have K1 := hide k1; have K2 := hide k2; have K3 := hide k3; have K4 := hide k4
      clear k1 k2 k3 k4
      go_wp2
      go_roundw
      case rel =>
        refine ⟨a + 20, D', by go_num, by go_num, hle, ?_, unhide K1, unhide K2, fun s q1 q2 => ?_⟩
        · obtain ⟨i, hi⟩ := unhide HMu
          exact ⟨i + 1, by omega⟩
        · rcases mult_step (by decide) q1 (unhide HMu) q2 with q | q
          · exact unhide K4 s _ (unhide HR s q1 q) (.inl (by have := mult_far (by decide) (unhide HMu) q1 q; omega))
          · rw [q]; exact unhide K3
      case measure => simp only [intOf]; omega
    · have c1 : ¬ (a : Int) + 20 ≤ (len : Int) := by omega
      have hc := hide (unhide HI wr a len D (unhide HB) (unhide HSW) (unhide HL) h1 (Nat.le_refl _) (unhide HK) (unhide HF))
      go_wp2_with fail
      refine (unhide hc).mono ?_
      rintro e w2 ⟨rfl, D', k1, k2, k3, k4⟩
      have HRuns := hide (show ∀ s, Mult 20 s → Run ats D' s (s + 20) from fun s q1 => by
        have hlD := k1.len; have hll := unhide HL
        by_cases q : s < a
        · exact k4 s _ (unhide HR s q1 q) (.inl (by have := mult_far (by decide) (unhide HMu) q1 q; omega))
        · by_cases q' : s = a
          · rw [q']; exact k3.long (by omega)
          · have hf := mult_far (by decide) q1 (unhide HMu) (show a < s by omega)
            unfold Run
            rw [List.drop_eq_nil_of_le (by omega)]
            simp [Srt])
      have K1 := hide k1; have K2 := hide k2
      clear k1 k2 k3 k4
      clear hc HI c1
      go_wp2
      go_loopw [6, 7, 8, 9] (fun vs _ _ _ wr => ∃ bs D, vs = .int .i64 ((bs : Nat) : Int) ∧ 0 < bs ∧ bs ≤ 2 * len + 20 ∧ Blk ats D0 D ∧ SW w wr g D ∧ ∀ s, Mult bs s → Run ats D s (s + bs)) (fun vs _ _ _ _ => (2 * len + 20 : Nat) - (intOf vs).toNat)
      case atStart => exact ⟨20, D', rfl, by omega, by omega, unhide K1, unhide K2, unhide HRuns⟩
      case round =>
        obtain ⟨bs, E, rfl, g1, g2, hB2, hS2, hR2⟩ := hrel
        have HB2 := hide hB2; have HS2 := hide hS2; have HR2 := hide hR2
        clear hB2 hS2 hR2
        by_cases hbn : bs < len
        · go_wp2
          go_loopw [7, 8] (fun va vb wr => ∃ a D, va = .int .i64 ((a : Nat) : Int) ∧ vb = .int .i64 ((a : Int) + 2 * (bs : Int)) ∧ a ≤ len ∧ Mult (2 * bs) a ∧ Blk ats D0 D ∧ SW w wr g D ∧ (∀ s, Mult (2 * bs) s → s < a → Run ats D s (s + 2 * bs)) ∧ (∀ s, Mult bs s → a ≤ s → Run ats D s (s + bs))) (fun va _ _ => (len + 1 : Nat) - (intOf va).toNat)
          case atStart => exact ⟨0, E, rfl, by simp, Nat.zero_le _, ⟨0, by simp⟩, unhide HB2, unhide HS2, fun s _ h => by omega, fun s q _ => unhide HR2 s q⟩
          case round =>
            obtain ⟨a, D, rfl, rfl, f1, hm, hB, hS, hR, hR'⟩ := hrel
            have hmh := mult_half hm
            have HB := hide hB; have HSW := hide hS; have HR := hide hR; have HR' := hide hR'; have HMu := hide hm; have HMh := hide hmh
            clear hB hS hR hR' hm hmh
            by_cases hle : a + 2 * bs ≤ len
            · have c1 : (a : Int) + 2 * (bs : Int) ≤ (len : Int) := by omega
              have r1 := unhide HR' a (unhide HMh).1 (Nat.le_refl _)
              have r2 := unhide HR' (a + bs) (unhide HMh).2.1 (by omega)
              rw [show a + bs + bs = a + 2 * bs by omega] at r2
              have hc := hide (unhide HM wr a (a + bs) (a + 2 * bs) D (unhide HB) (unhide HSW) (unhide HL) (by omega) (by omega) hle r1 r2 (unhide HK) (unhide HF))
              rw [show ((a + bs : Nat) : Int) = (a : Int) + (bs : Int) by omega, show ((a + 2 * bs : Nat) : Int) = (a : Int) + 2 * (bs : Int) by omega] at hc
              clear r1 r2
              go_wp2_with fail
              refine (unhide hc).mono ?_
              rintro e w3 ⟨rfl, D2, k1, k2, k3, k4⟩
              have L1 := hide k1; have L2 := hide k2; have L3 := hide k3; have L4 := hide k4
              clear k1 k2 k3 k4
              go_wp2
              go_roundw
              case rel =>
                refine ⟨a + 2 * bs, D2, by go_num, by go_num, hle, (unhide HMh).2.2, unhide L1, unhide L2, fun s q1 q2 => ?_, fun s q1 q2 => unhide L4 s _ (unhide HR' s q1 (by omega)) (.inr q2)⟩
                rcases mult_step (by omega) q1 (unhide HMu) q2 with q | q
                · exact unhide L4 s _ (unhide HR s q1 q) (.inl (by have := mult_far (by omega) (unhide HMu) q1 q; omega))
                · rw [q]; exact unhide L3
              case measure => simp only [intOf]; omega
            · have c1 : ¬ (a : Int) + 2 * (bs : Int) ≤ (len : Int) := by omega
              have r1 := unhide HR' a (unhide HMh).1 (Nat.le_refl _)
              by_cases hmn : a + bs < len
              · have c2 : (a : Int) + (bs : Int) < (len : Int) := by omega
                have r2 := (unhide HR' (a + bs) (unhide HMh).2.1 (by omega)).cut (e' := len) (by omega)
                have hc := hide (unhide HM wr a (a + bs) len D (unhide HB) (unhide HSW) (unhide HL) (by omega) hmn (Nat.le_refl _) r1 r2 (unhide HK) (unhide HF))
                rw [show ((a + bs : Nat) : Int) = (a : Int) + (bs : Int) by omega] at hc
                clear r1 r2
                go_wp2_with fail
                refine (unhide hc).mono ?_
                rintro e w3 ⟨rfl, D2, k1, k2, k3, k4⟩
                have HRR := hide (show ∀ s, Mult (bs * 2) s → Run ats D2 s (s + bs * 2) from fun s q1 => by
                  rw [Nat.mul_comm] at q1
                  rw [Nat.mul_comm bs 2]
                  have hlD := k1.len; have hll := unhide HL
                  by_cases q : s < a
                  · exact k4 s _ (unhide HR s q1 q) (.inl (by have := mult_far (by omega) (unhide HMu) q1 q; omega))
                  · by_cases q' : s = a
                    · rw [q']; exact k3.long (by omega)
                    · have hf := mult_far (by omega) q1 (unhide HMu) (show a < s by omega)
                      unfold Run
                      rw [List.drop_eq_nil_of_le (by omega)]
                      simp [Srt])
                have L1 := hide k1; have L2 := hide k2
                clear k1 k2 k3 k4
                go_wp2
                go_roundw
                case rel => exact ⟨bs * 2, D2, by go_num, by omega, by omega, unhide L1, unhide L2, unhide HRR⟩
                case measure => simp only [intOf]; omega
              · have c2 : ¬ (a : Int) + (bs : Int) < (len : Int) := by omega
                have HRR := hide (show ∀ s, Mult (bs * 2) s → Run ats D s (s + bs * 2) from fun s q1 => by
                  rw [Nat.mul_comm] at q1
                  rw [Nat.mul_comm bs 2]
                  have hlD := (unhide HB).len; have hll := unhide HL
                  by_cases q : s < a
                  · exact unhide HR s q1 q
                  · by_cases q' : s = a
                    · rw [q']; exact r1.long (by omega)
                    · have hf := mult_far (by omega) q1 (unhide HMu) (show a < s by omega)
                      unfold Run
                      rw [List.drop_eq_nil_of_le (by omega)]
                      simp [Srt])
                clear r1
                go_wp2
                go_roundw
                case rel => exact ⟨bs * 2, D, by go_num, by omega, by omega, unhide HB, unhide HSW, unhide HRR⟩
                case measure => simp only [intOf]; omega
        · have HP := hide (show ∃ D, Sorted ats D0 D ∧ SW w wr g D from ⟨E, ⟨(unhide HB2).len, by
            have hlD := (unhide HB2).len; have hll := unhide HL
            have := unhide HR2 0 ⟨0, by simp⟩
            exact this.whole (by omega), (unhide HB2).fibs⟩, unhide HS2⟩)
          go_wp2
          go_end0
          exact ⟨rfl, unhide HP⟩
end Go.Proofs.YtogdekjklbbbiaaDoor
