import Derived.Test.YtogdekjklbbbiaaDoorBac
import Derived.Test.YtogdekjklbbbiaaDoorPac
set_option maxRecDepth 100000
namespace Go.Proofs.YtogdekjklbbbiaaDoor
open Go.ChangeShapes Go.WideShapes Go.ChangeAt Go.RowKit
set_option linter.unusedSimpArgs false
set_option linter.unusedVariables false

/-- A block keeps its form. -/
def Sh (w w' : World) (g : Nat) : Prop := ∀ cur t, w.heap[g]? = some (.cells cur t) → ∃ cur', w'.heap[g]? = some (.cells cur' t) ∧ cur'.size = cur.size
theorem Sh.refl (w : World) (g : Nat) : Sh w w g := fun cur t h => ⟨cur, h, rfl⟩
theorem Sh.drewN {w w' : World} {g : Nat} (h : Sh w w' g) (n : Nat) : Sh w (w'.drewN n) g := h
theorem Sh.drew {w w' : World} {g : Nat} (h : Sh w w' g) : Sh w w'.drew g := h
theorem Sh.setCell {w w' : World} {g : Nat} (h : Sh w w' g) (b o : Nat) (v : Value) : Sh w (w'.setCell ⟨b, o, none⟩ v) g := fun cur t hc => by
  obtain ⟨c', h1, h2⟩ := h cur t hc
  by_cases e : g = b
  · subst e
    exact ⟨_, heap_setCell_same w' g o c' t v h1, by simpa using h2⟩
  · exact ⟨c', (Below.heap_setCell _ _ _ _ e).trans h1, h2⟩
set_option maxHeartbeats 2000000 in
/-- told: the packets are the next ones of their lane. -/
theorem told_walk (gt o tn tc ln pc t0 : Nat) (ta pa : Option Addr) (tg : Nat → Int) (w : World) (hln : ln < 1000) (hb : t0 + ln ≤ tn) (htn : tn < 9000000000000000000)
    (h0 : w.cell? ⟨gt, o, none⟩ = some (.slice ta tn tc)) (h1 : w.cell? ⟨gt, o + 1, none⟩ = some (.int .i64 (t0 : Int))) (f1 : w.frozen? ⟨gt, o + 1, none⟩ = false)
    (hT : ∀ j, j < ln → ∃ g q, ta = some ⟨g, q, none⟩ ∧ g ≠ gt ∧ w.cell? ⟨g, q + (t0 + j), none⟩ = some (.int .i64 (tg j)))
    (hP : ∀ j, j < ln → ∃ g q, pa = some ⟨g, q, none⟩ ∧ g ≠ gt ∧ w.cell? ⟨g, q + j * 2, none⟩ = some (.int .i64 (tg j))) :
    Calls Tryd.prog 27 #[.pointer (some ⟨gt, o, none⟩), .slice pa ln pc] w fun e w' => e = .returned (.bool true) ∧ Ch w w' (fun a x => a = gt ∧ x = o + 1) ∧ w'.cell? ⟨gt, o + 1, none⟩ = some (.int .i64 ((t0 + ln : Nat) : Int)) ∧ Sh w w' gt := by
  have HT := hide hT; have HP := hide hP
  clear hT hP
  go_enter Tryd.func27, Tryd.ntmps27
  go_wp2_with fail
  go_loopg [5] ln (fun gk vi wr => ∃ j : Nat, vi = .int .i64 (j : Int) ∧ gk = ln - j ∧ j ≤ ln ∧ Ch w wr (fun a x => a = gt ∧ x = o + 1) ∧ wr.cell? ⟨gt, o + 1, none⟩ = some (.int .i64 ((t0 + j : Nat) : Int)) ∧ Sh w wr gt)
  case atStart => exact ⟨0, rfl, rfl, Nat.zero_le _, Ch.refl _ _, h1, Sh.refl _ _⟩
  case round =>
    obtain ⟨j, hu, hgj, hjn, hc, hc1, hsh⟩ := hrel
    rw [hu]
    clear hu
    have HG := hide hgj; have HC := hide hc; have HSh := hide hsh
    clear hsh
    have c0 := (hc.cell gt o (by omega)).trans h0
    have fz := (hc.fz ⟨gt, o + 1, none⟩).trans f1
    by_cases hj : j < ln
    · obtain ⟨g, q, hta, hgn, d0⟩ := unhide HT j hj
      obtain ⟨g2, q2, hpa, hgn2, d1⟩ := unhide HP j hj
      rw [← hc.cell g _ (fun e => hgn e.1)] at d0
      rw [← hc.cell g2 _ (fun e => hgn2 e.1)] at d1
      rw [hta] at c0
      have hji : (j : Int) < (ln : Int) := by omega
      have hj0 : (0 : Int) ≤ (j : Int) := by omega
      obtain ⟨tj, htj⟩ : ∃ tj, tj = t0 + j := ⟨_, rfl⟩
      rw [← htj] at hc1 d0
      have hlt : (tj : Int) < (tn : Int) := by omega
      have hge : decide ((tn : Int) ≤ (tj : Int)) = false := decide_eq_false (by omega)
      have hge2 : decide (tn ≤ tj) = false := decide_eq_false (by omega)
      have ht0 : (0 : Int) ≤ (tj : Int) := by omega
      have heq : (tg j != tg j) = false := by simp
      have HTJ := hide htj
      subst hpa
      clear hc hgj hta htj
      go_wp2_with fail
      go_quiet (fail)
      go_wp2_with fail
      go_roundg (ln - (j + 1))
      case measure => rw [unhide HG]; omega
      case rel =>
        refine ⟨j + 1, by go_num, rfl, by omega, ?_, ?_, ?_⟩
        · repeat (first | exact unhide HC | refine Ch.drewN ?_ _ | refine Ch.drew ?_ | refine Ch.setCell ?_ ⟨rfl, rfl⟩ _)
        · have e : ((t0 + (j + 1) : Nat) : Int) = (tj : Int) + 1 := by have := unhide HTJ; omega
          rw [e]
          simp [cset, ↓isSome_set, hc1]
        · repeat (first | exact unhide HSh | refine Sh.drewN ?_ _ | refine Sh.drew ?_ | refine Sh.setCell ?_ _ _ _)
    · have hji : ¬ (j : Int) < (ln : Int) := by omega
      have hjl : j = ln := by omega
      subst hjl
      clear hc hgj
      go_wp2_with fail
      go_ret
      exact ⟨rfl, unhide HC, hc1, unhide HSh⟩
end Go.Proofs.YtogdekjklbbbiaaDoor

namespace Go.Proofs.YtogdekjklbbbiaaDoor
open Go.ChangeShapes Go.WideShapes Go.ChangeAt Go.RowKit
set_option linter.unusedSimpArgs false
set_option linter.unusedVariables false

set_option maxHeartbeats 4000000 in
/-- sent: batch by batch. -/
theorem sent_walk (gt m cl : Nat) (al : Option Addr) (B : BV) (ab : Option Addr) (cb : Nat) (pb : Nat → Option Addr) (xb : Nat → Nat) (ck : Int) (f : Nat → Nat) (w : World) (R : Nat → World → Prop)
    (hal : 0 < m → al = some ⟨gt, 0, none⟩) (hm : m < 8796093022208) (hBn : B.n < 1000) (hf : ∀ k, k < B.n → f k < m ∧ B.fl k = (f k : Int) + 1 ∧ 0 < B.ln k ∧ B.st k ≤ ck) (hR0 : R 0 w)
    (hR : ∀ k wr, R k wr → k < B.n → (∃ g o, ab = some ⟨g, o, none⟩ ∧ g ≠ gt ∧ wr.cell? ⟨g, o + k * 3, none⟩ = some (.int .i64 (B.fl k)) ∧ wr.cell? ⟨g, o + k * 3 + 1, none⟩ = some (.int .i64 (B.st k)) ∧ wr.cell? ⟨g, o + k * 3 + 2, none⟩ = some (.slice (pb k) (B.ln k) (xb k))) ∧ wr.cell? ⟨gt, f k * 4 + 3, none⟩ = some (.bool false) ∧ (∃ la, wr.cell? ⟨gt, f k * 4 + 2, none⟩ = some (.int .i64 la) ∧ la ≤ B.st k) ∧ wr.frozen? ⟨gt, f k * 4 + 2, none⟩ = false)
    (hT : ∀ k wr W, R k wr → k < B.n → Ch wr W (fun a x => a = gt ∧ x = f k * 4 + 2) → W.cell? ⟨gt, f k * 4 + 2, none⟩ = some (.int .i64 (B.st k)) → Sh wr W gt → Calls Tryd.prog 27 #[.pointer (some ⟨gt, f k * 4, none⟩), .slice (pb k) (B.ln k) (xb k)] W fun e w' => e = .returned (.bool true) ∧ R (k + 1) w' ∧ ∀ g o, ab = some ⟨g, o, none⟩ → w'.cell? ⟨g, o + k * 3 + 2, none⟩ = some (.slice (pb k) (B.ln k) (xb k))) :
    Calls Tryd.prog 28 #[.slice al m cl, .slice ab B.n cb, .int .i64 ck] w fun e w' => e = .returned (.bool true) ∧ R B.n w' := by
  have HAL := hide hal; have HF := hide hf; have HR := hide hR; have HT := hide hT; have HR0 := hide hR0
  clear hal hf hR hT hR0
  go_enter Tryd.func28, Tryd.ntmps28
  go_wp2_with fail
  go_loopg [7] B.n (fun gk vi wr => ∃ k : Nat, vi = .int .i64 (k : Int) ∧ gk = B.n - k ∧ k ≤ B.n ∧ R k wr)
  case atStart => exact ⟨0, rfl, rfl, Nat.zero_le _, unhide HR0⟩
  case round =>
    obtain ⟨k, hu, hgk, hkn, hr⟩ := hrel
    rw [hu]
    clear hu HR0
    have HG := hide hgk; have HRk := hide hr
    clear hgk hr
    by_cases hk : k < B.n
    · have hki : (k : Int) < (B.n : Int) := by omega
      have hk0 : (0 : Int) ≤ (k : Int) := by omega
      obtain ⟨hfm, hfl, hln, hst⟩ := unhide HF k hk
      obtain ⟨⟨g, o, hab, hgn, b0, b1, b2⟩, g3, ⟨la, g2, hla⟩, gz⟩ := unhide HR k wr (unhide HRk) hk
      have HTk := hide (fun W => unhide HT k wr W (unhide HRk) hk)
      have hab2 := hab
      have HAB := hide hab2
      clear hab2
      obtain rfl := unhide HAL (by omega)
      obtain ⟨fk, hfk⟩ : ∃ fk, f k = fk := ⟨_, rfl⟩
      rw [hfk] at hfm hfl g3 g2 gz HTk
      rw [hfl] at b0
      have hf0 : (0 : Int) ≤ (fk : Int) := by omega
      have hf1 : (fk : Int) < (m : Int) := by omega
      have hf2 : decide ((fk : Int) < 0) = false := decide_eq_false (by omega)
      have hf3 : decide ((m : Int) ≤ (fk : Int)) = false := decide_eq_false (by omega)
      have hf4 : decide (m ≤ fk) = false := decide_eq_false (by omega)
      have hf5 : decide (B.st k < la) = false := decide_eq_false (by omega)
      have hf6 : decide (ck < B.st k) = false := decide_eq_false (by omega)
      have hf7 : ((B.ln k : Int) == 0) = false := by simp; omega
      have hw2 : IntKind.i64.wrap ((fk : Int) + 1 - 1) = (fk : Int) := by rw [wrapI (by omega) (by omega)]; omega
      have hw3 : IntKind.i64.wrap (fk : Int) = (fk : Int) := wrapI (by omega) (by omega)
      have hgn2 : gt ≠ g := fun e => hgn e.symm
      obtain ⟨st, hste⟩ : ∃ st, B.st k = st := ⟨_, rfl⟩
      rw [hste] at b1 hf5 hf6 HTk
      clear hfk hla hst hste
      subst hab
      go_wp2_with fail
      go_quiet (fail)
      go_wp2_with fail
      have hch : Ch wr ((wr.drewN nq).setCell ⟨gt, fk * 4 + 2, none⟩ (.int .i64 st)) (fun a x => a = gt ∧ x = fk * 4 + 2) := ((Ch.refl wr _).drewN nq).setCell ⟨rfl, rfl⟩ _
      have hcl : ((wr.drewN nq).setCell ⟨gt, fk * 4 + 2, none⟩ (.int .i64 st)).cell? ⟨gt, fk * 4 + 2, none⟩ = some (.int .i64 st) := World.cell?_setCell_same' _ _ _ (by show (wr.cell? _).isSome = true; rw [g2]; rfl)
      have hS0 : ((wr.drewN nq).setCell ⟨gt, fk * 4 + 2, none⟩ (.int .i64 st)).cell? ⟨g, o + k * 3 + 2, none⟩ = some (.slice (pb k) (B.ln k) (xb k)) := (hch.cell g _ fun e => hgn e.1).trans b2
      have hsh : Sh wr ((wr.drewN nq).setCell ⟨gt, fk * 4 + 2, none⟩ (.int .i64 st)) gt := ((Sh.refl wr gt).drewN nq).setCell _ _ _
      generalize ((wr.drewN nq).setCell ⟨gt, fk * 4 + 2, none⟩ (.int .i64 st)) = Wx at hch hcl hS0 hsh ⊢
      have HT1 := hide (unhide HTk Wx.drew hch.drew hcl hsh.drew)
      clear hch hcl hsh g2 g3 gz b0 b1 b2 HTk
      go_region_held3 (fun W => W.cell? ⟨g, o + k * 3 + 2, none⟩ = some (.slice (pb k) (B.ln k) (xb k))) (first | exact hS0 | exact hS1)
        (first | (go_at_call 27; refine (unhide HT1).mono ?_; rintro e w3 ⟨rfl, hr3, hk3⟩; have HR3 := hide hr3; have hS1 := hk3 g o rfl; clear hr3 hk3))
      all_goals
        go_wp2_with fail
        go_roundg (B.n - (k + 1))
        case measure => rw [unhide HG]; omega
        case rel => exact ⟨k + 1, by go_num, rfl, by omega, unhide HR3⟩
    · have hki : ¬ (k : Int) < (B.n : Int) := by omega
      have hkn' : k = B.n := by omega
      subst hkn'
      go_wp2_with fail
      go_ret
      exact ⟨rfl, unhide HRk⟩
end Go.Proofs.YtogdekjklbbbiaaDoor

namespace Go.Proofs.YtogdekjklbbbiaaDoor
open Go.ChangeShapes Go.WideShapes Go.ChangeAt Go.RowKit
set_option linter.unusedSimpArgs false
set_option linter.unusedVariables false

theorem cells6x {W : World} {z : Nat} {v0 v1 v2 v3 v4 v5 : Value} {t : TypeId} (h : W.heap[z]? = some (.cells #[v0, v1, v2, v3, v4, v5] t)) :
    W.cell? ⟨z, 0, none⟩ = some v0 ∧ W.cell? ⟨z, 1, none⟩ = some v1 ∧ W.cell? ⟨z, 2, none⟩ = some v2 ∧ W.cell? ⟨z, 3, none⟩ = some v3 ∧ W.cell? ⟨z, 4, none⟩ = some v4 ∧ W.cell? ⟨z, 5, none⟩ = some v5 := by
  refine ⟨?_, ?_, ?_, ?_, ?_, ?_⟩ <;> simp [World.cell?, h]
set_option maxHeartbeats 4000000 in
/-- ended. -/
theorem ended_walk (b gt m cl tk rf c8 c9 : Nat) (al : Option Addr) (B : BV) (f : Nat → Nat) (w : World) (Ra : World → Prop) (R : Option Addr → (Nat → Option Addr) → (Nat → Nat) → Nat → World → Prop) (R2 R3 Post : World → Prop)
    (hal : 0 < m → al = some ⟨gt, 0, none⟩) (hm : m < 8796093022208) (hBn : B.n < 1000) (hf : ∀ k, k < B.n → f k < m ∧ B.fl k = (f k : Int) + 1 ∧ 0 < B.ln k ∧ B.st k = -1) (hinc : ∀ k, k + 1 < B.n → B.fl k < B.fl (k + 1)) (hsum : c8 + c9 = tk) (htk : tk < 9000000000000000000)
    (hAl : Calls Tryd.prog 17 #[] w fun e w' => e = .returned (.bool true) ∧ Ra w')
    (hCl : ∀ w1, Ra w1 → Calls Tryd.prog 31 #[.pointer (some ⟨b, 0, none⟩)] w1 fun e w' => ∃ ab cb pb xb, e = .returned (.tuple #[.slice ab B.n cb, .int .i64 0]) ∧ R ab pb xb 0 w')
    (hR : ∀ ab pb xb k wr, R ab pb xb k wr → k < B.n → (∃ g o, ab = some ⟨g, o, none⟩ ∧ g ≠ gt ∧ wr.cell? ⟨g, o + k * 3, none⟩ = some (.int .i64 (B.fl k)) ∧ wr.cell? ⟨g, o + k * 3 + 1, none⟩ = some (.int .i64 (B.st k)) ∧ wr.cell? ⟨g, o + k * 3 + 2, none⟩ = some (.slice (pb k) (B.ln k) (xb k))) ∧ wr.cell? ⟨gt, f k * 4 + 3, none⟩ = some (.bool false))
    (hT : ∀ ab pb xb k wr, R ab pb xb k wr → k < B.n → Calls Tryd.prog 27 #[.pointer (some ⟨gt, f k * 4, none⟩), .slice (pb k) (B.ln k) (xb k)] wr.drew fun e w' => e = .returned (.bool true) ∧ R ab pb xb (k + 1) w' ∧ ∀ g o, ab = some ⟨g, o, none⟩ → w'.cell? ⟨g, o + k * 3 + 2, none⟩ = some (.slice (pb k) (B.ln k) (xb k)))
    (hL : ∀ ab pb xb wr, R ab pb xb B.n wr → ∀ i, i < m → ∃ ta tn tc, wr.cell? ⟨gt, i * 4, none⟩ = some (.slice ta tn tc) ∧ wr.cell? ⟨gt, i * 4 + 1, none⟩ = some (.int .i64 (tn : Int)))
    (hD : ∀ ab pb xb wr j, R ab pb xb B.n wr → R ab pb xb B.n (wr.drewN j))
    (hC2 : ∀ ab pb xb wr, R ab pb xb B.n wr → Calls Tryd.prog 31 #[.pointer (some ⟨b, 0, none⟩)] wr fun e w' => e = .returned (.tuple #[.slice none 0 0, .int .i64 9]) ∧ R2 w')
    (hCo : ∀ w1, R2 w1 → Calls Tryd.prog 59 #[.pointer (some ⟨b, 0, none⟩)] w1 fun e w' => e = .returned (.agg #[.int .i64 (tk : Int), .int .i64 (rf : Int), .int .i64 (c8 : Int), .int .i64 (c9 : Int), .int .i64 0, .int .i64 0]) ∧ R3 w')
    (hNx : ∀ w1 ob, R3 w1 → Calls Tryd.prog 26 #[.pointer (some ⟨b, 0, none⟩)] (w1.alloc ob) fun e w' => e = .returned (.int .i64 (-1)) ∧ Post w' ∧ w'.heap[w1.heap.size]? = some ob) :
    Calls Tryd.prog 29 #[.pointer (some ⟨b, 0, none⟩), .slice al m cl, .int .i64 (tk : Int), .int .i64 (rf : Int)] w fun e w' => e = .returned (.bool true) ∧ Post w' := by
  have HAL := hide hal; have HF := hide hf; have HI := hide hinc; have HAl := hide hAl; have HCl := hide hCl; have HR := hide hR; have HT := hide hT; have HL := hide hL; have HD := hide hD; have HC2 := hide hC2; have HCo := hide hCo; have HNx := hide hNx
  clear hal hf hinc hAl hCl hR hT hL hD hC2 hCo hNx
  go_enter Tryd.func29, Tryd.ntmps29
  go_wp2_with fail
  refine (unhide HAl).mono ?_
  rintro e w1 ⟨rfl, hw1⟩
  have HW1 := hide (unhide HCl _ hw1)
  clear hw1
  go_wp2_with fail
  refine (unhide HW1).mono ?_
  rintro e w2 ⟨ab, cb, pb, xb, rfl, hr⟩
  have HR0 := hide hr
  clear hr
  go_wp2_with (first | (go_at_call 12; refine (num_any _ _).mono ?_; rintro e w8 ⟨rfl, rfl⟩))
  go_loopg [11, 12] B.n (fun gk vl vi wr => ∃ k : Nat, vi = .int .i64 (k : Int) ∧ vl = .int .i64 (if k = 0 then 0 else B.fl (k - 1)) ∧ gk = B.n - k ∧ k ≤ B.n ∧ R ab pb xb k wr)
  case atStart => exact ⟨0, rfl, rfl, rfl, Nat.zero_le _, unhide HR0⟩
  case round =>
    obtain ⟨k, hu, hvl, hgk, hkn, hr⟩ := hrel
    rw [hu, hvl]
    clear hu hvl HR0
    have HG := hide hgk; have HRk := hide hr
    clear hgk hr
    by_cases hk : k < B.n
    · have hki : (k : Int) < (B.n : Int) := by omega
      have hk0 : (0 : Int) ≤ (k : Int) := by omega
      obtain ⟨hfm, hfl, hln, hst⟩ := unhide HF k hk
      obtain ⟨⟨g, o, hab, hgn, b0, b1, b2⟩, g3⟩ := unhide HR ab pb xb k wr (unhide HRk) hk
      have HTk := hide (unhide HT ab pb xb k wr (unhide HRk) hk)
      obtain rfl := unhide HAL (by omega)
      obtain ⟨la, hla⟩ : ∃ la, (if k = 0 then 0 else B.fl (k - 1)) = la := ⟨_, rfl⟩
      have hlt : la < B.fl k := by
        rw [← hla]
        by_cases e : k = 0
        · rw [if_pos e]; omega
        · rw [if_neg e]
          have := unhide HI (k - 1) (by omega)
          have e2 : k - 1 + 1 = k := by omega
          rw [e2] at this
          exact this
      rw [hla]
      have HFl : Hid (B.fl k = (f k : Int) + 1) := hfl
      obtain ⟨fk, hfk⟩ : ∃ fk, f k = fk := ⟨_, rfl⟩
      rw [hfk] at hfm hfl g3 HTk HFl
      rw [hfl] at b0 hlt
      rw [hst] at b1
      have hf0 : (0 : Int) ≤ (fk : Int) := by omega
      have hf1 : (fk : Int) < (m : Int) := by omega
      have hf2 : decide ((fk : Int) < 0) = false := decide_eq_false (by omega)
      have hf3 : decide ((m : Int) ≤ (fk : Int)) = false := decide_eq_false (by omega)
      have hf4 : decide (m ≤ fk) = false := decide_eq_false (by omega)
      have hf5 : decide ((fk : Int) + 1 ≤ la) = false := decide_eq_false (by omega)
      have hf7 : ((B.ln k : Int) == 0) = false := by simp; omega
      have hf8 : ((-1 : Int) != -1) = false := by decide
      have hw2 : IntKind.i64.wrap ((fk : Int) + 1 - 1) = (fk : Int) := by rw [wrapI (by omega) (by omega)]; omega
      have hw3 : IntKind.i64.wrap (fk : Int) = (fk : Int) := wrapI (by omega) (by omega)
      have hS0 := b2
      clear hfk hla hst hlt
      subst hab
      go_wp2_with fail
      go_region_held3 (fun W => W.cell? ⟨g, o + k * 3 + 2, none⟩ = some (.slice (pb k) (B.ln k) (xb k))) (first | exact hS0 | exact hS1)
        (first | (go_at_call 27; refine (unhide HTk).mono ?_; rintro e w3 ⟨rfl, hr3, hk3⟩; have HR3 := hide hr3; have hS1 := hk3 g o rfl; clear hr3 hk3))
      all_goals
        go_wp2_with fail
        go_roundg (B.n - (k + 1))
        case measure => rw [unhide HG]; omega
        case rel =>
          refine ⟨k + 1, by go_num, ?_, rfl, by omega, unhide HR3⟩
          rw [if_neg (by omega), Nat.add_sub_cancel, unhide HFl]
    · have hki : ¬ (k : Int) < (B.n : Int) := by omega
      have hkn' : k = B.n := by omega
      subst hkn'
      generalize (if B.n = 0 then (0 : Int) else B.fl (B.n - 1)) = la
      go_wp2_with fail
      go_loopg [15] m (fun gk vi wr => ∃ i : Nat, vi = .int .i64 (i : Int) ∧ gk = m - i ∧ i ≤ m ∧ R ab pb xb B.n wr)
      case atStart => exact ⟨0, rfl, rfl, Nat.zero_le _, unhide HRk⟩
      case round =>
        obtain ⟨i, hu, hgi, him, hr⟩ := hrel
        rw [hu]
        clear hu HRk HG
        have HG := hide hgi; have HRi := hide hr
        clear hgi hr
        by_cases hi : i < m
        · have hii : (i : Int) < (m : Int) := by omega
          have hi0 : (0 : Int) ≤ (i : Int) := by omega
          obtain ⟨ta, tn, tc, t0, t1⟩ := unhide HL ab pb xb wr (unhide HRi) i hi
          obtain rfl := unhide HAL (by omega)
          have hne : ((tn : Int) != (tn : Int)) = false := by simp
          go_wp2_with fail
          go_quiet (fail)
          go_wp2_with fail
          go_roundg (m - (i + 1))
          case measure => rw [unhide HG]; omega
          case rel => exact ⟨i + 1, by go_num, rfl, by omega, unhide HD _ _ _ _ _ (unhide HRi)⟩
        · have hii : ¬ (i : Int) < (m : Int) := by omega
          go_wp2_with fail
          refine (unhide HC2 _ _ _ _ (unhide HRi)).mono ?_
          rintro e w4 ⟨rfl, hr4⟩
          have HR4 := hide (unhide HCo _ hr4)
          clear hr4
          go_wp2_with fail
          refine (unhide HR4).mono ?_
          rintro e w5 ⟨rfl, hr5⟩
          have HR5 := hide (unhide HNx _ (.cells #[.int .i64 (tk : Int), .int .i64 (rf : Int), .int .i64 (c8 : Int), .int .i64 (c9 : Int), .int .i64 0, .int .i64 0] 116) hr5)
          clear hr5
          go_wp2_with fail
          refine (unhide HR5).mono ?_
          rintro e w6 ⟨rfl, hp, hh⟩
          obtain ⟨q0, q1, q2, q3, q4, q5⟩ := cells6x hh
          have HP := hide hp
          have hs8 : (c8 : Int) + (c9 : Int) = (tk : Int) := by omega
          have hw8 : IntKind.i64.wrap ((c8 : Int) + (c9 : Int)) = (tk : Int) := by rw [wrapI (by omega) (by omega)]; exact hs8
          clear hp hh
          go_wp2_with (first | (go_at_call 12; refine (num_any _ _).mono ?_; rintro e w8 ⟨rfl, rfl⟩))
          all_goals
            go_ret
            exact ⟨rfl, unhide HP⟩
end Go.Proofs.YtogdekjklbbbiaaDoor
