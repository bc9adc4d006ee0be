import Derived.Test.YtogdekjklbbbiaaGreatDoorZ51
set_option maxRecDepth 100000
namespace Go.Proofs.YtogdekjklbbbiaaGreatDoor
open Go.ChangeShapes Go.WideShapes Go.ChangeAt Go.RowKit
set_option linter.unusedSimpArgs false
set_option linter.unusedVariables false

theorem eqp_nilP (w : World) (x : Nat) : (binOp .eql 27 (.pointer (some ⟨x, 0, none⟩)) (.pointer none)).run Tryz.prog w = .ok (.bool false) w := by
  kernel_rfl
theorem eqp_nilD (w : World) (x : Nat) : (binOp .eql 44 (.pointer (some ⟨x, 0, none⟩)) (.pointer none)).run Tryz.prog w = .ok (.bool false) w := by
  kernel_rfl
set_option maxHeartbeats 4000000 in
/-- All steps of a script, up to a kind. -/
theorem upto_walk (q lo hi : Int) (sa : Option Addr) (n cp : Nat) (w : World) (hb : n < 2200000000000) (hsa : 0 < n → ∃ g o, sa = some ⟨g, o, none⟩) (op : Nat → OpV)
    (N1 N2 N3 : World → Prop) (A1 : Nat → World → Prop) (A2 : Nat → Nat → World → Prop) (A3 : Nat → Nat → Nat → World → Prop) (R : Nat → Nat → Nat → Nat → Nat → World → Prop) (Post : World → Prop)
    (hN1 : Calls Tryz.prog 9 #[.int .i64 q] w fun e w' => (e = .returned (.tuple #[.pointer none, .int .i64 1]) ∧ N1 w') ∨ ∃ a, e = .returned (.tuple #[.pointer (some ⟨a, 0, none⟩), .int .i64 0]) ∧ A1 a w')
    (hN2 : ∀ w1, N1 w1 → Calls Tryz.prog 9 #[.int .i64 q] w1 fun e w' => e = .returned (.tuple #[.pointer none, .int .i64 1]) ∧ N2 w')
    (hN3 : ∀ w1, N2 w1 → Calls Tryz.prog 17 #[.int .i64 q] w1 fun e w' => e = .returned (.pointer none) ∧ N3 w')
    (hN4 : ∀ w1, N3 w1 → Calls Tryz.prog 17 #[.int .i64 q] w1 fun e w' => e = .returned (.pointer none) ∧ Post w')
    (hA2 : ∀ a w1, A1 a w1 → Calls Tryz.prog 9 #[.int .i64 q] w1 fun e w' => ∃ b, e = .returned (.tuple #[.pointer (some ⟨b, 0, none⟩), .int .i64 0]) ∧ A2 a b w')
    (hA3 : ∀ a b w1, A2 a b w1 → Calls Tryz.prog 17 #[.int .i64 q] w1 fun e w' => ∃ c, e = .returned (.pointer (some ⟨c, 0, none⟩)) ∧ A3 a b c w')
    (hA4 : ∀ a b c w1, A3 a b c w1 → Calls Tryz.prog 17 #[.int .i64 q] w1 fun e w' => ∃ d, e = .returned (.pointer (some ⟨d, 0, none⟩)) ∧ R a b c d 0 w')
    (hC : ∀ a b c d k wr, R a b c d k wr → k < n → ∀ g o, sa = some ⟨g, o, none⟩ → wr.cell? ⟨g, o + k * 6, none⟩ = some (.int .i64 (op k).k) ∧ wr.cell? ⟨g, o + k * 6 + 1, none⟩ = some (.int .i64 (op k).a) ∧ wr.cell? ⟨g, o + k * 6 + 2, none⟩ = some (.int .i64 (op k).b) ∧ wr.cell? ⟨g, o + k * 6 + 3, none⟩ = some (.int .i64 (op k).c) ∧ wr.cell? ⟨g, o + k * 6 + 4, none⟩ = some (.int .i64 (op k).w) ∧ wr.cell? ⟨g, o + k * 6 + 5, none⟩ = some (.slice (op k).sa (op k).sn (op k).sc))
    (hS1 : ∀ a b c d k wr, R a b c d k wr → k < n → (op k).k ≤ 6 → Calls Tryz.prog 18 #[.pointer (some ⟨a, 0, none⟩), .pointer (some ⟨c, 0, none⟩), (op k).agg] (wr.alloc (op k).obj) fun e w' => e = .returned (.bool true) ∧ R a b c d (k + 1) w')
    (hS2 : ∀ a b c d k wr, R a b c d k wr → k < n → (op k).k ≤ 6 → Calls Tryz.prog 18 #[.pointer (some ⟨b, 0, none⟩), .pointer (some ⟨d, 0, none⟩), (op k).agg] (wr.alloc (op k).obj) fun e w' => e = .returned (.bool true) ∧ R a b c d (k + 1) w')
    (hO : ∀ a b c d k wr, R a b c d k wr → k < n → R a b c d (k + 1) (wr.alloc (op k).obj))
    (hE : ∀ a b c d wr, R a b c d n wr → Post wr) :
    Calls Tryz.prog 7 #[.int .i64 q, .slice sa n cp, .int .i64 lo, .int .i64 hi, .int .i64 6] w fun e w' => e = .returned (.int .i64 (-1)) ∧ Post w' := by
  have HN1 := hide hN1; have HN2 := hide hN2; have HN3 := hide hN3; have HN4 := hide hN4; have HA2 := hide hA2; have HA3 := hide hA3; have HA4 := hide hA4; have HC := hide hC; have HS1 := hide hS1; have HS2 := hide hS2; have HO := hide hO; have HE := hide hE; have HSA := hide hsa
  clear hN1 hN2 hN3 hN4 hA2 hA3 hA4 hC hS1 hS2 hO hE hsa
  go_enter Tryz.func7, Tryz.ntmps7
  go_wp2_with fail
  refine (unhide HN1).mono ?_
  rintro e w1 (⟨rfl, hp⟩ | ⟨a, rfl, hR⟩)
  · have HP := hide (unhide HN2 _ hp)
    clear hp HN1 HA2 HA3 HA4 HC HS1 HS2 HO HE HSA HN2
    go_wp2_with fail
    refine (unhide HP).mono ?_
    rintro e w2 ⟨rfl, hp⟩
    have HP2 := hide (unhide HN3 _ hp)
    clear hp HP HN3
    go_wp2_with fail
    refine (unhide HP2).mono ?_
    rintro e w3 ⟨rfl, hp⟩
    have HP3 := hide (unhide HN4 _ hp)
    clear hp HP2 HN4
    go_wp2_with fail
    refine (unhide HP3).mono ?_
    rintro e w4 ⟨rfl, hp⟩
    have HPo := hide hp
    clear hp HP3
    go_wp2_with (first | (go_at_call 10; refine (num_any _ _).mono ?_; rintro e w8 ⟨rfl, rfl⟩))
    all_goals
      go_ret
      exact ⟨rfl, unhide HPo⟩
  · have HP := hide (unhide HA2 _ _ hR)
    clear hR HN1 HN2 HN3 HN4 HA2
    go_wp2_with fail
    refine (unhide HP).mono ?_
    rintro e w2 ⟨b, rfl, hp⟩
    have HP2 := hide (unhide HA3 _ _ _ hp)
    clear hp HP HA3
    go_wp2_with fail
    refine (unhide HP2).mono ?_
    rintro e w3 ⟨c, rfl, hp⟩
    have HP3 := hide (unhide HA4 _ _ _ _ hp)
    clear hp HP2 HA4
    go_wp2_with fail
    refine (unhide HP3).mono ?_
    rintro e w4 ⟨d, rfl, hp⟩
    have HR := hide hp
    clear hp HP3
    have hnila := eqp_nilP w4 a
    have hnilb := eqp_nilP w4 b
    have hnilc := eqp_nilD w4 c
    go_wp2_with (first | (go_at_call 10; refine (num_any _ _).mono ?_; rintro e w8 ⟨rfl, rfl⟩))
    go_loopg [17] n (fun gk vi wr => ∃ k : Nat, vi = .int .i64 (k : Int) ∧ gk = n - k ∧ k ≤ n ∧ R a b c d k wr)
    case atStart => exact ⟨0, rfl, rfl, Nat.zero_le _, unhide HR⟩
    case round =>
      obtain ⟨k, hvi, hgk, hkn, hRk⟩ := hrel
      rw [hvi]
      clear hvi HR hnila hnilb hnilc
      have HG := hide hgk; have HRk := hide hRk
      clear hgk hRk
      by_cases hk : k < n
      · have hki : (k : Int) < (n : Int) := by omega
        have hk0 : (0 : Int) ≤ (k : Int) := by omega
        have hcs := unhide HC _ _ _ _ _ _ (unhide HRk) hk
        obtain ⟨g, o, rfl⟩ := unhide HSA (by omega)
        obtain ⟨e0, e1, e2, e3, e4, e5⟩ := hcs g o rfl
        have HOp := hide (And.intro (unhide HS1 a b c d k wr (unhide HRk) hk) (And.intro (unhide HS2 a b c d k wr (unhide HRk) hk) (unhide HO a b c d k wr (unhide HRk) hk)))
        have HOb : Hid ((op k).obj = .cells #[.int .i64 (op k).k, .int .i64 (op k).a, .int .i64 (op k).b, .int .i64 (op k).c, .int .i64 (op k).w, .slice (op k).sa (op k).sn (op k).sc] 47) := rfl
        have HAg : Hid ((op k).agg = .agg #[.int .i64 (op k).k, .int .i64 (op k).a, .int .i64 (op k).b, .int .i64 (op k).c, .int .i64 (op k).w, .slice (op k).sa (op k).sn (op k).sc]) := rfl
        generalize (op k).obj = ob at HOp HOb
        generalize (op k).agg = ag at HOp HAg
        generalize (op k).k = kk at HOp HOb HAg e0
        generalize (op k).a = xa at HOp HOb HAg e1
        generalize (op k).b = xb at HOp HOb HAg e2
        generalize (op k).c = xc at HOp HOb HAg e3
        generalize (op k).w = xw at HOp HOb HAg e4
        generalize (op k).sa = s1 at HOp HOb HAg e5
        generalize (op k).sn = s2 at HOp HOb HAg e5
        generalize (op k).sc = s3 at HOp HOb HAg e5
        obtain rfl := unhide HOb
        obtain rfl := unhide HAg
        clear hcs HOb HAg HC HS1 HS2 HO
        by_cases hk6 : (6 : Int) < kk
        · have HR5 := hide ((unhide HOp).2.2)
          clear HOp
          go_wp2_with fail
          go_roundg (n - (k + 1))
          case measure => rw [unhide HG]; omega
          case rel => exact ⟨k + 1, by go_num, rfl, by omega, unhide HR5⟩
        · have hk6' : decide ((6 : Int) < kk) = false := decide_eq_false hk6
          have HC1 := hide ((unhide HOp).1 (by omega))
          have HC2 := hide ((unhide HOp).2.1 (by omega))
          clear HOp
          cases hbit : (bits BinOp.and IntKind.i64 xw 1 == 0) with
          | true =>
            go_wp2_with fail
            refine (unhide HC1).mono ?_
            rintro e w5 ⟨rfl, hR5⟩
            have HR5 := hide hR5
            clear hR5
            go_wp2_with fail
            go_roundg (n - (k + 1))
            case measure => rw [unhide HG]; omega
            case rel => exact ⟨k + 1, by go_num, rfl, by omega, unhide HR5⟩
          | false =>
            go_wp2_with fail
            refine (unhide HC2).mono ?_
            rintro e w5 ⟨rfl, hR5⟩
            have HR5 := hide hR5
            clear hR5
            go_wp2_with fail
            go_roundg (n - (k + 1))
            case measure => rw [unhide HG]; omega
            case rel => exact ⟨k + 1, by go_num, rfl, by omega, unhide HR5⟩
      · have hki : ¬ (k : Int) < (n : Int) := by omega
        have hkn' : k = n := by omega
        have HPo : Hid (Post wr) := unhide HE _ _ _ _ _ (by have h := unhide HRk; rw [hkn'] at h; exact h)
        clear hkn' HC HS1 HS2 HO HE HSA
        go_wp2_with fail
        all_goals
          go_ret
          exact ⟨rfl, unhide HPo⟩
end Go.Proofs.YtogdekjklbbbiaaGreatDoor

namespace Go.Proofs.YtogdekjklbbbiaaGreatDoor
open Go.ChangeShapes Go.WideShapes Go.ChangeAt Go.RowKit
set_option linter.unusedSimpArgs false
set_option linter.unusedVariables false

/-- Two pairs side by side. -/
structure Q4 (w wr : World) (a b c d : Nat) (k : Nat) (O1 O2 : Nat → Prop) (p1 p2 : Pace.PS) : Prop where
  l : PR wr O1 a c p1 k
  r : PR wr O2 b d p2 k
  fr : Fr w wr (fun _ => False)
  ol : ∀ j, O1 j → w.heap.size ≤ j
  or : ∀ j, O2 j → w.heap.size ≤ j
  dj : ∀ j, O1 j → ¬ O2 j
theorem Q4.alloc {w wr : World} {a b c d k : Nat} {O1 O2 : Nat → Prop} {p1 p2 : Pace.PS} (h : Q4 w wr a b c d k O1 O2 p1 p2) (o : Obj) : Q4 w (wr.alloc o) a b c d k O1 O2 p1 p2 :=
  ⟨h.l.kept (O' := fun _ => False) ((Fr.refl wr _).alloc o) fun _ _ q => q, h.r.kept (O' := fun _ => False) ((Fr.refl wr _).alloc o) fun _ _ q => q, h.fr.alloc o, h.ol, h.or, h.dj⟩
theorem Q4.swap {w wr : World} {a b c d k : Nat} {O1 O2 : Nat → Prop} {p1 p2 : Pace.PS} (h : Q4 w wr a b c d k O1 O2 p1 p2) : Q4 w wr b a d c k O2 O1 p2 p1 := ⟨h.r, h.l, h.fr, h.or, h.ol, fun j q1 q2 => h.dj j q2 q1⟩
theorem Q4.up {w wr : World} {a b c d k m : Nat} {O1 O2 : Nat → Prop} {p1 p2 : Pace.PS} (h : Q4 w wr a b c d k O1 O2 p1 p2) (hm : k ≤ m) : Q4 w wr a b c d m O1 O2 p1 p2 := ⟨h.l.up hm, h.r.up hm, h.fr, h.ol, h.or, h.dj⟩
theorem Q4.left {w wr w' : World} {a b c d k : Nat} {O1 O2 : Nat → Prop} {p1 p2 p' : Pace.PS} (h : Q4 w wr a b c d k O1 O2 p1 p2) (hD : Dn wr w' O1 a c p' (k + 1)) : ∃ O', Q4 w w' a b c d (k + 1) O' O2 p' p2 := by
  obtain ⟨O', h1, h2, h3⟩ := hD
  refine ⟨O', h1, (h.r.kept h2 fun j q1 q2 => h.dj j q2 q1).up (Nat.le_succ _), h.fr.trans h2 fun j hj q => ?_, fun j q => ?_, h.or, fun j q1 q2 => ?_⟩
  · have := h.ol j q; omega
  · rcases Nat.lt_or_ge j wr.heap.size with z | z
    · exact h.ol j (h3 j z q)
    · exact Nat.le_trans h.fr.size z
  · exact h.dj j (h3 j (h.r.lt j q2) q1) q2
set_option maxHeartbeats 1000000 in
/-- The law's own loop: every step is answered as the document says. -/
theorem upto_any (q lo hi : Int) (sa : Option Addr) (n cp : Nat) (w : World) (hz : 0 < w.heap.size) (hT : TabW w) (hb : n < 2200000000000) (hsa : 0 < n → ∃ g o, sa = some ⟨g, o, none⟩) (op : Nat → OpV)
    (hC : ∀ k, k < n → ∀ g o, sa = some ⟨g, o, none⟩ → w.cell? ⟨g, o + k * 6, none⟩ = some (.int .i64 (op k).k) ∧ w.cell? ⟨g, o + k * 6 + 1, none⟩ = some (.int .i64 (op k).a) ∧ w.cell? ⟨g, o + k * 6 + 2, none⟩ = some (.int .i64 (op k).b) ∧ w.cell? ⟨g, o + k * 6 + 3, none⟩ = some (.int .i64 (op k).c) ∧ w.cell? ⟨g, o + k * 6 + 4, none⟩ = some (.int .i64 (op k).w) ∧ w.cell? ⟨g, o + k * 6 + 5, none⟩ = some (.slice (op k).sa (op k).sn (op k).sc)) :
    Calls Tryz.prog 7 #[.int .i64 q, .slice sa n cp, .int .i64 lo, .int .i64 hi, .int .i64 6] w fun e w' => e = .returned (.int .i64 (-1)) ∧ Fr w w' (fun _ => False) := by
  have hTr : ∀ {wr : World}, Fr w wr (fun _ => False) → TabW wr := fun hf => hT.fr hf (fun q => q) hz
  have c0 : Bd (Pace.PS.new q.toNat) ⟨0, 0, 0, 0, 0, 0⟩ 0 := ⟨Nat.le_refl _, Nat.le_refl _, Nat.le_refl _, Nat.le_refl _, Nat.le_refl _⟩
  refine upto_walk q lo hi sa n cp w hb hsa op (fun w1 => w1 = w ∧ (q < 1500 ∨ 1000000 < q)) (fun w1 => w1 = w ∧ (q < 1500 ∨ 1000000 < q)) (fun w1 => w1 = w ∧ (q < 1500 ∨ 1000000 < q))
    (fun a w1 => (1500 ≤ q ∧ q ≤ 1000000) ∧ Fr w w1 (fun _ => False) ∧ ∃ ya, PA w1 a ya (Pace.PS.new q.toNat) ⟨0, 0, 0, 0, 0, 0⟩ ∧ ∀ j, ya.own j → w.heap.size ≤ j)
    (fun a b w1 => (1500 ≤ q ∧ q ≤ 1000000) ∧ Fr w w1 (fun _ => False) ∧ ∃ ya yb, PA w1 a ya (Pace.PS.new q.toNat) ⟨0, 0, 0, 0, 0, 0⟩ ∧ PA w1 b yb (Pace.PS.new q.toNat) ⟨0, 0, 0, 0, 0, 0⟩ ∧ (∀ j, ya.own j → w.heap.size ≤ j) ∧ (∀ j, yb.own j → w.heap.size ≤ j) ∧ ∀ j, ya.own j → ¬ yb.own j)
    (fun a b c w1 => (1500 ≤ q ∧ q ≤ 1000000) ∧ Fr w w1 (fun _ => False) ∧ ∃ yb O1, PR w1 O1 a c (Pace.PS.new q.toNat) 0 ∧ PA w1 b yb (Pace.PS.new q.toNat) ⟨0, 0, 0, 0, 0, 0⟩ ∧ (∀ j, O1 j → w.heap.size ≤ j) ∧ (∀ j, yb.own j → w.heap.size ≤ j) ∧ ∀ j, O1 j → ¬ yb.own j)
    (fun a b c d k wr => k ≤ n ∧ ∃ O1 O2 p1 p2, Q4 w wr a b c d k O1 O2 p1 p2)
    (fun w' => Fr w w' (fun _ => False)) ?_ ?_ ?_ ?_ ?_ ?_ ?_ ?_ ?_ ?_ ?_ ?_
  · by_cases hq : q < 1500 ∨ 1000000 < q
    · refine (new_bad q w hq).mono ?_
      rintro e w' ⟨rfl, rfl⟩
      exact .inl ⟨rfl, rfl, hq⟩
    · refine (pa_new w hz q (by omega) (by omega)).mono ?_
      rintro e w' ⟨b, y, rfl, hP, hf, hy⟩
      exact .inr ⟨b, rfl, ⟨by omega, by omega⟩, hf, y, hP, hy⟩
  · rintro w1 ⟨rfl, hq⟩
    refine (new_bad q w1 hq).mono ?_
    rintro e w' ⟨rfl, rfl⟩
    exact ⟨rfl, rfl, hq⟩
  · rintro w1 ⟨rfl, hq⟩
    refine (rnew_bad q w1 hq).mono ?_
    rintro e w' ⟨rfl, rfl⟩
    exact ⟨rfl, rfl, hq⟩
  · rintro w1 ⟨rfl, hq⟩
    refine (rnew_bad q w1 hq).mono ?_
    rintro e w' ⟨rfl, rfl⟩
    exact ⟨rfl, Fr.refl _ _⟩
  · rintro a w1 ⟨hq, hf, ya, hP, hy⟩
    have hs := hf.size
    refine (pa_new w1 (by omega) q hq.1 hq.2).mono ?_
    rintro e w' ⟨b, yb, rfl, hPb, hf2, hyb⟩
    refine ⟨b, rfl, hq, hf.trans hf2 fun _ _ z => z, ya, yb, hP.kept hf2 fun _ _ z => z, hPb, hy, fun j z => Nat.le_trans hs (hyb j z), fun j z1 z2 => ?_⟩
    have := hP.olt j z1
    have := hyb j z2
    omega
  · rintro a b w1 ⟨hq, hf, ya, yb, hP, hPb, hy, hyb, hd⟩
    have hs := hf.size
    refine (rx_new w1 (by omega) q hq.1 hq.2).mono ?_
    rintro e w' ⟨yc, rfl, hX, hf2, hyc⟩
    refine ⟨_, rfl, hq, hf.trans hf2 fun _ _ z => z, yb, fun j => ya.own j ∨ yc.own j, ⟨ya, yc, _, 0, ⟨hP.kept hf2 fun _ _ z => z, hX, fun j z1 z2 => ?_, c0, Nat.le_refl _, Nat.le_refl _⟩, fun j => Iff.rfl⟩, hPb.kept hf2 fun _ _ z => z, fun j z => ?_, hyb, fun j z1 z2 => ?_⟩
    · have := hP.olt j z1
      have := hyc j z2
      omega
    · rcases z with z | z
      · exact hy j z
      · exact Nat.le_trans hs (hyc j z)
    · rcases z1 with z | z
      · exact hd j z z2
      · have := hPb.olt j z2
        have := hyc j z
        omega
  · rintro a b c w1 ⟨hq, hf, yb, O1, hPR, hPb, hO1, hyb, hd⟩
    have hs := hf.size
    refine (rx_new w1 (by omega) q hq.1 hq.2).mono ?_
    rintro e w' ⟨yd, rfl, hX, hf2, hyd⟩
    refine ⟨_, rfl, Nat.zero_le _, O1, fun j => yb.own j ∨ yd.own j, _, _, ⟨hPR.kept hf2 fun _ _ z => z, ⟨yb, yd, _, 0, ⟨hPb.kept hf2 fun _ _ z => z, hX, fun j z1 z2 => ?_, c0, Nat.le_refl _, Nat.le_refl _⟩, fun j => Iff.rfl⟩, hf.trans hf2 fun _ _ z => z, hO1, fun j z => ?_, fun j z1 z2 => ?_⟩⟩
    · have := hPb.olt j z1
      have := hyd j z2
      omega
    · rcases z with z | z
      · exact hyb j z
      · exact Nat.le_trans hs (hyd j z)
    · rcases z2 with z | z
      · exact hd j z1 z
      · have := hPR.lt j z1
        have := hyd j z
        omega
  · rintro a b c d k wr ⟨_, O1, O2, p1, p2, hQ⟩ hk g o e
    have hcell := hC k hk g o e
    have hg : g < w.heap.size := World.block_lt_of_cell? _ _ hcell.1
    have hs : ∀ j, wr.cell? ⟨g, j, none⟩ = w.cell? ⟨g, j, none⟩ := fun j => World.cell?_of_block (w := w) (a := ⟨g, j, none⟩) (hQ.fr.blk g hg fun q => q)
    rw [hs, hs, hs, hs, hs, hs]
    exact hcell
  · rintro a b c d k wr ⟨_, O1, O2, p1, p2, hQ⟩ hk h6
    have hQa := hQ.alloc (op k).obj
    refine (step_any hQa.l (by omega) (hTr hQa.fr) (op k) h6).mono ?_
    rintro e w' ⟨rfl, hD⟩
    obtain ⟨O', hQ'⟩ := hQa.left hD
    exact ⟨rfl, by omega, O', O2, _, _, hQ'⟩
  · rintro a b c d k wr ⟨_, O1, O2, p1, p2, hQ⟩ hk h6
    have hQa := hQ.alloc (op k).obj
    refine (step_any hQa.r (by omega) (hTr hQa.fr) (op k) h6).mono ?_
    rintro e w' ⟨rfl, hD⟩
    obtain ⟨O', hQ'⟩ := hQa.swap.left hD
    exact ⟨rfl, by omega, O1, O', _, _, hQ'.swap⟩
  · rintro a b c d k wr ⟨_, O1, O2, p1, p2, hQ⟩ hk
    exact ⟨by omega, O1, O2, p1, p2, (hQ.alloc _).up (Nat.le_succ _)⟩
  · rintro a b c d wr ⟨_, O1, O2, p1, p2, hQ⟩
    exact hQ.fr
set_option maxHeartbeats 400000 in
theorem flows_any (q : Int) (sa : Option Addr) (n cp : Nat) (w : World) (hz : 0 < w.heap.size) (hT : TabW w) (hb : n < 2200000000000) (hsa : 0 < n → ∃ g o, sa = some ⟨g, o, none⟩) (op : Nat → OpV)
    (hC : ∀ k, k < n → ∀ g o, sa = some ⟨g, o, none⟩ → w.cell? ⟨g, o + k * 6, none⟩ = some (.int .i64 (op k).k) ∧ w.cell? ⟨g, o + k * 6 + 1, none⟩ = some (.int .i64 (op k).a) ∧ w.cell? ⟨g, o + k * 6 + 2, none⟩ = some (.int .i64 (op k).b) ∧ w.cell? ⟨g, o + k * 6 + 3, none⟩ = some (.int .i64 (op k).c) ∧ w.cell? ⟨g, o + k * 6 + 4, none⟩ = some (.int .i64 (op k).w) ∧ w.cell? ⟨g, o + k * 6 + 5, none⟩ = some (.slice (op k).sa (op k).sn (op k).sc)) :
    Calls Tryz.prog 3 #[.int .i64 q, .slice sa n cp] w fun e w' => e = .returned (.bool true) ∧ Fr w w' (fun _ => False) := by
  have H := hide (upto_any q 1 4 sa n cp w hz hT hb hsa op hC)
  clear hC
  go_enter Tryz.func3, Tryz.ntmps3
  go_wp2_with fail
  refine (unhide H).mono ?_
  rintro e w1 ⟨rfl, hp⟩
  have HP := hide hp
  clear hp
  go_wp2_with fail
  all_goals
    go_ret
    exact ⟨rfl, unhide HP⟩
set_option maxHeartbeats 400000 in
theorem polls_any (q : Int) (sa : Option Addr) (n cp : Nat) (w : World) (hz : 0 < w.heap.size) (hT : TabW w) (hb : n < 2200000000000) (hsa : 0 < n → ∃ g o, sa = some ⟨g, o, none⟩) (op : Nat → OpV)
    (hC : ∀ k, k < n → ∀ g o, sa = some ⟨g, o, none⟩ → w.cell? ⟨g, o + k * 6, none⟩ = some (.int .i64 (op k).k) ∧ w.cell? ⟨g, o + k * 6 + 1, none⟩ = some (.int .i64 (op k).a) ∧ w.cell? ⟨g, o + k * 6 + 2, none⟩ = some (.int .i64 (op k).b) ∧ w.cell? ⟨g, o + k * 6 + 3, none⟩ = some (.int .i64 (op k).c) ∧ w.cell? ⟨g, o + k * 6 + 4, none⟩ = some (.int .i64 (op k).w) ∧ w.cell? ⟨g, o + k * 6 + 5, none⟩ = some (.slice (op k).sa (op k).sn (op k).sc)) :
    Calls Tryz.prog 4 #[.int .i64 q, .slice sa n cp] w fun e w' => e = .returned (.bool true) ∧ Fr w w' (fun _ => False) := by
  have H := hide (upto_any q 5 6 sa n cp w hz hT hb hsa op hC)
  clear hC
  go_enter Tryz.func4, Tryz.ntmps4
  go_wp2_with fail
  refine (unhide H).mono ?_
  rintro e w1 ⟨rfl, hp⟩
  have HP := hide hp
  clear hp
  go_wp2_with fail
  all_goals
    go_ret
    exact ⟨rfl, unhide HP⟩
end Go.Proofs.YtogdekjklbbbiaaGreatDoor
