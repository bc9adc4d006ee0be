import Derived.Test.YtogdekjklbbbiaaGreatDoorZ06
import Derived.Deep.RegionHeld3
set_option maxRecDepth 100000
namespace Go.Proofs.YtogdekjklbbbiaaGreatDoor
open Go.ChangeShapes Go.WideShapes Go.ChangeAt Go.RowKit
set_option linter.unusedSimpArgs false
set_option linter.unusedVariables false

theorem fit_split (d : List (Int × Nat)) : ∀ (r : List (Int × Nat)) (room : Nat), Pace.bytes d ≤ room → Pace.fit (d ++ r) room = d.length + Pace.fit r (room - Pace.bytes d) := by
  induction d with
  | nil => intro r room _; simp [Pace.bytes]
  | cons p d ih =>
    intro r room h
    have hb : Pace.bytes (p :: d) = p.2 + Pace.bytes d := by simp [Pace.bytes]
    rw [hb] at h
    rw [List.cons_append, Pace.fit, if_pos (by omega), ih r (room - p.2) (by omega), hb, List.length_cons]
    rw [show room - (p.2 + Pace.bytes d) = room - p.2 - Pace.bytes d by omega]
    omega
theorem fit_bytes_le (pk : List (Int × Nat)) (room : Nat) : Pace.bytes (pk.take (Pace.fit pk room)) ≤ room := Pace.fit_bytes pk room
set_option maxHeartbeats 1000000 in
theorem farm_walk (x g cap n : Nat) (q ck rate burst cr wait adm room : Nat) (pk : List (Int × Nat)) (w : World) (R : World → Prop) (hpk : pk.length = adm) (hadm : adm ≤ n) (hn : n ≤ 8) (hlens : ∀ p ∈ pk, p.2 ≤ 1500) (hxg : g ≠ x) (hq : q ≤ 1000000) (hbu : burst ≤ 1000000)
    (hroom : (q ≤ burst ∧ room = q) ∨ (burst < q ∧ room = burst)) (hck : ck ≤ 4000000000000000000) (hwt : wait ≤ 1000000000000000)
    (hA : Calls Tryz.prog 110 #[.pointer (some ⟨x, 0, none⟩), .int .i64 (ck : Int)] w fun e w' => e = .returned (.tuple #[]) ∧ R w')
    (hR : ∀ w1, R w1 → w1.cell? ⟨x, 1, none⟩ = some (.int .i64 (rate : Int)) ∧ w1.cell? ⟨x, 2, none⟩ = some (.int .i64 (burst : Int)) ∧ w1.cell? ⟨x, 3, none⟩ = some (.int .i64 (cr : Int)) ∧ w1.cell? ⟨x, 5, none⟩ = some (.slice (some ⟨g, 0, none⟩) n cap) ∧
      w1.cell? ⟨x, 6, none⟩ = some (.int .i64 (adm : Int)) ∧ (∃ v, w1.cell? ⟨x, 7, none⟩ = some v) ∧ (∀ o, w1.frozen? ⟨x, o, none⟩ = false) ∧ ∀ k p, pk[k]? = some p → w1.cell? ⟨g, k * 2 + 1, none⟩ = some (.int .i64 (p.2 : Int)))
    (hU : ∀ W, Calls Tryz.prog 140 #[.int .i64 (cr : Int), .int .i64 (rate : Int), .int .i64 ((Pace.bytes (pk.take (Pace.fit pk room)) : Int) * 1000000000)] W fun e w' => e = .returned (.tuple #[.int .i64 (wait : Int), .int .i64 0]) ∧ w' = W) :
    Calls Tryz.prog 112 #[.pointer (some ⟨x, 0, none⟩), .int .i64 (q : Int), .int .i64 (ck : Int)] w fun e w' => e = .returned (.int .i64 ((ck + wait : Nat) : Int)) ∧ ∃ w1, R w1 ∧ Ch w1 w' (fun a o => a = x ∧ o = 7) ∧ w'.cell? ⟨x, 7, none⟩ = some (.int .i64 ((Pace.fit pk room : Nat) : Int)) := by
  have HA := hide hA; have HR := hide hR; have HU := hide hU; have HL := hide hlens; have HPK := hide hpk
  clear hA hR hU hlens hpk
  go_enter Tryz.func112, Tryz.ntmps112
  go_wp2_with fail
  refine (unhide HA).mono ?_
  rintro e w1 ⟨rfl, hw1⟩
  obtain ⟨h1, h2, h3, h5, h6, ⟨v7, h7⟩, hf, hg⟩ := unhide HR w1 hw1
  have HW := hide hw1
  have HG := hide hg
  have f7 := hf 7
  clear hw1 hf hg
  have hbb := fit_bytes_le pk room
  have hby : Pace.bytes (pk.take (Pace.fit pk room)) ≤ 1000000 := by rcases hroom with ⟨q1, q2⟩ | ⟨q1, q2⟩ <;> omega
  have HBY := hide hby
  clear hbb hby
  have hrm : room ≤ 1000000 := by rcases hroom with ⟨q1, q2⟩ | ⟨q1, q2⟩ <;> omega
  have hq' : q ≤ burst → (q : Int) = (room : Int) := fun h => by rcases hroom with ⟨q1, q2⟩ | ⟨q1, q2⟩ <;> omega
  have hb' : burst < q → (burst : Int) = (room : Int) := fun h => by rcases hroom with ⟨q1, q2⟩ | ⟨q1, q2⟩ <;> omega
  have HQ' := hide hq'; have HB' := hide hb'
  clear hq' hb' hroom
  go_wp2_with fail
  all_goals
    first
      | rw [unhide HQ' (by omega)]
      | rw [unhide HB' (by omega)]
    go_loopg [8] pk.length (fun gk v wr => ∃ d r, pk = d ++ r ∧ gk = r.length ∧ Pace.bytes d ≤ room ∧ v = .int .i64 (Pace.bytes d : Int) ∧ Ch w1 wr (fun a o => a = x ∧ o = 7) ∧ wr.cell? ⟨x, 7, none⟩ = some (.int .i64 (d.length : Int)))
    case atStart =>
      refine ⟨[], pk, rfl, rfl, Nat.zero_le _, rfl, ?_, by simp [cset, ↓isSome_set, h7]⟩
      repeat (first | exact Ch.refl _ _ | refine Ch.drew ?_ | refine Ch.setCell ?_ ⟨rfl, rfl⟩ _)
    case round =>
      obtain ⟨d, r, hdr, hgk, hle, hu, hC, hc7⟩ := hrel
      rw [hu]
      clear hu
      have HC := hide hC
      have c1 := (hC.cell x 1 (by omega)).trans h1
      have c3 := (hC.cell x 3 (by omega)).trans h3
      have c5 := (hC.cell x 5 (by omega)).trans h5
      have c6 := (hC.cell x 6 (by omega)).trans h6
      have g7 := (hC.fz ⟨x, 7, none⟩).trans f7
      have hgc : Hid (∀ k p, pk[k]? = some p → wr.cell? ⟨g, k * 2 + 1, none⟩ = some (.int .i64 (p.2 : Int))) := fun k p hp => (hC.cell g _ (by omega)).trans (unhide HG k p hp)
      have HGK := hide hgk; have HDR := hide hdr; have HLE := hide hle
      have hlen : d.length + r.length = adm := by rw [← unhide HPK, hdr]; simp
      clear hC hgk hdr
      cases r with
      | nil =>
        have hd : decide (d.length < adm) = false := by simp at hlen; simp; omega
        have hfit : Pace.fit pk room = d.length := by rw [unhide HDR, fit_split d [] room (unhide HLE)]; simp [Pace.fit]
        have hall : pk.take (Pace.fit pk room) = d := by rw [hfit, unhide HDR]; simp
        have HF := hide hfit; have HAl := hide hall
        clear hfit hall
        have HU2 := hide (show ∀ W, Calls Tryz.prog 140 #[.int .i64 (cr : Int), .int .i64 (rate : Int), .int .i64 ((Pace.bytes d : Int) * 1000000000)] W fun e w' => e = .returned (.tuple #[.int .i64 (wait : Int), .int .i64 0]) ∧ w' = W by
          have := unhide HU; rw [unhide HAl] at this; exact this)
        have hbd : Pace.bytes d ≤ 1000000 := by have := unhide HBY; rw [unhide HAl] at this; exact this
        have W1 := hide (wrapI (v := (Pace.bytes d : Int) * 1000000000) (by omega) (by omega))
        go_wp2_with fail
        go_quiet (fail)
        go_wp2_with fail
        go_quiet (first | (go_at_call 140; refine (unhide HU2 _).mono ?_; rintro e w'' ⟨rfl, rfl⟩; exact ⟨rfl, _, rfl⟩))
        go_wp2_with fail
        go_ret
        refine ⟨by congr 2, w1, unhide HW, ?_, ?_⟩
        · repeat (first | exact unhide HC | refine Ch.drewN ?_ _ | refine Ch.drew ?_)
        · rw [unhide HF]; exact hc7
      | cons p r =>
        have hd : (d.length : Int) < (adm : Int) := by simp at hlen; omega
        have hd0 : (0 : Int) ≤ (d.length : Int) := by omega
        have hdn : (d.length : Int) < (n : Int) := by omega
        have hpc := unhide hgc d.length p (by rw [unhide HDR]; simp)
        have hpl := unhide HL p (by rw [unhide HDR]; simp)
        by_cases hr : Pace.bytes d + p.2 ≤ room
        · have hr' : (Pace.bytes d : Int) + (p.2 : Int) ≤ (room : Int) := by omega
          go_wp2_with fail
          go_quiet (fail)
          go_wp2_with fail
          go_quiet (fail)
          go_wp2_with fail
          go_roundg r.length
          case measure => rw [unhide HGK]; simp
          case rel =>
            refine ⟨d ++ [p], r, by rw [unhide HDR]; simp, rfl, by rw [Pace.bytes_append]; simpa [Pace.bytes] using hr, ?_, ?_, ?_⟩
            · rw [Pace.bytes_append]; simp [Pace.bytes]
            · repeat (first | exact unhide HC | refine Ch.drewN ?_ _ | refine Ch.drew ?_ | refine Ch.setCell ?_ ⟨rfl, rfl⟩ _)
            · simp [cset, ↓isSome_set, hc7]
        · have hr' : decide ((Pace.bytes d : Int) + (p.2 : Int) ≤ (room : Int)) = false := by simp; omega
          have hfit : Pace.fit pk room = d.length := by rw [unhide HDR, fit_split d (p :: r) room (unhide HLE), Pace.fit, if_neg (by omega)]; rfl
          have hall : pk.take (Pace.fit pk room) = d := by rw [hfit, unhide HDR]; simp
          have HF := hide hfit; have HAl := hide hall
          clear hfit hall
          have HU2 := hide (show ∀ W, Calls Tryz.prog 140 #[.int .i64 (cr : Int), .int .i64 (rate : Int), .int .i64 ((Pace.bytes d : Int) * 1000000000)] W fun e w' => e = .returned (.tuple #[.int .i64 (wait : Int), .int .i64 0]) ∧ w' = W by
            have := unhide HU; rw [unhide HAl] at this; exact this)
          have hbd : Pace.bytes d ≤ 1000000 := by have := unhide HBY; rw [unhide HAl] at this; exact this
          have W1 := hide (wrapI (v := (Pace.bytes d : Int) * 1000000000) (by omega) (by omega))
          go_wp2_with fail
          go_quiet (fail)
          go_wp2_with fail
          go_quiet (first | (go_at_call 140; refine (unhide HU2 _).mono ?_; rintro e w'' ⟨rfl, rfl⟩; exact ⟨rfl, _, rfl⟩))
          go_wp2_with fail
          go_ret
          refine ⟨by congr 2, w1, unhide HW, ?_, ?_⟩
          · repeat (first | exact unhide HC | refine Ch.drewN ?_ _ | refine Ch.drew ?_)
          · rw [unhide HF]; exact hc7
end Go.Proofs.YtogdekjklbbbiaaGreatDoor

namespace Go.Proofs.YtogdekjklbbbiaaGreatDoor
open Go.ChangeShapes Go.WideShapes Go.ChangeAt Go.RowKit
set_option linter.unusedSimpArgs false
set_option linter.unusedVariables false

set_option maxHeartbeats 1000000 in
theorem parm_walk (b x wb : Nat) (num q ck at' adm rate : Int) (w : World) (R R2 Post : World → Prop)
    (hS0 : w.cell? ⟨b, 5, none⟩ = some (.pointer (some ⟨wb, 0, none⟩)) ∧ w.cell? ⟨x, 0, none⟩ = some (.int .i64 num) ∧ w.cell? ⟨b, 0, none⟩ = some (.int .i64 q) ∧ w.cell? ⟨b, 1, none⟩ = some (.int .i64 ck))
    (hS : ∀ W, (R W ∨ R2 W ∨ Post W) → W.cell? ⟨b, 5, none⟩ = some (.pointer (some ⟨wb, 0, none⟩)) ∧ W.cell? ⟨x, 0, none⟩ = some (.int .i64 num) ∧ W.cell? ⟨b, 0, none⟩ = some (.int .i64 q) ∧ W.cell? ⟨b, 1, none⟩ = some (.int .i64 ck))
    (hC : ∀ n, Calls Tryz.prog 83 #[.pointer (some ⟨wb, 0, none⟩), .int .i64 num] (w.drewN n) fun e w' => ∃ v : Int, e = .returned (.int .i64 v) ∧ R w')
    (hR : ∀ w1, R w1 → w1.cell? ⟨x, 6, none⟩ = some (.int .i64 adm) ∧ w1.cell? ⟨x, 1, none⟩ = some (.int .i64 rate))
    (hN : ¬ (0 < adm ∧ 0 < rate) → ∀ w1, R w1 → Post w1)
    (hA : 0 < adm ∧ 0 < rate → ∀ w1, R w1 → ∀ n, Calls Tryz.prog 112 #[.pointer (some ⟨x, 0, none⟩), .int .i64 q, .int .i64 ck] (w1.drewN n) fun e w' => e = .returned (.int .i64 at') ∧ R2 w')
    (hI : 0 < adm ∧ 0 < rate → ∀ w2, R2 w2 → Calls Tryz.prog 111 #[.pointer (some ⟨wb, 0, none⟩), .int .i64 num, .int .i64 at'] w2 fun e w' => ∃ v : Int, e = .returned (.int .i64 v) ∧ Post w') :
    Calls Tryz.prog 64 #[.pointer (some ⟨b, 0, none⟩), .pointer (some ⟨x, 0, none⟩)] w fun e w' => e = .returned (.tuple #[]) ∧ Post w' := by
  have HS := hide hS; have HC := hide hC; have HR := hide hR; have HN := hide hN; have HA := hide hA; have HI := hide hI
  clear hS hC hR hN hA hI
  go_enter Tryz.func64, Tryz.ntmps64
  go_wp2_with fail
  go_region_held3 (fun W => W.cell? ⟨b, 5, none⟩ = some (.pointer (some ⟨wb, 0, none⟩)) ∧ W.cell? ⟨x, 0, none⟩ = some (.int .i64 num) ∧ W.cell? ⟨b, 0, none⟩ = some (.int .i64 q) ∧ W.cell? ⟨b, 1, none⟩ = some (.int .i64 ck)) (first | exact hS0 | exact hS1)
    (first | (go_at_call 83; refine (unhide HC 1).mono ?_; rintro e w1 ⟨v, rfl, hw1⟩; have HW1 := hide hw1; have hS1 := unhide HS _ (.inl hw1); clear hw1))
  all_goals
    obtain ⟨h6, h1⟩ := unhide HR _ (unhide HW1)
    by_cases ha : 0 < adm
    · by_cases hr : 0 < rate
      · have HA1 := hide (unhide HA ⟨ha, hr⟩ _ (unhide HW1) 1)
        have HI1 := hide (unhide HI ⟨ha, hr⟩)
        go_wp2_with fail
        go_region_held3 (fun W => W.cell? ⟨b, 5, none⟩ = some (.pointer (some ⟨wb, 0, none⟩)) ∧ W.cell? ⟨x, 0, none⟩ = some (.int .i64 num) ∧ W.cell? ⟨b, 0, none⟩ = some (.int .i64 q) ∧ W.cell? ⟨b, 1, none⟩ = some (.int .i64 ck)) (first | exact hS1 | exact hS2 | exact hS3)
          (first
            | (go_at_call 112; refine (unhide HA1).mono ?_; rintro e w2 ⟨rfl, hw2⟩; have HW2 := hide hw2; have hS2 := unhide HS _ (.inr (.inl hw2)); clear hw2)
            | (go_at_call 111; refine (unhide HI1 _ (unhide HW2)).mono ?_; rintro e w3 ⟨v3, rfl, hw3⟩; have HW3 := hide hw3; have hS3 := unhide HS _ (.inr (.inr hw3)); clear hw3))
        all_goals go_wp2_with fail
        all_goals go_end0
        all_goals exact ⟨rfl, unhide HW3⟩
      · have hr' : decide (0 < rate) = false := by simp; omega
        have HP := hide (unhide HN (by omega) _ (unhide HW1))
        go_wp2_with fail
        go_end0
        exact ⟨rfl, unhide HP⟩
    · have ha' : decide (0 < adm) = false := by simp; omega
      have HP := hide (unhide HN (by omega) _ (unhide HW1))
      go_wp2_with fail
      go_end0
      exact ⟨rfl, unhide HP⟩
end Go.Proofs.YtogdekjklbbbiaaGreatDoor

namespace Go.Proofs.YtogdekjklbbbiaaGreatDoor
open Go.ChangeShapes Go.WideShapes Go.ChangeAt Go.RowKit
set_option linter.unusedSimpArgs false
set_option linter.unusedVariables false

theorem cells5 {W : World} {z : Nat} {v0 v1 v2 v3 v4 : Value} {t : TypeId} (h : W.heap[z]? = some (.cells #[v0, v1, v2, v3, v4] t)) :
    W.cell? ⟨z, 2, none⟩ = some v2 ∧ W.cell? ⟨z, 3, none⟩ = some v3 ∧ W.cell? ⟨z, 4, none⟩ = some v4 := by
  refine ⟨?_, ?_, ?_⟩ <;> simp [World.cell?, h]
theorem old_cell {w : World} {a : Addr} {v : Value} (h : w.cell? a = some v) (o : Obj) : (w.alloc o).cell? a = some v := World.grownBy.cell (World.grownBy_alloc w o none) h (by simp)
set_option maxHeartbeats 1000000 in
theorem admit_walk (b n : Nat) (ck : Int) (pv : Value) (w : World) (kd r bu l : Nat → Int) (x : Nat → Nat) (R R1 : Nat → World → Prop) (hn : n < 9000000000000000000)
    (h0 : R 0 w) (h4 : w.cell? ⟨b, 4, none⟩ = some pv) (a3 : Option Addr) (cap3 : Nat) (hpv : pv = .slice a3 n cap3)
    (hcell : ∀ k wr, R k wr → k < n → ∃ g, a3 = some ⟨g, 0, none⟩ ∧ wr.cell? ⟨g, k * 5, none⟩ = some (.int .i64 (kd k)) ∧ wr.cell? ⟨g, k * 5 + 1, none⟩ = some (.pointer (some ⟨x k, 0, none⟩)) ∧ wr.cell? ⟨g, k * 5 + 2, none⟩ = some (.int .i64 (r k)) ∧
      wr.cell? ⟨g, k * 5 + 3, none⟩ = some (.int .i64 (bu k)) ∧ wr.cell? ⟨g, k * 5 + 4, none⟩ = some (.int .i64 (l k)))
    (hck : ∀ k wr, R k wr → wr.cell? ⟨b, 1, none⟩ = some (.int .i64 ck))
    (hkd : ∀ k, k < n → kd k = 0 ∨ kd k = 1 ∨ kd k = 2)
    (hAdd : ∀ k wr o m, R k wr → k < n → kd k = 0 → Calls Tryz.prog 62 #[.pointer (some ⟨x k, 0, none⟩), .int .i64 (r k), .int .i64 (bu k), .int .i64 ck] ((wr.alloc o).drewN m) fun e w' => e = .returned (.tuple #[]) ∧ R (k + 1) w' ∧ w'.heap[wr.heap.size]? = some o)
    (hSet : ∀ k wr o m, R k wr → k < n → kd k = 1 → Calls Tryz.prog 63 #[.pointer (some ⟨x k, 0, none⟩), .int .i64 (r k), .int .i64 (bu k), .int .i64 (l k), .int .i64 ck] ((wr.alloc o).drewN m) fun e w' => e = .returned (.tuple #[]) ∧ R1 k w' ∧ w'.cell? ⟨b, 1, none⟩ = some (.int .i64 ck) ∧ w'.heap[wr.heap.size]? = some o)
    (hArm : ∀ k wr, R1 k wr → k < n → Calls Tryz.prog 64 #[.pointer (some ⟨b, 0, none⟩), .pointer (some ⟨x k, 0, none⟩)] wr fun e w' => e = .returned (.tuple #[]) ∧ R (k + 1) w')
    (hEnq : ∀ k wr o, R k wr → k < n → kd k = 2 → ∃ a : Nat, a < 100 ∧ (wr.alloc o).cell? ⟨x k, 6, none⟩ = some (.int .i64 (a : Int)) ∧ (wr.alloc o).frozen? ⟨x k, 6, none⟩ = false ∧
      (a = 0 → Calls Tryz.prog 64 #[.pointer (some ⟨b, 0, none⟩), .pointer (some ⟨x k, 0, none⟩)] ((wr.alloc o).setCell ⟨x k, 6, none⟩ (.int .i64 ((a : Int) + 1))) fun e w' => e = .returned (.tuple #[]) ∧ R (k + 1) w') ∧
      (a ≠ 0 → R (k + 1) ((wr.alloc o).setCell ⟨x k, 6, none⟩ (.int .i64 ((a : Int) + 1)))))
    (hEnd : ∀ wr, R n wr → (∃ v, wr.cell? ⟨b, 4, none⟩ = some v) ∧ wr.frozen? ⟨b, 4, none⟩ = false) :
    Calls Tryz.prog 24 #[.pointer (some ⟨b, 0, none⟩)] w fun e w' => e = .returned (.tuple #[]) ∧ ∃ wr, R n wr ∧ w' = wr.setCell ⟨b, 4, none⟩ (.slice none 0 0) := by
  have H0 := hide h0; have HCe := hide hcell; have HCk := hide hck; have HKd := hide hkd; have HAdd := hide hAdd; have HSet := hide hSet; have HArm := hide hArm; have HEnq := hide hEnq; have HEnd := hide hEnd
  clear h0 hcell hck hkd hAdd hSet hArm hEnq hEnd
  rw [hpv] at h4
  go_enter Tryz.func24, Tryz.ntmps24
  go_wp2_with fail
  go_loopg [10] n (fun gk i wr => ∃ k : Nat, i = .int .i64 (k : Int) ∧ gk = n - k ∧ k ≤ n ∧ R k wr)
  case atStart => exact ⟨0, rfl, rfl, Nat.zero_le _, unhide H0⟩
  case round =>
    obtain ⟨k, hu, hgk, hkn, hR⟩ := hrel
    rw [hu]
    clear hu
    have HR := hide hR; have HGK := hide hgk
    clear hR hgk
    by_cases hk : k < n
    · have hki : (k : Int) < (n : Int) := by omega
      have hk0 : (0 : Int) ≤ (k : Int) := by omega
      obtain ⟨g, ha3, c0, c1, c2, c3, c4⟩ := unhide HCe k wr (unhide HR) hk
      have hck := unhide HCk k wr (unhide HR)
      generalize hkd : kd k = kdk at c0
      generalize hrk : r k = rk at c2
      generalize hbk : bu k = bk at c3
      generalize hlk : l k = lk at c4
      generalize hxk : x k = xk at c1
      subst ha3
      have hcases : kdk = 0 ∨ kdk = 1 ∨ kdk = 2 := by rw [← hkd]; exact unhide HKd k hk
      have HE := hide (And.intro hkd (And.intro hrk (And.intro hbk (And.intro hlk hxk))))
      clear hkd hrk hbk hlk hxk
      rcases hcases with rfl | rfl | rfl
      · have HC := hide (show Calls Tryz.prog 62 #[.pointer (some ⟨xk, 0, none⟩), .int .i64 rk, .int .i64 bk, .int .i64 ck] ((wr.alloc (.cells #[.int .i64 0, .pointer (some ⟨xk, 0, none⟩), .int .i64 rk, .int .i64 bk, .int .i64 lk] 161)).drewN 1) (fun e w' => e = .returned (.tuple #[]) ∧ R (k + 1) w' ∧ w'.heap[wr.heap.size]? = some (.cells #[.int .i64 0, .pointer (some ⟨xk, 0, none⟩), .int .i64 rk, .int .i64 bk, .int .i64 lk] 161)) by
          obtain ⟨e1, e2, e3, e4, e5⟩ := unhide HE
          have := unhide HAdd k wr (.cells #[.int .i64 0, .pointer (some ⟨xk, 0, none⟩), .int .i64 rk, .int .i64 bk, .int .i64 lk] 161) 1 (unhide HR) hk e1
          rw [e5, e2, e3] at this
          exact this)
        have hS0 : (wr.alloc (.cells #[.int .i64 0, .pointer (some ⟨xk, 0, none⟩), .int .i64 rk, .int .i64 bk, .int .i64 lk] 161)).cell? ⟨wr.heap.size, 2, none⟩ = some (.int .i64 rk) ∧ (wr.alloc (.cells #[.int .i64 0, .pointer (some ⟨xk, 0, none⟩), .int .i64 rk, .int .i64 bk, .int .i64 lk] 161)).cell? ⟨wr.heap.size, 3, none⟩ = some (.int .i64 bk) ∧ (wr.alloc (.cells #[.int .i64 0, .pointer (some ⟨xk, 0, none⟩), .int .i64 rk, .int .i64 bk, .int .i64 lk] 161)).cell? ⟨b, 1, none⟩ = some (.int .i64 ck) :=
          ⟨(cells5 (heap_alloc_new _ _)).1, (cells5 (heap_alloc_new _ _)).2.1, old_cell hck _⟩
        go_wp2_with fail
        go_region_held3 (fun W => W.cell? ⟨wr.heap.size, 2, none⟩ = some (.int .i64 rk) ∧ W.cell? ⟨wr.heap.size, 3, none⟩ = some (.int .i64 bk) ∧ W.cell? ⟨b, 1, none⟩ = some (.int .i64 ck)) (first | exact hS0 | exact hS1)
          (first | (go_at_call 62; refine (unhide HC).mono ?_; rintro e w1 ⟨rfl, hw1, hh1⟩; have HW1 := hide hw1; have hS1 := (And.intro (cells5 hh1).1 (And.intro (cells5 hh1).2.1 (unhide HCk _ _ hw1))); clear hw1 hh1))
        all_goals go_wp2_with fail
        all_goals
          go_roundg (n - (k + 1))
          case measure => rw [unhide HGK]; omega
          case rel => exact ⟨k + 1, by go_num, rfl, by omega, unhide HW1⟩
      · have HC := hide (show Calls Tryz.prog 63 #[.pointer (some ⟨xk, 0, none⟩), .int .i64 rk, .int .i64 bk, .int .i64 lk, .int .i64 ck] ((wr.alloc (.cells #[.int .i64 1, .pointer (some ⟨xk, 0, none⟩), .int .i64 rk, .int .i64 bk, .int .i64 lk] 161)).drewN 1) (fun e w' => e = .returned (.tuple #[]) ∧ R1 k w' ∧ w'.cell? ⟨b, 1, none⟩ = some (.int .i64 ck) ∧ w'.heap[wr.heap.size]? = some (.cells #[.int .i64 1, .pointer (some ⟨xk, 0, none⟩), .int .i64 rk, .int .i64 bk, .int .i64 lk] 161)) by
          obtain ⟨e1, e2, e3, e4, e5⟩ := unhide HE
          have := unhide HSet k wr (.cells #[.int .i64 1, .pointer (some ⟨xk, 0, none⟩), .int .i64 rk, .int .i64 bk, .int .i64 lk] 161) 1 (unhide HR) hk e1
          rw [e5, e2, e3, e4] at this
          exact this)
        have HAr := hide (show ∀ W, R1 k W → Calls Tryz.prog 64 #[.pointer (some ⟨b, 0, none⟩), .pointer (some ⟨xk, 0, none⟩)] W (fun e w' => e = .returned (.tuple #[]) ∧ R (k + 1) w') by
          intro W hW
          have := unhide HArm k W hW hk
          rw [(unhide HE).2.2.2.2] at this
          exact this)
        have hS0 : (wr.alloc (.cells #[.int .i64 1, .pointer (some ⟨xk, 0, none⟩), .int .i64 rk, .int .i64 bk, .int .i64 lk] 161)).cell? ⟨wr.heap.size, 2, none⟩ = some (.int .i64 rk) ∧ (wr.alloc (.cells #[.int .i64 1, .pointer (some ⟨xk, 0, none⟩), .int .i64 rk, .int .i64 bk, .int .i64 lk] 161)).cell? ⟨wr.heap.size, 3, none⟩ = some (.int .i64 bk) ∧ (wr.alloc (.cells #[.int .i64 1, .pointer (some ⟨xk, 0, none⟩), .int .i64 rk, .int .i64 bk, .int .i64 lk] 161)).cell? ⟨wr.heap.size, 4, none⟩ = some (.int .i64 lk) ∧ (wr.alloc (.cells #[.int .i64 1, .pointer (some ⟨xk, 0, none⟩), .int .i64 rk, .int .i64 bk, .int .i64 lk] 161)).cell? ⟨b, 1, none⟩ = some (.int .i64 ck) :=
          ⟨(cells5 (heap_alloc_new _ _)).1, (cells5 (heap_alloc_new _ _)).2.1, (cells5 (heap_alloc_new _ _)).2.2, old_cell hck _⟩
        go_wp2_with fail
        go_region_held3 (fun W => W.cell? ⟨wr.heap.size, 2, none⟩ = some (.int .i64 rk) ∧ W.cell? ⟨wr.heap.size, 3, none⟩ = some (.int .i64 bk) ∧ W.cell? ⟨wr.heap.size, 4, none⟩ = some (.int .i64 lk) ∧ W.cell? ⟨b, 1, none⟩ = some (.int .i64 ck)) (first | exact hS0 | exact hS1)
          (first | (go_at_call 63; refine (unhide HC).mono ?_; rintro e w1 ⟨rfl, hw1, hb1, hh1⟩; have HW1 := hide hw1; have hS1 := (And.intro (cells5 hh1).1 (And.intro (cells5 hh1).2.1 (And.intro (cells5 hh1).2.2 hb1))); clear hw1 hh1))
        all_goals go_wp2_with fail
        all_goals
          refine (unhide HAr _ (unhide HW1)).mono ?_
          rintro e w2 ⟨rfl, hw2⟩
          have HW2 := hide hw2
          clear hw2
          go_wp2_with fail
          go_roundg (n - (k + 1))
          case measure => rw [unhide HGK]; omega
          case rel => exact ⟨k + 1, by go_num, rfl, by omega, unhide HW2⟩
      · obtain ⟨a, ha, hca, hfa, hz, hnz⟩ := unhide HEnq k wr (.cells #[.int .i64 2, .pointer (some ⟨xk, 0, none⟩), .int .i64 rk, .int .i64 bk, .int .i64 lk] 161) (unhide HR) hk (unhide HE).1
        rw [(unhide HE).2.2.2.2] at hca hfa hz hnz
        have HZ := hide hz; have HNZ := hide hnz
        clear hz hnz
        by_cases h0 : a = 0
        · have ha1 : (a : Int) + 1 = 1 := by omega
          have hz1 := unhide HZ h0
          rw [ha1] at hz1
          have HZ1 := hide hz1
          clear hz1
          go_wp2_with fail
          all_goals
            refine (unhide HZ1).mono ?_
            rintro e w2 ⟨rfl, hw2⟩
            have HW2 := hide hw2
            clear hw2
            go_wp2_with fail
            go_roundg (n - (k + 1))
            case measure => rw [unhide HGK]; omega
            case rel => exact ⟨k + 1, by go_num, rfl, by omega, unhide HW2⟩
        · have ha1 : ((a : Int) + 1 == 1) = false := by simp; omega
          have HNZ1 := hide (unhide HNZ h0)
          go_wp2_with fail
          all_goals
            go_roundg (n - (k + 1))
            case measure => rw [unhide HGK]; omega
            case rel => exact ⟨k + 1, by go_num, rfl, by omega, unhide HNZ1⟩
    · have hki : (k : Int) = (n : Int) := by omega
      obtain ⟨⟨v, hv⟩, hf⟩ := unhide HEnd wr (by have := unhide HR; rwa [show k = n by omega] at this)
      go_wp2_with fail
      go_end0
      exact ⟨rfl, wr, by have := unhide HR; rwa [show k = n by omega] at this, rfl⟩
end Go.Proofs.YtogdekjklbbbiaaGreatDoor
