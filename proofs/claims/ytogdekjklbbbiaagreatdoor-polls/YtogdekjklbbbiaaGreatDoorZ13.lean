import Derived.Test.YtogdekjklbbbiaaGreatDoorZ12
import Derived.Test.YtogdekjklbbbiaaGreatDoorZ11
import Derived.Deep.QuietTactic
import Derived.Deep.RegionHeld3
set_option maxRecDepth 100000
namespace Go.Proofs.YtogdekjklbbbiaaGreatDoor
open Go.ChangeShapes Go.WideShapes Go.ChangeAt Go.RowKit
set_option linter.unusedSimpArgs false
set_option linter.unusedVariables false

/-- How a release ends. -/
def RelEnd (wr w' : World) (b L s0 np : Nat) (v : Value) : Prop := Ch wr w' (fun a o => a = b ∧ o = 8) ∧ w'.cell? ⟨b, 8, none⟩ = some (.int .i64 ((s0 + np : Nat) : Int)) ∧ wr.cell? ⟨L, 0, none⟩ = some v
set_option maxHeartbeats 2000000 in
theorem release_walk (b wb : Nat) (ck budget : Int) (w : World) (R0 : World → Prop) (R : Nat → Nat → Nat → World → Prop) (R1 : Nat → Nat → Nat → Nat → Nat → World → Prop) (R2 : Nat → Nat → Nat → Nat → World → Prop) (RE : Nat → Nat → World → Prop)
    (hS0 : w.cell? ⟨b, 5, none⟩ = some (.pointer (some ⟨wb, 0, none⟩)) ∧ w.cell? ⟨b, 1, none⟩ = some (.int .i64 ck))
    (hT : ∀ m, Calls Tryz.prog 65 #[.pointer (some ⟨wb, 0, none⟩), .int .i64 ck] (w.drewN m) fun e w' => e = .returned (.tuple #[]) ∧ R0 w')
    (hS1 : ∀ w1, R0 w1 → w1.cell? ⟨b, 5, none⟩ = some (.pointer (some ⟨wb, 0, none⟩)) ∧ w1.cell? ⟨b, 1, none⟩ = some (.int .i64 ck))
    (hN : ∀ w1, R0 w1 → Calls Tryz.prog 66 #[.pointer (some ⟨b, 0, none⟩)] w1 fun e w' => ∃ L gk, e = .returned (.pointer (some ⟨L, 0, none⟩)) ∧ R L 0 gk w')
    (hc : ∀ L nb gk wr, R L nb gk wr → nb ≤ 64 ∧ (∃ a c, wr.cell? ⟨L, 0, none⟩ = some (.slice a nb c)) ∧ wr.cell? ⟨b, 5, none⟩ = some (.pointer (some ⟨wb, 0, none⟩)) ∧ wr.cell? ⟨b, 1, none⟩ = some (.int .i64 ck))
    (hF : ∀ L nb gk wr, R L nb gk wr → (nb : Int) < budget → Calls Tryz.prog 67 #[.pointer (some ⟨wb, 0, none⟩)] wr fun e w' => (e = .returned (.tuple #[.int .i64 0, .int .i64 0, .bool false]) ∧ RE L nb w') ∨ ∃ num at' : Nat, e = .returned (.tuple #[.int .i64 (num : Int), .int .i64 (at' : Int), .bool true]) ∧ R1 L nb gk num at' w')
    (hV : ∀ L nb gk num at' w2, R1 L nb gk num at' w2 → ∃ x, (Calls Tryz.prog 68 #[.pointer (some ⟨b, 0, none⟩), .int .i64 (num : Int)] w2 fun e w' => w' = w2 ∧ e = .returned (liveV (some x))) ∧ w2.cell? ⟨b, 1, none⟩ = some (.int .i64 ck) ∧
      Calls Tryz.prog 69 #[.pointer (some ⟨x, 0, none⟩), .int .i64 (at' : Int), .int .i64 ck, .pointer (some ⟨L, 0, none⟩)] w2 fun e w' => e = .returned (.tuple #[]) ∧ R2 L nb gk x w')
    (hM : ∀ L nb gk x w3, R2 L nb gk x w3 → Calls Tryz.prog 64 #[.pointer (some ⟨b, 0, none⟩), .pointer (some ⟨x, 0, none⟩)] w3 fun e w' => e = .returned (.tuple #[]) ∧ ∃ gk', gk' < gk ∧ R L (nb + 1) gk' w')
    (hB : ∀ L nb gk wr, R L nb gk wr → budget ≤ (nb : Int) → RE L nb wr)
    (hE : ∀ L nb wr, RE L nb wr → ∃ s0 np a c a1 c1, wr.cell? ⟨L, 0, none⟩ = some (.slice a nb c) ∧ wr.cell? ⟨L, 1, none⟩ = some (.slice a1 np c1) ∧ np ≤ 1000 ∧ s0 < 9000000000000000000 ∧ wr.cell? ⟨b, 8, none⟩ = some (.int .i64 ((s0 : Nat) : Int)) ∧ wr.frozen? ⟨b, 8, none⟩ = false ∧ b ≠ L) :
    Calls Tryz.prog 25 #[.pointer (some ⟨b, 0, none⟩), .int .i64 budget] w fun e w' => ∃ v, e = .returned v ∧ ∃ L nb wr s0 np a1 c1, RE L nb wr ∧ wr.cell? ⟨L, 1, none⟩ = some (.slice a1 np c1) ∧ wr.cell? ⟨b, 8, none⟩ = some (.int .i64 ((s0 : Nat) : Int)) ∧ RelEnd wr w' b L s0 np v := by
  have HT := hide hT; have HS1 := hide hS1; have HN := hide hN; have HC := hide hc; have HF := hide hF; have HV := hide hV; have HM := hide hM; have HB := hide hB; have HE := hide hE
  clear hT hS1 hN hc hF hV hM hB hE
  go_enter Tryz.func25, Tryz.ntmps25
  go_wp2_with fail
  go_region_held3 (fun W => W.cell? ⟨b, 5, none⟩ = some (.pointer (some ⟨wb, 0, none⟩)) ∧ W.cell? ⟨b, 1, none⟩ = some (.int .i64 ck)) (first | exact hS0 | exact hS1)
    (first | (go_at_call 65; refine (unhide HT 1).mono ?_; rintro e w1 ⟨rfl, hw1⟩; have HW1 := hide hw1; have hS1 := unhide HS1 _ hw1; clear hw1))
  all_goals
    go_wp2_with fail
    refine (unhide HN _ (unhide HW1)).mono ?_
    rintro e w2 ⟨L, g0, rfl, hw2⟩
    have HW2 := hide hw2
    clear hw2
    go_wp2_with fail
    go_loopg [6] g0 (fun gk p wr => ∃ nb, R L nb gk wr)
    case atStart => exact ⟨0, unhide HW2⟩
    case round =>
      obtain ⟨nb, hR⟩ := hrel
      obtain ⟨hnb, ⟨a0, c0, hL0⟩, hb5, hb1⟩ := unhide HC _ _ _ _ hR
      have HR := hide hR
      clear hR
      by_cases hbu : (nb : Int) < budget
      · have HF1 := hide (unhide HF _ _ _ _ (unhide HR) hbu)
        go_wp2_with fail
        refine (unhide HF1).mono ?_
        rintro e w3 (⟨rfl, hw3⟩ | ⟨num, at', rfl, hw3⟩)
        · have HW3 := hide hw3
          obtain ⟨s0, np, a, c, a1, c1, e0, e1, e2, e3, e4, e5, e6⟩ := unhide HE _ _ _ hw3
          clear hw3
          go_wp2_with fail
          go_region
          all_goals
            have hset0 : (w3.setCell ⟨b, 8, none⟩ (.int .i64 ((s0 : Int) + (np : Int)))).cell? ⟨L, 0, none⟩ = some (.slice a nb c) := by
              rw [World.cell?_setCell_other]
              · exact e0
              · intro q; injection q with q; exact e6 q
            go_wp2_with fail
            go_ret
            refine ⟨_, rfl, L, nb, w3, s0, np, a1, c1, unhide HW3, e1, e4, ?_, ?_, e0⟩
            · repeat (first | exact Ch.refl _ _ | refine Ch.drew ?_ | refine Ch.setCell ?_ ⟨rfl, rfl⟩ _)
            · simp [cset, ↓isSome_set, e4]
        · obtain ⟨x, hv1, hv2, hv3⟩ := unhide HV _ _ _ _ _ _ hw3
          have HV1 := hide hv1; have HV3 := hide hv3
          clear hv1 hv3 hw3
          go_wp2_with fail
          refine (unhide HV1).mono ?_
          rintro e w4 ⟨hw4, rfl⟩
          rw [hw4]
          unfold liveV
          go_wp2_with fail
          refine (unhide HV3).mono ?_
          rintro e w5 ⟨rfl, hw5⟩
          have HM1 := hide (unhide HM _ _ _ _ _ hw5)
          clear hw5
          go_wp2_with fail
          refine (unhide HM1).mono ?_
          rintro e w6 ⟨rfl, g1, hg1, hw6⟩
          have HW6 := hide hw6; have HG1 := hide hg1
          clear hw6 hg1
          go_wp2_with fail
          go_roundg g1
          case measure => exact unhide HG1
          case rel => exact ⟨nb + 1, unhide HW6⟩
      · have hbu' : decide ((nb : Int) < budget) = false := decide_eq_false hbu
        have hw3 := unhide HB _ _ _ _ (unhide HR) (by omega)
        have HW3 := hide hw3
        obtain ⟨s0, np, a, c, a1, c1, e0, e1, e2, e3, e4, e5, e6⟩ := unhide HE _ _ _ hw3
        clear hw3
        go_wp2_with fail
        go_region
        all_goals
          have hset0 : (wr.setCell ⟨b, 8, none⟩ (.int .i64 ((s0 : Int) + (np : Int)))).cell? ⟨L, 0, none⟩ = some (.slice a nb c) := by
            rw [World.cell?_setCell_other]
            · exact e0
            · intro q; injection q with q; exact e6 q
          go_wp2_with fail
          go_ret
          refine ⟨_, rfl, L, nb, wr, s0, np, a1, c1, unhide HW3, e1, e4, ?_, ?_, e0⟩
          · repeat (first | exact Ch.refl _ _ | refine Ch.drew ?_ | refine Ch.setCell ?_ ⟨rfl, rfl⟩ _)
          · simp [cset, ↓isSome_set, e4]
end Go.Proofs.YtogdekjklbbbiaaGreatDoor

namespace Go.Proofs.YtogdekjklbbbiaaGreatDoor
open Go.ChangeShapes Go.WideShapes Go.ChangeAt Go.RowKit
set_option linter.unusedSimpArgs false
set_option linter.unusedVariables false

/-- Packets as they lie in a row. -/
def PkAt (w : World) (p : Option Addr) (l : List (Int × Nat)) : Prop := ∀ j x, l[j]? = some x → ∃ g o, p = some ⟨g, o, none⟩ ∧ w.cell? ⟨g, o + j * 2, none⟩ = some (.int .i64 x.1) ∧ w.cell? ⟨g, o + j * 2 + 1, none⟩ = some (.int .i64 (x.2 : Int))
theorem PkAt.ch {w w' : World} {p : Option Addr} {l : List (Int × Nat)} (h : PkAt w p l) (hC : Ch w w' (fun _ _ => False)) : PkAt w' p l := fun j x hj => by
  obtain ⟨g, o, e, h1, h2⟩ := h j x hj
  exact ⟨g, o, e, by rw [hC.cell _ _ (fun q => q)]; exact h1, by rw [hC.cell _ _ (fun q => q)]; exact h2⟩
set_option maxHeartbeats 2000000 in
theorem packets_walk (l : List (Int × Nat)) (p q : Option Addr) (cp cq : Nat) (w : World) (hl : l.length < 1000) (hp : PkAt w p l) (hq : PkAt w q l) :
    Calls Tryz.prog 35 #[.slice p l.length cp, .slice q l.length cq] w fun e w' => e = .returned (.bool true) ∧ Ch w w' (fun _ _ => False) := by
  have HP := hide hp; have HQ := hide hq
  clear hp hq
  have hll : ((l.length : Int) != (l.length : Int)) = false := by simp
  have hll2 : (l.length != l.length) = false := by simp
  go_enter Tryz.func35, Tryz.ntmps35
  go_wp2_with fail
  go_loopg [5] l.length (fun gk i wr => ∃ k : Nat, i = .int .i64 (k : Int) ∧ gk = l.length - k ∧ k ≤ l.length ∧ Ch w wr (fun _ _ => False))
  case atStart => exact ⟨0, rfl, rfl, Nat.zero_le _, Ch.refl _ _⟩
  case round =>
    obtain ⟨k, hu, hgk, hkl, hC⟩ := hrel
    rw [hu]
    have HG := hide hgk; have HC := hide hC
    clear hu hgk hC
    by_cases hk : k < l.length
    · obtain ⟨g, o, e1, a0, a1⟩ := ((unhide HP).ch (unhide HC)) k l[k] (List.getElem?_eq_getElem hk)
      obtain ⟨g2, o2, e2, b0, b1⟩ := ((unhide HQ).ch (unhide HC)) k l[k] (List.getElem?_eq_getElem hk)
      generalize l[k] = x at a0 a1 b0 b1
      obtain ⟨tg, le⟩ := x
      simp only at a0 a1 b0 b1
      subst e1; subst e2
      have hki : (k : Int) < (l.length : Int) := by omega
      have hk0 : (0 : Int) ≤ (k : Int) := by omega
      have ht : (tg != tg) = false := by simp
      have hle : ((le : Int) != (le : Int)) = false := by simp
      have hle2 : (le != le) = false := by simp
      go_wp2_with fail
      go_quiet (fail)
      go_wp2_with fail
      go_roundg (l.length - (k + 1))
      case measure => rw [unhide HG]; omega
      case rel => exact ⟨k + 1, by go_num, rfl, by omega, (unhide HC).drewN _⟩
    · have hki : ¬ ((k : Int) < (l.length : Int)) := by omega
      have hke : k = l.length := by omega
      subst hke
      go_wp2_with fail
      go_ret
      exact ⟨rfl, unhide HC⟩
/-- Batches as they lie in a row. -/
def BtAt (w : World) (a : Option Addr) (bs : List (Nat × Nat × List (Int × Nat))) : Prop := ∀ i q, bs[i]? = some q → ∃ g o p c, a = some ⟨g, o, none⟩ ∧ w.cell? ⟨g, o + i * 3, none⟩ = some (.int .i64 (q.1 : Int)) ∧ w.cell? ⟨g, o + i * 3 + 1, none⟩ = some (.int .i64 (q.2.1 : Int)) ∧ w.cell? ⟨g, o + i * 3 + 2, none⟩ = some (.slice p q.2.2.length c) ∧ PkAt w p q.2.2
theorem BtAt.ch {w w' : World} {a : Option Addr} {bs : List (Nat × Nat × List (Int × Nat))} (h : BtAt w a bs) (hC : Ch w w' (fun _ _ => False)) : BtAt w' a bs := fun i q hi => by
  obtain ⟨g, o, p, c, e, h0, h1, h2, h3⟩ := h i q hi
  exact ⟨g, o, p, c, e, by rw [hC.cell _ _ (fun q => q)]; exact h0, by rw [hC.cell _ _ (fun q => q)]; exact h1, by rw [hC.cell _ _ (fun q => q)]; exact h2, h3.ch hC⟩
set_option maxHeartbeats 4000000 in
theorem batches_walk (bs : List (Nat × Nat × List (Int × Nat))) (a d : Option Addr) (ca cd : Nat) (w : World) (hl : bs.length < 1000) (h8 : ∀ q ∈ bs, q.2.2.length < 1000) (ha : BtAt w a bs) (hd : BtAt w d bs) :
    Calls Tryz.prog 37 #[.slice a bs.length ca, .slice d bs.length cd] w fun e w' => e = .returned (.bool true) ∧ Ch w w' (fun _ _ => False) := by
  have HA := hide ha; have HD := hide hd; have H8 := hide h8
  clear ha hd h8
  have hll : ((bs.length : Int) != (bs.length : Int)) = false := by simp
  have hll2 : (bs.length != bs.length) = false := by simp
  go_enter Tryz.func37, Tryz.ntmps37
  go_wp2_with fail
  go_loopg [5] bs.length (fun gk i wr => ∃ k : Nat, i = .int .i64 (k : Int) ∧ gk = bs.length - k ∧ k ≤ bs.length ∧ Ch w wr (fun _ _ => False))
  case atStart => exact ⟨0, rfl, rfl, Nat.zero_le _, Ch.refl _ _⟩
  case round =>
    obtain ⟨k, hu, hgk, hkl, hC⟩ := hrel
    rw [hu]
    have HG := hide hgk; have HC := hide hC
    clear hu hgk hC
    by_cases hk : k < bs.length
    · obtain ⟨g, o, p1, c1, e1, a0, a1, a2, a3⟩ := ((unhide HA).ch (unhide HC)) k bs[k] (List.getElem?_eq_getElem hk)
      obtain ⟨g2, o2, p2, c2, e2, b0, b1, b2, b3⟩ := ((unhide HD).ch (unhide HC)) k bs[k] (List.getElem?_eq_getElem hk)
      have hlen := unhide H8 _ (List.getElem_mem hk)
      generalize bs[k] = x at a0 a1 a2 a3 b0 b1 b2 b3 hlen
      obtain ⟨n, t, l⟩ := x
      simp only at a0 a1 a2 a3 b0 b1 b2 b3 hlen
      have HA3 := hide a3; have HB3 := hide b3
      subst e1; subst e2
      clear a3 b3
      have hki : (k : Int) < (bs.length : Int) := by omega
      have hk0 : (0 : Int) ≤ (k : Int) := by omega
      have ht : ((n : Int) != (n : Int)) = false := by simp
      have ht2 : (n != n) = false := by simp
      have hle : ((t : Int) != (t : Int)) = false := by simp
      have hle2 : (t != t) = false := by simp
      have HCl : Hid (∀ W : World, Ch wr W (fun _ _ => False) → Calls Tryz.prog 35 #[.slice p1 l.length c1, .slice p2 l.length c2] W fun e w' => e = .returned (.bool true) ∧ Ch W w' (fun _ _ => False)) := fun W hW => packets_walk l p1 p2 c1 c2 W hlen ((unhide HA3).ch hW) ((unhide HB3).ch hW)
      have HKS : Hid (∀ W : World, Ch wr.drew W (fun _ _ => False) → W.cell? ⟨g, o + k * 3 + 2, none⟩ = some (.slice p1 l.length c1) ∧ W.cell? ⟨g2, o2 + k * 3 + 2, none⟩ = some (.slice p2 l.length c2) ∧ Ch wr W (fun _ _ => False)) := fun W hW => ⟨by rw [hW.cell _ _ (fun q => q)]; exact a2, by rw [hW.cell _ _ (fun q => q)]; exact b2, (((Ch.refl wr (fun _ _ => False)).drew).trans hW).mono (fun _ _ q => by rcases q with q | q <;> exact q)⟩
      go_wp2_with fail
      go_region_held3 (fun W => W.cell? ⟨g, o + k * 3 + 2, none⟩ = some (.slice p1 l.length c1) ∧ W.cell? ⟨g2, o2 + k * 3 + 2, none⟩ = some (.slice p2 l.length c2) ∧ Ch wr W (fun _ _ => False)) (first | exact ⟨a2, b2, (Ch.refl wr _).drew⟩ | exact unhide HKS _ (by assumption))
        (first | (go_at_call 35; refine (unhide HCl _ ((Ch.refl wr _).drew)).mono ?_; rintro e w3 ⟨rfl, hw3⟩))
      go_wp2_with fail
      have hCw : Ch wr w3 (fun _ _ => False) := (((Ch.refl wr (fun _ _ => False)).drew).trans hw3).mono (fun _ _ q => by rcases q with q | q <;> exact q)
      rw [← hCw.cell _ _ (fun q => q)] at a0 a1 b0 b1
      have HC3 : Hid (Ch w w3 (fun _ _ => False)) := ((unhide HC).trans hCw).mono (fun _ _ q => by rcases q with q | q <;> exact q)
      clear hCw hw3 a2 b2
      go_quiet (fail)
      go_wp2_with fail
      go_roundg (bs.length - (k + 1))
      case measure => rw [unhide HG]; omega
      case rel => exact ⟨k + 1, by go_num, rfl, by omega, (unhide HC3).drewN _⟩
    · have hki : ¬ ((k : Int) < (bs.length : Int)) := by omega
      have hke : k = bs.length := by omega
      subst hke
      go_wp2_with fail
      go_ret
      exact ⟨rfl, unhide HC⟩
end Go.Proofs.YtogdekjklbbbiaaGreatDoor
