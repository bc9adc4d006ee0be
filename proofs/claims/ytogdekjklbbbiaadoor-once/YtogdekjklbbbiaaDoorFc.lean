import Derived.Test.YtogdekjklbbbiaaDoorFb
set_option maxRecDepth 100000
namespace Go.Proofs.YtogdekjklbbbiaaDoor
open Go.ChangeShapes Go.WideShapes Go.ChangeAt Go.RowKit
set_option linter.unusedSimpArgs false
set_option linter.unusedVariables false

theorem fit_split (d : List (Int × Nat)) : ∀ (r : List (Int × Nat)) (room : Nat), Pace.bytes d ≤ room → Pace.fit (d ++ r) room = d.length + Pace.fit r (room - Pace.bytes d) := by
  induction d with
  | nil => intro r room _; simp [Pace.bytes]
  | cons p d ih =>
    intro r room h
    have hb : Pace.bytes (p :: d) = p.2 + Pace.bytes d := by simp [Pace.bytes]
    rw [hb] at h
    rw [List.cons_append, Pace.fit, if_pos (by omega), ih r (room - p.2) (by omega), hb, List.length_cons]
    rw [show room - (p.2 + Pace.bytes d) = room - p.2 - Pace.bytes d by omega]
    omega
theorem fit_bytes_le (pk : List (Int × Nat)) (room : Nat) : Pace.bytes (pk.take (Pace.fit pk room)) ≤ room := Pace.fit_bytes pk room
set_option maxHeartbeats 1000000 in
theorem farm_walk (x g cap n : Nat) (q ck rate burst cr wait adm room : Nat) (pk : List (Int × Nat)) (w : World) (R : World → Prop) (hpk : pk.length = adm) (hadm : adm ≤ n) (hn : n ≤ 8) (hlens : ∀ p ∈ pk, p.2 ≤ 1500) (hxg : g ≠ x) (hq : q ≤ 1000000) (hbu : burst ≤ 1000000)
    (hroom : (q ≤ burst ∧ room = q) ∨ (burst < q ∧ room = burst)) (hck : ck ≤ 4000000000000000000) (hwt : wait ≤ 1000000000000000)
    (hA : Calls Tryd.prog 94 #[.pointer (some ⟨x, 0, none⟩), .int .i64 (ck : Int)] w fun e w' => e = .returned (.tuple #[]) ∧ R w')
    (hR : ∀ w1, R w1 → w1.cell? ⟨x, 1, none⟩ = some (.int .i64 (rate : Int)) ∧ w1.cell? ⟨x, 2, none⟩ = some (.int .i64 (burst : Int)) ∧ w1.cell? ⟨x, 3, none⟩ = some (.int .i64 (cr : Int)) ∧ w1.cell? ⟨x, 5, none⟩ = some (.slice (some ⟨g, 0, none⟩) n cap) ∧
      w1.cell? ⟨x, 6, none⟩ = some (.int .i64 (adm : Int)) ∧ (∃ v, w1.cell? ⟨x, 7, none⟩ = some v) ∧ (∀ o, w1.frozen? ⟨x, o, none⟩ = false) ∧ ∀ k p, pk[k]? = some p → w1.cell? ⟨g, k * 2 + 1, none⟩ = some (.int .i64 (p.2 : Int)))
    (hU : ∀ W, Calls Tryd.prog 104 #[.int .i64 (cr : Int), .int .i64 (rate : Int), .int .i64 ((Pace.bytes (pk.take (Pace.fit pk room)) : Int) * 1000000000)] W fun e w' => e = .returned (.tuple #[.int .i64 (wait : Int), .int .i64 0]) ∧ w' = W) :
    Calls Tryd.prog 95 #[.pointer (some ⟨x, 0, none⟩), .int .i64 (q : Int), .int .i64 (ck : Int)] w fun e w' => e = .returned (.int .i64 ((ck + wait : Nat) : Int)) ∧ ∃ w1, R w1 ∧ Ch w1 w' (fun a o => a = x ∧ o = 7) ∧ w'.cell? ⟨x, 7, none⟩ = some (.int .i64 ((Pace.fit pk room : Nat) : Int)) := by
  have HA := hide hA; have HR := hide hR; have HU := hide hU; have HL := hide hlens; have HPK := hide hpk
  clear hA hR hU hlens hpk
  go_enter Tryd.func95, Tryd.ntmps95
  go_wp2_with fail
  refine (unhide HA).mono ?_
  rintro e w1 ⟨rfl, hw1⟩
  obtain ⟨h1, h2, h3, h5, h6, ⟨v7, h7⟩, hf, hg⟩ := unhide HR w1 hw1
  have HW := hide hw1
  have HG := hide hg
  have f7 := hf 7
  clear hw1 hf hg
  have hbb := fit_bytes_le pk room
  have hby : Pace.bytes (pk.take (Pace.fit pk room)) ≤ 1000000 := by rcases hroom with ⟨q1, q2⟩ | ⟨q1, q2⟩ <;> omega
  have HBY := hide hby
  clear hbb hby
  have hrm : room ≤ 1000000 := by rcases hroom with ⟨q1, q2⟩ | ⟨q1, q2⟩ <;> omega
  have hq' : q ≤ burst → (q : Int) = (room : Int) := fun h => by rcases hroom with ⟨q1, q2⟩ | ⟨q1, q2⟩ <;> omega
  have hb' : burst < q → (burst : Int) = (room : Int) := fun h => by rcases hroom with ⟨q1, q2⟩ | ⟨q1, q2⟩ <;> omega
  have HQ' := hide hq'; have HB' := hide hb'
  clear hq' hb' hroom
  go_wp2_with fail
  all_goals
    first
      | rw [unhide HQ' (by omega)]
      | rw [unhide HB' (by omega)]
    go_loopg [8] pk.length (fun gk v wr => ∃ d r, pk = d ++ r ∧ gk = r.length ∧ Pace.bytes d ≤ room ∧ v = .int .i64 (Pace.bytes d : Int) ∧ Ch w1 wr (fun a o => a = x ∧ o = 7) ∧ wr.cell? ⟨x, 7, none⟩ = some (.int .i64 (d.length : Int)))
    case atStart =>
      refine ⟨[], pk, rfl, rfl, Nat.zero_le _, rfl, ?_, by simp [cset, ↓isSome_set, h7]⟩
      repeat (first | exact Ch.refl _ _ | refine Ch.drew ?_ | refine Ch.setCell ?_ ⟨rfl, rfl⟩ _)
    case round =>
      obtain ⟨d, r, hdr, hgk, hle, hu, hC, hc7⟩ := hrel
      rw [hu]
      clear hu
      have HC := hide hC
      have c1 := (hC.cell x 1 (by omega)).trans h1
      have c3 := (hC.cell x 3 (by omega)).trans h3
      have c5 := (hC.cell x 5 (by omega)).trans h5
      have c6 := (hC.cell x 6 (by omega)).trans h6
      have g7 := (hC.fz ⟨x, 7, none⟩).trans f7
      have hgc : Hid (∀ k p, pk[k]? = some p → wr.cell? ⟨g, k * 2 + 1, none⟩ = some (.int .i64 (p.2 : Int))) := fun k p hp => (hC.cell g _ (by omega)).trans (unhide HG k p hp)
      have HGK := hide hgk; have HDR := hide hdr; have HLE := hide hle
      have hlen : d.length + r.length = adm := by rw [← unhide HPK, hdr]; simp
      clear hC hgk hdr
      cases r with
      | nil =>
        have hd : decide (d.length < adm) = false := by simp at hlen; simp; omega
        have hfit : Pace.fit pk room = d.length := by rw [unhide HDR, fit_split d [] room (unhide HLE)]; simp [Pace.fit]
        have hall : pk.take (Pace.fit pk room) = d := by rw [hfit, unhide HDR]; simp
        have HF := hide hfit; have HAl := hide hall
        clear hfit hall
        have HU2 := hide (show ∀ W, Calls Tryd.prog 104 #[.int .i64 (cr : Int), .int .i64 (rate : Int), .int .i64 ((Pace.bytes d : Int) * 1000000000)] W fun e w' => e = .returned (.tuple #[.int .i64 (wait : Int), .int .i64 0]) ∧ w' = W by
          have := unhide HU; rw [unhide HAl] at this; exact this)
        have hbd : Pace.bytes d ≤ 1000000 := by have := unhide HBY; rw [unhide HAl] at this; exact this
        have W1 := hide (wrapI (v := (Pace.bytes d : Int) * 1000000000) (by omega) (by omega))
        go_wp2_with fail
        go_quiet (fail)
        go_wp2_with fail
        go_quiet (first | (go_at_call 104; refine (unhide HU2 _).mono ?_; rintro e w'' ⟨rfl, rfl⟩; exact ⟨rfl, _, rfl⟩))
        go_wp2_with fail
        go_ret
        refine ⟨by congr 2, w1, unhide HW, ?_, ?_⟩
        · repeat (first | exact unhide HC | refine Ch.drewN ?_ _ | refine Ch.drew ?_)
        · rw [unhide HF]; exact hc7
      | cons p r =>
        have hd : (d.length : Int) < (adm : Int) := by simp at hlen; omega
        have hd0 : (0 : Int) ≤ (d.length : Int) := by omega
        have hdn : (d.length : Int) < (n : Int) := by omega
        have hpc := unhide hgc d.length p (by rw [unhide HDR]; simp)
        have hpl := unhide HL p (by rw [unhide HDR]; simp)
        by_cases hr : Pace.bytes d + p.2 ≤ room
        · have hr' : (Pace.bytes d : Int) + (p.2 : Int) ≤ (room : Int) := by omega
          go_wp2_with fail
          go_quiet (fail)
          go_wp2_with fail
          go_quiet (fail)
          go_wp2_with fail
          go_roundg r.length
          case measure => rw [unhide HGK]; simp
          case rel =>
            refine ⟨d ++ [p], r, by rw [unhide HDR]; simp, rfl, by rw [Pace.bytes_append]; simpa [Pace.bytes] using hr, ?_, ?_, ?_⟩
            · rw [Pace.bytes_append]; simp [Pace.bytes]
            · repeat (first | exact unhide HC | refine Ch.drewN ?_ _ | refine Ch.drew ?_ | refine Ch.setCell ?_ ⟨rfl, rfl⟩ _)
            · simp [cset, ↓isSome_set, hc7]
        · have hr' : decide ((Pace.bytes d : Int) + (p.2 : Int) ≤ (room : Int)) = false := by simp; omega
          have hfit : Pace.fit pk room = d.length := by rw [unhide HDR, fit_split d (p :: r) room (unhide HLE), Pace.fit, if_neg (by omega)]; rfl
          have hall : pk.take (Pace.fit pk room) = d := by rw [hfit, unhide HDR]; simp
          have HF := hide hfit; have HAl := hide hall
          clear hfit hall
          have HU2 := hide (show ∀ W, Calls Tryd.prog 104 #[.int .i64 (cr : Int), .int .i64 (rate : Int), .int .i64 ((Pace.bytes d : Int) * 1000000000)] W fun e w' => e = .returned (.tuple #[.int .i64 (wait : Int), .int .i64 0]) ∧ w' = W by
            have := unhide HU; rw [unhide HAl] at this; exact this)
          have hbd : Pace.bytes d ≤ 1000000 := by have := unhide HBY; rw [unhide HAl] at this; exact this
          have W1 := hide (wrapI (v := (Pace.bytes d : Int) * 1000000000) (by omega) (by omega))
          go_wp2_with fail
          go_quiet (fail)
          go_wp2_with fail
          go_quiet (first | (go_at_call 104; refine (unhide HU2 _).mono ?_; rintro e w'' ⟨rfl, rfl⟩; exact ⟨rfl, _, rfl⟩))
          go_wp2_with fail
          go_ret
          refine ⟨by congr 2, w1, unhide HW, ?_, ?_⟩
          · repeat (first | exact unhide HC | refine Ch.drewN ?_ _ | refine Ch.drew ?_)
          · rw [unhide HF]; exact hc7
end Go.Proofs.YtogdekjklbbbiaaDoor
