import Derived.Test.YtogdekjklbbbiaaGreatDoorZ02
import Derived.Test.YtogdekjklbbbiaaGreatDoorTimes
import Derived.Test.YtogdekjklbbbiaaGreatDoorZ03
import Derived.Deep.RegionWith
import Derived.Test.YtogdekjklbbbiaaGreatDoorZ12
import Derived.Deep.RegionHeld3
import Derived.Deep.LoopGhost
import Derived.Test.YtogdekjklbbbiaaGreatDoorZ07
set_option maxRecDepth 100000
namespace Go.Proofs.YtogdekjklbbbiaaGreatDoor
open Go.ChangeShapes Go.WideShapes Go.ChangeAt Go.RowKit

set_option maxHeartbeats 1000000 in
theorem accrueref_any (c r m t : Int) (hc : -9223372036854775808 ≤ c ∧ c < 9223372036854775808) (hr : -9223372036854775808 ≤ r ∧ r < 9223372036854775808) (hm : -9223372036854775808 ≤ m ∧ m < 9223372036854775808) (ht : -9223372036854775808 ≤ t ∧ t < 9223372036854775808) (w : World) :
    Calls Tryz.prog 144 #[.int .i64 c, .int .i64 r, .int .i64 m, .int .i64 t] w fun e w' => e = .returned (.tuple #[.int .i64 (acc c r m t), .int .i64 (accE c r m t)]) ∧ Below w.heap.size w w' := by
  obtain ⟨hc0, hc1⟩ := hc
  obtain ⟨hr0, hr1⟩ := hr
  obtain ⟨hm0, hm1⟩ := hm
  obtain ⟨ht0, ht1⟩ := ht
  by_cases h1 : c < 0
  · rw [show acc c r m t = 0 from by rw [acc, if_pos (by omega)], show accE c r m t = 1 from by rw [accE, if_pos (by omega)]]
    go_enter Tryz.func144, Tryz.ntmps144
    go_wp2
    go_ret2
    exact ⟨rfl, Below.refl _ _⟩
  by_cases h2 : r < 0
  · rw [show acc c r m t = 0 from by rw [acc, if_pos (by omega)], show accE c r m t = 1 from by rw [accE, if_pos (by omega)]]
    go_enter Tryz.func144, Tryz.ntmps144
    go_wp2
    go_ret2
    exact ⟨rfl, Below.refl _ _⟩
  by_cases h3 : m < 0
  · rw [show acc c r m t = 0 from by rw [acc, if_pos (by omega)], show accE c r m t = 1 from by rw [accE, if_pos (by omega)]]
    go_enter Tryz.func144, Tryz.ntmps144
    go_wp2
    go_ret2
    exact ⟨rfl, Below.refl _ _⟩
  by_cases h4 : t < 0
  · rw [show acc c r m t = 0 from by rw [acc, if_pos (by omega)], show accE c r m t = 1 from by rw [accE, if_pos (by omega)]]
    go_enter Tryz.func144, Tryz.ntmps144
    go_wp2
    go_ret2
    exact ⟨rfl, Below.refl _ _⟩
  by_cases h5 : m < c
  · rw [show acc c r m t = 0 from by rw [acc, if_pos (by omega)], show accE c r m t = 1 from by rw [accE, if_pos (by omega)]]
    go_enter Tryz.func144, Tryz.ntmps144
    go_wp2
    go_ret2
    exact ⟨rfl, Below.refl _ _⟩
  have hb : ¬ (c < 0 ∨ r < 0 ∨ m < 0 ∨ t < 0 ∨ m < c) := by omega
  rw [show acc c r m t = if m < c + r * t then m else c + r * t from by rw [acc, if_neg hb], show accE c r m t = 0 from by rw [accE, if_neg hb]]
  clear hb
  have hp := prodb (x := r) (y := t) 9223372036854775807 9223372036854775807 (by omega) (by omega) (by omega) (by omega)
  have HP := hide hp; clear hp
  go_enter Tryz.func144, Tryz.ntmps144
  go_wp2_with fail
  refine (times_any r t (by omega) (by omega) (by omega) (by omega) _).mono ?_
  rintro e w1 ⟨p0, p1, p2, p3, p4, rfl, hp, ⟨p00, p01⟩, ⟨p10, p11⟩, ⟨p20, p21⟩, ⟨p30, p31⟩, ⟨p40, p41⟩, hg1⟩
  have p42 : p4 < 1000 := by have := unhide HP; omega
  have HP1 := hide hp; clear hp
  go_wp2_with fail
  refine (plus_any p0 p1 p2 p3 p4 c ⟨p00, p01⟩ ⟨p10, p11⟩ ⟨p20, p21⟩ ⟨p30, p31⟩ ⟨p40, p42⟩ (by omega) (by omega) _).mono ?_
  rintro e w2 ⟨q0, q1, q2, q3, q4, rfl, hq, ⟨q00, q01⟩, ⟨q10, q11⟩, ⟨q20, q21⟩, ⟨q30, q31⟩, ⟨q40, q41⟩, hg2⟩
  have HQ := hide hq; clear hq
  go_wp2_with fail
  go_region_with (first | (go_at_call 161; refine (limbs_any m (by omega) (by omega) _).mono ?_; rintro e w' ⟨m0, m1, m2, m00, m01, m10, m11, m20, m21, hm, rfl, rfl⟩; have HM := hide hm; clear hm) | (go_at_call 160; refine (below_any m0 m1 m2 0 0 q0 q1 q2 q3 q4 (by omega) (by omega) (by omega) (by omega) (by omega) (by omega) (by omega) (by omega) _).mono ?_; rintro e w' ⟨b, rfl, hb, hg3⟩; have HB := hide hb; clear hb))
  all_goals
    have hk := unhide HB
    have hk1 := unhide HM
    have hk2 := unhide HQ
    have hk3 := unhide HP1
    have hk4 : (b = true ↔ m < c + r * t) := by rw [hk]; omega
    have hk5 := (unhide HP).1
    clear hk hk1 hk2 hk3
    have HG : Hid (Below w.heap.size w w') := by
      refine bel_trans hg1 (bel_trans hg2 (bel_trans ?_ hg3))
      repeat (with_reducible refine Below.drew ?_)
      go_grown
    cases b
    · have hk6 : c + r * t ≤ m := by simpa using hk4
      clear hk4
      go_wp2
      go_ret2
      exact ⟨rfl, unhide HG⟩
    · have hk6 : m < c + r * t := by simpa using hk4
      clear hk4
      go_wp2
      go_ret2
      exact ⟨rfl, unhide HG⟩
end Go.Proofs.YtogdekjklbbbiaaGreatDoor

namespace Go.Proofs.YtogdekjklbbbiaaGreatDoor
open Go.ChangeShapes Go.WideShapes Go.ChangeAt Go.RowKit
set_option linter.unusedSimpArgs false
set_option linter.unusedVariables false

set_option maxHeartbeats 1000000 in
theorem untilref_any (c r m : Int) (hc : -9223372036854775808 ≤ c ∧ c < 9223372036854775808) (hr : -9223372036854775808 ≤ r ∧ r < 9223372036854775808) (hm : -9223372036854775808 ≤ m ∧ m < 9223372036854775808) (w : World) :
    Calls Tryz.prog 145 #[.int .i64 c, .int .i64 r, .int .i64 m] w fun e w' => e = .returned (.tuple #[.int .i64 (unt c r m), .int .i64 (untE c r m)]) ∧ w' = w := by
  obtain ⟨hc0, hc1⟩ := hc
  obtain ⟨hr0, hr1⟩ := hr
  obtain ⟨hm0, hm1⟩ := hm
  by_cases h1 : c < 0
  · rw [show unt c r m = 0 from by rw [unt, if_pos (by omega)], show untE c r m = 1 from by rw [untE, if_pos (by omega)]]
    go_enter Tryz.func145, Tryz.ntmps145
    go_wp2
    go_ret2
    exact ⟨rfl, rfl⟩
  by_cases h2 : r < 0
  · rw [show unt c r m = 0 from by rw [unt, if_pos (by omega)], show untE c r m = 1 from by rw [untE, if_pos (by omega)]]
    go_enter Tryz.func145, Tryz.ntmps145
    go_wp2
    go_ret2
    exact ⟨rfl, rfl⟩
  by_cases h3 : m < 0
  · rw [show unt c r m = 0 from by rw [unt, if_pos (by omega)], show untE c r m = 1 from by rw [untE, if_pos (by omega)]]
    go_enter Tryz.func145, Tryz.ntmps145
    go_wp2
    go_ret2
    exact ⟨rfl, rfl⟩
  have hb : ¬ (c < 0 ∨ r < 0 ∨ m < 0) := by omega
  by_cases h4 : m ≤ c
  · rw [show unt c r m = 0 from by rw [unt, if_neg hb, if_pos h4], show untE c r m = 0 from by rw [untE, if_neg hb, if_pos h4]]
    clear hb
    go_enter Tryz.func145, Tryz.ntmps145
    go_wp2
    go_ret2
    exact ⟨rfl, rfl⟩
  by_cases h5 : r = 0
  · rw [show unt c r m = 0 from by rw [unt, if_neg hb, if_neg h4, if_pos h5], show untE c r m = 3 from by rw [untE, if_neg hb, if_neg h4, if_pos h5]]
    clear hb
    have h6 : (r == 0) = true := by simpa using h5
    clear h5
    go_enter Tryz.func145, Tryz.ntmps145
    go_wp2
    go_ret2
    exact ⟨rfl, rfl⟩
  rw [show unt c r m = (m - c - 1) / r + 1 from by rw [unt, if_neg hb, if_neg h4, if_neg h5], show untE c r m = 0 from by rw [untE, if_neg hb, if_neg h4, if_neg h5]]
  clear hb
  have h6 : (r == 0) = false := by simpa using h5
  obtain ⟨u1, u2, u3, u4, u5, u6, u7, u8⟩ := unt_up (m - c) r (by omega) (by omega)
  have U1 := hide u1; have U2 := hide u2; clear u1 u2
  have h7 : 0 < r := by omega
  have h8 : 0 ≤ c := by omega
  have h9 : c < m := by omega
  clear h5 h1 h2 h3 h4
  by_cases hlt : (m - c) / r * r < m - c
  · have u9 : (m - c) / r + 1 ≤ m - c := by rw [unhide U1 hlt]; omega
    go_enter Tryz.func145, Tryz.ntmps145
    go_wp2
    go_ret2
    exact ⟨ret2_int (unhide U1 hlt) rfl, rfl⟩
  · go_enter Tryz.func145, Tryz.ntmps145
    go_wp2
    go_ret2
    exact ⟨ret2_int (unhide U2 hlt) rfl, rfl⟩
end Go.Proofs.YtogdekjklbbbiaaGreatDoor

namespace Go.Proofs.YtogdekjklbbbiaaGreatDoor
open Go.ChangeShapes Go.WideShapes Go.ChangeAt Go.RowKit
set_option linter.unusedSimpArgs false
set_option linter.unusedVariables false

theorem belR {w w' : World} (h : Below w.heap.size w w') {b o : Nat} {v : Value} (hc : w.cell? ⟨b, o, none⟩ = some v) : w'.cell? ⟨b, o, none⟩ = some v :=
  (Below.cell h (World.block_lt_of_cell? _ _ hc)).trans hc
set_option maxHeartbeats 2000000 in
theorem raccrue_walk (b x cr ra bu ls ck : Nat) (w : World) (hra : ra ≤ 1000000000) (hbu : bu ≤ 1000000) (hcr : cr ≤ 1000000000000000) (hls : ls ≤ ck) (hck : ck ≤ 4000000000000000000)
    (c6 : w.cell? ⟨x, 6, none⟩ = some (.int .i64 (cr : Int))) (c1 : w.cell? ⟨x, 1, none⟩ = some (.int .i64 (ra : Int))) (c2 : w.cell? ⟨x, 2, none⟩ = some (.int .i64 (bu : Int))) (c7 : w.cell? ⟨x, 7, none⟩ = some (.int .i64 (ls : Int))) (d2 : w.cell? ⟨b, 2, none⟩ = some (.int .i64 (ck : Int)))
    (hxb : x ≠ b) (hfx : ∀ o, w.frozen? ⟨x, o, none⟩ = false) :
    Calls Tryz.prog 123 #[.pointer (some ⟨b, 0, none⟩), .pointer (some ⟨x, 0, none⟩)] w fun e w' => e = .returned (.tuple #[]) ∧ ∃ w1, Below w.heap.size w w1 ∧ w' = (w1.setCell ⟨x, 6, none⟩ (.int .i64 (acc (cr : Int) (ra : Int) ((bu : Int) * 1000000000) ((ck : Int) - (ls : Int))))).setCell ⟨x, 7, none⟩ (.int .i64 (ck : Int)) := by
  have hxl : x < w.heap.size := World.block_lt_of_cell? _ _ c6
  have hw1 : IntKind.i64.wrap ((bu : Int) * 1000000000) = (bu : Int) * 1000000000 := wrapI (by omega) (by omega)
  have hw2 : IntKind.i64.wrap ((ck : Int) - (ls : Int)) = (ck : Int) - (ls : Int) := wrapI (by omega) (by omega)
  have HA : Hid (∀ W : World, Calls Tryz.prog 144 #[.int .i64 (cr : Int), .int .i64 (ra : Int), .int .i64 ((bu : Int) * 1000000000), .int .i64 ((ck : Int) - (ls : Int))] W fun e w' => e = .returned (.tuple #[.int .i64 (acc (cr : Int) (ra : Int) ((bu : Int) * 1000000000) ((ck : Int) - (ls : Int))), .int .i64 (accE (cr : Int) (ra : Int) ((bu : Int) * 1000000000) ((ck : Int) - (ls : Int)))]) ∧ Below W.heap.size W w') :=
    fun W => accrueref_any _ _ _ _ (by omega) (by omega) (by omega) (by omega) W
  have hS0 : w.cell? ⟨x, 6, none⟩ = some (.int .i64 (cr : Int)) ∧ w.cell? ⟨x, 1, none⟩ = some (.int .i64 (ra : Int)) ∧ w.cell? ⟨x, 2, none⟩ = some (.int .i64 (bu : Int)) ∧ w.cell? ⟨b, 2, none⟩ = some (.int .i64 (ck : Int)) ∧ w.cell? ⟨x, 7, none⟩ = some (.int .i64 (ls : Int)) := ⟨c6, c1, c2, d2, c7⟩
  have HFX := hide hfx; have HXL := hide hxl
  generalize hvA : acc (cr : Int) (ra : Int) ((bu : Int) * 1000000000) ((ck : Int) - (ls : Int)) = vA at HA
  generalize accE (cr : Int) (ra : Int) ((bu : Int) * 1000000000) ((ck : Int) - (ls : Int)) = vE at HA
  clear hvA hfx hra hbu hcr hls hck hxl
  go_enter Tryz.func123, Tryz.ntmps123
  go_wp2_with fail
  go_region_held3 (fun W => W.cell? ⟨x, 6, none⟩ = some (.int .i64 (cr : Int)) ∧ W.cell? ⟨x, 1, none⟩ = some (.int .i64 (ra : Int)) ∧ W.cell? ⟨x, 2, none⟩ = some (.int .i64 (bu : Int)) ∧ W.cell? ⟨b, 2, none⟩ = some (.int .i64 (ck : Int)) ∧ W.cell? ⟨x, 7, none⟩ = some (.int .i64 (ls : Int))) (first | exact hS0 | exact hS1)
    (first | (go_at_call 144; refine (unhide HA _).mono ?_; rintro e w3 ⟨rfl, hb3⟩; have HB3 := hide hb3; have hS1 := (And.intro (belR hb3 hS0.1) (And.intro (belR hb3 hS0.2.1) (And.intro (belR hb3 hS0.2.2.1) (And.intro (belR hb3 hS0.2.2.2.1) (belR hb3 hS0.2.2.2.2))))); have z6 := (frozen_of (hb3.block x (unhide HXL)) 6).trans (unhide HFX 6); have z7 := (frozen_of (hb3.block x (unhide HXL)) 7).trans (unhide HFX 7); clear hb3))
  all_goals go_wp2_with fail
  all_goals go_end0
  all_goals exact ⟨rfl, _, (Below.refl w.heap.size w).drew.trans (unhide HB3), rfl⟩
end Go.Proofs.YtogdekjklbbbiaaGreatDoor

namespace Go.Proofs.YtogdekjklbbbiaaGreatDoor
open Go.ChangeShapes Go.WideShapes Go.ChangeAt Go.RowKit
set_option linter.unusedSimpArgs false
set_option linter.unusedVariables false

theorem bytes_next {pk : List (Int × Nat)} {i : Nat} {p : Int × Nat} (h : pk[i]? = some p) : Pace.bytes (pk.take (i + 1)) = Pace.bytes (pk.take i) + p.2 := by
  rw [List.take_add_one, h]
  simp [Pace.bytes]
theorem bytes_small {pk : List (Int × Nat)} (hl : ∀ p ∈ pk, p.2 ≤ 1500) : ∀ i, Pace.bytes (pk.take i) ≤ i * 1500
  | 0 => by simp [Pace.bytes]
  | i + 1 => by
    have ih := bytes_small hl i
    cases h : pk[i]? with
    | none =>
      have : pk.take (i + 1) = pk.take i := by rw [List.take_add_one, h]; simp
      rw [this]; omega
    | some p =>
      rw [bytes_next h]
      have := hl p (List.mem_of_getElem? h)
      omega
set_option maxHeartbeats 2000000 in
theorem rbytes_walk (x n cap : Nat) (a : Option Addr) (pk : List (Int × Nat)) (w : World) (c8 : w.cell? ⟨x, 8, none⟩ = some (.int .i64 (n : Int))) (c4 : w.cell? ⟨x, 4, none⟩ = some (.slice a pk.length cap)) (hn : n ≤ pk.length) (hk : pk.length ≤ 8) (hl : ∀ p ∈ pk, p.2 ≤ 1500)
    (hrow : ∀ i p, pk[i]? = some p → ∃ g, a = some ⟨g, 0, none⟩ ∧ w.cell? ⟨g, i * 2 + 1, none⟩ = some (.int .i64 (p.2 : Int))) :
    Calls Tryz.prog 125 #[.pointer (some ⟨x, 0, none⟩)] w fun e w' => e = .returned (.int .i64 (Pace.bytes (pk.take n) : Int)) ∧ w' = w := by
  have HL := hide hl; have HR := hide hrow
  clear hl hrow
  go_enter Tryz.func125, Tryz.ntmps125
  go_wp2_with fail
  go_loopg [3, 4] n (fun gk vs vi wr => wr = w ∧ ∃ k : Nat, vs = .int .i64 (Pace.bytes (pk.take k) : Int) ∧ vi = .int .i64 (k : Int) ∧ gk = n - k ∧ k ≤ n)
  case atStart => exact ⟨rfl, 0, rfl, rfl, rfl, Nat.zero_le _⟩
  case round =>
    obtain ⟨hwr, k, hvs, hvi, hgk, hkn⟩ := hrel
    rw [hvs, hvi, hwr]
    clear hvs hvi hwr
    by_cases hkl : k < n
    · have hki : (k : Int) < (n : Int) := by omega
      have hk0 : (0 : Int) ≤ (k : Int) := by omega
      have hkp : (k : Int) < (pk.length : Int) := by omega
      obtain ⟨g, rfl, hc⟩ := unhide HR k pk[k] (List.getElem?_eq_getElem (by omega))
      have hs := bytes_small (unhide HL) k
      have hp := unhide HL pk[k] (List.getElem_mem (by omega))
      have HB := hide (bytes_next (List.getElem?_eq_getElem (show k < pk.length by omega)))
      have HG := hide hgk
      clear hgk
      generalize pk[k].2 = pl at hc hp HB
      generalize Pace.bytes (pk.take k) = bs at hs HB
      have hw : IntKind.i64.wrap ((bs : Int) + (pl : Int)) = (bs : Int) + (pl : Int) := wrapI (by omega) (by omega)
      go_wp2_with fail
      go_roundg (n - (k + 1))
      case measure => rw [unhide HG]; omega
      case rel => exact ⟨rfl, k + 1, by rw [unhide HB]; go_num, by go_num, rfl, by omega⟩
    · have hki : ¬ (k : Int) < (n : Int) := by omega
      have hke : k = n := by omega
      have HB : Hid (Pace.bytes (pk.take k) = Pace.bytes (pk.take n)) := by rw [hke]; rfl
      clear hke hgk
      generalize Pace.bytes (pk.take k) = bs at HB
      go_wp2_with fail
      go_ret
      exact ⟨by have e := unhide HB; subst e; first | rfl | simp, rfl⟩
end Go.Proofs.YtogdekjklbbbiaaGreatDoor

namespace Go.Proofs.YtogdekjklbbbiaaGreatDoor
open Go.ChangeShapes Go.WideShapes Go.ChangeAt Go.RowKit
set_option linter.unusedSimpArgs false
set_option linter.unusedVariables false

theorem fit_at {l : List (Int × Nat)} {k most : Nat} (hk : k ≤ l.length) (hb : Pace.bytes (l.take k) ≤ most) (hs : ∀ p, l[k]? = some p → most < Pace.bytes (l.take k) + p.2) : Pace.fit l most = k := by
  have h := fit_split (l.take k) (l.drop k) most hb
  rw [List.take_append_drop, List.length_take, Nat.min_eq_left hk] at h
  rw [h]
  cases hd : l.drop k with
  | nil => simp [Pace.fit]
  | cons p r =>
    have hp : l[k]? = some p := by
      have := congrArg (fun z => z[0]?) hd
      simpa using this
    have := hs p hp
    rw [Pace.fit, if_neg (by omega)]
    omega
set_option maxHeartbeats 1000000 in
theorem rarm_none (b x ra ad : Nat) (w : World) (v8 : Value) (h : ra = 0 ∨ ad = 0) (c1 : w.cell? ⟨x, 1, none⟩ = some (.int .i64 (ra : Int))) (c5 : w.cell? ⟨x, 5, none⟩ = some (.int .i64 (ad : Int))) (c8 : w.cell? ⟨x, 8, none⟩ = some v8) (z8 : w.frozen? ⟨x, 8, none⟩ = false) :
    Calls Tryz.prog 124 #[.pointer (some ⟨b, 0, none⟩), .pointer (some ⟨x, 0, none⟩)] w fun e w' => e = .returned (.tuple #[]) ∧ w' = w.setCell ⟨x, 8, none⟩ (.int .i64 0) := by
  have d1 : (w.setCell ⟨x, 8, none⟩ (.int .i64 0)).cell? ⟨x, 1, none⟩ = some (.int .i64 (ra : Int)) := by
    rw [World.cell?_setCell_other]
    · exact c1
    · intro q; injection q with _ q; cases q
  have d5 : (w.setCell ⟨x, 8, none⟩ (.int .i64 0)).cell? ⟨x, 5, none⟩ = some (.int .i64 (ad : Int)) := by
    rw [World.cell?_setCell_other]
    · exact c5
    · intro q; injection q with _ q; cases q
  clear c1 c5
  by_cases hr : ra = 0
  · subst hr
    go_enter Tryz.func124, Tryz.ntmps124
    go_wp2_with fail
    go_returns
    exact ⟨rfl, rfl⟩
  · have had : ad = 0 := by omega
    have hr' : ((ra : Int) == 0) = false := by simp; omega
    have hr2 : (ra == 0) = false := by simp; omega
    subst had
    clear h
    go_enter Tryz.func124, Tryz.ntmps124
    go_wp2_with fail
    go_returns
    exact ⟨rfl, rfl⟩
end Go.Proofs.YtogdekjklbbbiaaGreatDoor
