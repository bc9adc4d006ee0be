import Derived.Test.YtogdekjklbbbiaaGreatDoorZ50
import Derived.Deep.LoopGhost
import Derived.Deep.RegionHeld3
set_option maxRecDepth 100000
namespace Go.Proofs.YtogdekjklbbbiaaGreatDoor
open Go.ChangeShapes Go.WideShapes Go.ChangeAt Go.RowKit
set_option linter.unusedSimpArgs false
set_option linter.unusedVariables false

theorem cells6 {W : World} {z : Nat} {v0 v1 v2 v3 v4 v5 : Value} {t : TypeId} (h : W.heap[z]? = some (.cells #[v0, v1, v2, v3, v4, v5] t)) :
    W.cell? ⟨z, 1, none⟩ = some v1 ∧ W.cell? ⟨z, 2, none⟩ = some v2 ∧ W.cell? ⟨z, 3, none⟩ = some v3 := by
  refine ⟨?_, ?_, ?_⟩ <;> simp [World.cell?, h]
def OpV.obj (o : OpV) : Obj := .cells #[.int .i64 o.k, .int .i64 o.a, .int .i64 o.b, .int .i64 o.c, .int .i64 o.w, .slice o.sa o.sn o.sc] 47
def OpV.agg (o : OpV) : Value := .agg #[.int .i64 o.k, .int .i64 o.a, .int .i64 o.b, .int .i64 o.c, .int .i64 o.w, .slice o.sa o.sn o.sc]

theorem num_any (n : Int) (w : World) : Calls Tryz.prog 10 #[.int .i64 n] w fun e w' => e = .returned (.int .i64 n) ∧ w' = w := by
  go_enter Tryz.func10, Tryz.ntmps10
  go_wp2
  go_ret
  exact ⟨rfl, rfl⟩

set_option maxHeartbeats 4000000 in
/-- One step of a script, on a pacer and the document's. -/
theorem step_walk (a c : Nat) (kk xa xb xc xw : Int) (s1 : Option Addr) (s2 s3 : Nat) (w : World) (hk6 : kk ≤ 6) (Post : World → Prop)
    (R1 : Int → Int → World → Prop) (R2 R3 : Int → World → Prop) (R4 R5 : Value → Int → World → Prop) (G4 G5 : Value → Value → World → Prop) (R6 : Int → World → Prop)
    (hA : kk = 1 → Calls Tryz.prog 27 #[.pointer (some ⟨a, 0, none⟩), .int .i64 xa, .int .i64 xb] (w.alloc (.cells #[.int .i64 kk, .int .i64 xa, .int .i64 xb, .int .i64 xc, .int .i64 xw, .slice s1 s2 s3] 47)) fun e w' => ∃ v1 v2 : Int, e = .returned (.tuple #[.int .i64 v1, .int .i64 v2]) ∧ R1 v1 v2 w' ∧ w'.heap[w.heap.size]? = some (.cells #[.int .i64 kk, .int .i64 xa, .int .i64 xb, .int .i64 xc, .int .i64 xw, .slice s1 s2 s3] 47))
    (hA2 : ∀ v1 v2 w1, R1 v1 v2 w1 → Calls Tryz.prog 28 #[.pointer (some ⟨c, 0, none⟩), .int .i64 xa, .int .i64 xb] w1 fun e w' => e = .returned (.tuple #[.int .i64 v1, .int .i64 v2]) ∧ Post w')
    (hS : kk = 2 → Calls Tryz.prog 29 #[.pointer (some ⟨a, 0, none⟩), .int .i64 xa, .int .i64 xb, .int .i64 xc] (w.alloc (.cells #[.int .i64 kk, .int .i64 xa, .int .i64 xb, .int .i64 xc, .int .i64 xw, .slice s1 s2 s3] 47)) fun e w' => ∃ v2 : Int, e = .returned (.int .i64 v2) ∧ R2 v2 w' ∧ w'.heap[w.heap.size]? = some (.cells #[.int .i64 kk, .int .i64 xa, .int .i64 xb, .int .i64 xc, .int .i64 xw, .slice s1 s2 s3] 47))
    (hS2 : ∀ v2 w1, R2 v2 w1 → Calls Tryz.prog 30 #[.pointer (some ⟨c, 0, none⟩), .int .i64 xa, .int .i64 xb, .int .i64 xc] w1 fun e w' => e = .returned (.int .i64 v2) ∧ Post w')
    (hQ : kk = 3 → Calls Tryz.prog 31 #[.pointer (some ⟨a, 0, none⟩), .int .i64 xa, .int .i64 xb, .int .i64 xc] (w.alloc (.cells #[.int .i64 kk, .int .i64 xa, .int .i64 xb, .int .i64 xc, .int .i64 xw, .slice s1 s2 s3] 47)) fun e w' => ∃ v2 : Int, e = .returned (.int .i64 v2) ∧ R3 v2 w' ∧ w'.heap[w.heap.size]? = some (.cells #[.int .i64 kk, .int .i64 xa, .int .i64 xb, .int .i64 xc, .int .i64 xw, .slice s1 s2 s3] 47))
    (hQ2 : ∀ v2 w1, R3 v2 w1 → Calls Tryz.prog 32 #[.pointer (some ⟨c, 0, none⟩), .int .i64 xa, .int .i64 xb, .int .i64 xc] w1 fun e w' => e = .returned (.int .i64 v2) ∧ Post w')
    (hM : kk = 4 → Calls Tryz.prog 33 #[.pointer (some ⟨a, 0, none⟩), .int .i64 xa] (w.alloc (.cells #[.int .i64 kk, .int .i64 xa, .int .i64 xb, .int .i64 xc, .int .i64 xw, .slice s1 s2 s3] 47)) fun e w' => ∃ v v2, e = .returned (.tuple #[v, .int .i64 v2]) ∧ R4 v v2 w' ∧ w'.heap[w.heap.size]? = some (.cells #[.int .i64 kk, .int .i64 xa, .int .i64 xb, .int .i64 xc, .int .i64 xw, .slice s1 s2 s3] 47))
    (hM2 : ∀ v v2 w1, R4 v v2 w1 → Calls Tryz.prog 34 #[.pointer (some ⟨c, 0, none⟩), .int .i64 xa] w1 fun e w' => ∃ u, e = .returned (.tuple #[u, .int .i64 v2]) ∧ G4 v u w')
    (hM3 : ∀ v u w1, G4 v u w1 → Calls Tryz.prog 35 #[v, u] w1 fun e w' => e = .returned (.bool true) ∧ Post w')
    (hP : kk = 5 → Calls Tryz.prog 14 #[.pointer (some ⟨a, 0, none⟩), .int .i64 xa, .int .i64 xb] (w.alloc (.cells #[.int .i64 kk, .int .i64 xa, .int .i64 xb, .int .i64 xc, .int .i64 xw, .slice s1 s2 s3] 47)) fun e w' => ∃ v v2, e = .returned (.tuple #[v, .int .i64 v2]) ∧ R5 v v2 w' ∧ w'.heap[w.heap.size]? = some (.cells #[.int .i64 kk, .int .i64 xa, .int .i64 xb, .int .i64 xc, .int .i64 xw, .slice s1 s2 s3] 47))
    (hP2 : ∀ v v2 w1, R5 v v2 w1 → Calls Tryz.prog 36 #[.pointer (some ⟨c, 0, none⟩), .int .i64 xa, .int .i64 xb] w1 fun e w' => ∃ u, e = .returned (.tuple #[u, .int .i64 v2]) ∧ G5 v u w')
    (hP3 : ∀ v u w1, G5 v u w1 → Calls Tryz.prog 37 #[v, u] w1 fun e w' => e = .returned (.bool true) ∧ Post w')
    (hX : kk = 6 → Calls Tryz.prog 15 #[.pointer (some ⟨a, 0, none⟩)] (w.alloc (.cells #[.int .i64 kk, .int .i64 xa, .int .i64 xb, .int .i64 xc, .int .i64 xw, .slice s1 s2 s3] 47)) fun e w' => ∃ v2 : Int, e = .returned (.int .i64 v2) ∧ R6 v2 w')
    (hX2 : ∀ v2 w1, R6 v2 w1 → Calls Tryz.prog 38 #[.pointer (some ⟨c, 0, none⟩)] w1 fun e w' => e = .returned (.int .i64 v2) ∧ Post w')
    (hO : (¬ (1 ≤ kk ∧ kk ≤ 6)) → Post (w.alloc (.cells #[.int .i64 kk, .int .i64 xa, .int .i64 xb, .int .i64 xc, .int .i64 xw, .slice s1 s2 s3] 47))) :
    Calls Tryz.prog 18 #[.pointer (some ⟨a, 0, none⟩), .pointer (some ⟨c, 0, none⟩), .agg #[.int .i64 kk, .int .i64 xa, .int .i64 xb, .int .i64 xc, .int .i64 xw, .slice s1 s2 s3]] w fun e w' => e = .returned (.bool true) ∧ Post w' := by
  have HA := hide hA; have HA2 := hide hA2; have HS := hide hS; have HS2 := hide hS2; have HQ := hide hQ; have HQ2 := hide hQ2; have HM := hide hM; have HM2 := hide hM2; have HM3 := hide hM3; have HP := hide hP; have HP2 := hide hP2; have HP3 := hide hP3; have HX := hide hX; have HX2 := hide hX2; have HO := hide hO
  clear hA hA2 hS hS2 hQ hQ2 hM hM2 hM3 hP hP2 hP3 hX hX2 hO
  by_cases k1 : kk = 1
  · have HCall := hide (unhide HA k1)
    subst k1
    clear HA HS HQ HM HP HX HO HS2 HQ2 HM2 HM3 HP2 HP3 HX2 hk6
    go_enter Tryz.func18, Tryz.ntmps18
    go_wp2_with fail
    refine (unhide HCall).mono ?_
    rintro e w5 ⟨v1, v2, rfl, hR5, hh5⟩
    have HR5 := hide (unhide HA2 _ _ _ hR5)
    obtain ⟨d1, d2, d3⟩ := cells6 hh5
    clear hR5 HCall HA2
    go_wp2_with fail
    refine (unhide HR5).mono ?_
    rintro e w6 ⟨rfl, hp⟩
    have HPo := hide hp
    clear hp d1 d2 d3 hh5 HR5
    go_wp2_with (first | (go_at_call 10; refine (num_any _ _).mono ?_; rintro e w8 ⟨rfl, rfl⟩))
    all_goals
      go_ret
      exact ⟨rfl, unhide HPo⟩
  have j1 : (kk == 1) = false := by simp [k1]
  by_cases k2 : kk = 2
  · have HCall := hide (unhide HS k2)
    subst k2
    clear HA HS HQ HM HP HX HO HA2 HQ2 HM2 HM3 HP2 HP3 HX2 hk6
    go_enter Tryz.func18, Tryz.ntmps18
    go_wp2_with fail
    refine (unhide HCall).mono ?_
    rintro e w5 ⟨v2, rfl, hR5, hh5⟩
    have HR5 := hide (unhide HS2 _ _ hR5)
    obtain ⟨d1, d2, d3⟩ := cells6 hh5
    clear hR5 HCall HS2
    go_wp2_with fail
    refine (unhide HR5).mono ?_
    rintro e w6 ⟨rfl, hp⟩
    have HPo := hide hp
    clear hp d1 d2 d3 hh5 HR5
    go_wp2_with (first | (go_at_call 10; refine (num_any _ _).mono ?_; rintro e w8 ⟨rfl, rfl⟩))
    all_goals
      go_ret
      exact ⟨rfl, unhide HPo⟩
  have j2 : (kk == 2) = false := by simp [k2]
  by_cases k3 : kk = 3
  · have HCall := hide (unhide HQ k3)
    subst k3
    clear HA HS HQ HM HP HX HO HA2 HS2 HM2 HM3 HP2 HP3 HX2 hk6
    go_enter Tryz.func18, Tryz.ntmps18
    go_wp2_with fail
    refine (unhide HCall).mono ?_
    rintro e w5 ⟨v2, rfl, hR5, hh5⟩
    have HR5 := hide (unhide HQ2 _ _ hR5)
    obtain ⟨d1, d2, d3⟩ := cells6 hh5
    clear hR5 HCall HQ2
    go_wp2_with fail
    refine (unhide HR5).mono ?_
    rintro e w6 ⟨rfl, hp⟩
    have HPo := hide hp
    clear hp d1 d2 d3 hh5 HR5
    go_wp2_with (first | (go_at_call 10; refine (num_any _ _).mono ?_; rintro e w8 ⟨rfl, rfl⟩))
    all_goals
      go_ret
      exact ⟨rfl, unhide HPo⟩
  have j3 : (kk == 3) = false := by simp [k3]
  by_cases k4 : kk = 4
  · have HCall := hide (unhide HM k4)
    subst k4
    clear HA HS HQ HM HP HX HO HA2 HS2 HQ2 HP2 HP3 HX2 hk6
    go_enter Tryz.func18, Tryz.ntmps18
    go_wp2_with fail
    refine (unhide HCall).mono ?_
    rintro e w5 ⟨v, v2, rfl, hR5, hh5⟩
    have HR5 := hide (unhide HM2 _ _ _ hR5)
    obtain ⟨d1, d2, d3⟩ := cells6 hh5
    clear hR5 HCall HM2
    go_wp2_with fail
    refine (unhide HR5).mono ?_
    rintro e w6 ⟨u, rfl, hp⟩
    have HPo := hide (unhide HM3 _ _ _ hp)
    clear hp d1 d2 d3 hh5 HR5 HM3
    go_wp2_with fail
    refine (unhide HPo).mono ?_
    rintro e w7 ⟨rfl, hp⟩
    have HPo2 := hide hp
    clear hp HPo
    go_wp2_with (first | (go_at_call 10; refine (num_any _ _).mono ?_; rintro e w8 ⟨rfl, rfl⟩))
    all_goals
      go_ret
      exact ⟨rfl, unhide HPo2⟩
  have j4 : (kk == 4) = false := by simp [k4]
  by_cases k5 : kk = 5
  · have HCall := hide (unhide HP k5)
    subst k5
    clear HA HS HQ HM HP HX HO HA2 HS2 HQ2 HM2 HM3 HX2 hk6
    go_enter Tryz.func18, Tryz.ntmps18
    go_wp2_with fail
    refine (unhide HCall).mono ?_
    rintro e w5 ⟨v, v2, rfl, hR5, hh5⟩
    have HR5 := hide (unhide HP2 _ _ _ hR5)
    obtain ⟨d1, d2, d3⟩ := cells6 hh5
    clear hR5 HCall HP2
    go_wp2_with fail
    refine (unhide HR5).mono ?_
    rintro e w6 ⟨u, rfl, hp⟩
    have HPo := hide (unhide HP3 _ _ _ hp)
    clear hp d1 d2 d3 hh5 HR5 HP3
    go_wp2_with fail
    refine (unhide HPo).mono ?_
    rintro e w7 ⟨rfl, hp⟩
    have HPo2 := hide hp
    clear hp HPo
    go_wp2_with (first | (go_at_call 10; refine (num_any _ _).mono ?_; rintro e w8 ⟨rfl, rfl⟩))
    all_goals
      go_ret
      exact ⟨rfl, unhide HPo2⟩
  have j5 : (kk == 5) = false := by simp [k5]
  by_cases k6 : kk = 6
  · have HCall := hide (unhide HX k6)
    subst k6
    clear HA HS HQ HM HP HX HO HA2 HS2 HQ2 HM2 HM3 HP2 HP3 hk6
    go_enter Tryz.func18, Tryz.ntmps18
    go_wp2_with fail
    refine (unhide HCall).mono ?_
    rintro e w5 ⟨v2, rfl, hR5⟩
    have HR5 := hide (unhide HX2 _ _ hR5)
    clear hR5 HCall HX2
    go_wp2_with fail
    refine (unhide HR5).mono ?_
    rintro e w6 ⟨rfl, hp⟩
    have HPo := hide hp
    clear hp HR5
    go_wp2_with fail
    all_goals
      go_ret
      exact ⟨rfl, unhide HPo⟩
  have j6 : (kk == 6) = false := by simp [k6]
  have j7 : (kk == 7) = false := by simp; omega
  have j8 : (kk == 8) = false := by simp; omega
  have j9 : (kk == 9) = false := by simp; omega
  have HPo := hide (unhide HO (by omega))
  clear HA HS HQ HM HP HX HO HA2 HS2 HQ2 HM2 HM3 HP2 HP3 HX2 hk6 k1 k2 k3 k4 k5 k6
  go_enter Tryz.func18, Tryz.ntmps18
  go_wp2_with fail
  all_goals
    go_ret
    exact ⟨rfl, unhide HPo⟩
end Go.Proofs.YtogdekjklbbbiaaGreatDoor

namespace Go.Proofs.YtogdekjklbbbiaaGreatDoor
open Go.ChangeShapes Go.WideShapes Go.ChangeAt Go.RowKit
set_option linter.unusedSimpArgs false
set_option linter.unusedVariables false

theorem nextOf_eq {p : Pace.PS} {v v' : Int} (h : nextOf p v) (k : nextOf p v') : v = v' := by
  unfold nextOf at h k
  by_cases q : p.asks = []
  · rw [if_pos q] at h k
    exact LeastOf.eq h k
  · rw [if_neg q] at h k
    rw [h, k]
theorem stP1 {o : OpV} {p : Pace.PS} (h : o.k = 1) : stP o p = addP p o.a o.b := by unfold stP; rw [if_pos h]
theorem stP2 {o : OpV} {p : Pace.PS} (h : o.k = 2) : stP o p = setP p o.a o.b o.c := by unfold stP; rw [if_neg (by omega), if_pos h]
theorem stP3 {o : OpV} {p : Pace.PS} (h : o.k = 3) : stP o p = enqP p o.a o.b o.c := by unfold stP; rw [if_neg (by omega), if_neg (by omega), if_pos h]
theorem stP4 {o : OpV} {p : Pace.PS} (h : o.k = 4) : stP o p = remP p o.a := by unfold stP; rw [if_neg (by omega), if_neg (by omega), if_neg (by omega), if_pos h]
theorem stP5 {o : OpV} {p : Pace.PS} (h : o.k = 5) : stP o p = if o.a ≤ 4000000000000000000 then (p.poll o.a.toNat o.b.toNat).2 else p := by unfold stP; rw [if_neg (by omega), if_neg (by omega), if_neg (by omega), if_neg (by omega), if_pos h]
theorem stP6 {o : OpV} {p : Pace.PS} (h : ¬ (1 ≤ o.k ∧ o.k ≤ 5)) : stP o p = p := by unfold stP; rw [if_neg (by omega), if_neg (by omega), if_neg (by omega), if_neg (by omega), if_neg (by omega)]
theorem stC1 {o : OpV} {p : Pace.PS} {c : Cn} (h : o.k = 1 ∨ o.k = 2 ∨ ¬ (1 ≤ o.k ∧ o.k ≤ 5)) : stC o p c = c := by unfold stC; rw [if_neg (by omega), if_neg (by omega), if_neg (by omega)]
theorem stC3 {o : OpV} {p : Pace.PS} {c : Cn} (h : o.k = 3) : stC o p c = enqC p o.a o.c c := by unfold stC; rw [if_pos h]
theorem stC4 {o : OpV} {p : Pace.PS} {c : Cn} (h : o.k = 4) : stC o p c = { c with dropped := c.dropped + (remL p o.a).length } := by unfold stC; rw [if_neg (by omega), if_pos h]
theorem stC5 {o : OpV} {p : Pace.PS} {c : Cn} (h : o.k = 5) : stC o p c = if o.a ≤ 4000000000000000000 then { c with sent := c.sent + total (p.poll o.a.toNat o.b.toNat).1 } else c := by unfold stC; rw [if_neg (by omega), if_neg (by omega), if_pos h]
theorem batch_few {p : Pace.PS} (hI : p.Inv) {now : Nat} (hn : now ≤ 4000000000000000000) (B : Nat) : ∀ q ∈ (p.poll now B).1, q.2.2.length ≤ 8 := sent_few ((hI.pi.tick hn).admit) B

set_option maxHeartbeats 1000000 in
/-- One step of a script. -/
theorem step_any {wr : World} {O : Nat → Prop} {a c : Nat} {p : Pace.PS} {k : Nat} (h : PR wr O a c p k) (hk : k < 2200000000000) (hT : TabW wr) (o : OpV) (h6 : o.k ≤ 6) :
    Calls Tryz.prog 18 #[.pointer (some ⟨a, 0, none⟩), .pointer (some ⟨c, 0, none⟩), o.agg] wr fun e w' => e = .returned (.bool true) ∧ Dn wr w' O a c (stP o p) (k + 1) := by
  obtain ⟨ya, yc, cn, tu, hx, hO⟩ := h
  have hI := hx.pa.inv
  have hB := hx.bd.step hI o
  have hA := asks_step o p
  have has := hx.ak
  have htt := hx.tt
  have b1 := hx.bd.nw; have b2 := hx.bd.tk; have b3 := hx.bd.rf; have b4 := hx.bd.sn; have b5 := hx.bd.dr
  have hz : 0 < wr.heap.size := Nat.lt_of_le_of_lt (Nat.zero_le _) (hx.rx.1.lt c hx.rx.1.ow)
  have hPa : PA (wr.alloc o.obj) a ya p cn := hx.pa.kept (O := fun _ => False) ((Fr.refl wr _).alloc _) fun _ _ q => q
  have hTa : TabW (wr.alloc o.obj) := hT.fr (O := fun _ => False) ((Fr.refl wr _).alloc _) (fun q => q) hz
  have hsz : (wr.alloc o.obj).heap.size = wr.heap.size + 1 := by simp
  have hkeep : ∀ {w' : World} {ya' : Lay}, Stp (wr.alloc o.obj) w' ya ya' → w'.heap[wr.heap.size]? = some o.obj := fun {w' ya'} hs => by
    rw [hs.fr.blk wr.heap.size (by omega) fun q => by have := hx.pa.olt _ q; omega]
    exact heap_alloc_new _ _
  refine step_walk a c o.k o.a o.b o.c o.w o.sa o.sn o.sc wr h6 (fun w' => Dn wr w' O a c (stP o p) (k + 1))
    (fun v1 v2 w1 => o.k = 1 ∧ v1 = addN p o.a o.b ∧ v2 = addR p o.a o.b ∧ ∃ ya', MD wr w1 a c p (stP o p) ya ya' yc cn (stC o p cn) tu)
    (fun v2 w1 => o.k = 2 ∧ v2 = setR p o.a o.b o.c ∧ ∃ ya', MD wr w1 a c p (stP o p) ya ya' yc cn (stC o p cn) tu)
    (fun v2 w1 => o.k = 3 ∧ v2 = enqR p o.a o.c ∧ ∃ ya', MD wr w1 a c p (stP o p) ya ya' yc cn (stC o p cn) tu)
    (fun v v2 w1 => o.k = 4 ∧ v2 = remR p o.a ∧ ∃ ya', MD wr w1 a c p (stP o p) ya ya' yc cn (stC o p cn) tu ∧ PL w1 wr.heap.size (fun j => ya'.tag j = .none) (remL p o.a) v)
    (fun v v2 w1 => o.k = 5 ∧ ∃ ya', MD wr w1 a c p (stP o p) ya ya' yc cn (stC o p cn) tu ∧ ((o.a ≤ 4000000000000000000 ∧ v2 = 0 ∧ ∃ n0, wr.heap.size ≤ n0 ∧ BA w1 n0 (fun j => ya'.tag j = .none) (p.poll o.a.toNat o.b.toNat).1 v) ∨ (4000000000000000000 < o.a ∧ v2 = 1 ∧ v = .slice none 0 0)))
    (fun v u w1 => ∃ l : List (Int × Nat), ∃ pa pc qa qc, l.length ≤ 8 ∧ v = .slice pa l.length pc ∧ u = .slice qa l.length qc ∧ PkAt w1 pa l ∧ PkAt w1 qa l ∧ Dn wr w1 O a c (stP o p) (k + 1))
    (fun v u w1 => ∃ bs : List Bt, ∃ pa pc qa qc, bs.length ≤ 64 ∧ (∀ q ∈ bs, q.2.2.length ≤ 8) ∧ v = .slice pa bs.length pc ∧ u = .slice qa bs.length qc ∧ BtAt w1 pa bs ∧ BtAt w1 qa bs ∧ Dn wr w1 O a c (stP o p) (k + 1))
    (fun v2 w1 => o.k = 6 ∧ nextOf p v2 ∧ ∃ ya', MD wr w1 a c p (stP o p) ya ya' yc cn (stC o p cn) tu)
    ?_ ?_ ?_ ?_ ?_ ?_ ?_ ?_ ?_ ?_ ?_ ?_ ?_ ?_ ?_
  · intro k1
    refine (pa_addR hPa (by omega) o.a o.b).mono ?_
    rintro e w' ⟨rfl, y', hP', hs⟩
    rw [← stP1 k1] at hP'
    exact ⟨_, _, rfl, ⟨k1, rfl, rfl, y', hx.mid o.obj (by rw [stC1 (.inl k1)]; exact hP') hs⟩, hkeep hs⟩
  · rintro v1 v2 w1 ⟨k1, rfl, rfl, ya', hMD⟩
    refine (rx_add hMD.rx (by omega) (by omega) o.a o.b).mono ?_
    rintro e w' ⟨rfl, y', hX', hs⟩
    rw [← stP1 k1] at hX'
    exact ⟨rfl, hMD.fin (tu' := tu) (by rw [stC1 (.inl k1)]; exact hX') hs (Fr.refl _ _) hB (by omega) (by omega) hO⟩
  · intro k1
    refine (pa_set hPa o.a o.b o.c).mono ?_
    rintro e w' ⟨rfl, y', hP', hs⟩
    rw [← stP2 k1] at hP'
    exact ⟨_, rfl, ⟨k1, rfl, y', hx.mid o.obj (by rw [stC1 (.inr (.inl k1))]; exact hP') hs⟩, hkeep hs⟩
  · rintro v2 w1 ⟨k1, rfl, ya', hMD⟩
    refine (rx_set hMD.rx (by omega) o.a o.b o.c).mono ?_
    rintro e w' ⟨rfl, y', hX', hs⟩
    rw [← stP2 k1] at hX'
    exact ⟨rfl, hMD.fin (tu' := tu) (by rw [stC1 (.inr (.inl k1))]; exact hX') hs (Fr.refl _ _) hB (by omega) (by omega) hO⟩
  · intro k1
    refine (pa_enq hPa (by omega) (by omega) o.a o.b o.c).mono ?_
    rintro e w' ⟨rfl, y', hP', hs⟩
    rw [← stP3 k1] at hP'
    exact ⟨_, rfl, ⟨k1, rfl, y', hx.mid o.obj (by rw [stC3 k1]; exact hP') hs⟩, hkeep hs⟩
  · rintro v2 w1 ⟨k1, rfl, ya', hMD⟩
    refine (rx_enq hMD.rx (by omega) (by omega) (by omega) o.a o.b o.c).mono ?_
    rintro e w' ⟨rfl, y', hX', hs⟩
    rw [← stP3 k1] at hX'
    exact ⟨rfl, hMD.fin (tu' := tu) (by rw [stC3 k1]; exact hX') hs (Fr.refl _ _) hB (by omega) (by omega) hO⟩
  · intro k1
    refine (pa_remove hPa (by omega) (by omega) o.a).mono ?_
    rintro e w' ⟨v, rfl, y', hP', hs, hL⟩
    rw [← stP4 k1] at hP'
    refine ⟨v, _, rfl, ⟨k1, rfl, y', hx.mid o.obj (by rw [stC4 k1]; exact hP') hs, ?_⟩, hkeep hs⟩
    refine ⟨⟨hL.row.1, ?_⟩, hL.nn⟩
    rcases hL.row.2 with q | ⟨g, cap, cur, z1, z2, z3⟩
    · exact .inl q
    · exact .inr ⟨g, cap, cur, z1, by omega, z3⟩
  · rintro v v2 w1 ⟨k1, rfl, ya', hMD, hL⟩
    refine (rx_remove hMD.rx (by omega) (by omega) o.a).mono ?_
    rintro e w' ⟨u, rfl, y', hX', hs, hu⟩
    rw [← stP4 k1] at hX'
    have hv : w'.ownsRow wr.heap.size 87 2 v (remL p o.a).length (pkC (remL p o.a)) := row_kept0 hL.row fun g hg => hs.fr.blk g (hL.row.lt g hg).2 fun q => by
      have := hMD.lc g q
      have := (hL.row.lt g hg).1
      omega
    obtain ⟨pa, pc, rfl⟩ := row_len hv
    obtain ⟨qa, qc, rfl⟩ := row_len hu
    exact ⟨_, rfl, remL p o.a, pa, pc, qa, qc, remL_len hI o.a, rfl, rfl, pk_of_row hv, pk_of_row hu, hMD.fin (tu' := tu) (by rw [stC4 k1]; exact hX') hs (Fr.refl _ _) hB (by omega) (by omega) hO⟩
  · rintro v u w1 ⟨l, pa, pc, qa, qc, hl, rfl, rfl, h1, h2, O', h3, h4, h5⟩
    refine (packets_walk l pa qa pc qc w1 (by omega) h1 h2).mono ?_
    rintro e w' ⟨rfl, hC⟩
    exact ⟨rfl, O', h3.kept hC.frF fun _ _ q => q, h4.trans hC.frF fun _ _ q => q.elim, h5⟩
  · intro k1
    by_cases hn : o.a ≤ 4000000000000000000
    · refine (pa_poll hPa hTa (by omega) (by omega) o.a o.b hn).mono ?_
      rintro e w' ⟨v, rfl, n0, y', hP', hBA, hs, hn0⟩
      refine ⟨v, _, rfl, ⟨k1, y', hx.mid o.obj (by rw [stC5 k1, if_pos hn, stP5 k1, if_pos hn]; exact hP') hs, .inl ⟨hn, rfl, n0, by omega, hBA⟩⟩, hkeep hs⟩
    · refine (pa_poll_bad hPa o.a o.b (by omega)).mono ?_
      rintro e w' ⟨rfl, rfl⟩
      refine ⟨_, _, rfl, ⟨k1, ya, hx.mid o.obj (by rw [stC5 k1, if_neg hn, stP5 k1, if_neg hn]; exact hPa) (Stp.refl _ _), .inr ⟨by omega, rfl, rfl⟩⟩, hkeep (Stp.refl _ _)⟩
  · rintro v v2 w1 ⟨k1, ya', hMD, ⟨hn, rfl, n0, hn0, hBA⟩ | ⟨hn, rfl, rfl⟩⟩
    · refine (rx_poll hMD.rx (by omega) (by omega) (by omega) o.a o.b hn).mono ?_
      rintro e w' ⟨u, rfl, y', tu', cs, hX', hs, hu, htu'⟩
      have h0 : (stP o p).asks.length = 0 := by rw [stP5 k1, if_pos hn]; rfl
      have hv : BA w' n0 (fun _ => True) (p.poll o.a.toNat o.b.toNat).1 v := hBA.kept hs.fr (fun j hj hj0 _ q => by have := hMD.lc j q; omega) fun _ _ _ => trivial
      obtain ⟨pa, pc, rfl⟩ := ba_len hv
      obtain ⟨qa, qc, rfl⟩ := rbt_len hu
      exact ⟨_, rfl, (p.poll o.a.toNat o.b.toNat).1, pa, pc, qa, qc, (poll_len hI (by omega) o.b.toNat).1, batch_few hI (by omega) o.b.toNat, rfl, rfl, bt_of_ba hv, bt_of_rbt hu, hMD.fin (tu' := tu') (by rw [stC5 k1, if_pos hn, stP5 k1, if_pos hn]; exact hX') hs (Fr.refl _ _) hB (by omega) (by omega) hO⟩
    · refine (rpoll_bad c o.a o.b w1 hMD.rx.1.rb.c1 hn).mono ?_
      rintro e w' ⟨rfl, rfl⟩
      refine ⟨_, rfl, [], none, 0, none, 0, by simp, (fun q hq => by cases hq), rfl, rfl, (fun i q hi => by simp at hi), (fun i q hi => by simp at hi), hMD.fin (tu' := tu) (by rw [stC5 k1, if_neg (by omega), stP5 k1, if_neg (by omega)]; exact hMD.rx) (StpR.refl _ _) (Fr.refl _ _) hB (by omega) (by omega) hO⟩
  · rintro v u w1 ⟨bs, pa, pc, qa, qc, hl, h8, rfl, rfl, h1, h2, O', h3, h4, h5⟩
    refine (batches_walk bs pa qa pc qc w1 (by omega) (fun q hq => by have := h8 q hq; omega) h1 h2).mono ?_
    rintro e w' ⟨rfl, hC⟩
    exact ⟨rfl, O', h3.kept hC.frF fun _ _ q => q, h4.trans hC.frF fun _ _ q => q.elim, h5⟩
  · intro k1
    refine (pa_next hPa hTa).mono ?_
    rintro e w' ⟨v, rfl, hv, hP', hf⟩
    exact ⟨v, rfl, k1, hv, ya, hx.mid o.obj (by rw [stC1 (.inr (.inr (by omega))), stP6 (by omega)]; exact hP') ⟨hf.weak fun _ _ q => q.elim, fun _ _ q => q⟩⟩
  · rintro v2 w1 ⟨k1, hv, ya', hMD⟩
    refine (rx_next hMD.rx).mono ?_
    rintro e w' ⟨v, rfl, hv', hC⟩
    have hXw : RX w' c yc p tu cn := hMD.rx.kept hC.frF fun _ _ q => q
    rw [nextOf_eq hv' hv]
    exact ⟨rfl, hMD.fin (tu' := tu) (by rw [stC1 (.inr (.inr (by omega))), stP6 (by omega)]; exact hXw) ⟨hC.frF.weak fun _ _ q => q.elim, fun _ _ q => q⟩ (Fr.refl _ _) hB (by omega) (by omega) hO⟩
  · intro hno
    have hM : MD wr (wr.alloc o.obj) a c p (stP o p) ya ya yc cn (stC o p cn) tu := hx.mid o.obj (by rw [stC1 (.inr (.inr (by omega))), stP6 (by omega)]; exact hPa) (Stp.refl _ _)
    exact hM.fin (tu' := tu) (by rw [stC1 (.inr (.inr (by omega))), stP6 (by omega)]; exact hM.rx) (StpR.refl _ _) (Fr.refl _ _) hB (by omega) (by omega) hO
end Go.Proofs.YtogdekjklbbbiaaGreatDoor
