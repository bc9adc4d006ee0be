import Derived.Test.YtikjgkjaappojaaDoorLeast
import Derived.Test.YtikjgkjaappojaaDoorAdv
namespace Go.Proofs.YtikjgkjaappojaaDoor
open Go.ChangeShapes Go.WideShapes Go.ChangeAt Go.RowKit
set_option linter.unusedSimpArgs false
set_option linter.unusedVariables false

theorem chn_of {w : World} {n₀ : Nat} : ∀ (xs : List Nat) (p : Option Nat), Seg (fun b o => w.cell? ⟨b, o, none⟩) p xs none → (∀ x ∈ xs, x < n₀) → Chn n₀ w xs.head? xs
  | [], _, _, _ => rfl
  | x :: r, p, h, hx => ⟨rfl, hx x (by simp), r.head?, by have := h.2.1; simpa [PV] using this, chn_of r (some x) h.2.2 fun y hy => hx y (by simp [hy])⟩

def IsLeast (ats : Nat → Nat) (L : List Nat) (v : Int) : Prop := (L = [] ∧ v = -1) ∨ ∃ x ∈ L, v = (ats x : Int) ∧ ∀ y ∈ L, ats x ≤ ats y
theorem least_step {ats : Nat → Nat} {pre : List Nat} {m : Int} (h : IsLeast ats pre m) (x : Nat) : IsLeast ats (pre ++ [x]) (if m < 0 ∨ (ats x : Int) < m then (ats x : Int) else m) := by
  right
  rcases h with ⟨rfl, rfl⟩ | ⟨y, hy, rfl, hle⟩
  · exact ⟨x, by simp, by rw [if_pos (.inl (by decide))], by simp⟩
  · by_cases q : (ats x : Int) < (ats y : Int)
    · refine ⟨x, by simp, by rw [if_pos (.inr q)], fun z hz => ?_⟩
      rcases List.mem_append.1 hz with q' | q'
      · have := hle z q'; omega
      · rw [List.mem_singleton.1 q']; exact Nat.le_refl _
    · refine ⟨y, by simp [hy], by rw [if_neg (by omega)], fun z hz => ?_⟩
      rcases List.mem_append.1 hz with q' | q'
      · exact hle z q'
      · rw [List.mem_singleton.1 q']; omega
theorem least_fold (ats : Nat → Nat) : ∀ (xs pre : List Nat) (m : Int), IsLeast ats pre m → IsLeast ats (pre ++ xs) (xs.foldl (fun m x => if m < 0 ∨ (ats x : Int) < m then (ats x : Int) else m) m)
  | [], pre, m, h => by simpa using h
  | x :: r, pre, m, h => by
    have := least_fold ats r (pre ++ [x]) _ (least_step h x)
    rw [List.append_assoc] at this
    exact this
theorem leastI_is (ats : Nat → Nat) (xs : List Nat) : IsLeast ats xs (leastI ats xs) := least_fold ats xs [] (-1) (.inl ⟨rfl, rfl⟩)
theorem IsLeast.eq {ats : Nat → Nat} {L : List Nat} {v v' : Int} (h : IsLeast ats L v) (k : IsLeast ats L v') : v = v' := by
  rcases h with ⟨rfl, rfl⟩ | ⟨x, hx, rfl, hle⟩ <;> rcases k with ⟨e, rfl⟩ | ⟨y, hy, rfl, hle'⟩
  · rfl
  · simp at hy
  · rw [e] at hx; simp at hx
  · have := hle y hy; have := hle' x hx; omega
theorem least_any {w : World} {b m : Nat} {O : Nat → Prop} {now : Nat} {ls : Nat → List Nat} {us ids ats : Nat → Nat} (h : WM w b m O now ls us ids ats) {p : Nat} (hp : p < 705) :
    Calls Tryd.prog 24 #[.pointer (some ⟨b, 2 + 2 * p, none⟩)] w fun e w' => ∃ v : Int, e = .returned (.int .i64 v) ∧ IsLeast ats (ls p) v ∧ Below w.heap.size w w' := by
  have hcl := h.cl p hp
  refine ((callsIn_wide (n := 3)).1 (least_in Fence.wide 3 trivial trivial trivial trivial rfl (Nat.le_refl _) b (2 + 2 * p) (ls p) ats w (h.olt b h.ob) hcl.1 (chn_of _ none hcl.2.2 fun x hx => h.olt x (h.ox p hp x hx).1) fun x hx => ⟨h.olt x (h.ox p hp x hx).1, (h.cw p hp x hx).2.1⟩)).mono ?_
  rintro e w' ⟨rfl, hB⟩
  exact ⟨_, rfl, leastI_is ats _, hB⟩

/-- The first slot has the least times. -/
theorem PI.first_least {n : Nat} {L : List Nat} {ls : Nat → List Nat} {ids ats : Nat → Nat} (h : PI n L ls ids ats) (hn : n < 9223372036854775808) {l s : Nat} (hF : FirstAt ls l s) (h0 : ls 0 = []) {x y : Nat} (hx : x ∈ ls (1 + 64 * l + s)) (hy : y ∈ L) (hyn : y ∉ ls (1 + 64 * l + s)) : ats x ≤ ats y := by
  have hl := hF.l11; have hs := hF.s64
  obtain ⟨a1, a2⟩ := h.A _ (by omega) x hx
  obtain ⟨x1, x2, x3⟩ := slot_of a1 hs
  have hym := h.mem hy
  have y1 : n < ats y := by
    by_cases q : ats y ≤ n
    · rw [home_over q, h0] at hym; simp at hym
    · omega
  have hh := home_slot y1
  have hsl := sl_lt (ats y) (lv n (ats y))
  obtain ⟨p1, p2⟩ := lv_spec x1
  obtain ⟨q1, q2⟩ := lv_spec y1
  rw [x2] at p1 p2
  rcases Nat.lt_trichotomy l (lv n (ats y)) with c | c | c
  · have e1 : ats x / 2 ^ (6 * lv n (ats y)) = n / 2 ^ (6 * lv n (ats y)) := div_more p1 (by omega)
    rw [← e1] at q2
    apply Nat.le_of_lt
    refine Nat.lt_of_not_le fun q => ?_
    have := Nat.div_le_div_right (c := 2 ^ (6 * lv n (ats y))) q
    omega
  · rcases Nat.lt_trichotomy s (sl (ats y) l) with c' | c' | c'
    · have e1 := split64 (ats x) l
      have e2 := split64 (ats y) l
      rw [← c] at q1
      rw [p1, x3] at e1
      rw [q1] at e2
      apply Nat.le_of_lt
      refine Nat.lt_of_not_le fun q => ?_
      have := Nat.div_le_div_right (c := 2 ^ (6 * l)) q
      omega
    · exfalso
      apply hyn
      rw [hh, ← c, ← c'] at hym
      exact hym
    · exfalso
      rw [hh, ← c, hF.lo' _ c'] at hym
      simp at hym
  · exfalso
    rw [hh, hF.lo _ c _ hsl] at hym
    simp at hym

set_option maxHeartbeats 1000000 in
theorem next_over (b : Nat) (w : World) (Post : Int → World → Prop) (hE : Calls Tryd.prog 23 #[.pointer (some ⟨b, 2, none⟩)] w fun e w' => e = .returned (.bool false) ∧ w' = w)
    (hL : Calls Tryd.prog 24 #[.pointer (some ⟨b, 2, none⟩)] w fun e w' => ∃ v : Int, e = .returned (.int .i64 v) ∧ Post v w') :
    Calls Tryd.prog 12 #[.pointer (some ⟨b, 0, none⟩)] w fun e w' => ∃ v : Int, e = .returned (.int .i64 v) ∧ Post v w' := by
  have HE := hide hE; have HL := hide hL
  clear hE hL
  go_enter Tryd.func12, Tryd.ntmps12
  go_wp2_with fail
  refine (unhide HE).mono ?_
  rintro e w1 ⟨rfl, hw1⟩
  rw [hw1]
  go_wp2_with fail
  refine (unhide HL).mono ?_
  rintro e w2 ⟨v, rfl, hp⟩
  have HP := hide hp
  clear hp
  go_wp2_with fail
  go_ret
  exact ⟨v, rfl, unhide HP⟩
set_option maxHeartbeats 1000000 in
theorem next_none (b : Nat) (w : World) (hE : Calls Tryd.prog 23 #[.pointer (some ⟨b, 2, none⟩)] w fun e w' => e = .returned (.bool true) ∧ w' = w)
    (hF : Calls Tryd.prog 19 #[.pointer (some ⟨b, 0, none⟩)] w fun e w' => e = .returned (.tuple #[.int .i64 0, .int .i64 0, .bool false]) ∧ w' = w) :
    Calls Tryd.prog 12 #[.pointer (some ⟨b, 0, none⟩)] w fun e w' => e = .returned (.int .i64 (-1)) ∧ w' = w := by
  have HE := hide hE; have HF := hide hF
  clear hE hF
  go_enter Tryd.func12, Tryd.ntmps12
  go_wp2_with fail
  refine (unhide HE).mono ?_
  rintro e w1 ⟨rfl, hw1⟩
  rw [hw1]
  clear hw1
  go_wp2_with fail
  refine (unhide HF).mono ?_
  rintro e w2 ⟨rfl, hw2⟩
  rw [hw2]
  clear hw2
  go_wp2_with fail
  go_ret
  exact ⟨rfl, rfl⟩
set_option maxHeartbeats 1000000 in
theorem next_slot (b l s : Nat) (w : World) (Post : Int → World → Prop) (hl : l < 11) (hs : s < 64) (hE : Calls Tryd.prog 23 #[.pointer (some ⟨b, 2, none⟩)] w fun e w' => e = .returned (.bool true) ∧ w' = w)
    (hF : Calls Tryd.prog 19 #[.pointer (some ⟨b, 0, none⟩)] w fun e w' => e = .returned (.tuple #[.int .i64 (l : Int), .int .i64 (s : Int), .bool true]) ∧ w' = w)
    (hL : Calls Tryd.prog 24 #[.pointer (some ⟨b, 4 + l * 128 + s * 2, none⟩)] w fun e w' => ∃ v : Int, e = .returned (.int .i64 v) ∧ Post v w') :
    Calls Tryd.prog 12 #[.pointer (some ⟨b, 0, none⟩)] w fun e w' => ∃ v : Int, e = .returned (.int .i64 v) ∧ Post v w' := by
  have HE := hide hE; have HF := hide hF; have HL := hide hL
  clear hE hF hL
  have e1 : (l : Int) < 11 := by omega
  have e2 : (s : Int) < 64 := by omega
  go_enter Tryd.func12, Tryd.ntmps12
  go_wp2_with fail
  refine (unhide HE).mono ?_
  rintro e w1 ⟨rfl, hw1⟩
  rw [hw1]
  clear hw1
  go_wp2_with fail
  refine (unhide HF).mono ?_
  rintro e w2 ⟨rfl, hw2⟩
  rw [hw2]
  clear hw2
  go_wp2_with fail
  refine (unhide HL).mono ?_
  rintro e w3 ⟨v, rfl, hp⟩
  have HP := hide hp
  clear hp
  go_wp2_with fail
  go_ret
  exact ⟨v, rfl, unhide HP⟩

theorem below_fr {w w' : World} {O : Nat → Prop} (h : Below w.heap.size w w') : Fr w w' O := ⟨h.os, h.tape, h.output, h.size, fun k hk _ => h.block k hk⟩
theorem WH.below {w w' : World} {b m : Nat} {O : Nat → Prop} {now : Nat} {L : List Nat} {ls : Nat → List Nat} {us ids ats : Nat → Nat} (h : WH w b m O now L ls us ids ats) (hB : Below w.heap.size w w') : WH w' b m O now L ls us ids ats :=
  ⟨h.mem.kept hB.size fun k hO => hB.block k (h.mem.olt k hO), h.map.kept (hB.block m (h.mem.olt m h.mem.om)), h.ub, h.pi⟩

theorem next_any {w : World} {b m : Nat} {O : Nat → Prop} {now : Nat} {L : List Nat} {ls : Nat → List Nat} {us ids ats : Nat → Nat} (h : WH w b m O now L ls us ids ats) (hT : TabW w) :
    Calls Tryd.prog 12 #[.pointer (some ⟨b, 0, none⟩)] w fun e w' => ∃ v : Int, e = .returned (.int .i64 v) ∧ IsLeast ats L v ∧ Below w.heap.size w w' := by
  have hm := h.mem
  have hE := emptyAt hm (p := 0) (by omega)
  cases e0 : ls 0 with
  | cons x r =>
    rw [e0] at hE
    refine next_over b w (fun v w' => IsLeast ats L v ∧ Below w.heap.size w w') hE ((least_any hm (p := 0) (by omega)).mono ?_)
    rintro e w' ⟨v, rfl, hv, hB⟩
    refine ⟨v, rfl, ?_, hB⟩
    rcases hv with ⟨q, _⟩ | ⟨y, hy, rfl, hle⟩
    · rw [q] at e0; cases e0
    · obtain ⟨y1, y2⟩ := (h.pi.over y).1 hy
      refine .inr ⟨y, y1, rfl, fun z hz => ?_⟩
      by_cases q : ats z ≤ now
      · exact hle z ((h.pi.over z).2 ⟨hz, q⟩)
      · omega
  | nil =>
    rw [e0] at hE
    have hF := first_any hm h.ub hT
    -- one of its two ways, by what the masks say
    by_cases hz : ∀ p, 1 ≤ p → p < 705 → ls p = []
    · have hL : L = [] := by
        apply List.eq_nil_iff_forall_not_mem.2
        intro x hx
        have h1 := h.pi.mem hx
        have h2 := home_lt hm.nowlt (h.pi.bd x hx).2
        by_cases q : home now (ats x) = 0
        · rw [q, e0] at h1; simp at h1
        · rw [hz _ (by omega) h2] at h1; simp at h1
      refine (next_none b w hE (hF.mono ?_)).mono ?_
      · rintro e w' ⟨rfl, ⟨rfl, _⟩ | ⟨l, s, rfl, hFa⟩⟩
        · exact ⟨rfl, rfl⟩
        · exact (hFa.ne (hz _ (by omega) (by have := hFa.l11; have := hFa.s64; omega))).elim
      · rintro e w' ⟨rfl, rfl⟩
        exact ⟨-1, rfl, .inl ⟨hL, rfl⟩, Below.refl _ _⟩
    · have hu : ∃ l s, FirstAt ls l s := by
        have hex : ∃ l, l < 11 ∧ us l ≠ 0 := by
          apply Classical.byContradiction
          intro hno
          apply hz
          intro p hp hp'
          have hd : (p - 1) / 64 < 11 := by omega
          have := ub_zero h.ub hd (Classical.byContradiction fun q => hno ⟨_, hd, q⟩) ((p - 1) % 64) (by omega)
          rw [show 1 + 64 * ((p - 1) / 64) + (p - 1) % 64 = p by omega] at this
          exact this
        obtain ⟨l0, hl0⟩ := hex
        have : ∃ l, l < 11 ∧ us l ≠ 0 ∧ ∀ l', l' < l → us l' = 0 := by
          clear hF hE
          induction l0 using Nat.strongRecOn with
          | ind k ih =>
            by_cases q : ∃ l', l' < k ∧ us l' ≠ 0
            · obtain ⟨l', h1, h2⟩ := q
              exact ih l' h1 ⟨by omega, h2⟩
            · exact ⟨k, hl0.1, hl0.2, fun l' hl' => Classical.byContradiction fun q' => q ⟨l', hl', q'⟩⟩
        obtain ⟨l, hl, hne, hlo⟩ := this
        obtain ⟨k, m', _, hFa⟩ := ub_first h.ub hl hne hlo
        exact ⟨l, k, hFa⟩
      obtain ⟨l, s, hFa⟩ := hu
      have hl := hFa.l11; have hs := hFa.s64
      have huniq : ∀ l' s', FirstAt ls l' s' → l' = l ∧ s' = s := by
        intro l' s' hG
        have hl' := hG.l11; have hs' := hG.s64
        rcases Nat.lt_trichotomy l' l with c | c | c
        · exact (hG.ne (hFa.lo _ c _ hs')).elim
        · subst c
          rcases Nat.lt_trichotomy s' s with c' | c' | c'
          · exact (hG.ne (hFa.lo' _ c')).elim
          · exact ⟨rfl, c'⟩
          · exact (hFa.ne (hG.lo' _ c')).elim
        · exact (hFa.ne (hG.lo _ c _ hs)).elim
      have hlt := least_any hm (p := 1 + 64 * l + s) (by omega)
      rw [show 2 + 2 * (1 + 64 * l + s) = 4 + l * 128 + s * 2 by omega] at hlt
      refine next_slot b l s w (fun v w' => IsLeast ats L v ∧ Below w.heap.size w w') hl hs hE (hF.mono ?_) (hlt.mono ?_)
      · rintro e w' ⟨rfl, ⟨rfl, hq⟩ | ⟨l', s', rfl, hG⟩⟩
        · exact (hz hq).elim
        · obtain ⟨rfl, rfl⟩ := huniq l' s' hG
          exact ⟨rfl, rfl⟩
      · rintro e w' ⟨v, rfl, hv, hB⟩
        refine ⟨v, rfl, ?_, hB⟩
        rcases hv with ⟨q, _⟩ | ⟨y, hy, rfl, hle⟩
        · exact (hFa.ne q).elim
        · refine .inr ⟨y, (h.pi.A _ (by omega) y hy).2, rfl, fun z hz' => ?_⟩
          by_cases q : z ∈ ls (1 + 64 * l + s)
          · exact hle z q
          · exact h.pi.first_least hm.nowlt hFa e0 hy hz' q
end Go.Proofs.YtikjgkjaappojaaDoor
