import Derived.Test.YtogdekjklbbbiaaGreatDoorEar
import Derived.Test.YtogdekjklbbbiaaGreatDoorZ25
import Derived.Deep.RegionLaw
import Derived.Test.YtogdekjklbbbiaaGreatDoorZ20
set_option maxRecDepth 100000
namespace Go.Proofs.YtogdekjklbbbiaaGreatDoor
open Go.ChangeShapes Go.WideShapes Go.ChangeAt Go.RowKit
set_option linter.unusedSimpArgs false
set_option linter.unusedVariables false

theorem chn_of {w : World} {n₀ : Nat} : ∀ (xs : List Nat) (p : Option Nat), Seg (fun b o => w.cell? ⟨b, o, none⟩) p xs none → (∀ x ∈ xs, x < n₀) → Chn n₀ w xs.head? xs
  | [], _, _, _ => rfl
  | x :: r, p, h, hx => ⟨rfl, hx x (by simp), r.head?, by have := h.2.1; simpa [PV] using this, chn_of r (some x) h.2.2 fun y hy => hx y (by simp [hy])⟩


/-- x is the first of those with the least time. -/
def FirstOf (ats : Nat → Nat) (xs : List Nat) (x : Nat) : Prop := ∃ l r, xs = l ++ x :: r ∧ (∀ y ∈ l, ats x < ats y) ∧ ∀ y ∈ r, ats x ≤ ats y
theorem earI_is (ats : Nat → Nat) (xs : List Nat) : (xs = [] ∧ earI ats xs = none) ∨ ∃ x, earI ats xs = some x ∧ FirstOf ats xs x := by
  refine rev_ind (P := fun xs => (xs = [] ∧ earI ats xs = none) ∨ ∃ x, earI ats xs = some x ∧ FirstOf ats xs x) (.inl ⟨rfl, rfl⟩) ?_ xs
  · intro pre x ih
    right
    rw [earI_snoc]
    rcases ih with ⟨rfl, e⟩ | ⟨y, e, l, r, hlr, h1, h2⟩
    · rw [e]; exact ⟨x, rfl, [], [], rfl, by simp, by simp⟩
    · rw [e]
      simp only [earS]
      by_cases q : ats x < ats y
      · rw [if_pos q]
        refine ⟨x, rfl, pre, [], rfl, fun z hz => ?_, by simp⟩
        rw [hlr] at hz
        rcases List.mem_append.1 hz with c | c
        · have := h1 z c; omega
        · rcases List.mem_cons.1 c with c | c
          · rw [c]; exact q
          · have := h2 z c; omega
      · rw [if_neg q]
        refine ⟨y, rfl, l, r ++ [x], by rw [hlr]; simp, h1, fun z hz => ?_⟩
        rcases List.mem_append.1 hz with c | c
        · exact h2 z c
        · rw [List.mem_singleton.1 c]; omega
theorem FirstOf.mem {ats : Nat → Nat} {xs : List Nat} {x : Nat} (h : FirstOf ats xs x) : x ∈ xs := by
  obtain ⟨l, r, rfl, _⟩ := h; simp
theorem FirstOf.le {ats : Nat → Nat} {xs : List Nat} {x : Nat} (h : FirstOf ats xs x) : ∀ y ∈ xs, ats x ≤ ats y := by
  obtain ⟨l, r, rfl, h1, h2⟩ := h
  intro y hy
  rcases List.mem_append.1 hy with c | c
  · exact Nat.le_of_lt (h1 y c)
  · rcases List.mem_cons.1 c with c | c
    · rw [c]; exact Nat.le_refl _
    · exact h2 y c
theorem FirstOf.head {ats : Nat → Nat} {xs : List Nat} {x : Nat} (h : FirstOf ats xs x) : ∃ r, xs.filter (fun y => decide (ats y = ats x)) = x :: r := by
  obtain ⟨l, r, rfl, h1, h2⟩ := h
  refine ⟨r.filter (fun y => decide (ats y = ats x)), ?_⟩
  rw [List.filter_append, List.filter_cons, if_pos (by simp)]
  have : l.filter (fun y => decide (ats y = ats x)) = [] := List.filter_eq_nil_iff.2 fun y hy => by have := h1 y hy; simp; omega
  rw [this]; rfl
/-- The first of the over ones is the first of all. -/
theorem PI.firstOf {now : Nat} {L : List Nat} {ls : Nat → List Nat} {ids ats : Nat → Nat} (h : PI now L ls ids ats) {x : Nat} (hx : FirstOf ats (ls 0) x) : FirstOf ats L x ∧ ats x ≤ now := by
  obtain ⟨hxL, hxn⟩ := (h.over x).1 hx.mem
  have hle : ∀ y ∈ L, ats x ≤ ats y := fun y hy => by
    by_cases q : ats y ≤ now
    · exact hx.le y ((h.over y).2 ⟨hy, q⟩)
    · omega
  obtain ⟨l, r, hlr⟩ := List.append_of_mem hxL
  refine ⟨⟨l, r, hlr, fun y hy => ?_, fun y hy => hle y (by rw [hlr]; simp [hy])⟩, hxn⟩
  rcases Nat.lt_or_ge (ats x) (ats y) with q | q
  · exact q
  exfalso
  have hyL : y ∈ L := by rw [hlr]; simp [hy]
  have e : ats y = ats x := by have := hle y hyL; omega
  have hB := h.B x hxL
  rw [home_over hxn] at hB
  obtain ⟨r', hr'⟩ := hx.head
  rw [hr', hlr, List.filter_append] at hB
  have hyl : y ∈ l.filter (fun z => decide (ats z = ats x)) := List.mem_filter.2 ⟨hy, by simp [e]⟩
  cases hl : l.filter (fun z => decide (ats z = ats x)) with
  | nil => rw [hl] at hyl; simp at hyl
  | cons z t =>
    rw [hl] at hB
    have hz : x = z := (List.cons.inj hB).1
    have hzl : z ∈ l := (List.mem_filter.1 (by rw [hl]; simp : z ∈ l.filter (fun z => decide (ats z = ats x)))).1
    have hnd := h.lnd
    rw [hlr, List.nodup_append] at hnd
    exact hnd.2.2 z hzl x (by simp) hz.symm

theorem ear_any {w : World} {b m : Nat} {O : Nat → Prop} {now : Nat} {ls : Nat → List Nat} {us ids ats : Nat → Nat} (h : WM w b m O now ls us ids ats) {p : Nat} (hp : p < 705) :
    Calls Tryz.prog 71 #[.pointer (some ⟨b, 2 + 2 * p, none⟩)] w fun e w' => e = .returned (PV (earI ats (ls p))) ∧ Below w.heap.size w w' := by
  have hcl := h.cl p hp
  exact (callsIn_wide (n := 3)).1 (ear_in Fence.wide 3 trivial trivial trivial trivial rfl (Nat.le_refl _) b (2 + 2 * p) (ls p) ats w (h.olt b h.ob) hcl.1 (chn_of _ none hcl.2.2 fun x hx => h.olt x (h.ox p hp x hx).1) fun x hx => ⟨h.olt x (h.ox p hp x hx).1, (h.cw p hp x hx).2.1⟩)

def IsLeast (ats : Nat → Nat) (L : List Nat) (v : Int) : Prop := (L = [] ∧ v = -1) ∨ ∃ x ∈ L, v = (ats x : Int) ∧ ∀ y ∈ L, ats x ≤ ats y
/-- The first slot has the least times. -/
theorem PI.first_least {n : Nat} {L : List Nat} {ls : Nat → List Nat} {ids ats : Nat → Nat} (h : PI n L ls ids ats) (hn : n < 9223372036854775808) {l s : Nat} (hF : FirstAt ls l s) (h0 : ls 0 = []) {x y : Nat} (hx : x ∈ ls (1 + 64 * l + s)) (hy : y ∈ L) (hyn : y ∉ ls (1 + 64 * l + s)) : ats x ≤ ats y := by
  have hl := hF.l11; have hs := hF.s64
  obtain ⟨a1, a2⟩ := h.A _ (by omega) x hx
  obtain ⟨x1, x2, x3⟩ := slot_of a1 hs
  have hym := h.mem hy
  have y1 : n < ats y := by
    by_cases q : ats y ≤ n
    · rw [home_over q, h0] at hym; simp at hym
    · omega
  have hh := home_slot y1
  have hsl := sl_lt (ats y) (lv n (ats y))
  obtain ⟨p1, p2⟩ := lv_spec x1
  obtain ⟨q1, q2⟩ := lv_spec y1
  rw [x2] at p1 p2
  rcases Nat.lt_trichotomy l (lv n (ats y)) with c | c | c
  · have e1 : ats x / 2 ^ (6 * lv n (ats y)) = n / 2 ^ (6 * lv n (ats y)) := div_more p1 (by omega)
    rw [← e1] at q2
    apply Nat.le_of_lt
    refine Nat.lt_of_not_le fun q => ?_
    have := Nat.div_le_div_right (c := 2 ^ (6 * lv n (ats y))) q
    omega
  · rcases Nat.lt_trichotomy s (sl (ats y) l) with c' | c' | c'
    · have e1 := split64 (ats x) l
      have e2 := split64 (ats y) l
      rw [← c] at q1
      rw [p1, x3] at e1
      rw [q1] at e2
      apply Nat.le_of_lt
      refine Nat.lt_of_not_le fun q => ?_
      have := Nat.div_le_div_right (c := 2 ^ (6 * l)) q
      omega
    · exfalso
      apply hyn
      rw [hh, ← c, ← c'] at hym
      exact hym
    · exfalso
      rw [hh, ← c, hF.lo' _ c'] at hym
      simp at hym
  · exfalso
    rw [hh, hF.lo _ c _ hsl] at hym
    simp at hym


set_option maxHeartbeats 1000000 in
theorem next_over (b x : Nat) (v : Int) (w : World) (Post : World → Prop) (hE : Calls Tryz.prog 70 #[.pointer (some ⟨b, 2, none⟩)] w fun e w' => e = .returned (.bool false) ∧ w' = w)
    (hL : Calls Tryz.prog 71 #[.pointer (some ⟨b, 2, none⟩)] w fun e w' => e = .returned (.pointer (some ⟨x, 0, none⟩)) ∧ w'.cell? ⟨x, 3, none⟩ = some (.int .i64 v) ∧ Post w') :
    Calls Tryz.prog 26 #[.pointer (some ⟨b, 0, none⟩)] w fun e w' => e = .returned (.int .i64 v) ∧ Post w' := by
  have HE := hide hE; have HL := hide hL
  clear hE hL
  go_enter Tryz.func26, Tryz.ntmps26
  go_wp2_with fail
  refine (unhide HE).mono ?_
  rintro e w1 ⟨rfl, hw1⟩
  rw [hw1]
  go_wp2_with fail
  refine (unhide HL).mono ?_
  rintro e w2 ⟨rfl, hc, hp⟩
  have HP := hide hp
  clear hp
  go_wp2_with fail
  go_ret
  exact ⟨rfl, unhide HP⟩
set_option maxHeartbeats 1000000 in
theorem next_none (b : Nat) (w : World) (hE : Calls Tryz.prog 70 #[.pointer (some ⟨b, 2, none⟩)] w fun e w' => e = .returned (.bool true) ∧ w' = w)
    (hF : Calls Tryz.prog 72 #[.pointer (some ⟨b, 0, none⟩)] w fun e w' => e = .returned (.tuple #[.int .i64 0, .int .i64 0, .bool false]) ∧ w' = w) :
    Calls Tryz.prog 26 #[.pointer (some ⟨b, 0, none⟩)] w fun e w' => e = .returned (.int .i64 (-1)) ∧ w' = w := by
  have HE := hide hE; have HF := hide hF
  clear hE hF
  go_enter Tryz.func26, Tryz.ntmps26
  go_wp2_with fail
  refine (unhide HE).mono ?_
  rintro e w1 ⟨rfl, hw1⟩
  rw [hw1]
  clear hw1
  go_wp2_with fail
  refine (unhide HF).mono ?_
  rintro e w2 ⟨rfl, hw2⟩
  rw [hw2]
  clear hw2
  go_wp2_with fail
  go_ret
  exact ⟨rfl, rfl⟩

set_option maxHeartbeats 1000000 in
theorem next_slot (b l s x : Nat) (v : Int) (w : World) (Post : World → Prop) (hl : l < 11) (hs : s < 64) (hE : Calls Tryz.prog 70 #[.pointer (some ⟨b, 2, none⟩)] w fun e w' => e = .returned (.bool true) ∧ w' = w)
    (hF : Calls Tryz.prog 72 #[.pointer (some ⟨b, 0, none⟩)] w fun e w' => e = .returned (.tuple #[.int .i64 (l : Int), .int .i64 (s : Int), .bool true]) ∧ w' = w)
    (hL : Calls Tryz.prog 71 #[.pointer (some ⟨b, 4 + l * 128 + s * 2, none⟩)] w fun e w' => e = .returned (.pointer (some ⟨x, 0, none⟩)) ∧ w'.cell? ⟨x, 3, none⟩ = some (.int .i64 v) ∧ Post w') :
    Calls Tryz.prog 26 #[.pointer (some ⟨b, 0, none⟩)] w fun e w' => e = .returned (.int .i64 v) ∧ Post w' := by
  have HE := hide hE; have HF := hide hF; have HL := hide hL
  clear hE hF hL
  have e1 : (l : Int) < 11 := by omega
  have e2 : (s : Int) < 64 := by omega
  go_enter Tryz.func26, Tryz.ntmps26
  go_wp2_with fail
  refine (unhide HE).mono ?_
  rintro e w1 ⟨rfl, hw1⟩
  rw [hw1]
  clear hw1
  go_wp2_with fail
  refine (unhide HF).mono ?_
  rintro e w2 ⟨rfl, hw2⟩
  rw [hw2]
  clear hw2
  go_wp2_with fail
  refine (unhide HL).mono ?_
  rintro e w3 ⟨rfl, hc, hp⟩
  have HP := hide hp
  clear hp
  go_wp2_with fail
  go_ret
  exact ⟨rfl, unhide HP⟩

theorem below_fr {w w' : World} {O : Nat → Prop} (h : Below w.heap.size w w') : Fr w w' O := ⟨h.os, h.tape, h.output, h.size, fun k hk _ => h.block k hk⟩
theorem WH.below {w w' : World} {b m : Nat} {O : Nat → Prop} {now : Nat} {L : List Nat} {ls : Nat → List Nat} {us ids ats : Nat → Nat} (h : WH w b m O now L ls us ids ats) (hB : Below w.heap.size w w') : WH w' b m O now L ls us ids ats :=
  ⟨h.mem.kept hB.size fun k hO => hB.block k (h.mem.olt k hO), h.map.kept (hB.block m (h.mem.olt m h.mem.om)), h.ub, h.pi⟩

theorem next_any {w : World} {b m : Nat} {O : Nat → Prop} {now : Nat} {L : List Nat} {ls : Nat → List Nat} {us ids ats : Nat → Nat} (h : WH w b m O now L ls us ids ats) (hT : TabW w) :
    Calls Tryz.prog 26 #[.pointer (some ⟨b, 0, none⟩)] w fun e w' => ∃ v : Int, e = .returned (.int .i64 v) ∧ IsLeast ats L v ∧ Below w.heap.size w w' := by
  have hm := h.mem
  have hE := emptyAt hm (p := 0) (by omega)
  cases e0 : ls 0 with
  | cons x r =>
    rw [e0] at hE
    rcases earI_is ats (ls 0) with ⟨q, _⟩ | ⟨y, hy, hfo⟩
    · rw [q] at e0; cases e0
    · obtain ⟨hF1, hF2⟩ := h.pi.firstOf hfo
      have hcy := (hm.cw 0 (by omega) y hfo.mem).2.1
      have hyl := hm.olt y (hm.ox 0 (by omega) y hfo.mem).1
      refine (next_over b y (ats y : Int) w (fun w' => Below w.heap.size w w') hE ((ear_any hm (p := 0) (by omega)).mono ?_)).mono ?_
      · rintro e w' ⟨rfl, hB⟩
        rw [hy, PV_some]
        exact ⟨rfl, (hB.cell (p := ⟨y, 3, none⟩) hyl).trans hcy, hB⟩
      · rintro e w' ⟨rfl, hB⟩
        exact ⟨_, rfl, .inr ⟨y, hF1.mem, rfl, hF1.le⟩, hB⟩
  | nil =>
    rw [e0] at hE
    have hF := first_any hm h.ub hT
    -- one of its two ways, by what the masks say
    by_cases hz : ∀ p, 1 ≤ p → p < 705 → ls p = []
    · have hL : L = [] := by
        apply List.eq_nil_iff_forall_not_mem.2
        intro x hx
        have h1 := h.pi.mem hx
        have h2 := home_lt hm.nowlt (h.pi.bd x hx).2
        by_cases q : home now (ats x) = 0
        · rw [q, e0] at h1; simp at h1
        · rw [hz _ (by omega) h2] at h1; simp at h1
      refine (next_none b w hE (hF.mono ?_)).mono ?_
      · rintro e w' ⟨rfl, ⟨rfl, _⟩ | ⟨l, s, rfl, hFa⟩⟩
        · exact ⟨rfl, rfl⟩
        · exact (hFa.ne (hz _ (by omega) (by have := hFa.l11; have := hFa.s64; omega))).elim
      · rintro e w' ⟨rfl, rfl⟩
        exact ⟨-1, rfl, .inl ⟨hL, rfl⟩, Below.refl _ _⟩
    · have hu : ∃ l s, FirstAt ls l s := by
        have hex : ∃ l, l < 11 ∧ us l ≠ 0 := by
          apply Classical.byContradiction
          intro hno
          apply hz
          intro p hp hp'
          have hd : (p - 1) / 64 < 11 := by omega
          have := ub_zero h.ub hd (Classical.byContradiction fun q => hno ⟨_, hd, q⟩) ((p - 1) % 64) (by omega)
          rw [show 1 + 64 * ((p - 1) / 64) + (p - 1) % 64 = p by omega] at this
          exact this
        obtain ⟨l0, hl0⟩ := hex
        have : ∃ l, l < 11 ∧ us l ≠ 0 ∧ ∀ l', l' < l → us l' = 0 := by
          clear hF hE
          induction l0 using Nat.strongRecOn with
          | ind k ih =>
            by_cases q : ∃ l', l' < k ∧ us l' ≠ 0
            · obtain ⟨l', h1, h2⟩ := q
              exact ih l' h1 ⟨by omega, h2⟩
            · exact ⟨k, hl0.1, hl0.2, fun l' hl' => Classical.byContradiction fun q' => q ⟨l', hl', q'⟩⟩
        obtain ⟨l, hl, hne, hlo⟩ := this
        obtain ⟨k, m', _, hFa⟩ := ub_first h.ub hl hne hlo
        exact ⟨l, k, hFa⟩
      obtain ⟨l, s, hFa⟩ := hu
      have hl := hFa.l11; have hs := hFa.s64
      have huniq : ∀ l' s', FirstAt ls l' s' → l' = l ∧ s' = s := by
        intro l' s' hG
        have hl' := hG.l11; have hs' := hG.s64
        rcases Nat.lt_trichotomy l' l with c | c | c
        · exact (hG.ne (hFa.lo _ c _ hs')).elim
        · subst c
          rcases Nat.lt_trichotomy s' s with c' | c' | c'
          · exact (hG.ne (hFa.lo' _ c')).elim
          · exact ⟨rfl, c'⟩
          · exact (hFa.ne (hG.lo' _ c')).elim
        · exact (hFa.ne (hG.lo _ c _ hs)).elim
      have hlt := ear_any hm (p := 1 + 64 * l + s) (by omega)
      rw [show 2 + 2 * (1 + 64 * l + s) = 4 + l * 128 + s * 2 by omega] at hlt
      rcases earI_is ats (ls (1 + 64 * l + s)) with ⟨q, _⟩ | ⟨y, hy, hfo⟩
      · exact (hFa.ne q).elim
      · have hcy := (hm.cw _ (by omega) y hfo.mem).2.1
        have hyl := hm.olt y (hm.ox _ (by omega) y hfo.mem).1
        refine (next_slot b l s y (ats y : Int) w (fun w' => Below w.heap.size w w') hl hs hE (hF.mono ?_) (hlt.mono ?_)).mono ?_
        · rintro e w' ⟨rfl, ⟨rfl, hq⟩ | ⟨l', s', rfl, hG⟩⟩
          · exact (hz hq).elim
          · obtain ⟨rfl, rfl⟩ := huniq l' s' hG
            exact ⟨rfl, rfl⟩
        · rintro e w' ⟨rfl, hB⟩
          rw [hy, PV_some]
          exact ⟨rfl, (hB.cell (p := ⟨y, 3, none⟩) hyl).trans hcy, hB⟩
        · rintro e w' ⟨rfl, hB⟩
          refine ⟨_, rfl, .inr ⟨y, (h.pi.A _ (by omega) y hfo.mem).2, rfl, fun z hz' => ?_⟩, hB⟩
          by_cases q : z ∈ ls (1 + 64 * l + s)
          · exact hfo.le z q
          · exact h.pi.first_least hm.nowlt hFa e0 hfo.mem hz' q

theorem step_delete {P : Program} {ops : Array Oper} {o : Oper} {a : Act} {w w' : World} {K : Act → World → Prop} {Q : Exit → Act → World → Prop} {E : Prop}
    (hg : o.guard = none) (s x : Operand) (t u : TypeId) (hop : o.op = Op.call { callee := Callee.builtin Builtin.delete, args := #[s, x], argTypes := #[t, u] }) (v k : Value) (hs : a.eval s = v) (hx : a.eval x = k)
    (hrun : (Builtin.delete_ #[t, u] o.type #[v, k]).run P w = .ok (.tuple #[]) w')
    (hK : K (a.put o.dst (.tuple #[])) w') :
    if Region.wanted o (yielded ops a.tmps) = true then Oper.wp P o a w K Q else E := by
  have hw : Region.wanted o (yielded ops a.tmps) = true := by simp [Region.wanted, hg]
  rw [if_pos hw]
  unfold Oper.wp
  simp [execOp, hop, resolve, invoke, builtin, hs, hx, hrun, Result.andThen]
  exact hK

set_option maxHeartbeats 1000000 in
theorem fst_none (b : Nat) (w : World) (Post : World → Prop) (hL : Calls Tryz.prog 71 #[.pointer (some ⟨b, 2, none⟩)] w fun e w' => e = .returned (.pointer none) ∧ Post w') :
    Calls Tryz.prog 67 #[.pointer (some ⟨b, 0, none⟩)] w fun e w' => e = .returned (.tuple #[.int .i64 0, .int .i64 0, .bool false]) ∧ Post w' := by
  have HL := hide hL
  clear hL
  go_enter Tryz.func67, Tryz.ntmps67
  go_wp2_with fail
  refine (unhide HL).mono ?_
  rintro e w2 ⟨rfl, hp⟩
  have HP := hide hp
  clear hp
  go_wp2_with fail
  go_ret3
  exact ⟨rfl, unhide HP⟩
set_option maxHeartbeats 1000000 in
theorem fst_some (b m x : Nat) (i t : Int) (w : World) (R R2 Post : World → Prop) (hPd : ∀ W, Post W → Post W.drew) (hL : Calls Tryz.prog 71 #[.pointer (some ⟨b, 2, none⟩)] w fun e w' => e = .returned (.pointer (some ⟨x, 0, none⟩)) ∧ R w')
    (hR : ∀ w1, R w1 → Calls Tryz.prog 115 #[.pointer (some ⟨b, 2, none⟩), .pointer (some ⟨x, 0, none⟩)] w1 fun e w' => e = .returned (.tuple #[]) ∧ R2 w')
    (hD : ∀ w2, R2 w2 → w2.cell? ⟨b, 1, none⟩ = some (.map (some m)) ∧ w2.cell? ⟨x, 2, none⟩ = some (.int .i64 i) ∧
      ∃ w3, (Builtin.delete_ #[115, 3] 0 #[.map (some m), .int .i64 i]).run Tryz.prog w2.drew = .ok (.tuple #[]) w3 ∧ w3.cell? ⟨x, 2, none⟩ = some (.int .i64 i) ∧ w3.cell? ⟨x, 3, none⟩ = some (.int .i64 t) ∧ Post w3) :
    Calls Tryz.prog 67 #[.pointer (some ⟨b, 0, none⟩)] w fun e w' => e = .returned (.tuple #[.int .i64 i, .int .i64 t, .bool true]) ∧ Post w' := by
  have HL := hide hL; have HR := hide hR; have HD := hide hD; have HPd := hide hPd
  clear hL hR hD hPd
  go_enter Tryz.func67, Tryz.ntmps67
  go_wp2_with fail
  refine (unhide HL).mono ?_
  rintro e w1 ⟨rfl, hp⟩
  have HP := hide (unhide HR w1 hp)
  clear hp
  go_wp2_with fail
  refine (unhide HP).mono ?_
  rintro e w2 ⟨rfl, hp⟩
  obtain ⟨hc1, hc2, w3, hrun, hc3, hc4, hpost⟩ := unhide HD w2 hp
  have HPo := hide hpost
  have HRun := hide hrun
  clear hp hpost hrun
  go_wp2_with fail
  go_region_law (refine step_delete rfl _ _ _ _ rfl _ _ rfl rfl (unhide HRun) ?_)
  all_goals
    go_wp2_with fail
    go_region
    all_goals
      go_wp2_with fail
      go_ret3
      exact ⟨rfl, unhide HPd _ (unhide HPo)⟩

theorem fst_any {w : World} {b m : Nat} {O : Nat → Prop} {now : Nat} {L : List Nat} {ls : Nat → List Nat} {us ids ats : Nat → Nat} (h : WH w b m O now L ls us ids ats) :
    Calls Tryz.prog 67 #[.pointer (some ⟨b, 0, none⟩)] w fun e w' => Fr w w' O ∧ ((e = .returned (.tuple #[.int .i64 0, .int .i64 0, .bool false]) ∧ (∀ y ∈ L, now < ats y) ∧ WH w' b m O now L ls us ids ats) ∨
      ∃ x, e = .returned (.tuple #[.int .i64 (ids x : Int), .int .i64 (ats x : Int), .bool true]) ∧ FirstOf ats L x ∧ ats x ≤ now ∧ ∃ ls' us', WH w' b m O now (drop1 x L) ls' us' ids ats) := by
  have hm := h.mem
  have hE := ear_any hm (p := 0) (by omega)
  rcases earI_is ats (ls 0) with ⟨q, e0⟩ | ⟨x, hx, hfo⟩
  · rw [e0, PV_none] at hE
    refine (fst_none b w (fun w' => Below w.heap.size w w') (hE.mono fun e w' hh => hh)).mono ?_
    rintro e w' ⟨rfl, hB⟩
    refine ⟨below_fr hB, .inl ⟨rfl, fun y hy => ?_, h.below hB⟩⟩
    rcases Nat.lt_or_ge now (ats y) with c | c
    · exact c
    · have := (h.pi.over y).2 ⟨hy, c⟩
      rw [q] at this; simp at this
  · obtain ⟨hF1, hF2⟩ := h.pi.firstOf hfo
    rw [hx, PV_some] at hE
    have hxL := hF1.mem
    have hbd := h.pi.bd x hxL
    obtain ⟨l, r, hlr⟩ := List.append_of_mem hfo.mem
    have wfi : (Lit.int .i64 (ids x : Int)).wf = true := by simp [Lit.wf, IntKind.min, IntKind.max, IntKind.signed, IntKind.bits]; omega
    have hfx : byId ids L (ids x : Int) = some x := by
      cases e : byId ids L (ids x : Int) with
      | none =>
        unfold byId at e
        rw [List.find?_eq_none] at e
        have := e x hxL
        simp at this
      | some y =>
        obtain ⟨h1, h2⟩ := byId_some e
        rw [h.pi.idi y h1 x hxL (by omega)]
    have hlen := length_drop1 hxL h.pi.lnd
    have hd1 := drop1_of l r x (by rw [← hlr]; exact hm.nd 0 (by omega))
    rw [← hlr] at hd1
    have hox := hm.ox 0 (by omega) x hfo.mem
    have hcut := h.pi.cut hxL
    rw [home_over hF2] at hcut
    refine (fst_some b m x (ids x : Int) (ats x : Int) w (fun w1 => Below w.heap.size w w1) (fun w2 => Fr w w2 O ∧ WM w2 b m O now (upd ls 0 (drop1 x (ls 0))) us ids ats ∧ MapOK w2 m (byId ids L) L.length ∧ w2.cell? ⟨x, 2, none⟩ = some (.int .i64 (ids x : Int)) ∧ w2.cell? ⟨x, 3, none⟩ = some (.int .i64 (ats x : Int)))
      (fun w3 => Fr w w3 O ∧ WH w3 b m O now (drop1 x L) (upd ls 0 (drop1 x (ls 0))) us ids ats) (fun W hW => ⟨hW.1.drew, hW.2.below (Below.refl _ _).drew⟩) (hE.mono fun e w' hh => hh) ?_ ?_).mono ?_
    · intro w1 hB
      have hW1 := (h.below hB).mem
      have hcl := hW1.cl 0 (by omega); have hnd := hW1.nd 0 (by omega); have hox1 := hW1.ox 0 (by omega)
      rw [hlr] at hcl hnd hox1
      refine (remove_any b 2 x l r w1 hcl hnd (fun q hq => (hox1 q hq).2.1) ?_).mono ?_
      · intro q hq
        rcases List.mem_cons.1 hq with e | e
        · rw [e]; exact hW1.fz b hW1.ob
        · exact hW1.fz q (hox1 q e).1
      · rintro e w2 ⟨rfl, h2, h3⟩
        have hcell : ∀ o, 2 ≤ o → w2.cell? ⟨x, o, none⟩ = w1.cell? ⟨x, o, none⟩ := fun o ho => (rem_ch (p := 0) h3).cell _ _ (by rintro (⟨e, _⟩ | ⟨_, e⟩); exact hox.2.1 e; omega)
        obtain ⟨h4, h5⟩ := hW1.cut (p := 0) (by omega) hlr h2 h3
        rw [← hd1] at h4
        have hcw := hW1.cw 0 (by omega) x hfo.mem
        refine ⟨rfl, (below_fr hB).trans h5.fr (fun _ _ q => q), h4, (h.below hB).map.kept (h5.blk m fun _ q => q.2 rfl), ?_, ?_⟩
        · rw [hcell 2 (by omega)]; exact hcw.1
        · rw [hcell 3 (by omega)]; exact hcw.2.1
    · rintro w2 ⟨hfr, hW2, hM2, hc2, hc3⟩
      have hM2' : MapOK w2.drew m (byId ids L) ((drop1 x L).length + 1) := by
        rw [hlen]; exact hM2.kept rfl
      obtain ⟨w3, hrun, hM3, hT⟩ := hM2'.del (ids x : Int) wfi (by rw [hfx]; rfl) 0
      obtain ⟨hfr3, hsz, hblk, hfz⟩ := turned_fr (O := O) hT hW2.om
      have hcx : ∀ o, w3.cell? ⟨x, o, none⟩ = w2.cell? ⟨x, o, none⟩ := fun o => (World.cell?_of_block (w := w2.drew) (a := ⟨x, o, none⟩) (hblk x hox.2.2)).trans rfl
      refine ⟨hW2.cmap, hc2, w3, hrun, by rw [hcx]; exact hc2, by rw [hcx]; exact hc3, hfr.drew.trans hfr3 (fun _ _ q => q), ?_, ?_, ?_, hcut⟩
      · exact hW2.drew.kept2 (by omega) (fun k _ hk => hblk k hk) fun k hO o => by rw [hfz]; exact hW2.drew.fz k hO o
      · exact hM3.congr (byId_drop ids L x hxL h.pi.idi)
      · intro l hl
        obtain ⟨u1, u2⟩ := h.ub l hl
        refine ⟨u1, fun s hs => ?_⟩
        rw [u2 s hs, upd_other _ _ (by omega)]
    · rintro e w' ⟨rfl, hfr, hW⟩
      exact ⟨hfr, .inr ⟨x, rfl, hF1, hF2, _, _, hW⟩⟩
end Go.Proofs.YtogdekjklbbbiaaGreatDoor

namespace Go.Proofs.YtogdekjklbbbiaaGreatDoor
open Go.ChangeShapes Go.WideShapes Go.ChangeAt Go.RowKit
set_option linter.unusedSimpArgs false
set_option linter.unusedVariables false

/-- A wheel, by what waits: the ids and their times, in the order in which they were inserted. -/
def WA (w : World) (b : Nat) (O : Nat → Prop) (now : Nat) (A : List (Nat × Nat)) : Prop :=
  ∃ m L ls us ids ats, WH w b m O now L ls us ids ats ∧ A = L.map fun x => (ids x, ats x)

theorem WA.olt {w : World} {b : Nat} {O : Nat → Prop} {now : Nat} {A : List (Nat × Nat)} (h : WA w b O now A) {k : Nat} (hk : O k) : k < w.heap.size := by
  obtain ⟨m, L, ls, us, ids, ats, hW, rfl⟩ := h
  exact hW.mem.olt k hk
theorem WA.kept {w w' : World} {b : Nat} {O O' : Nat → Prop} {now : Nat} {A : List (Nat × Nat)} (h : WA w b O now A) (hf : Fr w w' O') (hd : ∀ k, O k → ¬ O' k) : WA w' b O now A := by
  obtain ⟨m, L, ls, us, ids, ats, hW, rfl⟩ := h
  have hk : ∀ k, O k → w'.heap[k]? = w.heap[k]? := fun k hO => hf.blk k (hW.mem.olt k hO) (hd k hO)
  exact ⟨m, L, ls, us, ids, ats, ⟨hW.mem.kept hf.size hk, hW.map.kept (hk m hW.mem.om), hW.ub, hW.pi⟩, rfl⟩
theorem WA.bd {w : World} {b : Nat} {O : Nat → Prop} {now : Nat} {A : List (Nat × Nat)} (h : WA w b O now A) : ∀ p ∈ A, p.1 < 9223372036854775808 ∧ p.2 < 9223372036854775808 := by
  obtain ⟨m, L, ls, us, ids, ats, hW, rfl⟩ := h
  intro p hp
  obtain ⟨x, hx, rfl⟩ := List.mem_map.1 hp
  exact hW.pi.bd x hx
theorem WA.now {w : World} {b : Nat} {O : Nat → Prop} {now : Nat} {A : List (Nat × Nat)} (h : WA w b O now A) : now < 9223372036854775808 := by
  obtain ⟨m, L, ls, us, ids, ats, hW, rfl⟩ := h
  exact hW.mem.nowlt

theorem wa_new (w : World) :
    Calls Tryz.prog 19 #[] w fun e w' => ∃ b, e = .returned (.pointer (some ⟨b, 0, none⟩)) ∧ Fr w w' (fun _ => False) ∧ ∃ O : Nat → Prop, WA w' b O 0 [] ∧ ∀ k, O k → w.heap.size ≤ k := by
  refine (new_any w).mono ?_
  rintro e w' ⟨rfl, h1, h2, h3⟩
  exact ⟨_, rfl, h1, _, ⟨_, [], _, _, _, _, h3, rfl⟩, fun k hk => hk.1⟩

def hasId (A : List (Nat × Nat)) (id : Int) : Prop := ∃ p ∈ A, (p.1 : Int) = id
instance (A : List (Nat × Nat)) (id : Int) : Decidable (hasId A id) := by unfold hasId; infer_instance
def insE (A : List (Nat × Nat)) (id t : Int) : Int := if id < 0 ∨ t < 0 then 1 else if hasId A id then 4 else 0
def insA (A : List (Nat × Nat)) (id t : Int) : List (Nat × Nat) := if id < 0 ∨ t < 0 then A else if hasId A id then A else A ++ [(id.toNat, t.toNat)]

theorem wa_insert {w : World} {b : Nat} {O : Nat → Prop} {now : Nat} {A : List (Nat × Nat)} (h : WA w b O now A) (id t : Int) (b1 : id < 9223372036854775808) (b2 : t < 9223372036854775808) (hl : A.length < maxLen) :
    Calls Tryz.prog 111 #[.pointer (some ⟨b, 0, none⟩), .int .i64 id, .int .i64 t] w fun e w' => e = .returned (.int .i64 (insE A id t)) ∧ Fr w w' O ∧ ∃ O' : Nat → Prop, WA w' b O' now (insA A id t) ∧ ∀ k, O' k → O k ∨ w.heap.size ≤ k := by
  have hA := h
  obtain ⟨m, L, ls, us, ids, ats, hW, hAe⟩ := h
  by_cases hneg : id < 0 ∨ t < 0
  · refine (insert_bad b id t w hneg).mono ?_
    rintro e w' ⟨rfl, rfl⟩
    refine ⟨by rw [insE, if_pos hneg], Fr.refl _ _, O, ?_, fun k hk => .inl hk⟩
    rw [insA, if_pos hneg]; exact hA
  · have i1 : 0 ≤ id := by omega
    have i2 : 0 ≤ t := by omega
    obtain ⟨idn, rfl⟩ := Int.eq_ofNat_of_zero_le i1
    obtain ⟨tn, rfl⟩ := Int.eq_ofNat_of_zero_le i2
    have wfi : (Lit.int .i64 (idn : Int)).wf = true := by simp [Lit.wf, IntKind.min, IntKind.max, IntKind.signed, IntKind.bits]; omega
    have hlook := hW.map.look (idn : Int) wfi
    by_cases hh : hasId A (idn : Int)
    · obtain ⟨p, hp, hpe⟩ := hh
      have hh : hasId A (idn : Int) := ⟨p, hp, hpe⟩
      rw [hAe] at hp
      obtain ⟨x, hx, rfl⟩ := List.mem_map.1 hp
      have hsome : ∃ y, byId ids L (idn : Int) = some y := by
        apply Option.isSome_iff_exists.1
        unfold byId
        rw [List.find?_isSome]
        exact ⟨x, hx, by simpa using hpe⟩
      obtain ⟨y, hy⟩ := hsome
      rw [hy, PV_some] at hlook
      refine (insert_twice b m y _ _ w i1 i2 hW.mem.cmap hlook).mono ?_
      rintro e w' ⟨rfl, rfl⟩
      refine ⟨by rw [insE, if_neg hneg, if_pos hh], Fr.refl _ _, O, ?_, fun k hk => .inl hk⟩
      rw [insA, if_neg hneg, if_pos hh]; exact hA
    · have hid : ∀ y ∈ L, ids y ≠ idn := by
        intro y hy e
        apply hh
        rw [hAe]
        exact ⟨(ids y, ats y), List.mem_map.2 ⟨y, hy, rfl⟩, by simp [e]⟩
      have hxn : w.heap.size ∉ L := by
        intro q
        have := hW.mem.olt _ (hW.mem.ox _ (home_lt hW.mem.nowlt (hW.pi.bd _ q).2) _ (hW.pi.mem q)).1
        omega
      refine (insert_ok hW idn tn (by omega) (by omega) hid (by rw [hAe] at hl; simpa using hl)).mono ?_
      rintro e w' ⟨rfl, h1, h2⟩
      refine ⟨by rw [insE, if_neg hneg, if_neg hh], h1, _, ⟨m, _, _, _, _, _, h2, ?_⟩, ?_⟩
      · rw [insA, if_neg hneg, if_neg hh, hAe, List.map_append]
        congr 1
        · apply List.map_congr_left
          intro x hx
          have hne : x ≠ w.heap.size := fun e => hxn (e ▸ hx)
          rw [upd_other _ _ hne, upd_other _ _ hne]
        · simp [upd]
      · intro k hk
        exact hk.imp id fun q => q.1

def canE (A : List (Nat × Nat)) (id : Int) : Int := if hasId A id then 0 else 5
def canA (A : List (Nat × Nat)) (id : Int) : List (Nat × Nat) := A.filter fun p => decide ((p.1 : Int) ≠ id)
theorem wa_cancel {w : World} {b : Nat} {O : Nat → Prop} {now : Nat} {A : List (Nat × Nat)} (h : WA w b O now A) (id : Int) (b0 : -9223372036854775808 ≤ id) (b1 : id < 9223372036854775808) :
    Calls Tryz.prog 83 #[.pointer (some ⟨b, 0, none⟩), .int .i64 id] w fun e w' => e = .returned (.int .i64 (canE A id)) ∧ Fr w w' O ∧ WA w' b O now (canA A id) := by
  have hA := h
  obtain ⟨m, L, ls, us, ids, ats, hW, hAe⟩ := h
  have wfi : (Lit.int .i64 id).wf = true := by simp [Lit.wf, IntKind.min, IntKind.max, IntKind.signed, IntKind.bits]; omega
  have hlook := hW.map.look id wfi
  by_cases hh : hasId A id
  · obtain ⟨p, hp, hpe⟩ := hh
    have hh : hasId A id := ⟨p, hp, hpe⟩
    rw [hAe] at hp
    obtain ⟨x, hx, rfl⟩ := List.mem_map.1 hp
    have hpe' : (ids x : Int) = id := hpe
    rw [← hpe'] at hh ⊢
    refine (cancel_ok hW hx).mono ?_
    rintro e w' ⟨rfl, h1, h2, us', h3⟩
    refine ⟨by rw [canE, if_pos hh], h1, ⟨m, _, _, _, _, _, h3, ?_⟩⟩
    rw [canA, hAe, List.filter_map]
    congr 1
    unfold drop1
    apply List.filter_congr
    intro y hy
    simp only [Function.comp, decide_eq_decide]
    constructor
    · intro q e; exact q (by rw [e])
    · intro q e; exact q (hW.pi.idi y hy x hx (by omega))
  · have hnone : byId ids L id = none := by
      unfold byId
      rw [List.find?_eq_none]
      intro x hx
      simp
      intro e
      apply hh
      rw [hAe]
      exact ⟨(ids x, ats x), List.mem_map.2 ⟨x, hx, rfl⟩, e⟩
    rw [hnone, PV_none] at hlook
    refine (cancel_none b m id w hW.mem.cmap hlook).mono ?_
    rintro e w' ⟨rfl, rfl⟩
    refine ⟨by rw [canE, if_neg hh], Fr.refl _ _, ?_⟩
    have : canA A id = A := by
      unfold canA
      apply List.filter_eq_self.2
      intro p hp
      simp
      exact fun e => hh ⟨p, hp, e⟩
    rw [this]; exact hA

theorem wa_turn {w : World} {b : Nat} {O : Nat → Prop} {now : Nat} {A : List (Nat × Nat)} (h : WA w b O now A) (hT : TabW w) (h0 : ¬ O 0) (t : Int) (ht : t < 9223372036854775808) :
    Calls Tryz.prog 65 #[.pointer (some ⟨b, 0, none⟩), .int .i64 t] w fun e w' => e = .returned (.tuple #[]) ∧ ∃ N : Nat, (N : Int) = max (now : Int) t ∧ Fr w w' O ∧ WA w' b O N A := by
  obtain ⟨m, L, ls, us, ids, ats, hW, rfl⟩ := h
  refine (turn_any hW hT h0 t ht).mono ?_
  rintro e w' ⟨rfl, N, hN, h1, h2, ls', us', h3⟩
  exact ⟨rfl, N, hN, h1, m, L, ls', us', ids, ats, h3, rfl⟩
/-- The first of those with the least time, and what is left. -/
def FirstA (A : List (Nat × Nat)) (p : Nat × Nat) (A' : List (Nat × Nat)) : Prop := ∃ l r, A = l ++ p :: r ∧ A' = l ++ r ∧ (∀ q ∈ l, p.2 < q.2) ∧ ∀ q ∈ r, p.2 ≤ q.2
theorem wa_first {w : World} {b : Nat} {O : Nat → Prop} {now : Nat} {A : List (Nat × Nat)} (h : WA w b O now A) :
    Calls Tryz.prog 67 #[.pointer (some ⟨b, 0, none⟩)] w fun e w' => Fr w w' O ∧ ((e = .returned (.tuple #[.int .i64 0, .int .i64 0, .bool false]) ∧ (∀ p ∈ A, now < p.2) ∧ WA w' b O now A) ∨
      ∃ p A', e = .returned (.tuple #[.int .i64 (p.1 : Int), .int .i64 (p.2 : Int), .bool true]) ∧ FirstA A p A' ∧ p.2 ≤ now ∧ WA w' b O now A') := by
  obtain ⟨m, L, ls, us, ids, ats, hW, rfl⟩ := h
  refine (fst_any hW).mono ?_
  rintro e w' ⟨hf, ⟨rfl, h1, h2⟩ | ⟨x, rfl, ⟨l, r, hlr, h1, h2⟩, h3, ls', us', h4⟩⟩
  · refine ⟨hf, .inl ⟨rfl, ?_, m, L, ls, us, ids, ats, h2, rfl⟩⟩
    intro p hp
    obtain ⟨y, hy, rfl⟩ := List.mem_map.1 hp
    exact h1 y hy
  · refine ⟨hf, .inr ⟨(ids x, ats x), (drop1 x L).map (fun x => (ids x, ats x)), rfl, ⟨l.map (fun x => (ids x, ats x)), r.map (fun x => (ids x, ats x)), ?_, ?_, ?_, ?_⟩, h3, m, _, ls', us', ids, ats, h4, rfl⟩⟩
    · rw [hlr, List.map_append, List.map_cons]
    · have hnd := hW.pi.lnd
      rw [hlr] at hnd
      rw [hlr, drop1_of l r x hnd, List.map_append]
    · intro q hq
      obtain ⟨y, hy, rfl⟩ := List.mem_map.1 hq
      exact h1 y hy
    · intro q hq
      obtain ⟨y, hy, rfl⟩ := List.mem_map.1 hq
      exact h2 y hy

def LeastOf (A : List (Nat × Nat)) (v : Int) : Prop := (A = [] ∧ v = -1) ∨ ∃ p ∈ A, v = (p.2 : Int) ∧ ∀ q ∈ A, p.2 ≤ q.2
theorem LeastOf.eq {A : List (Nat × Nat)} {v v' : Int} (h : LeastOf A v) (k : LeastOf A v') : v = v' := by
  rcases h with ⟨rfl, rfl⟩ | ⟨x, hx, rfl, hle⟩ <;> rcases k with ⟨e, rfl⟩ | ⟨y, hy, rfl, hle'⟩
  · rfl
  · simp at hy
  · rw [e] at hx; simp at hx
  · have := hle y hy; have := hle' x hx; omega
theorem wa_next {w : World} {b : Nat} {O : Nat → Prop} {now : Nat} {A : List (Nat × Nat)} (h : WA w b O now A) (hT : TabW w) :
    Calls Tryz.prog 26 #[.pointer (some ⟨b, 0, none⟩)] w fun e w' => ∃ v : Int, e = .returned (.int .i64 v) ∧ LeastOf A v ∧ Below w.heap.size w w' := by
  obtain ⟨m, L, ls, us, ids, ats, hW, rfl⟩ := h
  refine (next_any hW hT).mono ?_
  rintro e w' ⟨v, rfl, hv, hB⟩
  refine ⟨v, rfl, ?_, hB⟩
  rcases hv with ⟨rfl, rfl⟩ | ⟨x, hx, rfl, hle⟩
  · exact .inl ⟨rfl, rfl⟩
  · refine .inr ⟨(ids x, ats x), List.mem_map.2 ⟨x, hx, rfl⟩, rfl, ?_⟩
    intro q hq
    obtain ⟨y, hy, rfl⟩ := List.mem_map.1 hq
    exact hle y hy

end Go.Proofs.YtogdekjklbbbiaaGreatDoor
