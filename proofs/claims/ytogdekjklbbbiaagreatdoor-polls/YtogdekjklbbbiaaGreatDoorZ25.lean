import Derived.Test.YtogdekjklbbbiaaGreatDoorFirstAny
import Derived.Deep.LoopGhost
import Derived.Laws.AppendOwn
set_option maxRecDepth 100000
namespace Go.Proofs.YtogdekjklbbbiaaGreatDoor
open Go.ChangeShapes Go.WideShapes Go.ChangeAt Go.RowKit
set_option linter.unusedSimpArgs false
set_option linter.unusedVariables false

set_option maxHeartbeats 1000000 in
theorem open_walk (b l s u now n' : Nat) (w : World) (xs : List Nat) (hl10 : l ≤ 10) (hs64 : s < 64) (hu : u < 18446744073709551616) (hn : w.cell? ⟨b, 0, none⟩ = some (.int .i64 (now : Int)))
    (hcu : w.cell? ⟨b, 1412 + l, none⟩ = some (.int .u64 (u : Int))) (fz : ∀ o, w.frozen? ⟨b, o, none⟩ = false)
    (hst : Calls Tryz.prog 113 #[.pointer (some ⟨b, 0, none⟩), .int .i64 l, .int .i64 s] w fun e w' => e = .returned (.int .i64 (n' : Int)) ∧ w' = w)
    (R : List Nat → World → Prop) (R' : Nat → List Nat → World → Prop)
    (h0 : R xs ((w.setCell ⟨b, 0, none⟩ (.int .i64 (n' : Int))).setCell ⟨b, 1412 + l, none⟩ (.int .u64 ((u &&& (18446744073709551615 - 2 ^ s) : Nat) : Int))).drew)
    (hE : ∀ r wr, R r wr → Calls Tryz.prog 70 #[.pointer (some ⟨b, 4 + l * 128 + s * 2, none⟩)] wr fun e w' => e = .returned (.bool r.isEmpty) ∧ w' = wr)
    (hP : ∀ x r wr, R (x :: r) wr → Calls Tryz.prog 141 #[.pointer (some ⟨b, 4 + l * 128 + s * 2, none⟩)] wr fun e w' => e = .returned (.pointer (some ⟨x, 0, none⟩)) ∧ R' x r w')
    (hQ : ∀ x r wr, R' x r wr → Calls Tryz.prog 139 #[.pointer (some ⟨b, 0, none⟩), .pointer (some ⟨x, 0, none⟩)] wr fun e w' => e = .returned (.tuple #[]) ∧ R r w') :
    Calls Tryz.prog 114 #[.pointer (some ⟨b, 0, none⟩), .int .i64 l, .int .i64 s] w fun e w' => e = .returned (.tuple #[]) ∧ R [] w' := by
  have HS := hide hst; have H0 := hide h0; have HE := hide hE; have HP := hide hP; have HQ := hide hQ
  clear hst h0 hE hP hQ
  have e1 : (l : Int) < 11 := by omega
  have e2 : (s : Int) < 64 := by omega
  have f0 := fz 0; have f1 := fz (1412 + l)
  clear fz
  have hps : (2 : Nat) ^ s < 18446744073709551616 := by
    have : (2 : Nat) ^ s < 2 ^ 64 := Nat.pow_lt_pow_right (by decide) hs64
    exact Nat.lt_of_lt_of_le this (by decide)
  have eor := u64_andNot_nat u (2 ^ s) hu hps
  have hc2 : ((2 ^ s : Nat) : Int) = (2 : Int) ^ s := by simp
  rw [hc2] at eor
  have hps2 : (2 : Int) ^ s < 18446744073709551616 := by rw [← hc2]; omega
  have hps3 : (0 : Int) < (2 : Int) ^ s := Int.pow_pos (by decide)
  obtain ⟨P, hP⟩ : ∃ P, (2 : Int) ^ s = P := ⟨_, rfl⟩
  rw [hP] at hps2 hps3 eor
  obtain ⟨V, hV⟩ : ∃ V, ((u &&& (18446744073709551615 - 2 ^ s) : Nat) : Int) = V := ⟨_, rfl⟩
  rw [hV] at eor H0
  clear hc2 hps hV
  go_enter Tryz.func114, Tryz.ntmps114
  go_wp2_with fail
  refine (unhide HS).mono ?_
  rintro e w1 ⟨rfl, rfl⟩
  go_wp2
  go_region
  all_goals
    go_wp2
    go_loopg [33] xs.length (fun k p wr => ∃ r, k = r.length ∧ R r wr)
    case atStart => exact ⟨xs, rfl, unhide H0⟩
    case round =>
      obtain ⟨r, hk, hR⟩ := hrel
      have HK := hide hk; have HR := hide hR
      clear hk hR
      cases r with
      | nil =>
        go_wp2_with fail
        refine (unhide HE _ _ (unhide HR)).mono ?_
        rintro e w2 ⟨rfl, hw2⟩
        rw [hw2]
        go_wp2
        go_end0
        exact ⟨rfl, unhide HR⟩
      | cons x r =>
        go_wp2_with fail
        refine (unhide HE _ _ (unhide HR)).mono ?_
        rintro e w2 ⟨rfl, hw2⟩
        rw [hw2]
        go_wp2_with fail
        refine (unhide HP _ _ _ (unhide HR)).mono ?_
        rintro e w3 ⟨rfl, hR3⟩
        have HR3 := hide hR3
        clear hR3
        go_wp2_with fail
        refine (unhide HQ _ _ _ (unhide HR3)).mono ?_
        rintro e w4 ⟨rfl, hR4⟩
        have HR4 := hide hR4
        clear hR4
        go_wp2
        go_roundg r.length
        case measure => rw [unhide HK]; simp
        case rel => exact ⟨r, rfl, unhide HR4⟩

def opn (ls : Nat → List Nat) (p n' : Nat) (ats : Nat → Nat) (d r : List Nat) (q : Nat) : List Nat := if q = p then r else ls q ++ d.filter (fun x => decide (home n' (ats x) = q))

theorem opn_start (ls : Nat → List Nat) (p n' : Nat) (ats : Nat → Nat) : opn ls p n' ats [] (ls p) = ls := by
  funext q
  unfold opn
  split
  · rename_i e; rw [e]
  · simp
theorem opn_pop (ls : Nat → List Nat) (p n' : Nat) (ats : Nat → Nat) (d r : List Nat) (x : Nat) : upd (opn ls p n' ats d (x :: r)) p r = opn ls p n' ats d r := by
  funext q
  unfold upd opn
  split <;> simp [*]
theorem opn_put (ls : Nat → List Nat) (p n' : Nat) (ats : Nat → Nat) (d r : List Nat) (x : Nat) (h : home n' (ats x) ≠ p) : upd (opn ls p n' ats d r) (home n' (ats x)) (opn ls p n' ats d r (home n' (ats x)) ++ [x]) = opn ls p n' ats (d ++ [x]) r := by
  funext q
  unfold upd opn
  by_cases e : q = home n' (ats x)
  · subst e
    simp [h, List.filter_append]
  · rw [if_neg e]
    by_cases e' : q = p
    · simp [e']
    · have e2 : ¬ home n' (ats x) = q := fun q' => e q'.symm
      simp [e', List.filter_append, e2]

/-- What stands in the first slot: its level, its slot, and that it is ahead. -/
theorem slot_of {now t l s : Nat} (h : home now t = 1 + 64 * l + s) (hs : s < 64) : now < t ∧ lv now t = l ∧ sl t l = s := by
  have h1 : now < t := by
    by_cases q : t ≤ now
    · rw [home_over q] at h; omega
    · omega
  rw [home_slot h1] at h
  have h2 := sl_lt t (lv now t)
  have h3 : lv now t = l := by omega
  refine ⟨h1, h3, ?_⟩
  rw [h3] at h
  omega

theorem PI.open {now : Nat} {L : List Nat} {ls : Nat → List Nat} {ids ats : Nat → Nat} (h : PI now L ls ids ats) (hnow : now < 9223372036854775808) {l s : Nat} (hF : FirstAt ls l s) :
    now < st now l s ∧ st now l s < 9223372036854775808 ∧ PI (st now l s) L (opn ls (1 + 64 * l + s) (st now l s) ats (ls (1 + 64 * l + s)) []) ids ats ∧
      (∀ x ∈ ls (1 + 64 * l + s), home (st now l s) (ats x) ≠ 1 + 64 * l + s) ∧ (L.map fun x => home (st now l s) (ats x)).sum < (L.map fun x => home now (ats x)).sum := by
  have hl := hF.l11; have hs := hF.s64
  have hp : 1 + 64 * l + s < 705 := by omega
  obtain ⟨x0, hx0⟩ := List.exists_mem_of_ne_nil _ hF.ne
  have hk : ∀ x ∈ ls (1 + 64 * l + s), now < ats x ∧ lv now (ats x) = l ∧ sl (ats x) l = s := fun x hx => slot_of (h.A _ hp x hx).1 hs
  have hst : ∀ x ∈ ls (1 + 64 * l + s), st now l s = st now (lv now (ats x)) (sl (ats x) (lv now (ats x))) := by
    intro x hx
    obtain ⟨_, h2, h3⟩ := hk x hx
    rw [h2, h3]
  have hgt : now < st now l s := by rw [hst x0 hx0]; exact st_gt (hk x0 hx0).1
  have hle : ∀ x ∈ ls (1 + 64 * l + s), st now l s ≤ ats x := fun x hx => by rw [hst x hx]; exact st_le (hk x hx).1
  have hlt : st now l s < 9223372036854775808 := Nat.lt_of_le_of_lt (hle x0 hx0) (h.bd x0 (h.A _ hp x0 hx0).2).2
  have hlow : ∀ x ∈ ls (1 + 64 * l + s), home (st now l s) (ats x) < 1 + 64 * l := by
    intro x hx
    have := home_lower (hk x hx).1
    rw [← hst x hx, (hk x hx).2.1] at this
    exact this
  -- what stands elsewhere stays
  have hkeep : ∀ x ∈ L, x ∉ ls (1 + 64 * l + s) → home (st now l s) (ats x) = home now (ats x) := by
    intro x hx hn
    have hxm := h.mem hx
    by_cases q : ats x ≤ now
    · rw [home_over q, home_over (by omega)]
    · have q' : now < ats x := by omega
      refine (home_keep q' (Nat.le_of_lt hgt) hs (Nat.le_refl _) ?_).1
      have hh := home_slot q'
      have hsl := sl_lt (ats x) (lv now (ats x))
      have hlv := lv_le hnow (h.bd x hx).2
      rcases Nat.lt_trichotomy l (lv now (ats x)) with c | c | c
      · exact .inl c
      · rcases Nat.lt_trichotomy s (sl (ats x) l) with c' | c' | c'
        · exact .inr (.inl ⟨c, c'⟩)
        · exfalso
          apply hn
          rw [hh, ← c, ← c'] at hxm
          exact hxm
        · exfalso
          rw [hh, ← c, hF.lo' _ c'] at hxm
          simp at hxm
      · exfalso
        rw [hh, hF.lo _ c _ hsl] at hxm
        simp at hxm
  have hmemp : ∀ x ∈ L, (x ∈ ls (1 + 64 * l + s) ↔ home now (ats x) = 1 + 64 * l + s) := by
    intro x hx
    constructor
    · intro q; exact (h.A _ hp x q).1
    · intro q; have := h.mem hx; rw [q] at this; exact this
  refine ⟨hgt, hlt, ⟨h.lnd, h.idi, h.bd, ?_, ?_⟩, fun x hx => by have := hlow x hx; omega, ?_⟩
  · intro p hpp x hx
    unfold opn at hx
    split at hx
    · simp at hx
    · rename_i e
      rcases List.mem_append.1 hx with q | q
      · obtain ⟨h1, h2⟩ := h.A p hpp x q
        refine ⟨?_, h2⟩
        rw [hkeep x h2 (fun q' => e (by rw [← h1]; exact (h.A _ hp x q').1))]
        exact h1
      · obtain ⟨q1, q2⟩ := List.mem_filter.1 q
        exact ⟨by simpa using q2, (h.A _ hp x q1).2⟩
  · intro x hx
    unfold opn
    by_cases q : x ∈ ls (1 + 64 * l + s)
    · have hlo := hlow x q
      rw [if_neg (by omega), List.filter_append]
      have e1 : (ls (home (st now l s) (ats x))).filter (fun y => decide (ats y = ats x)) = [] := by
        rw [List.filter_eq_nil_iff]
        intro y hy
        simp
        intro e
        have := (h.A _ (by omega) y hy).1
        rw [e, (h.A _ hp x q).1] at this
        omega
      rw [e1, List.nil_append, List.filter_filter, ← h.B x hx, (h.A _ hp x q).1]
      apply List.filter_congr
      intro y hy
      by_cases e : ats y = ats x
      · simp [e]
      · simp [e]
    · have hne : home now (ats x) ≠ 1 + 64 * l + s := fun e => q ((hmemp x hx).2 e)
      rw [hkeep x hx q, if_neg hne, List.filter_append, h.B x hx]
      have e1 : ((ls (1 + 64 * l + s)).filter (fun y => decide (home (st now l s) (ats y) = home now (ats x)))).filter (fun y => decide (ats y = ats x)) = [] := by
        rw [List.filter_filter, List.filter_eq_nil_iff]
        intro y hy
        simp
        intro e
        exfalso
        exact hne (by rw [← e]; exact (h.A _ hp y hy).1)
      rw [e1, List.append_nil]
  · have hx0L := (h.A _ hp x0 hx0).2
    have hall : ∀ x ∈ L, home (st now l s) (ats x) ≤ home now (ats x) := by
      intro x hx
      by_cases q : x ∈ ls (1 + 64 * l + s)
      · have := hlow x q
        rw [(h.A _ hp x q).1]
        omega
      · rw [hkeep x hx q]; exact Nat.le_refl _
    have hone : home (st now l s) (ats x0) < home now (ats x0) := by
      have := hlow x0 hx0
      rw [(h.A _ hp x0 hx0).1]
      omega
    clear hkeep hmemp hlow hst hk hle
    have gen : ∀ M : List Nat, (∀ x ∈ M, home (st now l s) (ats x) ≤ home now (ats x)) → (M.map fun x => home (st now l s) (ats x)).sum ≤ (M.map fun x => home now (ats x)).sum ∧ (x0 ∈ M → (M.map fun x => home (st now l s) (ats x)).sum < (M.map fun x => home now (ats x)).sum) := by
      intro M
      induction M with
      | nil => intro _; simp
      | cons y r ih =>
        intro hM
        obtain ⟨i1, i2⟩ := ih (fun x hx => hM x (by simp [hx]))
        have := hM y (by simp)
        simp only [List.map_cons, List.sum_cons]
        refine ⟨by omega, fun hm => ?_⟩
        rcases List.mem_cons.1 hm with e | e
        · rw [← e]; omega
        · have := i2 e; omega
    exact (gen L hall).2 hx0L

theorem open_any {w : World} {b m : Nat} {O : Nat → Prop} {now : Nat} {L : List Nat} {ls : Nat → List Nat} {us ids ats : Nat → Nat} (h : WH w b m O now L ls us ids ats) {l s : Nat} (hF : FirstAt ls l s) :
    Calls Tryz.prog 114 #[.pointer (some ⟨b, 0, none⟩), .int .i64 l, .int .i64 s] w fun e w' => e = .returned (.tuple #[]) ∧ Ch w w' (fun a _ => O a ∧ a ≠ m) ∧ ∃ ls' us', WH w' b m O (st now l s) L ls' us' ids ats := by
  have hm := h.mem
  obtain ⟨hgt, hlt, hPI, hne, _⟩ := h.pi.open hm.nowlt hF
  have hl := hF.l11; have hs := hF.s64
  have hp : 1 + 64 * l + s < 705 := by omega
  have eo : 2 + 2 * (1 + 64 * l + s) = 4 + l * 128 + s * 2 := by omega
  let R : List Nat → World → Prop := fun r wr => ∃ d us1, ls (1 + 64 * l + s) = d ++ r ∧ WM wr b m O (st now l s) (opn ls (1 + 64 * l + s) (st now l s) ats d r) us1 ids ats ∧ UB us1 (opn ls (1 + 64 * l + s) (st now l s) ats d r) (1 + 64 * l + s) ∧ Ch w wr (fun a _ => O a ∧ a ≠ m)
  let R' : Nat → List Nat → World → Prop := fun x r wr => ∃ d us1 v0 v1, ls (1 + 64 * l + s) = d ++ x :: r ∧ WM wr b m O (st now l s) (opn ls (1 + 64 * l + s) (st now l s) ats d r) us1 ids ats ∧ UB us1 (opn ls (1 + 64 * l + s) (st now l s) ats d r) (1 + 64 * l + s) ∧ Ch w wr (fun a _ => O a ∧ a ≠ m) ∧ wr.cell? ⟨x, 0, none⟩ = some v0 ∧ wr.cell? ⟨x, 1, none⟩ = some v1 ∧ wr.cell? ⟨x, 2, none⟩ = some (.int .i64 (ids x : Int)) ∧ wr.cell? ⟨x, 3, none⟩ = some (.int .i64 (ats x : Int))
  refine (open_walk b l s (us l) now (st now l s) w (ls (1 + 64 * l + s)) (by omega) hs (h.ub l hl).1 hm.cnow (hm.cu l hl) (hm.fz b hm.ob) (startOf_any b now l s w hm.cnow hm.nowlt (by omega) hs hlt) R R' ?_ ?_ ?_ ?_).mono ?_
  · refine ⟨[], upd us l (us l &&& (18446744073709551615 - 2 ^ s)), rfl, ?_, ?_, ?_⟩
    · rw [opn_start]; exact ((hm.setNow (st now l s) hlt).setUsed l hl _).drew
    · rw [opn_start]; exact h.ub.clr l s hl hs
    · exact (((Ch.refl w _).setCell ⟨hm.ob, hm.bm⟩ _).setCell ⟨hm.ob, hm.bm⟩ _).drew
  · rintro r wr ⟨d, us1, e, hW, hU, hC⟩
    have := emptyAt hW hp
    rw [eo] at this
    rw [show opn ls (1 + 64 * l + s) (st now l s) ats d r (1 + 64 * l + s) = r by simp [opn]] at this
    exact this
  · rintro x r wr ⟨d, us1, e, hW, hU, hC⟩
    have hcw := hW.cw _ hp x (by simp [opn])
    have hpop := popAt hW hp (x := x) (r := r) (by simp [opn])
    rw [eo, opn_pop] at hpop
    refine hpop.mono ?_
    rintro e' w' ⟨rfl, k1, k2, ⟨v0, k3⟩, ⟨v1, k4⟩, k5, k6⟩
    refine ⟨rfl, d, us1, v0, v1, e, k1, ?_, (hC.trans k2).mono fun a o q => q.elim id id, k3, k4, k5.trans hcw.1, k6.trans hcw.2.1⟩
    have := hU.pop r
    rw [opn_pop] at this
    exact this
  · rintro x r wr ⟨d, us1, v0, v1, e, hW, hU, hC, k0, k1, k2, k3⟩
    have hxp : x ∈ ls (1 + 64 * l + s) := by rw [e]; simp
    have hxL := (h.pi.A _ hp x hxp).2
    have hbd := h.pi.bd x hxL
    have hox := hm.ox _ hp x hxp
    have hnd := hm.nd _ hp
    rw [e] at hnd
    have hxn : ∀ q, q < 705 → x ∉ opn ls (1 + 64 * l + s) (st now l s) ats d r q := by
      intro q hq hx
      rw [List.nodup_append] at hnd
      unfold opn at hx
      split at hx
      · exact (List.nodup_cons.1 hnd.2.1).1 hx
      · rename_i e'
        rcases List.mem_append.1 hx with q1 | q1
        · exact e' (hm.dj q _ x hq hp q1 hxp)
        · exact hnd.2.2 x (List.mem_filter.1 q1).1 x (by simp) rfl
    have hpl := place_any hW (fun l hl => (hU l hl).1) hox hxn k0 k1 k2 k3 hbd.1 hbd.2
    rw [opn_put _ _ _ _ _ _ _ (hne x hxp)] at hpl
    refine hpl.mono ?_
    rintro e' w' ⟨rfl, j1, j2⟩
    refine ⟨rfl, d ++ [x], _, by rw [e]; simp, j1, ?_, (hC.trans j2).mono fun a o q => q.elim id id⟩
    have := hU.put (x := x) (lv_le hlt hbd.2) (fun _ => hne x hxp)
    rw [opn_put _ _ _ _ _ _ _ (hne x hxp)] at this
    exact this
  · rintro e w' ⟨rfl, d, us1, e1, hW, hU, hC⟩
    rw [List.append_nil] at e1
    refine ⟨rfl, hC, _, us1, ⟨hW, ?_, hU.done (by simp [opn]), ?_⟩⟩
    · exact h.map.kept (hC.blk m fun _ q => q.2 rfl)
    · rw [← e1]; exact hPI
end Go.Proofs.YtogdekjklbbbiaaGreatDoor

namespace Go.Proofs.YtogdekjklbbbiaaGreatDoor
open Go.ChangeShapes Go.WideShapes Go.ChangeAt Go.RowKit
set_option linter.unusedSimpArgs false
set_option linter.unusedVariables false

theorem home_zero {now t : Nat} : home now t = 0 ↔ t ≤ now := by
  constructor
  · intro h
    by_cases q : t ≤ now
    · exact q
    · rw [home_slot (by omega)] at h; omega
  · exact home_over
theorem PI.over {now : Nat} {L : List Nat} {ls : Nat → List Nat} {ids ats : Nat → Nat} (h : PI now L ls ids ats) (x : Nat) : x ∈ ls 0 ↔ x ∈ L ∧ ats x ≤ now := by
  constructor
  · intro q
    obtain ⟨h1, h2⟩ := h.A 0 (by omega) x q
    exact ⟨h2, home_zero.1 h1⟩
  · rintro ⟨h1, h2⟩
    have := h.mem h1
    rwa [home_over h2] at this
theorem grown_fr {w wr w' : World} {O : Nat → Prop} {row : Option Nat} (h : Fr w wr O) (hg : wr.grownBy w' row) (hr : ∀ k, row = some k → w.heap.size ≤ k) : Fr w w' O :=
  ⟨hg.os.trans h.os, hg.tape.trans h.tape, hg.output.trans h.output, Nat.le_trans h.size hg.size, fun k hk hn => (hg.block k (Nat.lt_of_lt_of_le hk h.size) (fun e => by have := hr k e.symm; omega)).trans (h.blk k hk hn)⟩
theorem ch_fr {w wr w' : World} {O : Nat → Prop} {S : Nat → Nat → Prop} (h : Fr w wr O) (hc : Ch wr w' S) (hS : ∀ k o, S k o → k < w.heap.size → O k) : Fr w w' O :=
  ⟨hc.os.trans h.os, hc.tape.trans h.tape, hc.output.trans h.output, by rw [hc.size]; exact h.size, fun k hk hn => (hc.blk k fun o q => hn (hS k o q hk)).trans (h.blk k hk hn)⟩


set_option maxHeartbeats 1000000 in
theorem turn_walk (b k0 : Nat) (t : Int) (w : World) (R : Nat → World → Prop) (R1 : Nat → World → Prop) (h0 : R k0 w)
    (hF : ∀ k wr, R k wr → Calls Tryz.prog 72 #[.pointer (some ⟨b, 0, none⟩)] wr fun e w' => w' = wr ∧ ((e = .returned (.tuple #[.int .i64 0, .int .i64 0, .bool false]) ∧ ∃ n, R1 n wr) ∨
      ∃ l s n' : Nat, e = .returned (.tuple #[.int .i64 (l : Int), .int .i64 (s : Int), .bool true]) ∧
        (Calls Tryz.prog 113 #[.pointer (some ⟨b, 0, none⟩), .int .i64 l, .int .i64 s] wr fun e w' => e = .returned (.int .i64 (n' : Int)) ∧ w' = wr) ∧
        (t < (n' : Int) → ∃ n, R1 n wr) ∧ ((n' : Int) ≤ t → Calls Tryz.prog 114 #[.pointer (some ⟨b, 0, none⟩), .int .i64 l, .int .i64 s] wr fun e w' => e = .returned (.tuple #[]) ∧ ∃ k', k' < k ∧ R k' w')))
    (hN : ∀ n wr, R1 n wr → wr.cell? ⟨b, 0, none⟩ = some (.int .i64 (n : Int)) ∧ wr.frozen? ⟨b, 0, none⟩ = false) :
    Calls Tryz.prog 65 #[.pointer (some ⟨b, 0, none⟩), .int .i64 t] w fun e w' => e = .returned (.tuple #[]) ∧ ∃ n wr, R1 n wr ∧ w' = wr.setCell ⟨b, 0, none⟩ (.int .i64 (max (n : Int) t)) := by
  have H0 := hide h0; have HF := hide hF; have HN := hide hN
  clear h0 hF hN
  go_enter Tryz.func65, Tryz.ntmps65
  go_wp2_with fail
  go_loopg [9] k0 (fun k p wr => R k wr)
  case atStart => exact unhide H0
  case round =>
    have HR := hide hrel
    clear hrel
    go_wp2_with fail
    refine (unhide HF _ _ (unhide HR)).mono ?_
    rintro e w1 ⟨hw1, hcase⟩
    rw [hw1]
    clear hw1
    rcases hcase with ⟨rfl, n, hR1⟩ | ⟨l, s, n', rfl, hst, hgt, hle⟩
    · have HR1 := hide hR1
      obtain ⟨hc, hf⟩ := unhide HN _ _ hR1
      clear hR1
      go_wp2_with fail
      all_goals
        go_end0
        exact ⟨rfl, n, wr, unhide HR1, by first | rw [show max (n : Int) t = n by omega] | rw [show max (n : Int) t = t by omega]⟩
    · have HS := hide hst; have HG := hide hgt; have HL := hide hle
      clear hst hgt hle
      by_cases ht : t < (n' : Int)
      · obtain ⟨n, hR1⟩ := unhide HG ht
        have HR1 := hide hR1
        obtain ⟨hc, hf⟩ := unhide HN _ _ hR1
        clear hR1
        go_wp2_with fail
        refine (unhide HS).mono ?_
        rintro e w2 ⟨rfl, hw2⟩
        rw [hw2]
        clear hw2
        go_wp2_with fail
        all_goals
          go_end0
          exact ⟨rfl, n, wr, unhide HR1, by first | rw [show max (n : Int) t = n by omega] | rw [show max (n : Int) t = t by omega]⟩
      · have ht' : (n' : Int) ≤ t := by omega
        have HO := hide (unhide HL ht')
        go_wp2_with fail
        refine (unhide HS).mono ?_
        rintro e w2 ⟨rfl, hw2⟩
        rw [hw2]
        clear hw2
        go_wp2_with fail
        refine (unhide HO).mono ?_
        rintro e w3 ⟨rfl, k', hk', hR'⟩
        have HR' := hide hR'
        have HK' := hide hk'
        clear hR' hk'
        go_wp2_with fail
        go_roundg k'
        case measure => exact unhide HK'
        case rel => exact unhide HR'

theorem TabW.fr {w w' : World} {O : Nat → Prop} (h : TabW w) (hf : Fr w w' O) (h0 : ¬ O 0) (hs : 0 < w.heap.size) : TabW w' := by
  intro i hi
  rw [World.cell?_of_block (w := w) (a := ⟨0, i, none⟩) (hf.blk 0 hs h0)]
  exact h i hi

theorem PI.keep {n N : Nat} {L : List Nat} {ls : Nat → List Nat} {ids ats : Nat → Nat} (h : PI n L ls ids ats) (hk : ∀ x ∈ L, home N (ats x) = home n (ats x)) : PI N L ls ids ats :=
  ⟨h.lnd, h.idi, h.bd, fun p hp x hx => ⟨by rw [hk x (h.A p hp x hx).2]; exact (h.A p hp x hx).1, (h.A p hp x hx).2⟩, fun x hx => by rw [hk x hx]; exact h.B x hx⟩
/-- Nothing waits ahead. -/
theorem PI.none_ahead {n N : Nat} {L : List Nat} {ls : Nat → List Nat} {ids ats : Nat → Nat} (h : PI n L ls ids ats) (hn : n < 9223372036854775808) (he : ∀ p, 1 ≤ p → p < 705 → ls p = []) (hN : n ≤ N) : PI N L ls ids ats := by
  refine h.keep fun x hx => ?_
  have h1 := h.mem hx
  have h2 := home_lt hn (h.bd x hx).2
  have h3 : home n (ats x) = 0 := by
    by_cases e : home n (ats x) = 0
    · exact e
    · rw [he _ (by omega) h2] at h1; simp at h1
  rw [h3, home_over (Nat.le_trans (home_zero.1 h3) hN)]
/-- The first slot starts above N. -/
theorem PI.first_ahead {n N : Nat} {L : List Nat} {ls : Nat → List Nat} {ids ats : Nat → Nat} (h : PI n L ls ids ats) (hn : n < 9223372036854775808) {l s : Nat} (hF : FirstAt ls l s) (hN : n ≤ N) (hst : N < st n l s) : PI N L ls ids ats := by
  refine h.keep fun x hx => ?_
  by_cases q : ats x ≤ n
  · rw [home_over q, home_over (by omega)]
  · have q' : n < ats x := by omega
    have hxm := h.mem hx
    refine (home_keep q' hN hF.s64 (Nat.le_of_lt hst) ?_).1
    have hh := home_slot q'
    have hsl := sl_lt (ats x) (lv n (ats x))
    rcases Nat.lt_trichotomy l (lv n (ats x)) with c | c | c
    · exact .inl c
    · rcases Nat.lt_trichotomy s (sl (ats x) l) with c' | c' | c'
      · exact .inr (.inl ⟨c, c'⟩)
      · exact .inr (.inr ⟨c, c', hst⟩)
      · exfalso
        rw [hh, ← c, hF.lo' _ c'] at hxm
        simp at hxm
    · exfalso
      rw [hh, hF.lo _ c _ hsl] at hxm
      simp at hxm

structure AR (w : World) (b m : Nat) (O : Nat → Prop) (now : Nat) (t : Int) (L : List Nat) (ids ats : Nat → Nat) (n : Nat) (ls : Nat → List Nat) (us : Nat → Nat) (wr : World) : Prop where
  wh : WH wr b m O n L ls us ids ats
  fr : Fr w wr O
  sz : wr.heap.size = w.heap.size
  lo : now ≤ n
  hi : (n : Int) ≤ max (now : Int) t

theorem turn_any {w : World} {b m : Nat} {O : Nat → Prop} {now : Nat} {L : List Nat} {ls : Nat → List Nat} {us ids ats : Nat → Nat} (h : WH w b m O now L ls us ids ats) (hT : TabW w) (h0 : ¬ O 0) (t : Int) (ht : t < 9223372036854775808) :
    Calls Tryz.prog 65 #[.pointer (some ⟨b, 0, none⟩), .int .i64 t] w fun e w' => e = .returned (.tuple #[]) ∧ ∃ N : Nat, (N : Int) = max (now : Int) t ∧ Fr w w' O ∧ w'.heap.size = w.heap.size ∧
      ∃ ls' us', WH w' b m O N L ls' us' ids ats := by
  have hbs : 0 < w.heap.size := Nat.lt_of_le_of_lt (Nat.zero_le _) (h.mem.olt b h.mem.ob)
  refine (turn_walk b (L.map fun x => home now (ats x)).sum t w
    (fun k wr => ∃ n ls us, k = (L.map fun x => home n (ats x)).sum ∧ AR w b m O now t L ids ats n ls us wr)
    (fun n wr => ∃ ls us, AR w b m O now t L ids ats n ls us wr ∧ ∀ N : Nat, (N : Int) = max (n : Int) t → PI N L ls ids ats) ?_ ?_ ?_).mono ?_
  · exact ⟨now, ls, us, rfl, h, Fr.refl _ _, rfl, Nat.le_refl _, by omega⟩
  · rintro k wr ⟨n, ls, us, hk, hA⟩
    have hm := hA.wh.mem
    refine (first_any hm hA.wh.ub (hT.fr hA.fr h0 hbs)).mono ?_
    rintro e w' ⟨rfl, hcase⟩
    refine ⟨rfl, ?_⟩
    rcases hcase with ⟨rfl, he⟩ | ⟨l, s, rfl, hF⟩
    · exact .inl ⟨rfl, n, ls, us, hA, fun N hN => hA.wh.pi.none_ahead hm.nowlt he (by omega)⟩
    · obtain ⟨hgt, hlt, hPI, hne, hsum⟩ := hA.wh.pi.open hm.nowlt hF
      refine .inr ⟨l, s, st n l s, rfl, startOf_any b n l s w' hm.cnow hm.nowlt (by have := hF.l11; omega) hF.s64 hlt, fun hts => ⟨n, ls, us, hA, fun N hN => hA.wh.pi.first_ahead hm.nowlt hF (by omega) (by omega)⟩, fun hts => ?_⟩
      refine (open_any hA.wh hF).mono ?_
      rintro e w2 ⟨rfl, hC, ls', us', hW⟩
      refine ⟨rfl, _, ?_, st n l s, ls', us', rfl, hW, ch_fr hA.fr hC (fun k o q _ => q.1), hC.size.trans hA.sz, by have := hA.lo; omega, by omega⟩
      rw [hk]; exact hsum
  · rintro n wr ⟨ls, us, hA, _⟩
    exact ⟨hA.wh.mem.cnow, hA.wh.mem.fz b hA.wh.mem.ob 0⟩
  · rintro e w' ⟨rfl, n, wr, ⟨ls, us, hA, hN⟩, rfl⟩
    obtain ⟨v, hv⟩ : ∃ v : Int, v = max (n : Int) t := ⟨_, rfl⟩
    rw [← hv]
    have hm := hA.wh.mem
    have hnl := hm.nowlt
    obtain ⟨N, hNv⟩ : ∃ N : Nat, (N : Int) = v := ⟨v.toNat, by omega⟩
    have hch : Ch wr (wr.setCell ⟨b, 0, none⟩ (.int .i64 v)) (fun a _ => a = b) := (Ch.refl wr (fun a _ => a = b)).setCell (b := b) (o := 0) rfl _
    have hW : WH (wr.setCell ⟨b, 0, none⟩ (.int .i64 v)) b m O N L ls us ids ats := by
      rw [← hNv]
      refine ⟨hm.setNow N (by omega), ?_, hA.wh.ub, hN N (by omega)⟩
      refine hA.wh.map.kept ?_
      rw [hNv]
      exact hch.blk m fun _ e => hm.bm e.symm
    have hf2 := ch_fr hA.fr hch (fun k o q _ => by rw [q]; exact hm.ob)
    have hlo := hA.lo; have hhi := hA.hi
    exact ⟨rfl, N, by omega, hf2, hch.size.trans hA.sz, ls, us, hW⟩
end Go.Proofs.YtogdekjklbbbiaaGreatDoor
