import Derived.Test.YtogdekjklbbbiaaDoorOpen
import Derived.Deep.LoopGhost
import Derived.Laws.AppendOwn
set_option maxRecDepth 100000
namespace Go.Proofs.YtogdekjklbbbiaaDoor
open Go.ChangeShapes Go.WideShapes Go.ChangeAt Go.RowKit
set_option linter.unusedSimpArgs false
set_option linter.unusedVariables false

theorem home_zero {now t : Nat} : home now t = 0 ↔ t ≤ now := by
  constructor
  · intro h
    by_cases q : t ≤ now
    · exact q
    · rw [home_slot (by omega)] at h; omega
  · exact home_over
theorem PI.over {now : Nat} {L : List Nat} {ls : Nat → List Nat} {ids ats : Nat → Nat} (h : PI now L ls ids ats) (x : Nat) : x ∈ ls 0 ↔ x ∈ L ∧ ats x ≤ now := by
  constructor
  · intro q
    obtain ⟨h1, h2⟩ := h.A 0 (by omega) x q
    exact ⟨h2, home_zero.1 h1⟩
  · rintro ⟨h1, h2⟩
    have := h.mem h1
    rwa [home_over h2] at this
theorem grown_fr {w wr w' : World} {O : Nat → Prop} {row : Option Nat} (h : Fr w wr O) (hg : wr.grownBy w' row) (hr : ∀ k, row = some k → w.heap.size ≤ k) : Fr w w' O :=
  ⟨hg.os.trans h.os, hg.tape.trans h.tape, hg.output.trans h.output, Nat.le_trans h.size hg.size, fun k hk hn => (hg.block k (Nat.lt_of_lt_of_le hk h.size) (fun e => by have := hr k e.symm; omega)).trans (h.blk k hk hn)⟩
theorem ch_fr {w wr w' : World} {O : Nat → Prop} {S : Nat → Nat → Prop} (h : Fr w wr O) (hc : Ch wr w' S) (hS : ∀ k o, S k o → k < w.heap.size → O k) : Fr w w' O :=
  ⟨hc.os.trans h.os, hc.tape.trans h.tape, hc.output.trans h.output, by rw [hc.size]; exact h.size, fun k hk hn => (hc.blk k fun o q => hn (hS k o q hk)).trans (h.blk k hk hn)⟩


set_option maxHeartbeats 1000000 in
theorem turn_walk (b k0 : Nat) (t : Int) (w : World) (R : Nat → World → Prop) (R1 : Nat → World → Prop) (h0 : R k0 w)
    (hF : ∀ k wr, R k wr → Calls Tryd.prog 42 #[.pointer (some ⟨b, 0, none⟩)] wr fun e w' => w' = wr ∧ ((e = .returned (.tuple #[.int .i64 0, .int .i64 0, .bool false]) ∧ ∃ n, R1 n wr) ∨
      ∃ l s n' : Nat, e = .returned (.tuple #[.int .i64 (l : Int), .int .i64 (s : Int), .bool true]) ∧
        (Calls Tryd.prog 70 #[.pointer (some ⟨b, 0, none⟩), .int .i64 l, .int .i64 s] wr fun e w' => e = .returned (.int .i64 (n' : Int)) ∧ w' = wr) ∧
        (t < (n' : Int) → ∃ n, R1 n wr) ∧ ((n' : Int) ≤ t → Calls Tryd.prog 71 #[.pointer (some ⟨b, 0, none⟩), .int .i64 l, .int .i64 s] wr fun e w' => e = .returned (.tuple #[]) ∧ ∃ k', k' < k ∧ R k' w')))
    (hN : ∀ n wr, R1 n wr → wr.cell? ⟨b, 0, none⟩ = some (.int .i64 (n : Int)) ∧ wr.frozen? ⟨b, 0, none⟩ = false) :
    Calls Tryd.prog 38 #[.pointer (some ⟨b, 0, none⟩), .int .i64 t] w fun e w' => e = .returned (.tuple #[]) ∧ ∃ n wr, R1 n wr ∧ w' = wr.setCell ⟨b, 0, none⟩ (.int .i64 (max (n : Int) t)) := by
  have H0 := hide h0; have HF := hide hF; have HN := hide hN
  clear h0 hF hN
  go_enter Tryd.func38, Tryd.ntmps38
  go_wp2_with fail
  go_loopg [9] k0 (fun k p wr => R k wr)
  case atStart => exact unhide H0
  case round =>
    have HR := hide hrel
    clear hrel
    go_wp2_with fail
    refine (unhide HF _ _ (unhide HR)).mono ?_
    rintro e w1 ⟨hw1, hcase⟩
    rw [hw1]
    clear hw1
    rcases hcase with ⟨rfl, n, hR1⟩ | ⟨l, s, n', rfl, hst, hgt, hle⟩
    · have HR1 := hide hR1
      obtain ⟨hc, hf⟩ := unhide HN _ _ hR1
      clear hR1
      go_wp2_with fail
      all_goals
        go_end0
        exact ⟨rfl, n, wr, unhide HR1, by first | rw [show max (n : Int) t = n by omega] | rw [show max (n : Int) t = t by omega]⟩
    · have HS := hide hst; have HG := hide hgt; have HL := hide hle
      clear hst hgt hle
      by_cases ht : t < (n' : Int)
      · obtain ⟨n, hR1⟩ := unhide HG ht
        have HR1 := hide hR1
        obtain ⟨hc, hf⟩ := unhide HN _ _ hR1
        clear hR1
        go_wp2_with fail
        refine (unhide HS).mono ?_
        rintro e w2 ⟨rfl, hw2⟩
        rw [hw2]
        clear hw2
        go_wp2_with fail
        all_goals
          go_end0
          exact ⟨rfl, n, wr, unhide HR1, by first | rw [show max (n : Int) t = n by omega] | rw [show max (n : Int) t = t by omega]⟩
      · have ht' : (n' : Int) ≤ t := by omega
        have HO := hide (unhide HL ht')
        go_wp2_with fail
        refine (unhide HS).mono ?_
        rintro e w2 ⟨rfl, hw2⟩
        rw [hw2]
        clear hw2
        go_wp2_with fail
        refine (unhide HO).mono ?_
        rintro e w3 ⟨rfl, k', hk', hR'⟩
        have HR' := hide hR'
        have HK' := hide hk'
        clear hR' hk'
        go_wp2_with fail
        go_roundg k'
        case measure => exact unhide HK'
        case rel => exact unhide HR'

theorem TabW.fr {w w' : World} {O : Nat → Prop} (h : TabW w) (hf : Fr w w' O) (h0 : ¬ O 0) (hs : 0 < w.heap.size) : TabW w' := by
  intro i hi
  rw [World.cell?_of_block (w := w) (a := ⟨0, i, none⟩) (hf.blk 0 hs h0)]
  exact h i hi

theorem PI.keep {n N : Nat} {L : List Nat} {ls : Nat → List Nat} {ids ats : Nat → Nat} (h : PI n L ls ids ats) (hk : ∀ x ∈ L, home N (ats x) = home n (ats x)) : PI N L ls ids ats :=
  ⟨h.lnd, h.idi, h.bd, fun p hp x hx => ⟨by rw [hk x (h.A p hp x hx).2]; exact (h.A p hp x hx).1, (h.A p hp x hx).2⟩, fun x hx => by rw [hk x hx]; exact h.B x hx⟩
/-- Nothing waits ahead. -/
theorem PI.none_ahead {n N : Nat} {L : List Nat} {ls : Nat → List Nat} {ids ats : Nat → Nat} (h : PI n L ls ids ats) (hn : n < 9223372036854775808) (he : ∀ p, 1 ≤ p → p < 705 → ls p = []) (hN : n ≤ N) : PI N L ls ids ats := by
  refine h.keep fun x hx => ?_
  have h1 := h.mem hx
  have h2 := home_lt hn (h.bd x hx).2
  have h3 : home n (ats x) = 0 := by
    by_cases e : home n (ats x) = 0
    · exact e
    · rw [he _ (by omega) h2] at h1; simp at h1
  rw [h3, home_over (Nat.le_trans (home_zero.1 h3) hN)]
/-- The first slot starts above N. -/
theorem PI.first_ahead {n N : Nat} {L : List Nat} {ls : Nat → List Nat} {ids ats : Nat → Nat} (h : PI n L ls ids ats) (hn : n < 9223372036854775808) {l s : Nat} (hF : FirstAt ls l s) (hN : n ≤ N) (hst : N < st n l s) : PI N L ls ids ats := by
  refine h.keep fun x hx => ?_
  by_cases q : ats x ≤ n
  · rw [home_over q, home_over (by omega)]
  · have q' : n < ats x := by omega
    have hxm := h.mem hx
    refine (home_keep q' hN hF.s64 (Nat.le_of_lt hst) ?_).1
    have hh := home_slot q'
    have hsl := sl_lt (ats x) (lv n (ats x))
    rcases Nat.lt_trichotomy l (lv n (ats x)) with c | c | c
    · exact .inl c
    · rcases Nat.lt_trichotomy s (sl (ats x) l) with c' | c' | c'
      · exact .inr (.inl ⟨c, c'⟩)
      · exact .inr (.inr ⟨c, c', hst⟩)
      · exfalso
        rw [hh, ← c, hF.lo' _ c'] at hxm
        simp at hxm
    · exfalso
      rw [hh, hF.lo _ c _ hsl] at hxm
      simp at hxm

structure AR (w : World) (b m : Nat) (O : Nat → Prop) (now : Nat) (t : Int) (L : List Nat) (ids ats : Nat → Nat) (n : Nat) (ls : Nat → List Nat) (us : Nat → Nat) (wr : World) : Prop where
  wh : WH wr b m O n L ls us ids ats
  fr : Fr w wr O
  sz : wr.heap.size = w.heap.size
  lo : now ≤ n
  hi : (n : Int) ≤ max (now : Int) t

theorem turn_any {w : World} {b m : Nat} {O : Nat → Prop} {now : Nat} {L : List Nat} {ls : Nat → List Nat} {us ids ats : Nat → Nat} (h : WH w b m O now L ls us ids ats) (hT : TabW w) (h0 : ¬ O 0) (t : Int) (ht : t < 9223372036854775808) :
    Calls Tryd.prog 38 #[.pointer (some ⟨b, 0, none⟩), .int .i64 t] w fun e w' => e = .returned (.tuple #[]) ∧ ∃ N : Nat, (N : Int) = max (now : Int) t ∧ Fr w w' O ∧ w'.heap.size = w.heap.size ∧
      ∃ ls' us', WH w' b m O N L ls' us' ids ats := by
  have hbs : 0 < w.heap.size := Nat.lt_of_le_of_lt (Nat.zero_le _) (h.mem.olt b h.mem.ob)
  refine (turn_walk b (L.map fun x => home now (ats x)).sum t w
    (fun k wr => ∃ n ls us, k = (L.map fun x => home n (ats x)).sum ∧ AR w b m O now t L ids ats n ls us wr)
    (fun n wr => ∃ ls us, AR w b m O now t L ids ats n ls us wr ∧ ∀ N : Nat, (N : Int) = max (n : Int) t → PI N L ls ids ats) ?_ ?_ ?_).mono ?_
  · exact ⟨now, ls, us, rfl, h, Fr.refl _ _, rfl, Nat.le_refl _, by omega⟩
  · rintro k wr ⟨n, ls, us, hk, hA⟩
    have hm := hA.wh.mem
    refine (first_any hm hA.wh.ub (hT.fr hA.fr h0 hbs)).mono ?_
    rintro e w' ⟨rfl, hcase⟩
    refine ⟨rfl, ?_⟩
    rcases hcase with ⟨rfl, he⟩ | ⟨l, s, rfl, hF⟩
    · exact .inl ⟨rfl, n, ls, us, hA, fun N hN => hA.wh.pi.none_ahead hm.nowlt he (by omega)⟩
    · obtain ⟨hgt, hlt, hPI, hne, hsum⟩ := hA.wh.pi.open hm.nowlt hF
      refine .inr ⟨l, s, st n l s, rfl, startOf_any b n l s w' hm.cnow hm.nowlt (by have := hF.l11; omega) hF.s64 hlt, fun hts => ⟨n, ls, us, hA, fun N hN => hA.wh.pi.first_ahead hm.nowlt hF (by omega) (by omega)⟩, fun hts => ?_⟩
      refine (open_any hA.wh hF).mono ?_
      rintro e w2 ⟨rfl, hC, ls', us', hW⟩
      refine ⟨rfl, _, ?_, st n l s, ls', us', rfl, hW, ch_fr hA.fr hC (fun k o q _ => q.1), hC.size.trans hA.sz, by have := hA.lo; omega, by omega⟩
      rw [hk]; exact hsum
  · rintro n wr ⟨ls, us, hA, _⟩
    exact ⟨hA.wh.mem.cnow, hA.wh.mem.fz b hA.wh.mem.ob 0⟩
  · rintro e w' ⟨rfl, n, wr, ⟨ls, us, hA, hN⟩, rfl⟩
    obtain ⟨v, hv⟩ : ∃ v : Int, v = max (n : Int) t := ⟨_, rfl⟩
    rw [← hv]
    have hm := hA.wh.mem
    have hnl := hm.nowlt
    obtain ⟨N, hNv⟩ : ∃ N : Nat, (N : Int) = v := ⟨v.toNat, by omega⟩
    have hch : Ch wr (wr.setCell ⟨b, 0, none⟩ (.int .i64 v)) (fun a _ => a = b) := (Ch.refl wr (fun a _ => a = b)).setCell (b := b) (o := 0) rfl _
    have hW : WH (wr.setCell ⟨b, 0, none⟩ (.int .i64 v)) b m O N L ls us ids ats := by
      rw [← hNv]
      refine ⟨hm.setNow N (by omega), ?_, hA.wh.ub, hN N (by omega)⟩
      refine hA.wh.map.kept ?_
      rw [hNv]
      exact hch.blk m fun _ e => hm.bm e.symm
    have hf2 := ch_fr hA.fr hch (fun k o q _ => by rw [q]; exact hm.ob)
    have hlo := hA.lo; have hhi := hA.hi
    exact ⟨rfl, N, by omega, hf2, hch.size.trans hA.sz, ls, us, hW⟩
end Go.Proofs.YtogdekjklbbbiaaDoor
