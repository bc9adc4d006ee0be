import Derived.Test.YtogdekjklbbbiaaDoorTake
import Derived.Test.YtogdekjklbbbiaaDoorSymAll
namespace Go.Proofs.YtogdekjklbbbiaaDoor
open Go.ChangeShapes Go.WideShapes Go.ChangeAt Go.RowKit
set_option linter.unusedSimpArgs false
set_option linter.unusedVariables false

theorem popAt2 {w : World} {b m : Nat} {O : Nat → Prop} {now : Nat} {ls : Nat → List Nat} {us ids ats : Nat → Nat} (h : WM w b m O now ls us ids ats) {x p : Nat} {r : List Nat} (hp : p < 705) (hls : ls p = x :: r) :
    Calls Tryd.prog 72 #[.pointer (some ⟨b, 2 + 2 * p, none⟩)] w fun e w' => e = .returned (.pointer (some ⟨x, 0, none⟩)) ∧ WM w' b m O now (upd ls p r) us ids ats ∧ Ch w w' (fun a _ => O a ∧ a ≠ m) ∧
      ∀ z, z ≠ b → w'.cell? ⟨z, 2, none⟩ = w.cell? ⟨z, 2, none⟩ ∧ w'.cell? ⟨z, 3, none⟩ = w.cell? ⟨z, 3, none⟩ := by
  have hcl := h.cl p hp
  have hnd := h.nd p hp
  have hox := h.ox p hp
  rw [hls] at hcl hnd hox
  refine (pop_any b (2 + 2 * p) x r w hcl hnd (fun q hq => (hox q hq).2.1) ?_).mono ?_
  · intro q hq
    rcases List.mem_cons.1 hq with e | e
    · rw [e]; exact h.fz b h.ob
    · exact h.fz q (hox q e).1
  · rintro e w' ⟨rfl, h2, h3⟩
    refine ⟨rfl, (h.cut (l := []) hp hls h2 h3).1, (h.cut (l := []) hp hls h2 h3).2, ?_⟩
    intro z hz
    have h4 := rem_ch h3
    exact ⟨h4.cell _ _ (by rintro (⟨e, _⟩ | ⟨_, e⟩); exact hz e; omega), h4.cell _ _ (by rintro (⟨e, _⟩ | ⟨_, e⟩); exact hz e; omega)⟩

theorem nodup_len : ∀ {A B : List Nat}, A.Nodup → (∀ x ∈ A, x ∈ B) → A.length ≤ B.length
  | [], _, _, _ => Nat.zero_le _
  | a :: A, B, h, hs => by
    obtain ⟨l, r, rfl⟩ := List.append_of_mem (hs a (by simp))
    obtain ⟨h1, h2⟩ := List.nodup_cons.1 h
    have := nodup_len (A := A) (B := l ++ r) h2 (fun x hx => by
      have := hs x (by simp [hx])
      have hne : x ≠ a := fun e => h1 (e ▸ hx)
      simp only [List.mem_append, List.mem_cons] at this ⊢
      rcases this with q | q | q
      · exact .inl q
      · exact (hne q).elim
      · exact .inr q)
    simp only [List.length_append, List.length_cons] at this ⊢
    omega

/-- What is due, and what is not. -/
def due (now : Nat) (ats : Nat → Nat) (L : List Nat) : List Nat := L.filter fun x => decide (ats x ≤ now)
def rest (now : Nat) (ats : Nat → Nat) (L : List Nat) : List Nat := L.filter fun x => decide (now < ats x)

theorem home_zero {now t : Nat} : home now t = 0 ↔ t ≤ now := by
  constructor
  · intro h
    by_cases q : t ≤ now
    · exact q
    · rw [home_slot (by omega)] at h; omega
  · exact home_over
theorem PI.over {now : Nat} {L : List Nat} {ls : Nat → List Nat} {ids ats : Nat → Nat} (h : PI now L ls ids ats) (x : Nat) : x ∈ ls 0 ↔ x ∈ L ∧ ats x ≤ now := by
  constructor
  · intro q
    obtain ⟨h1, h2⟩ := h.A 0 (by omega) x q
    exact ⟨h2, home_zero.1 h1⟩
  · rintro ⟨h1, h2⟩
    have := h.mem h1
    rwa [home_over h2] at this
theorem PI.fibs {now : Nat} {L : List Nat} {ls : Nat → List Nat} {ids ats : Nat → Nat} (h : PI now L ls ids ats) (t : Nat) : fib ats (ls 0) t = fib ats (due now ats L) t := by
  by_cases hx : ∃ x ∈ L, ats x = t ∧ t ≤ now
  · obtain ⟨x, h1, rfl, h2⟩ := hx
    have := h.B x h1
    rw [home_over h2] at this
    unfold fib due
    rw [this, List.filter_filter]
    apply List.filter_congr
    intro y _
    by_cases e : ats y = ats x
    · simp [e, h2]
    · simp [e]
  · rw [fib_nil_of, fib_nil_of]
    · intro x hx' e
      obtain ⟨h1, h2⟩ := List.mem_filter.1 hx'
      have : ats x ≤ now := by simpa using h2
      exact hx ⟨x, h1, e, by omega⟩
    · intro x hx' e
      obtain ⟨h1, h2⟩ := (h.over x).1 hx'
      exact hx ⟨x, h1, e, by omega⟩
theorem PI.took {now : Nat} {L : List Nat} {ls : Nat → List Nat} {ids ats : Nat → Nat} (h : PI now L ls ids ats) : PI now (rest now ats L) (upd ls 0 []) ids ats := by
  have hr : ∀ x, x ∈ rest now ats L ↔ x ∈ L ∧ now < ats x := fun x => by simp [rest]
  refine ⟨List.Pairwise.filter _ h.lnd, fun y hy z hz e => h.idi y ((hr y).1 hy).1 z ((hr z).1 hz).1 e, fun y hy => h.bd y ((hr y).1 hy).1, ?_, ?_⟩
  · intro p hp x hx
    by_cases e : p = 0
    · rw [e, upd_same] at hx; simp at hx
    · rw [upd_other _ _ e] at hx
      obtain ⟨h1, h2⟩ := h.A p hp x hx
      refine ⟨h1, (hr x).2 ⟨h2, ?_⟩⟩
      by_cases q : ats x ≤ now
      · rw [home_over q] at h1; omega
      · omega
  · intro x hx
    obtain ⟨h1, h2⟩ := (hr x).1 hx
    rw [upd_other _ _ (by rw [home_slot h2]; omega), h.B x h1]
    unfold rest
    rw [List.filter_filter]
    apply List.filter_congr
    intro y _
    by_cases e : ats y = ats x
    · simp [e, h2]
    · simp [e]

theorem grown_fr {w wr w' : World} {O : Nat → Prop} {row : Option Nat} (h : Fr w wr O) (hg : wr.grownBy w' row) (hr : ∀ k, row = some k → w.heap.size ≤ k) : Fr w w' O :=
  ⟨hg.os.trans h.os, hg.tape.trans h.tape, hg.output.trans h.output, Nat.le_trans h.size hg.size, fun k hk hn => (hg.block k (Nat.lt_of_lt_of_le hk h.size) (fun e => by have := hr k e.symm; omega)).trans (h.blk k hk hn)⟩
theorem ch_fr {w wr w' : World} {O : Nat → Prop} {S : Nat → Nat → Prop} (h : Fr w wr O) (hc : Ch wr w' S) (hS : ∀ k o, S k o → k < w.heap.size → O k) : Fr w w' O :=
  ⟨hc.os.trans h.os, hc.tape.trans h.tape, hc.output.trans h.output, by rw [hc.size]; exact h.size, fun k hk hn => (hc.blk k fun o q => hn (hS k o q hk)).trans (h.blk k hk hn)⟩

def left (L D : List Nat) (k : Nat) : List Nat := L.filter fun x => decide (x ∉ D.take k)
theorem left_step {L D : List Nat} {k x : Nat} (hx : D[k]? = some x) : left L D (k + 1) = drop1 x (left L D k) := by
  unfold left drop1
  rw [List.filter_filter, List.take_add_one, hx]
  apply List.filter_congr
  intro y _
  by_cases e : y = x <;> simp [e]

structure TR (w : World) (b m : Nat) (O : Nat → Prop) (now : Nat) (L : List Nat) (ls : Nat → List Nat) (us ids ats : Nat → Nat) (r : List Nat) (wr : World) : Prop where
  wm : WM wr b m O now (upd ls 0 r) us ids ats
  fr : Fr w wr O
  mp : wr.heap[m]? = w.heap[m]?
  ce : ∀ z ∈ ls 0, wr.cell? ⟨z, 2, none⟩ = some (.int .i64 (ids z : Int)) ∧ wr.cell? ⟨z, 3, none⟩ = some (.int .i64 (ats z : Int))
structure TT (w : World) (b m : Nat) (O : Nat → Prop) (now : Nat) (L : List Nat) (ls : Nat → List Nat) (us ids ats : Nat → Nat) (D : List Nat) (k : Nat) (wr : World) : Prop where
  so : Sorted ats (ls 0) D
  wm : WM wr b m O now (upd ls 0 []) us ids ats
  fr : Fr w wr O
  mp : MapOK wr m (byId ids (left L D k)) (left L D k).length
  ce : ∀ z ∈ ls 0, wr.cell? ⟨z, 2, none⟩ = some (.int .i64 (ids z : Int))

theorem takeOver_any {w : World} {b m : Nat} {O : Nat → Prop} {now : Nat} {L : List Nat} {ls : Nat → List Nat} {us ids ats : Nat → Nat} (h : WH w b m O now L ls us ids ats) (hL : L.length < 17592186044416) :
    Calls Tryd.prog 39 #[.pointer (some ⟨b, 0, none⟩)] w fun e w' => ∃ D v, e = .returned v ∧ Srt ats D ∧ (∀ t, fib ats D t = fib ats (due now ats L) t) ∧ Fr w w' O ∧ w'.ownsRow w.heap.size 3 1 v D.length (D.map fun x => Value.int .i64 (ids x : Int)) ∧
      ∃ ls' us', WH w' b m O now (rest now ats L) ls' us' ids ats := by
  have hm := h.mem
  have hnd0 := hm.nd 0 (by omega)
  have hsub : ∀ x ∈ ls 0, x ∈ L := fun x hx => ((h.pi.over x).1 hx).1
  have hl0 : (ls 0).length < 17592186044416 := by
    have := nodup_len hnd0 hsub
    omega
  have hG : ∀ {wr w' : World} {row : Option Nat}, Fr w wr O → wr.grownBy w' row → (∀ k, row = some k → w.heap.size ≤ k) → ∀ k, O k → w'.heap[k]? = wr.heap[k]? := by
    intro wr w' row hf hg hr k hO
    have hk := hm.olt k hO
    exact hg.block k (Nat.lt_of_lt_of_le hk hf.size) (fun e => by have := hr k e.symm; omega)
  have hox0 : ∀ z ∈ ls 0, O z ∧ z ≠ b ∧ z ≠ m := hm.ox 0 (by omega)
  refine (take_walk b m w.heap.size ids ats w (ls 0) hl0 (TR w b m O now L ls us ids ats) (TT w b m O now L ls us ids ats) ?_ ?_ ?_ ?_ ?_ ?_ ?_ ?_ ?_ ?_ ?_ ?_).mono ?_
  · refine ⟨?_, Fr.refl _ _, rfl, fun z hz => ⟨(hm.cw 0 (by omega) z hz).1, (hm.cw 0 (by omega) z hz).2.1⟩⟩
    have : upd ls 0 (ls 0) = ls := by funext q; unfold upd; split <;> simp [*]
    rw [this]; exact hm
  · intro r wr hR; exact hR.fr.size
  · intro r wr w' row hR hg hr
    have hk := hG hR.fr hg hr
    exact ⟨hR.wm.kept hg.size hk, grown_fr hR.fr hg hr, (hk m hm.om).trans hR.mp, fun z hz => by
      have h1 := World.cell?_of_block (a := ⟨z, 2, none⟩) (hk z (hox0 z hz).1)
      have h2 := World.cell?_of_block (a := ⟨z, 3, none⟩) (hk z (hox0 z hz).1)
      rw [h1, h2]; exact hR.ce z hz⟩
  · intro r wr hR
    have := emptyAt hR.wm (p := 0) (by omega)
    rw [upd_same] at this
    exact this
  · intro x r wr hR
    refine (popAt2 hR.wm (x := x) (p := 0) (r := r) (by omega) (by rw [upd_same])).mono ?_
    rintro e w' ⟨rfl, h1, h2, h3⟩
    have e1 : upd (upd ls 0 (x :: r)) 0 r = upd ls 0 r := by funext q; unfold upd; split <;> rfl
    rw [e1] at h1
    refine ⟨rfl, ⟨h1, ch_fr hR.fr h2 (fun k o q _ => q.1), (h2.blk m fun _ q => q.2 rfl).trans hR.mp, fun z hz => ?_⟩, fun k hk => h2.blk k fun _ q => by have := hm.olt k q.1; omega⟩
    rw [(h3 z (hox0 z hz).2.1).1, (h3 z (hox0 z hz).2.1).2]
    exact hR.ce z hz
  · intro wr hR z hz
    exact ⟨hm.olt z (hox0 z hz).1, (hR.ce z hz).2⟩
  · intro g cap
    exact symD_all g cap _ ats (by omega)
  · intro D wr w' hR hD hw
    have hle : left L D 0 = L := by unfold left; simp
    have key : TT w b m O now L ls us ids ats D 0 wr := ⟨hD, hR.wm, hR.fr, by rw [hle]; exact h.map.kept hR.mp, fun z hz => (hR.ce z hz).1⟩
    rcases hw with rfl | ⟨g, hg, hc⟩
    · exact key
    · have hk : ∀ k, O k → w'.heap[k]? = wr.heap[k]? := fun k hO => hc.blk k fun _ e => by have := hm.olt k hO; omega
      exact ⟨hD, hR.wm.kept (by rw [hc.size]; exact Nat.le_refl _) hk, ch_fr hR.fr hc (fun k o q hk => by omega), key.mp.kept (hk m hm.om), fun z hz => by rw [World.cell?_of_block (w := wr) (hk z (hox0 z hz).1)]; exact key.ce z hz⟩
  · intro D k wr hT
    exact ⟨hT.fr.size, hT.wm.cmap⟩
  · intro D k wr w' row hT hg hr
    have hk := hG hT.fr hg hr
    exact ⟨hT.so, hT.wm.kept hg.size hk, grown_fr hT.fr hg hr, hT.mp.kept (hk m hm.om), fun z hz => by
      rw [World.cell?_of_block (w := wr) (hk z (hox0 z hz).1)]; exact hT.ce z hz⟩
  · intro D k j x wr hT hx
    exact hT.ce x (hT.so.mem (List.mem_of_getElem? hx))
  · intro D k x wr hT hx
    have hx0 : x ∈ ls 0 := hT.so.mem (List.mem_of_getElem? hx)
    have hDnd : D.Nodup := by
      rw [List.nodup_iff_count]
      intro a
      have e1 : ∀ X : List Nat, X.count a = (fib ats X (ats a)).count a := by
        intro X
        unfold fib
        rw [List.count_filter (by simp)]
      rw [e1, hT.so.fibs, ← e1]
      exact List.nodup_iff_count.1 hnd0 a
    have hxt : x ∉ D.take k := by
      intro q
      obtain ⟨j, hj, e⟩ := List.mem_iff_getElem.1 q
      rw [List.getElem_take] at e
      obtain ⟨hk, e'⟩ := List.getElem?_eq_some_iff.1 hx
      have hjk : j < k := by simp at hj; omega
      exact (List.pairwise_iff_getElem.1 hDnd) j k (by omega) hk hjk (e.trans e'.symm)
    have hxl : x ∈ left L D k := by unfold left; simp [hsub x hx0, hxt]
    have hbd := h.pi.bd x (hsub x hx0)
    have hli : ∀ a ∈ left L D k, ∀ c ∈ left L D k, ids a = ids c → a = c := fun a ha c hc e => h.pi.idi a (List.mem_filter.1 ha).1 c (List.mem_filter.1 hc).1 e
    have wfi : (Lit.int .i64 (ids x : Int)).wf = true := by simp [Lit.wf, IntKind.min, IntKind.max, IntKind.signed, IntKind.bits]; omega
    have hfx : (byId ids (left L D k) (ids x : Int)).isSome = true := by
      unfold byId
      rw [List.find?_isSome]
      exact ⟨x, hxl, by simp⟩
    have hlen := length_drop1 hxl (List.Pairwise.filter _ h.pi.lnd)
    have hmap := hT.mp
    rw [← hlen] at hmap
    obtain ⟨w2, hrun, hM2, hTu⟩ := hmap.del (ids x : Int) wfi hfx 0
    obtain ⟨hfr, hsz, hblk, hfz⟩ := turned_fr (O := O) hTu hm.om
    refine ⟨w2, hrun, ⟨hT.so, hT.wm.kept2 (by omega) (fun k _ hk => hblk k hk) fun k hO o => by rw [hfz]; exact hT.wm.fz k hO o, Fr.trans hT.fr hfr (fun _ _ q => q), ?_, fun z hz => ?_⟩, hsz.symm, fun k hk => hblk k fun e => by have := hm.olt m hm.om; omega⟩
    · rw [left_step hx]
      exact hM2.congr (byId_drop ids _ x hxl hli)
    · rw [World.cell?_of_block (w := wr) (hblk z (hox0 z hz).2.2)]; exact hT.ce z hz
  · rintro e w' ⟨D, v, rfl, hD, hown, hT⟩
    refine ⟨D, v, rfl, hD.srt, fun t => (hD.fibs t).trans (h.pi.fibs t), hT.fr, hown, upd ls 0 [], us, ⟨hT.wm, ?_, ?_, h.pi.took⟩⟩
    · have e1 : left L D D.length = rest now ats L := by
        unfold left rest
        rw [List.take_length]
        apply List.filter_congr
        intro x hx
        have : x ∈ D ↔ ats x ≤ now := by
          constructor
          · intro q; exact ((h.pi.over x).1 (hD.mem q)).2
          · intro q
            have h1 : x ∈ ls 0 := (h.pi.over x).2 ⟨hx, q⟩
            have h2 : x ∈ fib ats (ls 0) (ats x) := by unfold fib; simp [h1]
            rw [← hD.fibs] at h2
            exact (List.mem_filter.1 h2).1
        simp only [this, decide_eq_decide]
        omega
      rw [← e1]; exact hT.mp
    · intro l hl
      refine ⟨(h.ub l hl).1, fun s hs => ?_⟩
      rw [upd_other _ _ (by omega)]
      exact (h.ub l hl).2 s hs
end Go.Proofs.YtogdekjklbbbiaaDoor
