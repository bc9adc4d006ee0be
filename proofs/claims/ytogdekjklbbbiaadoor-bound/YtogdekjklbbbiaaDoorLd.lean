import Derived.Test.YtogdekjklbbbiaaDoorLb
import Derived.Test.YtogdekjklbbbiaaDoorPac
set_option maxRecDepth 100000
namespace Go.Proofs.YtogdekjklbbbiaaDoor
open Go.ChangeShapes Go.WideShapes Go.ChangeAt Go.RowKit
set_option linter.unusedSimpArgs false
set_option linter.unusedVariables false

/-- The first batch of an answer. -/
theorem ba_first {w : World} {n0 : Nat} {N : Nat → Prop} {q : Bt} {bs : List Bt} {v : Value} (h : BA w n0 N (q :: bs) v) : ∃ g c g2 o2, v = .slice (some ⟨g, 0, none⟩) (bs.length + 1) c ∧ w.cell? ⟨g, 0, none⟩ = some (.int .i64 (q.1 : Int)) ∧ w.cell? ⟨g, 1, none⟩ = some (.int .i64 (q.2.1 : Int)) ∧ w.cell? ⟨g, 2, none⟩ = some (.slice (some ⟨g2, o2, none⟩) q.2.2.length q.2.2.length) ∧ pkAt w g2 o2 q.2.2 := by
  obtain ⟨⟨cs, hr, ha⟩, _⟩ := h
  cases ha with
  | cons h1 h2 =>
    obtain ⟨g2, o2, rfl, _, _, _, hp, _⟩ := h1
    obtain ⟨g, c, hv, _, _, hvg, _⟩ := row_shape hr (by simp)
    refine ⟨g, c, g2, o2, by rw [hv]; simp, row_get0 hr hvg rfl, row_get0 hr hvg rfl, row_get0 hr hvg rfl, hp⟩
theorem ba_len {w : World} {n0 : Nat} {N : Nat → Prop} {bs : List Bt} {v : Value} (h : BA w n0 N bs v) : ∃ a c, v = .slice a bs.length c := by
  obtain ⟨⟨cs, hr, ha⟩, _⟩ := h
  exact row_len hr
/-- The program is alive. -/
theorem alive_any (w : World) (hz : 0 < w.heap.size) (hT : TabW w) : Calls Tryd.prog 17 #[] w fun e w' => e = .returned (.bool true) ∧ Fr w w' (fun _ => False) := by
  refine alive_walk w (fun b w1 => PX w (Pace.PS.new 1500) ⟨0, 0, 0, 0, 0, 0⟩ b w1) (fun b w1 => PX w ((Pace.PS.new 1500).add 1000 1500) ⟨0, 0, 0, 0, 0, 0⟩ b w1) (fun b w1 => PX w (((Pace.PS.new 1500).add 1000 1500).enq 1 7 100) ⟨1, 0, 0, 0, 0, 0⟩ b w1) (fun w1 => Fr w w1 (fun _ => False)) ?_ ?_ ?_ ?_
  · exact PX.new (Fr.refl w _) hz 1500 (by omega) (by omega)
  · rintro b w1 ⟨y, hP, hf, hy⟩
    refine (pa_addR hP (by show 0 < 8000000000000000000; omega) 1000 1500).mono ?_
    rintro e w' ⟨rfl, y', hP', hs⟩
    have hR : addR (Pace.PS.new 1500) 1000 1500 = 0 := by simp [addR, Pace.allowed, Pace.PS.new]
    have hN : addN (Pace.PS.new 1500) 1000 1500 = 1 := by unfold addN; rw [if_pos hR]; rfl
    have hPp : addP (Pace.PS.new 1500) 1000 1500 = (Pace.PS.new 1500).add 1000 1500 := by unfold addP; rw [if_pos hR]; rfl
    rw [hR, hN]
    rw [hPp] at hP'
    exact ⟨rfl, PX.step hf hy hP' hs⟩
  · rintro b w1 ⟨y, hP, hf, hy⟩
    refine (pa_enq hP (by show 0 < 8000000000000000000; omega) (by show 0 < 8000000000000000000; omega) 1 7 100).mono ?_
    rintro e w' ⟨rfl, y', hP', hs⟩
    have hR : enqR ((Pace.PS.new 1500).add 1000 1500) 1 100 = 0 := by simp [enqR, lookI, Pace.PS.new, Pace.PS.add]
    have hPp : enqP ((Pace.PS.new 1500).add 1000 1500) 1 7 100 = ((Pace.PS.new 1500).add 1000 1500).enq 1 7 100 := by unfold enqP; rw [if_pos hR]; rfl
    have hCp : enqC ((Pace.PS.new 1500).add 1000 1500) 1 100 ⟨0, 0, 0, 0, 0, 0⟩ = ⟨1, 0, 0, 0, 0, 0⟩ := by unfold enqC; rw [if_pos hR]
    rw [hR]
    rw [hPp, hCp] at hP'
    exact ⟨rfl, PX.step hf hy hP' hs⟩
  · rintro b w1 ⟨y, hP, hf, hy⟩
    refine (pa_poll hP (hT.fr hf (fun q => q) hz) (by show 1 < 9000000000000000000; omega) (by show 0 < 8000000000000000000; omega) 5 9 (by omega)).mono ?_
    rintro e w' ⟨v, rfl, n0, y', hP', hB, hs, hn0⟩
    have hb : ((((Pace.PS.new 1500).add 1000 1500).enq 1 7 100).poll (5 : Int).toNat (9 : Int).toNat).1 = [(1, 5, [(7, 100)])] := alive_poll
    rw [hb] at hB
    obtain ⟨g, c, g2, o2, rfl, c0, c1, c2, hp⟩ := ba_first hB
    obtain ⟨y2, _, hfr, _⟩ := PX.step hf hy hP' hs
    exact ⟨g, c, g2, o2, rfl, c0, c1, c2, hp 0 _ rfl, hfr⟩
theorem least_next {p : Pace.PS} {v : Int} (ha : p.asks = []) (h : nextOf p v) : LeastOf (p.st.A.map fun a => (a.num, a.at')) v := by
  unfold nextOf at h
  rw [if_pos ha] at h; exact h
theorem least_due {p : Pace.PS} {v : Int} (h : LeastOf (p.st.A.map fun a => (a.num, a.at')) v) (hd : Pace.due p.st = none) : v = -1 ∨ ((p.st.clock : Int) < v ∧ ∃ a ∈ p.st.A, v = (a.at' : Int) ∧ ∀ z ∈ p.st.A, a.at' ≤ z.at') := by
  rcases h with ⟨_, rfl⟩ | ⟨x, hx, rfl, hle⟩
  · exact .inl rfl
  · obtain ⟨a, ha, rfl⟩ := List.mem_map.1 hx
    have := Pace.due_none hd a ha
    refine .inr ⟨?_, a, ha, rfl, fun z hz => hle (z.num, z.at') (List.mem_map.2 ⟨z, hz, rfl⟩)⟩
    show (p.st.clock : Int) < (a.at' : Int)
    omega
set_option maxHeartbeats 1000000 in
/-- All but the row. -/
theorem prompt_any (q : Int) (sa : Option Addr) (n cp : Nat) (w : World) (hz : 0 < w.heap.size) (hT : TabW w) (hb : n < 8796093022208) (hsa : 0 < n → ∃ g o, sa = some ⟨g, o, none⟩) (op : Nat → OpV)
    (hC : ∀ k, k < n → ∀ g o, sa = some ⟨g, o, none⟩ → w.cell? ⟨g, o + k * 6, none⟩ = some (.int .i64 (op k).k) ∧ w.cell? ⟨g, o + k * 6 + 1, none⟩ = some (.int .i64 (op k).a) ∧ w.cell? ⟨g, o + k * 6 + 2, none⟩ = some (.int .i64 (op k).b) ∧ w.cell? ⟨g, o + k * 6 + 3, none⟩ = some (.int .i64 (op k).c) ∧ w.cell? ⟨g, o + k * 6 + 4, none⟩ = some (.int .i64 (op k).w) ∧ w.cell? ⟨g, o + k * 6 + 5, none⟩ = some (.slice (op k).sa (op k).sn (op k).sc)) :
    Calls Tryd.prog 6 #[.int .i64 q, .slice sa n cp] w fun e w' => e = .returned (.bool true) ∧ Fr w w' (fun _ => False) := by
  have hTr : ∀ {wr : World}, Fr w wr (fun _ => False) → TabW wr := fun hf => hT.fr hf (fun q => q) hz
  have hkeep : ∀ {wr w' : World} {y y' : Lay} {b : Nat} {p : Pace.PS} {c : Cn} (o : Obj), PA (wr.alloc o) b y p c → (∀ k, y.own k → k < wr.heap.size) → Stp (wr.alloc o) w' y y' → w'.heap[wr.heap.size]? = some o := fun {wr w' y y' b p c} o _ hlt hs => by
    rw [hs.fr.blk wr.heap.size (by simp) fun q => by have := hlt _ q; omega]
    exact heap_alloc_new _ _
  refine prompt_walk q sa n cp w hb hsa op (fun w1 => Fr w w1 (fun _ => False))
    (fun b k ck wr => k ≤ n ∧ ∃ p c, PX w p c b wr ∧ p.st.clock = ck ∧ Bd p c k)
    (fun b k ck m wr => k < n ∧ ∃ p c, PX w p c b wr ∧ p.st.clock = ck ∧ Bd p c (k + 1) ∧ p.asks = [] ∧ ((m : Int) < (op k).b → Pace.due p.st = none))
    (fun b ck wr => ∃ p c, PX w p c b wr ∧ p.st.clock = ck ∧ Bd p c (n + 1) ∧ p.asks = [] ∧ Pace.due p.st = none)
    (fun _ _ _ => True)
    (fun b v wr => ∃ p c, PX w p c b wr ∧ Bd p c (n + 1) ∧ p.asks = [] ∧ (p.st.clock : Int) < v ∧ v ≤ 4000000000000000000 ∧ ∃ a ∈ p.st.A, v = (a.at' : Int) ∧ ∀ z ∈ p.st.A, a.at' ≤ z.at')
    (fun b v wr => ∃ p c, PX w p c b wr ∧ Bd p c (n + 2) ∧ p.asks = [] ∧ (p.st.clock : Int) < v ∧ v ≤ 4000000000000000000 ∧ ∃ a ∈ p.st.A, v = (a.at' : Int) ∧ ∀ z ∈ p.st.A, a.at' ≤ z.at')
    (fun w' => Fr w w' (fun _ => False)) (alive_any w hz hT) ?_ ?_ ?_ ?_ ?_ ?_ ?_ ?_ ?_ ?_ ?_ ?_ ?_
  · intro w1 hf
    by_cases hq : q < 1500 ∨ 1000000 < q
    · refine (new_bad q w1 hq).mono ?_
      rintro e w' ⟨rfl, rfl⟩
      exact .inl ⟨rfl, hq, hf⟩
    · refine (PX.new hf hz q (by omega) (by omega)).mono ?_
      rintro e w' ⟨b, rfl, hP⟩
      exact .inr ⟨b, rfl, Nat.zero_le _, _, _, hP, rfl, ⟨Nat.le_refl _, Nat.le_refl _, Nat.le_refl _, Nat.le_refl _, Nat.le_refl _⟩⟩
  · rintro b k ck wr ⟨_, p, c, ⟨y, ⟨P, hM, hI, _⟩, hf, hy⟩, rfl, _⟩ hk
    refine ⟨by have := hI.pi.wf.clock; omega, fun g o e => ?_⟩
    have hcell := hC k hk g o e
    have hg : g < w.heap.size := World.block_lt_of_cell? _ _ hcell.1
    have hs : ∀ j, wr.cell? ⟨g, j, none⟩ = w.cell? ⟨g, j, none⟩ := fun j => World.cell?_of_block (w := w) (a := ⟨g, j, none⟩) (hf.blk g hg fun q => q)
    rw [hs, hs, hs, hs, hs, hs]
    exact hcell
  · rintro b k ck wr ⟨_, p, c, hPX, rfl, hB⟩ hk _
    have hlt : ∃ y, PA wr b y p c ∧ Fr w wr (fun _ => False) ∧ (∀ k, y.own k → w.heap.size ≤ k) ∧ ∀ k, y.own k → k < wr.heap.size := by
      obtain ⟨y, h1, h2, h3⟩ := hPX
      have h1' := h1
      obtain ⟨P, hM, _⟩ := h1
      exact ⟨y, h1', h2, h3, hM.lt⟩
    obtain ⟨y, h1, h2, h3, hlt⟩ := hlt
    have hPa := h1.kept (O := fun _ => False) ((Fr.refl wr _).alloc (op k).obj) (fun _ _ q => q)
    refine (pa_addR hPa (by have := hB.nw; omega) (op k).a (op k).b).mono ?_
    rintro e w' ⟨rfl, y', hP', hs⟩
    refine ⟨_, _, rfl, ⟨by omega, _, _, PX.step (h2.alloc _) h3 hP' hs, ?_, ?_⟩, hkeep _ hPa hlt hs⟩
    · unfold addP; split <;> rfl
    · have := hB.nw; have := hB.tk; have := hB.rf; have := hB.sn; have := hB.dr
      refine ⟨?_, by omega, by omega, by omega, by omega⟩
      unfold addP
      split
      · show p.newest + 1 ≤ k + 1; omega
      · omega
  · rintro b k ck wr ⟨_, p, c, hPX, rfl, hB⟩ hk _
    obtain ⟨y, h1, h2, h3⟩ := hPX
    have hlt : ∀ k, y.own k → k < wr.heap.size := by obtain ⟨P, hM, _⟩ := h1; exact hM.lt
    have hPa := h1.kept (O := fun _ => False) ((Fr.refl wr _).alloc (op k).obj) (fun _ _ q => q)
    refine (pa_set hPa (op k).a (op k).b (op k).c).mono ?_
    rintro e w' ⟨rfl, y', hP', hs⟩
    refine ⟨_, rfl, ⟨by omega, _, _, PX.step (h2.alloc _) h3 hP' hs, ?_, ?_⟩, hkeep _ hPa hlt hs⟩
    · unfold setP; split <;> rfl
    · have := hB.nw; have := hB.tk; have := hB.rf; have := hB.sn; have := hB.dr
      refine ⟨?_, by omega, by omega, by omega, by omega⟩
      unfold setP
      split
      · show p.newest ≤ k + 1; omega
      · omega
  · rintro b k ck wr ⟨_, p, c, hPX, rfl, hB⟩ hk _
    obtain ⟨y, h1, h2, h3⟩ := hPX
    have hlt : ∀ k, y.own k → k < wr.heap.size := by obtain ⟨P, hM, _⟩ := h1; exact hM.lt
    have hPa := h1.kept (O := fun _ => False) ((Fr.refl wr _).alloc (op k).obj) (fun _ _ q => q)
    refine (pa_enq hPa (by have := hB.rf; omega) (by have := hB.tk; omega) (op k).a (op k).b (op k).c).mono ?_
    rintro e w' ⟨rfl, y', hP', hs⟩
    refine ⟨_, rfl, ⟨by omega, _, _, PX.step (h2.alloc _) h3 hP' hs, ?_, ?_⟩, hkeep _ hPa hlt hs⟩
    · unfold enqP; split <;> rfl
    · have := hB.nw; have := hB.tk; have := hB.rf; have := hB.sn; have := hB.dr
      unfold enqP enqC
      split
      · exact ⟨by show p.newest ≤ k + 1; omega, by show c.taken + 1 ≤ k + 1; omega, by show c.refused ≤ k + 1; omega, by show c.sent ≤ 64 * (k + 1); omega, by show c.dropped ≤ 8 * (k + 1); omega⟩
      · exact ⟨by show p.newest ≤ k + 1; omega, by show c.taken ≤ k + 1; omega, by show c.refused + 1 ≤ k + 1; omega, by show c.sent ≤ 64 * (k + 1); omega, by show c.dropped ≤ 8 * (k + 1); omega⟩
  · rintro b k ck wr ⟨_, p, c, hPX, rfl, hB⟩ hk _
    obtain ⟨y, h1, h2, h3⟩ := hPX
    have hlt : ∀ k, y.own k → k < wr.heap.size := by obtain ⟨P, hM, _⟩ := h1; exact hM.lt
    have hl8 : (remL p (op k).a).length ≤ 8 := by
      obtain ⟨P, hM, hI, _⟩ := h1
      unfold remL
      split
      · exact Nat.zero_le _
      · rename_i x hx
        exact (hI.pi.wf.F x (lookI_some hx hI.pi.wf.nums).1).few
    have hPa := h1.kept (O := fun _ => False) ((Fr.refl wr _).alloc (op k).obj) (fun _ _ q => q)
    refine (pa_remove hPa (by have := hB.nw; omega) (by have := hB.dr; omega) (op k).a).mono ?_
    rintro e w' ⟨v, rfl, y', hP', hs, _⟩
    refine ⟨_, _, rfl, ⟨by omega, _, _, PX.step (h2.alloc _) h3 hP' hs, ?_, ?_⟩, hkeep _ hPa hlt hs⟩
    · unfold remP; split <;> rfl
    · have := hB.nw; have := hB.tk; have := hB.rf; have := hB.sn; have := hB.dr
      refine ⟨?_, by show c.taken ≤ k + 1; omega, by show c.refused ≤ k + 1; omega, by show c.sent ≤ 64 * (k + 1); omega, by show c.dropped + _ ≤ 8 * (k + 1); omega⟩
      unfold remP
      split
      · omega
      · show p.newest ≤ k + 1; omega
  · rintro b k ck wr ⟨_, p, c, hPX, rfl, hB⟩ hk _
    obtain ⟨y, h1, h2, h3⟩ := hPX
    have hlt : ∀ k, y.own k → k < wr.heap.size := by obtain ⟨P, hM, _⟩ := h1; exact hM.lt
    have hI : p.Inv := by obtain ⟨P, hM, hI, _⟩ := h1; exact hI
    have hPa := h1.kept (O := fun _ => False) ((Fr.refl wr _).alloc (op k).obj) (fun _ _ q => q)
    have hb1 := hB.nw; have hb2 := hB.tk; have hb3 := hB.rf; have hb4 := hB.sn; have hb5 := hB.dr
    by_cases hn : (op k).a ≤ 4000000000000000000
    · refine (pa_poll hPa (hTr (h2.alloc _)) (by omega) (by omega) (op k).a (op k).b hn).mono ?_
      rintro e w' ⟨v, rfl, n0, y', hP', hBA, hs, hn0⟩
      obtain ⟨a, cc, rfl⟩ := ba_len hBA
      have ht := poll_len hI (now := (op k).a.toNat) (by omega) (op k).b.toNat
      refine ⟨hkeep _ hPa hlt hs, .inr ⟨a, _, cc, rfl, hk, _, _, PX.step (h2.alloc _) h3 hP' hs, ?_, ⟨Nat.le_trans hb1 (by omega), by show c.taken ≤ k + 1; omega, by show c.refused ≤ k + 1; omega, by show c.sent + _ ≤ 64 * (k + 1); omega, by show c.dropped ≤ 8 * (k + 1); omega⟩, rfl, fun hm => poll_few (by omega)⟩⟩
      rw [poll_clock]; omega
    · refine (pa_poll_bad hPa (op k).a (op k).b (by omega)).mono ?_
      rintro e w' ⟨rfl, rfl⟩
      refine ⟨heap_alloc_new _ _, .inl ⟨_, rfl, by omega, p, c, ⟨y, hPa, h2.alloc _, h3⟩, rfl, ⟨by omega, by omega, by omega, by omega, by omega⟩⟩⟩
  · rintro b k ck m wr ⟨hk, p, c, ⟨y, h1, h2, h3⟩, rfl, hB, ha, hd⟩ _
    refine (pa_next h1 (hTr h2)).mono ?_
    rintro e w' ⟨v, rfl, hv, hP', hf⟩
    refine ⟨v, rfl, fun hm => ?_, ⟨by omega, p, c, ⟨y, hP', h2.trans hf (fun _ _ q => q), h3⟩, rfl, hB⟩, fun z hz => hf.blk z hz fun q => q⟩
    rcases least_due (least_next ha hv) (hd hm) with q | ⟨q, _⟩
    · exact .inl q
    · exact .inr q
  · rintro b k ck wr ⟨_, p, c, hPX, rfl, hB⟩ hk
    have := hB.nw; have := hB.tk; have := hB.rf; have := hB.sn; have := hB.dr
    exact ⟨by omega, p, c, hPX.alloc _, rfl, ⟨by omega, by omega, by omega, by omega, by omega⟩⟩
  · rintro b ck wr ⟨_, p, c, ⟨y, h1, h2, h3⟩, rfl, hB⟩
    have hI : p.Inv := by obtain ⟨P, hM, hI, _⟩ := h1; exact hI
    have hck := hI.pi.wf.clock
    have hb1 := hB.nw; have hb2 := hB.tk; have hb3 := hB.rf; have hb4 := hB.sn; have hb5 := hB.dr
    refine (pa_poll h1 (hTr h2) (by omega) (by omega) (p.st.clock : Int) 64 (by omega)).mono ?_
    rintro e w' ⟨v, rfl, n0, y', hP', hBA, hs, hn0⟩
    obtain ⟨a, cc, rfl⟩ := ba_len hBA
    have ht := poll_len hI (now := (p.st.clock : Int).toNat) (by omega) (64 : Int).toNat
    refine ⟨a, _, cc, rfl, ht.1, _, _, PX.step h2 h3 hP' hs, ?_, ⟨Nat.le_trans hb1 (by omega), by show c.taken ≤ n + 1; omega, by show c.refused ≤ n + 1; omega, by show c.sent + _ ≤ 64 * (n + 1); have := ht.2; show c.sent + total (p.poll (p.st.clock : Int).toNat (64 : Int).toNat).1 ≤ _; omega, by show c.dropped ≤ 8 * (n + 1); omega⟩, rfl, poll_all hI (by omega)⟩
    rw [poll_clock]; omega
  · rintro b ck wr ⟨p, c, ⟨y, h1, h2, h3⟩, rfl, hB, ha, hd⟩
    refine (pa_next h1 (hTr h2)).mono ?_
    rintro e w' ⟨v, rfl, hv, hP', hf⟩
    refine ⟨v, rfl, ?_⟩
    have hfr := h2.trans hf (fun _ _ q => q)
    rcases least_due (least_next ha hv) hd with q | ⟨q, q2⟩
    · exact .inl ⟨q, hfr⟩
    · by_cases hbig : 4000000000000000000 < v
      · exact .inr (.inl ⟨q, hbig, hfr⟩)
      · exact .inr (.inr ⟨q, by omega, by omega, p, c, ⟨y, hP', hfr, h3⟩, hB, ha, q, by omega, q2⟩)
  · rintro b v wr ⟨p, c, ⟨y, h1, h2, h3⟩, hB, ha, hv, hv2, a, haA, hva, hle⟩
    have hI : p.Inv := by obtain ⟨P, hM, hI, _⟩ := h1; exact hI
    have hb1 := hB.nw; have hb2 := hB.tk; have hb3 := hB.rf; have hb4 := hB.sn; have hb5 := hB.dr
    refine (pa_poll h1 (hTr h2) (by omega) (by omega) (v - 1) 9 (by omega)).mono ?_
    rintro e w' ⟨r, rfl, n0, y', hP', hBA, hs, hn0⟩
    have hst : (Pace.admit (Pace.tick p.st (v - 1).toNat) p.asks).A = p.st.A ∧ (Pace.admit (Pace.tick p.st (v - 1).toNat) p.asks).clock = max p.st.clock (v - 1).toNat := by rw [ha]; exact ⟨rfl, rfl⟩
    have hdue : Pace.due (Pace.admit (Pace.tick p.st (v - 1).toNat) p.asks) = none := by
      unfold Pace.due
      rw [hst.1, hst.2]
      cases hbe : Pace.best p.st.A with
      | none => rfl
      | some z =>
        have := hle z (Pace.best_some hbe).1
        simp only [Option.filter]
        rw [if_neg (by simp; omega)]
    have hrel : p.poll (v - 1).toNat (9 : Int).toNat = ([], { p with st := Pace.admit (Pace.tick p.st (v - 1).toNat) p.asks, asks := [] }) := by
      unfold Pace.PS.poll
      rw [rel_none hdue]
    rw [hrel] at hP' hBA
    obtain ⟨a', cc, rfl⟩ := ba_len hBA
    refine ⟨a', cc, 0, rfl, _, _, PX.step h2 h3 hP' hs, ⟨Nat.le_trans hb1 (by omega), by show c.taken ≤ n + 2; omega, by show c.refused ≤ n + 2; omega, by show c.sent + 0 ≤ 64 * (n + 2); omega, by show c.dropped ≤ 8 * (n + 2); omega⟩, rfl, ?_, hv2, a, ?_, hva, ?_⟩
    · show ((Pace.admit (Pace.tick p.st (v - 1).toNat) p.asks).clock : Int) < v
      rw [hst.2]; omega
    · show a ∈ (Pace.admit (Pace.tick p.st (v - 1).toNat) p.asks).A
      rw [hst.1]; exact haA
    · show ∀ z ∈ (Pace.admit (Pace.tick p.st (v - 1).toNat) p.asks).A, _
      rw [hst.1]; exact hle
  · rintro b v wr ⟨p, c, ⟨y, h1, h2, h3⟩, hB, ha, hv, hv2, a, haA, hva, hle⟩
    have hI : p.Inv := by obtain ⟨P, hM, hI, _⟩ := h1; exact hI
    have hb1 := hB.nw; have hb2 := hB.tk; have hb3 := hB.rf; have hb4 := hB.sn; have hb5 := hB.dr
    refine (pa_poll h1 (hTr h2) (by omega) (by omega) v 9 (by omega)).mono ?_
    rintro e w' ⟨r, rfl, n0, y', hP', hBA, hs, hn0⟩
    have hst : (Pace.admit (Pace.tick p.st v.toNat) p.asks).A = p.st.A ∧ (Pace.admit (Pace.tick p.st v.toNat) p.asks).clock = max p.st.clock v.toNat := by rw [ha]; exact ⟨rfl, rfl⟩
    have hdue : ∃ z, Pace.due (Pace.admit (Pace.tick p.st v.toNat) p.asks) = some z ∧ (z.at' : Int) = v := by
      unfold Pace.due
      rw [hst.1, hst.2]
      cases hbe : Pace.best p.st.A with
      | none => rw [Pace.best_none.1 hbe] at haA; cases haA
      | some z =>
        have k1 := hle z (Pace.best_some hbe).1
        have k2 := (Pace.best_some hbe).2 a haA
        refine ⟨z, ?_, by omega⟩
        simp only [Option.filter]
        rw [if_pos (by simp; omega)]
    obtain ⟨z, hd, hzv⟩ := hdue
    have hrel : (p.poll v.toNat (9 : Int).toNat).1 = (Pace.send (Pace.admit (Pace.tick p.st v.toNat) p.asks) z).1 :: (Pace.rel 8 (Pace.send (Pace.admit (Pace.tick p.st v.toNat) p.asks) z).2).1 := by
      show (Pace.rel (8 + 1) _).1 = _
      rw [Pace.rel, hd]
    rw [hrel] at hBA
    obtain ⟨g, cc, g2, o2, rfl, _, c1, _⟩ := ba_first hBA
    have hle8 := rel_le 8 (Pace.send (Pace.admit (Pace.tick p.st v.toNat) p.asks) z).2
    obtain ⟨y2, _, hfr, _⟩ := PX.step h2 h3 hP' hs
    refine ⟨g, _, cc, rfl, by omega, by omega, ?_, hfr⟩
    rw [c1, ← hzv]
    rfl
end Go.Proofs.YtogdekjklbbbiaaDoor
