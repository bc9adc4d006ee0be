import Derived.Test.YtogdekjklbbbiaaGreatDoorRv
import Derived.Test.YtogdekjklbbbiaaGreatDoorZ12
import Derived.Test.YtogdekjklbbbiaaGreatDoorRy
import Derived.Test.YtogdekjklbbbiaaGreatDoorRn
set_option maxRecDepth 100000
namespace Go.Proofs.YtogdekjklbbbiaaGreatDoor
open Go.ChangeShapes Go.WideShapes Go.ChangeAt Go.RowKit
set_option linter.unusedSimpArgs false
set_option linter.unusedVariables false

/-- Add. -/
theorem rx_add {w : World} {b : Nat} {y : RL} {p : Pace.PS} {tu : Nat} {c : Cn} (h : RX w b y p tu c) (hlen : p.asks.length < 2200000000000) (hnw : p.newest < 3000000000000) (r bu : Int) :
    Calls Tryz.prog 28 #[.pointer (some ⟨b, 0, none⟩), .int .i64 r, .int .i64 bu] w fun e w' => e = .returned (.tuple #[.int .i64 (addN p r bu), .int .i64 (addR p r bu)]) ∧ ∃ y', RX w' b y' (addP p r bu) tu c ∧ StpR w w' y y' := by
  have hRX := h
  obtain ⟨hM, hI, hS⟩ := h
  by_cases hal : Pace.allowed r bu
  · by_cases h8 : p.st.fl.length = 8
    · have hR : addR p r bu = 7 := by unfold addR; rw [if_pos hal, if_pos h8]
      obtain ⟨a, cc, hv⟩ := row_len hM.rf
      have hc3 := hM.rb.c3
      rw [hv, h8] at hc3
      refine (radd_many b r bu a cc w hM.rb.c1 hc3 hal).mono ?_
      rintro e w' ⟨rfl, rfl⟩
      unfold addN addP
      rw [hR, if_neg (by omega), if_neg (by omega)]
      exact ⟨rfl, y, hRX, StpR.refl _ _⟩
    · have hfew := hI.few
      have hR : addR p r bu = 0 := by unfold addR; rw [if_pos hal, if_neg h8]
      have hb : b < w.heap.size := hM.lt b hM.ow
      have hfb : y.fv.ownBlock ≠ some b := fun e => by have := hM.tf b e; rw [hM.tb] at this; cases this
      unfold addN addP
      rw [hR, if_pos rfl, if_pos rfl]
      refine (radd_good b p.st.fl.length p.asks.length (p.newest : Int) r bu y.fv y.pv _ _ w (by omega) hlen (by omega) hM.rb.c1 hM.rb.c3 hM.rb.c4 hM.rb.c5 hM.fz hal hM.rf hM.rp hfb (rpv_ne_b hM) (fun g hg e => by have h1 := hM.tf g hg; have h2 := hM.tp g e; rw [h1] at h2; cases h2)).mono ?_
      obtain ⟨a1, a2, a3, a4⟩ := hal
      rintro e w' ⟨rfl, fv', pv', w2, w4, hrf, hG1, hrp, hG2, rfl⟩
      refine ⟨rfl, ?_⟩
      have hs1 : (((w.setCell ⟨b, 5, none⟩ (.int .i64 ((p.newest : Int) + 1))).alloc (newFlR ((p.newest : Int) + 1))).alloc (.cells #[.pointer (some ⟨w.heap.size, 0, none⟩)] 183)).heap.size = w.heap.size + 2 := by simp
      have hfr1 : Fr w (((w.setCell ⟨b, 5, none⟩ (.int .i64 ((p.newest : Int) + 1))).alloc (newFlR ((p.newest : Int) + 1))).alloc (.cells #[.pointer (some ⟨w.heap.size, 0, none⟩)] 183)) (fun k => k = b ∨ y.fv.ownBlock = some k) := (((ch1 w b 5 _).weak fun k _ q => .inl q).alloc _).alloc _
      have hsz2 := hG1.fr.size
      have hfr2 : Fr w (w2.setCell ⟨b, 3, none⟩ fv') (fun k => k = b ∨ y.fv.ownBlock = some k) := (hfr1.trans hG1.fr fun k _ q => .inr q).trans (ch1 w2 b 3 fv') fun k _ q => .inl q
      have hb2 : w2.heap[b]? = (w.setCell ⟨b, 5, none⟩ (.int .i64 ((p.newest : Int) + 1))).heap[b]? := by
        refine (hG1.fr.blk b (by omega) hfb).trans ?_
        rw [Below.heap_alloc _ _ _ (by simp; omega), Below.heap_alloc _ _ _ (by simp; omega)]
      rw [show (p.newest : Int) + 1 = ((p.newest + 1 : Nat) : Int) by omega] at hb2
      have hRB2 : RB w2 b p.st.q p.st.clock (p.newest + 1) tu y.fv y.pv c := (hM.rb.ids (p.newest + 1)).kept hb2
      have hRB : RB (w2.setCell ⟨b, 3, none⟩ fv') b p.st.q p.st.clock (p.newest + 1) tu fv' y.pv c := hRB2.rowF fv'
      have hF2 : (w2.setCell ⟨b, 3, none⟩ fv').heap[w.heap.size]? = some (newFlR ((p.newest : Int) + 1)) := by
        have hfn : y.fv.ownBlock ≠ some w.heap.size := fun e => by have := (hM.rf.lt _ e).2; omega
        rw [Below.heap_setCell _ _ _ _ (by show w.heap.size ≠ b; omega), hG1.fr.blk w.heap.size (by omega) hfn, Below.heap_alloc _ _ _ (by simp)]
        have := heap_alloc_new (w.setCell ⟨b, 5, none⟩ (.int .i64 ((p.newest : Int) + 1))) (newFlR ((p.newest : Int) + 1))
        simpa using this
      have hnewf : ∀ g, fv'.ownBlock = some g → y.fv.ownBlock = some g ∨ w.heap.size < g := fun g hg => by
        rcases hG1.new hg with q | q
        · exact .inl q
        · exact .inr (by omega)
      have hRA : RA (w2.setCell ⟨b, 3, none⟩ fv') w.heap.size ⟨p.newest + 1, 0, 0, 0, [], 0⟩ 0 0 0 0 0 (.slice none 0 0) := by
        have hc := fun o => heap_cell hF2 o
        refine ⟨by rw [hc]; simp, by rw [hc]; simp, by rw [hc]; simp, ⟨false, by rw [hc]; simp⟩, by rw [hc]; simp, by rw [hc]; simp, by rw [hc]; simp, by rw [hc]; simp, by rw [hc]; simp, by rw [hc]; simp, by rw [hc]; simp, World.ownsRow_nil _ _ _ _, fun o => ?_⟩
        simp [World.frozen?, hF2, newFlR]
      obtain ⟨y1, hP1, hs1', e3⟩ := hM.addFl (fun x hx => (hI.le x hx).2) (fun a ha => by
          obtain ⟨x, hx, _⟩ := hI.pi.wf.A a ha
          exact ⟨x, (Pace.look_some hx).1, (Pace.look_some hx).2⟩) hfr2 (fun o => by rw [World.frozen?_setCell, frozen_of hb2, World.frozen?_setCell]; exact hM.fz o) hRB (row_kept0 hrf fun g hg => Below.heap_setCell _ _ _ _ fun e => by
          have e' : g = b := e
          rcases hnewf g hg with q | q
          · rw [e'] at q; exact hfb q
          · omega) hnewf rfl (by simp; omega) hRA
      obtain ⟨y2, hP2, hs2, _⟩ := rm_push hP1 (.add (p.newest + 1) r.toNat bu.toNat) (pv' := pv') (by
          show w4.ownsRow 0 187 4 pv' _ (_ ++ [Value.int .i64 1, .int .i64 ((p.newest + 1 : Nat) : Int), .int .i64 ((r.toNat : Nat) : Int), .int .i64 ((bu.toNat : Nat) : Int)])
          rw [show ((p.newest + 1 : Nat) : Int) = (p.newest : Int) + 1 by omega, show ((r.toNat : Nat) : Int) = r by omega, show ((bu.toNat : Nat) : Int) = bu by omega]
          exact hrp) (by rw [e3]; exact hG2)
      exact ⟨y2, ⟨hP2, hI.add (by omega) (by omega) (by omega), hS.snoc fun f' r' b' l' e => by cases e⟩, hs1'.trans hs2⟩
  · have hR : addR p r bu = 6 := by unfold addR; rw [if_neg hal]
    refine (radd_rate b r bu w hM.rb.c1 hal).mono ?_
    rintro e w' ⟨rfl, rfl⟩
    unfold addN addP
    rw [hR, if_neg (by omega), if_neg (by omega)]
    exact ⟨rfl, y, hRX, StpR.refl _ _⟩
/-- New. -/
theorem rx_new (w : World) (hz : 0 < w.heap.size) (q : Int) (h1 : 1500 ≤ q) (h2 : q ≤ 1000000) :
    Calls Tryz.prog 17 #[.int .i64 q] w fun e w' => ∃ y, e = .returned (.pointer (some ⟨w.heap.size, 0, none⟩)) ∧ RX w' w.heap.size y (Pace.PS.new q.toNat) 0 ⟨0, 0, 0, 0, 0, 0⟩ ∧ Fr w w' (fun _ => False) ∧ ∀ k, y.own k → w.heap.size ≤ k := by
  refine (rnew_good q w h1 h2).mono ?_
  rintro e w' ⟨rfl, rfl⟩
  have hb := heap_alloc_new w (.cells #[.int .i64 q, .bool false, .int .i64 0, .slice none 0 0, .slice none 0 0, .int .i64 0, .int .i64 0, .int .i64 0, .int .i64 0, .int .i64 0, .int .i64 0, .int .i64 0, .int .i64 0] 92)
  have hc := fun o => heap_cell hb o
  have hq : ((q.toNat : Nat) : Int) = q := by omega
  refine ⟨⟨fun k => if k = w.heap.size then .self else .none, fun _ => 0, fun _ => .slice none 0 0, fun _ => 0, fun _ => 0, fun _ => 0, fun _ => 0, fun _ => 0, .slice none 0 0, .slice none 0 0⟩, rfl, ⟨⟨if_pos rfl, if_neg (by omega), fun k hO => ?_, fun o => fz_cells hb o, ?_, World.ownsRow_nil _ _ _ _, fun g hg => (by cases hg), World.ownsRow_nil _ _ _ _, fun g hg => (by cases hg), fun f hf => (by cases hf), fun f hf => (by cases hf), fun f hf => (by cases hf), fun f hf => (by cases hf), ⟨fun a ha => (by cases ha), fun f hf => (by cases hf), List.Pairwise.nil, fun a ha => (by cases ha)⟩⟩, Pace.PS.new_inv ⟨by omega, by omega⟩, Pace.SetsOk.nil⟩, (Fr.refl _ _).alloc _, fun k hO => ?_⟩
  · have hO' : (if k = w.heap.size then Tag.self else .none) ≠ .none := hO
    by_cases e : k = w.heap.size
    · rw [e]; simp
    · rw [if_neg e] at hO'; exact absurd rfl hO'
  · refine ⟨?_, by rw [hc]; simp, by rw [hc]; simp [Pace.PS.new], by rw [hc]; simp, by rw [hc]; simp, by rw [hc]; simp [Pace.PS.new], by rw [hc]; simp, by rw [hc]; simp, by rw [hc]; simp, by rw [hc]; simp, by rw [hc]; simp, by rw [hc]; simp, by rw [hc]; simp⟩
    rw [hc]
    show _ = some (Value.int .i64 ((q.toNat : Nat) : Int))
    rw [hq]; simp
  · have hO' : (if k = w.heap.size then Tag.self else .none) ≠ .none := hO
    by_cases e : k = w.heap.size
    · omega
    · rw [if_neg e] at hO'; exact absurd rfl hO'
end Go.Proofs.YtogdekjklbbbiaaGreatDoor

namespace Go.Proofs.YtogdekjklbbbiaaGreatDoor
open Go.ChangeShapes Go.WideShapes Go.ChangeAt Go.RowKit
set_option linter.unusedSimpArgs false
set_option linter.unusedVariables false

theorem RM.rowsF {w : World} {b : Nat} {y : RL} {s : Pace.St} {nw tu : Nat} {P : List Pace.Cmd} {c : Cn} (h : RM w b y s nw tu P c) : ∃ g cap, ((y.fv = .slice none 0 0 ∧ (s.fl.map (·.num)) = []) ∨ y.fv = .slice (some ⟨g, 0, none⟩) (s.fl.map (·.num)).length cap) ∧ ∀ k x, (s.fl.map (·.num))[k]? = some x → w.cell? ⟨g, k, none⟩ = some (.pointer (some ⟨y.B x, 0, none⟩)) := by
  rcases h.rf.2 with ⟨q1, q2⟩ | ⟨g, cap, cur, q1, _⟩
  · have hn : s.fl = [] := List.length_eq_zero_iff.1 q2
    exact ⟨0, 0, .inl ⟨q1, by rw [hn]; rfl⟩, fun k x hx => by rw [hn] at hx; simp at hx⟩
  · refine ⟨g, cap, .inr (by rw [q1]; simp), fun k x hx => ?_⟩
    refine row_get0 h.rf (by rw [q1]; rfl) ?_
    rw [List.getElem?_map] at hx ⊢
    cases hz : s.fl[k]? with
    | none => rw [hz] at hx; cases hx
    | some f => rw [hz] at hx; simp at hx ⊢; rw [hx]
theorem wf_mem {s : Pace.St} (h : Pace.WF s) : ∀ a ∈ s.A, a.num ∈ s.fl.map (·.num) := fun a ha => by
  obtain ⟨x, hx, _⟩ := h.A a ha
  obtain ⟨h1, h2⟩ := Pace.look_some hx
  exact List.mem_map.2 ⟨x, h1, h2⟩
theorem wf_pos {s : Pace.St} (h : Pace.WF s) : ∀ a ∈ s.A, 0 < a.k := fun a ha => by
  obtain ⟨x, hx, ho⟩ := h.A a ha
  exact ho.pos
/-- Which flow comes first. -/
theorem rm_due {w : World} {b : Nat} {y : RL} {s : Pace.St} {nw tu : Nat} {P : List Pace.Cmd} {c : Cn} (h : RM w b y s nw tu P c) (hW : Pace.WF s) (hfew : s.fl.length ≤ 8) :
    Calls Tryz.prog 86 #[.pointer (some ⟨b, 0, none⟩)] w fun e w' => e = .returned (.pointer ((Pace.due s).map fun a => ⟨y.B a.num, 0, none⟩)) ∧ Ch w w' (fun _ _ => False) := by
  obtain ⟨g, cap, hfv, hrow⟩ := h.rowsF
  refine (rdue_walk b g cap (s.fl.map (·.num)) y.B y.ar y.at' y.tn s.clock y.fv w h.rb.c3 h.rb.c2 hfv (by simpa using hfew) hrow (fun x hx => ?_)).mono ?_
  · obtain ⟨f, hf, rfl⟩ := List.mem_map.1 hx
    have := h.fl f hf
    exact ⟨this.c8, this.c9, this.c10⟩
  · rintro e w' ⟨rfl, hC⟩
    refine ⟨?_, hC⟩
    rw [Pace.due_scan h.arm.inn (wf_pos hW) h.arm.out h.arm.ord (wf_mem hW), Option.map_map]
    rfl
/-- Next. -/
theorem rx_next {w : World} {b : Nat} {y : RL} {p : Pace.PS} {tu : Nat} {c : Cn} (h : RX w b y p tu c) :
    Calls Tryz.prog 38 #[.pointer (some ⟨b, 0, none⟩)] w fun e w' => ∃ v : Int, e = .returned (.int .i64 v) ∧ nextOf p v ∧ Ch w w' (fun _ _ => False) := by
  obtain ⟨hM, hI, hS⟩ := h
  obtain ⟨a, cc, hpv⟩ := row_len hM.rp
  have hc4 := hM.rb.c4
  rw [hpv] at hc4
  by_cases q : p.asks = []
  · obtain ⟨g, cap, hfv, hrow⟩ := hM.rowsF
    rw [q] at hc4
    refine (rnext_walk b g cap (p.st.fl.map (·.num)) y.B y.ar y.at' y.fv a cc w hM.rb.c1 hc4 hM.rb.c3 hfv (by simpa using hI.few) hrow (fun x hx => ?_)).mono ?_
    · obtain ⟨f, hf, rfl⟩ := List.mem_map.1 hx
      have := hM.fl f hf
      exact ⟨this.c8, this.c9⟩
    · rintro e w' ⟨rfl, hC⟩
      refine ⟨_, rfl, ?_, hC⟩
      unfold nextOf
      rw [if_pos q]
      rcases Pace.next_scan hM.arm.inn (wf_pos hI.pi.wf) hM.arm.out (wf_mem hI.pi.wf) rfl with ⟨q1, q2⟩ | ⟨x, hx, q1, q2⟩
      · exact .inl ⟨by rw [q1]; rfl, q2⟩
      · refine .inr ⟨(x.num, x.at'), List.mem_map.2 ⟨x, hx, rfl⟩, q1, fun z hz => ?_⟩
        obtain ⟨u, hu, rfl⟩ := List.mem_map.1 hz
        exact q2 u hu
  · refine (rnext_pend b p.st.clock p.asks.length cc a w hM.rb.c1 hc4 hM.rb.c2 (List.length_pos_iff.2 q)).mono ?_
    rintro e w' ⟨rfl, rfl⟩
    refine ⟨_, rfl, ?_, Ch.refl _ _⟩
    unfold nextOf
    rw [if_neg q]

theorem RL.none_of {w : World} {b : Nat} {y : RL} {s : Pace.St} {nw tu : Nat} {P : List Pace.Cmd} {c : Cn} (h : RM w b y s nw tu P c) {k : Nat} (hk : w.heap.size ≤ k) : y.tag k = .none := Classical.byContradiction fun q => by have := h.lt k q; omega

/-- One batch goes. -/
theorem rm_send {w : World} {b : Nat} {y : RL} {s : Pace.St} {nw tu : Nat} {P : List Pace.Cmd} {c : Cn} (h : RM w b y s nw tu P c) (hi : Pace.PI s []) {a : Pace.Ar} (hd : Pace.due s = some a) (htu : tu < 1000000000000000000) (hsent : c.sent < 1000000000000000000) :
    Calls Tryz.prog 87 #[.pointer (some ⟨b, 0, none⟩), .pointer (some ⟨y.B a.num, 0, none⟩)] w fun e w' => ∃ pv, e = .returned (.agg #[.int .i64 (a.num : Int), .int .i64 (a.at' : Int), pv]) ∧ ∃ y' tu', RM w' b y' (Pace.send s a).2 nw tu' P { c with sent := c.sent + (Pace.send s a).1.2.2.length } ∧ StpR w w' y y' ∧ w'.ownsRow 0 196 2 pv (Pace.send s a).1.2.2.length (pkC (Pace.send s a).1.2.2) ∧ (∀ g, pv.ownBlock = some g → w.heap.size ≤ g ∧ y'.tag g = .none) ∧ tu' ≤ tu + 1 := by
  obtain ⟨hbest, hck⟩ := Pace.due_some hd
  have ha := (Pace.best_some hbest).1
  obtain ⟨x, hx, hxn, hlx, hk0, hka, hby, hs1, hfl, hi'⟩ := hi.send ha hck
  have hp := Pace.parts_eq
  have hFx := hi.wf.F x hx
  have hbu : x.burst ≤ 1000000 := by rcases hFx.burst with ⟨q, _⟩ | ⟨_, q⟩ <;> omega
  have hcrx : x.cr ≤ 1000000000000000 := by have := hFx.cr; rw [hp] at this; omega
  have hadm := hFx.adm
  have hfew := hFx.few
  obtain ⟨h1, h2, h3, h4, h5, h6⟩ := h.at_flow hlx
  obtain ⟨g, cap, hv, _, hgl, hvg, hnc, _⟩ := row_shape h1.row (by omega)
  have hark := (h.arm.inn a ha).1
  have hata := (h.arm.inn a ha).2
  obtain ⟨hA, hSA⟩ := h.allocd (batO 0 0 (.slice none 0 0))
  have hnew := heap_alloc_new w (batO 0 0 (.slice none 0 0))
  have hxl : y.B a.num < w.heap.size := h.lt _ (h.own_of h5 (by simp))
  have hbl : b < w.heap.size := h.lt _ h.ow
  have hlen : (x.pk.take a.k).length = a.k := by rw [List.length_take]; omega
  rw [hs1]
  simp only [hlen]
  have hzt : y.tag w.heap.size = .none := RL.none_of h (Nat.le_refl _)
  refine (rrelease_walk b (y.B a.num) g a.num x.cr x.adm a.k a.at' cap c.sent x.pk w
    (fun w1 => ∃ y1, RM w1 b y1 s nw tu P c ∧ StpR (w.alloc (batO 0 0 (.slice none 0 0))) w1 y y1 ∧ y1.B = y.B ∧ y1.cr a.num = x.cr ∧ y1.ls a.num = s.clock ∧ y1.ar = y.ar ∧ y1.V = y.V)
    (fun zb pv w3 => ∃ y3 tu3, RM w3 b y3 (Pace.send s a).2 nw tu3 P { c with sent := c.sent + a.k } ∧ StpR w w3 y y3 ∧ w3.ownsRow 0 196 2 pv a.k (pkC (x.pk.take a.k)) ∧ (∀ g, pv.ownBlock = some g → w.heap.size < g ∧ y3.tag g = .none) ∧ tu3 ≤ tu + 1 ∧ y3.tag w.heap.size = .none)
    (fun v w4 => ∃ pv, v = .agg #[.int .i64 (a.num : Int), .int .i64 (a.at' : Int), pv] ∧ ∃ y3 tu3, RM w4 b y3 (Pace.send s a).2 nw tu3 P { c with sent := c.sent + a.k } ∧ StpR w w4 y y3 ∧ w4.ownsRow 0 196 2 pv a.k (pkC (x.pk.take a.k)) ∧ (∀ g, pv.ownBlock = some g → w.heap.size ≤ g ∧ y3.tag g = .none) ∧ tu3 ≤ tu + 1)
    hk0 hka hadm hfew (fun p hp => (hFx.lens p hp).2) hcrx (by rw [← hp]; exact hby) hsent ?_ ?_ ?_ ?_).mono ?_
  · refine (rm_accrue hA hi.wf.nums hlx hFx hi.wf.clock).mono ?_
    rintro e w1 ⟨rfl, y1, hP1, hs1, e1, e2, e3, e4, e5, e6⟩
    exact ⟨rfl, y1, hP1, hs1, e1, e2, e3, e4, e5⟩
  · rintro w1 ⟨y1, hP1, hS1, e1, e2, e3, e4, e5⟩
    obtain ⟨k1, k2, k3, k4, k5, k6⟩ := hP1.at_flow hlx
    rw [e1, e2, e4, e5, hark, hv] at k1
    have hat1 := (hP1.arm.inn a ha).2
    rw [hat1] at k1
    have hgx : g ≠ y.B a.num := fun e => h3 (by rw [hvg, e])
    have hgb : g ≠ b := fun e => h4 (by rw [hvg, e])
    have hk0' := k1.c0
    rw [hxn] at hk0'
    exact ⟨⟨hk0', k1.c4, k1.c5, k1.c6, k1.c8, k1.c9, hP1.rb.c9, k1.fz, hP1.fz, k1.row, h6, hgx, hgb⟩, hS1.new h _ hnew, by omega, by omega, by omega⟩
  · rintro w1 w2 zb pv q ⟨y1, hP1, hS1, e1, e2, e3, e4, e5⟩ hR
    obtain ⟨k1, k2, k3, k4, k5, k6⟩ := hP1.at_flow hlx
    rw [e1] at k1 k3 k5 k6
    have hsz1 : w.heap.size < w1.heap.size := by
      have := hS1.fr.size
      have : (w.alloc (batO 0 0 (.slice none 0 0))).heap.size = w.heap.size + 1 := by simp
      omega
    have hzt1 : y1.tag w.heap.size = .none := hS1.ext _ (by simp) hzt
    have hcx := hR.cx
    have k7 := k1.c7
    rw [e3] at k7
    have hRA : RA w2 (y1.B a.num) (Pace.sentFl a.k x) (x.cr - Pace.bytes (x.pk.take a.k) * Pace.parts) s.clock (y1.ar a.num) (y1.at' a.num) (y1.tn a.num) q := by
      rw [e1]
      refine ⟨by rw [hcx _ (by omega) (by omega) (by omega)]; exact k1.c0, by rw [hcx _ (by omega) (by omega) (by omega)]; exact k1.c1, by rw [hcx _ (by omega) (by omega) (by omega)]; exact k1.c2, by rw [hcx _ (by omega) (by omega) (by omega)]; exact k1.c3, hR.c4, hR.c5, by rw [hp]; exact hR.c6, by rw [hcx _ (by omega) (by omega) (by omega)]; exact k7, by rw [hcx _ (by omega) (by omega) (by omega)]; exact k1.c8, by rw [hcx _ (by omega) (by omega) (by omega)]; exact k1.c9, by rw [hcx _ (by omega) (by omega) (by omega)]; exact k1.c10, ?_, hR.fx⟩
      show w2.ownsRow 0 196 2 q (x.pk.drop a.k).length (pkC (x.pk.drop a.k))
      rw [List.length_drop]; exact hR.rq
    have hRB : RB w2 b s.q s.clock nw tu y1.fv y1.pv { c with sent := c.sent + a.k } := by
      have r := hP1.rb
      have hcb := hR.cb
      exact ⟨by rw [hcb _ (by omega)]; exact r.c0, by rw [hcb _ (by omega)]; exact r.c1, by rw [hcb _ (by omega)]; exact r.c2, by rw [hcb _ (by omega)]; exact r.c3, by rw [hcb _ (by omega)]; exact r.c4, by rw [hcb _ (by omega)]; exact r.c5, by rw [hcb _ (by omega)]; exact r.c6, by rw [hcb _ (by omega)]; exact r.c7, by rw [hcb _ (by omega)]; exact r.c8, hR.d9, by rw [hcb _ (by omega)]; exact r.c10, by rw [hcb _ (by omega)]; exact r.c11, by rw [hcb _ (by omega)]; exact r.c12⟩
    have hcr2 : x.cr - Pace.bytes (x.pk.take a.k) * Pace.parts ≤ x.burst * Pace.parts := Nat.le_trans (Nat.sub_le _ _) hFx.cr
    obtain ⟨y2, hP2, hx2, b1, b2, b3, b4, b5, b6, b7, b8, b9, b10⟩ := hP1.flow (f' := Pace.sentFl a.k x) (tu' := tu) (A' := s.A) hlx hxn hR.fr (fun k q => by
        rcases q with q | q
        · exact .inr (.inl (by rw [q]; exact k5))
        · exact .inl q) hRB hR.fb hRA ⟨Nat.le_refl _, hcr2, by rw [Nat.sub_self]; exact (Pace.acc_zero hcr2).symm⟩ (fun g' hg' => .inr (hR.qn g' hg').1) (by
      rw [upd_self, upd_self, upd_self]
      have := hP1.arm.upd a.num (u := Pace.sentFl a.k) (fun _ => rfl)
      rw [upd_const hi.wf.nums hlx (Pace.sentFl a.k)] at this
      exact this)
    rw [← upd_const hi.wf.nums hlx (Pace.sentFl a.k)] at hP2
    have hs2 : StpR w1 w2 y1 y2 := ⟨hR.fr.weak fun k _ q => by
      rcases q with q | q
      · rw [q]; exact hP1.own_of k5 (by simp)
      · rw [q]; exact hP1.ow, hx2⟩
    have hnone : ∀ k, w1.heap.size ≤ k → q.ownBlock ≠ some k → y2.tag k = .none := fun k hk hq => by rw [b10 k hq]; exact RL.none_of hP1 hk
    have hzb2 : y2.tag zb = .none := hnone zb hR.zn fun e => (hR.qn zb e).2.1 rfl
    have hzr2 : y2.tag w.heap.size = .none := hx2 _ hsz1 hzt1
    have hlk2 : Pace.look (Pace.upd s.fl a.num (Pace.sentFl a.k)) a.num = some (Pace.sentFl a.k x) := upd_look_u hlx (Pace.sentFl a.k) (fun _ => rfl)
    have hq' : (Pace.send s a).2.q = s.q := Pace.arm_q _ _
    have hF2 := hi'.wf.F (Pace.sentFl a.k x) (by rw [hfl]; exact upd_mem hlx _)
    rw [hq'] at hF2
    have hla := rm_arm hP2 (upd_nd hi.wf.nums a.num _ (fun _ => rfl)) hlk2 hF2 hi.wf.q hi.wf.clock (by rw [b2, upd_same]; rfl) htu
    rw [b1, e1] at hla
    have hzbl := (Array.getElem?_eq_some_iff.1 hR.bt).1
    refine hla.mono ?_
    rintro e w3 ⟨rfl, y3, tu3, hP3, hs3, f1, f2, f3⟩
    have hse : (Pace.send s a).2 = Pace.arm { s with fl := Pace.upd s.fl a.num (Pace.sentFl a.k) } a.num := by
      show Pace.arm { s with fl := Pace.upd s.fl a.num (Pace.sentFl a.k), A := Pace.off s.A a.num } a.num = _
      exact Pace.arm_offed (s := { s with fl := Pace.upd s.fl a.num (Pace.sentFl a.k) }) (by show Pace.look (Pace.upd s.fl a.num (Pace.sentFl a.k)) a.num ≠ none; rw [hlk2]; simp)
    have hsz12 := hR.fr.size
    refine ⟨rfl, hs3.fr.blk zb hzbl (fun q => q hzb2), hs3.fr.blk _ (by omega) (fun q => q hzr2), y3, tu3, by rw [hse]; exact hP3, hSA.trans (hS1.trans (hs2.trans hs3)), ?_, fun g' hg' => ?_, f3, hs3.ext _ (by omega) hzr2⟩
    · refine row_kept0 hR.rp fun g' hg' => hs3.fr.blk g' (hR.rp.lt g' hg').2 fun q => q (hnone g' (hR.pn g' hg').1 fun e => (hR.qn g' e).2.2 hg')
    · refine ⟨by have := (hR.pn g' hg').1; omega, hs3.ext g' (hR.rp.lt g' hg').2 (hnone g' (hR.pn g' hg').1 fun e => (hR.qn g' e).2.2 hg')⟩
  · rintro zb pv w3 w4 ⟨y3, tu3, hP3, hS3, hr3, hn3, ht3, hz3⟩ hch
    have hfr : Fr w3 w4 (fun k => k = w.heap.size) := hch.fr2 fun a o q => q
    refine ⟨pv, rfl, y3, tu3, hP3.kept hfr fun k hk q => hk (by rw [q]; exact hz3), ⟨hS3.fr.trans hfr fun k hk q => (by omega), hS3.ext⟩, row_kept0 hr3 fun g' hg' => hch.blk g' fun o q => by have := (hn3 g' hg').1; omega, fun g' hg' => ⟨Nat.le_of_lt (hn3 g' hg').1, (hn3 g' hg').2⟩, ht3⟩
  · rintro e w' ⟨v, rfl, pv, rfl, hh⟩
    exact ⟨pv, rfl, hh⟩
end Go.Proofs.YtogdekjklbbbiaaGreatDoor
