import Derived.Test.YtogdekjklbbbiaaGreatDoorZ11
import Derived.Test.YtogdekjklbbbiaaGreatDoorZ41
set_option maxRecDepth 100000
namespace Go.Proofs.YtogdekjklbbbiaaGreatDoor
open Go.ChangeShapes Go.WideShapes Go.ChangeAt Go.RowKit
set_option linter.unusedSimpArgs false
set_option linter.unusedVariables false

theorem upd_mem {l : List Pace.Fl} {n : Nat} {x : Pace.Fl} (hx : Pace.look l n = some x) (u : Pace.Fl → Pace.Fl) : u x ∈ Pace.upd l n u := by
  obtain ⟨h1, h2⟩ := Pace.look_some hx
  exact List.mem_map.2 ⟨x, h1, if_pos h2⟩
theorem upd_look_u {l : List Pace.Fl} {n : Nat} {x : Pace.Fl} (hx : Pace.look l n = some x) (u : Pace.Fl → Pace.Fl) (hu : ∀ x, (u x).num = x.num) : Pace.look (Pace.upd l n u) n = some (u x) := by
  rw [Pace.look_upd _ _ _ hu, hx]
  simp only [Option.map_some]
  rw [if_pos (Pace.look_some hx).2]
theorem upd_nd {l : List Pace.Fl} (h : (l.map (·.num)).Nodup) (n : Nat) (u : Pace.Fl → Pace.Fl) (hu : ∀ x, (u x).num = x.num) : ((Pace.upd l n u).map (·.num)).Nodup := by rw [Pace.upd_nums _ _ hu]; exact h
theorem RM.allocd {w : World} {b : Nat} {y : RL} {s : Pace.St} {nw tu : Nat} {P : List Pace.Cmd} {c : Cn} (h : RM w b y s nw tu P c) (o : Obj) : RM (w.alloc o) b y s nw tu P c ∧ StpR w (w.alloc o) y y :=
  ⟨h.kept (O := fun _ => False) ((Fr.refl _ _).alloc o) fun _ _ q => q, ⟨(Fr.refl _ _).alloc o, fun _ _ e => e⟩⟩
theorem StpR.new {w w' : World} {b : Nat} {y y' : RL} {s : Pace.St} {nw tu : Nat} {P : List Pace.Cmd} {c : Cn} {w0 : World} (hS : StpR w w' y y') (h : RM w0 b y s nw tu P c) (o : Obj) (hw : w.heap[w0.heap.size]? = some o) : w'.heap[w0.heap.size]? = some o := by
  have hlt : w0.heap.size < w.heap.size := by
    rcases Nat.lt_or_ge w0.heap.size w.heap.size with q | q
    · exact q
    · rw [Array.getElem?_eq_none q] at hw; cases hw
  rw [hS.fr.blk _ hlt (fun q => Nat.lt_irrefl _ (h.lt _ q)), hw]
theorem ne_cell {a o o' : Nat} (h : o ≠ o') : (⟨a, o, none⟩ : Addr) ≠ ⟨a, o', none⟩ := fun q => h (by injection q)

theorem rm_adm_add {w : World} {b : Nat} {y : RL} {s : Pace.St} {nw tu : Nat} {P : List Pace.Cmd} {c : Cn} (h : RM w b y s nw tu P c) {n r bu : Nat} {cs : List Pace.Cmd} (hi : Pace.PI s (.add n r bu :: cs)) (hfew : s.fl.length ≤ 8) :
    Calls Tryz.prog 85 #[.pointer (some ⟨b, 0, none⟩), .agg #[.int .i64 1, .int .i64 (n : Int), .int .i64 (r : Int), .int .i64 (bu : Int)]] w fun e w' => e = .returned (.tuple #[]) ∧ ∃ y' tu', RM w' b y' (Pace.adm1 s (.add n r bu)) nw tu' P c ∧ StpR w w' y y' ∧ y'.pv = y.pv ∧ tu' ≤ tu + 1 := by
  obtain ⟨x, hx⟩ := live_look (hi.live _ (List.mem_cons_self ..))
  have hx : Pace.look s.fl n = some x := hx
  have hok := hi.ok _ (List.mem_cons_self ..)
  obtain ⟨o1, o2, o3⟩ : r ≤ 1000000000 ∧ 1500 ≤ bu ∧ bu ≤ 1000000 := hok
  have hp := Pace.parts_eq
  obtain ⟨hA, hSA⟩ := h.allocd (askO 1 (n : Int) (r : Int) (bu : Int))
  obtain ⟨h1, h2, h3, h4, h5, h6⟩ := h.at_flow hx
  obtain ⟨k1, k2, k3, k4, k5, k6⟩ := hA.at_flow hx
  obtain ⟨z3, hz3⟩ := h1.c3
  refine (radmit_add b (y.B n) (n : Int) (r : Int) (bu : Int) (s.clock : Int) _ _ _ _ _ w ⟨by omega, by omega⟩ h6 h1.c1 h1.c2 hz3 h1.c6 h1.c7 h.rb.c2 h1.fz (rm_look_nat hA hfew hx)).mono ?_
  rintro e w' ⟨rfl, hw'⟩
  refine ⟨rfl, ?_⟩
  generalize hWa : w.alloc (askO 1 (n : Int) (r : Int) (bu : Int)) = wa at hA hSA k1 hw'
  rw [show (bu : Int) * 1000000000 = ((bu * Pace.parts : Nat) : Int) by rw [hp]; omega] at hw'
  obtain ⟨kz3, hkz3⟩ := k1.c3
  have hch1 : Ch wa (wa.setCell ⟨y.B n, 3, none⟩ (.bool true)) (fun a o => a = y.B n ∧ (o = 1 ∨ o = 2 ∨ o = 3 ∨ o = 6 ∨ o = 7)) := (Ch.refl wa _).setCell ⟨rfl, by omega⟩ _
  have hch2 := hch1.setCell (b := y.B n) (o := 1) ⟨rfl, by omega⟩ (.int .i64 (r : Int))
  have hch3 := hch2.setCell (b := y.B n) (o := 2) ⟨rfl, by omega⟩ (.int .i64 (bu : Int))
  have hch4 := hch3.setCell (b := y.B n) (o := 6) ⟨rfl, by omega⟩ (.int .i64 ((bu * Pace.parts : Nat) : Int))
  have hch5 := hch4.setCell (b := y.B n) (o := 7) ⟨rfl, by omega⟩ (.int .i64 (s.clock : Int))
  have d7 : w'.cell? ⟨y.B n, 7, none⟩ = some (.int .i64 (s.clock : Int)) := by
    rw [hw']; exact World.cell?_setCell_same' _ _ _ (by rw [hch4.dom, k1.c7]; rfl)
  have d6 : w'.cell? ⟨y.B n, 6, none⟩ = some (.int .i64 ((bu * Pace.parts : Nat) : Int)) := by
    rw [hw', World.cell?_setCell_other _ _ _ _ (ne_cell (by omega))]; exact World.cell?_setCell_same' _ _ _ (by rw [hch3.dom, k1.c6]; rfl)
  have d2 : w'.cell? ⟨y.B n, 2, none⟩ = some (.int .i64 (bu : Int)) := by
    rw [hw', World.cell?_setCell_other _ _ _ _ (ne_cell (by omega)), World.cell?_setCell_other _ _ _ _ (ne_cell (by omega))]; exact World.cell?_setCell_same' _ _ _ (by rw [hch2.dom, k1.c2]; rfl)
  have d1 : w'.cell? ⟨y.B n, 1, none⟩ = some (.int .i64 (r : Int)) := by
    rw [hw', World.cell?_setCell_other _ _ _ _ (ne_cell (by omega)), World.cell?_setCell_other _ _ _ _ (ne_cell (by omega)), World.cell?_setCell_other _ _ _ _ (ne_cell (by omega))]; exact World.cell?_setCell_same' _ _ _ (by rw [hch1.dom, k1.c1]; rfl)
  have d3 : w'.cell? ⟨y.B n, 3, none⟩ = some (.bool true) := by
    rw [hw', World.cell?_setCell_other _ _ _ _ (ne_cell (by omega)), World.cell?_setCell_other _ _ _ _ (ne_cell (by omega)), World.cell?_setCell_other _ _ _ _ (ne_cell (by omega)), World.cell?_setCell_other _ _ _ _ (ne_cell (by omega))]; exact World.cell?_setCell_same' _ _ _ (by rw [hkz3]; rfl)
  rw [← hw'] at hch5
  have hc : ∀ o, ¬ (o = 1 ∨ o = 2 ∨ o = 3 ∨ o = 6 ∨ o = 7) → w'.cell? ⟨y.B n, o, none⟩ = wa.cell? ⟨y.B n, o, none⟩ := fun o ho => hch5.cell _ o fun q => ho q.2
  have hRA : RA w' (y.B n) { x with rate := r, burst := bu, cr := bu * Pace.parts } (bu * Pace.parts) s.clock (y.ar n) (y.at' n) (y.tn n) (y.V n) :=
    ⟨by rw [hc _ (by omega)]; exact k1.c0, d1, d2, ⟨_, d3⟩, by rw [hc _ (by omega)]; exact k1.c4, by rw [hc _ (by omega)]; exact k1.c5, d6, d7, by rw [hc _ (by omega)]; exact k1.c8, by rw [hc _ (by omega)]; exact k1.c9, by rw [hc _ (by omega)]; exact k1.c10, row_kept k1.row fun g hg => hch5.blk g fun o q => k3 (by rw [hg, q.1]), fun o => (hch5.fz _).trans (k1.fz o)⟩
  have hbb : w'.heap[b]? = wa.heap[b]? := hch5.blk b fun o q => h6 q.1.symm
  obtain ⟨y2, hP2, hS2, b1, b2, b3, b4, b5, b6, b7⟩ := hA.flowU hi.wf.nums hx (fun x => { x with rate := r, burst := bu, cr := bu * Pace.parts }) (fun _ => rfl) (O := fun k => k = y.B n) (hch5.fr2 fun a o q => q.1) (fun k q => .inr q) (hA.rb.kept hbb) (fun o => (frozen_of hbb o).trans (hA.fz o)) hRA ⟨Nat.le_refl _, Nat.le_refl _, by rw [Nat.sub_self]; exact (Pace.acc_zero (Nat.le_refl _)).symm⟩ rfl (A' := s.A) (by
    rw [upd_self, upd_self, upd_self]; exact hA.arm.upd n fun _ => rfl)
  exact ⟨y2, tu, hP2, hSA.trans hS2, b6, by omega⟩

theorem rm_adm_set {w : World} {b : Nat} {y : RL} {s : Pace.St} {nw tu : Nat} {P : List Pace.Cmd} {c : Cn} (h : RM w b y s nw tu P c) {n r bu : Nat} {cs : List Pace.Cmd} (hi : Pace.PI s (.set n r bu bu :: cs)) (hfew : s.fl.length ≤ 8) (htu : tu < 1000000000000000000) :
    Calls Tryz.prog 85 #[.pointer (some ⟨b, 0, none⟩), .agg #[.int .i64 2, .int .i64 (n : Int), .int .i64 (r : Int), .int .i64 (bu : Int)]] w fun e w' => e = .returned (.tuple #[]) ∧ ∃ y' tu', RM w' b y' (Pace.adm1 s (.set n r bu bu)) nw tu' P c ∧ StpR w w' y y' ∧ y'.pv = y.pv ∧ tu' ≤ tu + 1 := by
  obtain ⟨x, hx⟩ := live_look (hi.live _ (List.mem_cons_self ..))
  have hx : Pace.look s.fl n = some x := hx
  have hok := hi.ok _ (List.mem_cons_self ..)
  obtain ⟨o1, o2, o3, _⟩ : r ≤ 1000000000 ∧ 1500 ≤ bu ∧ bu ≤ 1000000 ∧ 1500 ≤ bu ∧ bu ≤ bu := hok
  have hp := Pace.parts_eq
  obtain ⟨hA, hSA⟩ := h.allocd (askO 2 (n : Int) (r : Int) (bu : Int))
  have hFx := hi.wf.F x (Pace.look_some hx).1
  have hcrx : x.cr ≤ 1000000000000000 := by
    have h1 := hFx.cr
    have h2 : x.burst ≤ 1000000 := by rcases hFx.burst with ⟨q, _⟩ | ⟨_, q⟩ <;> omega
    rw [hp] at h1; omega
  have hnew := heap_alloc_new w (askO 2 (n : Int) (r : Int) (bu : Int))
  obtain ⟨h1, h2, h3, h4, h5, h6⟩ := h.at_flow hx
  have hxl : y.B n < w.heap.size := h.lt _ (h.own_of h5 (by simp))
  refine (radmit_set b (y.B n) (n : Int) (r : Int) bu x.cr w (fun w1 => ∃ y1, RM w1 b y1 s nw tu P c ∧ StpR (w.alloc (askO 2 (n : Int) (r : Int) (bu : Int))) w1 y y1 ∧ y1.B = y.B ∧ y1.cr n = x.cr ∧ y1.ls n = s.clock ∧ y1.V = y.V ∧ y1.pv = y.pv) (fun w' => ∃ y' tu', RM w' b y' (Pace.adm1 s (.set n r bu bu)) nw tu' P c ∧ StpR w w' y y' ∧ y'.pv = y.pv ∧ tu' ≤ tu + 1) o3 hcrx (rm_look_nat hA hfew hx) ?_ ?_ ?_)
  · refine (rm_accrue hA hi.wf.nums hx hFx hi.wf.clock).mono ?_
    rintro e w1 ⟨rfl, y1, hP1, hs1, e1, e2, e3, e4, e5, e6⟩
    exact ⟨rfl, y1, hP1, hs1, e1, e2, e3, e5, e6⟩
  · rintro w1 ⟨y1, hP1, hs1, e1, e2, e3, e4, e5⟩
    obtain ⟨k1, k2, k3, k4, k5, k6⟩ := hP1.at_flow hx
    rw [e1] at k1
    have hk6 := k1.c6
    rw [e2] at hk6
    exact ⟨hs1.new h _ hnew, ⟨_, k1.c1⟩, ⟨_, k1.c2⟩, hk6, k1.fz, by omega⟩
  · rintro w1 ⟨y1, hP1, hs1, e1, e2, e3, e4, e5⟩ w2 hch d1 d2 d6
    obtain ⟨k1, k2, k3, k4, k5, k6⟩ := hP1.at_flow hx
    rw [e1] at k1 k3 k5 k6
    have hc : ∀ o, ¬ (o = 1 ∨ o = 2 ∨ o = 6) → w2.cell? ⟨y.B n, o, none⟩ = w1.cell? ⟨y.B n, o, none⟩ := fun o ho => hch.cell _ o fun q => ho q.2
    rw [show bu * 1000000000 = bu * Pace.parts by rw [hp]] at d6
    have hRA : RA w2 (y1.B n) { x with rate := r, burst := bu, cr := min x.cr (bu * Pace.parts) } (min x.cr (bu * Pace.parts)) s.clock (y1.ar n) (y1.at' n) (y1.tn n) (y1.V n) := by
      rw [e1]
      have k7 := k1.c7
      rw [e3] at k7
      exact ⟨by rw [hc _ (by omega)]; exact k1.c0, d1, d2, by rw [hc _ (by omega)]; exact k1.c3, by rw [hc _ (by omega)]; exact k1.c4, by rw [hc _ (by omega)]; exact k1.c5, d6, by rw [hc _ (by omega)]; exact k7, by rw [hc _ (by omega)]; exact k1.c8, by rw [hc _ (by omega)]; exact k1.c9, by rw [hc _ (by omega)]; exact k1.c10, row_kept k1.row fun g hg => hch.blk g fun o q => k3 (by rw [hg, q.1]), fun o => (hch.fz _).trans (k1.fz o)⟩
    have hbb : w2.heap[b]? = w1.heap[b]? := hch.blk b fun o q => k6 q.1.symm
    obtain ⟨y2, hP2, hS2, b1, b2, b3, b4, b5, b6, b7⟩ := hP1.flowU hi.wf.nums hx (fun x => { x with rate := r, burst := bu, cr := min x.cr (bu * Pace.parts) }) (fun _ => rfl) (O := fun k => k = y1.B n) (hch.fr2 fun a o q => by rw [e1]; exact q.1) (fun k q => .inr q) (hP1.rb.kept hbb) (fun o => (frozen_of hbb o).trans (hP1.fz o)) hRA ⟨Nat.le_refl _, Nat.min_le_right _ _, by rw [Nat.sub_self]; exact (Pace.acc_zero (Nat.min_le_right _ _)).symm⟩ rfl (A' := s.A) (by
      rw [upd_self, upd_self, upd_self]; exact hP1.arm.upd n fun _ => rfl)
    have hstep := hi.step
    have hfl : (Pace.adm1 s (.set n r bu bu)).fl = Pace.upd s.fl n (fun x => { x with rate := r, burst := bu, cr := min x.cr (bu * Pace.parts) }) := Pace.arm_fl _ _
    have hF2 := hstep.wf.F { x with rate := r, burst := bu, cr := min x.cr (bu * Pace.parts) } (by rw [hfl]; exact upd_mem hx _)
    have hq2 : (Pace.adm1 s (.set n r bu bu)).q = s.q := Pace.arm_q _ _
    rw [hq2] at hF2
    have hla := rm_arm hP2 (upd_nd hi.wf.nums n _ (fun _ => rfl)) (upd_look_u hx (fun x => { x with rate := r, burst := bu, cr := min x.cr (bu * Pace.parts) }) (fun _ => rfl)) hF2 hi.wf.q hi.wf.clock (by rw [b2, upd_same]) htu
    rw [b1, e1] at hla
    refine hla.mono ?_
    rintro e w' ⟨rfl, y3, tu3, hP3, hs3, f1, f2, f3⟩
    exact ⟨rfl, y3, tu3, hP3, hSA.trans (hs1.trans (hS2.trans hs3)), f2.trans (b6.trans e5), f3⟩

theorem rm_adm_enq {w : World} {b : Nat} {y : RL} {s : Pace.St} {nw tu : Nat} {P : List Pace.Cmd} {c : Cn} (h : RM w b y s nw tu P c) {n : Nat} {cs : List Pace.Cmd} (hi : Pace.PI s (.enq n :: cs)) (hfew : s.fl.length ≤ 8) (htu : tu < 1000000000000000000) :
    Calls Tryz.prog 85 #[.pointer (some ⟨b, 0, none⟩), .agg #[.int .i64 3, .int .i64 (n : Int), .int .i64 0, .int .i64 0]] w fun e w' => e = .returned (.tuple #[]) ∧ ∃ y' tu', RM w' b y' (Pace.adm1 s (.enq n)) nw tu' P c ∧ StpR w w' y y' ∧ y'.pv = y.pv ∧ tu' ≤ tu + 1 := by
  obtain ⟨x, hx⟩ := live_look (hi.live _ (List.mem_cons_self ..))
  have hx : Pace.look s.fl n = some x := hx
  obtain ⟨hA, hSA⟩ := h.allocd (askO 3 (n : Int) 0 0)
  have hFx := hi.wf.F x (Pace.look_some hx).1
  have hfa := hFx.adm
  have hf8 := hFx.few
  obtain ⟨h1, h2, h3, h4, h5, h6⟩ := h.at_flow hx
  obtain ⟨k1, k2, k3, k4, k5, k6⟩ := hA.at_flow hx
  have hstep := hi.step
  have hadm : Pace.adm1 s (.enq n) = if x.adm = 0 then Pace.arm { s with fl := Pace.upd s.fl n fun x => { x with adm := x.adm + 1 } } n else { s with fl := Pace.upd s.fl n fun x => { x with adm := x.adm + 1 } } := by
    unfold Pace.adm1
    simp only
    rw [hx]
  -- the flow with one packet more admitted
  have hch : Ch (w.alloc (askO 3 (n : Int) 0 0)) ((w.alloc (askO 3 (n : Int) 0 0)).setCell ⟨y.B n, 5, none⟩ (.int .i64 ((x.adm : Int) + 1))) (fun a o => a = y.B n ∧ o = 5) := (Ch.refl _ _).setCell ⟨rfl, rfl⟩ _
  have d5 : ((w.alloc (askO 3 (n : Int) 0 0)).setCell ⟨y.B n, 5, none⟩ (.int .i64 ((x.adm : Int) + 1))).cell? ⟨y.B n, 5, none⟩ = some (.int .i64 ((x.adm + 1 : Nat) : Int)) := by
    rw [show ((x.adm + 1 : Nat) : Int) = (x.adm : Int) + 1 by omega]
    exact World.cell?_setCell_same' _ _ _ (by rw [k1.c5]; rfl)
  generalize hW : (w.alloc (askO 3 (n : Int) 0 0)).setCell ⟨y.B n, 5, none⟩ (.int .i64 ((x.adm : Int) + 1)) = W at hch d5
  have hc : ∀ o, o ≠ 5 → W.cell? ⟨y.B n, o, none⟩ = (w.alloc (askO 3 (n : Int) 0 0)).cell? ⟨y.B n, o, none⟩ := fun o ho => hch.cell _ o fun q => ho q.2
  have hRA : RA W (y.B n) { x with adm := x.adm + 1 } (y.cr n) (y.ls n) (y.ar n) (y.at' n) (y.tn n) (y.V n) :=
    ⟨by rw [hc _ (by omega)]; exact k1.c0, by rw [hc _ (by omega)]; exact k1.c1, by rw [hc _ (by omega)]; exact k1.c2, by rw [hc _ (by omega)]; exact k1.c3, by rw [hc _ (by omega)]; exact k1.c4, d5, by rw [hc _ (by omega)]; exact k1.c6, by rw [hc _ (by omega)]; exact k1.c7, by rw [hc _ (by omega)]; exact k1.c8, by rw [hc _ (by omega)]; exact k1.c9, by rw [hc _ (by omega)]; exact k1.c10, row_kept k1.row fun g hg => hch.blk g fun o q => k3 (by rw [hg, q.1]), fun o => (hch.fz _).trans (k1.fz o)⟩
  have hbb : W.heap[b]? = (w.alloc (askO 3 (n : Int) 0 0)).heap[b]? := hch.blk b fun o q => h6 q.1.symm
  obtain ⟨y2, hP2, hS2, b1, b2, b3, b4, b5, b6, b7⟩ := hA.flowU hi.wf.nums hx (fun x => { x with adm := x.adm + 1 }) (fun _ => rfl) (O := fun k => k = y.B n) (hch.fr2 fun a o q => q.1) (fun k q => .inr q) (hA.rb.kept hbb) (fun o => (frozen_of hbb o).trans (hA.fz o)) hRA ⟨k2.rle, k2.cle, k2.eq⟩ rfl (A' := s.A) (by
    rw [upd_self, upd_self, upd_self]; exact hA.arm.upd n fun _ => rfl)
  have hnd2 : ((Pace.upd s.fl n fun x => { x with adm := x.adm + 1 }).map (·.num)).Nodup := upd_nd hi.wf.nums n _ (fun _ => rfl)
  have hlk2 := upd_look_u hx (fun x => { x with adm := x.adm + 1 }) (fun _ => rfl)
  have hfl : (Pace.adm1 s (.enq n)).fl = Pace.upd s.fl n (fun x => { x with adm := x.adm + 1 }) := by
    rw [hadm]
    split
    · exact Pace.arm_fl _ _
    · rfl
  have hq2 : (Pace.adm1 s (.enq n)).q = s.q := by
    rw [hadm]
    split
    · exact Pace.arm_q _ _
    · rfl
  have hF2 := hstep.wf.F { x with adm := x.adm + 1 } (by rw [hfl]; exact upd_mem hx _)
  rw [hq2] at hF2
  refine (radmit_enq b (y.B n) (n : Int) x.adm w (fun w1 => ∃ y1, RM w1 b y1 { s with fl := Pace.upd s.fl n fun x => { x with adm := x.adm + 1 } } nw tu P c ∧ StpR W w1 y2 y1 ∧ y1.B = y.B ∧ y1.cr n = x.cr ∧ y1.pv = y.pv ∧ x.adm = 0) (fun w' => ∃ y' tu', RM w' b y' (Pace.adm1 s (.enq n)) nw tu' P c ∧ StpR w w' y y' ∧ y'.pv = y.pv ∧ tu' ≤ tu + 1) (by omega) h1.c5 h1.fz (rm_look_nat hA hfew hx) ?_ ?_ ?_)
  · intro h0
    rw [hW]
    have := rm_accrue hP2 hnd2 hlk2 hF2 hi.wf.clock
    rw [b1] at this
    refine this.mono ?_
    rintro e w1 ⟨rfl, y1, hP1, hs1, e1, e2, e3, e4, e5, e6⟩
    exact ⟨rfl, y1, hP1, hs1, e1, e2, e6.trans b6, h0⟩
  · rintro w1 ⟨y1, hP1, hs1, e1, e2, e3, h0⟩
    have hla := rm_arm hP1 hnd2 hlk2 hF2 hi.wf.q hi.wf.clock e2 htu
    rw [e1] at hla
    refine hla.mono ?_
    rintro e w' ⟨rfl, y3, tu3, hP3, hs3, f1, f2, f3⟩
    refine ⟨rfl, y3, tu3, ?_, hSA.trans (hS2.trans (hs1.trans hs3)), f2.trans e3, f3⟩
    rw [hadm, if_pos h0]
    exact hP3
  · intro h0
    rw [hW]
    refine ⟨y2, tu, ?_, hSA.trans hS2, b6, by omega⟩
    rw [hadm, if_neg h0]
    exact hP2
end Go.Proofs.YtogdekjklbbbiaaGreatDoor

namespace Go.Proofs.YtogdekjklbbbiaaGreatDoor
open Go.ChangeShapes Go.WideShapes Go.ChangeAt Go.RowKit
set_option linter.unusedSimpArgs false
set_option linter.unusedVariables false

theorem info200 : (Tryz.prog.info? 200).map (fun i => (i.zero, i.size, i.bytes)) = some (some (.agg #[.int .i64 0, .int .i64 0, .slice none 0 0]), 3, 40) := by kernel_rfl
theorem neqp_nilR (w : World) (x : Nat) : (binOp .neq 183 (.pointer (some ⟨x, 0, none⟩)) (.pointer none)).run Tryz.prog w = .ok (.bool true) w := by
  kernel_rfl
theorem rpoll_bad (b : Nat) (now bud : Int) (w : World) (h1 : w.cell? ⟨b, 1, none⟩ = some (.bool false)) (hn : 4000000000000000000 < now) :
    Calls Tryz.prog 36 #[.pointer (some ⟨b, 0, none⟩), .int .i64 now, .int .i64 bud] w fun e w' => e = .returned (.tuple #[.slice none 0 0, .int .i64 1]) ∧ w' = w := by
  go_enter Tryz.func36, Tryz.ntmps36
  go_wp2_with fail
  go_ret2
  exact ⟨rfl, rfl⟩
set_option maxHeartbeats 4000000 in
theorem rpoll_good (b n c4 : Nat) (a4 : Option Addr) (now bud : Int) (ck : Int) (w : World) (kd fl r bu : Nat → Int) (R : Nat → World → Prop) (D N : Nat → Value → World → Prop) (S : Nat → Value → Nat → World → Prop) (T : Nat → Value → Nat → Nat → Value → World → Prop) (Post : Value → World → Prop)
    (h1 : w.cell? ⟨b, 1, none⟩ = some (.bool false)) (h2 : w.cell? ⟨b, 2, none⟩ = some (.int .i64 ck)) (z2 : w.frozen? ⟨b, 2, none⟩ = false) (hn : now ≤ 4000000000000000000) (hlen : n < 2200000000000)
    (hR0 : R 0 (if ck < now then w.setCell ⟨b, 2, none⟩ (.int .i64 now) else w))
    (hRc : ∀ k wr, R k wr → wr.cell? ⟨b, 4, none⟩ = some (.slice a4 n c4) ∧ wr.frozen? ⟨b, 4, none⟩ = false ∧ (k < n → ∃ g, a4 = some ⟨g, 0, none⟩ ∧ wr.cell? ⟨g, k * 4, none⟩ = some (.int .i64 (kd k)) ∧ wr.cell? ⟨g, k * 4 + 1, none⟩ = some (.int .i64 (fl k)) ∧ wr.cell? ⟨g, k * 4 + 2, none⟩ = some (.int .i64 (r k)) ∧ wr.cell? ⟨g, k * 4 + 3, none⟩ = some (.int .i64 (bu k))))
    (hRs : ∀ k wr, R k wr → k < n → Calls Tryz.prog 85 #[.pointer (some ⟨b, 0, none⟩), .agg #[.int .i64 (kd k), .int .i64 (fl k), .int .i64 (r k), .int .i64 (bu k)]] wr fun e w' => e = .returned (.tuple #[]) ∧ R (k + 1) w')
    (hD0 : ∀ wr, R n wr → D 0 (.slice none 0 0) (wr.setCell ⟨b, 4, none⟩ (.slice none 0 0)))
    (hDu : ∀ j v wr, D j v wr → Calls Tryz.prog 86 #[.pointer (some ⟨b, 0, none⟩)] wr fun e w' => (e = .returned (.pointer none) ∧ N j v w') ∨ ∃ x, e = .returned (.pointer (some ⟨x, 0, none⟩)) ∧ S j v x w')
    (hN : ∀ j v wr, N j v wr → Post v wr) (hSe : ∀ j v x wr, S j v x wr → ¬ ((j : Int) < bud) → Post v wr) (hSl : ∀ j v x wr, S j v x wr → j < 100) (hNl : ∀ j v wr, N j v wr → ∃ a c, v = .slice a j c) (hSv : ∀ j v x wr, S j v x wr → ∃ a c, v = .slice a j c)
    (hSr : ∀ j v x wr, S j v x wr → (j : Int) < bud → Calls Tryz.prog 87 #[.pointer (some ⟨b, 0, none⟩), .pointer (some ⟨x, 0, none⟩)] wr fun e w' => ∃ (m t : Nat) (pv : Value), e = .returned (.agg #[.int .i64 (m : Int), .int .i64 (t : Int), pv]) ∧ T j v m t pv w')
    (hT : ∀ j v m t pv wr, T j v m t pv wr → (∃ a n c, pv = .slice a n c) ∧ ∃ bx, wr.ownsRow 0 200 3 v j bx ∧ ∀ v2 w2, w2.ownsRow 0 200 3 v2 (j + 1) (bx ++ [.int .i64 (m : Int), .int .i64 (t : Int), pv]) → Gr ((wr.alloc (.cells #[.int .i64 (m : Int), .int .i64 (t : Int), pv] 200)).alloc (.cells #[.int .i64 (m : Int), .int .i64 (t : Int), pv] 200)) w2 v v2 → D (j + 1) v2 w2) :
    Calls Tryz.prog 36 #[.pointer (some ⟨b, 0, none⟩), .int .i64 now, .int .i64 bud] w fun e w' => ∃ v, e = .returned (.tuple #[v, .int .i64 0]) ∧ Post v w' := by
  obtain ⟨i1, hj1, hy0, hy1, hy2⟩ := info_parts info200
  have HRc := hide hRc; have HRs := hide hRs; have HD0 := hide hD0; have HDu := hide hDu; have HN := hide hN; have HSe := hide hSe; have HSl := hide hSl; have HSr := hide hSr; have HT := hide hT; have HNl := hide hNl; have HSv := hide hSv
  clear hRc hRs hD0 hDu hN hSe hSl hSr hT hNl hSv
  have hn' : decide (4000000000000000000 < now) = false := decide_eq_false (by omega)
  have hcases : (ck < now ∧ R 0 (w.setCell ⟨b, 2, none⟩ (.int .i64 now))) ∨ (decide (ck < now) = false ∧ R 0 w) := by
    by_cases h : ck < now
    · rw [if_pos h] at hR0; exact .inl ⟨h, hR0⟩
    · rw [if_neg h] at hR0; exact .inr ⟨decide_eq_false h, hR0⟩
  clear hR0
  rcases hcases with ⟨hck, hR0⟩ | ⟨hck, hR0⟩
  all_goals
    have HR0 := hide hR0
    clear hR0
    go_enter Tryz.func36, Tryz.ntmps36
    go_wp2_with fail
    go_loopg [8] n (fun gk vi wr => ∃ k : Nat, vi = .int .i64 (k : Int) ∧ gk = n - k ∧ k ≤ n ∧ R k wr)
    case atStart => exact ⟨0, rfl, rfl, Nat.zero_le _, unhide HR0⟩
    case round =>
      obtain ⟨k, hu, hgk, hkn, hRk⟩ := hrel
      rw [hu]
      clear hu HR0
      have HG := hide hgk; have HRk := hide hRk
      obtain ⟨c4', z4, hel⟩ := unhide HRc k wr hRk
      clear hgk hRk
      by_cases hk : k < n
      · obtain ⟨g, ha, e0, e1, e2, e3⟩ := hel hk
        have HCl := hide (unhide HRs k wr (unhide HRk) hk)
        subst ha
        have hki : (k : Int) < (n : Int) := by omega
        have hk0 : (0 : Int) ≤ (k : Int) := by omega
        clear hel
        go_wp2_with fail
        refine (unhide HCl).mono ?_
        rintro e w2 ⟨rfl, hR2⟩
        have HR2 := hide hR2
        clear hR2
        go_wp2_with fail
        go_roundg (n - (k + 1))
        case measure => rw [unhide HG]; omega
        case rel => exact ⟨k + 1, by go_num, rfl, by omega, unhide HR2⟩
      · have hki : ¬ ((k : Int) < (n : Int)) := by omega
        have hkn : k = n := by omega
        subst hkn
        have HD := hide (unhide HD0 wr (unhide HRk))
        have HCl := hide (unhide HDu _ _ _ (unhide HD))
        clear hel
        go_wp2_with fail
        refine (unhide HCl).mono ?_
        intro e w2 hq
        have hst : ∃ o : Option Nat, e = .returned (.pointer (o.map fun x => ⟨x, 0, none⟩)) ∧ (match o with | none => N 0 (.slice none 0 0) w2 | some x => S 0 (.slice none 0 0) x w2) := by
          rcases hq with ⟨rfl, hq⟩ | ⟨x, rfl, hq⟩
          · exact ⟨none, rfl, hq⟩
          · exact ⟨some x, rfl, hq⟩
        obtain ⟨o, rfl, hst⟩ := hst
        have HST := hide hst
        clear hst hq
        go_wp2_with fail
        go_loopg [9, 10] 100 (fun gk vl vf wr => ∃ (j : Nat) (v : Value) (o : Option Nat), vl = v ∧ vf = .pointer (o.map fun x => ⟨x, 0, none⟩) ∧ gk = 100 - j ∧ (match o with | none => N j v wr | some x => S j v x wr))
        case atStart => exact ⟨0, _, o, rfl, rfl, rfl, unhide HST⟩
        case round =>
          obtain ⟨j, v, o, hv, hf, hgk, hst⟩ := hrel
          rw [hv, hf]
          clear hv hf HST
          have HG := hide hgk
          clear hgk
          cases o with
          | none =>
            have HP := hide (unhide HN j v wr hst)
            clear hst
            simp only [Option.map_none]
            go_wp2_with fail
            go_ret2
            exact ⟨_, rfl, unhide HP⟩
          | some x =>
            have hS : S j v x wr := hst
            have hj := unhide HSl j v x wr hS
            obtain ⟨a, c, rfl⟩ := unhide HSv j v x wr hS
            have hne := neqp_nilR wr x
            have HS := hide hS
            clear hst hS
            simp only [Option.map_some]
            by_cases hb : (j : Int) < bud
            · have HCl2 := hide (unhide HSr j _ x wr (unhide HS) hb)
              go_wp2_with fail
              refine (unhide HCl2).mono ?_
              rintro e w3 ⟨m, t, pv, rfl, hT3⟩
              obtain ⟨⟨ap, np, cp, rfl⟩, bx, hrow, hnx⟩ := unhide HT _ _ _ _ _ _ hT3
              have HNX := hide hnx; have HRow := hide hrow
              clear hT3 hnx hrow
              have HB1 : Hid (((w3.alloc (.cells #[.int .i64 (m : Int), .int .i64 (t : Int), .slice ap np cp] 200)).alloc (.cells #[.int .i64 (m : Int), .int .i64 (t : Int), .slice ap np cp] 200)).ownsRow 0 200 3 (.slice a j c) j bx) := World.ownsRow.alloc (World.ownsRow.alloc (unhide HRow) _) _
              have HN1 : Hid (∀ j u, [Value.int .i64 (m : Int), .int .i64 (t : Int), .slice ap np cp][j]? = some u → ((w3.alloc (.cells #[.int .i64 (m : Int), .int .i64 (t : Int), .slice ap np cp] 200)).alloc (.cells #[.int .i64 (m : Int), .int .i64 (t : Int), .slice ap np cp] 200)).cell? ((⟨w3.heap.size + 1, 0, none⟩ : Addr).add j) = some u) := by
                intro j u hu
                have := cells_new (w := w3.alloc (.cells #[.int .i64 (m : Int), .int .i64 (t : Int), .slice ap np cp] 200)) (cur := #[.int .i64 (m : Int), .int .i64 (t : Int), .slice ap np cp]) (t := 200) j u hu
                simpa using this
              have HOne : Hid (∀ u ∈ [Value.int .i64 (m : Int), .int .i64 (t : Int), .slice ap np cp], u.oneCell' = true) := by
                intro u hu
                simp at hu
                rcases hu with rfl | rfl | rfl <;> rfl
              go_wp2_with (first
                | (at_builtin; refine wpList_append2 rfl _ _ 105 rfl 0 200 i1 (.agg #[.int .i64 0, .int .i64 0, .slice none 0 0]) 3 40 Tryz.underlying105 hj1 hy0 hy1 hy2 rfl (by decide) (.slice a j c) j bx rfl (unhide HB1) ⟨w3.heap.size + 1, 0, none⟩ 1 1 [.int .i64 (m : Int), .int .i64 (t : Int), .slice ap np cp] rfl rfl (unhide HN1) (unhide HOne) (by unfold maxLen; omega) (by omega) (Nat.zero_le _) ?_; intro v2 w4 hown4 hgr4; have HD4 := hide (unhide HNX v2 w4 hown4 hgr4); clear hown4 hgr4))
              refine (unhide HDu _ _ _ (unhide HD4)).mono ?_
              intro e w5 hq
              have hst : ∃ o : Option Nat, e = .returned (.pointer (o.map fun x => ⟨x, 0, none⟩)) ∧ (match o with | none => N (j + 1) v2 w5 | some x => S (j + 1) v2 x w5) := by
                rcases hq with ⟨rfl, hq⟩ | ⟨x, rfl, hq⟩
                · exact ⟨none, rfl, hq⟩
                · exact ⟨some x, rfl, hq⟩
              obtain ⟨o, rfl, hst⟩ := hst
              have HST := hide hst
              clear hst hq
              go_wp2_with fail
              go_roundg (100 - (j + 1))
              case measure => rw [unhide HG]; omega
              case rel => exact ⟨j + 1, v2, o, rfl, rfl, rfl, unhide HST⟩
            · have hbi : decide ((j : Int) < bud) = false := decide_eq_false hb
              have HP := hide (unhide HSe j _ x wr (unhide HS) (by omega))
              go_wp2_with fail
              go_ret2
              exact ⟨_, rfl, unhide HP⟩
end Go.Proofs.YtogdekjklbbbiaaGreatDoor
