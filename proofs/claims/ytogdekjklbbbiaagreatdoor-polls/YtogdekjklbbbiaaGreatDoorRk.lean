import Derived.Test.YtogdekjklbbbiaaGreatDoorRj
import Derived.Test.YtogdekjklbbbiaaGreatDoorZ30
import Derived.Test.YtogdekjklbbbiaaGreatDoorRq
import Derived.Test.YtogdekjklbbbiaaGreatDoorQb
set_option maxRecDepth 100000
namespace Go.Proofs.YtogdekjklbbbiaaGreatDoor
open Go.ChangeShapes Go.WideShapes Go.ChangeAt Go.RowKit
set_option linter.unusedSimpArgs false
set_option linter.unusedVariables false

/-- The flow of a number, at the document's pacer. -/
theorem rm_look {w : World} {b : Nat} {y : RL} {s : Pace.St} {nw tu : Nat} {P : List Pace.Cmd} {c : Cn} (h : RM w b y s nw tu P c) (hfew : s.fl.length ≤ 8) (n : Int) :
    Calls Tryz.prog 76 #[.pointer (some ⟨b, 0, none⟩), .int .i64 n] w fun e w' => w' = w ∧ e = .returned (.pointer ((lookI s.fl n).map fun f => ⟨y.B f.num, 0, none⟩)) := by
  have hx : ∃ (inv : Nat → Nat), ∀ f ∈ s.fl, inv (y.B f.num) = f.num := by
    refine ⟨fun k => match y.tag k with | .flow m => m | _ => 0, fun f hf => ?_⟩
    simp only [h.tl f hf]
  obtain ⟨inv, hinv⟩ := hx
  obtain ⟨g, cap, hfv⟩ : ∃ g cap, (y.fv = .slice none 0 0 ∧ (s.fl.map fun f => y.B f.num) = []) ∨ y.fv = .slice (some ⟨g, 0, none⟩) (s.fl.map fun f => y.B f.num).length cap := by
    rcases h.rf.2 with ⟨q1, q2⟩ | ⟨g, cap, cur, q1, _⟩
    · exact ⟨0, 0, .inl ⟨q1, by simpa using q2⟩⟩
    · exact ⟨g, cap, .inr (by rw [q1]; simp)⟩
  refine (rflow_walk b g cap (s.fl.map fun f => y.B f.num) (fun x => (inv x : Int)) n y.fv w h.rb.c3 hfv (by simpa using hfew) ?_ ?_).mono ?_
  · intro k x hk
    have hrf := h.rf
    rcases hfv with ⟨_, q⟩ | q
    · rw [q] at hk; simp at hk
    · refine row_get0 hrf (by rw [q]; rfl) ?_
      rw [List.getElem?_map] at hk ⊢
      cases hz : s.fl[k]? with
      | none => rw [hz] at hk; cases hk
      | some f => rw [hz] at hk; simp at hk ⊢; exact hk
  · intro x hx
    obtain ⟨f, hf, rfl⟩ := List.mem_map.1 hx
    show w.cell? _ = some (Value.int .i64 ((inv (y.B f.num) : Nat) : Int))
    rw [hinv f hf]
    exact (h.fl f hf).c0
  · rintro e w' ⟨rfl, rfl⟩
    refine ⟨rfl, ?_⟩
    unfold lookI
    rw [List.find?_map, Option.map_map]
    congr 3
    exact find_congr s.fl fun f hf => by simp only [Function.comp, hinv f hf]
theorem rm_look_nat {w : World} {b : Nat} {y : RL} {s : Pace.St} {nw tu : Nat} {P : List Pace.Cmd} {c : Cn} (h : RM w b y s nw tu P c) (hfew : s.fl.length ≤ 8) {n : Nat} {f : Pace.Fl} (hn : Pace.look s.fl n = some f) :
    Calls Tryz.prog 76 #[.pointer (some ⟨b, 0, none⟩), .int .i64 (n : Int)] w fun e w' => w' = w ∧ e = .returned (.pointer (some ⟨y.B n, 0, none⟩)) := by
  refine (rm_look h hfew (n : Int)).mono ?_
  rintro e w' ⟨rfl, rfl⟩
  refine ⟨rfl, ?_⟩
  unfold lookI
  rw [find_look, hn]
  simp only [Option.map_some]
  rw [(Pace.look_some hn).2]

theorem upd_self {α : Type} (f : Nat → α) (n : Nat) : upd f n (f n) = f := by
  funext k
  by_cases q : k = n
  · rw [q, upd_same]
  · rw [upd_other _ _ q]
theorem upd_idf (l : List Pace.Fl) (n : Nat) : Pace.upd l n (fun x => x) = l := by simp [Pace.upd]
theorem RArm.upd {fl : List Pace.Fl} {A : List Pace.Ar} {ar at' tn : Nat → Nat} {tu : Nat} (h : RArm fl A ar at' tn tu) (n : Nat) {u : Pace.Fl → Pace.Fl} (hu : ∀ x, (u x).num = x.num) : RArm (Pace.upd fl n u) A ar at' tn tu := by
  refine ⟨h.inn, fun f hf hno => ?_, h.ord, h.le⟩
  obtain ⟨x, hx, q | q⟩ := Pace.mem_upd hf
  · have e : f.num = x.num := by rw [q.2]; exact hu x
    rw [e] at hno ⊢
    exact h.out x hx hno
  · rw [q.2] at hno ⊢
    exact h.out x hx hno
theorem RM.vx {w : World} {b : Nat} {y : RL} {s : Pace.St} {nw tu : Nat} {P : List Pace.Cmd} {c : Cn} (h : RM w b y s nw tu P c) {f : Pace.Fl} (hf : f ∈ s.fl) {x : Nat} (hx : y.tag x ≠ .pk f.num) : (y.V f.num).ownBlock ≠ some x := fun e => hx (h.tk f hf x e)
theorem RM.at_flow {w : World} {b : Nat} {y : RL} {s : Pace.St} {nw tu : Nat} {P : List Pace.Cmd} {c : Cn} (h : RM w b y s nw tu P c) {n : Nat} {f : Pace.Fl} (hn : Pace.look s.fl n = some f) : RA w (y.B n) f (y.cr n) (y.ls n) (y.ar n) (y.at' n) (y.tn n) (y.V n) ∧ FC s.clock f (y.cr n) (y.ls n) ∧ (y.V n).ownBlock ≠ some (y.B n) ∧ (y.V n).ownBlock ≠ some b ∧ y.tag (y.B n) = .flow n ∧ y.B n ≠ b := by
  obtain ⟨hfm, hfn⟩ := Pace.look_some hn
  have h1 := h.fl f hfm
  have h2 := h.fc f hfm
  have h3 := h.tl f hfm
  have h4 := h.vx hfm (x := y.B n)
  have h5 := h.vx hfm (x := b)
  rw [hfn] at h1 h2 h3 h4 h5
  exact ⟨h1, h2, h4 (by rw [h3]; simp), h5 (by rw [h.tb]; simp), h3, fun e => by rw [e, h.tb] at h3; cases h3⟩
theorem RM.flowU {w w' : World} {b : Nat} {y : RL} {s : Pace.St} {nw tu : Nat} {P : List Pace.Cmd} {c : Cn} (h : RM w b y s nw tu P c) (hnd : (s.fl.map (·.num)).Nodup) {n : Nat} {f : Pace.Fl} (hn : Pace.look s.fl n = some f) (u : Pace.Fl → Pace.Fl) (hu : ∀ x, (u x).num = x.num) {cr ls ar at' tn tu' : Nat} {v : Value} {c' : Cn} {A' : List Pace.Ar}
    {O : Nat → Prop} (hfr : Fr w w' O) (hO : ∀ k, O k → k = b ∨ k = y.B n) (hRB : RB w' b s.q s.clock nw tu' y.fv y.pv c') (hfz : ∀ o, w'.frozen? ⟨b, o, none⟩ = false) (hRA : RA w' (y.B n) (u f) cr ls ar at' tn v) (hFC : FC s.clock (u f) cr ls) (hv : v = y.V n)
    (hAR : RArm (Pace.upd s.fl n u) A' (upd y.ar n ar) (upd y.at' n at') (upd y.tn n tn) tu') :
    ∃ y', RM w' b y' { s with fl := Pace.upd s.fl n u, A := A' } nw tu' P c' ∧ StpR w w' y y' ∧ y'.B = y.B ∧ y'.cr = upd y.cr n cr ∧ y'.ls = upd y.ls n ls ∧ y'.ar = upd y.ar n ar ∧ y'.V = y.V ∧ y'.pv = y.pv ∧ y'.fv = y.fv := by
  obtain ⟨hfm, hfn⟩ := Pace.look_some hn
  have hBt := h.tl f hfm
  rw [hfn] at hBt
  rw [upd_const hnd hn u] at hAR
  obtain ⟨y2, hP2, hx2, b1, b2, b3, b4, b5, b6, b7, b8, b9, _⟩ := h.flow (f' := u f) hn (by rw [hu]; exact hfn) hfr (fun k q => by
    rcases hO k q with e | e
    · exact .inl e
    · exact .inr (.inl (by rw [e]; exact hBt))) hRB hfz hRA hFC (fun g hg => .inl (by rw [← hv]; exact hg)) hAR
  rw [← upd_const hnd hn u] at hP2
  refine ⟨y2, hP2, ⟨hfr.weak fun k _ q => ?_, hx2⟩, b1, b2, b3, b4, ?_, b9, b8⟩
  · rcases hO k q with e | e
    · rw [e]; exact h.ow
    · rw [e]; exact h.own_of hBt (by simp)
  · rw [b7, hv, upd_self]
theorem Below.frS {w w' : World} (h : Below w.heap.size w w') (O : Nat → Prop) : Fr w w' O := ⟨h.os, h.tape, h.output, h.size, fun k hk _ => h.block k hk⟩

/-- The credit is brought up to the clock. -/
theorem rm_accrue {w : World} {b : Nat} {y : RL} {s : Pace.St} {nw tu : Nat} {P : List Pace.Cmd} {c : Cn} (h : RM w b y s nw tu P c) (hnd : (s.fl.map (·.num)).Nodup) {n : Nat} {f : Pace.Fl} (hn : Pace.look s.fl n = some f) (hF : Pace.FOk s.q f) (hck : s.clock ≤ 4000000000000000000) :
    Calls Tryz.prog 123 #[.pointer (some ⟨b, 0, none⟩), .pointer (some ⟨y.B n, 0, none⟩)] w fun e w' => e = .returned (.tuple #[]) ∧ ∃ y', RM w' b y' s nw tu P c ∧ StpR w w' y y' ∧ y'.B = y.B ∧ y'.cr n = f.cr ∧ y'.ls n = s.clock ∧ y'.ar = y.ar ∧ y'.V = y.V ∧ y'.pv = y.pv := by
  obtain ⟨h1, h2, h3, h4, h5, h6⟩ := h.at_flow hn
  have hp := Pace.parts_eq
  have hb : f.burst ≤ 1000000 := by rcases hF.burst with ⟨q, _⟩ | ⟨_, q⟩ <;> omega
  have hr := hF.rate
  have hcle := h2.cle
  have hrk := h2.rle
  rw [hp] at hcle
  have heq := h2.eq
  rw [hp] at heq
  refine (raccrue_walk b (y.B n) (y.cr n) f.rate f.burst (y.ls n) s.clock w hr hb (by omega) hrk hck h1.c6 h1.c1 h1.c2 h1.c7 h.rb.c2 h6 h1.fz).mono ?_
  rintro e w' ⟨rfl, w1, hB, rfl⟩
  rw [show ((f.burst : Int) * 1000000000) = ((f.burst * 1000000000 : Nat) : Int) by omega, show (s.clock : Int) - (y.ls n : Int) = ((s.clock - y.ls n : Nat) : Int) by omega, acc_nat _ _ _ _ hcle, ← heq]
  refine ⟨rfl, ?_⟩
  generalize hW : (w1.setCell ⟨y.B n, 6, none⟩ (.int .i64 (f.cr : Int))).setCell ⟨y.B n, 7, none⟩ (.int .i64 (s.clock : Int)) = W
  have hM1 : RM w1 b y s nw tu P c := h.kept (O := fun _ => False) (Below.frS hB _) fun _ _ q => q
  obtain ⟨k1, k2, k3, k4, k5, k6⟩ := hM1.at_flow hn
  have hch0 : Ch w1 (w1.setCell ⟨y.B n, 6, none⟩ (.int .i64 (f.cr : Int))) (fun a o => a = y.B n ∧ (o = 6 ∨ o = 7)) := (Ch.refl w1 _).setCell ⟨rfl, .inl rfl⟩ _
  have hch : Ch w1 W (fun a o => a = y.B n ∧ (o = 6 ∨ o = 7)) := by rw [← hW]; exact hch0.setCell ⟨rfl, .inr rfl⟩ _
  have hc : ∀ o, o ≠ 6 → o ≠ 7 → W.cell? ⟨y.B n, o, none⟩ = w1.cell? ⟨y.B n, o, none⟩ := fun o o1 o2 => hch.cell (y.B n) o (by omega)
  have c7 : W.cell? ⟨y.B n, 7, none⟩ = some (.int .i64 (s.clock : Int)) := by
    rw [← hW]
    exact World.cell?_setCell_same' _ _ _ (by rw [hch0.dom, k1.c7]; rfl)
  have c6 : W.cell? ⟨y.B n, 6, none⟩ = some (.int .i64 (f.cr : Int)) := by
    rw [← hW, World.cell?_setCell_other _ _ _ _ (by intro q; injection q with _ q; cases q)]
    exact World.cell?_setCell_same' _ _ _ (by rw [k1.c6]; rfl)
  have hRA : RA W (y.B n) f f.cr s.clock (y.ar n) (y.at' n) (y.tn n) (y.V n) :=
    ⟨by rw [hc _ (by omega) (by omega)]; exact k1.c0, by rw [hc _ (by omega) (by omega)]; exact k1.c1, by rw [hc _ (by omega) (by omega)]; exact k1.c2, by rw [hc _ (by omega) (by omega)]; exact k1.c3, by rw [hc _ (by omega) (by omega)]; exact k1.c4, by rw [hc _ (by omega) (by omega)]; exact k1.c5, c6, c7,
      by rw [hc _ (by omega) (by omega)]; exact k1.c8, by rw [hc _ (by omega) (by omega)]; exact k1.c9, by rw [hc _ (by omega) (by omega)]; exact k1.c10, row_kept k1.row fun g hg => hch.blk g fun o q => k3 (by rw [hg, q.1]), fun o => (hch.fz _).trans (k1.fz o)⟩
  have hbb : W.heap[b]? = w1.heap[b]? := hch.blk b fun o q => k6 q.1.symm
  obtain ⟨y2, hP2, hS2, b1, b2, b3, b4, b5, b6, b7⟩ := h.flowU hnd hn (fun x => x) (fun _ => rfl) (O := fun k => k = y.B n) ((Below.frS hB _).trans (hch.fr2 fun a o q => q.1) fun _ _ q => q) (fun k q => .inr q) (hM1.rb.kept hbb) (fun o => (frozen_of hbb o).trans (hM1.fz o)) hRA ⟨Nat.le_refl _, hF.cr, by rw [Nat.sub_self, Pace.acc_zero hF.cr]⟩ rfl (A' := s.A) (by
    rw [upd_self, upd_self, upd_self, upd_idf]; exact h.arm)
  rw [upd_idf] at hP2
  exact ⟨y2, hP2, hS2, b1, by rw [b2, upd_same], by rw [b3, upd_same], by rw [b4, upd_self], b5, b6⟩
theorem RB.turns {w : World} {b q ck nw tu : Nat} {fv pv : Value} {c : Cn} (h : RB w b q ck nw tu fv pv c) {w' : World} {tu' : Nat} (hc : ∀ o, o ≠ 6 → w'.cell? ⟨b, o, none⟩ = w.cell? ⟨b, o, none⟩) (h6 : w'.cell? ⟨b, 6, none⟩ = some (.int .i64 (tu' : Int))) : RB w' b q ck nw tu' fv pv c :=
  ⟨by rw [hc _ (by omega)]; exact h.c0, by rw [hc _ (by omega)]; exact h.c1, by rw [hc _ (by omega)]; exact h.c2, by rw [hc _ (by omega)]; exact h.c3, by rw [hc _ (by omega)]; exact h.c4, by rw [hc _ (by omega)]; exact h.c5, h6, by rw [hc _ (by omega)]; exact h.c7, by rw [hc _ (by omega)]; exact h.c8, by rw [hc _ (by omega)]; exact h.c9, by rw [hc _ (by omega)]; exact h.c10, by rw [hc _ (by omega)]; exact h.c11, by rw [hc _ (by omega)]; exact h.c12⟩
theorem off_sub (A : List Pace.Ar) (n : Nat) : (Pace.off A n).Sublist A := List.filter_sublist

/-- The document's pacer arms a flow. -/
theorem rm_arm {w : World} {b : Nat} {y : RL} {s : Pace.St} {nw tu : Nat} {P : List Pace.Cmd} {c : Cn} (h : RM w b y s nw tu P c) (hnd : (s.fl.map (·.num)).Nodup) {n : Nat} {f : Pace.Fl} (hn : Pace.look s.fl n = some f) (hF : Pace.FOk s.q f) (hq : 1500 ≤ s.q ∧ s.q ≤ 1000000) (hck : s.clock ≤ 4000000000000000000) (hcr : y.cr n = f.cr) (htu : tu < 1000000000000000000) :
    Calls Tryz.prog 124 #[.pointer (some ⟨b, 0, none⟩), .pointer (some ⟨y.B n, 0, none⟩)] w fun e w' => e = .returned (.tuple #[]) ∧ ∃ y' tu', RM w' b y' (Pace.arm s n) nw tu' P c ∧ StpR w w' y y' ∧ y'.B = y.B ∧ y'.pv = y.pv ∧ tu' ≤ tu + 1 := by
  obtain ⟨h1, h2, h3, h4, h5, h6⟩ := h.at_flow hn
  have hp := Pace.parts_eq
  have hb : f.burst ≤ 1000000 := by rcases hF.burst with ⟨q, _⟩ | ⟨_, q⟩ <;> omega
  by_cases hz : f.rate = 0 ∨ f.adm = 0
  · refine (rarm_none b (y.B n) f.rate f.adm w _ hz h1.c1 h1.c5 h1.c8 (h1.fz 8)).mono ?_
    rintro e w' ⟨rfl, rfl⟩
    refine ⟨rfl, ?_⟩
    have hch : Ch w (w.setCell ⟨y.B n, 8, none⟩ (.int .i64 0)) (fun a o => a = y.B n ∧ o = 8) := (Ch.refl w _).setCell ⟨rfl, rfl⟩ _
    have hc : ∀ o, o ≠ 8 → (w.setCell ⟨y.B n, 8, none⟩ (.int .i64 0)).cell? ⟨y.B n, o, none⟩ = w.cell? ⟨y.B n, o, none⟩ := fun o o1 => hch.cell (y.B n) o (by omega)
    have hRA : RA (w.setCell ⟨y.B n, 8, none⟩ (.int .i64 0)) (y.B n) f (y.cr n) (y.ls n) 0 (y.at' n) (y.tn n) (y.V n) :=
      ⟨by rw [hc _ (by omega)]; exact h1.c0, by rw [hc _ (by omega)]; exact h1.c1, by rw [hc _ (by omega)]; exact h1.c2, by rw [hc _ (by omega)]; exact h1.c3, by rw [hc _ (by omega)]; exact h1.c4, by rw [hc _ (by omega)]; exact h1.c5, by rw [hc _ (by omega)]; exact h1.c6, by rw [hc _ (by omega)]; exact h1.c7,
        World.cell?_setCell_same' _ _ _ (by rw [h1.c8]; rfl), by rw [hc _ (by omega)]; exact h1.c9, by rw [hc _ (by omega)]; exact h1.c10, row_kept h1.row fun g hg => hch.blk g fun o q => h3 (by rw [hg, q.1]), fun o => (hch.fz _).trans (h1.fz o)⟩
    have hbb : (w.setCell ⟨y.B n, 8, none⟩ (.int .i64 0)).heap[b]? = w.heap[b]? := hch.blk b fun o q => h6 q.1.symm
    obtain ⟨y2, hP2, hS2, b1, b2, b3, b4, b5, b6, b7⟩ := h.flowU hnd hn (fun x => x) (fun _ => rfl) (O := fun k => k = y.B n) (hch.fr2 fun a o q => q.1) (fun k q => .inr q) (h.rb.kept hbb) (fun o => (frozen_of hbb o).trans (h.fz o)) hRA h2 rfl (A' := Pace.off s.A n) (by
      rw [upd_self, upd_self, upd_idf]
      refine ⟨fun a ha => ?_, fun f' hf' hno => ?_, h.arm.ord.sublist (off_sub _ _), fun a ha => h.arm.le a (Pace.mem_off.1 ha).1⟩
      · obtain ⟨q1, q2⟩ := Pace.mem_off.1 ha
        rw [upd_other _ _ q2]
        exact h.arm.inn a q1
      · by_cases q : f'.num = n
        · rw [q, upd_same]
        · rw [upd_other _ _ q]
          exact h.arm.out f' hf' fun a ha e => hno a (Pace.mem_off.2 ⟨ha, by rw [e]; exact q⟩) e)
    have e : Pace.arm s n = { s with fl := Pace.upd s.fl n (fun x => x), A := Pace.off s.A n } := by
      unfold Pace.arm
      rw [hn, upd_idf]
      simp only
      rw [if_neg (by omega)]
    rw [e]
    exact ⟨y2, tu, hP2, hS2, b1, b6, by omega⟩
  · have ha : 0 < f.adm := by omega
    have hr : 0 < f.rate := by omega
    have hadm := hF.adm
    have hfew := hF.few
    obtain ⟨g, cap, hv, _, hgl, hvg, hnc, _⟩ := row_shape h1.row (by omega)
    have hgx : g ≠ y.B n := fun e => h3 (by rw [hvg, e])
    have hgb : g ≠ b := fun e => h4 (by rw [hvg, e])
    have hrow := h1.row
    rw [hv] at hrow
    have hti := til_need' (f := f) (q := s.q) hb hq.2 hr
    have hfcr : f.cr ≤ 1000000000000000 := by have := hF.cr; rw [hp] at this; omega
    have hc4 := h1.c4
    rw [hv] at hc4
    have hc6 := h1.c6
    rw [hcr] at hc6
    have hbu : 1500 ≤ f.burst := by rcases hF.burst with ⟨_, q, _⟩ | ⟨q, _⟩ <;> omega
    refine rarm_walk b (y.B n) g s.q cap f.cr f.rate f.burst f.adm s.clock tu (min s.q f.burst) _ _ _ f.pk w (by omega) (by omega) (by omega) hr hF.rate hfcr ha hadm hfew (fun p hp => (hF.lens p hp).2) hck htu h1.c1 h1.c2 hc4 h1.c5 hc6 h1.c8 h1.c9 h1.c10 h.rb.c0 h.rb.c2 h.rb.c6 h6 hgx hgb h1.fz h.fz (fun i p hi => row_get hrow (pkC_get f.pk i p hi).2)
      (fun w' => ∃ y' tu', RM w' b y' (Pace.arm s n) nw tu' P c ∧ StpR w w' y y' ∧ y'.B = y.B ∧ y'.pv = y.pv ∧ tu' ≤ tu + 1) ?_
    intro w1 k hk hch1 hc8
    have hks : k = f.size s.q := hk
    have hun := (unt_nat f.cr f.rate (Pace.bytes (f.pk.take k) * 1000000000) hr).1
    rw [show ((Pace.bytes (f.pk.take k) * 1000000000 : Nat) : Int) = (Pace.bytes (f.pk.take k) : Int) * 1000000000 by omega] at hun
    refine ⟨_, hun, by omega, by rw [hks, ← hp]; omega, ?_⟩
    intro w2 hch2
    have hins : (s.clock : Int) + (Pace.til f.cr f.rate (Pace.bytes (f.pk.take k) * 1000000000) : Int) = ((f.instant s.q s.clock : Nat) : Int) := by
      unfold Pace.Fl.instant
      rw [hp, hks]
      omega
    rw [hins, show (tu : Int) + 1 = ((tu + 1 : Nat) : Int) by omega]
    generalize hW : (((w2.setCell ⟨y.B n, 9, none⟩ (.int .i64 ((f.instant s.q s.clock : Nat) : Int))).setCell ⟨b, 6, none⟩ (.int .i64 ((tu + 1 : Nat) : Int))).setCell ⟨y.B n, 10, none⟩ (.int .i64 ((tu + 1 : Nat) : Int))) = W
    have hcha : Ch w w2 (SArm (y.B n) b) := (hch1.trans hch2).mono fun a o q => by
      rcases q with ⟨q1, q2⟩ | q
      · exact .inl ⟨q1, .inl q2⟩
      · exact q.elim
    have hchb : Ch w (w2.setCell ⟨y.B n, 9, none⟩ (.int .i64 ((f.instant s.q s.clock : Nat) : Int))) (SArm (y.B n) b) := hcha.setCell (.inl ⟨rfl, .inr (.inl rfl)⟩) _
    have hchc : Ch w ((w2.setCell ⟨y.B n, 9, none⟩ (.int .i64 ((f.instant s.q s.clock : Nat) : Int))).setCell ⟨b, 6, none⟩ (.int .i64 ((tu + 1 : Nat) : Int))) (SArm (y.B n) b) := hchb.setCell (.inr ⟨rfl, rfl⟩) _
    have hch : Ch w W (SArm (y.B n) b) := by rw [← hW]; exact hchc.setCell (.inl ⟨rfl, .inr (.inr rfl)⟩) _
    have hc : ∀ o, o ≠ 8 → o ≠ 9 → o ≠ 10 → W.cell? ⟨y.B n, o, none⟩ = w.cell? ⟨y.B n, o, none⟩ := fun o o1 o2 o3 => hch.cell (y.B n) o fun q => by
      rcases q with ⟨_, q⟩ | ⟨q, _⟩
      · omega
      · exact h6 q
    have d10 : W.cell? ⟨y.B n, 10, none⟩ = some (.int .i64 ((tu + 1 : Nat) : Int)) := by
      rw [← hW]; exact World.cell?_setCell_same' _ _ _ (by rw [hchc.dom, h1.c10]; rfl)
    have d9 : W.cell? ⟨y.B n, 9, none⟩ = some (.int .i64 ((f.instant s.q s.clock : Nat) : Int)) := by
      rw [← hW, World.cell?_setCell_other _ _ _ _ (by intro q; injection q with _ q; cases q), World.cell?_setCell_other _ _ _ _ (by intro q; injection q with q; exact h6 q.symm)]
      exact World.cell?_setCell_same' _ _ _ (by rw [hcha.dom, h1.c9]; rfl)
    have d8 : W.cell? ⟨y.B n, 8, none⟩ = some (.int .i64 (k : Int)) := by
      rw [← hW, World.cell?_setCell_other _ _ _ _ (by intro q; injection q with _ q; cases q), World.cell?_setCell_other _ _ _ _ (by intro q; injection q with q; exact h6 q.symm), World.cell?_setCell_other _ _ _ _ (by intro q; injection q with _ q; cases q), hch2.cell _ _ (fun q => q)]
      exact hc8
    have d6 : W.cell? ⟨b, 6, none⟩ = some (.int .i64 ((tu + 1 : Nat) : Int)) := by
      rw [← hW, World.cell?_setCell_other _ _ _ _ (by intro q; injection q with q; exact h6 q)]
      exact World.cell?_setCell_same' _ _ _ (by rw [hchb.dom, h.rb.c6]; rfl)
    have hRA : RA W (y.B n) f (y.cr n) (y.ls n) k (f.instant s.q s.clock) (tu + 1) (y.V n) :=
      ⟨by rw [hc _ (by omega) (by omega) (by omega)]; exact h1.c0, by rw [hc _ (by omega) (by omega) (by omega)]; exact h1.c1, by rw [hc _ (by omega) (by omega) (by omega)]; exact h1.c2, by rw [hc _ (by omega) (by omega) (by omega)]; exact h1.c3, by rw [hc _ (by omega) (by omega) (by omega)]; exact h1.c4, by rw [hc _ (by omega) (by omega) (by omega)]; exact h1.c5, by rw [hc _ (by omega) (by omega) (by omega)]; exact h1.c6, by rw [hc _ (by omega) (by omega) (by omega)]; exact h1.c7,
        d8, d9, d10, row_kept h1.row fun g' hg => hch.blk g' fun o q => by
          rcases q with ⟨q, _⟩ | ⟨q, _⟩
          · exact h3 (by rw [hg, q])
          · exact h4 (by rw [hg, q]), fun o => (hch.fz _).trans (h1.fz o)⟩
    obtain ⟨y2, hP2, hS2, b1, b2, b3, b4, b5, b6, b7⟩ := h.flowU hnd hn (fun x => x) (fun _ => rfl) (tu' := tu + 1) (O := fun k => k = b ∨ k = y.B n) (hch.fr2 fun a o q => by
        rcases q with ⟨q, _⟩ | ⟨q, _⟩
        · exact .inr q
        · exact .inl q) (fun k q => q) (h.rb.turns (fun o ho => hch.cell b o fun q => by
          rcases q with ⟨q, _⟩ | ⟨_, q⟩
          · exact h6 q.symm
          · exact ho q) d6) (fun o => (hch.fz _).trans (h.fz o)) hRA h2 rfl (A' := Pace.off s.A n ++ [⟨n, f.instant s.q s.clock, f.size s.q⟩]) (by
      rw [upd_idf]
      refine ⟨fun a ha => ?_, fun f' hf' hno => ?_, List.pairwise_append.2 ⟨?_, List.pairwise_singleton _ _, fun a ha a' ha' => ?_⟩, fun a ha => ?_⟩
      · rcases List.mem_append.1 ha with q | q
        · obtain ⟨q1, q2⟩ := Pace.mem_off.1 q
          rw [upd_other _ _ q2, upd_other _ _ q2]
          exact h.arm.inn a q1
        · have : a = ⟨n, f.instant s.q s.clock, f.size s.q⟩ := by simpa using q
          subst this
          rw [upd_same, upd_same]
          exact ⟨hks, rfl⟩
      · by_cases q : f'.num = n
        · exact absurd q.symm (hno ⟨n, f.instant s.q s.clock, f.size s.q⟩ (by simp))
        · rw [upd_other _ _ q]
          exact h.arm.out f' hf' fun a ha e => hno a (List.mem_append.2 (.inl (Pace.mem_off.2 ⟨ha, by rw [e]; exact q⟩))) e
      · have := h.arm.ord.sublist (off_sub s.A n)
        refine List.Pairwise.imp_of_mem ?_ this
        intro a a' ha ha' hlt
        rw [upd_other _ _ (Pace.mem_off.1 ha).2, upd_other _ _ (Pace.mem_off.1 ha').2]
        exact hlt
      · have : a' = ⟨n, f.instant s.q s.clock, f.size s.q⟩ := by simpa using ha'
        subst this
        obtain ⟨q1, q2⟩ := Pace.mem_off.1 ha
        rw [upd_other _ _ q2]
        show _ < upd y.tn n (tu + 1) n
        rw [upd_same]
        have := h.arm.le a q1
        omega
      · rcases List.mem_append.1 ha with q | q
        · obtain ⟨q1, q2⟩ := Pace.mem_off.1 q
          rw [upd_other _ _ q2]
          have := h.arm.le a q1
          omega
        · have : a = ⟨n, f.instant s.q s.clock, f.size s.q⟩ := by simpa using q
          subst this
          show upd y.tn n (tu + 1) n ≤ _
          rw [upd_same]
          exact Nat.le_refl _)
    have e : Pace.arm s n = { s with fl := Pace.upd s.fl n (fun x => x), A := Pace.off s.A n ++ [⟨n, f.instant s.q s.clock, f.size s.q⟩] } := by
      unfold Pace.arm
      rw [hn, upd_idf]
      simp only
      rw [if_pos ⟨ha, hr⟩]
    rw [e]
    exact ⟨y2, tu + 1, hP2, hS2, b1, b6, Nat.le_refl _⟩
end Go.Proofs.YtogdekjklbbbiaaGreatDoor
