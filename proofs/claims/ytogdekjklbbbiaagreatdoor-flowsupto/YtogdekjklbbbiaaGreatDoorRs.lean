import Derived.Test.YtogdekjklbbbiaaGreatDoorRk
set_option maxRecDepth 100000
namespace Go.Proofs.YtogdekjklbbbiaaGreatDoor
open Go.ChangeShapes Go.WideShapes Go.ChangeAt Go.RowKit
set_option linter.unusedSimpArgs false
set_option linter.unusedVariables false

theorem RB.clock {w : World} {b q ck nw tu : Nat} {fv pv : Value} {c : Cn} (h : RB w b q ck nw tu fv pv c) (n : Nat) : RB (w.setCell ⟨b, 2, none⟩ (.int .i64 (n : Int))) b q n nw tu fv pv c := by
  have hc : Ch w (w.setCell ⟨b, 2, none⟩ (.int .i64 (n : Int))) (fun a o => a = b ∧ o = 2) := (Ch.refl w _).setCell ⟨rfl, rfl⟩ _
  have hcc : ∀ o, o ≠ 2 → (w.setCell ⟨b, 2, none⟩ (.int .i64 (n : Int))).cell? ⟨b, o, none⟩ = w.cell? ⟨b, o, none⟩ := fun o ho => hc.cell b o fun q => ho q.2
  exact ⟨by rw [hcc _ (by omega)]; exact h.c0, by rw [hcc _ (by omega)]; exact h.c1, World.cell?_setCell_same' _ _ _ (by rw [h.c2]; rfl), by rw [hcc _ (by omega)]; exact h.c3, by rw [hcc _ (by omega)]; exact h.c4, by rw [hcc _ (by omega)]; exact h.c5, by rw [hcc _ (by omega)]; exact h.c6, by rw [hcc _ (by omega)]; exact h.c7, by rw [hcc _ (by omega)]; exact h.c8, by rw [hcc _ (by omega)]; exact h.c9, by rw [hcc _ (by omega)]; exact h.c10, by rw [hcc _ (by omega)]; exact h.c11, by rw [hcc _ (by omega)]; exact h.c12⟩
theorem RB.rowF {w : World} {b q ck nw tu : Nat} {fv pv : Value} {c : Cn} (h : RB w b q ck nw tu fv pv c) (v : Value) : RB (w.setCell ⟨b, 3, none⟩ v) b q ck nw tu v pv c := by
  have hc : Ch w (w.setCell ⟨b, 3, none⟩ v) (fun a o => a = b ∧ o = 3) := (Ch.refl w _).setCell ⟨rfl, rfl⟩ _
  have hcc : ∀ o, o ≠ 3 → (w.setCell ⟨b, 3, none⟩ v).cell? ⟨b, o, none⟩ = w.cell? ⟨b, o, none⟩ := fun o ho => hc.cell b o fun q => ho q.2
  exact ⟨by rw [hcc _ (by omega)]; exact h.c0, by rw [hcc _ (by omega)]; exact h.c1, by rw [hcc _ (by omega)]; exact h.c2, World.cell?_setCell_same' _ _ _ (by rw [h.c3]; rfl), by rw [hcc _ (by omega)]; exact h.c4, by rw [hcc _ (by omega)]; exact h.c5, by rw [hcc _ (by omega)]; exact h.c6, by rw [hcc _ (by omega)]; exact h.c7, by rw [hcc _ (by omega)]; exact h.c8, by rw [hcc _ (by omega)]; exact h.c9, by rw [hcc _ (by omega)]; exact h.c10, by rw [hcc _ (by omega)]; exact h.c11, by rw [hcc _ (by omega)]; exact h.c12⟩
theorem RB.pend {w : World} {b q ck nw tu : Nat} {fv pv : Value} {c : Cn} (h : RB w b q ck nw tu fv pv c) (v : Value) : RB (w.setCell ⟨b, 4, none⟩ v) b q ck nw tu fv v c := by
  have hc : Ch w (w.setCell ⟨b, 4, none⟩ v) (fun a o => a = b ∧ o = 4) := (Ch.refl w _).setCell ⟨rfl, rfl⟩ _
  have hcc : ∀ o, o ≠ 4 → (w.setCell ⟨b, 4, none⟩ v).cell? ⟨b, o, none⟩ = w.cell? ⟨b, o, none⟩ := fun o ho => hc.cell b o fun q => ho q.2
  exact ⟨by rw [hcc _ (by omega)]; exact h.c0, by rw [hcc _ (by omega)]; exact h.c1, by rw [hcc _ (by omega)]; exact h.c2, by rw [hcc _ (by omega)]; exact h.c3, World.cell?_setCell_same' _ _ _ (by rw [h.c4]; rfl), by rw [hcc _ (by omega)]; exact h.c5, by rw [hcc _ (by omega)]; exact h.c6, by rw [hcc _ (by omega)]; exact h.c7, by rw [hcc _ (by omega)]; exact h.c8, by rw [hcc _ (by omega)]; exact h.c9, by rw [hcc _ (by omega)]; exact h.c10, by rw [hcc _ (by omega)]; exact h.c11, by rw [hcc _ (by omega)]; exact h.c12⟩
theorem RB.ids {w : World} {b q ck nw tu : Nat} {fv pv : Value} {c : Cn} (h : RB w b q ck nw tu fv pv c) (n : Nat) : RB (w.setCell ⟨b, 5, none⟩ (.int .i64 (n : Int))) b q ck n tu fv pv c := by
  have hc : Ch w (w.setCell ⟨b, 5, none⟩ (.int .i64 (n : Int))) (fun a o => a = b ∧ o = 5) := (Ch.refl w _).setCell ⟨rfl, rfl⟩ _
  have hcc : ∀ o, o ≠ 5 → (w.setCell ⟨b, 5, none⟩ (.int .i64 (n : Int))).cell? ⟨b, o, none⟩ = w.cell? ⟨b, o, none⟩ := fun o ho => hc.cell b o fun q => ho q.2
  exact ⟨by rw [hcc _ (by omega)]; exact h.c0, by rw [hcc _ (by omega)]; exact h.c1, by rw [hcc _ (by omega)]; exact h.c2, by rw [hcc _ (by omega)]; exact h.c3, by rw [hcc _ (by omega)]; exact h.c4, World.cell?_setCell_same' _ _ _ (by rw [h.c5]; rfl), by rw [hcc _ (by omega)]; exact h.c6, by rw [hcc _ (by omega)]; exact h.c7, by rw [hcc _ (by omega)]; exact h.c8, by rw [hcc _ (by omega)]; exact h.c9, by rw [hcc _ (by omega)]; exact h.c10, by rw [hcc _ (by omega)]; exact h.c11, by rw [hcc _ (by omega)]; exact h.c12⟩
theorem RB.taken {w : World} {b q ck nw tu : Nat} {fv pv : Value} {c : Cn} (h : RB w b q ck nw tu fv pv c) (n : Nat) : RB (w.setCell ⟨b, 7, none⟩ (.int .i64 (n : Int))) b q ck nw tu fv pv { c with taken := n } := by
  have hc : Ch w (w.setCell ⟨b, 7, none⟩ (.int .i64 (n : Int))) (fun a o => a = b ∧ o = 7) := (Ch.refl w _).setCell ⟨rfl, rfl⟩ _
  have hcc : ∀ o, o ≠ 7 → (w.setCell ⟨b, 7, none⟩ (.int .i64 (n : Int))).cell? ⟨b, o, none⟩ = w.cell? ⟨b, o, none⟩ := fun o ho => hc.cell b o fun q => ho q.2
  exact ⟨by rw [hcc _ (by omega)]; exact h.c0, by rw [hcc _ (by omega)]; exact h.c1, by rw [hcc _ (by omega)]; exact h.c2, by rw [hcc _ (by omega)]; exact h.c3, by rw [hcc _ (by omega)]; exact h.c4, by rw [hcc _ (by omega)]; exact h.c5, by rw [hcc _ (by omega)]; exact h.c6, World.cell?_setCell_same' _ _ _ (by rw [h.c7]; rfl), by rw [hcc _ (by omega)]; exact h.c8, by rw [hcc _ (by omega)]; exact h.c9, by rw [hcc _ (by omega)]; exact h.c10, by rw [hcc _ (by omega)]; exact h.c11, by rw [hcc _ (by omega)]; exact h.c12⟩
theorem RB.refused {w : World} {b q ck nw tu : Nat} {fv pv : Value} {c : Cn} (h : RB w b q ck nw tu fv pv c) (n : Nat) : RB (w.setCell ⟨b, 8, none⟩ (.int .i64 (n : Int))) b q ck nw tu fv pv { c with refused := n } := by
  have hc : Ch w (w.setCell ⟨b, 8, none⟩ (.int .i64 (n : Int))) (fun a o => a = b ∧ o = 8) := (Ch.refl w _).setCell ⟨rfl, rfl⟩ _
  have hcc : ∀ o, o ≠ 8 → (w.setCell ⟨b, 8, none⟩ (.int .i64 (n : Int))).cell? ⟨b, o, none⟩ = w.cell? ⟨b, o, none⟩ := fun o ho => hc.cell b o fun q => ho q.2
  exact ⟨by rw [hcc _ (by omega)]; exact h.c0, by rw [hcc _ (by omega)]; exact h.c1, by rw [hcc _ (by omega)]; exact h.c2, by rw [hcc _ (by omega)]; exact h.c3, by rw [hcc _ (by omega)]; exact h.c4, by rw [hcc _ (by omega)]; exact h.c5, by rw [hcc _ (by omega)]; exact h.c6, by rw [hcc _ (by omega)]; exact h.c7, World.cell?_setCell_same' _ _ _ (by rw [h.c8]; rfl), by rw [hcc _ (by omega)]; exact h.c9, by rw [hcc _ (by omega)]; exact h.c10, by rw [hcc _ (by omega)]; exact h.c11, by rw [hcc _ (by omega)]; exact h.c12⟩
theorem RB.sent {w : World} {b q ck nw tu : Nat} {fv pv : Value} {c : Cn} (h : RB w b q ck nw tu fv pv c) (n : Nat) : RB (w.setCell ⟨b, 9, none⟩ (.int .i64 (n : Int))) b q ck nw tu fv pv { c with sent := n } := by
  have hc : Ch w (w.setCell ⟨b, 9, none⟩ (.int .i64 (n : Int))) (fun a o => a = b ∧ o = 9) := (Ch.refl w _).setCell ⟨rfl, rfl⟩ _
  have hcc : ∀ o, o ≠ 9 → (w.setCell ⟨b, 9, none⟩ (.int .i64 (n : Int))).cell? ⟨b, o, none⟩ = w.cell? ⟨b, o, none⟩ := fun o ho => hc.cell b o fun q => ho q.2
  exact ⟨by rw [hcc _ (by omega)]; exact h.c0, by rw [hcc _ (by omega)]; exact h.c1, by rw [hcc _ (by omega)]; exact h.c2, by rw [hcc _ (by omega)]; exact h.c3, by rw [hcc _ (by omega)]; exact h.c4, by rw [hcc _ (by omega)]; exact h.c5, by rw [hcc _ (by omega)]; exact h.c6, by rw [hcc _ (by omega)]; exact h.c7, by rw [hcc _ (by omega)]; exact h.c8, World.cell?_setCell_same' _ _ _ (by rw [h.c9]; rfl), by rw [hcc _ (by omega)]; exact h.c10, by rw [hcc _ (by omega)]; exact h.c11, by rw [hcc _ (by omega)]; exact h.c12⟩
theorem RB.dropped {w : World} {b q ck nw tu : Nat} {fv pv : Value} {c : Cn} (h : RB w b q ck nw tu fv pv c) (n : Nat) : RB (w.setCell ⟨b, 10, none⟩ (.int .i64 (n : Int))) b q ck nw tu fv pv { c with dropped := n } := by
  have hc : Ch w (w.setCell ⟨b, 10, none⟩ (.int .i64 (n : Int))) (fun a o => a = b ∧ o = 10) := (Ch.refl w _).setCell ⟨rfl, rfl⟩ _
  have hcc : ∀ o, o ≠ 10 → (w.setCell ⟨b, 10, none⟩ (.int .i64 (n : Int))).cell? ⟨b, o, none⟩ = w.cell? ⟨b, o, none⟩ := fun o ho => hc.cell b o fun q => ho q.2
  exact ⟨by rw [hcc _ (by omega)]; exact h.c0, by rw [hcc _ (by omega)]; exact h.c1, by rw [hcc _ (by omega)]; exact h.c2, by rw [hcc _ (by omega)]; exact h.c3, by rw [hcc _ (by omega)]; exact h.c4, by rw [hcc _ (by omega)]; exact h.c5, by rw [hcc _ (by omega)]; exact h.c6, by rw [hcc _ (by omega)]; exact h.c7, by rw [hcc _ (by omega)]; exact h.c8, by rw [hcc _ (by omega)]; exact h.c9, World.cell?_setCell_same' _ _ _ (by rw [h.c10]; rfl), by rw [hcc _ (by omega)]; exact h.c11, by rw [hcc _ (by omega)]; exact h.c12⟩
theorem asksC_snoc (P : List Pace.Cmd) (cm : Pace.Cmd) : asksC (P ++ [cm]) = asksC P ++ askC cm := by simp [asksC]
theorem rpv_ne_b {w : World} {b : Nat} {y : RL} {s : Pace.St} {nw tu : Nat} {P : List Pace.Cmd} {c : Cn} (h : RM w b y s nw tu P c) : y.pv.ownBlock ≠ some b := fun e => by have := h.tp b e; rw [h.tb] at this; cases this
/-- A command is put behind the others. -/
theorem rm_push {w w4 : World} {b : Nat} {y : RL} {s : Pace.St} {nw tu : Nat} {P : List Pace.Cmd} {c : Cn} (h : RM w b y s nw tu P c) (cm : Pace.Cmd) {o : Obj} {pv' : Value} (hr : w4.ownsRow 0 187 4 pv' (P.length + 1) (asksC P ++ askC cm)) (hg : Gr (w.alloc o) w4 y.pv pv') :
    ∃ y', RM (w4.setCell ⟨b, 4, none⟩ pv') b y' s nw tu (P ++ [cm]) c ∧ StpR w (w4.setCell ⟨b, 4, none⟩ pv') y y' ∧ y'.B = y.B := by
  have hfr0 : Fr w (w.alloc o) (fun k => k = b ∨ y.pv.ownBlock = some k) := (Fr.refl _ _).alloc o
  have hb : b < w.heap.size := h.lt b h.ow
  have hb4 : w4.heap[b]? = w.heap[b]? := by
    refine (hg.fr.blk b (by simp; omega) (rpv_ne_b h)).trans ?_
    exact Below.heap_alloc _ _ _ (by omega)
  have hRB4 : RB w4 b s.q s.clock nw tu y.fv y.pv c := h.rb.kept hb4
  have hfr : Fr w (w4.setCell ⟨b, 4, none⟩ pv') (fun k => k = b ∨ y.pv.ownBlock = some k) := (hfr0.trans hg.fr fun k _ q => .inr q).trans (ch1 w4 b 4 pv') fun k _ q => .inl q
  have hsz : (w.alloc o).heap.size = w.heap.size + 1 := by simp
  have hnew : ∀ g, pv'.ownBlock = some g → y.pv.ownBlock = some g ∨ w.heap.size ≤ g := fun g hgg => by
    rcases hg.new hgg with q | q
    · exact .inl q
    · exact .inr (by omega)
  obtain ⟨y1, hP1, hx1, e1, _⟩ := h.self (P' := P ++ [cm]) hfr (fun k q => by
      rcases q with q | q
      · exact .inl q
      · exact .inr (.inl (h.tp k q))) (hRB4.pend pv') (fun o' => by rw [World.frozen?_setCell, frozen_of hb4]; exact h.fz o') (by
    rw [List.length_append, List.length_singleton, asksC_snoc]
    refine row_kept0 hr fun g hgg => Below.heap_setCell _ _ _ _ fun e => ?_
    have e' : g = b := e
    rcases hnew g hgg with q | q
    · rw [e'] at q; exact rpv_ne_b h q
    · omega) hnew
  refine ⟨y1, hP1, ⟨hfr.weak fun k _ q => ?_, hx1⟩, e1⟩
  rcases q with q | q
  · rw [q]; exact h.ow
  · exact h.own_of (h.tp k q) (by simp)
/-- A count of the pacer's own has turned. -/
theorem rm_count {w : World} {b : Nat} {y : RL} {s : Pace.St} {nw tu : Nat} {P : List Pace.Cmd} {c c' : Cn} {o : Nat} {v : Value} (h : RM w b y s nw tu P c) (hRB : RB (w.setCell ⟨b, o, none⟩ v) b s.q s.clock nw tu y.fv y.pv c') :
    ∃ y', RM (w.setCell ⟨b, o, none⟩ v) b y' s nw tu P c' ∧ StpR w (w.setCell ⟨b, o, none⟩ v) y y' ∧ y'.B = y.B := by
  obtain ⟨y1, hP1, hx1, e1, _⟩ := h.self (P' := P) (ch1 w b o v) (fun k q => .inl q) hRB (fun o' => by rw [World.frozen?_setCell]; exact h.fz o') (row_kept h.rp fun g hg => Below.heap_setCell _ _ _ _ fun e => by
    have e' : g = b := e
    rw [e'] at hg; exact rpv_ne_b h hg) (fun g hg => .inl hg)
  exact ⟨y1, hP1, ⟨(ch1 w b o v).weak fun k _ q => by rw [q]; exact h.ow, hx1⟩, e1⟩

/-- The document's pacer, and what it stands for. -/
def RX (w : World) (b : Nat) (y : RL) (p : Pace.PS) (tu : Nat) (c : Cn) : Prop := RM w b y p.st p.newest tu p.asks c ∧ p.Inv ∧ Pace.SetsOk p.asks
theorem RX.kept {w w' : World} {b : Nat} {y : RL} {p : Pace.PS} {tu : Nat} {c : Cn} (h : RX w b y p tu c) {O : Nat → Prop} (hf : Fr w w' O) (hd : ∀ k, y.own k → ¬ O k) : RX w' b y p tu c := ⟨h.1.kept hf hd, h.2⟩
/-- Set. -/
theorem rx_set {w : World} {b : Nat} {y : RL} {p : Pace.PS} {tu : Nat} {c : Cn} (h : RX w b y p tu c) (hlen : p.asks.length < 2200000000000) (f r bu : Int) :
    Calls Tryz.prog 30 #[.pointer (some ⟨b, 0, none⟩), .int .i64 f, .int .i64 r, .int .i64 bu] w fun e w' => e = .returned (.int .i64 (setR p f r bu)) ∧ ∃ y', RX w' b y' (setP p f r bu) tu c ∧ StpR w w' y y' := by
  have hRX := h
  obtain ⟨hM, hI, hS⟩ := h
  have hV := rm_look hM hI.few f
  have hnd := hI.pi.wf.nums
  cases hl : lookI p.st.fl f with
  | none =>
    have hR : setR p f r bu = 5 := by unfold setR; rw [hl]
    rw [hl] at hV
    refine (rset_none b f r bu w hM.rb.c1 hV).mono ?_
    rintro e w' ⟨rfl, rfl⟩
    refine ⟨by rw [hR], y, ?_, StpR.refl _ _⟩
    unfold setP
    rw [if_neg (by rw [hR]; omega)]; exact hRX
  | some x =>
    obtain ⟨hx, hxf, hlk, hft⟩ := lookI_some hl hnd
    rw [hl] at hV
    have hV : Calls Tryz.prog 76 #[.pointer (some ⟨b, 0, none⟩), .int .i64 f] w fun e w' => w' = w ∧ e = .returned (.pointer (some ⟨y.B x.num, 0, none⟩)) := hV
    by_cases hal : Pace.allowed r bu
    · have hR : setR p f r bu = 0 := by unfold setR; rw [hl]; simp only; rw [if_pos hal]
      refine (rset_good b (y.B x.num) p.asks.length f r bu y.pv (asksC p.asks) w hM.rb.c1 hV hal hlen hM.rb.c4 hM.fz hM.rp (rpv_ne_b hM)).mono ?_
      obtain ⟨a1, a2, a3, a4⟩ := hal
      rintro e w' ⟨rfl, pv', w2, hr2, hG, rfl⟩
      obtain ⟨y1, hP1, hs1, _⟩ := rm_push hM (.set x.num r.toNat bu.toNat bu.toNat) (pv' := pv') (by
        show w2.ownsRow 0 187 4 pv' _ (_ ++ [.int .i64 2, .int .i64 (x.num : Int), .int .i64 ((r.toNat : Nat) : Int), .int .i64 ((bu.toNat : Nat) : Int)])
        rw [hxf, show ((r.toNat : Nat) : Int) = r by omega, show ((bu.toNat : Nat) : Int) = bu by omega]
        exact hr2) hG
      refine ⟨by rw [hR], y1, ?_, hs1⟩
      unfold setP
      rw [if_pos hR, hft]
      exact ⟨hP1, hI.set ⟨x, hx, rfl⟩ (by omega) (by omega), hS.snoc fun f' r' b' l' e => by injection e with _ _ e1 e2; omega⟩
    · have hR : setR p f r bu = 6 := by unfold setR; rw [hl]; simp only; rw [if_neg hal]
      refine (rset_rate b (y.B x.num) f r bu w hM.rb.c1 hV hal).mono ?_
      rintro e w' ⟨rfl, rfl⟩
      refine ⟨by rw [hR], y, ?_, StpR.refl _ _⟩
      unfold setP
      rw [if_neg (by rw [hR]; omega)]; exact hRX
theorem rx_enq_no {w : World} {b : Nat} {y : RL} {p : Pace.PS} {tu : Nat} {c : Cn} (h : RX w b y p tu c) (hc : c.refused < 1000000000000000000) (f t l er : Int) (her : er ≠ 0) (hr : enqR p f l = er) (hT : Calls Tryz.prog 78 #[.pointer (some ⟨b, 0, none⟩), .int .i64 f, .int .i64 t, .int .i64 l] w fun e w' => e = .returned (.int .i64 er) ∧ w' = w) :
    Calls Tryz.prog 32 #[.pointer (some ⟨b, 0, none⟩), .int .i64 f, .int .i64 t, .int .i64 l] w fun e w' => e = .returned (.int .i64 (enqR p f l)) ∧ ∃ y', RX w' b y' (enqP p f t l) tu (enqC p f l c) ∧ StpR w w' y y' := by
  obtain ⟨hM, hI, hS⟩ := h
  have hne : ¬ enqR p f l = 0 := by rw [hr]; exact her
  refine (renqueue_bad b f t l er her w c.refused hT hM.rb.c8 hc (hM.fz 8)).mono ?_
  rintro e w' ⟨rfl, rfl⟩
  obtain ⟨y1, hP1, hs1, _⟩ := rm_count hM (hM.rb.refused (c.refused + 1))
  refine ⟨by rw [hr], y1, ?_, hs1⟩
  unfold enqP enqC
  rw [if_neg hne, if_neg hne]
  exact ⟨hP1, hI, hS⟩
/-- Enqueue. -/
theorem rx_enq {w : World} {b : Nat} {y : RL} {p : Pace.PS} {tu : Nat} {c : Cn} (h : RX w b y p tu c) (hlen : p.asks.length < 2200000000000) (hc : c.refused < 1000000000000000000) (hc' : c.taken < 1000000000000000000) (f t l : Int) :
    Calls Tryz.prog 32 #[.pointer (some ⟨b, 0, none⟩), .int .i64 f, .int .i64 t, .int .i64 l] w fun e w' => e = .returned (.int .i64 (enqR p f l)) ∧ ∃ y', RX w' b y' (enqP p f t l) tu (enqC p f l c) ∧ StpR w w' y y' := by
  have hRX := h
  obtain ⟨hM, hI, hS⟩ := h
  have hV := rm_look hM hI.few f
  have hnd := hI.pi.wf.nums
  cases hl : lookI p.st.fl f with
  | none =>
    rw [hl] at hV
    exact rx_enq_no hRX hc f t l 5 (by omega) (by unfold enqR; rw [hl]) (renq_none b f t l w hM.rb.c1 hV)
  | some x =>
    obtain ⟨hx, hxf, hlk, hft⟩ := lookI_some hl hnd
    rw [hl] at hV
    have hV : Calls Tryz.prog 76 #[.pointer (some ⟨b, 0, none⟩), .int .i64 f] w fun e w' => w' = w ∧ e = .returned (.pointer (some ⟨y.B x.num, 0, none⟩)) := hV
    by_cases hb : l < 1 ∨ 1500 < l
    · exact rx_enq_no hRX hc f t l 2 (by omega) (by unfold enqR; rw [hl]; simp only; rw [if_pos hb]) (renq_big b _ f t l w hM.rb.c1 hV hb)
    · obtain ⟨h1, h2, h3, h3b, h4, hxb⟩ := hM.at_flow hlk
      by_cases h8 : x.pk.length = 8
      · obtain ⟨a, cc, hv⟩ := row_len h1.row
        exact rx_enq_no hRX hc f t l 8 (by omega) (by unfold enqR; rw [hl]; simp only; rw [if_neg hb, if_pos h8]) (renq_full b _ f t l a cc w hM.rb.c1 hV (by omega) (by omega) (by rw [h1.c4, hv, h8]))
      · have hFx := hI.pi.wf.F x hx
        have hfew := hFx.few
        have hR : enqR p f l = 0 := by unfold enqR; rw [hl]; simp only; rw [if_neg hb, if_neg h8]
        have hvt : ∀ g, (y.V x.num).ownBlock = some g → y.tag g = .pk x.num := fun g hg => hM.tk x hx g hg
        have key : ∀ w1, RTakeP w w1 b (y.B x.num) x.pk.length p.asks.length f t l (y.V x.num) y.pv (pkC x.pk) (asksC p.asks) → ∃ y2, RM w1 b y2 (p.enq x.num t l.toNat).st p.newest tu (p.asks ++ [Pace.Cmd.enq x.num]) c ∧ StpR w w1 y y2 := by
          rintro w1 ⟨v', pv', w2, w4, hrv, hG1, hrp, hG2, rfl⟩
          have hxl : y.B x.num < w.heap.size := hM.lt _ (hM.own_of h4 (by simp))
          have hbl : b < w.heap.size := hM.lt _ hM.ow
          have hs0 : (w.alloc (.cells #[.int .i64 t, .int .i64 l] 196)).heap.size = w.heap.size + 1 := by simp
          have hx2 : w2.heap[y.B x.num]? = w.heap[y.B x.num]? := (hG1.fr.blk _ (by omega) h3).trans (Below.heap_alloc _ _ _ (by omega))
          have hb2 : w2.heap[b]? = w.heap[b]? := (hG1.fr.blk _ (by omega) h3b).trans (Below.heap_alloc _ _ _ (by omega))
          have hch : Ch w2 (w2.setCell ⟨y.B x.num, 4, none⟩ v') (fun a o => a = y.B x.num ∧ o = 4) := (Ch.refl w2 _).setCell ⟨rfl, rfl⟩ _
          have hcc : ∀ o, o ≠ 4 → (w2.setCell ⟨y.B x.num, 4, none⟩ v').cell? ⟨y.B x.num, o, none⟩ = w.cell? ⟨y.B x.num, o, none⟩ := fun o ho => (hch.cell _ o fun q => ho q.2).trans (World.cell?_of_block (w := w) (a := ⟨y.B x.num, o, none⟩) hx2)
          have hnew : ∀ g, v'.ownBlock = some g → (y.V x.num).ownBlock = some g ∨ w.heap.size ≤ g := fun g hg => by
            rcases hG1.new hg with q | q
            · exact .inl q
            · exact .inr (by omega)
          have hpk : pkC x.pk ++ [.int .i64 t, .int .i64 l] = pkC (Pace.withPk t l.toNat x).pk := by
            show _ = pkC (x.pk ++ [(t, l.toNat)])
            simp [pkC]
            omega
          have hRA : RA (w2.setCell ⟨y.B x.num, 4, none⟩ v') (y.B x.num) (Pace.withPk t l.toNat x) (y.cr x.num) (y.ls x.num) (y.ar x.num) (y.at' x.num) (y.tn x.num) v' := by
            refine ⟨by rw [hcc _ (by omega)]; exact h1.c0, by rw [hcc _ (by omega)]; exact h1.c1, by rw [hcc _ (by omega)]; exact h1.c2, by rw [hcc _ (by omega)]; exact h1.c3, ?_, by rw [hcc _ (by omega)]; exact h1.c5, by rw [hcc _ (by omega)]; exact h1.c6, by rw [hcc _ (by omega)]; exact h1.c7, by rw [hcc _ (by omega)]; exact h1.c8, by rw [hcc _ (by omega)]; exact h1.c9, by rw [hcc _ (by omega)]; exact h1.c10, ?_, ?_⟩
            · refine World.cell?_setCell_same' _ _ _ ?_
              rw [World.cell?_of_block (w := w) (a := ⟨y.B x.num, 4, none⟩) hx2, h1.c4]; rfl
            · have e1 : (Pace.withPk t l.toNat x).pk.length = x.pk.length + 1 := by show (x.pk ++ [_]).length = _; simp
              rw [e1, ← hpk]
              refine row_kept0 hrv fun g hg => Below.heap_setCell _ _ _ _ fun e => ?_
              have e' : g = y.B x.num := e
              rcases hnew g hg with q | q
              · rw [e'] at q; exact h3 q
              · omega
            · intro o; rw [World.frozen?_setCell, frozen_of hx2 o]; exact h1.fz o
          have hfr : Fr w (w2.setCell ⟨y.B x.num, 4, none⟩ v') (fun k => y.tag k = .flow x.num ∨ y.tag k = .pk x.num) := (((Fr.refl w _).alloc _).trans hG1.fr fun k _ q => .inr (hvt k q)).trans (hch.fr2 (O := fun k => k = y.B x.num) fun a o q => q.1) fun k _ q => .inl (by rw [q]; exact h4)
          have hb3 : (w2.setCell ⟨y.B x.num, 4, none⟩ v').heap[b]? = w.heap[b]? := (Below.heap_setCell _ _ _ _ fun e => hxb e.symm).trans hb2
          obtain ⟨y1, hP1, hs1, b1, b2, b3, b4, b5, b6, b7, b8, b9, _⟩ := hM.flow (f' := Pace.withPk t l.toNat x) (tu' := tu) (A' := p.st.A) hlk rfl hfr (fun k q => by
              rcases q with q | q
              · exact .inr (.inl q)
              · exact .inr (.inr (.inl q))) (hM.rb.kept hb3) (fun o => (frozen_of hb3 o).trans (hM.fz o)) hRA ⟨h2.rle, h2.cle, h2.eq⟩ hnew (by
            rw [upd_self, upd_self, upd_self]
            have := hM.arm.upd x.num (u := Pace.withPk t l.toNat) (fun _ => rfl)
            rw [upd_const hnd hlk (Pace.withPk t l.toNat)] at this
            exact this)
          rw [← upd_const hnd hlk (Pace.withPk t l.toNat)] at hP1
          have hs1' : StpR w (w2.setCell ⟨y.B x.num, 4, none⟩ v') y y1 := ⟨hfr.weak fun k _ q => by
            rcases q with q | q <;> exact hM.own_of q (by simp), hs1⟩
          obtain ⟨y2, hP2, hs2, _⟩ := rm_push hP1 (Pace.Cmd.enq x.num) (pv' := pv') (by
            show w4.ownsRow 0 187 4 pv' _ (_ ++ [.int .i64 3, .int .i64 (x.num : Int), .int .i64 0, .int .i64 0])
            rw [hxf]; exact hrp) (by rw [b9]; exact hG2)
          exact ⟨y2, hP2, hs1'.trans hs2⟩
        refine (renqueue_ok b f t l w (fun w1 => RTakeP w w1 b (y.B x.num) x.pk.length p.asks.length f t l (y.V x.num) y.pv (pkC x.pk) (asksC p.asks)) (renq_good b (y.B x.num) x.pk.length p.asks.length f t l (y.V x.num) y.pv (pkC x.pk) (asksC p.asks) w hM.rb.c1 hV (by omega) (by omega) (by omega) hlen h1.c4 hM.rb.c4 h1.fz hM.fz hxb h1.row hM.rp h3 h3b (fun e => by have := hM.tp _ e; rw [h4] at this; cases this) (rpv_ne_b hM) (fun g hg e => by have a1 := hvt g hg; have a2 := hM.tp g e; rw [a1] at a2; cases a2)) ?_).mono ?_
        · intro w1 hw1
          obtain ⟨y2, hP2, _⟩ := key w1 hw1
          exact ⟨_, hP2.rb.c7, hc', hP2.fz 7⟩
        · rintro e w' ⟨rfl, n, w1, hw1, hn7, rfl⟩
          obtain ⟨y2, hP2, hs2⟩ := key w1 hw1
          have hn : n = c.taken := by
            have := hP2.rb.c7
            rw [hn7] at this
            injection this with this
            injection this with _ this
            omega
          subst hn
          obtain ⟨y3, hP3, hs3, _⟩ := rm_count hP2 (hP2.rb.taken (c.taken + 1))
          refine ⟨by rw [hR], y3, ?_, hs2.trans hs3⟩
          unfold enqP enqC
          rw [if_pos hR, if_pos hR, hft]
          exact ⟨hP3, hI.enq t ⟨x, hx, rfl⟩ (by omega) (fun z hz e => by
            have := Pace.look_of_mem hnd hz
            rw [e, hlk] at this
            injection this with this
            rw [← this]; omega), hS.snoc fun f' r' b' l' e => by cases e⟩
end Go.Proofs.YtogdekjklbbbiaaGreatDoor
