import Derived.Test.YtogdekjklbbbiaaGreatDoorZ33
set_option maxRecDepth 100000
namespace Go.Proofs.YtogdekjklbbbiaaGreatDoor
open Go.ChangeShapes Go.WideShapes Go.ChangeAt Go.RowKit
set_option linter.unusedSimpArgs false
set_option linter.unusedVariables false

/-! ### What waits to be admitted is little -/
def isAdd (f : Nat) : Pace.Cmd → Bool
  | .add g _ _ => g == f
  | _ => false
def Shrt (P : List Pace.Cmd) : Prop := ∀ f, P.countP (Pace.isSet f) ≤ 1
theorem adds_one {P : List Pace.Cmd} (h : Pace.AddFirst P) (f : Nat) : P.countP (isAdd f) ≤ 1 := by
  induction P with
  | nil => simp
  | cons c P ih =>
    have h' := List.pairwise_cons.1 h
    by_cases q : isAdd f c = true
    · have hz : P.countP (isAdd f) = 0 := by
        rw [List.countP_eq_zero]
        intro d hd e
        cases d with
        | add g r b =>
          have eg : g = f := by simpa [isAdd] using e
          subst eg
          cases c with
          | add g' r' b' =>
            have eg' : g' = g := by simpa [isAdd] using q
            exact h'.1 _ hd g r b rfl eg'
          | set _ _ _ _ => simp [isAdd] at q
          | enq _ => simp [isAdd] at q
        | set _ _ _ _ => simp [isAdd] at e
        | enq _ => simp [isAdd] at e
      rw [List.countP_cons, hz]
      split <;> omega
    · rw [List.countP_cons, if_neg q]
      exact ih h'.2
theorem flow_parts (P : List Pace.Cmd) (f : Nat) : P.countP (fun c => c.flow == f) ≤ P.countP (isAdd f) + Pace.cnt f P + P.countP (Pace.isSet f) := by
  induction P with
  | nil => simp [Pace.cnt]
  | cons c P ih =>
    simp only [Pace.cnt, List.countP_cons] at ih ⊢
    cases c with
    | add g r b =>
      have hfl : (Pace.Cmd.add g r b).flow = g := rfl
      rw [hfl]
      by_cases e : g = f
      · subst e; simp [isAdd, Pace.isSet]; omega
      · simp [isAdd, Pace.isSet, e]; omega
    | set g r b l =>
      have hfl : (Pace.Cmd.set g r b l).flow = g := rfl
      rw [hfl]
      by_cases e : g = f
      · subst e; simp [isAdd, Pace.isSet]; omega
      · simp [isAdd, Pace.isSet, e]; omega
    | enq g =>
      have hfl : (Pace.Cmd.enq g).flow = g := rfl
      rw [hfl]
      by_cases e : g = f
      · subst e; simp [isAdd, Pace.isSet]; omega
      · simp [isAdd, Pace.isSet, e]; omega
theorem sum_one {l : List Nat} {f : Nat} (h : f ∈ l) (u v : Nat → Nat) (huv : ∀ n, v n ≤ u n) (hf : v f + 1 ≤ u f) : (l.map v).sum + 1 ≤ (l.map u).sum := by
  induction l with
  | nil => cases h
  | cons n l ih =>
    simp only [List.map_cons, List.sum_cons]
    have hle : (l.map v).sum ≤ (l.map u).sum := by
      clear ih h
      induction l with
      | nil => exact Nat.le_refl _
      | cons m l ih2 => simp only [List.map_cons, List.sum_cons]; have := huv m; omega
    rcases List.mem_cons.1 h with rfl | q
    · omega
    · have := ih q; have := huv n; omega
theorem length_flows (P : List Pace.Cmd) (l : List Nat) (h : ∀ c ∈ P, c.flow ∈ l) : P.length ≤ (l.map fun n => P.countP (fun c => c.flow == n)).sum := by
  induction P with
  | nil => simp
  | cons c P ih =>
    have h1 := ih fun d hd => h d (List.mem_cons_of_mem _ hd)
    have h2 := sum_one (h c (List.mem_cons_self ..)) (fun n => (c :: P).countP (fun c => c.flow == n)) (fun n => P.countP (fun c => c.flow == n)) (fun n => by simp only [List.countP_cons]; omega) (by simp [List.countP_cons])
    simp only [List.length_cons]
    omega
theorem sum_le {l : List Nat} {u : Nat → Nat} {m : Nat} (h : ∀ n ∈ l, u n ≤ m) : (l.map u).sum ≤ m * l.length := by
  induction l with
  | nil => simp
  | cons n l ih =>
    have h1 := ih fun x hx => h x (List.mem_cons_of_mem _ hx)
    have h2 := h n (List.mem_cons_self ..)
    simp only [List.map_cons, List.sum_cons, List.length_cons, Nat.mul_add]
    omega
theorem short80 {s : Pace.St} {P : List Pace.Cmd} (h : Pace.PI s P) (hs : Shrt P) (hfew : s.fl.length ≤ 8) : P.length ≤ 80 := by
  have h1 := length_flows P (s.fl.map (·.num)) fun c hc => by
    obtain ⟨x, hx, e⟩ := h.live c hc
    exact List.mem_map.2 ⟨x, hx, e⟩
  have h2 := sum_le (l := s.fl.map (·.num)) (u := fun n => P.countP (fun c => c.flow == n)) (m := 10) fun n hn => by
    obtain ⟨x, hx, rfl⟩ := List.mem_map.1 hn
    have a1 := flow_parts P x.num
    have a2 := adds_one h.af x.num
    have a3 := h.cnt x hx
    have a4 := (h.wf.F x hx).few
    have a5 := hs x.num
    show P.countP (fun c => c.flow == x.num) ≤ 10
    omega
  rw [List.length_map] at h2
  omega
theorem Shrt.nil : Shrt [] := fun f => by simp
theorem Shrt.snoc {P : List Pace.Cmd} (h : Shrt P) {c : Pace.Cmd} (hc : ∀ f, Pace.isSet f c = false) : Shrt (P ++ [c]) := fun f => by
  rw [List.countP_append, List.countP_cons, hc f]
  have := h f
  simp
  exact this
theorem countP_filter_le {α : Type} (p q : α → Bool) (l : List α) : (l.filter q).countP p ≤ l.countP p := by
  induction l with
  | nil => simp
  | cons x l ih =>
    rw [List.filter_cons]
    split
    · simp only [List.countP_cons]; omega
    · simp only [List.countP_cons]; omega
theorem Shrt.filter {P : List Pace.Cmd} (h : Shrt P) (q : Pace.Cmd → Bool) : Shrt (P.filter q) := fun f => Nat.le_trans (countP_filter_le _ _ _) (h f)
theorem Shrt.set {P : List Pace.Cmd} (h : Shrt P) (f r b l : Nat) : Shrt (P.filter (fun c => !Pace.isSet f c) ++ [.set f r b l]) := fun g => by
  rw [List.countP_append]
  by_cases e : f = g
  · subst e
    have : (P.filter (fun c => !Pace.isSet f c)).countP (Pace.isSet f) = 0 := by
      rw [List.countP_eq_zero]
      intro c hc
      have := (List.mem_filter.1 hc).2
      simpa using this
    rw [this]
    simp [List.countP_cons]
    split <;> omega
  · have h1 := (h.filter (fun c => !Pace.isSet f c)) g
    have h2 : [Pace.Cmd.set f r b l].countP (Pace.isSet g) = 0 := by simp [Pace.isSet, e]
    omega

/-! ### The pacer as one -/
/-- The pacer in memory, and what it stands for. -/
def PA (w : World) (b : Nat) (y : Lay) (p : Pace.PS) (c : Cn) : Prop := ∃ P, PM w b y p.st p.newest P c ∧ p.Inv ∧ Pace.Same p P ∧ Shrt P
/-- A call's step. -/
structure Stp (w w' : World) (y y' : Lay) : Prop where
  fr : Fr w w' y.own
  ext : ∀ k, k < w.heap.size → y.tag k = .none → y'.tag k = .none
theorem Stp.refl (w : World) (y : Lay) : Stp w w y y := ⟨Fr.refl _ _, fun _ _ e => e⟩
theorem Step.stp {w w' : World} {y y' : Lay} (h : Step w w' y y') : Stp w w' y y' := ⟨h.fr, h.ext⟩
theorem StepN.stp {n0 : Nat} {w w' : World} {y y' : Lay} (h : StepN n0 w w' y y') (hn : w.heap.size ≤ n0) : Stp w w' y y' := ⟨h.fr.weak fun k hk q => by
  rcases q with q | q
  · exact q
  · omega, h.ext⟩
theorem Stp.trans {a b c : World} {x y z : Lay} (h : Stp a b x y) (k : Stp b c y z) : Stp a c x z :=
  ⟨h.fr.trans k.fr fun n hn q e => q (h.ext n hn e), fun n hn e => k.ext n (Nat.lt_of_lt_of_le hn h.fr.size) (h.ext n hn e)⟩
theorem PA.kept {w w' : World} {b : Nat} {y : Lay} {p : Pace.PS} {c : Cn} (h : PA w b y p c) {O : Nat → Prop} (hf : Fr w w' O) (hd : ∀ k, y.own k → ¬ O k) : PA w' b y p c := by
  obtain ⟨P, h1, h2⟩ := h
  exact ⟨P, h1.kept hf hd, h2⟩
theorem TabW.stp {w w' : World} {y y' : Lay} (h : TabW w) (hs : Stp w w' y y') (h0 : y.tag 0 = .none) (hz : 0 < w.heap.size) : TabW w' := h.fr hs.fr (fun q => q h0) hz
theorem PB.clock {w : World} {b q ck nw : Nat} {fv pv : Value} {wb : Nat} {c : Cn} (h : PB w b q ck nw fv pv wb c) (ck' : Nat) : PB (w.setCell ⟨b, 1, none⟩ (.int .i64 (ck' : Int))) b q ck' nw fv pv wb c := by
  have hc : Ch w (w.setCell ⟨b, 1, none⟩ (.int .i64 (ck' : Int))) (fun a o => a = b ∧ o = 1) := (Ch.refl w _).setCell ⟨rfl, rfl⟩ _
  have hcc : ∀ o, o ≠ 1 → (w.setCell ⟨b, 1, none⟩ (.int .i64 (ck' : Int))).cell? ⟨b, o, none⟩ = w.cell? ⟨b, o, none⟩ := fun o ho => hc.cell b o fun q => ho q.2
  exact ⟨by rw [hcc _ (by omega)]; exact h.c0, World.cell?_setCell_same' _ _ _ (by rw [h.c1]; rfl), by rw [hcc _ (by omega)]; exact h.c2, by rw [hcc _ (by omega)]; exact h.c3, by rw [hcc _ (by omega)]; exact h.c4, by rw [hcc _ (by omega)]; exact h.c5, by rw [hcc _ (by omega)]; exact h.c6, by rw [hcc _ (by omega)]; exact h.c7, by rw [hcc _ (by omega)]; exact h.c8, by rw [hcc _ (by omega)]; exact h.c9, by rw [hcc _ (by omega)]; exact h.c10, by rw [hcc _ (by omega)]; exact h.c11, by rw [hcc _ (by omega)]; exact h.c12, by rw [hcc _ (by omega)]; exact h.c13, by rw [hcc _ (by omega)]; exact h.c14, by rw [hcc _ (by omega)]; exact h.c15⟩
theorem PB.pend {w : World} {b q ck nw : Nat} {fv pv : Value} {wb : Nat} {c : Cn} (h : PB w b q ck nw fv pv wb c) (pv' : Value) : PB (w.setCell ⟨b, 4, none⟩ pv') b q ck nw fv pv' wb c := by
  have hc : Ch w (w.setCell ⟨b, 4, none⟩ pv') (fun a o => a = b ∧ o = 4) := (Ch.refl w _).setCell ⟨rfl, rfl⟩ _
  have hcc : ∀ o, o ≠ 4 → (w.setCell ⟨b, 4, none⟩ pv').cell? ⟨b, o, none⟩ = w.cell? ⟨b, o, none⟩ := fun o ho => hc.cell b o fun q => ho q.2
  exact ⟨by rw [hcc _ (by omega)]; exact h.c0, by rw [hcc _ (by omega)]; exact h.c1, by rw [hcc _ (by omega)]; exact h.c2, by rw [hcc _ (by omega)]; exact h.c3, World.cell?_setCell_same' _ _ _ (by rw [h.c4]; rfl), by rw [hcc _ (by omega)]; exact h.c5, by rw [hcc _ (by omega)]; exact h.c6, by rw [hcc _ (by omega)]; exact h.c7, by rw [hcc _ (by omega)]; exact h.c8, by rw [hcc _ (by omega)]; exact h.c9, by rw [hcc _ (by omega)]; exact h.c10, by rw [hcc _ (by omega)]; exact h.c11, by rw [hcc _ (by omega)]; exact h.c12, by rw [hcc _ (by omega)]; exact h.c13, by rw [hcc _ (by omega)]; exact h.c14, by rw [hcc _ (by omega)]; exact h.c15⟩
theorem ch1 (w : World) (b o : Nat) (v : Value) : Fr w (w.setCell ⟨b, o, none⟩ v) (fun k => k = b) := ((Ch.refl w (fun a o' => a = b ∧ o' = o)).setCell ⟨rfl, rfl⟩ v).fr2 fun a o q => q.1

/-- Poll. -/
theorem pa_poll {w : World} {b : Nat} {y : Lay} {p : Pace.PS} {c : Cn} (h : PA w b y p c) (hT : TabW w) (hnw : p.newest < 9000000000000000000) (hc : c.sent < 8000000000000000000) (now bud : Int) (hn : now ≤ 4000000000000000000) :
    Calls Tryz.prog 14 #[.pointer (some ⟨b, 0, none⟩), .int .i64 now, .int .i64 bud] w fun e w' => ∃ v, e = .returned (.tuple #[v, .int .i64 0]) ∧ ∃ n0 y', PA w' b y' (p.poll now.toNat bud.toNat).2 { c with sent := c.sent + total (p.poll now.toNat bud.toNat).1 } ∧ BA w' n0 (fun k => y'.tag k = .none) (p.poll now.toNat bud.toNat).1 v ∧ Stp w w' y y' ∧ w.heap.size ≤ n0 := by
  obtain ⟨P, hM, hI, hS, hSh⟩ := h
  have hz : 0 < w.heap.size := Nat.lt_of_le_of_lt (Nat.zero_le _) (hM.lt b hM.ow)
  have hmax : max ((p.st.clock : Nat) : Int) now = ((max p.st.clock now.toNat : Nat) : Int) := by omega
  have hti : Pace.PI (Pace.tick p.st now.toNat) P := by
    have := hS.inv.pi
    exact this.tick (by omega)
  have hai := hti.admit
  have hflt : (Pace.tick p.st now.toNat).fl.length = p.st.fl.length := by simp [Pace.tick]
  have hfla : (Pace.admit (Pace.tick p.st now.toNat) P).fl.length = p.st.fl.length := by have := congrArg List.length (Pace.admit_nums (Pace.tick p.st now.toNat) P); simp at this; rw [this, hflt]
  have hnumt : ∀ x ∈ (Pace.tick p.st now.toNat).fl, x.num < 9223372036854775808 := fun x hx => by
    obtain ⟨z, hz, rfl⟩ := List.mem_map.1 hx
    have := (hI.le z hz).2
    show z.num < _
    omega
  have hnuma : ∀ x ∈ (Pace.admit (Pace.tick p.st now.toNat) P).fl, x.num < 9223372036854775808 := fun x hx => by
    have : x.num ∈ (Pace.admit (Pace.tick p.st now.toNat) P).fl.map (·.num) := List.mem_map.2 ⟨x, hx, rfl⟩
    rw [Pace.admit_nums] at this
    obtain ⟨z, hz, e⟩ := List.mem_map.1 this
    rw [← e]; exact hnumt z hz
  have h80 : P.length ≤ 80 := short80 hS.inv.pi hSh hI.few
  refine (poll_good b now bud (p.st.clock : Int) w (fun w1 => ∃ y1, PM w1 b y1 (Pace.admit (Pace.tick p.st now.toNat) P) p.newest [] c ∧ Step w w1 y y1)
    (fun v w' => ∃ n0 y', PM w' b y' (Pace.rel bud.toNat (Pace.admit (Pace.tick p.st now.toNat) P)).2 p.newest [] { c with sent := c.sent + total (Pace.rel bud.toNat (Pace.admit (Pace.tick p.st now.toNat) P)).1 } ∧ BA w' n0 (fun k => y'.tag k = .none) (Pace.rel bud.toNat (Pace.admit (Pace.tick p.st now.toNat) P)).1 v ∧ Stp w w' y y' ∧ w.heap.size ≤ n0)
    hM.pb.c15 hM.pb.c1 (hM.fz 1) hn ?_ ?_).mono ?_
  · rw [hmax]
    obtain ⟨y1, hP1, hs1, e1, e2, e3, e4, e5⟩ := hM.self (s' := Pace.tick p.st now.toNat) (w' := w.setCell ⟨b, 1, none⟩ (.int .i64 ((max p.st.clock now.toNat : Nat) : Int))) (ch1 _ _ _ _) (fun o => by rw [World.frozen?_setCell]; exact hM.fz o) (hM.pb.clock _) (row_kept hM.rp fun g hg => Below.heap_setCell _ _ _ _ fun e => by
        have := hM.tp g hg
        have e' : g = b := e
        rw [e', hM.tb] at this; cases this) (.inl rfl) rfl (Nat.le_max_left _ _) (Pace.tick_nums _ _) (fun f' hf' => by
        obtain ⟨f, hf, rfl⟩ := List.mem_map.1 hf'
        have hfc := hM.fc f hf
        refine ⟨f, hf, rfl, rfl, rfl, rfl, rfl, ⟨Nat.le_trans hfc.rle (Nat.le_max_left _ _), hfc.cle, ?_⟩⟩
        show Pace.acc f.cr f.rate (f.burst * Pace.parts) (max p.st.clock now.toNat - p.st.clock) = Pace.acc _ f.rate (f.burst * Pace.parts) (max p.st.clock now.toNat - _)
        have hr := hfc.rle
        rw [hfc.eq, Pace.acc_acc]
        congr 1
        omega)
    refine (pm_admit hP1 hti (by rw [hflt]; exact hI.few) hnumt (by omega)).mono ?_
    rintro e w' ⟨rfl, wr, y2, hP2, hs2, b1, rfl⟩
    obtain ⟨y3, hP3, hs3, d1, _⟩ := hP2.self (s' := Pace.admit (Pace.tick p.st now.toNat) P) (P' := []) (w' := wr.setCell ⟨b, 4, none⟩ (.slice none 0 0)) (ch1 _ _ _ _) (fun o => by rw [World.frozen?_setCell]; exact hP2.fz o) (hP2.pb.pend _) (World.ownsRow_nil _ _ _ _) (.inr rfl) rfl (Nat.le_refl _) rfl (fun f hf => ⟨f, hf, rfl, rfl, rfl, rfl, rfl, hP2.fc f hf⟩)
    exact ⟨rfl, y3, hP3, hs1.trans (hs2.trans hs3)⟩
  · rintro w1 ⟨y1, hP1, hs1⟩
    refine (pm_release hP1 hai (by rw [hfla]; exact hI.few) hnuma (TabW.stp hT hs1.stp hM.t0 hz) hc bud).mono ?_
    rintro e w' ⟨v, rfl, n0, y', hP', hB, hs', hn0, _⟩
    have hsz := hs1.fr.size
    exact ⟨v, rfl, n0, y', hP', hB, hs1.stp.trans (hs'.stp hn0), by omega⟩
  · rintro e w' ⟨v, rfl, n0, y', hP', hB, hs', hn0⟩
    rw [hS.poll_eq] at hP' hB
    exact ⟨v, rfl, n0, y', ⟨[], hP', hI.poll bud.toNat (by omega), Pace.Same.poll hI bud.toNat (by omega), Shrt.nil⟩, hB, hs', hn0⟩
/-- Poll, at a time that may not be. -/
theorem pa_poll_bad {w : World} {b : Nat} {y : Lay} {p : Pace.PS} {c : Cn} (h : PA w b y p c) (now bud : Int) (hn : 4000000000000000000 < now) :
    Calls Tryz.prog 14 #[.pointer (some ⟨b, 0, none⟩), .int .i64 now, .int .i64 bud] w fun e w' => e = .returned (.tuple #[.slice none 0 0, .int .i64 1]) ∧ w' = w := by
  obtain ⟨P, hM, _⟩ := h
  exact poll_bad b now bud w hM.pb.c15 hn
/-- Next. -/
def nextOf (p : Pace.PS) (v : Int) : Prop := if p.asks = [] then LeastOf (p.st.A.map fun a => (a.num, a.at')) v else v = (p.st.clock : Int)
theorem pa_next {w : World} {b : Nat} {y : Lay} {p : Pace.PS} {c : Cn} (h : PA w b y p c) (hT : TabW w) :
    Calls Tryz.prog 15 #[.pointer (some ⟨b, 0, none⟩)] w fun e w' => ∃ v : Int, e = .returned (.int .i64 v) ∧ nextOf p v ∧ PA w' b y p c ∧ Fr w w' (fun _ => False) := by
  obtain ⟨P, hM, hI, hS, hSh⟩ := h
  obtain ⟨a, cc, hpv⟩ := row_len hM.rp
  have hc4 := hM.pb.c4
  rw [hpv] at hc4
  by_cases q : P = []
  · have hq : p.asks = [] := hS.nil.1 q
    subst q
    refine (next_wheel b y.wb a cc w (fun v w' => LeastOf (p.st.A.map fun a => (a.num, a.at')) v ∧ Below w.heap.size w w') hM.pb.c15 hc4 hM.pb.c5 (wa_next hM.wa hT)).mono ?_
    rintro e w' ⟨v, rfl, hv, hB⟩
    have hfr : Fr w w' (fun _ => False) := ⟨hB.os, hB.tape, hB.output, hB.size, fun k hk _ => hB.block k hk⟩
    refine ⟨v, rfl, ?_, ⟨[], hM.kept hfr (fun _ _ q => q), hI, hS, hSh⟩, hfr⟩
    unfold nextOf
    rw [if_pos hq]; exact hv
  · have hq : p.asks ≠ [] := fun e => q (hS.nil.2 e)
    refine (next_pend b (p.st.clock : Int) a P.length cc w hM.pb.c15 hc4 (List.length_pos_iff.2 q) hM.pb.c1).mono ?_
    rintro e w' ⟨rfl, rfl⟩
    refine ⟨_, rfl, ?_, ⟨P, hM, hI, hS, hSh⟩, Fr.refl _ _⟩
    unfold nextOf
    rw [if_neg hq]
end Go.Proofs.YtogdekjklbbbiaaGreatDoor
