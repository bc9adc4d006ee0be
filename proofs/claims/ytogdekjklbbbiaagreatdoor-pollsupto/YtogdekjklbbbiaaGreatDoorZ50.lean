import Derived.Test.YtogdekjklbbbiaaGreatDoorSd
import Derived.Test.YtogdekjklbbbiaaGreatDoorZ47
import Derived.Test.YtogdekjklbbbiaaGreatDoorZ13
import Derived.Test.YtogdekjklbbbiaaGreatDoorZ41
set_option maxRecDepth 100000
namespace Go.Proofs.YtogdekjklbbbiaaGreatDoor
open Go.ChangeShapes Go.WideShapes Go.ChangeAt Go.RowKit
set_option linter.unusedSimpArgs false
set_option linter.unusedVariables false

/-- Remove. -/
theorem rx_remove {w : World} {b : Nat} {y : RL} {p : Pace.PS} {tu : Nat} {c : Cn} (h : RX w b y p tu c) (hlen : p.asks.length < 2200000000000) (hc : c.dropped < 1000000000000000000) (f : Int) :
    Calls Tryz.prog 34 #[.pointer (some ⟨b, 0, none⟩), .int .i64 f] w fun e w' => ∃ v, e = .returned (.tuple #[v, .int .i64 (remR p f)]) ∧ ∃ y', RX w' b y' (remP p f) tu { c with dropped := c.dropped + (remL p f).length } ∧ StpR w w' y y' ∧ w'.ownsRow 0 196 2 v (remL p f).length (pkC (remL p f)) := by
  have hRX := h
  obtain ⟨hM, hI, hS⟩ := h
  have hV := rm_look hM hI.few f
  have hnd := hI.pi.wf.nums
  cases hl : lookI p.st.fl f with
  | none =>
    have hR : remR p f = 5 ∧ remP p f = p ∧ remL p f = [] := by unfold remR remP remL; rw [hl]; exact ⟨rfl, rfl, rfl⟩
    rw [hl] at hV
    refine (rremove_none b f w hM.rb.c1 hV).mono ?_
    rintro e w' ⟨rfl, rfl⟩
    rw [hR.1, hR.2.1, hR.2.2]
    exact ⟨_, rfl, y, hRX, StpR.refl _ _, World.ownsRow_nil _ _ _ _⟩
  | some x =>
    obtain ⟨hx, hxf, hlk, hft⟩ := lookI_some hl hnd
    have hR : remR p f = 0 ∧ remP p f = p.remove x.num ∧ remL p f = x.pk := by unfold remR remP remL; rw [hl]; exact ⟨rfl, rfl, rfl⟩
    rw [hl] at hV
    have hV : Calls Tryz.prog 76 #[.pointer (some ⟨b, 0, none⟩), .int .i64 f] w fun e w' => w' = w ∧ e = .returned (.pointer (some ⟨y.B x.num, 0, none⟩)) := hV
    obtain ⟨h1, h2, h3, h3b, h4, hxb⟩ := hM.at_flow hlk
    have hFx := hI.pi.wf.F x hx
    have hfew := hFx.few
    have hx' : ∃ (inv : Nat → Nat), ∀ f ∈ p.st.fl, inv (y.B f.num) = f.num := by
      refine ⟨fun k => match y.tag k with | .flow m => m | _ => 0, fun f hf => ?_⟩
      simp only [hM.tl f hf]
    obtain ⟨inv, hinv⟩ := hx'
    obtain ⟨g, cap, hfv, _, _, hfo, _, _⟩ := row_shape hM.rf (List.length_pos_of_mem hx)
    have hlx : (p.st.fl.map fun f => y.B f.num).length = p.st.fl.length := List.length_map _
    obtain ⟨aq, cq, hqv⟩ := row_len h1.row
    obtain ⟨a4, c4, hpv⟩ := row_len hM.rp
    have hc3 := hM.rb.c3
    rw [hfv, ← hlx] at hc3
    have hc4 := hM.rb.c4
    rw [hpv] at hc4
    have hx4 := h1.c4
    rw [hqv] at hx4
    have hgb : g ≠ b := fun e => by have := hM.tf g hfo; rw [e, hM.tb] at this; cases this
    have hrowF : ∀ k z, (p.st.fl.map fun f => y.B f.num)[k]? = some z → w.cell? ⟨g, k, none⟩ = some (.pointer (some ⟨z, 0, none⟩)) := fun k z hz => by
      refine row_get0 hM.rf hfo ?_
      rw [List.getElem?_map] at hz ⊢
      cases hq : p.st.fl[k]? with
      | none => rw [hq] at hz; cases hz
      | some f' => rw [hq] at hz; simp at hz ⊢; exact hz
    have hask : ∀ k cm, p.asks[k]? = some cm → ∃ g', a4 = some ⟨g', 0, none⟩ ∧ ∀ j v, (askC cm)[j]? = some v → w.cell? ⟨g', k * 4 + j, none⟩ = some v := fun k cm hk => by
      have hpos : 0 < p.asks.length := Nat.lt_of_le_of_lt (Nat.zero_le _) (List.getElem?_eq_some_iff.1 hk).1
      obtain ⟨g', cap', hv', _, _, ho', _, _⟩ := row_shape hM.rp hpos
      rw [hpv] at hv'
      injection hv' with e1 e2 e3
      refine ⟨g', e1, fun j v hj => row_get0 hM.rp ho' (asksC_get p.asks k cm j v hk hj)⟩
    refine (rremove_good b (y.B x.num) g cap (p.st.fl.map fun f => y.B f.num) (fun z => (inv z : Int)) f a4 c4 c.dropped x.pk.length cq aq p.asks w hM.rb.c1 hc3 hc4 hM.rb.c10 hx4 hM.fz hxb hgb (fun g' e => fun e' => rpv_ne_b hM (by rw [hpv, e, e']; rfl)) (fun z hz => ?_) hV (by rw [hlx]; exact hI.few) hlen hc (by omega) hrowF (fun z hz => ?_) hask).mono ?_
    · obtain ⟨f', hf', rfl⟩ := List.mem_map.1 hz
      intro e
      have := hM.tl f' hf'
      rw [e, hM.tb] at this; cases this
    · obtain ⟨f', hf', rfl⟩ := List.mem_map.1 hz
      show w.cell? _ = some (Value.int .i64 ((inv (y.B f'.num) : Nat) : Int))
      rw [hinv f' hf']
      exact (hM.fl f' hf').c0
    · rintro e w' ⟨rfl, fv', pv', hr⟩
      rw [hR.1, hR.2.1, hR.2.2]
      have hk1 : keepF f (fun z => (inv z : Int)) (p.st.fl.map fun f => y.B f.num) = (Pace.gone p.st.fl x.num).map fun f => y.B f.num := by
        unfold keepF Pace.gone
        rw [List.filter_map]
        congr 1
        refine List.filter_congr fun f' hf' => ?_
        simp only [Function.comp, hinv f' hf']
        rw [decide_eq_decide]
        omega
      have hk2 : keepA f p.asks = p.asks.filter (·.flow ≠ x.num) := by
        unfold keepA
        refine List.filter_congr fun c' _ => ?_
        rw [decide_eq_decide]
        omega
      rw [hk1, hk2, List.length_map, List.map_map] at hr
      have hRB : RB w' b p.st.q p.st.clock p.newest tu fv' pv' { c with dropped := c.dropped + x.pk.length } := by
        have r := hM.rb
        have hcb := hr.cb
        exact ⟨by rw [hcb _ (by omega) (by omega) (by omega)]; exact r.c0, by rw [hcb _ (by omega) (by omega) (by omega)]; exact r.c1, by rw [hcb _ (by omega) (by omega) (by omega)]; exact r.c2, hr.c3, hr.c4, by rw [hcb _ (by omega) (by omega) (by omega)]; exact r.c5, by rw [hcb _ (by omega) (by omega) (by omega)]; exact r.c6, by rw [hcb _ (by omega) (by omega) (by omega)]; exact r.c7, by rw [hcb _ (by omega) (by omega) (by omega)]; exact r.c8, by rw [hcb _ (by omega) (by omega) (by omega)]; exact r.c9, by
          show w'.cell? _ = some (.int .i64 ((c.dropped + x.pk.length : Nat) : Int))
          rw [show ((c.dropped + x.pk.length : Nat) : Int) = (c.dropped : Int) + (x.pk.length : Int) by omega]
          exact hr.c10, by rw [hcb _ (by omega) (by omega) (by omega)]; exact r.c11, by rw [hcb _ (by omega) (by omega) (by omega)]; exact r.c12⟩
      obtain ⟨y', hP', hs'⟩ := hM.gone (n := x.num) (P' := p.asks.filter (·.flow ≠ x.num)) hr.fr (fun o => (hr.fz o).trans (hM.fz o)) hRB hr.rf hr.fn hr.rp hr.pn
      refine ⟨_, rfl, y', ⟨hP', hI.remove x.num, hS.filter _⟩, hs', ?_⟩
      have hrow := h1.row
      rw [hqv] at hrow
      refine row_kept0 hrow fun g' hg' => hr.fr.blk g' (hrow.lt g' hg').2 fun e => ?_
      have := hM.tk x hx g' (by rw [hqv]; exact hg')
      rw [e, hM.tb] at this; cases this
end Go.Proofs.YtogdekjklbbbiaaGreatDoor

namespace Go.Proofs.YtogdekjklbbbiaaGreatDoor
open Go.ChangeShapes Go.WideShapes Go.ChangeAt Go.RowKit
set_option linter.unusedSimpArgs false
set_option linter.unusedVariables false

/-! ### Answers as they lie -/
theorem pkC_at {l : List (Int × Nat)} {j : Nat} {x : Int × Nat} (h : l[j]? = some x) : (pkC l)[j * 2]? = some (.int .i64 x.1) ∧ (pkC l)[j * 2 + 1]? = some (.int .i64 (x.2 : Int)) := by
  induction l generalizing j with
  | nil => simp at h
  | cons p l ih =>
    have e : pkC (p :: l) = .int .i64 p.1 :: .int .i64 (p.2 : Int) :: pkC l := rfl
    rw [e]
    cases j with
    | zero => simp at h; subst h; exact ⟨rfl, rfl⟩
    | succ j =>
      have := ih (j := j) (by simpa using h)
      have e1 : (j + 1) * 2 = j * 2 + 1 + 1 := by omega
      rw [e1]
      simpa using this
theorem pk_of_row {w : World} {n0 e : Nat} {l : List (Int × Nat)} {a : Option Addr} {c : Nat} (h : w.ownsRow n0 e 2 (.slice a l.length c) l.length (pkC l)) : PkAt w a l := fun j x hj => by
  have hp : 0 < l.length := by have := (List.getElem?_eq_some_iff.1 hj).1; omega
  obtain ⟨g, cap, hv, _, _, hog, _⟩ := row_shape h hp
  obtain ⟨q1, q2⟩ := pkC_at hj
  refine ⟨g, 0, ?_, ?_, ?_⟩
  · injection hv
  · rw [Nat.zero_add]; exact row_get0 h hog q1
  · rw [Nat.zero_add]; exact row_get0 h hog q2
theorem flat3 {cs : List (List Value)} (h : ∀ c ∈ cs, c.length = 3) {i : Nat} {c : List Value} (hi : cs[i]? = some c) {r : Nat} (hr : r < 3) : cs.flatten[i * 3 + r]? = c[r]? := by
  induction cs generalizing i with
  | nil => simp at hi
  | cons d cs ih =>
    have hd := h d (List.mem_cons_self ..)
    cases i with
    | zero =>
      simp at hi
      subst hi
      rw [List.flatten_cons, List.getElem?_append_left (by omega)]
      simp
    | succ i =>
      rw [List.flatten_cons, List.getElem?_append_right (by omega), hd]
      have : (i + 1) * 3 + r - 3 = i * 3 + r := by omega
      rw [this]
      exact ih (fun c hc => h c (List.mem_cons_of_mem _ hc)) (by simpa using hi)
theorem all2_get {α β : Type} {R : α → β → Prop} {l : List α} {m : List β} (h : Pace.All2 R l m) {i : Nat} {b : β} (hb : m[i]? = some b) : ∃ a, l[i]? = some a ∧ R a b := by
  induction h generalizing i with
  | nil => simp at hb
  | cons q _ ih =>
    cases i with
    | zero => simp at hb; subst hb; exact ⟨_, rfl, q⟩
    | succ i => exact ih (by simpa using hb)
theorem all2_left {α β : Type} {R : α → β → Prop} {P : α → Prop} {l : List α} {m : List β} (h : Pace.All2 R l m) (hP : ∀ a b, R a b → P a) : ∀ a ∈ l, P a := by
  induction h with
  | nil => intro a ha; cases ha
  | cons q _ ih =>
    intro a ha
    rcases List.mem_cons.1 ha with rfl | e
    · exact hP _ _ q
    · exact ih a e
theorem bt_of_ba {w : World} {n0 : Nat} {N : Nat → Prop} {bs : List Bt} {a : Option Addr} {c : Nat} (h : BA w n0 N bs (.slice a bs.length c)) : BtAt w a bs := fun i q hi => by
  obtain ⟨⟨cs, hr, ha⟩, hn⟩ := h
  have h3 : ∀ c ∈ cs, c.length = 3 := all2_left ha fun c q hq => by obtain ⟨g, o, rfl, _⟩ := hq; rfl
  obtain ⟨c3, hc, g2, o2, rfl, _, _, _, hp, _⟩ := all2_get ha hi
  obtain ⟨g, cap, hv, _, _, hog, _⟩ := row_shape hr (by have := (List.getElem?_eq_some_iff.1 hi).1; omega)
  have hcell : ∀ r u, r < 3 → [Value.int .i64 (q.1 : Int), .int .i64 (q.2.1 : Int), .slice (some ⟨g2, o2, none⟩) q.2.2.length q.2.2.length][r]? = some u → w.cell? ⟨g, i * 3 + r, none⟩ = some u := fun r u hr3 hu => row_get0 hr hog (by rw [flat3 h3 hc hr3]; exact hu)
  refine ⟨g, 0, some ⟨g2, o2, none⟩, q.2.2.length, by injection hv, ?_, ?_, ?_, fun j x hj => ⟨g2, o2, rfl, hp _ _ (pkC_at hj).1, by have := hp _ _ (pkC_at hj).2; rw [← Nat.add_assoc] at this; exact this⟩⟩
  · rw [Nat.zero_add]; exact hcell 0 _ (by omega) rfl
  · rw [Nat.zero_add]; exact hcell 1 _ (by omega) rfl
  · rw [Nat.zero_add]; exact hcell 2 _ (by omega) rfl
theorem bt_of_rbt {w : World} {y : RL} {n0 : Nat} {bs : List Bt} {a : Option Addr} {c : Nat} {cs : List (List Value)} (h : RBt w y n0 bs (.slice a bs.length c) cs) : BtAt w a bs := fun i q hi => by
  have hr := h.row
  have h3 : ∀ c ∈ cs, c.length = 3 := all2_left h.all fun c q hq => by obtain ⟨pv, rfl, _⟩ := hq; rfl
  obtain ⟨c3, hc, pv, rfl, hp, _⟩ := all2_get h.all hi
  obtain ⟨pa, pc, rfl⟩ := row_len hp
  obtain ⟨g, cap, hv, _, _, hog, _⟩ := row_shape hr (by have := (List.getElem?_eq_some_iff.1 hi).1; omega)
  have hcell : ∀ r u, r < 3 → [Value.int .i64 (q.1 : Int), .int .i64 (q.2.1 : Int), .slice pa q.2.2.length pc][r]? = some u → w.cell? ⟨g, i * 3 + r, none⟩ = some u := fun r u hr3 hu => row_get0 hr hog (by rw [flat3 h3 hc hr3]; exact hu)
  refine ⟨g, 0, pa, pc, by injection hv, ?_, ?_, ?_, pk_of_row hp⟩
  · rw [Nat.zero_add]; exact hcell 0 _ (by omega) rfl
  · rw [Nat.zero_add]; exact hcell 1 _ (by omega) rfl
  · rw [Nat.zero_add]; exact hcell 2 _ (by omega) rfl
theorem ba_len {w : World} {n0 : Nat} {N : Nat → Prop} {bs : List Bt} {v : Value} (h : BA w n0 N bs v) : ∃ a c, v = .slice a bs.length c := by
  obtain ⟨⟨cs, hr, ha⟩, _⟩ := h
  exact row_len hr
theorem rbt_len {w : World} {y : RL} {n0 : Nat} {bs : List Bt} {v : Value} {cs : List (List Value)} (h : RBt w y n0 bs v cs) : ∃ a c, v = .slice a bs.length c := row_len h.row

/-! ### A pacer and the document's, which hold the same -/
theorem PA.olt {w : World} {b : Nat} {y : Lay} {p : Pace.PS} {c : Cn} (h : PA w b y p c) : ∀ k, y.own k → k < w.heap.size := by
  obtain ⟨P, hM, _⟩ := h; exact hM.lt
theorem PA.inv {w : World} {b : Nat} {y : Lay} {p : Pace.PS} {c : Cn} (h : PA w b y p c) : p.Inv := by
  obtain ⟨P, hM, hI, _⟩ := h; exact hI
theorem Lay.tag_of {y : Lay} {k : Nat} (h : ¬ y.own k) : y.tag k = .none := Classical.byContradiction fun q => h q
theorem Stp.own {w w' : World} {y y' : Lay} (h : Stp w w' y y') {k : Nat} (hk : k < w.heap.size) (ho : y'.own k) : y.own k := Classical.byContradiction fun hn => ho (h.ext k hk (Lay.tag_of hn))
theorem RL.tag_of {y : RL} {k : Nat} (h : ¬ y.own k) : y.tag k = .none := Classical.byContradiction fun q => h q
theorem StpR.own {w w' : World} {y y' : RL} (h : StpR w w' y y') {k : Nat} (hk : k < w.heap.size) (ho : y'.own k) : y.own k := Classical.byContradiction fun hn => ho (h.ext k hk (RL.tag_of hn))
structure PRx (wr : World) (a c : Nat) (p : Pace.PS) (k : Nat) (ya : Lay) (yc : RL) (cn : Cn) (tu : Nat) : Prop where
  pa : PA wr a ya p cn
  rx : RX wr c yc p tu cn
  dj : ∀ j, ya.own j → ¬ yc.own j
  bd : Bd p cn k
  ak : p.asks.length ≤ k
  tt : tu + p.asks.length ≤ 65 * k
def PR (wr : World) (O : Nat → Prop) (a c : Nat) (p : Pace.PS) (k : Nat) : Prop := ∃ ya yc cn tu, PRx wr a c p k ya yc cn tu ∧ ∀ j, O j ↔ (ya.own j ∨ yc.own j)
theorem PRx.kept {wr w' : World} {a c : Nat} {p : Pace.PS} {k : Nat} {ya : Lay} {yc : RL} {cn : Cn} {tu : Nat} (h : PRx wr a c p k ya yc cn tu) {O : Nat → Prop} (hf : Fr wr w' O) (hd : ∀ j, ya.own j ∨ yc.own j → ¬ O j) : PRx w' a c p k ya yc cn tu :=
  ⟨h.pa.kept hf fun j q => hd j (.inl q), h.rx.kept hf fun j q => hd j (.inr q), h.dj, h.bd, h.ak, h.tt⟩
theorem PR.kept {wr w' : World} {O : Nat → Prop} {a c : Nat} {p : Pace.PS} {k : Nat} (h : PR wr O a c p k) {O' : Nat → Prop} (hf : Fr wr w' O') (hd : ∀ j, O j → ¬ O' j) : PR w' O a c p k := by
  obtain ⟨ya, yc, cn, tu, hx, hO⟩ := h
  exact ⟨ya, yc, cn, tu, hx.kept hf fun j q => hd j ((hO j).2 q), hO⟩
theorem PR.lt {wr : World} {O : Nat → Prop} {a c : Nat} {p : Pace.PS} {k : Nat} (h : PR wr O a c p k) : ∀ j, O j → j < wr.heap.size := fun j hj => by
  obtain ⟨ya, yc, cn, tu, hx, hO⟩ := h
  rcases (hO j).1 hj with q | q
  · exact hx.pa.olt j q
  · exact hx.rx.1.lt j q
theorem Bd.up {p : Pace.PS} {c : Cn} {k m : Nat} (h : Bd p c k) (hm : k ≤ m) : Bd p c m := by
  have h1 := h.nw; have h2 := h.tk; have h3 := h.rf; have h4 := h.sn; have h5 := h.dr
  exact ⟨by omega, by omega, by omega, by omega, by omega⟩
theorem PR.up {wr : World} {O : Nat → Prop} {a c : Nat} {p : Pace.PS} {k m : Nat} (h : PR wr O a c p k) (hm : k ≤ m) : PR wr O a c p m := by
  obtain ⟨ya, yc, cn, tu, hx, hO⟩ := h
  have h1 := hx.ak; have h2 := hx.tt
  exact ⟨ya, yc, cn, tu, ⟨hx.pa, hx.rx, hx.dj, hx.bd.up hm, by omega, by omega⟩, hO⟩
/-- What a step leaves. -/
def Dn (wr w3 : World) (O : Nat → Prop) (a c : Nat) (p' : Pace.PS) (k' : Nat) : Prop := ∃ O', PR w3 O' a c p' k' ∧ Fr wr w3 O ∧ ∀ j, j < wr.heap.size → O' j → O j
/-- Between the program's call and the document's. -/
structure MD (wr w1 : World) (a c : Nat) (p p' : Pace.PS) (ya ya' : Lay) (yc : RL) (cn cn' : Cn) (tu : Nat) : Prop where
  pa : PA w1 a ya' p' cn'
  rx : RX w1 c yc p tu cn
  dj : ∀ j, ya'.own j → ¬ yc.own j
  fr : Fr wr w1 ya.own
  ex : ∀ j, j < wr.heap.size → ya'.own j → ya.own j
  lc : ∀ j, yc.own j → j < wr.heap.size
theorem PRx.mid {wr w1 : World} {a c : Nat} {p p' : Pace.PS} {k : Nat} {ya ya' : Lay} {yc : RL} {cn cn' : Cn} {tu : Nat} (h : PRx wr a c p k ya yc cn tu) (o : Obj) (hP : PA w1 a ya' p' cn') (hs : Stp (wr.alloc o) w1 ya ya') : MD wr w1 a c p p' ya ya' yc cn cn' tu := by
  have hsz : (wr.alloc o).heap.size = wr.heap.size + 1 := by simp
  have hlc : ∀ j, yc.own j → j < wr.heap.size := h.rx.1.lt
  have hfa : Fr wr (wr.alloc o) (fun _ => False) := (Fr.refl wr _).alloc o
  refine ⟨hP, (h.rx.kept hfa fun _ _ q => q).kept hs.fr fun j q1 q2 => h.dj j q2 q1, fun j q1 q2 => ?_, (hfa.weak fun _ _ q => q.elim).trans hs.fr fun _ _ q => q, fun j hj q => hs.own (by omega) q, hlc⟩
  exact h.dj j (hs.own (by have := hlc j q2; omega) q1) q2
theorem MD.fin {wr w1 w2 w3 : World} {a c : Nat} {p p' : Pace.PS} {ya ya' : Lay} {yc yc' : RL} {cn cn' : Cn} {tu tu' k : Nat} (h : MD wr w1 a c p p' ya ya' yc cn cn' tu) (hx : RX w2 c yc' p' tu' cn') (hs : StpR w1 w2 yc yc') (hC : Fr w2 w3 (fun _ => False))
    (hb : Bd p' cn' k) (ha : p'.asks.length ≤ k) (ht : tu' + p'.asks.length ≤ 65 * k) {O : Nat → Prop} (hO : ∀ j, O j ↔ (ya.own j ∨ yc.own j)) : Dn wr w3 O a c p' k := by
  have h1 := h.fr.size
  refine ⟨fun j => ya'.own j ∨ yc'.own j, ⟨ya', yc', cn', tu', ⟨(h.pa.kept hs.fr fun j q1 q2 => h.dj j q1 q2).kept hC fun _ _ q => q, hx.kept hC fun _ _ q => q, fun j q1 q2 => ?_, hb, ha, ht⟩, fun j => Iff.rfl⟩, ?_, fun j hj q => ?_⟩
  · exact h.dj j q1 (hs.own (h.pa.olt j q1) q2)
  · exact ((h.fr.weak fun j _ q => (hO j).2 (.inl q)).trans hs.fr fun j _ q => (hO j).2 (.inr q)).trans hC fun _ _ q => q.elim
  · rcases q with q | q
    · exact (hO j).2 (.inl (h.ex j hj q))
    · exact (hO j).2 (.inr (hs.own (by omega) q))
theorem Ch.frF {w w' : World} (h : Ch w w' (fun _ _ => False)) : Fr w w' (fun _ => False) := h.fr2 fun _ _ q => q
/-- A command adds one to what is not admitted, at most. -/
theorem asks_step (o : OpV) (p : Pace.PS) : (stP o p).asks.length ≤ p.asks.length + 1 := by
  unfold stP
  split
  · unfold addP; split
    · simp [Pace.PS.add]
    · omega
  split
  · unfold setP; split
    · simp [Pace.PS.set]
    · omega
  split
  · unfold enqP; split
    · simp [Pace.PS.enq]
    · omega
  split
  · unfold remP; split
    · omega
    · have := List.length_filter_le (fun c : Pace.Cmd => decide (c.flow ≠ (‹Pace.Fl› : Pace.Fl).num)) p.asks
      simp only [Pace.PS.remove]
      omega
  split
  · split
    · simp [Pace.PS.poll]
    · omega
  · omega
end Go.Proofs.YtogdekjklbbbiaaGreatDoor
